/- What tasks may yet do, as trees: functions from the answers so far to what is next. No program is named here. -/
import Derived.Test.YtpejmkoheodblaaGreatTaskSpec
namespace Go.Proofs.YtpejmkoheodblaaGreat
set_option linter.unusedVariables false
/-- done, with a value; or ahead of an operation -/
inductive Nd (A : Type)
  | ret (v : Int)
  | op (x : A)
abbrev Tre (A : Type) := List Int → Nd A
def retT {A : Type} (v : Int) : Tre A := fun _ => .ret v
def opT {A : Type} (x : A) (k : Int → Tre A) : Tre A := fun p => match p with
  | [] => .op x
  | v :: p => k v p
def bindP {A : Type} (k : Int → Tre A) : List Int → Tre A → Nd A
  | [], T => match T [] with
    | .ret v => k v []
    | .op x => .op x
  | v :: p, T => match T [] with
    | .ret u => k u (v :: p)
    | .op _ => bindP k p (fun q => T (v :: q))
/-- one behind the other -/
def bindT {A : Type} (k : Int → Tre A) (T : Tre A) : Tre A := fun p => bindP k p T
theorem bindT_ret {A : Type} (k : Int → Tre A) (v : Int) : bindT k (retT v) = k v := by
  funext p
  cases p <;> simp [bindT, bindP, retT]
theorem bindT_op {A : Type} (k : Int → Tre A) (x : A) (g : Int → Tre A) : bindT k (opT x g) = opT x (fun v => bindT k (g v)) := by
  funext p
  cases p <;> simp [bindT, bindP, opT]
theorem retT_inj {A : Type} {u v : Int} (h : (retT u : Tre A) = retT v) : u = v := by
  have := congrFun h []
  simpa [retT] using this
theorem opT_inj {A : Type} {x y : A} {g h : Int → Tre A} (e : opT x g = opT y h) : x = y ∧ g = h := by
  refine ⟨by simpa [opT] using congrFun e [], ?_⟩
  funext v p
  simpa [opT] using congrFun e (v :: p)
theorem ret_op {A : Type} {v : Int} {x : A} {g : Int → Tre A} (e : retT v = opT x g) : False := by
  have := congrFun e []
  simp [retT, opT] at this
theorem bindT_assoc {A : Type} (h k : Int → Tre A) (T : Tre A) : bindT h (bindT k T) = bindT (fun v => bindT h (k v)) T := by
  funext p
  induction p generalizing T with
  | nil =>
    cases e : T [] with
    | ret v => simp [bindT, bindP, e]
    | op x => simp [bindT, bindP, e]
  | cons u p ih =>
    have ih' := ih (fun q => T (u :: q))
    cases e : T [] with
    | ret v =>
      simp only [bindT, bindP, e]
    | op x =>
      simp only [bindT, bindP, e] at ih' ⊢
      exact ih'
/-- tries again and again -/
def spinP (x : Itm) : List Int → Nd Itm
  | [] => .op x
  | v :: p => if v = 0 ∨ v = -2147483648 then spinP x p else .ret v
def spinT (x : Itm) : Tre Itm := fun p => spinP x p
theorem spinT_eq (x : Itm) : spinT x = opT x (fun v => if v = 0 ∨ v = -2147483648 then spinT x else retT v) := by
  funext p
  cases p with
  | nil => rfl
  | cons v p =>
    simp only [spinT, spinP, opT]
    split <;> rfl
theorem spin_end (x : Itm) : bindT retT (spinT x) = spinT x := by
  funext p
  have key : ∀ q, bindP retT q (spinT x) = spinT x q := by
    intro q
    induction q with
    | nil => rfl
    | cons v q ih =>
      simp only [bindP, spinT, spinP]
      by_cases h : v = 0 ∨ v = -2147483648
      · simp only [h, if_true]
        exact ih
      · simp only [h, if_false]
        cases q <;> simp [bindP, retT]
  exact key p
def loopK (x : Itm) (v : Int) : Tre Itm := if v = -2147483648 then spinT x else retT v
def spinK (v : Int) : Tre Itm := if v = 0 then retT (-2147483648) else retT v
theorem spinT_eq2 (x : Itm) : spinT x = opT x (fun v => bindT (loopK x) (spinK v)) := by
  rw [spinT_eq]
  congr 1
  funext v
  unfold spinK
  by_cases h : v = 0
  · rw [if_pos (.inl h), if_pos h, bindT_ret]
    simp [loopK]
  · rw [if_neg h, bindT_ret]
    unfold loopK
    by_cases h2 : v = -2147483648
    · rw [if_pos (.inr h2), if_pos h2]
    · rw [if_neg (fun hh => hh.elim h h2), if_neg h2]
/-- the items of a list, one behind the other -/
def itmT : List Itm → Int → Tre Itm
  | [], v => retT v
  | x :: r, v => if x.kind = 7 then itmT r x.a else if x.kind = 4 then bindT (itmT r) (spinT x) else opT x (itmT r)
theorem itmT_append : ∀ (s r : List Itm) (v : Int), itmT (s ++ r) v = bindT (itmT r) (itmT s v)
  | [], r, v => by simp only [List.nil_append, itmT, bindT_ret]
  | x :: s, r, v => by
    simp only [List.cons_append, itmT]
    split
    · exact itmT_append s r x.a
    · split
      · rw [bindT_assoc]
        congr 1
        funext u
        exact itmT_append s r u
      · rw [bindT_op]
        congr 1
        funext u
        exact itmT_append s r u
theorem itmT_on : ∀ (r : List Itm) (v : Int), itmT (onS r v).1 (onS r v).2 = itmT r v
  | [], v => rfl
  | x :: r, v => by
    by_cases h : x.kind = 7
    · rw [onS_ready h, itmT_on r x.a]
      simp [itmT, h]
    · rw [onS_other h]
end Go.Proofs.YtpejmkoheodblaaGreat
