/- What tasks of items are, as plain lists and numbers (layer 6). No program is named here. -/
import Derived.Test.YtmknnjjmmfbppaaGreatMgBegAA
namespace Go.Proofs.YtmknnjjmmfbppaaGreat
open Go.ChangeShapes Go.WideShapes Go.ChangeAt Go.RowKit
set_option linter.unusedVariables false
/-- an item: 0 to 7: Load, Store, Swap, Add, Spin, Park, Timed, Ready -/
structure Itm where
  kind : Nat
  at' : Nat
  a : Int
  b : Int
/-- items as laws draw them -/
structure Itm.ok (x : Itm) : Prop where
  kind : x.kind < 8
  at' : x.at' ≤ 9223372036854775807
  park : x.kind = 5 ∨ x.kind = 6 → x.at' < 3
  a : 0 ≤ x.a ∧ x.a ≤ 18446744073709551615
  b : 0 ≤ x.b ∧ x.b ≤ 18446744073709551615
  ready : x.kind = 7 → x.a ≤ 9223372036854775807
/-- past values -/
def onS : List Itm → Int → List Itm × Int
  | [], v => ([], v)
  | x :: r, v => if x.kind = 7 then onS r x.a else (x :: r, v)
theorem onS_nil (v : Int) : onS [] v = ([], v) := rfl
theorem onS_ready {x : Itm} (h : x.kind = 7) (r : List Itm) (v : Int) : onS (x :: r) v = onS r x.a := by simp [onS, h]
theorem onS_other {x : Itm} (h : x.kind ≠ 7) (r : List Itm) (v : Int) : onS (x :: r) v = (x :: r, v) := by simp [onS, h]
/-- the head of what is left needs a step -/
def Fresh (r : List Itm) : Prop := ∀ x ∈ r.head?, x.kind ≠ 7
theorem onS_fresh : ∀ (r : List Itm) (v : Int), Fresh (onS r v).1
  | [], v => by simp [onS, Fresh]
  | x :: r, v => by
    by_cases h : x.kind = 7
    · rw [onS_ready h]; exact onS_fresh r x.a
    · rw [onS_other h]; simpa [Fresh] using h
theorem onS_same {r : List Itm} (h : Fresh r) (v : Int) : onS r v = (r, v) := by
  cases r with
  | nil => rfl
  | cons x r => exact onS_other (h x (by simp)) r v
theorem onS_suffix : ∀ (r : List Itm) (v : Int), (onS r v).1 <:+ r
  | [], v => List.suffix_refl _
  | x :: r, v => by
    by_cases h : x.kind = 7
    · rw [onS_ready h]; exact (onS_suffix r x.a).trans (List.suffix_cons x r)
    · rw [onS_other h]; exact List.suffix_refl _
/-- the operation of an item on cells: the cells behind it, its value, whether it is over, whether it counts -/
def operS (m : List Int) (x : Itm) : List Int × Int × Bool :=
  match m[x.at']? with
  | none => (m, 0, x.kind != 4)
  | some c =>
    if x.kind = 1 then (m.set x.at' x.a, 1, true)
    else if x.kind = 2 ∨ x.kind = 4 then (if c = x.a then (m.set x.at' x.b, 1, true) else (m, 0, x.kind == 2))
    else if x.kind = 3 then (m.set x.at' (IntKind.u64.wrap (c + x.a)), wrap64 (IntKind.u64.wrap (c + x.a)), true)
    else (m, wrap64 c, true)
def countS (m : List Int) (x : Itm) : Int := if x.at' < m.length then 1 else 0
def parkedS (r : List Itm) : Bool := match r with | [] => false | x :: _ => x.kind == 5 || x.kind == 6
/-- would a step of this kind be done? -/
def canS (ps : List Bool) (r : List Itm) (k : Int) : Bool :=
  match r with
  | [] => false
  | x :: _ =>
    if x.kind = 5 ∨ x.kind = 6 then
      (if k = 0 then ps.getD x.at' false else if k = 1 then x.kind == 6 else k == 2)
    else k == 0
theorem operS_size (m : List Int) (x : Itm) : (operS m x).1.length = m.length := by
  unfold operS
  split
  · rfl
  · repeat' split
    all_goals simp
/-- a step that may be done: cells, permits, what is left, the value -/
def stepS (m : List Int) (ps : List Bool) (r : List Itm) (v k : Int) : List Int × List Bool × List Itm × Int :=
  match r with
  | [] => (m, ps, [], v)
  | x :: r =>
    if x.kind = 5 ∨ x.kind = 6 then
      (m, (if k = 0 then ps.set x.at' false else ps), onS r k)
    else
      let o := operS m x
      if o.2.2 then (o.1, ps, onS r o.2.1) else (o.1, ps, x :: r, v)
/-- how many operations a step counts -/
def stepCount (m : List Int) (r : List Itm) : Int := match r with
  | [] => 0
  | x :: _ => if x.kind = 5 ∨ x.kind = 6 then 0 else countS m x
/-- a run without parkings: the cells and the value behind it -/
def runS : List Int → List Itm → Int → List Int × Int
  | m, [], v => (m, v)
  | m, x :: r, v => if x.kind = 7 then runS m r x.a else runS (operS m x).1 r (operS m x).2.1
/-- how many operations there are -/
def opsS (r : List Itm) : Nat := (r.filter fun x => x.kind != 7).length
/-- neither parks nor spins, and its cell is there -/
def Plain6 (x : Itm) : Prop := x.kind ≠ 4 ∧ x.kind ≠ 5 ∧ x.kind ≠ 6 ∧ x.at' < 4
theorem runS_on : ∀ (r : List Itm) (m : List Int) (v : Int), runS m (onS r v).1 (onS r v).2 = runS m r v ∧ opsS (onS r v).1 = opsS r
  | [], m, v => ⟨rfl, rfl⟩
  | x :: r, m, v => by
    by_cases h : x.kind = 7
    · rw [onS_ready h]
      have := runS_on r m x.a
      exact ⟨by rw [this.1]; simp [runS, h], by rw [this.2]; simp [opsS, h]⟩
    · rw [onS_other h]
      exact ⟨rfl, rfl⟩
theorem operS_over {m : List Int} {x : Itm} (h : Plain6 x) (hm : m.length = 4) : (operS m x).2.2 = true := by
  obtain ⟨h4, h5, h6, ha⟩ := h
  have hx : m[x.at']? = some (m[x.at']'(by omega)) := by simp
  unfold operS
  rw [hx]
  dsimp only
  split
  · rfl
  · split
    · split
      · rfl
      · have : x.kind = 2 := by omega
        simp [this]
    · split <;> rfl
/-- a step of such a task -/
theorem stepS_plain {m : List Int} {ps : List Bool} {x : Itm} {r : List Itm} {v : Int} (h : Plain6 x) (hm : m.length = 4) (h7 : x.kind ≠ 7) :
    canS ps (x :: r) 0 = true ∧ parkedS (x :: r) = false ∧ stepS m ps (x :: r) v 0 = ((operS m x).1, ps, onS r (operS m x).2.1) ∧ stepCount m (x :: r) = 1 ∧ runS m (x :: r) v = runS (operS m x).1 r (operS m x).2.1 ∧ opsS (x :: r) = opsS r + 1 := by
  have ho := operS_over h hm
  obtain ⟨h4, h5, h6, ha⟩ := h
  refine ⟨by simp [canS, h5, h6], by simp [parkedS, h5, h6], by simp [stepS, h5, h6, ho], by simp [stepCount, h5, h6, countS]; omega, by simp [runS, h7], by simp [opsS, h7]⟩
/-- the value that is told -/
def valueS (r : List Itm) (v : Int) : Int := if r.isEmpty then v else 0
end Go.Proofs.YtmknnjjmmfbppaaGreat
/- What tasks may yet do, as trees: functions from the answers so far to what is next. No program is named here. -/
namespace Go.Proofs.YtmknnjjmmfbppaaGreat
set_option linter.unusedVariables false
/-- done, with a value; or ahead of an operation -/
inductive Nd (A : Type)
  | ret (v : Int)
  | op (x : A)
abbrev Tre (A : Type) := List Int → Nd A
def retT {A : Type} (v : Int) : Tre A := fun _ => .ret v
def opT {A : Type} (x : A) (k : Int → Tre A) : Tre A := fun p => match p with
  | [] => .op x
  | v :: p => k v p
def bindP {A : Type} (k : Int → Tre A) : List Int → Tre A → Nd A
  | [], T => match T [] with
    | .ret v => k v []
    | .op x => .op x
  | v :: p, T => match T [] with
    | .ret u => k u (v :: p)
    | .op _ => bindP k p (fun q => T (v :: q))
/-- one behind the other -/
def bindT {A : Type} (k : Int → Tre A) (T : Tre A) : Tre A := fun p => bindP k p T
theorem bindT_ret {A : Type} (k : Int → Tre A) (v : Int) : bindT k (retT v) = k v := by
  funext p
  cases p <;> simp [bindT, bindP, retT]
theorem bindT_op {A : Type} (k : Int → Tre A) (x : A) (g : Int → Tre A) : bindT k (opT x g) = opT x (fun v => bindT k (g v)) := by
  funext p
  cases p <;> simp [bindT, bindP, opT]
theorem retT_inj {A : Type} {u v : Int} (h : (retT u : Tre A) = retT v) : u = v := by
  have := congrFun h []
  simpa [retT] using this
theorem opT_inj {A : Type} {x y : A} {g h : Int → Tre A} (e : opT x g = opT y h) : x = y ∧ g = h := by
  refine ⟨by simpa [opT] using congrFun e [], ?_⟩
  funext v p
  simpa [opT] using congrFun e (v :: p)
theorem ret_op {A : Type} {v : Int} {x : A} {g : Int → Tre A} (e : retT v = opT x g) : False := by
  have := congrFun e []
  simp [retT, opT] at this
theorem bindT_assoc {A : Type} (h k : Int → Tre A) (T : Tre A) : bindT h (bindT k T) = bindT (fun v => bindT h (k v)) T := by
  funext p
  induction p generalizing T with
  | nil =>
    cases e : T [] with
    | ret v => simp [bindT, bindP, e]
    | op x => simp [bindT, bindP, e]
  | cons u p ih =>
    have ih' := ih (fun q => T (u :: q))
    cases e : T [] with
    | ret v =>
      simp only [bindT, bindP, e]
    | op x =>
      simp only [bindT, bindP, e] at ih' ⊢
      exact ih'
/-- tries again and again -/
def spinP (x : Itm) : List Int → Nd Itm
  | [] => .op x
  | v :: p => if v = 0 ∨ v = -2147483648 then spinP x p else .ret v
def spinT (x : Itm) : Tre Itm := fun p => spinP x p
theorem spinT_eq (x : Itm) : spinT x = opT x (fun v => if v = 0 ∨ v = -2147483648 then spinT x else retT v) := by
  funext p
  cases p with
  | nil => rfl
  | cons v p =>
    simp only [spinT, spinP, opT]
    split <;> rfl
theorem spin_end (x : Itm) : bindT retT (spinT x) = spinT x := by
  funext p
  have key : ∀ q, bindP retT q (spinT x) = spinT x q := by
    intro q
    induction q with
    | nil => rfl
    | cons v q ih =>
      simp only [bindP, spinT, spinP]
      by_cases h : v = 0 ∨ v = -2147483648
      · simp only [h, if_true]
        exact ih
      · simp only [h, if_false]
        cases q <;> simp [bindP, retT]
  exact key p
def loopK (x : Itm) (v : Int) : Tre Itm := if v = -2147483648 then spinT x else retT v
def spinK (v : Int) : Tre Itm := if v = 0 then retT (-2147483648) else retT v
theorem spinT_eq2 (x : Itm) : spinT x = opT x (fun v => bindT (loopK x) (spinK v)) := by
  rw [spinT_eq]
  congr 1
  funext v
  unfold spinK
  by_cases h : v = 0
  · rw [if_pos (.inl h), if_pos h, bindT_ret]
    simp [loopK]
  · rw [if_neg h, bindT_ret]
    unfold loopK
    by_cases h2 : v = -2147483648
    · rw [if_pos (.inr h2), if_pos h2]
    · rw [if_neg (fun hh => hh.elim h h2), if_neg h2]
/-- the items of a list, one behind the other -/
def itmT : List Itm → Int → Tre Itm
  | [], v => retT v
  | x :: r, v => if x.kind = 7 then itmT r x.a else if x.kind = 4 then bindT (itmT r) (spinT x) else opT x (itmT r)
theorem itmT_append : ∀ (s r : List Itm) (v : Int), itmT (s ++ r) v = bindT (itmT r) (itmT s v)
  | [], r, v => by simp only [List.nil_append, itmT, bindT_ret]
  | x :: s, r, v => by
    simp only [List.cons_append, itmT]
    split
    · exact itmT_append s r x.a
    · split
      · rw [bindT_assoc]
        congr 1
        funext u
        exact itmT_append s r u
      · rw [bindT_op]
        congr 1
        funext u
        exact itmT_append s r u
theorem itmT_on : ∀ (r : List Itm) (v : Int), itmT (onS r v).1 (onS r v).2 = itmT r v
  | [], v => rfl
  | x :: r, v => by
    by_cases h : x.kind = 7
    · rw [onS_ready h, itmT_on r x.a]
      simp [itmT, h]
    · rw [onS_other h]
end Go.Proofs.YtmknnjjmmfbppaaGreat
