/- What tasks of items are, as plain lists and numbers (layer 6). No program is named here. -/
import Derived.Test.YtpejmkoheodblaaGreatKeep
namespace Go.Proofs.YtpejmkoheodblaaGreat
open Go.ChangeShapes Go.WideShapes Go.ChangeAt Go.RowKit
set_option linter.unusedVariables false
/-- an item: 0 to 7: Load, Store, Swap, Add, Spin, Park, Timed, Ready -/
structure Itm where
  kind : Nat
  at' : Nat
  a : Int
  b : Int
/-- items as laws draw them -/
structure Itm.ok (x : Itm) : Prop where
  kind : x.kind < 8
  at' : x.at' ≤ 9223372036854775807
  park : x.kind = 5 ∨ x.kind = 6 → x.at' < 3
  a : 0 ≤ x.a ∧ x.a ≤ 18446744073709551615
  b : 0 ≤ x.b ∧ x.b ≤ 18446744073709551615
  ready : x.kind = 7 → x.a ≤ 9223372036854775807
/-- past values -/
def onS : List Itm → Int → List Itm × Int
  | [], v => ([], v)
  | x :: r, v => if x.kind = 7 then onS r x.a else (x :: r, v)
theorem onS_nil (v : Int) : onS [] v = ([], v) := rfl
theorem onS_ready {x : Itm} (h : x.kind = 7) (r : List Itm) (v : Int) : onS (x :: r) v = onS r x.a := by simp [onS, h]
theorem onS_other {x : Itm} (h : x.kind ≠ 7) (r : List Itm) (v : Int) : onS (x :: r) v = (x :: r, v) := by simp [onS, h]
/-- the head of what is left needs a step -/
def Fresh (r : List Itm) : Prop := ∀ x ∈ r.head?, x.kind ≠ 7
theorem onS_fresh : ∀ (r : List Itm) (v : Int), Fresh (onS r v).1
  | [], v => by simp [onS, Fresh]
  | x :: r, v => by
    by_cases h : x.kind = 7
    · rw [onS_ready h]; exact onS_fresh r x.a
    · rw [onS_other h]; simpa [Fresh] using h
theorem onS_same {r : List Itm} (h : Fresh r) (v : Int) : onS r v = (r, v) := by
  cases r with
  | nil => rfl
  | cons x r => exact onS_other (h x (by simp)) r v
theorem onS_suffix : ∀ (r : List Itm) (v : Int), (onS r v).1 <:+ r
  | [], v => List.suffix_refl _
  | x :: r, v => by
    by_cases h : x.kind = 7
    · rw [onS_ready h]; exact (onS_suffix r x.a).trans (List.suffix_cons x r)
    · rw [onS_other h]; exact List.suffix_refl _
/-- the operation of an item on cells: the cells behind it, its value, whether it is over, whether it counts -/
def operS (m : List Int) (x : Itm) : List Int × Int × Bool :=
  match m[x.at']? with
  | none => (m, 0, x.kind != 4)
  | some c =>
    if x.kind = 1 then (m.set x.at' x.a, 1, true)
    else if x.kind = 2 ∨ x.kind = 4 then (if c = x.a then (m.set x.at' x.b, 1, true) else (m, 0, x.kind == 2))
    else if x.kind = 3 then (m.set x.at' (IntKind.u64.wrap (c + x.a)), wrap64 (IntKind.u64.wrap (c + x.a)), true)
    else (m, wrap64 c, true)
def countS (m : List Int) (x : Itm) : Int := if x.at' < m.length then 1 else 0
def parkedS (r : List Itm) : Bool := match r with | [] => false | x :: _ => x.kind == 5 || x.kind == 6
/-- would a step of this kind be done? -/
def canS (ps : List Bool) (r : List Itm) (k : Int) : Bool :=
  match r with
  | [] => false
  | x :: _ =>
    if x.kind = 5 ∨ x.kind = 6 then
      (if k = 0 then ps.getD x.at' false else if k = 1 then x.kind == 6 else k == 2)
    else k == 0
theorem operS_size (m : List Int) (x : Itm) : (operS m x).1.length = m.length := by
  unfold operS
  split
  · rfl
  · repeat' split
    all_goals simp
/-- a step that may be done: cells, permits, what is left, the value -/
def stepS (m : List Int) (ps : List Bool) (r : List Itm) (v k : Int) : List Int × List Bool × List Itm × Int :=
  match r with
  | [] => (m, ps, [], v)
  | x :: r =>
    if x.kind = 5 ∨ x.kind = 6 then
      (m, (if k = 0 then ps.set x.at' false else ps), onS r k)
    else
      let o := operS m x
      if o.2.2 then (o.1, ps, onS r o.2.1) else (o.1, ps, x :: r, v)
/-- how many operations a step counts -/
def stepCount (m : List Int) (r : List Itm) : Int := match r with
  | [] => 0
  | x :: _ => if x.kind = 5 ∨ x.kind = 6 then 0 else countS m x
/-- a run without parkings: the cells and the value behind it -/
def runS : List Int → List Itm → Int → List Int × Int
  | m, [], v => (m, v)
  | m, x :: r, v => if x.kind = 7 then runS m r x.a else runS (operS m x).1 r (operS m x).2.1
/-- how many operations there are -/
def opsS (r : List Itm) : Nat := (r.filter fun x => x.kind != 7).length
/-- neither parks nor spins, and its cell is there -/
def Plain6 (x : Itm) : Prop := x.kind ≠ 4 ∧ x.kind ≠ 5 ∧ x.kind ≠ 6 ∧ x.at' < 4
theorem runS_on : ∀ (r : List Itm) (m : List Int) (v : Int), runS m (onS r v).1 (onS r v).2 = runS m r v ∧ opsS (onS r v).1 = opsS r
  | [], m, v => ⟨rfl, rfl⟩
  | x :: r, m, v => by
    by_cases h : x.kind = 7
    · rw [onS_ready h]
      have := runS_on r m x.a
      exact ⟨by rw [this.1]; simp [runS, h], by rw [this.2]; simp [opsS, h]⟩
    · rw [onS_other h]
      exact ⟨rfl, rfl⟩
theorem operS_over {m : List Int} {x : Itm} (h : Plain6 x) (hm : m.length = 4) : (operS m x).2.2 = true := by
  obtain ⟨h4, h5, h6, ha⟩ := h
  have hx : m[x.at']? = some (m[x.at']'(by omega)) := by simp
  unfold operS
  rw [hx]
  dsimp only
  split
  · rfl
  · split
    · split
      · rfl
      · have : x.kind = 2 := by omega
        simp [this]
    · split <;> rfl
/-- a step of such a task -/
theorem stepS_plain {m : List Int} {ps : List Bool} {x : Itm} {r : List Itm} {v : Int} (h : Plain6 x) (hm : m.length = 4) (h7 : x.kind ≠ 7) :
    canS ps (x :: r) 0 = true ∧ parkedS (x :: r) = false ∧ stepS m ps (x :: r) v 0 = ((operS m x).1, ps, onS r (operS m x).2.1) ∧ stepCount m (x :: r) = 1 ∧ runS m (x :: r) v = runS (operS m x).1 r (operS m x).2.1 ∧ opsS (x :: r) = opsS r + 1 := by
  have ho := operS_over h hm
  obtain ⟨h4, h5, h6, ha⟩ := h
  refine ⟨by simp [canS, h5, h6], by simp [parkedS, h5, h6], by simp [stepS, h5, h6, ho], by simp [stepCount, h5, h6, countS]; omega, by simp [runS, h7], by simp [opsS, h7]⟩
/-- the value that is told -/
def valueS (r : List Itm) (v : Int) : Int := if r.isEmpty then v else 0
end Go.Proofs.YtpejmkoheodblaaGreat
