/- What threads of tasks are, as plain lists (layer 8). No program is named here. -/
import Derived.Test.YtpopcallphbklaaGreatTaskSpec
namespace Go.Proofs.YtpopcallphbklaaGreat
open Go.ChangeShapes Go.WideShapes Go.ChangeAt Go.RowKit
set_option linter.unusedVariables false
/-- a task: what is left of it, and its value when nothing is -/
abbrev Tsk := List Itm × Int
/-- a thread: the tasks that are not gone past, the current one first, and the values of those that are -/
abbrev Thr := List Tsk × List Int
/-- past tasks that are done -/
def goS : List Tsk → List Int → Thr
  | [], vs => ([], vs)
  | x :: l, vs => if x.1 = [] then goS l (vs ++ [x.2]) else (x :: l, vs)
theorem goS_done {v : Int} {l : List Tsk} {vs : List Int} : goS (([], v) :: l) vs = goS l (vs ++ [v]) := by simp [goS]
theorem goS_live {x : Tsk} {l : List Tsk} {vs : List Int} (h : x.1 ≠ []) : goS (x :: l) vs = (x :: l, vs) := by simp [goS, h]
/-- a thread that has gone past what is done -/
def ThrOk (x : Thr) : Prop := ∀ t ∈ x.1.head?, t.1 ≠ []
theorem goS_ok : ∀ (l : List Tsk) (vs : List Int), ThrOk (goS l vs)
  | [], vs => by simp [goS, ThrOk]
  | x :: l, vs => by
    by_cases h : x.1 = []
    · simp only [goS, h, if_true]; exact goS_ok l _
    · simp [goS, h, ThrOk]
theorem goS_same {x : Thr} (h : ThrOk x) : goS x.1 x.2 = x := by
  obtain ⟨l, vs⟩ := x
  cases l with
  | nil => rfl
  | cons t l => exact goS_live (h t (by simp))
theorem goS_len : ∀ (l : List Tsk) (vs : List Int), (goS l vs).1.length + (goS l vs).2.length = l.length + vs.length ∧ (goS l vs).1.length ≤ l.length
  | [], vs => by simp [goS]
  | x :: l, vs => by
    by_cases h : x.1 = []
    · simp only [goS, h, if_true]
      have := goS_len l (vs ++ [x.2])
      simp at this ⊢; omega
    · simp [goS, h]
/-- may the thread take a step of this kind? -/
def canT (ps : List Bool) (x : Thr) (k : Int) : Bool := match x.1 with | [] => false | t :: _ => canS ps t.1 k
def parkedT (x : Thr) : Bool := match x.1 with | [] => false | t :: _ => parkedS t.1
/-- a step that may be taken: cells, permits, the thread -/
def stepT (m : List Int) (ps : List Bool) (x : Thr) (k : Int) : List Int × List Bool × Thr := match x.1 with
  | [] => (m, ps, x)
  | t :: l => ((stepS m ps t.1 t.2 k).1, (stepS m ps t.1 t.2 k).2.1, goS ((stepS m ps t.1 t.2 k).2.2 :: l) x.2)
def countT (m : List Int) (x : Thr) : Int := match x.1 with | [] => 0 | t :: _ => stepCount m t.1
/-- the thread of that number; one that is not there is done -/
def thrAt (L : List Thr) (t : Int) : Thr := if 0 ≤ t then L.getD t.toNat ([], []) else ([], [])
theorem thrAt_yes {L : List Thr} {i : Nat} {x : Thr} (h : L[i]? = some x) : thrAt L (i : Int) = x := by
  have : ¬ (i : Int) < 0 := by omega
  simp [thrAt, List.getD_eq_getElem?_getD, h]
theorem thrAt_no {L : List Thr} {t : Int} (h : t < 0 ∨ (L.length : Int) ≤ t) : thrAt L t = ([], []) := by
  unfold thrAt
  split
  · rw [List.getD_eq_getElem?_getD, List.getElem?_eq_none (by omega)]; rfl
  · rfl
end Go.Proofs.YtpopcallphbklaaGreat
