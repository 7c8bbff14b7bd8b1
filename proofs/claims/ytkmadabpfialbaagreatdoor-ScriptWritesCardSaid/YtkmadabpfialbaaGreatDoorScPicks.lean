/- Slices of picks, as a call reads them, and as it makes them. -/
import Derived.Test.YtkmadabpfialbaaGreatDoorProg
import Derived.Test.YtkmadabpfialbaaGreatDoorKeep
import Derived.Test.YtkmadabpfialbaaGreatDoorScFields
import Derived.Laws.MakeOwn
import Derived.Laws.OwnMore
import Derived.Maps.AppendAt
import Derived.Lib.Hide
namespace Go.Proofs.YtkmadabpfialbaaGreatDoor
open Go.ChangeShapes Go.WideShapes Go.ChangeAt Go.RowKit
set_option linter.unusedVariables false
set_option linter.unusedSimpArgs false
abbrev pkV (p : Pk) : Value := .agg #[.int .i64 p.1, .int .i64 p.2]
def pkCells (l : List Pk) : List Value := l.flatMap fun p => [Value.int .i64 p.1, Value.int .i64 p.2]
theorem pkCells_len (l : List Pk) : (pkCells l).length = l.length * 2 := by
  induction l with
  | nil => rfl
  | cons p t ih => simp [pkCells, List.flatMap_cons] at ih ⊢; omega
theorem pkCells_snoc (l : List Pk) (p : Pk) : pkCells (l ++ [p]) = pkCells l ++ [Value.int .i64 p.1, Value.int .i64 p.2] := by simp [pkCells]
theorem pkCells_at : ∀ (l : List Pk) (i : Nat) (p : Pk), l[i]? = some p → (pkCells l)[i * 2]? = some (Value.int .i64 p.1) ∧ (pkCells l)[i * 2 + 1]? = some (Value.int .i64 p.2)
  | [], i, p, h => by simp at h
  | q :: t, 0, p, h => by
    simp at h; subst h
    simp [pkCells]
  | q :: t, i + 1, p, h => by
    have ih := pkCells_at t i p (by simpa using h)
    have e : pkCells (q :: t) = Value.int .i64 q.1 :: Value.int .i64 q.2 :: pkCells t := by simp [pkCells]
    rw [e, show (i + 1) * 2 = i * 2 + 1 + 1 by omega, show i * 2 + 1 + 1 + 1 = (i * 2 + 1) + 1 + 1 by omega]
    simpa using ih
/-- v is a slice that reads as l; its cells lie below block n -/
def PicksAt (w : World) (n : Nat) (v : Value) (l : List Pk) : Prop :=
  ∃ a c, v = .slice a l.length c ∧ l.length ≤ c ∧ ∀ (i : Nat) (p : Pk), l[i]? = some p → ∃ b o, a = some ⟨b, o, none⟩ ∧ b < n ∧ b < w.heap.size ∧ w.cell? ⟨b, o + i * 2, none⟩ = some (.int .i64 p.1) ∧ w.cell? ⟨b, o + (i * 2 + 1), none⟩ = some (.int .i64 p.2)
theorem PicksAt.keep {w w' : World} {n : Nat} {v : Value} {l : List Pk} {Q : Nat → Prop} (h : PicksAt w n v l) (hk : Keep Q w w') (hq : ∀ i, i < n → ¬ Q i) : PicksAt w' n v l := by
  obtain ⟨a, c, rfl, hc, hp⟩ := h
  refine ⟨a, c, rfl, hc, fun i p hi => ?_⟩
  obtain ⟨b, o, e, hb, hbs, c1, c2⟩ := hp i p hi
  refine ⟨b, o, e, hb, Nat.lt_of_lt_of_le hbs hk.size, ?_, ?_⟩
  · unfold World.cell? at c1 ⊢; rw [hk.block b hbs (hq b hb)]; exact c1
  · unfold World.cell? at c2 ⊢; rw [hk.block b hbs (hq b hb)]; exact c2
theorem PicksAt.below {w w' : World} {n : Nat} {v : Value} {l : List Pk} (h : PicksAt w n v l) (hb : Below n w w') : PicksAt w' n v l := by
  obtain ⟨a, c, rfl, hc, hp⟩ := h
  refine ⟨a, c, rfl, hc, fun i p hi => ?_⟩
  obtain ⟨b, o, e, hbn, hbs, c1, c2⟩ := hp i p hi
  refine ⟨b, o, e, hbn, Nat.lt_of_lt_of_le hbs hb.size, ?_, ?_⟩
  · unfold World.cell? at c1 ⊢; rw [hb.block b hbn]; exact c1
  · unfold World.cell? at c2 ⊢; rw [hb.block b hbn]; exact c2
theorem PicksAt.mono {w : World} {n m : Nat} {v : Value} {l : List Pk} (h : PicksAt w n v l) (hm : n ≤ m) : PicksAt w m v l := by
  obtain ⟨a, c, rfl, hc, hp⟩ := h
  refine ⟨a, c, rfl, hc, fun i p hi => ?_⟩
  obtain ⟨b, o, e, hbn, hr⟩ := hp i p hi
  exact ⟨b, o, e, by omega, hr⟩
theorem picksAt_nil (w : World) (n : Nat) : PicksAt w n (.slice none 0 0) [] := ⟨none, 0, rfl, by simp, fun i p h => by simp at h⟩
theorem PicksAt.own {w : World} {B : Nat} {v : Value} {l : List Pk} (h : w.ownsRow B 46 2 v l.length (pkCells l)) : PicksAt w w.heap.size v l := by
  rcases h.2 with ⟨rfl, h0⟩ | ⟨g, cap, cur, rfl, hb, hh, hnc, hcm, _⟩
  · have : l = [] := List.eq_nil_of_length_eq_zero h0
    subst this
    exact picksAt_nil w _
  · refine ⟨some ⟨g, 0, none⟩, cap, rfl, hnc, fun i p hi => ⟨g, 0, rfl, (Array.getElem?_eq_some_iff.1 hh).1, (Array.getElem?_eq_some_iff.1 hh).1, ?_, ?_⟩⟩
    · have := h.cells (g := g) rfl (i * 2) _ (pkCells_at l i p hi).1
      rwa [Lib.add_plain] at this
    · have := h.cells (g := g) rfl (i * 2 + 1) _ (pkCells_at l i p hi).2
      rwa [Lib.add_plain] at this
/-- a part of a slice -/
theorem PicksAt.part {w : World} {n len c : Nat} {a : Option Addr} {l : List Pk} (h : PicksAt w n (.slice a len c) l) (k : Nat) (hk : k ≤ l.length) : PicksAt w n (.slice a k c) (l.take k) := by
  obtain ⟨a', c', e, hc, hp⟩ := h
  simp at e
  obtain ⟨rfl, rfl, rfl⟩ := e
  refine ⟨a, c, by rw [List.length_take, Nat.min_eq_left hk], by rw [List.length_take]; omega, fun i p hi => ?_⟩
  rw [List.getElem?_take] at hi
  split at hi
  · exact hp i p hi
  · cases hi
end Go.Proofs.YtkmadabpfialbaaGreatDoor
