/- Reckoning with picks: what closed texts are. No program is named here. -/
import Derived.Test.YtkmadabpfialbaaGreatDoorScFields
import Derived.Test.YtkmadabpfialbaaGreatDoorScFairSpec
import Derived.Lib.Join
namespace Go.Proofs.YtkmadabpfialbaaGreatDoor
open Go
set_option linter.unusedVariables false
set_option linter.unusedSimpArgs false
/-- a list is printed as the words that are its picks' -/
theorem words_of : ∀ (ws : List (List UInt8)) (l : List Pk), ws.map wordP = l.map some → l.map wordB = ws
  | [], [], _ => rfl
  | [], p :: l, h => by simp at h
  | w :: ws, [], h => by simp at h
  | w :: ws, p :: l, h => by
    simp only [List.map_cons, List.cons.injEq] at h
    rw [List.map_cons, words_of ws l h.2, ← (wordP_ok h.1).2]
theorem join_words (ws : List (List UInt8)) (l : List Pk) (h : ws.map wordP = l.map some) : Lib.join (l.map wordB) [32] = Lib.join ws [32] := by rw [words_of ws l h]
def fairB (l : List Pk) (t k : Nat) : Bool := (List.range (l.length + 1 - k)).all fun a => (List.range t).all fun u => ((l.drop a).take k).contains ((u : Int), (0 : Int))
theorem mem_win (l : List Pk) (a k : Nat) (u : Int) : (u, (0 : Int)) ∈ (l.drop a).take k ↔ HasStep l a k u := by
  constructor
  · intro h
    obtain ⟨i, hi⟩ := List.getElem?_of_mem h
    rw [List.getElem?_take] at hi
    split at hi
    · rw [List.getElem?_drop] at hi
      exact ⟨a + i, by omega, by omega, hi⟩
    · cases hi
  · rintro ⟨i, h1, h2, h3⟩
    apply List.mem_of_getElem? (i := i - a)
    rw [List.getElem?_take, if_pos (by omega), List.getElem?_drop, show a + (i - a) = i by omega, h3]
theorem fairB_iff (l : List Pk) (t k : Nat) (ht : 1 ≤ t) (hk : 1 ≤ k) : fairB l t k = true ↔ FairP l t k := by
  unfold fairB FairP
  rw [List.all_eq_true]
  constructor
  · intro h
    refine ⟨by omega, by omega, fun a ha u u0 u1 => ?_⟩
    rw [Int.toNat_natCast] at ha ⊢
    have h1 := h a (List.mem_range.2 (by omega))
    rw [List.all_eq_true] at h1
    obtain ⟨n, rfl⟩ := Int.eq_ofNat_of_zero_le u0
    have h2 := h1 n (List.mem_range.2 (by omega))
    exact (mem_win l a k n).1 (List.contains_iff_mem.1 h2)
  · rintro ⟨_, _, h⟩ a ha
    rw [List.all_eq_true]
    intro u hu
    have h1 := h a (by rw [Int.toNat_natCast]; have := List.mem_range.1 ha; omega) u (by omega) (by have := List.mem_range.1 hu; omega)
    rw [Int.toNat_natCast] at h1
    exact List.contains_iff_mem.2 ((mem_win l a k u).2 h1)
end Go.Proofs.YtkmadabpfialbaaGreatDoor
