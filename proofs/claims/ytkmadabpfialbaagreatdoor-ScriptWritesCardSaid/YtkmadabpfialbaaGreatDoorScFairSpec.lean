/- Layer 7's pure side: when a list of picks is fair. No program is named here. -/
import Derived.Test.YtkmadabpfialbaaGreatDoorScWord
namespace Go.Proofs.YtkmadabpfialbaaGreatDoor
open Go
set_option linter.unusedVariables false
set_option linter.unusedSimpArgs false
/-- the window of k picks from there on has a step of u -/
def HasStep (l : List Pk) (a k : Nat) (u : Int) : Prop := ∃ i, a ≤ i ∧ i < a + k ∧ l[i]? = some (u, 0)
def WinOk (l : List Pk) (a k : Nat) (t : Int) : Prop := ∀ u, 0 ≤ u → u < t → HasStep l a k u
def FairP (l : List Pk) (t k : Int) : Prop := 1 ≤ t ∧ 1 ≤ k ∧ ∀ a, a + k.toNat ≤ l.length → WinOk l a k.toNat t
/-- how many picks in a window are a step of u -/
def cnt (l : List Pk) (a b : Nat) (u : Int) : Nat := ((l.take b).drop a).countP (fun p => p == (u, 0))
theorem cnt_pos (l : List Pk) (a b : Nat) (u : Int) : 0 < cnt l a b u ↔ ∃ i, a ≤ i ∧ i < b ∧ l[i]? = some (u, 0) := by
  unfold cnt
  rw [List.countP_pos_iff]
  constructor
  · rintro ⟨p, hp, he⟩
    obtain rfl : p = (u, 0) := by simpa using he
    obtain ⟨i, hi⟩ := List.getElem?_of_mem hp
    rw [List.getElem?_drop, List.getElem?_take] at hi
    split at hi
    · exact ⟨a + i, by omega, by omega, hi⟩
    · cases hi
  · rintro ⟨i, h1, h2, h3⟩
    refine ⟨(u, 0), ?_, by simp⟩
    apply List.mem_of_getElem? (i := i - a)
    rw [List.getElem?_drop, List.getElem?_take, show a + (i - a) = i by omega, if_pos h2, h3]
theorem cnt_snoc (l : List Pk) (a b : Nat) (p : Pk) (u : Int) (h : l[b]? = some p) (hab : a ≤ b) : cnt l a (b + 1) u = cnt l a b u + (if p = (u, 0) then 1 else 0) := by
  have hb : b < l.length := (List.getElem?_eq_some_iff.1 h).1
  unfold cnt
  rw [List.take_add_one, h, List.drop_append_of_le_length (by simp; omega), List.countP_append]
  by_cases hp : p = (u, 0) <;> simp [hp]
theorem cnt_tail (l : List Pk) (a b : Nat) (p : Pk) (u : Int) (h : l[a]? = some p) (hab : a < b) : cnt l a b u = cnt l (a + 1) b u + (if p = (u, 0) then 1 else 0) := by
  have ha : a < l.length := (List.getElem?_eq_some_iff.1 h).1
  unfold cnt
  have hd : (l.take b).drop a = p :: (l.take b).drop (a + 1) := by
    have hl : a < (l.take b).length := by rw [List.length_take]; omega
    rw [List.drop_eq_getElem_cons hl]
    congr 1
    have : (l.take b)[a]? = some p := by rw [List.getElem?_take, if_pos hab, h]
    exact (List.getElem?_eq_some_iff.1 this).2
  rw [hd, List.countP_cons]
  by_cases hp : p = (u, 0) <;> simp [hp]
/-- a list of numbers that has each below t is as long -/
theorem cover_len : ∀ (t : Nat) (L : List Int), (∀ u : Nat, u < t → (u : Int) ∈ L) → t ≤ L.length
  | 0, L, _ => Nat.zero_le _
  | t + 1, L, h => by
    have h1 := h t (by omega)
    have ih := cover_len t (L.erase (t : Int)) (fun u hu => (List.mem_erase_of_ne (by omega)).2 (h u (by omega)))
    rw [List.length_erase_of_mem h1] at ih
    have : 0 < L.length := List.length_pos_of_mem h1
    omega
theorem win_len (l : List Pk) (a k : Nat) (t : Int) (h : WinOk l a k t) : t ≤ k := by
  rcases Int.lt_or_le t 0 with h0 | h0
  · omega
  · obtain ⟨n, rfl⟩ := Int.eq_ofNat_of_zero_le h0
    have hc := cover_len n (((l.drop a).take k).map (·.1)) (fun u hu => by
      obtain ⟨i, h1, h2, h3⟩ := h u (by omega) (by omega)
      refine List.mem_map.2 ⟨((u : Int), 0), ?_, rfl⟩
      apply List.mem_of_getElem? (i := i - a)
      rw [List.getElem?_take, if_pos (by omega), List.getElem?_drop, show a + (i - a) = i by omega, h3])
    simp at hc
    omega
end Go.Proofs.YtkmadabpfialbaaGreatDoor
