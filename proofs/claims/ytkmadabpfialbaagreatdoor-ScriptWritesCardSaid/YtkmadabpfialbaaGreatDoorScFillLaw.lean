/- What ScriptFills reckons with: a filled list is fair; where its picks and its rounds lie. No function is walked here. -/
import Derived.Test.YtkmadabpfialbaaGreatDoorScFairLaw
namespace Go.Proofs.YtkmadabpfialbaaGreatDoor
open Go
set_option linter.unusedVariables false
set_option linter.unusedSimpArgs false
theorem pre_prefix (m t : Nat) (l : List Pk) (a : Nat) : ∀ b, a ≤ b → fillPre m t l a <+: fillPre m t l b
  | 0, h => by obtain rfl : a = 0 := by omega
               exact List.prefix_refl _
  | b + 1, h => by
    by_cases hab : a = b + 1
    · subst hab; exact List.prefix_refl _
    · refine (pre_prefix m t l a b (by omega)).trans ?_
      rw [fillPre, List.append_assoc]
      exact List.prefix_append _ _
theorem fill_prefix (m t : Nat) (l : List Pk) (a : Nat) (h : a ≤ l.length) : fillPre m t l a <+: fillL m t l :=
  (pre_prefix m t l a _ h).trans (List.prefix_append _ _)
theorem at_prefix {α : Type} {a b : List α} (h : a <+: b) (i : Nat) (x : α) (hi : a[i]? = some x) : b[i]? = some x := by
  obtain ⟨s, rfl⟩ := h
  rw [List.getElem?_append_left (List.getElem?_eq_some_iff.1 hi).1]
  exact hi
theorem round_at (t u : Nat) (h : u < t) : (roundL t)[u]? = some ((u : Int), 0) := by
  simp [roundL, h]
theorem fill_pick (m t : Nat) (l : List Pk) (a : Nat) (p : Pk) (h : l[a]? = some p) : (fillL m t l)[a + t * (a / m)]? = some p := by
  have ha : a < l.length := (List.getElem?_eq_some_iff.1 h).1
  refine at_prefix (fill_prefix m t l (a + 1) (by omega)) _ _ ?_
  rw [fillPre, List.append_assoc, List.getElem?_append_right (by rw [fillPre_len]; omega), fillPre_len, Nat.sub_self]
  simp [List.getD_eq_getElem?_getD, h]
theorem fill_round (m t : Nat) (l : List Pk) (a u : Nat) (h : a < l.length) (hm : (a + 1) % m = 0) (hu : u < t) : (fillL m t l)[a + t * (a / m) + 1 + u]? = some ((u : Int), 0) := by
  refine at_prefix (fill_prefix m t l (a + 1) (by omega)) _ _ ?_
  rw [fillPre, if_pos hm, List.getElem?_append_right (by rw [List.length_append, fillPre_len]; simp), List.length_append, fillPre_len]
  rw [show a + t * (a / m) + 1 + u - (a + t * (a / m) + [l.getD a (0, 0)].length) = u by simp]
  exact round_at t u hu
theorem fill_last (m t : Nat) (l : List Pk) (u : Nat) (hu : u < t) : (fillL m t l)[l.length + t * (l.length / m) + u]? = some ((u : Int), 0) := by
  unfold fillL
  rw [List.getElem?_append_right (by rw [fillPre_len]; omega), fillPre_len, show l.length + t * (l.length / m) + u - (l.length + t * (l.length / m)) = u by omega]
  exact round_at t u hu
theorem div_of {a q m n : Nat} (h : a = q * m + n) (hn : n < m) : a / m = q := by
  subst h
  rw [Nat.add_comm, Nat.add_mul_div_right _ _ (by omega), Nat.div_eq_of_lt hn, Nat.zero_add]
theorem div_back {a q m : Nat} (h : a + 1 = q * m + m) (hm : 1 ≤ m) : a / m = q := div_of (n := m - 1) (by omega) (by omega)
theorem mod_back {a q m : Nat} (h : a + 1 = q * m + m) : (a + 1) % m = 0 := by
  rw [h, Nat.add_mod_right, Nat.mul_mod_left]
/-- behind the picks that came, n of them since the round before -/
structure Mid (m t : Nat) (l : List Pk) (a n i : Nat) : Prop where
  le : a ≤ l.length
  nm : n ≤ m
  pos : ∃ q, a = q * m + n ∧ i = a + t * q
theorem Mid.step {m t a n i : Nat} {l : List Pk} (h : Mid m t l a n i) (ht : 1 ≤ t) (h1 : n ≠ m) (h2 : a ≠ l.length) :
    ∃ p, l[a]? = some p ∧ (fillL m t l)[i]? = some p ∧ Mid m t l (a + 1) (n + 1) (i + 1) ∧ a < l.length ∧ i < (fillL m t l).length := by
  obtain ⟨q, e1, e2⟩ := h.pos
  have := h.le
  have hn := h.nm
  have ha : a < l.length := by omega
  obtain ⟨p, hp⟩ : ∃ p, l[a]? = some p := ⟨_, List.getElem?_eq_getElem ha⟩
  have hf := fill_pick m t l a p hp
  rw [div_of e1 (by omega), ← e2] at hf
  exact ⟨p, hp, hf, ⟨by omega, by omega, q, by omega, by omega⟩, ha, (List.getElem?_eq_some_iff.1 hf).1⟩
theorem Mid.round {m t a n i : Nat} {l : List Pk} (h : Mid m t l a n i) (ht : 1 ≤ t) (hm : 1 ≤ m) (h1 : n = m ∨ a = l.length) :
    (∀ u, u < t → (fillL m t l)[i + u]? = some ((u : Int), 0)) ∧ i < (fillL m t l).length ∧ i + t ≤ (fillL m t l).length ∧
    ((Mid m t l a 0 (i + t) ∧ (a = l.length → l.length % m = 0 ∧ (fillL m t l).length = i + t + t)) ∨ (a = l.length ∧ i + t = (fillL m t l).length)) := by
  obtain ⟨q, e1, e2⟩ := h.pos
  have hle := h.le
  have hn := h.nm
  by_cases hnm : n = m
  · subst hnm
    obtain ⟨b, rfl⟩ : ∃ b, a = b + 1 := ⟨a - 1, by omega⟩
    have hr : ∀ u, u < t → (fillL n t l)[i + u]? = some ((u : Int), 0) := fun u hu => by
      have := fill_round n t l b u (by omega) (mod_back e1) hu
      rw [div_back e1 hm] at this
      rw [e2, ← this]
      congr 1
      omega
    have hlast := (List.getElem?_eq_some_iff.1 (hr (t - 1) (by omega))).1
    refine ⟨hr, by omega, by omega, Or.inl ⟨⟨hle, by omega, q + 1, ?_, ?_⟩, fun hl => ?_⟩⟩
    · rw [Nat.add_mul]; omega
    · rw [Nat.mul_add]; omega
    · have hd : l.length / n = q + 1 := div_of (n := 0) (by rw [Nat.add_mul]; omega) (by omega)
      refine ⟨by rw [← hl, mod_back e1], ?_⟩
      rw [fillL_len, hd, Nat.mul_add, Nat.mul_add]
      omega
  · have hl : a = l.length := by omega
    have hd : l.length / m = q := div_of (hl ▸ e1) (by omega)
    have hlen : (fillL m t l).length = i + t := by rw [fillL_len, hd, Nat.mul_add]; omega
    refine ⟨fun u hu => ?_, by omega, by omega, Or.inr ⟨hl, hlen.symm⟩⟩
    have := fill_last m t l u hu
    rw [hd, ← hl] at this
    rw [e2]
    exact this
theorem fill_has (m t : Nat) (l : List Pk) (q u : Nat) (hm : 1 ≤ m) (hq : q < l.length / m) (hu : u < t) : (fillL m t l)[q * m + t * q + m + u]? = some ((u : Int), 0) := by
  have hx : (q + 1) * m ≤ l.length := by
    have h1 : (q + 1) * m ≤ l.length / m * m := Nat.mul_le_mul_right m hq
    have h2 := Nat.div_mul_le_self l.length m
    omega
  rw [Nat.add_mul] at hx
  have e : q * m + m - 1 + 1 = q * m + m := by omega
  have := fill_round m t l (q * m + m - 1) u (by omega) (mod_back e) hu
  rw [div_back e hm] at this
  rw [← this]
  congr 1
  omega
theorem fill_fair (m t : Nat) (l : List Pk) (hm : 1 ≤ m) (ht : 1 ≤ t) : FairP (fillL m t l) t ((m + t : Nat) : Int) := by
  refine ⟨by omega, by omega, fun a ha u0 h0 h1 => ?_⟩
  obtain ⟨u, rfl⟩ := Int.eq_ofNat_of_zero_le h0
  rw [Int.toNat_natCast] at ha ⊢
  have hu : u < t := by omega
  obtain ⟨q, hq⟩ : ∃ q, q = (a + (m + t - 1 - (m + u))) / (m + t) := ⟨_, rfl⟩
  have b1 : q * (m + t) ≤ a + (m + t - 1 - (m + u)) := by rw [hq]; exact Nat.div_mul_le_self _ _
  have b2 : a + (m + t - 1 - (m + u)) < q * (m + t) + (m + t) := by
    have := Nat.lt_div_mul_add (a := a + (m + t - 1 - (m + u))) (b := m + t) (by omega)
    rw [← hq] at this
    exact this
  have hlen := fillL_len m t l
  have hr := Nat.mod_lt l.length hm
  have hdm := Nat.div_add_mod l.length m
  have e1 : q * (m + t) = q * m + t * q := by rw [Nat.mul_add, Nat.mul_comm t q]
  by_cases hQ : q < l.length / m
  · exact ⟨q * m + t * q + m + u, by omega, by omega, fill_has m t l q u hm hQ hu⟩
  · have e2 : l.length / m * (m + t) = m * (l.length / m) + t * (l.length / m) := by rw [Nat.mul_add, Nat.mul_comm t, Nat.mul_comm m]
    have b3 : l.length / m * (m + t) ≤ q * (m + t) := Nat.mul_le_mul_right _ (by omega)
    rw [Nat.mul_add] at hlen
    exact ⟨_, by omega, by omega, fill_last m t l u hu⟩
end Go.Proofs.YtkmadabpfialbaaGreatDoor
