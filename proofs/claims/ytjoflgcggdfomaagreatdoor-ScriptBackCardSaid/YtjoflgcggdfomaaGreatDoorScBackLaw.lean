/- What ScriptBack reckons with: words between blanks, parsed, are the picks they were printed of. No function is walked here. -/
import Derived.Test.YtjoflgcggdfomaaGreatDoorScSame
namespace Go.Proofs.YtjoflgcggdfomaaGreatDoor
open Go
set_option linter.unusedVariables false
set_option linter.unusedSimpArgs false
theorem word_solid {p : Pk} (h : okPk p = true) : (∀ b ∈ wordB p, b ≠ 32) ∧ wordB p ≠ [] := by
  have hw := wordP_wordB h
  constructor
  · intro b hb
    have hok := h
    unfold okPk at hok
    simp at hok
    obtain ⟨n, hn⟩ := Int.eq_ofNat_of_zero_le hok.1.1
    unfold wordB at hb
    rw [if_pos h, List.mem_append] at hb
    rcases hb with hb | hb
    · have hd := dec_digs n
      have e : Lib.itoa p.1 = Lib.decDigits n := by rw [hn, Lib.itoa_nonneg]
      rw [e] at hb
      exact dig_not b 32 (by decide) (List.all_eq_true.1 hd.1 b hb) (by decide)
    · unfold letterB at hb
      split at hb
      · simp at hb; subst hb; decide
      · split at hb
        · simp at hb; subst hb; decide
        · simp at hb
  · intro e
    rw [e] at hw
    have : wordP [] = none := by decide +kernel
    rw [this] at hw
    cases hw
def gapped : List (Nat × Pk) → List UInt8
  | [] => []
  | (g, p) :: r => List.replicate (g + 1) 32 ++ (wordB p ++ gapped r)
theorem gapped_snoc : ∀ (l : List (Nat × Pk)) (g : Nat) (p : Pk), gapped (l ++ [(g, p)]) = gapped l ++ (List.replicate (g + 1) 32 ++ wordB p)
  | [], g, p => by simp [gapped]
  | (g', p') :: r, g, p => by
    rw [List.cons_append, gapped, gapped_snoc r g p, gapped]
    simp
theorem fields_gapped : ∀ (l : List (Nat × Pk)) (cur : List UInt8), (∀ x ∈ l, okPk x.2 = true) → fieldsGo cur (gapped l ++ [32, 32]) = (if cur = [] then [] else [cur]) ++ l.map (fun x => wordB x.2)
  | [], cur, h => by
    show fieldsGo cur (List.replicate 2 32) = _
    by_cases hc : cur = []
    · subst hc
      have := fieldsGo_gap 2 []
      rw [List.append_nil] at this
      rw [this]
      rfl
    · have := fieldsGo_cut cur 1 [] hc
      rw [List.append_nil] at this
      rw [show (2 : Nat) = 1 + 1 from rfl, this, if_neg hc]
      rfl
  | (g, p) :: r, cur, h => by
    obtain ⟨h1, h2⟩ := word_solid (h (g, p) (by simp))
    have ih := fields_gapped r (wordB p) (fun x hx => h x (by simp [hx]))
    rw [if_neg h2] at ih
    have hw := fieldsGo_word (wordB p) [] (gapped r ++ [32, 32]) h1
    rw [List.nil_append, ih] at hw
    have e : gapped ((g, p) :: r) ++ [32, 32] = List.replicate (g + 1) 32 ++ (wordB p ++ (gapped r ++ [32, 32])) := by
      rw [gapped]; simp
    rw [e]
    by_cases hc : cur = []
    · subst hc
      rw [fieldsGo_gap, hw]
      simp
    · rw [fieldsGo_cut cur g _ hc, hw]
      simp [hc]
theorem picks_back (l : List Pk) (h : ∀ p ∈ l, okPk p = true) : badAt (l.map wordB) = none ∧ picksOf (l.map wordB) = l := by
  constructor
  · refine badAt_none fun w hw => ?_
    obtain ⟨p, hp, rfl⟩ := List.mem_map.1 hw
    rw [wordP_wordB (h p hp)]
    rfl
  · unfold picksOf
    induction l with
    | nil => rfl
    | cons p r ih =>
      rw [List.map_cons, List.filterMap_cons, wordP_wordB (h p (by simp))]
      simp only
      rw [ih (fun q hq => h q (by simp [hq]))]
theorem wordB_six {p : Pk} (h : okPk p = true) : (wordB p).length ≤ 6 := by
  have hok := h
  unfold okPk at hok
  simp at hok
  unfold wordB
  rw [if_pos h, List.length_append]
  have h1 : (letterB p.2).length ≤ 1 := by
    unfold letterB
    split
    · simp
    · split <;> simp
  obtain ⟨n, hn⟩ := Int.eq_ofNat_of_zero_le hok.1.1
  rw [hn, Lib.itoa_nonneg]
  have := dec_len (u := n) (by omega)
  omega
theorem fields_join : ∀ ws : List (List UInt8), (∀ u ∈ ws, (∀ b ∈ u, b ≠ 32) ∧ u ≠ []) → fieldsB (Lib.join ws [32]) = ws
  | [], h => rfl
  | [u], h => by
    obtain ⟨h1, h2⟩ := h u (by simp)
    have := fieldsGo_word u [] [] h1
    rw [List.append_nil, List.nil_append] at this
    unfold fieldsB
    rw [Lib.join_one, this]
    simp [fieldsGo, h2]
  | u :: v :: r, h => by
    obtain ⟨h1, h2⟩ := h u (by simp)
    have ih := fields_join (v :: r) (fun x hx => h x (by simp at hx ⊢; right; exact hx))
    have e : Lib.join (u :: v :: r) [32] = u ++ (32 :: Lib.join (v :: r) [32]) := by simp [Lib.join]
    unfold fieldsB at ih ⊢
    rw [e, fieldsGo_word u [] _ h1, List.nil_append]
    rw [fieldsGo, if_pos rfl, if_neg h2, ih]
theorem join_len : ∀ ws : List (List UInt8), (∀ u ∈ ws, u.length ≤ 6) → (Lib.join ws [32]).length ≤ 7 * ws.length
  | [], h => by simp [Lib.join]
  | [u], h => by
    have := h u (by simp)
    simp [Lib.join]
    omega
  | u :: v :: r, h => by
    have h1 := h u (by simp)
    have ih := join_len (v :: r) (fun x hx => h x (by simp at hx ⊢; right; exact hx))
    have e : Lib.join (u :: v :: r) [32] = u ++ (32 :: Lib.join (v :: r) [32]) := by simp [Lib.join]
    rw [e, List.length_append, List.length_cons]
    simp only [List.length_cons] at ih ⊢
    omega
/-- what is printed of picks that have words is parsed as these picks -/
theorem print_fields (l : List Pk) (h : ∀ p ∈ l, okPk p = true) : fieldsB (printL l) = l.map wordB ∧ (printL l).length ≤ 7 * l.length := by
  unfold printL
  refine ⟨fields_join _ fun u hu => ?_, ?_⟩
  · obtain ⟨p, hp, rfl⟩ := List.mem_map.1 hu
    exact word_solid (h p hp)
  · have := join_len (l.map wordB) fun u hu => by
      obtain ⟨p, hp, rfl⟩ := List.mem_map.1 hu
      exact wordB_six (h p hp)
    simpa using this
theorem gapped_fields (G : List (Nat × Pk)) (h : ∀ x ∈ G, okPk x.2 = true) : fieldsB (gapped G ++ [32, 32]) = (G.map (·.2)).map wordB := by
  have := fields_gapped G [] h
  unfold fieldsB
  rw [this]
  simp
theorem gapped_len : ∀ (G : List (Nat × Pk)), (∀ x ∈ G, okPk x.2 = true ∧ x.1 ≤ 4) → (gapped G).length ≤ 11 * G.length
  | [], h => by simp [gapped]
  | (g, p) :: r, h => by
    have ih := gapped_len r (fun x hx => h x (by simp [hx]))
    obtain ⟨h1, h2⟩ := h (g, p) (by simp)
    have h3 := wordB_six h1
    simp only at h1 h2 h3
    simp only [gapped, List.length_append, List.length_replicate, List.length_cons]
    omega
theorem decode_ok (s : ByteArray) : ∀ p ∈ decodeL s, okPk p = true := by
  intro p hp
  obtain ⟨b, _, rfl⟩ := List.mem_map.1 hp
  unfold okPk decodeB kindD
  simp only [Bool.and_eq_true, decide_eq_true_eq]
  refine ⟨by omega, ?_⟩
  split
  · omega
  · split <;> omega
end Go.Proofs.YtjoflgcggdfomaaGreatDoor
