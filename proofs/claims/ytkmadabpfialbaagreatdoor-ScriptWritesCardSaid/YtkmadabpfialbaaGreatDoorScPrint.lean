/- wordOf and Print. -/
import Derived.Test.YtkmadabpfialbaaGreatDoorScMaps
import Derived.Test.YtkmadabpfialbaaGreatDoorScTie
namespace Go.Proofs.YtkmadabpfialbaaGreatDoor
open Go.ChangeShapes Go.WideShapes Go.ChangeAt Go.RowKit Go.Maps
set_option linter.unusedVariables false
set_option maxRecDepth 100000
set_option linter.unusedSimpArgs false
def PkWf (p : Pk) : Prop := (Lit.int .i64 p.1).wf = true ∧ (Lit.int .i64 p.2).wf = true
theorem wf_rng {n : Int} (h : (Lit.int .i64 n).wf = true) : -9223372036854775808 ≤ n ∧ n ≤ 9223372036854775807 := by
  simp [Lit.wf, IntKind.min, IntKind.max, IntKind.signed, IntKind.bits] at h
  omega
abbrev strV (l : List UInt8) : Value := .string ⟨l.toArray⟩
theorem letD_no (k : Int) (h : ¬ (0 ≤ k ∧ k ≤ 2)) : Maps.has letD (.int .i64 k) = false ∧ letD.atKey (.int .i64 k) (.lit (.string [])) = .lit (.string []) := by
  have e0 : (0 : Int) ≠ k := by omega
  have e1 : (1 : Int) ≠ k := by omega
  have e2 : (2 : Int) ≠ k := by omega
  exact ⟨by simp [letD, Maps.has, Lit.sameKey, e0, e1, e2], by simp [letD, DataW.atKey, Lit.sameKey, e0, e1, e2]⟩
theorem letD_yes (k : Int) (h0 : 0 ≤ k) (h2 : k ≤ 2) : Maps.has letD (.int .i64 k) = true ∧ letD.atKey (.int .i64 k) (.lit (.string [])) = .lit (.string (letterB k)) := by
  obtain rfl | rfl | rfl : k = 0 ∨ k = 1 ∨ k = 2 := by omega
  · exact ⟨rfl, rfl⟩
  · exact ⟨rfl, rfl⟩
  · exact ⟨rfl, rfl⟩
theorem wordOf_yes (p : Pk) (b : Nat) (w : World) (hL : LetMap w b) (ht : TieW w) (hp : okPk p = true) :
    Calls Tryz.prog 25 #[pkV p, .map (some b)] w fun e w' => e = .returned (strV (wordB p)) ∧ Below w.heap.size w w' := by
  obtain ⟨t, k⟩ := p
  have hw : wordB (t, k) = Lib.itoa t ++ letterB k := by unfold wordB; rw [if_pos hp]
  unfold okPk at hp
  simp only [Bool.and_eq_true, decide_eq_true_eq] at hp
  obtain ⟨⟨t0, t1⟩, k0, k2⟩ := hp
  obtain ⟨l1, l2⟩ := letD_yes k k0 k2
  have hkw : (Lit.int .i64 k).wf = true := by simp [Lit.wf, IntKind.min, IntKind.max, IntKind.signed, IntKind.bits]; omega
  rw [hw]
  have hL2 := hL.alloc (.cells #[.int .i64 t, .int .i64 k] 46)
  have hb1 : Below w.heap.size w (w.alloc (.cells #[.int .i64 t, .int .i64 k] 46)) := (Below.refl _ w).alloc (Nat.le_refl _) _
  have ht2 := ht.below hb1 (by have := ht.big; omega)
  have HI := Lib.hid (itoa_any t (by omega) (by omega) _ ht2)
  generalize hl : letterB k = lt at *
  obtain ⟨s, hs⟩ : ∃ s : ByteArray, s.data.toList = lt := ⟨⟨lt.toArray⟩, by simp⟩
  rw [← hs] at l2
  generalize hi : Lib.itoa t = it at *
  have hlen : ¬ 9223372036854775807 < it.length + s.size := by
    have h1 : it.length ≤ 5 := by
      rw [← hi]
      unfold Lib.itoa
      rw [if_neg (by omega)]
      exact dec_len (by omega)
    have h2 : s.size ≤ 1 := by
      have : s.size = lt.length := by rw [← hs]; simp
      rw [this, ← hl]
      unfold letterB
      split
      · simp
      · split <;> simp
    omega
  go_enter Tryz.func25, Tryz.ntmps25
  go_wp2_with (first
    | (at_lookup; refine wpList_lookup_own_ok_string _ rfl _ _ 54 rfl 3 9 lawInt Tryz.underlying54 Tryz.underlying9 (zeroS _) b 3 letD rfl hL2 _ (.int .i64 k) rfl (keyOf_int_mk Tryz.underlying3 hkw) s l2 ?_; rw [l1])
    | (go_at_call 38; refine HI.out.mono ?_; rintro e w2 ⟨rfl, hb⟩))
  go_ret
  refine ⟨?_, hb1.trans (hb.mono hb1.size)⟩
  have e : ({ data := it.toArray } ++ s : ByteArray) = ⟨(it ++ lt).toArray⟩ := by
    apply ByteArray.ext
    rw [← hs]
    simp
  rw [e]
  rfl
theorem wordOf_kind (t k : Int) (b : Nat) (w : World) (hL : LetMap w b) (hk : ¬ (0 ≤ k ∧ k ≤ 2)) (hkw : (Lit.int .i64 k).wf = true) :
    Calls Tryz.prog 25 #[pkV (t, k), .map (some b)] w fun e w' => e = .returned (.string ⟨#[45]⟩) ∧ Below w.heap.size w w' := by
  obtain ⟨l1, l2⟩ := letD_no k hk
  have hL2 := hL.alloc (.cells #[.int .i64 t, .int .i64 k] 46)
  have hb1 : Below w.heap.size w (w.alloc (.cells #[.int .i64 t, .int .i64 k] 46)) := (Below.refl _ w).alloc (Nat.le_refl _) _
  clear hk
  go_enter Tryz.func25, Tryz.ntmps25
  go_wp2_with (first
    | (at_lookup; refine wpList_lookup_own_ok_string _ rfl _ _ 54 rfl 3 9 lawInt Tryz.underlying54 Tryz.underlying9 (zeroS _) b 3 letD rfl hL2 _ (.int .i64 k) rfl (keyOf_int_mk Tryz.underlying3 hkw) ⟨#[]⟩ l2 ?_; rw [l1]))
  go_ret
  exact ⟨rfl, hb1⟩
theorem wordOf_thread (t k : Int) (b : Nat) (w : World) (hL : LetMap w b) (hk : 0 ≤ k ∧ k ≤ 2) (ht : ¬ (0 ≤ t ∧ t ≤ 99999)) :
    Calls Tryz.prog 25 #[pkV (t, k), .map (some b)] w fun e w' => e = .returned (.string ⟨#[45]⟩) ∧ Below w.heap.size w w' := by
  obtain ⟨l1, l2⟩ := letD_yes k hk.1 hk.2
  have hkw : (Lit.int .i64 k).wf = true := by simp [Lit.wf, IntKind.min, IntKind.max, IntKind.signed, IntKind.bits]; omega
  have hL2 := hL.alloc (.cells #[.int .i64 t, .int .i64 k] 46)
  have hb1 : Below w.heap.size w (w.alloc (.cells #[.int .i64 t, .int .i64 k] 46)) := (Below.refl _ w).alloc (Nat.le_refl _) _
  generalize hl : letterB k = lt at *
  obtain ⟨s, hs⟩ : ∃ s : ByteArray, s.data.toList = lt := ⟨⟨lt.toArray⟩, by simp⟩
  rw [← hs] at l2
  clear hl hk
  rcases Int.lt_or_le t 0 with h | h
  · clear ht
    go_enter Tryz.func25, Tryz.ntmps25
    go_wp2_with (first
      | (at_lookup; refine wpList_lookup_own_ok_string _ rfl _ _ 54 rfl 3 9 lawInt Tryz.underlying54 Tryz.underlying9 (zeroS _) b 3 letD rfl hL2 _ (.int .i64 k) rfl (keyOf_int_mk Tryz.underlying3 hkw) s l2 ?_; rw [l1]))
    go_ret
    exact ⟨rfl, hb1⟩
  · have h2 : 99999 < t := by omega
    clear ht
    go_enter Tryz.func25, Tryz.ntmps25
    go_wp2_with (first
      | (at_lookup; refine wpList_lookup_own_ok_string _ rfl _ _ 54 rfl 3 9 lawInt Tryz.underlying54 Tryz.underlying9 (zeroS _) b 3 letD rfl hL2 _ (.int .i64 k) rfl (keyOf_int_mk Tryz.underlying3 hkw) s l2 ?_; rw [l1]))
    go_ret
    exact ⟨rfl, hb1⟩
theorem wordOf_any (p : Pk) (b : Nat) (w : World) (hL : LetMap w b) (ht : TieW w) (hp : PkWf p) :
    Calls Tryz.prog 25 #[pkV p, .map (some b)] w fun e w' => e = .returned (strV (wordB p)) ∧ Below w.heap.size w w' := by
  cases h : okPk p with
  | true => exact wordOf_yes p b w hL ht h
  | false =>
    have e : wordB p = [45] := by unfold wordB; rw [h]; rfl
    rw [e]
    obtain ⟨t, k⟩ := p
    unfold okPk at h
    simp only [Bool.and_eq_false_iff, decide_eq_false_iff_not] at h
    by_cases hk : 0 ≤ k ∧ k ≤ 2
    · exact wordOf_thread t k b w hL hk (by rcases h with h | h; exact h; exact absurd hk h)
    · exact wordOf_kind t k b w hL hk hp.2
def printL (l : List Pk) : List UInt8 := Lib.join (l.map wordB) [32]
theorem LetMap.below {w w' : World} {b n : Nat} (h : LetMap w b) (hb : Below n w w') (hn : b < n) : LetMap w' b := by
  obtain ⟨es, clock, hb1, F, hs, hD⟩ := h
  exact ⟨es, clock, (hb.block b hn).trans hb1, F, hs, hD⟩
theorem LetMap.lt {w : World} {b : Nat} (h : LetMap w b) : b < w.heap.size := by
  obtain ⟨es, clock, hb1, F, hs, hD⟩ := h
  exact (Array.getElem?_eq_some_iff.1 hb1).1
theorem str_info : (Tryz.prog.info? 9).map (fun i => (i.zero, i.size, i.bytes)) = some (some (.string ⟨#[]⟩), 1, 16) := by kernel_rfl
def rowS (l : List Pk) (n k : Nat) : List Value := (l.take k).map (fun p => strV (wordB p)) ++ List.replicate (n - k) (.string ⟨#[]⟩)
theorem rowS_step (l : List Pk) (k : Nat) (p : Pk) (h : l[k]? = some p) : (rowS l l.length k).set k (strV (wordB p)) = rowS l l.length (k + 1) := by
  have hk : k < l.length := (List.getElem?_eq_some_iff.1 h).1
  have m1 := Lib.set_mid ((l.take k).map (fun p => strV (wordB p))) (Value.string ⟨#[]⟩) (strV (wordB p)) (List.replicate (l.length - (k + 1)) (.string ⟨#[]⟩))
  rw [List.length_map, List.length_take, Nat.min_eq_left (by omega)] at m1
  unfold rowS
  rw [show l.length - k = (l.length - (k + 1)) + 1 by omega, List.replicate_succ, m1, take_at h]
  simp
theorem rowS_zero (l : List Pk) (n k : Nat) (h : k ≤ l.length) (hk : k < n) : (rowS l n k)[k]? = some (.string ⟨#[]⟩) := by
  unfold rowS
  rw [List.getElem?_append_right (by simp; omega), List.getElem?_replicate, if_pos (by simp; omega)]
theorem made_strs (n : Nat) (l : List Pk) : (madeCells (Value.string ⟨#[]⟩).cells (n * 1)).toList = rowS l n 0 := by
  have e : (Value.string ⟨#[]⟩).cells = #[.string ⟨#[]⟩] := by rfl
  rw [e, Nat.mul_one, toList_madeCells_one]
  simp [rowS]
theorem wordB_len (p : Pk) : (wordB p).length ≤ 7 := by
  unfold wordB
  split
  · rename_i h
    unfold okPk at h
    simp only [Bool.and_eq_true, decide_eq_true_eq] at h
    have h1 : (Lib.itoa p.1).length ≤ 5 := by
      unfold Lib.itoa
      rw [if_neg (by omega)]
      exact dec_len (by omega)
    have h2 : (letterB p.2).length ≤ 1 := by
      unfold letterB
      split
      · simp
      · split <;> simp
    simp; omega
  · simp
theorem ownsRow_below {W W' : World} {B e size n : Nat} {v : Value} {xs : List Value} (h : W.ownsRow B e size v n xs) (hb : Below W.heap.size W W') : W'.ownsRow B e size v n xs := by
  refine ⟨h.1, ?_⟩
  rcases h.2 with h0 | ⟨g, cap, cur, hv, hb1, hg, rest⟩
  · exact .inl h0
  · exact .inr ⟨g, cap, cur, hv, hb1, (hb.block g (Array.getElem?_eq_some_iff.1 hg).1).trans hg, rest⟩
theorem lens_le (l : List Pk) : Lib.lens (l.map wordB) ≤ 7 * l.length := by
  induction l with
  | nil => simp [Lib.lens]
  | cons p t ih =>
    have := wordB_len p
    simp [Lib.lens] at ih ⊢
    omega
theorem printL_len (l : List Pk) : (printL l).length ≤ 8 * l.length := by
  unfold printL
  cases l with
  | nil => simp [Lib.join_nil]
  | cons p t =>
    have h1 := wordB_len p
    have h2 := lens_le t
    rw [List.map_cons, Lib.join_cons, List.length_append, Lib.joinTail_length]
    simp
    omega
theorem join_row (l : List Pk) (g cap B : Nat) (w : World) (h : w.ownsRow B 9 1 (.slice (some ⟨g, 0, none⟩) l.length cap) l.length (rowS l l.length l.length)) (hl : l.length ≤ 100000) :
    Calls Tryz.prog 26 #[.slice (some ⟨g, 0, none⟩) l.length cap, .string ⟨#[32]⟩] w fun e w' => e = .returned (strV (printL l)) ∧ Below w.heap.size w w' := by
  cases l with
  | nil => exact (Tryz.strings_Join_none _ cap _ w).mono fun e w' ⟨h1, h2⟩ => ⟨by rw [h1]; rfl, by rw [h2]; exact Below.refl _ _⟩
  | cons p t =>
    generalize hq : p :: t = l at *
    have hne : 0 < l.length := by rw [← hq]; simp
    have hr : rowS l l.length l.length = l.map (fun p => strV (wordB p)) := by
      unfold rowS
      rw [List.take_of_length_le (Nat.le_refl _), Nat.sub_self]
      simp
    rw [hr] at h
    have hcap : l.length ≤ cap := by
      rcases h.2 with ⟨_, h0⟩ | ⟨g', cap', cur, hv, hb, hh, hnc, hcm, _⟩
      · omega
      · simp at hv
        omega
    have hmap : ((l.map fun p => (⟨(wordB p).toArray⟩ : ByteArray)).map (·.data.toList)) = l.map wordB := by
      rw [List.map_map]
      congr 1
    have hlt : g < w.heap.size := by
      rcases h.2 with ⟨hv, h0⟩ | ⟨g', cap', cur, hv, hb, hh, hnc, hcm, _⟩
      · cases hv
      · simp at hv
        rw [hv.1]
        exact (Array.getElem?_eq_some_iff.1 hh).1
    have hj := Tryz.strings_Join g 0 cap (l.map fun p => ⟨(wordB p).toArray⟩) ⟨#[32]⟩ w (fun j x hx => by
        have hjl : j < l.length := by
          have := (List.getElem?_eq_some_iff.1 hx).1
          simpa using this
        rw [Nat.zero_add, h.cellAt j (by omega)]
        rw [List.getElem?_map] at hx ⊢
        rw [Option.map_eq_some_iff] at hx
        obtain ⟨p, hp, rfl⟩ := hx
        rw [hp]
        rfl) hlt (by rw [List.length_map]; omega) (by rw [List.length_map]; exact hcap) (by
        rw [hmap]
        have := printL_len l
        unfold printL at this
        show (Lib.join (l.map wordB) [32]).length ≤ _
        omega)
    rw [List.length_map, hmap] at hj
    exact hj
theorem print_any (v : Value) (l : List Pk) (w : World) (ht : TieW w) (hv : PicksAt w w.heap.size v l) (hl : l.length ≤ 100000) (hwf : ∀ p ∈ l, PkWf p) :
    Calls Tryz.prog 13 #[v] w fun e w' => e = .returned (strV (printL l)) ∧ Below w.heap.size w w' := by
  obtain ⟨a, c, rfl, hc, hp⟩ := id hv
  go_enter Tryz.func13, Tryz.ntmps13
  go_upto_region 2 with (go_at_call 24; refine (letters_any _).mono ?_; rintro e w1 ⟨rfl, b1, hL⟩)
  have ht1 := ht.below b1 (by have := ht.big; omega)
  have hv1 := hv.below b1
  obtain ⟨i0, hi, hz0, hz1, hz2⟩ := info_parts str_info
  obtain ⟨w2, hmk, hown, hgr⟩ := run_makeSlice_full (P := Tryz.prog) (w := w1) w1.heap.size 56 9 i0 _ 1 Tryz.underlying56 hi hz0 hz1 .i64 .i64 l.length (by omega) (by rw [hz2]; omega) (by unfold maxLen; omega) (Nat.le_refl _)
  rw [made_strs l.length l] at hown
  have hB : Below w1.heap.size w1 w2 := ⟨hgr.os, hgr.tape, hgr.output, hgr.size, fun k hk => hgr.block k hk (by simp)⟩
  have hl1 := hL.lt
  have HW := Lib.hid hwf
  have HP := Lib.hid hp
  have HT := Lib.hid ht1
  have HL := Lib.hid hL
  have Hb := Lib.hid (b1.trans (hB.mono b1.size))
  have b1s := b1.size
  clear hwf hp ht1 hL hv hv1 ht b1
  go_wp2
  go_loopw [13] (fun i wr => ∃ k : Nat, k ≤ l.length ∧ i = .int .i64 (k : Int) ∧ wr.ownsRow w1.heap.size 9 1 (.slice (some ⟨w1.heap.size, 0, none⟩) l.length l.length) l.length (rowS l l.length k) ∧ Below w1.heap.size w1 wr)
    (fun i _ => l.length - (intOf i).toNat)
  case atStart => exact ⟨0, by omega, rfl, hown, hB⟩
  case round =>
    obtain ⟨k, hk, rfl, hrow, hb⟩ := hrel
    by_cases hlt : k < l.length
    · obtain ⟨p, hpk⟩ : ∃ p, l[k]? = some p := ⟨_, List.getElem?_eq_getElem hlt⟩
      obtain ⟨B, o, rfl, hB1, hB2, c0, c1⟩ := HP.out k p hpk
      have hbB : Below w.heap.size w wr := by
        have h1 := Hb.out
        exact ⟨hb.os.trans (hB.os.symm.trans h1.os), hb.tape.trans (hB.tape.symm.trans h1.tape), hb.output.trans (hB.output.symm.trans h1.output), Nat.le_trans b1s hb.size, fun j hj => by
          rw [hb.block j (by omega), ← hB.block j (by omega), h1.block j hj]⟩
      replace c0 := (hbB.cell (p := ⟨B, o + k * 2, none⟩) hB1).trans c0
      replace c1 := (hbB.cell (p := ⟨B, o + (k * 2 + 1), none⟩) hB1).trans c1
      rw [← Nat.add_assoc] at c1
      have hpw := HW.out p (List.mem_of_getElem? hpk)
      obtain ⟨t, q⟩ := p
      simp only at c0 c1
      have hbs := hb.size
      have HR := Lib.hid hrow
      have HS := Lib.hid (rowS_step l k _ hpk)
      have HZ := Lib.hid (rowS_zero l l.length k (by omega) hlt)
      have hLr : LetMap (wr.alloc (.cells #[.int .i64 t, .int .i64 q] 46)) w.heap.size := (HL.out.below hb hl1).alloc _
      have htr : TieW (wr.alloc (.cells #[.int .i64 t, .int .i64 q] 46)) := (HT.out.below hb (by have := HT.out.big; omega)).below ((Below.refl _ wr).alloc (Nat.le_refl _) _) (by have := HT.out.big; omega)
      have HO := Lib.hid (wordOf_any (t, q) w.heap.size _ hLr htr hpw)
      clear hpk hrow hLr htr
      generalize hwb : wordB (t, q) = wb at *
      go_upto_region 6 with fail
      go_wp2_with (go_at_call 25; refine HO.out.mono ?_; rintro e w3 ⟨rfl, b3⟩; have hr3 := (HR.out.alloc (.cells #[.int .i64 t, .int .i64 q] 46)); have hr4 := ownsRow_below hr3 b3; have c3 := hr4.cellAt k (by omega); rw [HZ.out] at c3; have f3 := hr4.frozenAt k)
      go_roundw
      case rel =>
        refine ⟨k + 1, by omega, by go_num, ?_, ?_⟩
        · rw [← HS.out]
          exact (hr4.stored k _).1
        · exact (((hb.alloc hbs _).trans (b3.mono (by simp; omega))).setCell (p := ⟨w1.heap.size, k, none⟩) (Nat.le_refl _) _)
      case measure => simp [intOf]; omega
    · have hke : k = l.length := by omega
      rw [hke] at hrow
      have HJ := Lib.hid (join_row l w1.heap.size l.length w1.heap.size wr hrow hl)
      have hbB : Below w.heap.size w wr := by
        have h1 := Hb.out
        exact ⟨hb.os.trans (hB.os.symm.trans h1.os), hb.tape.trans (hB.tape.symm.trans h1.tape), hb.output.trans (hB.output.symm.trans h1.output), Nat.le_trans b1s hb.size, fun j hj => by
          rw [hb.block j (by omega), ← hB.block j (by omega), h1.block j hj]⟩
      have hs2 := Nat.le_trans b1s hb.size
      clear hrow
      go_wp2_with (go_at_call 26; refine HJ.out.mono ?_; rintro e w3 ⟨rfl, b3⟩)
      go_ret
      exact ⟨rfl, hbB.trans (b3.mono hs2)⟩
end Go.Proofs.YtkmadabpfialbaaGreatDoor
