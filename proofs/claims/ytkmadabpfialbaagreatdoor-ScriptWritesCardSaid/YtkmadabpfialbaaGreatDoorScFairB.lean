/- Fair, of any picks. -/
import Derived.Test.YtkmadabpfialbaaGreatDoorScFairA
namespace Go.Proofs.YtkmadabpfialbaaGreatDoor
open Go.ChangeShapes Go.WideShapes Go.ChangeAt Go.RowKit Go.Maps
set_option linter.unusedVariables false
set_option maxRecDepth 100000
set_option linter.unusedSimpArgs false
theorem Rep.congr {E : List Ent} {t : Int} {c c' : Int → Nat} (h : Rep E t c) (he : ∀ u, 0 ≤ u → u < t → c u = c' u) : Rep E t c' := by
  refine ⟨fun x hx => ?_, fun u h0 h1 hp => ?_⟩
  · obtain ⟨u, h0, h1, rfl, h2⟩ := h.only x hx
    exact ⟨u, h0, h1, by rw [he u h0 h1], by rw [← he u h0 h1]; exact h2⟩
  · rw [← he u h0 h1] at hp ⊢
    exact h.all u h0 h1 hp
theorem cnt_le (l : List Pk) (a b : Nat) (u : Int) : cnt l a b u ≤ l.length := by
  unfold cnt
  refine Nat.le_trans List.countP_le_length ?_
  simp
  omega
/-- the boxes of the counting closure -/
structure Boxes (w : World) (Bt Bm M : Nat) (t : Int) : Prop where
  bt : Blk w Bt 3 #[.int .i64 t]
  bm : Blk w Bm 72 #[.map (some M)]
  ht : Bt ≠ M
  hm : Bm ≠ M
theorem Boxes.keep {w w' : World} {Bt Bm M : Nat} {t : Int} (h : Boxes w Bt Bm M t) (hk : Keep (fun i => i = M) w w') : Boxes w' Bt Bm M t := ⟨h.bt.keep hk h.ht, h.bm.keep hk h.hm, h.ht, h.hm⟩
theorem count_in (l : List Pk) (p : Pk) (a b : Nat) (hp : l[b]? = some p) (hab : a ≤ b) (Bt Bm M n : Nat) (t : Int) (E : List Ent) (w : World) (hB : Boxes w Bt Bm M t) (hl : l.length ≤ 100000) (ht : t ≤ 9223372036854775807)
    (hC : CntAt w M n t (cnt l a b) E) (hn : n < 1000000) :
    Calls Tryz.prog 34 #[pkV p, .int .i64 1, .pointer (some ⟨Bt, 0, none⟩), .pointer (some ⟨Bm, 0, none⟩)] w (CountPost w M (n + 1) t (cnt l a (b + 1))) := by
  by_cases hs : p.2 = 0 ∧ 0 ≤ p.1 ∧ p.1 < t
  · obtain ⟨u, k⟩ := p
    obtain ⟨rfl, h0, h1⟩ := hs
    refine count_step u 1 Bt Bm M n t (cnt l a b) (cnt l a (b + 1)) E w hB.bt hB.bm hB.ht hB.hm hC h0 h1 ht ?_ ?_ ?_ ?_ hn
    · rw [cnt_snoc l a b _ u hp hab, if_pos rfl]; simp
    · have := cnt_le l a (b + 1) u; omega
    · have := cnt_le l a b u; omega
    · intro v hv
      rw [cnt_snoc l a b _ v hp hab, if_neg]
      · rfl
      · intro e; cases e; exact hv rfl
  · refine (count_skip p 1 Bt Bm M n t (cnt l a b) E w hB.bt hB.bm hC hs).mono ?_
    rintro e w' ⟨hk, E', hC', he⟩
    refine ⟨hk, E', ⟨hC'.1.mono (by omega), hC'.2.congr (fun u u0 u1 => ?_)⟩, he⟩
    rw [cnt_snoc l a b _ u hp hab, if_neg]
    · rfl
    · intro e; rw [e] at hs; exact hs ⟨rfl, u0, u1⟩
theorem count_out (l : List Pk) (p : Pk) (a b : Nat) (hp : l[a]? = some p) (hab : a < b) (Bt Bm M n : Nat) (t : Int) (E : List Ent) (w : World) (hB : Boxes w Bt Bm M t) (hl : l.length ≤ 100000) (ht : t ≤ 9223372036854775807)
    (hC : CntAt w M n t (cnt l a b) E) (hn : n < 1000000) :
    Calls Tryz.prog 34 #[pkV p, .int .i64 (-1), .pointer (some ⟨Bt, 0, none⟩), .pointer (some ⟨Bm, 0, none⟩)] w (CountPost w M (n + 1) t (cnt l (a + 1) b)) := by
  by_cases hs : p.2 = 0 ∧ 0 ≤ p.1 ∧ p.1 < t
  · obtain ⟨u, k⟩ := p
    obtain ⟨rfl, h0, h1⟩ := hs
    refine count_step u (-1) Bt Bm M n t (cnt l a b) (cnt l (a + 1) b) E w hB.bt hB.bm hB.ht hB.hm hC h0 h1 ht ?_ ?_ ?_ ?_ hn
    · rw [cnt_tail l a b _ u hp hab, if_pos rfl]; simp; omega
    · have := cnt_le l (a + 1) b u; omega
    · have := cnt_le l a b u; omega
    · intro v hv
      rw [cnt_tail l a b _ v hp hab, if_neg]
      · rfl
      · intro e; cases e; exact hv rfl
  · refine (count_skip p (-1) Bt Bm M n t (cnt l a b) E w hB.bt hB.bm hC hs).mono ?_
    rintro e w' ⟨hk, E', hC', he⟩
    refine ⟨hk, E', ⟨hC'.1.mono (by omega), hC'.2.congr (fun u u0 u1 => ?_)⟩, he⟩
    rw [cnt_tail l a b _ u hp hab, if_neg]
    · rfl
    · intro e; rw [e] at hs; exact hs ⟨rfl, u0, u1⟩
theorem win_size (l : List Pk) (a K : Nat) (M n : Nat) (t : Int) (E : List Ent) (w : World) (ht : 1 ≤ t) (hC : CntAt w M n t (cnt l a (a + K)) E) : (E.length : Int) < t ↔ ¬ WinOk l a K t := by
  have hp : E.Pairwise (fun p q => p.1 ≠ q.1) := by
    obtain ⟨es, e, h⟩ := hC.1.tidy lawInt
    cases e
    exact h
  rw [(rep_size hC.2 hp (by omega)).1]
  constructor
  · intro h hw
    exact h (fun u h0 h1 => (cnt_pos l a (a + K) u).2 (hw u h0 h1))
  · intro h hw
    exact h (fun u h0 h1 => (cnt_pos l a (a + K) u).1 (hw u h0 h1))
theorem stepping_any (t : Int) (w : World) : Calls Tryz.prog 21 #[.int .i64 t] w fun e w' => e = .returned (.func (.func 34) #[] #[.pointer (some ⟨w.heap.size, 0, none⟩), .pointer (some ⟨w.heap.size + 2, 0, none⟩)]) ∧
    Below w.heap.size w w' ∧ Boxes w' w.heap.size (w.heap.size + 2) (w.heap.size + 1) t ∧ CntAt w' (w.heap.size + 1) 0 t (fun _ => 0) [] := by
  have hmm := @run_makeMap Tryz.prog
  have hmf : ∀ (fn : Fn) (first cap : Array Value) (w : World), (Instr.makeFunc fn first cap).run Tryz.prog w = .ok (.func fn first cap) w := fun _ _ _ _ => rfl
  go_enter Tryz.func21, Tryz.ntmps21
  go_wp2
  go_ret
  refine ⟨rfl, by go_grown, ⟨((Blk.new w _ _).alloc _).alloc _, ?_, by omega, by omega⟩, ?_, rep_nil t⟩
  · have h := Blk.new ((w.alloc (.cells #[.int .i64 t] 3)).alloc (.map #[] 0)) 72 #[.map (some (w.heap.size + 1))]
    simpa using h
  · have h := World.ownsMap_made (H := Unit) (w.alloc (.cells #[.int .i64 t] 3)) Tryz.prog 3 (plainElem Tryz.prog 3)
    rw [World.size_alloc] at h
    exact h.alloc _
theorem fair_no (v : Value) (l : List Pk) (t k : Int) (w : World) (h : t < 1 ∨ k < 1) :
    Calls Tryz.prog 9 #[v, .int .i64 t, .int .i64 k] w fun e w' => e = .returned (.bool false) ∧ w = w' := by
  rcases Int.lt_or_le t 1 with h1 | h1
  · clear h
    go_enter Tryz.func9, Tryz.ntmps9
    go_wp2
    go_ret
    exact ⟨rfl, rfl⟩
  · have h2 : k < 1 := by omega
    have h3 : ¬ t < 1 := by omega
    clear h h1
    go_enter Tryz.func9, Tryz.ntmps9
    go_wp2
    go_ret
    exact ⟨rfl, rfl⟩
theorem idx_nat (len c B o i : Nat) (h : i < len) : ∀ W, (Instr.indexAt 22 (.slice (some ⟨B, o, none⟩) len c) (.int .i64 (i : Int))).run Tryz.prog W = .ok (.pointer (some ⟨B, o + i * 2, none⟩)) W := by
  intro W
  go_simp
theorem idx_sub (len c B o j K i : Nat) (h : i = j - K) (h2 : K ≤ j) (h3 : j < len) : ∀ W, (Instr.indexAt 22 (.slice (some ⟨B, o, none⟩) len c) (.int .i64 ((j : Int) - (K : Int)))).run Tryz.prog W = .ok (.pointer (some ⟨B, o + i * 2, none⟩)) W := by
  intro W
  rw [show (j : Int) - (K : Int) = (i : Int) by omega]
  exact idx_nat len c B o i (by omega) W
theorem fair_stop (l : List Pk) (t : Int) (K j : Nat) (h1 : 1 ≤ t) (hlt : j < l.length) (hK : K ≤ j + 1) (h : ¬ WinOk l (j + 1 - K) K t) : ((false = true) ↔ FairP l t K) := by
  constructor
  · intro e; cases e
  · intro hF
    exfalso
    have := hF.2.2 (j + 1 - K) (by rw [Int.toNat_natCast]; omega)
    rw [Int.toNat_natCast] at this
    exact h this
theorem fair_more (l : List Pk) (t : Int) (K j : Nat) (hW : ∀ a, a + K ≤ j → WinOk l a K t) (h : K ≤ j + 1 → WinOk l (j + 1 - K) K t) : ∀ a, a + K ≤ j + 1 → WinOk l a K t := by
  intro a ha
  by_cases h2 : a + K ≤ j
  · exact hW a h2
  · have : a = j + 1 - K := by omega
    rw [this]
    exact h (by omega)
theorem fair_end (l : List Pk) (t : Int) (K : Nat) (h1 : 1 ≤ t) (hk : 1 ≤ K) (hW : ∀ a, a + K ≤ l.length → WinOk l a K t) : ((true = true) ↔ FairP l t K) := by
  refine ⟨fun _ => ⟨h1, by omega, fun a ha => ?_⟩, fun _ => rfl⟩
  rw [Int.toNat_natCast] at ha ⊢
  exact hW a ha
set_option maxHeartbeats 8000000 in
theorem fair_yes (v : Value) (l : List Pk) (t : Int) (K : Nat) (w : World) (hv : PicksAt w w.heap.size v l) (hl : l.length ≤ 100000) (h1 : 1 ≤ t) (ht : t ≤ 9223372036854775807) (hk1 : 1 ≤ K) (hk2 : (K : Int) ≤ 9223372036854775807) :
    Calls Tryz.prog 9 #[v, .int .i64 t, .int .i64 (K : Int)] w fun e w' => Below w.heap.size w w' ∧ ∃ b, e = .returned (.bool b) ∧ (b = true ↔ FairP l t K) := by
  obtain ⟨a, c, rfl, hc, hp⟩ := id hv
  have h3 : ¬ t < 1 := by omega
  have h4 : ¬ (K : Int) < 1 := by omega
  have hS := Lib.hid (stepping_any t w)
  have HP := Lib.hid hp
  have HT := Lib.hid h1
  have HT2 := Lib.hid ht
  have HK1 := Lib.hid hk1
  clear hv hp h1 ht
  go_enter Tryz.func9, Tryz.ntmps9
  go_upto_region 4 with (go_at_call 21; refine hS.out.mono ?_; rintro e w1 ⟨rfl, b1, hB1, hC1⟩)
  clear hS h3 h4
  have s1 := b1.size
  have hMl : w.heap.size + 1 < w1.heap.size := by
    obtain ⟨es, clock, hb, _⟩ := hC1.1
    exact (Array.getElem?_eq_some_iff.1 hb).1
  go_upto_region 5 with fail
  go_loopw [21] (fun i wr => ∃ (j : Nat) (E : List Ent), j ≤ l.length ∧ i = .int .i64 (j : Int) ∧ Below w.heap.size w wr ∧ w1.heap.size ≤ wr.heap.size ∧ Boxes wr w.heap.size (w.heap.size + 2) (w.heap.size + 1) t ∧ CntAt wr (w.heap.size + 1) (2 * j) t (cnt l (j - K) j) E ∧
      ∀ a, a + K ≤ j → WinOk l a K t)
    (fun i _ => l.length - (intOf i).toNat)
  case atStart =>
    refine ⟨0, [], by omega, rfl, b1, Nat.le_refl _, hB1, ⟨hC1.1, hC1.2.congr (fun u _ _ => ?_)⟩, fun a ha => by have := HK1.out; omega⟩
    unfold cnt
    simp
  case round =>
    obtain ⟨j, E, hj, rfl, hb, hsz, hB, hC, hW⟩ := hrel
    by_cases hlt : j < l.length
    · obtain ⟨p, hpj⟩ : ∃ p, l[j]? = some p := ⟨_, List.getElem?_eq_getElem hlt⟩
      obtain ⟨B, o, rfl, hB1', hB2', c0, c1⟩ := HP.out j p hpj
      replace c0 := (hb.cell (p := ⟨B, o + j * 2, none⟩) hB1').trans c0
      replace c1 := (hb.cell (p := ⟨B, o + (j * 2 + 1), none⟩) hB1').trans c1
      rw [← Nat.add_assoc] at c1
      have HC1 := Lib.hid (count_in l p (j - K) j hpj (by omega) w.heap.size (w.heap.size + 2) (w.heap.size + 1) (2 * j) t E (wr.alloc (.cells #[.int .i64 p.1, .int .i64 p.2] 46)) (hB.keep ((Keep.refl _ wr).alloc _)) hl HT2.out ⟨hC.1.alloc _, hC.2⟩ (by omega))
      obtain ⟨u, q⟩ := p
      simp only at c0 c1 HC1
      have HBx := Lib.hid hB
      have HW := Lib.hid hW
      have HK2 := Lib.hid (fun (w4 : World) (hk : Keep (fun i => i = w.heap.size + 1) (wr.alloc (.cells #[.int .i64 u, .int .i64 q] 46)) w4) => (show Below w.heap.size w w4 ∧ w1.heap.size ≤ w4.heap.size ∧ Boxes w4 w.heap.size (w.heap.size + 2) (w.heap.size + 1) t from
        ⟨(hb.alloc (by have := hb.size; omega) _).trans (hk.below (by have := hb.size; simp; omega) (fun i _ e => by omega)), by have := hk.size; simp at this; omega, (HBx.out.keep ((Keep.refl _ wr).alloc _)).keep hk⟩))
      clear hpj hB hC hW
      by_cases hK3 : K ≤ j
      · obtain ⟨i, hi⟩ : ∃ i, i = j - K := ⟨_, rfl⟩
        obtain ⟨p2, hpi⟩ : ∃ p, l[i]? = some p := ⟨_, List.getElem?_eq_getElem (by omega)⟩
        obtain ⟨B2, o2, eB, hB3', hB4', d0, d1⟩ := HP.out i p2 hpi
        obtain ⟨rfl, rfl⟩ : B = B2 ∧ o = o2 := by simpa using eB
        have HD := Lib.hid (fun (w4 : World) (hb4 : Below w.heap.size w w4) => (show w4.cell? ⟨B, o + i * 2, none⟩ = some (.int .i64 p2.1) ∧ w4.cell? ⟨B, o + i * 2 + 1, none⟩ = some (.int .i64 p2.2) from
          ⟨(hb4.cell (p := ⟨B, o + i * 2, none⟩) hB1').trans d0, by rw [Nat.add_assoc]; exact (hb4.cell (p := ⟨B, o + (i * 2 + 1), none⟩) hB1').trans d1⟩))
        have HC2 := Lib.hid (fun (w4 : World) (E4 : List Ent) (hB4 : Boxes w4 w.heap.size (w.heap.size + 2) (w.heap.size + 1) t) (hC4 : CntAt w4 (w.heap.size + 1) (2 * j + 1) t (cnt l i (j + 1)) E4) =>
          count_out l p2 i (j + 1) hpi (by omega) w.heap.size (w.heap.size + 2) (w.heap.size + 1) (2 * j + 1) t E4 w4 hB4 hl HT2.out hC4 (by omega))
        rw [← hi] at HC1
        have hix := idx_sub l.length c B o j K i (by omega) (by omega) (by omega)
        have HI := Lib.hid hi
        have hK7 : (K : Int) ≤ 100000 := by omega
        obtain ⟨u2, q2⟩ := p2
        simp only at HD HC2
        have hx1 : (K : Int) ≤ (j : Int) := by omega
        have hx2 : (K : Int) - 1 ≤ (j : Int) := by omega
        clear hpi d0 d1 hK3 eB hk2 hi
        go_upto_region 9 with (first
          | (go_at_call 34; refine HC1.out.mono ?_; rintro e w4 ⟨k4, E4, hC4, rfl⟩; obtain ⟨hb4, hs4, hB4⟩ := HK2.out w4 k4; obtain ⟨d0, d1⟩ := HD.out w4 hb4; have HC3 := Lib.hid (HC2.out w4 E4 hB4 hC4)))
        go_wp2_with (first
          | (go_at_call 34; refine HC3.out.mono ?_; rintro e w5 ⟨k5, E5, hC5, rfl⟩))
        · rename_i hE
          go_ret
          have hi2 := HI.out
          have hb5 : Below w.heap.size w w5 := hb4.trans (k5.below hb4.size (fun i _ e => by omega))
          refine ⟨hb5, false, rfl, fair_stop l t K j HT.out hlt (by omega) ?_⟩
          rw [show j + 1 = (i + 1) + K by omega] at hC5
          rw [show j + 1 - K = i + 1 by omega]
          exact (win_size l (i + 1) K _ _ t E5 w5 HT.out hC5).1 hE
        · rename_i hE
          have hi2 := HI.out
          have hb5 : Below w.heap.size w w5 := hb4.trans (k5.below hb4.size (fun i _ e => by omega))
          have hC6 := hC5
          rw [show i + 1 = j + 1 - K by omega] at hC6
          refine ⟨⟨j + 1, E5, by omega, by go_num, hb5, Nat.le_trans hs4 k5.size, hB4.keep k5, ⟨hC6.1.mono (by omega), hC6.2⟩, fair_more l t K j HW.out (fun _ => ?_)⟩, by simp [intOf]; omega⟩
          rw [show j + 1 = (i + 1) + K by omega] at hC5
          rw [show j + 1 - K = i + 1 by omega]
          apply Classical.byContradiction
          intro hn
          have := (win_size l (i + 1) K _ _ t E5 w5 HT.out hC5).2 hn
          omega
      · have hK4 : ¬ (K : Int) ≤ (j : Int) := by omega
        have e1 : j - K = j + 1 - K ∨ j + 1 ≤ K := by omega
        have HE : Hid (cnt l (j - K) (j + 1) = cnt l (j + 1 - K) (j + 1)) := Lib.hid (by rw [show j - K = j + 1 - K by omega])
        by_cases hK5 : j + 1 = K
        · have hK6 : (K : Int) - 1 ≤ (j : Int) := by omega
          have HJ := Lib.hid hK5
          clear hK3 hK5 e1
          go_wp2_with (go_at_call 34; refine HC1.out.mono ?_; rintro e w4 ⟨k4, E4, hC4, rfl⟩; obtain ⟨hb4, hs4, hB4⟩ := HK2.out w4 k4)
          · rename_i hE
            go_ret
            rw [HE.out] at hC4
            have e5 : j + 1 = (j + 1 - K) + K := by have := HJ.out; omega
            refine ⟨hb4, false, rfl, fair_stop l t K j HT.out hlt (by have := HJ.out; omega) ?_⟩
            rw [e5] at hC4
            rw [show j + 1 - K + K - K = j + 1 - K by omega] at hC4
            exact (win_size l (j + 1 - K) K _ _ t E4 w4 HT.out hC4).1 hE
          · rename_i hE
            rw [HE.out] at hC4
            refine ⟨⟨j + 1, E4, by omega, by go_num, hb4, hs4, hB4, ⟨hC4.1.mono (by omega), hC4.2⟩, fair_more l t K j HW.out (fun _ => ?_)⟩, by simp [intOf]; omega⟩
            have e5 : j + 1 = (j + 1 - K) + K := by have := HJ.out; omega
            rw [e5] at hC4
            rw [show j + 1 - K + K - K = j + 1 - K by omega] at hC4
            apply Classical.byContradiction
            intro hn
            have := (win_size l (j + 1 - K) K _ _ t E4 w4 HT.out hC4).2 hn
            omega
        · have hK6 : ¬ (K : Int) - 1 ≤ (j : Int) := by omega
          have HJ := Lib.hid (show ¬ K ≤ j + 1 by omega)
          clear hK3 hK5 e1
          go_wp2_with (go_at_call 34; refine HC1.out.mono ?_; rintro e w4 ⟨k4, E4, hC4, rfl⟩; obtain ⟨hb4, hs4, hB4⟩ := HK2.out w4 k4)
          rw [HE.out] at hC4
          exact ⟨⟨j + 1, E4, by omega, by go_num, hb4, hs4, hB4, ⟨hC4.1.mono (by omega), hC4.2⟩, fair_more l t K j HW.out (fun h => absurd h HJ.out)⟩, by simp [intOf]; omega⟩
    · have hje : j = l.length := by omega
      subst hje
      have HW := Lib.hid hW
      clear hW
      go_wp2
      go_ret
      exact ⟨hb, true, rfl, fair_end l t K HT.out HK1.out HW.out⟩
end Go.Proofs.YtkmadabpfialbaaGreatDoor
