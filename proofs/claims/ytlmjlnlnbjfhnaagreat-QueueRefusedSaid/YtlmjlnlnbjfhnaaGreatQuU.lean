/- Layer 10's laws: works; QueueKnown. Written by tools/gen_qknown.py. -/
import Derived.Test.YtlmjlnlnbjfhnaaGreatQuV
namespace Go.Proofs.YtlmjlnlnbjfhnaaGreat
open Go.ChangeShapes Go.WideShapes Go.ChangeAt Go.RowKit
set_option linter.unusedVariables false
set_option maxRecDepth 100000
set_option linter.unusedSimpArgs false
abbrev hereCs : Array Value := #[.int .i64 (hereM.t : Int), .int .i64 (hereM.o : Int), .int .i64 (hereM.n : Int)]
theorem hereC {w : World} {b : Nat} (h : Blk w b 24 hereCs) : w.cell? ⟨b, 0, none⟩ = some (.int .i64 (hereM.t : Int)) ∧ w.cell? ⟨b, 1, none⟩ = some (.int .i64 (hereM.o : Int)) ∧ w.cell? ⟨b, 2, none⟩ = some (.int .i64 (hereM.n : Int)) := ⟨h.cell 0 _ rfl, h.cell 1 _ rfl, h.cell 2 _ rfl⟩
theorem nofC {b C S : Nat} (h : b ≠ C ∧ b ≠ S) : ¬ ofCells C S b := fun e => e.elim h.1 h.2
set_option maxHeartbeats 8000000 in
theorem works_any (w : World) : Calls Tryz.prog 10 #[] w fun e w' => e = .returned (.bool true) ∧ Below w.heap.size w w' := by
  go_enter Tryz.func10, Tryz.ntmps10
  go_upto_region 2 with (go_at_call 7; refine (here_any _).mono ?_; rintro e w1 ⟨rfl, b1⟩)
  have m1 : Blk (w1.alloc (.cells hereCs 24)) w1.heap.size 24 hereCs := Blk.new w1 _ _
  generalize hV : (w1.alloc _) = V at *
  have bV : Below w.heap.size w V := by rw [← hV]; exact b1.alloc b1.size _
  clear hV
  have HM := Lib.hid m1
  obtain ⟨d0, d1, d2⟩ := hereC m1
  clear m1
  generalize w1.heap.size = bm at *
  have HSz := Lib.hid (size_any hereM V here_ok)
  go_upto_region 3 with (first
    | (go_at_call 9; (with_reducible refine HSz.out.mono ?_); rintro e w2 ⟨rfl, b2⟩; have HNw := Lib.hid (vnew w2 rfl))
    | (go_at_call 8; (with_reducible refine HNw.out.mono ?_); rintro e w3 ⟨C, S, mm, rfl, hq, b3, hC, hS⟩))
  have HB := Lib.hid ((bV.trans (b2.mono bV.size)).trans (b3.mono (by have := bV.size; have := b2.size; omega)))
  have HMC := Lib.hid (show bm ≠ C ∧ bm ≠ S by have := HM.out.lt; have := b2.size; omega)
  have HCS := Lib.hid (show ∀ i, ofCells C S i → w.heap.size ≤ i from fun i hi => by have := bV.size; have := b2.size; rcases hi with hi | hi <;> omega)
  have HM := Lib.hid ((HM.out.below b2 HM.out.lt).below b3 (by have := HM.out.lt; have := b2.size; omega))
  have HQ := Lib.hid hq
  have HN := Lib.hid (show (0 : Int) ≤ 0 ∧ (0 : Int) ≤ 0 by decide)
  clear d0 d1 d2 hq b1 b2 b3 bV hC hS
  obtain ⟨d0, d1, d2⟩ := hereC HM.out
  have HP0 := Lib.hid fun W => place_any 0 W (by omega) (kI := 0) rfl
  have HP1 := Lib.hid fun W => place_any 1 W (by omega) (kI := 1) rfl
  obtain ⟨a0, ha0⟩ : ∃ a : Int, a = (placeN 0 : Nat) := ⟨_, rfl⟩
  obtain ⟨a1, ha1⟩ : ∃ a : Int, a = (placeN 1 : Nat) := ⟨_, rfl⟩
  have A0B : 0 ≤ a0 ∧ a0 ≤ 1000 := by rw [ha0]; decide
  have HA0 := Lib.hid ha0
  have HA1 := Lib.hid ha1
  rw [← ha0] at HP0
  rw [← ha1] at HP1
  clear ha0 ha1
  go_upto_region 6 with (first
    | (go_at_call 11; (with_reducible refine (HP0.out _).mono ?_); rintro e w4 ⟨rfl, hb⟩; have HQ := Lib.hid (HQ.out.below hb); have HM := Lib.hid (HM.out.below hb HM.out.lt); have HB := Lib.hid (HB.out.trans (hb.mono HB.out.size)); clear d0 d1 d2 hb; obtain ⟨d0, d1, d2⟩ := hereC HM.out))
  have HC0 := Lib.hid (vpush 0 0 (by omega) HA0.out (2) (by omega) (L4 [2] [] [] []) (by intro j hj; rcases four hj with rfl | rfl | rfl | rfl <;> rfl) (l4_not (by decide) (by decide) (by decide) (by decide)) HQ.out HN.out (by omega))
  go_wp2_with (first
    | (go_at_call 26; (with_reducible refine HC0.out.mono ?_); rintro e w10 ⟨rfl, ⟨⟨mm0, n0, hq, hn⟩, hk⟩⟩; have HQ := Lib.hid hq; have HN := Lib.hid (show 0 ≤ n0 ∧ n0 ≤ 50 from hn); have HM := Lib.hid (HM.out.keep hk (nofC HMC.out)); have HB := Lib.hid (HB.out.trans (hk.below HB.out.size (fun i _ hi => HCS.out i hi))); clear d0 d1 d2 hq hn hk HC0; obtain ⟨d0, d1, d2⟩ := hereC HM.out; have HC1 := Lib.hid (vpush 50 0 (by omega) HA0.out (0) (by omega) (L4 [2, 0] [] [] []) (by intro j hj; rcases four hj with rfl | rfl | rfl | rfl <;> rfl) (l4_not (by decide) (by decide) (by decide) (by decide)) HQ.out HN.out (by omega)))
    | (go_at_call 26; (with_reducible refine HC1.out.mono ?_); rintro e w11 ⟨rfl, ⟨⟨mm1, n1, hq, hn⟩, hk⟩⟩; have HQ := Lib.hid hq; have HN := Lib.hid (show 0 ≤ n1 ∧ n1 ≤ 100 from hn); have HM := Lib.hid (HM.out.keep hk (nofC HMC.out)); have HB := Lib.hid (HB.out.trans (hk.below HB.out.size (fun i _ hi => HCS.out i hi))); clear d0 d1 d2 hq hn hk HC1; obtain ⟨d0, d1, d2⟩ := hereC HM.out; have HC2 := Lib.hid (vpush 100 0 (by omega) HA0.out (1) (by omega) (L4 [2, 0, 1] [] [] []) (by intro j hj; rcases four hj with rfl | rfl | rfl | rfl <;> rfl) (l4_not (by decide) (by decide) (by decide) (by decide)) HQ.out HN.out (by omega)))
    | (go_at_call 26; (with_reducible refine HC2.out.mono ?_); rintro e w12 ⟨rfl, ⟨⟨mm2, n2, hq, hn⟩, hk⟩⟩; have HQ := Lib.hid hq; have HN := Lib.hid (show 0 ≤ n2 ∧ n2 ≤ 150 from hn); have HM := Lib.hid (HM.out.keep hk (nofC HMC.out)); have HB := Lib.hid (HB.out.trans (hk.below HB.out.size (fun i _ hi => HCS.out i hi))); clear d0 d1 d2 hq hn hk HC2; obtain ⟨d0, d1, d2⟩ := hereC HM.out; have HC3 := Lib.hid (vlook 0 (by omega) HA0.out [2, 0, 1] rfl 3 rfl HQ.out))
    | (go_at_call 24; (with_reducible refine HC3.out.mono ?_); rintro e w13 ⟨va, vc, rfl, hrow, hb⟩; have HQ := Lib.hid (HQ.out.below hb); have HR := Lib.hid hrow; have HM := Lib.hid (HM.out.below hb HM.out.lt); have HB := Lib.hid (HB.out.trans (hb.mono HB.out.size)); clear d0 d1 d2 hrow hb HC3; obtain ⟨d0, d1, d2⟩ := hereC HM.out; have HC4 := Lib.hid (vints _ [2, 0, 1] _ w13 #[.int .i64 2, .int .i64 0, .int .i64 1] HR.out (by decide) rfl (k := 3) rfl))
    | (go_at_call 23; (with_reducible refine HC4.out.mono ?_); rintro e w14 ⟨rfl, hb⟩; have HQ := Lib.hid (HQ.out.below hb); have HM := Lib.hid (HM.out.below hb HM.out.lt); have HB := Lib.hid (HB.out.trans (hb.mono HB.out.size)); clear d0 d1 d2 hb HC4; obtain ⟨d0, d1, d2⟩ := hereC HM.out; have HC5 := Lib.hid (vrem 150 0 (by omega) HA0.out (0) 1 (by omega) (L4 [2, 1] [] [] []) (by decide) (by intro j hj; rcases four hj with rfl | rfl | rfl | rfl <;> rfl) HQ.out HN.out (by omega)))
    | (go_at_call 27; (with_reducible refine HC5.out.mono ?_); rintro e w15 ⟨rfl, ⟨⟨mm5, n5, hq, hn⟩, hk⟩⟩; have HQ := Lib.hid hq; have HN := Lib.hid (show 0 ≤ n5 ∧ n5 ≤ 200 from hn); have HM := Lib.hid (HM.out.keep hk (nofC HMC.out)); have HB := Lib.hid (HB.out.trans (hk.below HB.out.size (fun i _ hi => HCS.out i hi))); clear d0 d1 d2 hq hn hk HC5; obtain ⟨d0, d1, d2⟩ := hereC HM.out; have HC6 := Lib.hid (vrem 200 0 (by omega) HA0.out (0) 0 (by omega) (L4 [2, 1] [] [] []) (by decide) (by intro j hj; rcases four hj with rfl | rfl | rfl | rfl <;> rfl) HQ.out HN.out (by omega)))
    | (go_at_call 27; (with_reducible refine HC6.out.mono ?_); rintro e w16 ⟨rfl, ⟨⟨mm6, n6, hq, hn⟩, hk⟩⟩; have HQ := Lib.hid hq; have HN := Lib.hid (show 0 ≤ n6 ∧ n6 ≤ 250 from hn); have HM := Lib.hid (HM.out.keep hk (nofC HMC.out)); have HB := Lib.hid (HB.out.trans (hk.below HB.out.size (fun i _ hi => HCS.out i hi))); clear d0 d1 d2 hq hn hk HC6; obtain ⟨d0, d1, d2⟩ := hereC HM.out; have HC7 := Lib.hid (vlook 0 (by omega) HA0.out [2, 1] rfl 2 rfl HQ.out))
    | (go_at_call 24; (with_reducible refine HC7.out.mono ?_); rintro e w17 ⟨va, vc, rfl, hrow, hb⟩; have HQ := Lib.hid (HQ.out.below hb); have HR := Lib.hid hrow; have HM := Lib.hid (HM.out.below hb HM.out.lt); have HB := Lib.hid (HB.out.trans (hb.mono HB.out.size)); clear d0 d1 d2 hrow hb HC7; obtain ⟨d0, d1, d2⟩ := hereC HM.out; have HC8 := Lib.hid (vints _ [2, 1] _ w17 #[.int .i64 2, .int .i64 1] HR.out (by decide) rfl (k := 2) rfl))
    | (go_at_call 23; (with_reducible refine HC8.out.mono ?_); rintro e w18 ⟨rfl, hb⟩; have HQ := Lib.hid (HQ.out.below hb); have HM := Lib.hid (HM.out.below hb HM.out.lt); have HB := Lib.hid (HB.out.trans (hb.mono HB.out.size)); clear d0 d1 d2 hb HC8; obtain ⟨d0, d1, d2⟩ := hereC HM.out; have HC9 := Lib.hid (vpop 250 0 (by omega) HA0.out (2) (L4 [1] [] [] []) (by decide) (by intro j hj; rcases four hj with rfl | rfl | rfl | rfl <;> rfl) HQ.out HN.out (by omega)))
    | (go_at_call 28; (with_reducible refine HC9.out.mono ?_); rintro e w19 ⟨rfl, ⟨⟨mm9, n9, hq, hn⟩, hk⟩⟩; have HQ := Lib.hid hq; have HN := Lib.hid (show 0 ≤ n9 ∧ n9 ≤ 300 from hn); have HM := Lib.hid (HM.out.keep hk (nofC HMC.out)); have HB := Lib.hid (HB.out.trans (hk.below HB.out.size (fun i _ hi => HCS.out i hi))); clear d0 d1 d2 hq hn hk HC9; obtain ⟨d0, d1, d2⟩ := hereC HM.out; have HC10 := Lib.hid (vpop 300 0 (by omega) HA0.out (1) (L4 [] [] [] []) (by decide) (by intro j hj; rcases four hj with rfl | rfl | rfl | rfl <;> rfl) HQ.out HN.out (by omega)))
    | (go_at_call 28; (with_reducible refine HC10.out.mono ?_); rintro e w20 ⟨rfl, ⟨⟨mm10, n10, hq, hn⟩, hk⟩⟩; have HQ := Lib.hid hq; have HN := Lib.hid (show 0 ≤ n10 ∧ n10 ≤ 350 from hn); have HM := Lib.hid (HM.out.keep hk (nofC HMC.out)); have HB := Lib.hid (HB.out.trans (hk.below HB.out.size (fun i _ hi => HCS.out i hi))); clear d0 d1 d2 hq hn hk HC10; obtain ⟨d0, d1, d2⟩ := hereC HM.out; have HC11 := Lib.hid (vpop 350 0 (by omega) HA0.out (-1) (L4 [] [] [] []) (by decide) (by intro j hj; rcases four hj with rfl | rfl | rfl | rfl <;> rfl) HQ.out HN.out (by omega)))
    | (go_at_call 28; (with_reducible refine HC11.out.mono ?_); rintro e w21 ⟨rfl, ⟨⟨mm11, n11, hq, hn⟩, hk⟩⟩; have HQ := Lib.hid hq; have HN := Lib.hid (show 0 ≤ n11 ∧ n11 ≤ 400 from hn); have HM := Lib.hid (HM.out.keep hk (nofC HMC.out)); have HB := Lib.hid (HB.out.trans (hk.below HB.out.size (fun i _ hi => HCS.out i hi))); clear d0 d1 d2 hq hn hk HC11; obtain ⟨d0, d1, d2⟩ := hereC HM.out; have HC12 := Lib.hid (vlook 0 (by omega) HA0.out [] rfl 0 rfl HQ.out))
    | (go_at_call 24; (with_reducible refine HC12.out.mono ?_); rintro e w22 ⟨va, vc, rfl, hrow, hb⟩; have HQ := Lib.hid (HQ.out.below hb); have HR := Lib.hid hrow; have HM := Lib.hid (HM.out.below hb HM.out.lt); have HB := Lib.hid (HB.out.trans (hb.mono HB.out.size)); clear d0 d1 d2 hrow hb HC12; obtain ⟨d0, d1, d2⟩ := hereC HM.out))
  go_ret
  exact ⟨rfl, HB.out⟩
set_option maxHeartbeats 8000000 in
theorem known10_law (w : World) : Calls Tryz.prog 6 #[] w fun e w' => e = .returned (.bool true) ∧ Below w.heap.size w w' := by
  go_enter Tryz.func6, Tryz.ntmps6
  go_upto_region 2 with (go_at_call 7; refine (here_any _).mono ?_; rintro e w1 ⟨rfl, b1⟩)
  have m1 : Blk (w1.alloc (.cells hereCs 24)) w1.heap.size 24 hereCs := Blk.new w1 _ _
  generalize hV : (w1.alloc _) = V at *
  have bV : Below w.heap.size w V := by rw [← hV]; exact b1.alloc b1.size _
  clear hV
  have HM := Lib.hid m1
  obtain ⟨d0, d1, d2⟩ := hereC m1
  clear m1
  generalize w1.heap.size = bm at *
  have HSz := Lib.hid (size_any hereM V here_ok)
  go_upto_region 3 with (first
    | (go_at_call 9; (with_reducible refine HSz.out.mono ?_); rintro e w2 ⟨rfl, b2⟩; have HNw := Lib.hid (vnew w2 rfl))
    | (go_at_call 8; (with_reducible refine HNw.out.mono ?_); rintro e w3 ⟨C, S, mm, rfl, hq, b3, hC, hS⟩))
  have HB := Lib.hid ((bV.trans (b2.mono bV.size)).trans (b3.mono (by have := bV.size; have := b2.size; omega)))
  have HMC := Lib.hid (show bm ≠ C ∧ bm ≠ S by have := HM.out.lt; have := b2.size; omega)
  have HCS := Lib.hid (show ∀ i, ofCells C S i → w.heap.size ≤ i from fun i hi => by have := bV.size; have := b2.size; rcases hi with hi | hi <;> omega)
  have HM := Lib.hid ((HM.out.below b2 HM.out.lt).below b3 (by have := HM.out.lt; have := b2.size; omega))
  have HQ := Lib.hid hq
  have HN := Lib.hid (show (0 : Int) ≤ 0 ∧ (0 : Int) ≤ 0 by decide)
  clear d0 d1 d2 hq b1 b2 b3 bV hC hS
  obtain ⟨d0, d1, d2⟩ := hereC HM.out
  have HP0 := Lib.hid fun W => place_any 0 W (by omega) (kI := 0) rfl
  have HP1 := Lib.hid fun W => place_any 1 W (by omega) (kI := 1) rfl
  obtain ⟨a0, ha0⟩ : ∃ a : Int, a = (placeN 0 : Nat) := ⟨_, rfl⟩
  obtain ⟨a1, ha1⟩ : ∃ a : Int, a = (placeN 1 : Nat) := ⟨_, rfl⟩
  have A0B : 0 ≤ a0 ∧ a0 ≤ 1000 := by rw [ha0]; decide
  have HA0 := Lib.hid ha0
  have HA1 := Lib.hid ha1
  rw [← ha0] at HP0
  rw [← ha1] at HP1
  clear ha0 ha1
  go_upto_region 6 with (first
    | (go_at_call 11; (with_reducible refine (HP0.out _).mono ?_); rintro e w4 ⟨rfl, hb⟩; have HQ := Lib.hid (HQ.out.below hb); have HM := Lib.hid (HM.out.below hb HM.out.lt); have HB := Lib.hid (HB.out.trans (hb.mono HB.out.size)); clear d0 d1 d2 hb; obtain ⟨d0, d1, d2⟩ := hereC HM.out)
    | (go_at_call 11; (with_reducible refine (HP1.out _).mono ?_); rintro e w5 ⟨rfl, hb⟩; have HQ := Lib.hid (HQ.out.below hb); have HM := Lib.hid (HM.out.below hb HM.out.lt); have HB := Lib.hid (HB.out.trans (hb.mono HB.out.size)); clear d0 d1 d2 hb; obtain ⟨d0, d1, d2⟩ := hereC HM.out))
  have HC0 := Lib.hid (vpush 0 0 (by omega) HA0.out (7) (by omega) (L4 [7] [] [] []) (by intro j hj; rcases four hj with rfl | rfl | rfl | rfl <;> rfl) (l4_not (by decide) (by decide) (by decide) (by decide)) HQ.out HN.out (by omega))
  go_upto_region 8 with (first
    | (go_at_call 26; (with_reducible refine HC0.out.mono ?_); rintro e w10 ⟨rfl, ⟨⟨mm0, n0, hq, hn⟩, hk⟩⟩; have HQ := Lib.hid hq; have HN := Lib.hid (show 0 ≤ n0 ∧ n0 ≤ 50 from hn); have HM := Lib.hid (HM.out.keep hk (nofC HMC.out)); have HB := Lib.hid (HB.out.trans (hk.below HB.out.size (fun i _ hi => HCS.out i hi))); clear d0 d1 d2 hq hn hk HC0; obtain ⟨d0, d1, d2⟩ := hereC HM.out; have HC1 := Lib.hid (vload 50 53 8 HA0.out (rdL_at (by rw [HQ.out.qs.len]; omega) (HQ.out.qs.is 0 (by omega)).first) HQ.out HN.out (by omega)))
    | (go_at_call 32; (with_reducible refine HC1.out.mono ?_); rintro e w11 ⟨rfl, ⟨hq, hn⟩, hk⟩; have HQ := Lib.hid hq; have HN := Lib.hid hn; have HM := Lib.hid (HM.out.keep hk (nofC HMC.out)); have HB := Lib.hid (HB.out.trans (hk.below HB.out.size (fun i _ hi => HCS.out i hi))); clear d0 d1 d2 hq hn hk HC1; obtain ⟨d0, d1, d2⟩ := hereC HM.out; have HC2 := Lib.hid (vload 100 54 8 (aI := a0 + 1) (by rw [HA0.out]; rfl) (rdL_at (by rw [HQ.out.qs.len]; omega) (HQ.out.qs.is 0 (by omega)).last) HQ.out HN.out (by omega)))
    | (go_at_call 32; (with_reducible refine HC2.out.mono ?_); rintro e w12 ⟨rfl, ⟨hq, hn⟩, hk⟩; have HQ := Lib.hid hq; have HN := Lib.hid hn; have HM := Lib.hid (HM.out.keep hk (nofC HMC.out)); have HB := Lib.hid (HB.out.trans (hk.below HB.out.size (fun i _ hi => HCS.out i hi))); clear d0 d1 d2 hq hn hk HC2; obtain ⟨d0, d1, d2⟩ := hereC HM.out; have HC3 := Lib.hid (next_any hereM 7 w12 here_ok (by decide)))
    | (go_at_call 25; (with_reducible refine HC3.out.mono ?_); rintro e w13 ⟨rfl, hb⟩; have HQ := Lib.hid (HQ.out.below hb); have HM := Lib.hid (HM.out.below hb HM.out.lt); have HB := Lib.hid (HB.out.trans (hb.mono HB.out.size)); clear d0 d1 d2 hb HC3; obtain ⟨d0, d1, d2⟩ := hereC HM.out; have HC4 := Lib.hid (vload 150 45 0 (aI := (nxN hereM 7 : Nat)) rfl (rdL_at (by rw [HQ.out.qs.len]; omega) ((HQ.out.qs.is 0 (by omega)).next [] 7 [] rfl)) HQ.out HN.out (by omega)))
    | (go_at_call 32; (with_reducible refine HC4.out.mono ?_); rintro e w14 ⟨rfl, ⟨hq, hn⟩, hk⟩; have HQ := Lib.hid hq; have HN := Lib.hid hn; have HM := Lib.hid (HM.out.keep hk (nofC HMC.out)); have HB := Lib.hid (HB.out.trans (hk.below HB.out.size (fun i _ hi => HCS.out i hi))); clear d0 d1 d2 hq hn hk HC4; obtain ⟨d0, d1, d2⟩ := hereC HM.out; have HC5 := Lib.hid (vrem 200 0 (by omega) HA0.out (7) 1 (by omega) (L4 [] [] [] []) (by decide) (by intro j hj; rcases four hj with rfl | rfl | rfl | rfl <;> rfl) HQ.out HN.out (by omega)))
    | (go_at_call 27; (with_reducible refine HC5.out.mono ?_); rintro e w15 ⟨rfl, ⟨⟨mm5, n5, hq, hn⟩, hk⟩⟩; have HQ := Lib.hid hq; have HN := Lib.hid (show 0 ≤ n5 ∧ n5 ≤ 250 from hn); have HM := Lib.hid (HM.out.keep hk (nofC HMC.out)); have HB := Lib.hid (HB.out.trans (hk.below HB.out.size (fun i _ hi => HCS.out i hi))); clear d0 d1 d2 hq hn hk HC5; obtain ⟨d0, d1, d2⟩ := hereC HM.out; have HC6 := Lib.hid (vload 250 53 0 HA0.out (rdL_at (by rw [HQ.out.qs.len]; omega) (HQ.out.qs.is 0 (by omega)).first) HQ.out HN.out (by omega)))
    | (go_at_call 32; (with_reducible refine HC6.out.mono ?_); rintro e w16 ⟨rfl, ⟨hq, hn⟩, hk⟩; have HQ := Lib.hid hq; have HN := Lib.hid hn; have HM := Lib.hid (HM.out.keep hk (nofC HMC.out)); have HB := Lib.hid (HB.out.trans (hk.below HB.out.size (fun i _ hi => HCS.out i hi))); clear d0 d1 d2 hq hn hk HC6; obtain ⟨d0, d1, d2⟩ := hereC HM.out; have HC7 := Lib.hid (vload 300 54 0 (aI := a0 + 1) (by rw [HA0.out]; rfl) (rdL_at (by rw [HQ.out.qs.len]; omega) (HQ.out.qs.is 0 (by omega)).last) HQ.out HN.out (by omega)))
    | (go_at_call 32; (with_reducible refine HC7.out.mono ?_); rintro e w17 ⟨rfl, ⟨hq, hn⟩, hk⟩; have HQ := Lib.hid hq; have HN := Lib.hid hn; have HM := Lib.hid (HM.out.keep hk (nofC HMC.out)); have HB := Lib.hid (HB.out.trans (hk.below HB.out.size (fun i _ hi => HCS.out i hi))); clear d0 d1 d2 hq hn hk HC7; obtain ⟨d0, d1, d2⟩ := hereC HM.out; have HC8 := Lib.hid (vpush 350 0 (by omega) HA0.out (1) (by omega) (L4 [1] [] [] []) (by intro j hj; rcases four hj with rfl | rfl | rfl | rfl <;> rfl) (l4_not (by decide) (by decide) (by decide) (by decide)) HQ.out HN.out (by omega)))
    | (go_at_call 26; (with_reducible refine HC8.out.mono ?_); rintro e w18 ⟨rfl, ⟨⟨mm8, n8, hq, hn⟩, hk⟩⟩; have HQ := Lib.hid hq; have HN := Lib.hid (show 0 ≤ n8 ∧ n8 ≤ 400 from hn); have HM := Lib.hid (HM.out.keep hk (nofC HMC.out)); have HB := Lib.hid (HB.out.trans (hk.below HB.out.size (fun i _ hi => HCS.out i hi))); clear d0 d1 d2 hq hn hk HC8; obtain ⟨d0, d1, d2⟩ := hereC HM.out; have HC9 := Lib.hid (vpush 400 0 (by omega) HA0.out (2) (by omega) (L4 [1, 2] [] [] []) (by intro j hj; rcases four hj with rfl | rfl | rfl | rfl <;> rfl) (l4_not (by decide) (by decide) (by decide) (by decide)) HQ.out HN.out (by omega)))
    | (go_at_call 26; (with_reducible refine HC9.out.mono ?_); rintro e w19 ⟨rfl, ⟨⟨mm9, n9, hq, hn⟩, hk⟩⟩; have HQ := Lib.hid hq; have HN := Lib.hid (show 0 ≤ n9 ∧ n9 ≤ 450 from hn); have HM := Lib.hid (HM.out.keep hk (nofC HMC.out)); have HB := Lib.hid (HB.out.trans (hk.below HB.out.size (fun i _ hi => HCS.out i hi))); clear d0 d1 d2 hq hn hk HC9; obtain ⟨d0, d1, d2⟩ := hereC HM.out; have HC10 := Lib.hid (vpush 450 1 (by omega) HA1.out (3) (by omega) (L4 [1, 2] [3] [] []) (by intro j hj; rcases four hj with rfl | rfl | rfl | rfl <;> rfl) (l4_not (by decide) (by decide) (by decide) (by decide)) HQ.out HN.out (by omega)))
    | (go_at_call 26; (with_reducible refine HC10.out.mono ?_); rintro e w20 ⟨rfl, ⟨⟨mm10, n10, hq, hn⟩, hk⟩⟩; have HQ := Lib.hid hq; have HN := Lib.hid (show 0 ≤ n10 ∧ n10 ≤ 500 from hn); have HM := Lib.hid (HM.out.keep hk (nofC HMC.out)); have HB := Lib.hid (HB.out.trans (hk.below HB.out.size (fun i _ hi => HCS.out i hi))); clear d0 d1 d2 hq hn hk HC10; obtain ⟨d0, d1, d2⟩ := hereC HM.out; have HC11 := Lib.hid (vrem 500 0 (by omega) HA0.out (2) 1 (by omega) (L4 [1] [3] [] []) (by decide) (by intro j hj; rcases four hj with rfl | rfl | rfl | rfl <;> rfl) HQ.out HN.out (by omega)))
    | (go_at_call 27; (with_reducible refine HC11.out.mono ?_); rintro e w21 ⟨rfl, ⟨⟨mm11, n11, hq, hn⟩, hk⟩⟩; have HQ := Lib.hid hq; have HN := Lib.hid (show 0 ≤ n11 ∧ n11 ≤ 550 from hn); have HM := Lib.hid (HM.out.keep hk (nofC HMC.out)); have HB := Lib.hid (HB.out.trans (hk.below HB.out.size (fun i _ hi => HCS.out i hi))); clear d0 d1 d2 hq hn hk HC11; obtain ⟨d0, d1, d2⟩ := hereC HM.out; have HC12 := Lib.hid (vpush 550 0 (by omega) HA0.out (4) (by omega) (L4 [1, 4] [3] [] []) (by intro j hj; rcases four hj with rfl | rfl | rfl | rfl <;> rfl) (l4_not (by decide) (by decide) (by decide) (by decide)) HQ.out HN.out (by omega)))
    | (go_at_call 26; (with_reducible refine HC12.out.mono ?_); rintro e w22 ⟨rfl, ⟨⟨mm12, n12, hq, hn⟩, hk⟩⟩; have HQ := Lib.hid hq; have HN := Lib.hid (show 0 ≤ n12 ∧ n12 ≤ 600 from hn); have HM := Lib.hid (HM.out.keep hk (nofC HMC.out)); have HB := Lib.hid (HB.out.trans (hk.below HB.out.size (fun i _ hi => HCS.out i hi))); clear d0 d1 d2 hq hn hk HC12; obtain ⟨d0, d1, d2⟩ := hereC HM.out; have HC13 := Lib.hid (vlook 0 (by omega) HA0.out [1, 4] rfl 2 rfl HQ.out))
    | (go_at_call 24; (with_reducible refine HC13.out.mono ?_); rintro e w23 ⟨va, vc, rfl, hrow, hb⟩; have HQ := Lib.hid (HQ.out.below hb); have HR := Lib.hid hrow; have HM := Lib.hid (HM.out.below hb HM.out.lt); have HB := Lib.hid (HB.out.trans (hb.mono HB.out.size)); clear d0 d1 d2 hrow hb HC13; obtain ⟨d0, d1, d2⟩ := hereC HM.out; have HC14 := Lib.hid (vints _ [1, 4] _ w23 #[.int .i64 1, .int .i64 4] HR.out (by decide) rfl (k := 2) rfl))
    | (go_at_call 23; (with_reducible refine HC14.out.mono ?_); rintro e w24 ⟨rfl, hb⟩; have HQ := Lib.hid (HQ.out.below hb); have HM := Lib.hid (HM.out.below hb HM.out.lt); have HB := Lib.hid (HB.out.trans (hb.mono HB.out.size)); clear d0 d1 d2 hb HC14; obtain ⟨d0, d1, d2⟩ := hereC HM.out; have HC15 := Lib.hid (vrem 600 0 (by omega) HA0.out (3) 0 (by omega) (L4 [1, 4] [3] [] []) (by decide) (by intro j hj; rcases four hj with rfl | rfl | rfl | rfl <;> rfl) HQ.out HN.out (by omega)))
    | (go_at_call 27; (with_reducible refine HC15.out.mono ?_); rintro e w25 ⟨rfl, ⟨⟨mm15, n15, hq, hn⟩, hk⟩⟩; have HQ := Lib.hid hq; have HN := Lib.hid (show 0 ≤ n15 ∧ n15 ≤ 650 from hn); have HM := Lib.hid (HM.out.keep hk (nofC HMC.out)); have HB := Lib.hid (HB.out.trans (hk.below HB.out.size (fun i _ hi => HCS.out i hi))); clear d0 d1 d2 hq hn hk HC15; obtain ⟨d0, d1, d2⟩ := hereC HM.out; have HC16 := Lib.hid (vpop 650 1 (by omega) HA1.out (3) (L4 [1, 4] [] [] []) (by decide) (by intro j hj; rcases four hj with rfl | rfl | rfl | rfl <;> rfl) HQ.out HN.out (by omega)))
    | (go_at_call 28; (with_reducible refine HC16.out.mono ?_); rintro e w26 ⟨rfl, ⟨⟨mm16, n16, hq, hn⟩, hk⟩⟩; have HQ := Lib.hid hq; have HN := Lib.hid (show 0 ≤ n16 ∧ n16 ≤ 700 from hn); have HM := Lib.hid (HM.out.keep hk (nofC HMC.out)); have HB := Lib.hid (HB.out.trans (hk.below HB.out.size (fun i _ hi => HCS.out i hi))); clear d0 d1 d2 hq hn hk HC16; obtain ⟨d0, d1, d2⟩ := hereC HM.out; have HC17 := Lib.hid (vrem 700 0 (by omega) HA0.out (1) 1 (by omega) (L4 [4] [] [] []) (by decide) (by intro j hj; rcases four hj with rfl | rfl | rfl | rfl <;> rfl) HQ.out HN.out (by omega)))
    | (go_at_call 27; (with_reducible refine HC17.out.mono ?_); rintro e w27 ⟨rfl, ⟨⟨mm17, n17, hq, hn⟩, hk⟩⟩; have HQ := Lib.hid hq; have HN := Lib.hid (show 0 ≤ n17 ∧ n17 ≤ 750 from hn); have HM := Lib.hid (HM.out.keep hk (nofC HMC.out)); have HB := Lib.hid (HB.out.trans (hk.below HB.out.size (fun i _ hi => HCS.out i hi))); clear d0 d1 d2 hq hn hk HC17; obtain ⟨d0, d1, d2⟩ := hereC HM.out; have HC18 := Lib.hid (vpop 750 0 (by omega) HA0.out (4) (L4 [] [] [] []) (by decide) (by intro j hj; rcases four hj with rfl | rfl | rfl | rfl <;> rfl) HQ.out HN.out (by omega)))
    | (go_at_call 28; (with_reducible refine HC18.out.mono ?_); rintro e w28 ⟨rfl, ⟨⟨mm18, n18, hq, hn⟩, hk⟩⟩; have HQ := Lib.hid hq; have HN := Lib.hid (show 0 ≤ n18 ∧ n18 ≤ 800 from hn); have HM := Lib.hid (HM.out.keep hk (nofC HMC.out)); have HB := Lib.hid (HB.out.trans (hk.below HB.out.size (fun i _ hi => HCS.out i hi))); clear d0 d1 d2 hq hn hk HC18; obtain ⟨d0, d1, d2⟩ := hereC HM.out; have HC19 := Lib.hid (vpop 800 0 (by omega) HA0.out (-1) (L4 [] [] [] []) (by decide) (by intro j hj; rcases four hj with rfl | rfl | rfl | rfl <;> rfl) HQ.out HN.out (by omega)))
    | (go_at_call 28; (with_reducible refine HC19.out.mono ?_); rintro e w29 ⟨rfl, ⟨⟨mm19, n19, hq, hn⟩, hk⟩⟩; have HQ := Lib.hid hq; have HN := Lib.hid (show 0 ≤ n19 ∧ n19 ≤ 850 from hn); have HM := Lib.hid (HM.out.keep hk (nofC HMC.out)); have HB := Lib.hid (HB.out.trans (hk.below HB.out.size (fun i _ hi => HCS.out i hi))); clear d0 d1 d2 hq hn hk HC19; obtain ⟨d0, d1, d2⟩ := hereC HM.out; have HC20 := Lib.hid (vpush_no (0) 8 (by omega) HA0.out (by omega) HQ.out))
    | (go_at_call 26; (with_reducible refine HC20.out.mono ?_); rintro e w30 ⟨rfl, hb⟩; have HQ := Lib.hid (HQ.out.below hb); have HM := Lib.hid (HM.out.below hb HM.out.lt); have HB := Lib.hid (HB.out.trans (hb.mono HB.out.size)); clear d0 d1 d2 hb HC20; obtain ⟨d0, d1, d2⟩ := hereC HM.out; have HC21 := Lib.hid (vpush_no (0) (-1) (by omega) HA0.out (by omega) HQ.out))
    | (go_at_call 26; (with_reducible refine HC21.out.mono ?_); rintro e w31 ⟨rfl, hb⟩; have HQ := Lib.hid (HQ.out.below hb); have HM := Lib.hid (HM.out.below hb HM.out.lt); have HB := Lib.hid (HB.out.trans (hb.mono HB.out.size)); clear d0 d1 d2 hb HC21; obtain ⟨d0, d1, d2⟩ := hereC HM.out; have HWK := Lib.hid (works_any w31)))
  go_wp2_with (go_at_call 10; (with_reducible refine HWK.out.mono ?_); rintro e w99 ⟨rfl, hb⟩)
  go_ret
  exact ⟨rfl, HB.out.trans (hb.mono HB.out.size)⟩
end Go.Proofs.YtlmjlnlnbjfhnaaGreat
