/- WordTells returns true: the word of any header, the header of any word, and the words that are made of one, are as the document says. No condition. -/
import Derived.Test.YtinpkgbnogilfaaWordRefC
import Derived.Test.YtinpkgbnogilfaaWordH
namespace Go.Proofs.Ytinpkgbnogilfaa
open Go.ChangeShapes Go.WideShapes Go.ChangeAt Go.RowKit
set_option linter.unusedVariables false
set_option linter.unusedSimpArgs false
open Wd
abbrev headsArr (x y z : Hd) : Array Value := #[.int .i64 x.t, .int .i64 x.o, .int .i64 x.c, .int .i64 x.m, .int .i64 x.g, .int .i64 x.h, .int .i64 y.t, .int .i64 y.o, .int .i64 y.c, .int .i64 y.m, .int .i64 y.g, .int .i64 y.h, .int .i64 z.t, .int .i64 z.o, .int .i64 z.c, .int .i64 z.m, .int .i64 z.g, .int .i64 z.h]
theorem heads_at (x y z : Hd) : ∀ k : Nat, k < 3 → ∃ q : Hd, ∀ W, (Instr.index 26 (.agg #[.int .i64 x.t, .int .i64 x.o, .int .i64 x.c, .int .i64 x.m, .int .i64 x.g, .int .i64 x.h, .int .i64 y.t, .int .i64 y.o, .int .i64 y.c, .int .i64 y.m, .int .i64 y.g, .int .i64 y.h, .int .i64 z.t, .int .i64 z.o, .int .i64 z.c, .int .i64 z.m, .int .i64 z.g, .int .i64 z.h]) (.int .i64 k)).run Try.prog W = .ok (hdV q) W := by
  intro k hk
  match k, hk with
  | 0, _ => exact ⟨x, fun W => by kernel_rfl⟩
  | 1, _ => exact ⟨y, fun W => by kernel_rfl⟩
  | 2, _ => exact ⟨z, fun W => by kernel_rfl⟩
theorem words_at (a b c d : Nat) (ha : a < 18446744073709551616) (hb : b < 18446744073709551616) (hc : c < 18446744073709551616) (hd : d < 18446744073709551616) :
    ∀ k : Nat, k < 4 → ∃ z : Nat, z < 18446744073709551616 ∧ ∀ W, (Instr.index 30 (.agg #[.int .u64 a, .int .u64 b, .int .u64 c, .int .u64 d]) (.int .i64 k)).run Try.prog W = .ok (.int .u64 z) W := by
  intro k hk
  match k, hk with
  | 0, _ => exact ⟨a, ha, fun W => by kernel_rfl⟩
  | 1, _ => exact ⟨b, hb, fun W => by kernel_rfl⟩
  | 2, _ => exact ⟨c, hc, fun W => by kernel_rfl⟩
  | 3, _ => exact ⟨d, hd, fun W => by kernel_rfl⟩
theorem xor_in (a k : Nat) (ha : a < 18446744073709551616) (hk : k < 64) : ∃ z : Nat, z < 18446744073709551616 ∧ bits .xor .u64 (a : Int) (IntKind.u64.wrap (2 ^ k)) = (z : Int) := by
  have hp : (2 : Nat) ^ k < 2 ^ 64 := Nat.pow_lt_pow_right (by decide) hk
  have e64 : (18446744073709551616 : Nat) = 2 ^ 64 := by decide
  have e : IntKind.u64.wrap ((2 : Int) ^ k) = ((2 ^ k : Nat) : Int) := by
    have e1 : ((2 : Int) ^ k) = ((2 ^ k : Nat) : Int) := by simp
    rw [e1, IntKind.wrap_u64]
    generalize (2 : Nat) ^ k = q at *
    omega
  rw [e]
  refine ⟨a ^^^ 2 ^ k, ?_, u64_xor_nat a (2 ^ k) ha (by rw [e64]; exact hp)⟩
  rw [e64]
  exact Nat.xor_lt_two_pow (by rw [← e64]; exact ha) hp
/-- the header n, boxed at B, in a world that is later than w0 -/
structure NBox (w0 : World) (B : Nat) (n : Hd) (w : World) : Prop where
  base : Below w0.heap.size w0 w
  blk : Blk w B 23 (hdArr n)
set_option maxRecDepth 100000 in
set_option maxHeartbeats 4000000 in
theorem tells_any (x : Hd) (v o : Nat) (w : World) (hv : v < 18446744073709551616) (ho : o < 18446744073709551616) :
    Calls Try.prog 3 #[hdV x, .int .u64 v, .int .u64 o] w fun e w' => e = .returned (.bool true) ∧ Below w.heap.size w w' := by
  have hhsz : Hid (∀ y : Hd, (Try.prog.info? 23).map (·.size) = some (hdArr y).size) := Lib.hid (fun _ => hd_size)
  have hhone := Lib.hid hd_one
  go_enter Try.func3, Try.ntmps3
  go_upto_region 1 with fail
  generalize hW : w.alloc _ = W
  have T : HBox w w.heap.size x W := by rw [← hW]; exact ⟨by go_grown, Blk.new w _ _⟩
  clear hW
  go_upto_region 2 with (first
    | (refine wpList_load_row rfl 23 _ rfl w.heap.size rfl 23 (hdArr x) (0, 0) _ T.blk Try.underlying23 rfl (hhsz.out x) ?_; (try simp only [Act.put, List.setIfInBounds_toArray, List.set_cons_zero, List.set_cons_succ]))
    | (go_at_call 7; (with_reducible refine (near_any x _).mono ?_); rintro e w1 ⟨n, rfl, hb⟩; have T1 := T.below hb; clear hb)
    | (refine wpList_store_row rfl 23 _ _ rfl w1.heap.size (hdArr n) rfl rfl 23 zero6 (Blk.new w1 _ _) (hhsz.out n) rfl (hhone.out n) ?_; (try simp only [Act.put, List.setIfInBounds_toArray, List.set_cons_zero, List.set_cons_succ])))
  rw [World.setRow_alloc_new]
  have T2 := T1.below ((Below.refl _ w1).alloc (Nat.le_refl _) (.cells (hdArr n) 23))
  have N2 := Blk.new w1 23 (hdArr n)
  generalize hW : w1.alloc _ = w2 at *
  generalize w1.heap.size = BN at *
  clear hW T T1
  go_upto_region 3 with (first
    | (refine wpList_load_row rfl 23 _ rfl BN rfl 23 (hdArr n) (0, 0) _ N2 Try.underlying23 rfl (hhsz.out n) ?_; (try simp only [Act.put, List.setIfInBounds_toArray, List.set_cons_zero, List.set_cons_succ]))
    | (go_at_call 8; (with_reducible refine (plain_any n _).mono ?_); rintro e w3 ⟨p, rfl, hb⟩; have T3 := T2.below hb; have N3 := N2.below hb N2.lt; clear hb)
    | (refine wpList_store_row rfl 23 _ _ rfl w3.heap.size (hdArr p) rfl rfl 23 zero6 (Blk.new w3 _ _) (hhsz.out p) rfl (hhone.out p) ?_; (try simp only [Act.put, List.setIfInBounds_toArray, List.set_cons_zero, List.set_cons_succ])))
  rw [World.setRow_alloc_new]
  have T4 := T3.below ((Below.refl _ w3).alloc (Nat.le_refl _) (.cells (hdArr p) 23))
  have N4 := N3.alloc (.cells (hdArr p) 23)
  have P4 := Blk.new w3 23 (hdArr p)
  generalize hW : w3.alloc _ = w4 at *
  generalize w3.heap.size = BP at *
  clear hW T2 N2 T3 N3
  go_wp2_with (first
    | (refine wpList_load_row rfl 23 _ rfl w.heap.size rfl 23 (hdArr x) (0, 0) _ T4.blk Try.underlying23 rfl (hhsz.out x) ?_; (try simp only [Act.put, List.setIfInBounds_toArray, List.set_cons_zero, List.set_cons_succ]))
    | (refine wpList_load_row rfl 23 _ rfl BN rfl 23 (hdArr n) (0, 0) _ N4 Try.underlying23 rfl (hhsz.out n) ?_; (try simp only [Act.put, List.setIfInBounds_toArray, List.set_cons_zero, List.set_cons_succ]))
    | (refine wpList_load_row rfl 23 _ rfl BP rfl 23 (hdArr p) (0, 0) _ P4 Try.underlying23 rfl (hhsz.out p) ?_; (try simp only [Act.put, List.setIfInBounds_toArray, List.set_cons_zero, List.set_cons_succ])))
  have H1 := Lib.hid (heads_at x n p)
  generalize hA : (Value.agg #[.int .i64 x.t, .int .i64 x.o, .int .i64 x.c, .int .i64 x.m, .int .i64 x.g, .int .i64 x.h, .int .i64 n.t, .int .i64 n.o, .int .i64 n.c, .int .i64 n.m, .int .i64 n.g, .int .i64 n.h, .int .i64 p.t, .int .i64 p.o, .int .i64 p.c, .int .i64 p.m, .int .i64 p.g, .int .i64 p.h]) = A1 at *
  have B4 := T4.base
  clear hA T4
  go_loopw [47] (fun i wr => ∃ k : Nat, k ≤ 3 ∧ i = .int .i64 k ∧ Below w.heap.size w wr ∧ Blk wr BN 23 (hdArr n) ∧ Blk wr BP 23 (hdArr p)) (fun i wr => 3 - (intOf i).toNat)
  case atStart => exact ⟨0, by omega, rfl, B4, N4, P4⟩
  case round =>
    obtain ⟨k, hk, rfl, hB, hN, hP⟩ := hrel
    clear B4 N4 P4
    by_cases hlt : k < 3
    · obtain ⟨q, hx⟩ := H1.out k hlt
      have HK := Lib.hid (fun W => pack_any q W)
      have HR := Lib.hid (fun W => refPack_any q W)
      generalize packP q = u at *
      go_upto_region 6 with fail
      have B5 := hB.alloc hB.size (.cells (hdArr q) 23)
      have N5 := hN.alloc (.cells (hdArr q) 23)
      have P5 := hP.alloc (.cells (hdArr q) 23)
      have Q5 := Blk.new wr 23 (hdArr q)
      generalize hW : wr.alloc _ = w5 at *
      generalize wr.heap.size = BQ at *
      clear hW hB hN hP
      go_upto_region 7 with (first
        | (refine wpList_load_row rfl 23 _ rfl BQ rfl 23 (hdArr q) (0, 0) _ Q5 Try.underlying23 rfl (hhsz.out q) ?_; (try simp only [Act.put, List.setIfInBounds_toArray, List.set_cons_zero, List.set_cons_succ]))
        | (go_at_call 9; (with_reducible refine (HK.out _).mono ?_); rintro e w6 ⟨rfl, hb⟩; have B6 := B5.trans (hb.mono B5.size); have N6 := N5.below hb N5.lt; have P6 := P5.below hb P5.lt; have Q6 := Q5.below hb Q5.lt; clear hb))
      clear B5 N5 P5 Q5
      go_wp2_with (first
        | (refine wpList_load_row rfl 23 _ rfl BQ rfl 23 (hdArr q) (0, 0) _ Q6 Try.underlying23 rfl (hhsz.out q) ?_; (try simp only [Act.put, List.setIfInBounds_toArray, List.set_cons_zero, List.set_cons_succ]))
        | (go_at_call 10; (with_reducible refine (HR.out _).mono ?_); rintro e w7 ⟨rfl, hb⟩; have B7 := B6.trans (hb.mono B6.size); have N7 := N6.below hb N6.lt; have P7 := P6.below hb P6.lt; clear hb)
        | (go_at_call 11; (with_reducible refine (alike_same _ _ _).mono ?_); rintro e w8 ⟨rfl, rfl⟩))
      go_roundw
      case rel => exact ⟨k + 1, by omega, by go_num, B7, N7, P7⟩
      case measure => simp [intOf]; omega
    · obtain rfl : k = 3 := by omega
      clear hlt hk
      have HP := Lib.hid (fun W => refPack_any p W)
      obtain ⟨vp, hvp, hvl⟩ : ∃ vp : Nat, (packP p).getD 0 = vp ∧ vp < 18446744073709551616 := by
        refine ⟨_, rfl, ?_⟩
        cases hp : packP p with
        | none => decide
        | some a => have := pack_lt hp; show a < _; omega
      go_upto_region 12 with (first
        | (refine wpList_load_row rfl 23 _ rfl BP rfl 23 (hdArr p) (0, 0) _ hP Try.underlying23 rfl (hhsz.out p) ?_; (try simp only [Act.put, List.setIfInBounds_toArray, List.set_cons_zero, List.set_cons_succ]))
        | (go_at_call 10; (with_reducible refine (HP.out _).mono ?_); rintro e w9 ⟨rfl, hb⟩; have B9 := hB.trans (hb.mono hB.size); have N9 := hN.below hb hN.lt; clear hb))
      clear hB hN hP
      go_wp2_with fail
      have a50 : bits .and .u64 (v : Int) 1125899906842623 = ((v &&& 1125899906842623 : Nat) : Int) := u64_and_nat v 1125899906842623 hv (by decide)
      obtain ⟨zx, hzl, hzx⟩ := xor_in vp (o % 64) hvl (by omega)
      have H4 := Lib.hid (words_at v vp zx (v &&& 1125899906842623) hv hvl hzl (Nat.lt_of_le_of_lt Nat.and_le_left hv))
      rw [hzx, a50]
      clear hzx a50
      generalize v &&& 1125899906842623 = v50 at *
      generalize hA : (Value.agg #[.int .u64 v, .int .u64 vp, .int .u64 zx, .int .u64 v50]) = A4 at *
      clear hA
      go_loopw [82] (fun i wr => ∃ k : Nat, k ≤ 4 ∧ i = .int .i64 k ∧ Below w.heap.size w wr ∧ Blk wr BN 23 (hdArr n)) (fun i wr => 4 - (intOf i).toNat)
      case atStart => exact ⟨0, by omega, rfl, B9, N9⟩
      case round =>
        obtain ⟨k, hk, rfl, hB, hN⟩ := hrel
        clear B9 N9
        by_cases hlt : k < 4
        · obtain ⟨z, hz, hx⟩ := H4.out k hlt
          have HO := Lib.hid (fun W => open_any z W hz)
          have HR := Lib.hid (fun W => refOpen_any' z W hz)
          have F1 := Lib.hid (fun W => free_any z W hz)
          have F2 := Lib.hid (fun W => refWith_any z ⟨1, 0, 0, 0, 0, 0⟩ W hz)
          have F3 := Lib.hid (fun W => biased_any z n.o n.c W hz)
          have F4 := Lib.hid (fun W => refWith_any z ⟨2, n.o, n.c, 0, 0, 0⟩ W hz)
          have F5 := Lib.hid (fun W => thin_any z n.o n.c W hz)
          have F6 := Lib.hid (fun W => refWith_any z ⟨3, n.o, n.c, 0, 0, 0⟩ W hz)
          have F7 := Lib.hid (fun W => fat_any z n.m n.g W hz)
          have F8 := Lib.hid (fun W => refWith_any z ⟨4, 0, 0, n.m, n.g, 0⟩ W hz)
          generalize withP z ⟨1, 0, 0, 0, 0, 0⟩ = q1 at *
          generalize withP z ⟨2, n.o, n.c, 0, 0, 0⟩ = q2 at *
          generalize withP z ⟨3, n.o, n.c, 0, 0, 0⟩ = q3 at *
          generalize withP z ⟨4, 0, 0, n.m, n.g, 0⟩ = q4 at *
          unfold OpenPost at HO HR
          generalize (openP z).getD ⟨0, 0, 0, 0, 0, 0⟩ = y at *
          generalize (openP z).isSome = so at *
          go_upto_region 16 with (first
            | (go_at_call 12; (with_reducible refine (HO.out _).mono ?_); rintro e w10 ⟨rfl, hb⟩; have B10 := hB.trans (hb.mono hB.size); have N10 := hN.below hb hN.lt; clear hb)
            | (refine wpList_store_row rfl 23 _ _ rfl w10.heap.size (hdArr y) rfl rfl 23 zero6 (Blk.new w10 _ _) (hhsz.out y) rfl (hhone.out y) ?_; (try simp only [Act.put, List.setIfInBounds_toArray, List.set_cons_zero, List.set_cons_succ])))
          rw [World.setRow_alloc_new]
          have B11 := B10.alloc B10.size (.cells (hdArr y) 23)
          have N11 := N10.alloc (.cells (hdArr y) 23)
          have Y11 := Blk.new w10 23 (hdArr y)
          generalize hW : w10.alloc _ = w11 at *
          generalize w10.heap.size = BY at *
          clear hW hB hN B10 N10
          go_upto_region 17 with (first
            | (go_at_call 13; (with_reducible refine (HR.out _).mono ?_); rintro e w12 ⟨rfl, hb⟩; have B12 := B11.trans (hb.mono B11.size); have N12 := N11.below hb N11.lt; have Y12 := Y11.below hb Y11.lt; clear hb)
            | (refine wpList_store_row rfl 23 _ _ rfl w12.heap.size (hdArr y) rfl rfl 23 zero6 (Blk.new w12 _ _) (hhsz.out y) rfl (hhone.out y) ?_; (try simp only [Act.put, List.setIfInBounds_toArray, List.set_cons_zero, List.set_cons_succ])))
          rw [World.setRow_alloc_new]
          have B13 := B12.alloc B12.size (.cells (hdArr y) 23)
          have N13 := N12.alloc (.cells (hdArr y) 23)
          have Y13 := Y12.alloc (.cells (hdArr y) 23)
          have Z13 := Blk.new w12 23 (hdArr y)
          generalize hW : w12.alloc _ = w13 at *
          generalize w12.heap.size = BZ at *
          clear hW B11 N11 Y11 B12 N12 Y12
          have a0 := Y13.cell 0 _ rfl
          have a1 := Y13.cell 1 _ rfl
          have a2 := Y13.cell 2 _ rfl
          have a3 := Y13.cell 3 _ rfl
          have a4 := Y13.cell 4 _ rfl
          have a5 := Y13.cell 5 _ rfl
          have g0 := Z13.cell 0 _ rfl
          have g1 := Z13.cell 1 _ rfl
          have g2 := Z13.cell 2 _ rfl
          have g3 := Z13.cell 3 _ rfl
          have g4 := Z13.cell 4 _ rfl
          have g5 := Z13.cell 5 _ rfl
          go_upto_region 19 with fail
          clear a0 a1 a2 a3 a4 a5 g0 g1 g2 g3 g4 g5 Y13 Z13
          have n1 := N13.cell 1 _ rfl
          have n2 := N13.cell 2 _ rfl
          have n3 := N13.cell 3 _ rfl
          have n4 := N13.cell 4 _ rfl
          go_upto_region 20 with (go_at_call 14; (with_reducible refine (F1.out _).mono ?_); rintro e w14 ⟨rfl, hb⟩; have B14 := B13.trans (hb.mono B13.size); have N14 := N13.below hb N13.lt; clear hb)
          clear n1 n2 n3 n4 B13 N13
          have n1 := N14.cell 1 _ rfl
          have n2 := N14.cell 2 _ rfl
          have n3 := N14.cell 3 _ rfl
          have n4 := N14.cell 4 _ rfl
          go_upto_region 21 with (go_at_call 15; (with_reducible refine (F2.out _).mono ?_); rintro e w15 ⟨rfl, hb⟩; have B15 := B14.trans (hb.mono B14.size); have N15 := N14.below hb N14.lt; clear hb)
          clear n1 n2 n3 n4 B14 N14
          have n1 := N15.cell 1 _ rfl
          have n2 := N15.cell 2 _ rfl
          have n3 := N15.cell 3 _ rfl
          have n4 := N15.cell 4 _ rfl
          go_upto_region 22 with (go_at_call 16; (with_reducible refine (F3.out _).mono ?_); rintro e w16 ⟨rfl, hb⟩; have B16 := B15.trans (hb.mono B15.size); have N16 := N15.below hb N15.lt; clear hb)
          clear n1 n2 n3 n4 B15 N15
          have n1 := N16.cell 1 _ rfl
          have n2 := N16.cell 2 _ rfl
          have n3 := N16.cell 3 _ rfl
          have n4 := N16.cell 4 _ rfl
          go_upto_region 23 with (go_at_call 15; (with_reducible refine (F4.out _).mono ?_); rintro e w17 ⟨rfl, hb⟩; have B17 := B16.trans (hb.mono B16.size); have N17 := N16.below hb N16.lt; clear hb)
          clear n1 n2 n3 n4 B16 N16
          have n1 := N17.cell 1 _ rfl
          have n2 := N17.cell 2 _ rfl
          have n3 := N17.cell 3 _ rfl
          have n4 := N17.cell 4 _ rfl
          go_upto_region 24 with (go_at_call 17; (with_reducible refine (F5.out _).mono ?_); rintro e w18 ⟨rfl, hb⟩; have B18 := B17.trans (hb.mono B17.size); have N18 := N17.below hb N17.lt; clear hb)
          clear n1 n2 n3 n4 B17 N17
          have n1 := N18.cell 1 _ rfl
          have n2 := N18.cell 2 _ rfl
          have n3 := N18.cell 3 _ rfl
          have n4 := N18.cell 4 _ rfl
          go_upto_region 25 with (go_at_call 15; (with_reducible refine (F6.out _).mono ?_); rintro e w19 ⟨rfl, hb⟩; have B19 := B18.trans (hb.mono B18.size); have N19 := N18.below hb N18.lt; clear hb)
          clear n1 n2 n3 n4 B18 N18
          have n1 := N19.cell 1 _ rfl
          have n2 := N19.cell 2 _ rfl
          have n3 := N19.cell 3 _ rfl
          have n4 := N19.cell 4 _ rfl
          go_upto_region 26 with (go_at_call 18; (with_reducible refine (F7.out _).mono ?_); rintro e w20 ⟨rfl, hb⟩; have B20 := B19.trans (hb.mono B19.size); have N20 := N19.below hb N19.lt; clear hb)
          clear n1 n2 n3 n4 B19 N19
          have n1 := N20.cell 1 _ rfl
          have n2 := N20.cell 2 _ rfl
          have n3 := N20.cell 3 _ rfl
          have n4 := N20.cell 4 _ rfl
          go_upto_region 27 with (go_at_call 15; (with_reducible refine (F8.out _).mono ?_); rintro e w21 ⟨rfl, hb⟩; have B21 := B20.trans (hb.mono B20.size); have N21 := N20.below hb N20.lt; clear hb)
          clear n1 n2 n3 n4 B20 N20
          go_wp2_with (go_at_call 11; (with_reducible refine (alike_same _ _ _).mono ?_); rintro e w8 ⟨rfl, rfl⟩)
          go_roundw
          case rel => exact ⟨k + 1, by omega, by go_num, B21, N21⟩
          case measure => simp [intOf]; omega
        · obtain rfl : k = 4 := by omega
          go_wp2_with (go_at_call 19; (with_reducible refine (works_any _).mono ?_); rintro e w20 ⟨rfl, hb⟩; have B20 := hB.trans (hb.mono hB.size); clear hb)
          go_ret
          exact ⟨rfl, B20⟩
end Go.Proofs.Ytinpkgbnogilfaa
