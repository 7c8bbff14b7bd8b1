/- WordBack returns true: a header that has a word comes back from it; a word that has a header, from that. No condition. -/
import Derived.Test.YtinpkgbnogilfaaWordH
namespace Go.Proofs.Ytinpkgbnogilfaa
open Go.ChangeShapes Go.WideShapes Go.ChangeAt Go.RowKit
set_option linter.unusedVariables false
set_option linter.unusedSimpArgs false
open Wd
abbrev twoArr (x y : Hd) : Array Value := #[.int .i64 x.t, .int .i64 x.o, .int .i64 x.c, .int .i64 x.m, .int .i64 x.g, .int .i64 x.h, .int .i64 y.t, .int .i64 y.o, .int .i64 y.c, .int .i64 y.m, .int .i64 y.g, .int .i64 y.h]
theorem two_at (x y : Hd) : ∀ k : Nat, k < 2 → ∃ z : Hd, ∀ W, (Instr.index 38 (.agg (twoArr x y)) (.int .i64 k)).run Try.prog W = .ok (hdV z) W := by
  intro k hk
  match k, hk with
  | 0, _ => exact ⟨x, fun W => by kernel_rfl⟩
  | 1, _ => exact ⟨y, fun W => by kernel_rfl⟩
theorem three_at (a b c : Nat) (ha : a < 18446744073709551616) (hb : b < 18446744073709551616) (hc : c < 18446744073709551616) :
    ∀ k : Nat, k < 3 → ∃ z : Nat, z < 18446744073709551616 ∧ ∀ W, (Instr.index 39 (.agg #[.int .u64 a, .int .u64 b, .int .u64 c]) (.int .i64 k)).run Try.prog W = .ok (.int .u64 z) W := by
  intro k hk
  match k, hk with
  | 0, _ => exact ⟨a, ha, fun W => by kernel_rfl⟩
  | 1, _ => exact ⟨b, hb, fun W => by kernel_rfl⟩
  | 2, _ => exact ⟨c, hc, fun W => by kernel_rfl⟩
set_option maxRecDepth 100000 in
set_option maxHeartbeats 4000000 in
theorem back_any (x : Hd) (v : Nat) (w : World) (hv : v < 18446744073709551616) : Calls Try.prog 4 #[hdV x, .int .u64 v] w fun e w' => e = .returned (.bool true) ∧ Below w.heap.size w w' := by
  have HV := Lib.hid hv
  have a50 : bits .and .u64 (v : Int) 1125899906842623 = ((v &&& 1125899906842623 : Nat) : Int) := u64_and_nat v 1125899906842623 hv (by decide)
  have a27 : bits .and .u64 (v : Int) 134217727 = ((v &&& 134217727 : Nat) : Int) := u64_and_nat v 134217727 hv (by decide)
  have H3 := Lib.hid (three_at v (v &&& 1125899906842623) (v &&& 134217727) hv (Nat.lt_of_le_of_lt Nat.and_le_left hv) (Nat.lt_of_le_of_lt Nat.and_le_left hv))
  generalize v &&& 1125899906842623 = v50 at *
  generalize v &&& 134217727 = v27 at *
  clear hv
  go_enter Try.func4, Try.ntmps4
  go_upto_region 1 with fail
  generalize hW : w.alloc _ = W
  have T : HBox w w.heap.size x W := by rw [← hW]; exact ⟨by go_grown, Blk.new w _ _⟩
  clear hW
  go_upto_region 3 with (go_at_call 19; (with_reducible refine (works_any _).mono ?_); rintro e w1 ⟨rfl, hb⟩; replace T := T.below hb; clear hb)
  obtain ⟨c0, c1, c2, c3, c4, c5⟩ := T.six
  go_cut [23, 24] (fun s23 s24 wx => ∃ y : Hd, s23 = .agg (twoArr x y) ∧ s24 = .int .i64 0 ∧ Below w.heap.size w wx)
  case first =>
    go_region_held3 (fun w' => w'.cell? ⟨w.heap.size, 0, none⟩ = some (.int .i64 x.t) ∧ w'.cell? ⟨w.heap.size, 1, none⟩ = some (.int .i64 x.o) ∧ w'.cell? ⟨w.heap.size, 2, none⟩ = some (.int .i64 x.c) ∧ w'.cell? ⟨w.heap.size, 3, none⟩ = some (.int .i64 x.m) ∧ w'.cell? ⟨w.heap.size, 4, none⟩ = some (.int .i64 x.g) ∧ w'.cell? ⟨w.heap.size, 5, none⟩ = some (.int .i64 x.h)) (first | (with_reducible exact ⟨c0, c1, c2, c3, c4, c5⟩) | go_keep) (first
      | (go_at_call 7; (with_reducible refine (near_any x _).mono ?_); rintro e w1 ⟨y, rfl, hb⟩; (with_reducible replace T := T.drew.below hb); clear c0 c1 c2 c3 c4 c5 hb; obtain ⟨c0, c1, c2, c3, c4, c5⟩ := T.six)
      | (go_at_call 8; (with_reducible refine (plain_any y _).mono ?_); rintro e w2 ⟨z, rfl, hb⟩; (with_reducible replace T := T.below hb); clear c0 c1 c2 c3 c4 c5 hb; obtain ⟨c0, c1, c2, c3, c4, c5⟩ := T.six))
    all_goals go_wp2_with fail
    all_goals go_meet
    all_goals exact ⟨z, rfl, rfl, T.base⟩
  case rest =>
    obtain ⟨y, rfl, rfl, B0⟩ := hcut
    have H2 := Lib.hid (two_at x y)
    generalize twoArr x y = A2 at *
    clear c0 c1 c2 c3 c4 c5 T
    go_wp2_with fail
    go_loopw [24] (fun i wr => ∃ k : Nat, k ≤ 2 ∧ i = .int .i64 k ∧ Below w.heap.size w wr) (fun i wr => 2 - (intOf i).toNat)
    case atStart => exact ⟨0, by omega, rfl, B0⟩
    case round =>
      obtain ⟨k, hk, rfl, hB⟩ := hrel
      by_cases hlt : k < 2
      · obtain ⟨z, hx⟩ := H2.out k hlt
        have HK := Lib.hid (fun W => pack_any z W)
        cases hp : packP z with
        | none =>
          rw [hp] at HK
          clear hp
          have HO := Lib.hid (fun W => open_any 0 W (by decide))
          generalize openP 0 = r at HO
          obtain ⟨z', hz'⟩ : ∃ z', r.getD ⟨0, 0, 0, 0, 0, 0⟩ = z' := ⟨_, rfl⟩
          have HO2 : Hid (∀ W, Calls Try.prog 12 #[.int .u64 0] W fun e w' => e = .returned (.tuple #[hdV z', .bool r.isSome]) ∧ Below W.heap.size W w') := Lib.hid (fun W => by have := HO.out W; unfold OpenPost at this; rw [hz'] at this; exact this)
          clear HO hz'
          generalize r.isSome = so at *
          go_wp2_with (first
            | (go_at_call 9; (with_reducible refine (HK.out _).mono ?_); rintro e w1 ⟨rfl, hb⟩; have B1 := (hB.alloc hB.size (.cells (hdArr z) 23)).trans (hb.mono (by have := hB.size; simp; omega)); clear hb)
            | (go_at_call 12; (with_reducible refine (HO2.out _).mono ?_); rintro e w2 ⟨rfl, hb⟩; have B2 := B1.trans (hb.mono B1.size); clear hb))
          go_roundw
          case rel => exact ⟨k + 1, by omega, by go_num, B2.alloc B2.size _⟩
          case measure => simp [intOf]; omega
        | some u =>
          have hu : u < 18446744073709551616 := by have := pack_lt hp; omega
          have HO := Lib.hid (fun W => open_any u W hu)
          rw [open_of_pack hp] at HO
          rw [hp] at HK
          clear hp hu
          go_upto_region 6 with fail
          have T := HBox.mk (hB.alloc hB.size _) (Blk.new wr 23 (hdArr z))
          generalize hW : wr.alloc _ = w0 at *
          clear hW
          generalize wr.heap.size = BX at *
          obtain ⟨c0, c1, c2, c3, c4, c5⟩ := T.six
          go_upto_region 7 with (go_at_call 9; (with_reducible refine (HK.out _).mono ?_); rintro e w1 ⟨rfl, hb⟩; have T1 := T.below hb; clear hb c0 c1 c2 c3 c4 c5)
          go_upto_region 8 with (go_at_call 12; (with_reducible refine (HO.out _).mono ?_); rintro e w2 ⟨rfl, hb⟩; have T2 := T1.below hb; clear hb)
          have T3 := T2.below ((Below.refl _ w2).alloc (Nat.le_refl _) (.cells (hdArr z) 23))
          have N3 := Blk.new w2 23 (hdArr z)
          generalize hW : w2.alloc _ = w3 at *
          clear hW T T1 T2
          obtain ⟨c0, c1, c2, c3, c4, c5⟩ := T3.six
          have d0 := N3.cell 0 _ rfl
          have d1 := N3.cell 1 _ rfl
          have d2 := N3.cell 2 _ rfl
          have d3 := N3.cell 3 _ rfl
          have d4 := N3.cell 4 _ rfl
          have d5 := N3.cell 5 _ rfl
          go_wp2
          go_roundw
          case rel => exact ⟨k + 1, by omega, by go_num, T3.base⟩
          case measure => simp [intOf]; omega
      · obtain rfl : k = 2 := by omega
        clear hlt hk B0
        have B0 := hB
        clear hB
        go_wp2_with fail
        rw [show ((2 : Nat) : Int) = 2 from rfl]
        generalize hA3 : (Value.agg #[.int .u64 v, .int .u64 v50, .int .u64 v27]) = A3 at *
        clear hA3
        go_loopw [62] (fun i wr => ∃ k : Nat, k ≤ 3 ∧ i = .int .i64 k ∧ Below w.heap.size w wr) (fun i wr => 3 - (intOf i).toNat)
        case atStart => exact ⟨0, by omega, rfl, B0⟩
        case round =>
          obtain ⟨k, hk, rfl, hB⟩ := hrel
          by_cases hlt : k < 3
          · obtain ⟨z, hz, hx⟩ := H3.out k hlt
            have HO := Lib.hid (fun W => open_any z W hz)
            cases hp : openP z with
            | none =>
              rw [hp] at HO
              clear hp hz
              have HK : Hid (∀ W, Calls Try.prog 9 #[.agg #[.int .i64 0, .int .i64 0, .int .i64 0, .int .i64 0, .int .i64 0, .int .i64 0]] W fun e w' => e = .returned (.tuple #[.int .u64 0, .bool true]) ∧ Below W.heap.size W w') :=
                Lib.hid (fun W => by have := pack_any ⟨0, 0, 0, 0, 0, 0⟩ W; rw [show packP ⟨0, 0, 0, 0, 0, 0⟩ = some 0 by decide +kernel] at this; exact this)
              go_wp2_with (first
                | (go_at_call 12; (with_reducible refine (HO.out _).mono ?_); rintro e w1 ⟨rfl, hb⟩; have B1 := hB.trans (hb.mono hB.size); clear hb)
                | (go_at_call 9; (with_reducible refine (HK.out _).mono ?_); rintro e w2 ⟨rfl, hb⟩; have N2 := (Blk.new w1 23 zero6).below hb (by simp); have d0 := N2.cell 0 _ rfl; have d1 := N2.cell 1 _ rfl; have d2 := N2.cell 2 _ rfl; have d3 := N2.cell 3 _ rfl; have d4 := N2.cell 4 _ rfl; have d5 := N2.cell 5 _ rfl; have B2 := (B1.alloc B1.size (.cells zero6 23)).trans (hb.mono (by have := B1.size; simp; omega)); clear hb))
              go_roundw
              case rel => exact ⟨k + 1, by omega, by go_num, B2⟩
              case measure => simp [intOf]; omega
            | some u =>
              have hq : packP u = some z := by
                obtain ⟨h1, h2⟩ := open_some hp
                rw [packP_eq, if_pos h1, h2]
              rw [hp] at HO
              have HK := Lib.hid (fun W => pack_any u W)
              rw [hq] at HK
              clear hp hq hz
              go_wp2_with (first
                | (go_at_call 12; (with_reducible refine (HO.out _).mono ?_); rintro e w1 ⟨rfl, hb⟩; have B1 := hB.trans (hb.mono hB.size); clear hb)
                | (go_at_call 9; (with_reducible refine (HK.out _).mono ?_); rintro e w2 ⟨rfl, hb⟩; have B2 := (B1.alloc B1.size (.cells (hdArr u) 23)).trans (hb.mono (by have := B1.size; simp; omega)); clear hb))
              go_roundw
              case rel => exact ⟨k + 1, by omega, by go_num, B2⟩
              case measure => simp [intOf]; omega
          · go_wp2
            go_ret
            exact ⟨rfl, hB⟩
end Go.Proofs.Ytinpkgbnogilfaa
