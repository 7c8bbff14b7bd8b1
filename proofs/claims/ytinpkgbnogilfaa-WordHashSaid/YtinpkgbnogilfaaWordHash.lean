/- WordHash returns true: whatever a word is made into, its hash stays, and the rest is what is asked. No condition. -/
import Derived.Test.YtinpkgbnogilfaaWordG
namespace Go.Proofs.Ytinpkgbnogilfaa
open Go.ChangeShapes Go.WideShapes Go.ChangeAt Go.RowKit
set_option linter.unusedVariables false
set_option linter.unusedSimpArgs false
open Wd
/-- a slice of triples of small numbers that came in -/
def TriplesAt (w : World) (n0 : Nat) (a : Option Addr) (len : Nat) : Prop :=
  ∀ i, i < len → ∃ b off, a = some ⟨b, off, none⟩ ∧ b < n0 ∧ ∃ x0 x1 x2 : Nat, x0 < 65536 ∧ x1 < 65536 ∧ x2 < 65536 ∧
    w.cell? ⟨b, off + i * 3, none⟩ = some (.int .u16 x0) ∧ w.cell? ⟨b, off + i * 3 + 1, none⟩ = some (.int .u16 x1) ∧ w.cell? ⟨b, off + i * 3 + 2, none⟩ = some (.int .u16 x2)
theorem withP_some {v : Nat} {b x : Hd} (h : openP v = some b) : withP v x = packP ⟨x.t, x.o, x.c, x.m, x.g, b.h⟩ := by
  unfold withP; rw [h]
set_option maxRecDepth 100000 in
set_option maxHeartbeats 4000000 in
theorem hash_any (x : Hd) (a : Option Addr) (len cap : Nat) (hlen : len ≤ 9223372036854775807) (w : World) (hA : TriplesAt w w.heap.size a len) :
    Calls Try.prog 5 #[hdV x, .slice a len cap] w fun e w' => e = .returned (.bool true) ∧ Below w.heap.size w w' := by
  have u0 : 0 ≤ IntKind.u64.wrap x.h := by rw [IntKind.wrap_u64]; omega
  obtain ⟨z, hz⟩ : ∃ z : Nat, IntKind.u64.wrap x.h % 16777216 = (z : Int) := Int.eq_ofNat_of_zero_le (by omega)
  have hz2 : z < 16777216 := by omega
  have HA := Lib.hid hA
  clear hA
  go_enter Try.func5, Try.ntmps5
  go_upto_region 1 with fail
  generalize hW : w.alloc _ = W
  have T : HBox w w.heap.size x W := by rw [← hW]; exact ⟨by go_grown, Blk.new w _ _⟩
  clear hW
  go_upto_region 3 with (go_at_call 19; (with_reducible refine (works_any _).mono ?_); rintro e w1 ⟨rfl, hb⟩; replace T := T.below hb; clear hb)
  obtain ⟨c0, c1, c2, c3, c4, c5⟩ := T.six
  go_upto_region 4 with fail
  have T1 := T.below ((Below.refl _ w1).alloc (Nat.le_refl _) (.cells (hdArr ⟨0, 0, 0, 0, 0, z⟩) 23))
  have N1 := Blk.new w1 23 (hdArr ⟨0, 0, 0, 0, 0, z⟩)
  generalize hW : w1.alloc _ = w2 at *
  generalize w1.heap.size = BX at *
  clear hW c0 c1 c2 c3 c4 c5 T u0 hz
  have hq : packP ⟨0, 0, 0, 0, 0, z⟩ = some (wordOf ⟨0, 0, 0, 0, 0, z⟩) := by
    rw [packP_eq, if_pos]
    refine ⟨⟨?_, ?_⟩, ⟨?_, ?_⟩, ?_, ?_, ?_, ?_, ?_⟩ <;> (dsimp only; omega)
  obtain ⟨v0, hv0⟩ : ∃ v0, wordOf ⟨0, 0, 0, 0, 0, z⟩ = v0 := ⟨_, rfl⟩
  rw [hv0] at hq
  have HK := Lib.hid (fun W => pack_any ⟨0, 0, 0, 0, 0, z⟩ W)
  rw [hq] at HK
  have HO0 := Lib.hid (open_of_pack hq)
  have HV0 : Hid (v0 < 18446744073709551616) := Lib.hid (by have := pack_lt hq; omega)
  have hhsz : Hid ((Try.prog.info? 23).map (·.size) = some (hdArr ⟨0, 0, 0, 0, 0, z⟩).size) := Lib.hid hd_size
  clear hq hv0
  go_wp2_with (first
    | (refine wpList_load_row rfl 23 _ rfl BX rfl 23 (hdArr ⟨0, 0, 0, 0, 0, z⟩) (0, 0) _ N1 Try.underlying23 rfl hhsz.out ?_; (try simp only [Act.put, List.setIfInBounds_toArray, List.set_cons_zero, List.set_cons_succ]))
    | (go_at_call 9; (with_reducible refine (HK.out _).mono ?_); rintro e w3 ⟨rfl, hb⟩; have N3 := N1.below hb N1.lt; have T3 := T1.below hb; clear hb))
  have BX0 := T3.base
  clear T1 T3 N1
  go_loopw [6, 8] (fun s6 i wr => ∃ (k v : Nat) (b : Hd), k ≤ len ∧ k ≤ 20 ∧ i = .int .i64 k ∧ s6 = .int .u64 v ∧ v < 18446744073709551616 ∧ openP v = some b ∧ b.h = z ∧ Below w.heap.size w wr ∧ Blk wr BX 23 (hdArr ⟨0, 0, 0, 0, 0, z⟩))
    (fun s6 i wr => 20 - (intOf i).toNat)
  case atStart => exact ⟨0, v0, _, by omega, by omega, rfl, rfl, HV0.out, HO0.out, rfl, BX0, N3⟩
  case round =>
    obtain ⟨k, v, b, hk1, hk2, rfl, rfl, hv, hov, hbh, hB, hR⟩ := hrel
    have HOv := Lib.hid hov
    have HHv := Lib.hid hbh
    have HV := Lib.hid hv
    clear hov hbh hv N3 BX0
    by_cases hlt : k < len
    · by_cases hlt2 : k < 20
      · obtain ⟨ab, off, rfl, hab, x0, x1, x2, h0, h1, h2, e0, e1, e2⟩ := HA.out k hlt
        replace e0 := (hB.cell (p := ⟨ab, off + k * 3, none⟩) hab).trans e0
        replace e1 := (hB.cell (p := ⟨ab, off + k * 3 + 1, none⟩) hab).trans e1
        replace e2 := (hB.cell (p := ⟨ab, off + k * 3 + 2, none⟩) hab).trans e2
        have hm1 : (0 : Int) ≤ ↑k := by omega
        have hm2 : (↑k : Int) < ↑len := by omega
        have r5 := hR.cell 5 _ rfl
        go_upto_region 10 with fail
        go_quiet (fail)
        generalize hV : wr.drewN nq = V
        have RV : Blk V BX 23 (hdArr ⟨0, 0, 0, 0, 0, z⟩) := by rw [← hV]; exact hR
        have BV : Below w.heap.size w V := by rw [← hV]; exact bdrewN hB nq
        have v5 : V.cell? ⟨BX, 5, none⟩ = some (.int .i64 z) := by rw [← hV]; exact r5
        have e0v : V.cell? ⟨ab, off + k * 3, none⟩ = some (.int .u16 x0) := by rw [← hV]; exact e0
        clear hV
        rcases (show x0 % 4 = 0 ∨ x0 % 4 = 1 ∨ x0 % 4 = 2 ∨ x0 % 4 = 3 by omega) with hj | hj | hj | hj
        · have hsw : ((x0 : Nat) : Int) % 4 = 0 := by omega
          have hq : packP ⟨1, 0, 0, 0, 0, z⟩ = some (wordOf ⟨1, 0, 0, 0, 0, z⟩) := by
            rw [packP_eq, if_pos]
            refine ⟨⟨?_, ?_⟩, ⟨?_, ?_⟩, ?_, ?_, ?_, ?_, ?_⟩ <;> (dsimp only; omega)
          obtain ⟨u, hu⟩ : ∃ u, wordOf ⟨1, 0, 0, 0, 0, z⟩ = u := ⟨_, rfl⟩
          rw [hu] at hq
          have hul : u < 18446744073709551616 := by have := pack_lt hq; omega
          have hop := open_of_pack hq
          have HC := Lib.hid (fun W => free_any v W HV.out)
          rw [withP_some HOv.out, HHv.out, hq] at HC
          have HO := Lib.hid (fun W => open_any u W hul)
          rw [hop] at HO
          have HOu := Lib.hid hop
          have HUL := Lib.hid hul
          clear hq hu hul hop
          go_upto_region 12 with fail
          have e0w : (V.alloc (.cells (hdArr ⟨0, 0, 0, 0, 0, z⟩) 23)).cell? ⟨ab, off + k * 3, none⟩ = some (.int .u16 x0) := (((Below.refl _ V).alloc (Nat.le_refl _) _).cell (p := ⟨ab, off + k * 3, none⟩) (Nat.lt_of_lt_of_le hab BV.size)).trans e0v
          go_upto_region 17 with fail
          have N0 := Blk.new V 23 (hdArr ⟨1, 0, 0, 0, 0, z⟩)
          have R0 := RV.alloc (.cells (hdArr ⟨1, 0, 0, 0, 0, z⟩) 23)
          have B0 := BV.alloc BV.size (.cells (hdArr ⟨1, 0, 0, 0, 0, z⟩) 23)
          generalize hW : V.alloc _ = w4 at *
          generalize V.heap.size = BW at *
          clear hW RV BV v5 e0v e0w hR hB r5 e0 e1 e2
          have a1 := N0.cell 1 _ rfl
          have a2 := N0.cell 2 _ rfl
          have a3 := N0.cell 3 _ rfl
          have a4 := N0.cell 4 _ rfl
          go_upto_region 24 with (go_at_call 14; (with_reducible refine (HC.out _).mono ?_); rintro e w5 ⟨rfl, hb⟩; have N5 := N0.below hb N0.lt; have R5 := R0.below hb R0.lt; have B5 := B0.trans (hb.mono B0.size); clear hb)
          clear a1 a2 a3 a4
          go_upto_region 25 with (go_at_call 12; (with_reducible refine (HO.out _).mono ?_); rintro e w6 ⟨rfl, hb⟩; have N6 := N5.below hb N5.lt; have R6 := R5.below hb R5.lt; have B6 := B5.trans (hb.mono B5.size); clear hb)
          have G7 := Blk.new w6 23 (hdArr ⟨1, 0, 0, 0, 0, z⟩)
          have N7 := N6.alloc (.cells (hdArr ⟨1, 0, 0, 0, 0, z⟩) 23)
          have R7 := R6.alloc (.cells (hdArr ⟨1, 0, 0, 0, 0, z⟩) 23)
          have B7 := B6.alloc B6.size (.cells (hdArr ⟨1, 0, 0, 0, 0, z⟩) 23)
          generalize hW : w6.alloc _ = w7 at *
          generalize w6.heap.size = BG at *
          clear hW N0 R0 B0 N5 R5 B5 N6 R6 B6
          have a0 := N7.cell 0 _ rfl
          have a1 := N7.cell 1 _ rfl
          have a2 := N7.cell 2 _ rfl
          have a3 := N7.cell 3 _ rfl
          have a4 := N7.cell 4 _ rfl
          have a5 := N7.cell 5 _ rfl
          have g0 := G7.cell 0 _ rfl
          have g1 := G7.cell 1 _ rfl
          have g2 := G7.cell 2 _ rfl
          have g3 := G7.cell 3 _ rfl
          have g4 := G7.cell 4 _ rfl
          have g5 := G7.cell 5 _ rfl
          go_wp2
          go_roundw
          case rel => exact ⟨k + 1, u, _, by omega, by omega, by go_num, rfl, HUL.out, HOu.out, rfl, B7, R7⟩
          case measure => simp [intOf]; omega
        · have hsw : ((x0 : Nat) : Int) % 4 = 1 := by omega
          have hq : packP ⟨2, ((x1 : Nat) : Int) % 32766, ((x2 : Nat) : Int) % 256, 0, 0, z⟩ = some (wordOf ⟨2, ((x1 : Nat) : Int) % 32766, ((x2 : Nat) : Int) % 256, 0, 0, z⟩) := by
            rw [packP_eq, if_pos]
            refine ⟨⟨?_, ?_⟩, ⟨?_, ?_⟩, ?_, ?_, ?_, ?_, ?_⟩ <;> (dsimp only; omega)
          obtain ⟨u, hu⟩ : ∃ u, wordOf ⟨2, ((x1 : Nat) : Int) % 32766, ((x2 : Nat) : Int) % 256, 0, 0, z⟩ = u := ⟨_, rfl⟩
          rw [hu] at hq
          have hul : u < 18446744073709551616 := by have := pack_lt hq; omega
          have hop := open_of_pack hq
          have HC := Lib.hid (fun W => biased_any v (((x1 : Nat) : Int) % 32766) (((x2 : Nat) : Int) % 256) W HV.out)
          rw [withP_some HOv.out, HHv.out, hq] at HC
          have HO := Lib.hid (fun W => open_any u W hul)
          rw [hop] at HO
          have HOu := Lib.hid hop
          have HUL := Lib.hid hul
          clear hq hu hul hop
          go_upto_region 12 with fail
          have e0w : (V.alloc (.cells (hdArr ⟨0, 0, 0, 0, 0, z⟩) 23)).cell? ⟨ab, off + k * 3, none⟩ = some (.int .u16 x0) := (((Below.refl _ V).alloc (Nat.le_refl _) _).cell (p := ⟨ab, off + k * 3, none⟩) (Nat.lt_of_lt_of_le hab BV.size)).trans e0v
          go_upto_region 20 with fail
          have N0 := Blk.new V 23 (hdArr ⟨2, ((x1 : Nat) : Int) % 32766, ((x2 : Nat) : Int) % 256, 0, 0, z⟩)
          have R0 := RV.alloc (.cells (hdArr ⟨2, ((x1 : Nat) : Int) % 32766, ((x2 : Nat) : Int) % 256, 0, 0, z⟩) 23)
          have B0 := BV.alloc BV.size (.cells (hdArr ⟨2, ((x1 : Nat) : Int) % 32766, ((x2 : Nat) : Int) % 256, 0, 0, z⟩) 23)
          generalize hW : V.alloc _ = w4 at *
          generalize V.heap.size = BW at *
          clear hW RV BV v5 e0v e0w hR hB r5 e0 e1 e2
          have a1 := N0.cell 1 _ rfl
          have a2 := N0.cell 2 _ rfl
          have a3 := N0.cell 3 _ rfl
          have a4 := N0.cell 4 _ rfl
          go_upto_region 24 with (go_at_call 16; (with_reducible refine (HC.out _).mono ?_); rintro e w5 ⟨rfl, hb⟩; have N5 := N0.below hb N0.lt; have R5 := R0.below hb R0.lt; have B5 := B0.trans (hb.mono B0.size); clear hb)
          clear a1 a2 a3 a4
          go_upto_region 25 with (go_at_call 12; (with_reducible refine (HO.out _).mono ?_); rintro e w6 ⟨rfl, hb⟩; have N6 := N5.below hb N5.lt; have R6 := R5.below hb R5.lt; have B6 := B5.trans (hb.mono B5.size); clear hb)
          have G7 := Blk.new w6 23 (hdArr ⟨2, ((x1 : Nat) : Int) % 32766, ((x2 : Nat) : Int) % 256, 0, 0, z⟩)
          have N7 := N6.alloc (.cells (hdArr ⟨2, ((x1 : Nat) : Int) % 32766, ((x2 : Nat) : Int) % 256, 0, 0, z⟩) 23)
          have R7 := R6.alloc (.cells (hdArr ⟨2, ((x1 : Nat) : Int) % 32766, ((x2 : Nat) : Int) % 256, 0, 0, z⟩) 23)
          have B7 := B6.alloc B6.size (.cells (hdArr ⟨2, ((x1 : Nat) : Int) % 32766, ((x2 : Nat) : Int) % 256, 0, 0, z⟩) 23)
          generalize hW : w6.alloc _ = w7 at *
          generalize w6.heap.size = BG at *
          clear hW N0 R0 B0 N5 R5 B5 N6 R6 B6
          have a0 := N7.cell 0 _ rfl
          have a1 := N7.cell 1 _ rfl
          have a2 := N7.cell 2 _ rfl
          have a3 := N7.cell 3 _ rfl
          have a4 := N7.cell 4 _ rfl
          have a5 := N7.cell 5 _ rfl
          have g0 := G7.cell 0 _ rfl
          have g1 := G7.cell 1 _ rfl
          have g2 := G7.cell 2 _ rfl
          have g3 := G7.cell 3 _ rfl
          have g4 := G7.cell 4 _ rfl
          have g5 := G7.cell 5 _ rfl
          go_wp2
          go_roundw
          case rel => exact ⟨k + 1, u, _, by omega, by omega, by go_num, rfl, HUL.out, HOu.out, rfl, B7, R7⟩
          case measure => simp [intOf]; omega
        · have hsw : ((x0 : Nat) : Int) % 4 = 2 := by omega
          have hq : packP ⟨3, ((x1 : Nat) : Int) % 32766, 1 + ((x2 : Nat) : Int) % 255, 0, 0, z⟩ = some (wordOf ⟨3, ((x1 : Nat) : Int) % 32766, 1 + ((x2 : Nat) : Int) % 255, 0, 0, z⟩) := by
            rw [packP_eq, if_pos]
            refine ⟨⟨?_, ?_⟩, ⟨?_, ?_⟩, ?_, ?_, ?_, ?_, ?_⟩ <;> (dsimp only; omega)
          obtain ⟨u, hu⟩ : ∃ u, wordOf ⟨3, ((x1 : Nat) : Int) % 32766, 1 + ((x2 : Nat) : Int) % 255, 0, 0, z⟩ = u := ⟨_, rfl⟩
          rw [hu] at hq
          have hul : u < 18446744073709551616 := by have := pack_lt hq; omega
          have hop := open_of_pack hq
          have HC := Lib.hid (fun W => thin_any v (((x1 : Nat) : Int) % 32766) (1 + ((x2 : Nat) : Int) % 255) W HV.out)
          rw [withP_some HOv.out, HHv.out, hq] at HC
          have HO := Lib.hid (fun W => open_any u W hul)
          rw [hop] at HO
          have HOu := Lib.hid hop
          have HUL := Lib.hid hul
          clear hq hu hul hop
          go_upto_region 12 with fail
          have e0w : (V.alloc (.cells (hdArr ⟨0, 0, 0, 0, 0, z⟩) 23)).cell? ⟨ab, off + k * 3, none⟩ = some (.int .u16 x0) := (((Below.refl _ V).alloc (Nat.le_refl _) _).cell (p := ⟨ab, off + k * 3, none⟩) (Nat.lt_of_lt_of_le hab BV.size)).trans e0v
          go_upto_region 23 with fail
          have N0 := Blk.new V 23 (hdArr ⟨3, ((x1 : Nat) : Int) % 32766, 1 + ((x2 : Nat) : Int) % 255, 0, 0, z⟩)
          have R0 := RV.alloc (.cells (hdArr ⟨3, ((x1 : Nat) : Int) % 32766, 1 + ((x2 : Nat) : Int) % 255, 0, 0, z⟩) 23)
          have B0 := BV.alloc BV.size (.cells (hdArr ⟨3, ((x1 : Nat) : Int) % 32766, 1 + ((x2 : Nat) : Int) % 255, 0, 0, z⟩) 23)
          generalize hW : V.alloc _ = w4 at *
          generalize V.heap.size = BW at *
          clear hW RV BV v5 e0v e0w hR hB r5 e0 e1 e2
          have a1 := N0.cell 1 _ rfl
          have a2 := N0.cell 2 _ rfl
          have a3 := N0.cell 3 _ rfl
          have a4 := N0.cell 4 _ rfl
          go_upto_region 24 with (go_at_call 17; (with_reducible refine (HC.out _).mono ?_); rintro e w5 ⟨rfl, hb⟩; have N5 := N0.below hb N0.lt; have R5 := R0.below hb R0.lt; have B5 := B0.trans (hb.mono B0.size); clear hb)
          clear a1 a2 a3 a4
          go_upto_region 25 with (go_at_call 12; (with_reducible refine (HO.out _).mono ?_); rintro e w6 ⟨rfl, hb⟩; have N6 := N5.below hb N5.lt; have R6 := R5.below hb R5.lt; have B6 := B5.trans (hb.mono B5.size); clear hb)
          have G7 := Blk.new w6 23 (hdArr ⟨3, ((x1 : Nat) : Int) % 32766, 1 + ((x2 : Nat) : Int) % 255, 0, 0, z⟩)
          have N7 := N6.alloc (.cells (hdArr ⟨3, ((x1 : Nat) : Int) % 32766, 1 + ((x2 : Nat) : Int) % 255, 0, 0, z⟩) 23)
          have R7 := R6.alloc (.cells (hdArr ⟨3, ((x1 : Nat) : Int) % 32766, 1 + ((x2 : Nat) : Int) % 255, 0, 0, z⟩) 23)
          have B7 := B6.alloc B6.size (.cells (hdArr ⟨3, ((x1 : Nat) : Int) % 32766, 1 + ((x2 : Nat) : Int) % 255, 0, 0, z⟩) 23)
          generalize hW : w6.alloc _ = w7 at *
          generalize w6.heap.size = BG at *
          clear hW N0 R0 B0 N5 R5 B5 N6 R6 B6
          have a0 := N7.cell 0 _ rfl
          have a1 := N7.cell 1 _ rfl
          have a2 := N7.cell 2 _ rfl
          have a3 := N7.cell 3 _ rfl
          have a4 := N7.cell 4 _ rfl
          have a5 := N7.cell 5 _ rfl
          have g0 := G7.cell 0 _ rfl
          have g1 := G7.cell 1 _ rfl
          have g2 := G7.cell 2 _ rfl
          have g3 := G7.cell 3 _ rfl
          have g4 := G7.cell 4 _ rfl
          have g5 := G7.cell 5 _ rfl
          go_wp2
          go_roundw
          case rel => exact ⟨k + 1, u, _, by omega, by omega, by go_num, rfl, HUL.out, HOu.out, rfl, B7, R7⟩
          case measure => simp [intOf]; omega
        · have hsw : ((x0 : Nat) : Int) % 4 = 3 := by omega
          have hq : packP ⟨4, 0, 0, ((x1 : Nat) : Int) % 4096, ((x2 : Nat) : Int) % 4096, z⟩ = some (wordOf ⟨4, 0, 0, ((x1 : Nat) : Int) % 4096, ((x2 : Nat) : Int) % 4096, z⟩) := by
            rw [packP_eq, if_pos]
            refine ⟨⟨?_, ?_⟩, ⟨?_, ?_⟩, ?_, ?_, ?_, ?_, ?_⟩ <;> (dsimp only; omega)
          obtain ⟨u, hu⟩ : ∃ u, wordOf ⟨4, 0, 0, ((x1 : Nat) : Int) % 4096, ((x2 : Nat) : Int) % 4096, z⟩ = u := ⟨_, rfl⟩
          rw [hu] at hq
          have hul : u < 18446744073709551616 := by have := pack_lt hq; omega
          have hop := open_of_pack hq
          have HC := Lib.hid (fun W => fat_any v (((x1 : Nat) : Int) % 4096) (((x2 : Nat) : Int) % 4096) W HV.out)
          rw [withP_some HOv.out, HHv.out, hq] at HC
          have HO := Lib.hid (fun W => open_any u W hul)
          rw [hop] at HO
          have HOu := Lib.hid hop
          have HUL := Lib.hid hul
          clear hq hu hul hop
          go_upto_region 12 with fail
          have e0w : (V.alloc (.cells (hdArr ⟨0, 0, 0, 0, 0, z⟩) 23)).cell? ⟨ab, off + k * 3, none⟩ = some (.int .u16 x0) := (((Below.refl _ V).alloc (Nat.le_refl _) _).cell (p := ⟨ab, off + k * 3, none⟩) (Nat.lt_of_lt_of_le hab BV.size)).trans e0v
          go_upto_region 14 with fail
          have N0 := Blk.new V 23 (hdArr ⟨4, 0, 0, ((x1 : Nat) : Int) % 4096, ((x2 : Nat) : Int) % 4096, z⟩)
          have R0 := RV.alloc (.cells (hdArr ⟨4, 0, 0, ((x1 : Nat) : Int) % 4096, ((x2 : Nat) : Int) % 4096, z⟩) 23)
          have B0 := BV.alloc BV.size (.cells (hdArr ⟨4, 0, 0, ((x1 : Nat) : Int) % 4096, ((x2 : Nat) : Int) % 4096, z⟩) 23)
          generalize hW : V.alloc _ = w4 at *
          generalize V.heap.size = BW at *
          clear hW RV BV v5 e0v e0w hR hB r5 e0 e1 e2
          have a1 := N0.cell 1 _ rfl
          have a2 := N0.cell 2 _ rfl
          have a3 := N0.cell 3 _ rfl
          have a4 := N0.cell 4 _ rfl
          go_upto_region 24 with (go_at_call 18; (with_reducible refine (HC.out _).mono ?_); rintro e w5 ⟨rfl, hb⟩; have N5 := N0.below hb N0.lt; have R5 := R0.below hb R0.lt; have B5 := B0.trans (hb.mono B0.size); clear hb)
          clear a1 a2 a3 a4
          go_upto_region 25 with (go_at_call 12; (with_reducible refine (HO.out _).mono ?_); rintro e w6 ⟨rfl, hb⟩; have N6 := N5.below hb N5.lt; have R6 := R5.below hb R5.lt; have B6 := B5.trans (hb.mono B5.size); clear hb)
          have G7 := Blk.new w6 23 (hdArr ⟨4, 0, 0, ((x1 : Nat) : Int) % 4096, ((x2 : Nat) : Int) % 4096, z⟩)
          have N7 := N6.alloc (.cells (hdArr ⟨4, 0, 0, ((x1 : Nat) : Int) % 4096, ((x2 : Nat) : Int) % 4096, z⟩) 23)
          have R7 := R6.alloc (.cells (hdArr ⟨4, 0, 0, ((x1 : Nat) : Int) % 4096, ((x2 : Nat) : Int) % 4096, z⟩) 23)
          have B7 := B6.alloc B6.size (.cells (hdArr ⟨4, 0, 0, ((x1 : Nat) : Int) % 4096, ((x2 : Nat) : Int) % 4096, z⟩) 23)
          generalize hW : w6.alloc _ = w7 at *
          generalize w6.heap.size = BG at *
          clear hW N0 R0 B0 N5 R5 B5 N6 R6 B6
          have a0 := N7.cell 0 _ rfl
          have a1 := N7.cell 1 _ rfl
          have a2 := N7.cell 2 _ rfl
          have a3 := N7.cell 3 _ rfl
          have a4 := N7.cell 4 _ rfl
          have a5 := N7.cell 5 _ rfl
          have g0 := G7.cell 0 _ rfl
          have g1 := G7.cell 1 _ rfl
          have g2 := G7.cell 2 _ rfl
          have g3 := G7.cell 3 _ rfl
          have g4 := G7.cell 4 _ rfl
          have g5 := G7.cell 5 _ rfl
          go_wp2
          go_roundw
          case rel => exact ⟨k + 1, u, _, by omega, by omega, by go_num, rfl, HUL.out, HOu.out, rfl, B7, R7⟩
          case measure => simp [intOf]; omega
      · obtain rfl : k = 20 := by omega
        go_wp2
        go_ret
        exact ⟨rfl, hB⟩
    · obtain rfl : k = len := by omega
      go_wp2
      go_ret
      exact ⟨rfl, hB⟩
end Go.Proofs.Ytinpkgbnogilfaa
