/- Layer 9's laws: works: the chapter's examples. -/
import Derived.Test.YtcocpmoglhgbeaaLatD
namespace Go.Proofs.Ytcocpmoglhgbeaa
open Go.ChangeShapes Go.WideShapes Go.ChangeAt Go.RowKit
set_option linter.unusedVariables false
set_option maxRecDepth 100000
set_option linter.unusedSimpArgs false
theorem idx_u64s (len c B i : Nat) (h : i < len) : ∀ W, (Instr.indexAt 33 (.slice (some ⟨B, 0, none⟩) len c) (.int .i64 (i : Int))).run Try.prog W = .ok (.pointer (some ⟨B, i, none⟩)) W := by
  intro W
  go_simp
def wantV : Array Value := #[.int .u64 3, .int .u64 0, .int .u64 3, .int .u64 0, .int .u64 3, .int .u64 1, .int .u64 0, .int .u64 1]
theorem gM_two (I : Nat) (hI : I < 4) : ∃ a b : Nat, gM (I + 1) = [(a : Int), (b : Int)] ∧ wantV[I * 2]? = some (.int .u64 (a : Int)) ∧ wantV[I * 2 + 1]? = some (.int .u64 (b : Int)) := by
  match I, hI with
  | 0, _ => exact ⟨3, 0, rfl, rfl, rfl⟩
  | 1, _ => exact ⟨3, 0, rfl, rfl, rfl⟩
  | 2, _ => exact ⟨3, 1, rfl, rfl, rfl⟩
  | 3, _ => exact ⟨0, 1, rfl, rfl, rfl⟩
set_option maxHeartbeats 4000000 in
theorem works_any (w : World) : Calls Try.prog 8 #[] w fun e w' => e = .returned (.bool true) ∧ Below w.heap.size w w' := by
  have HN := Lib.hid (wnew (a := 2) 2 rfl w w.heap.size (Nat.le_refl _) (by omega))
  have n3 : (0 : Int) ≤ 3 ∧ (3 : Int) ≤ 100000 := by decide
  have n5 : (0 : Int) ≤ 5 ∧ (5 : Int) ≤ 100000 := by decide
  have N3 := Lib.hid n3
  have N5 := Lib.hid n5
  clear n3 n5
  go_enter Try.func8, Try.ntmps8
  go_upto_region 2 with (go_at_call 9; refine HN.out.mono ?_; rintro e w1 ⟨C, S, rfl, hW1, b1, _⟩; have H1 := Lib.hid (wtake (a := 0) 3 0 rfl 3 hW1); clear HN hW1)
  go_upto_region 3 with (first
    | (go_at_call 11; (with_reducible refine H1.out.mono ?_); rintro e w2 ⟨ta, rfl, hW2, b2⟩; have H2 := Lib.hid (wtake (a := 0) 5 0 rfl 5 hW2); clear H1 hW2)
    | (go_at_call 11; (with_reducible refine H2.out.mono ?_); rintro e w3 ⟨tb, rfl, hW3, b3⟩; have H3 := Lib.hid (ltake_yes 3 0 3 hW3 rfl rfl N3.out (by decide)); clear H2 hW3))
  go_upto_region 4 with (first
    | (go_at_call 22; (with_reducible refine H3.out.mono ?_); rintro e w4 ⟨rfl, hW4, k4⟩; have H4 := Lib.hid (wload (a := 0) 0 rfl 4 hW4 rfl (by decide)); clear H3 hW4)
    | (go_at_call 24; (with_reducible refine H4.out.mono ?_); rintro e w5 ⟨rfl, hW5, k5⟩; have H5 := Lib.hid (ltake_no 5 0 5 4 hW5 rfl rfl (by decide) N5.out (by decide)); clear H4 hW5)
    | (go_at_call 22; (with_reducible refine H5.out.mono ?_); rintro e w6 ⟨rfl, hW6, k6⟩; have H6 := Lib.hid (ltake_no 5 0 5 4 hW6 rfl rfl (by decide) N5.out (by decide)); clear H5 hW6)
    | (go_at_call 22; (with_reducible refine H6.out.mono ?_); rintro e w7 ⟨rfl, hW7, k7⟩; have H7 := Lib.hid (wdrop (a := 0) 10 0 rfl 5 hW7); clear H6 hW7))
  have B4 : Below w.heap.size w w4 := ((b1.trans (b2.mono b1.size)).trans (b3.mono (by have := b1.size; have := b2.size; omega))).trans (k4.below (by have := b1.size; have := b2.size; have := b3.size; omega) (fun i _ h => h.1))
  have B7 : Below w.heap.size w w7 := ((B4.trans (k5.below B4.size (fun i _ h => h.1))).trans (k6.below (by have := B4.size; have := k5.size; omega) (fun i _ h => h.1))).trans (k7.below (by have := B4.size; have := k5.size; have := k6.size; omega) (fun i _ h => h.1))
  clear b1 b2 b3 k4 k5 k6 k7 B4
  go_upto_region 5 with (first
    | (go_at_call 17; (with_reducible refine H7.out.mono ?_); rintro e w8 ⟨td, rfl, hW8, b8⟩; have H8 := Lib.hid (wdrop (a := 0) 11 0 rfl 3 hW8); clear H7 hW8)
    | (go_at_call 17; (with_reducible refine H8.out.mono ?_); rintro e w9 ⟨te, rfl, hW9, b9⟩; have H9 := Lib.hid (ldrop_no 10 0 5 4 hW9 rfl rfl (by decide) N5.out (by decide)); clear H8 hW9))
  go_upto_region 6 with (first
    | (go_at_call 22; (with_reducible refine H9.out.mono ?_); rintro e w10 ⟨rfl, hW10, k10⟩; have H10 := Lib.hid (wvalue_ret 10 hW10 rfl); have H10b := Lib.hid (ldrop_yes 11 0 3 hW10 rfl rfl N3.out (by decide)); clear H9 hW10)
    | (go_at_call 16; (with_reducible refine H10.out.mono ?_); rintro e w11 ⟨rfl, rfl⟩; clear H10)
    | (go_at_call 22; (with_reducible refine H10b.out.mono ?_); rintro e w11 ⟨rfl, hW11, k11⟩; have H11 := Lib.hid (wvalue_ret 11 hW11 rfl); have H11b := Lib.hid (ltake_yes 5 0 5 hW11 rfl rfl N5.out (by decide)); clear H10b hW11)
    | (go_at_call 16; (with_reducible refine H11.out.mono ?_); rintro e w12 ⟨rfl, rfl⟩; clear H11)
    | (go_at_call 22; (with_reducible refine H11b.out.mono ?_); rintro e w12 ⟨rfl, hW12, k12⟩; have H12 := Lib.hid (wload (a := 0) 0 rfl 6 hW12 rfl (by decide)); clear H11b hW12)
    | (go_at_call 24; (with_reducible refine H12.out.mono ?_); rintro e w13 ⟨rfl, hW13, k13⟩; clear H12 hW13))
  have B9 : Below w.heap.size w w9 := (B7.trans (b8.mono B7.size)).trans (b9.mono (by have := B7.size; have := b8.size; omega))
  have B11 : Below w.heap.size w w11 := (B9.trans (k10.below B9.size (fun i _ h => h.1))).trans (k11.below (by have := B9.size; have := k10.size; omega) (fun i _ h => h.1))
  have B13 : Below w.heap.size w w13 := (B11.trans (k12.below B11.size (fun i _ h => h.1))).trans (k13.below (by have := B11.size; have := k12.size; omega) (fun i _ h => h.1))
  clear b8 b9 k10 k11 k12 k13 B9 B11 B7
  have HN2 := Lib.hid (wnew (a := 2) 2 rfl w13 w.heap.size B13.size (by omega))
  go_upto_region 7 with (go_at_call 9; refine HN2.out.mono ?_; rintro e w14 ⟨C2, S2, rfl, hW14, b14, _⟩; have H14 := Lib.hid (wbump (a' := 0) (i' := 1) 0 0 1 rfl rfl 2 hW14); clear HN2 hW14)
  go_upto_region 8 with (go_at_call 19; refine H14.out.mono ?_; rintro e w15 ⟨tg, rfl, hW15, b15⟩; have HW15 := Lib.hid hW15; clear H14 hW15)
  have B15 : Below w.heap.size w w15 := (B13.trans (b14.mono B13.size)).trans (b15.mono (by have := B13.size; have := b14.size; omega))
  clear b14 b15 B13
  go_upto_region 9 with fail
  generalize hV : (w15.alloc _) = W0
  have q0 : Blk W0 w15.heap.size 53 wantV := by rw [← hV]; exact Blk.new w15 _ _
  have bV : Below w15.heap.size w15 W0 := by rw [← hV]; go_grown
  clear hV
  have hW := HW15.out.grow bV (fun b => b = w15.heap.size) (fun b hb => .inr ⟨by omega, by rw [hb]; exact q0.lt⟩)
  have BW : Below w.heap.size w W0 := B15.trans (bV.mono B15.size)
  clear B15 bV HW15
  generalize w15.heap.size = X at *
  have hτ : (upd (fun _ => (none : Option (Nat × Tre Itm))) 0 (some (tg, bumpT 0 2 1))) 0 = some (tg, gT 0) := rfl
  generalize (upd (fun _ => (none : Option (Nat × Tre Itm))) 0 (some (tg, bumpT 0 2 1))) = τ0 at *
  go_wp2_with fail
  go_loopw [11] (fun v11 wr => ∃ (I : Nat) (τ : Nat → Option (Nat × Tre Itm)), I ≤ 4 ∧ v11 = .int .i64 (I : Int) ∧ τ 0 = some (tg, gT I) ∧ Wld w.heap.size (fun b => b = X) wr C2 S2 (gM I) I τ ∧ Blk wr X 53 wantV ∧ Below w.heap.size w wr)
    (fun v11 _ => 4 - (intOf v11).toNat)
  case atStart => exact ⟨0, τ0, by omega, rfl, hτ, hW, q0, BW⟩
  case round =>
    clear hτ hW q0 BW
    obtain ⟨I, τ, hI, rfl, hτ, hW, hB, hb⟩ := hrel
    by_cases hlt : I < 4
    · have hD := Lib.hid (wdone false 0 hW hτ (by have := g_fin I hI; rwa [show (I == 4) = false by rw [beq_eq_false_iff_ne]; omega] at this))
      have hS := Lib.hid (g_step I hlt hW hτ ⟨by omega, by omega⟩)
      have HB := Lib.hid hB
      have Hb := Lib.hid hb
      have h4 : (I : Int) < 4 := by omega
      clear hτ hW hB hb
      go_upto_region 14 with (first
        | (go_at_call 14; (with_reducible refine hD.out.mono ?_); rintro e w2 ⟨rfl, rfl⟩)
        | (go_at_call 13; (with_reducible refine hS.out.mono ?_); rintro e w3 ⟨rfl, hW3, k3⟩; have hA := Lib.hid (wall hW3 (by obtain ⟨a, b, e, _⟩ := gM_two I hlt; rw [e]; simp)); have HW3 := Lib.hid hW3; clear hW3))
      go_upto_region 15 with (go_at_call 15; (with_reducible refine hA.out.mono ?_); rintro e w4 ⟨g, cap, rfl, hc, hg, b4⟩)
      obtain ⟨a, b, e1, e2, e3⟩ := gM_two I hlt
      have s3 := k3.size
      have hwr := Hb.out.size
      have B3 := HB.out.keep k3 (fun h => h.2 rfl)
      have B4 := B3.below b4 B3.lt
      have hlen : (gM (I + 1)).length = 2 := by rw [e1]; rfl
      rw [hlen]
      have c0 : w4.cell? ⟨g, 0, none⟩ = some (.int .u64 (a : Int)) := hc 0 a (by rw [e1]; rfl)
      have c1 : w4.cell? ⟨g, 1, none⟩ = some (.int .u64 (b : Int)) := hc 1 b (by rw [e1]; rfl)
      have d0 : w4.cell? ⟨X, I * 2, none⟩ = some (.int .u64 (a : Int)) := B4.cell _ _ e2
      have d1 : w4.cell? ⟨X, I * 2 + 1, none⟩ = some (.int .u64 (b : Int)) := B4.cell _ _ e3
      have i0 := idx_u64s 2 cap g 0 (by omega) w4
      have i1 := idx_u64s 2 cap g 1 (by omega) w4
      clear e1 e2 e3 hc
      go_quiet (fail)
      go_wp2
      go_roundw
      case rel =>
        have HW4 := HW3.out.below b4
        exact ⟨I + 1, _, by omega, by go_num, upd_same _ _ _, (HW4.below ((bdrewN (Below.refl _ w4) nq))), (B4.drewN nq), ((Hb.out.trans (k3.below hwr (fun i _ h => h.1))).trans (b4.mono (by omega))).trans (bdrewN (Below.refl _ w4) nq |>.mono (by omega))⟩
      case measure => simp [intOf]; omega
    · obtain rfl : I = 4 := by omega
      have hD := Lib.hid (wdone true 0 hW hτ (fin_ret 0))
      have hV := Lib.hid (wvalue_ret 0 hW hτ)
      have Hb := Lib.hid hb
      clear hτ hW hB hb
      go_wp2_with (first
        | (go_at_call 14; (with_reducible refine hD.out.mono ?_); rintro e w2 ⟨rfl, rfl⟩)
        | (go_at_call 16; (with_reducible refine hV.out.mono ?_); rintro e w2 ⟨rfl, rfl⟩))
      go_ret
      exact ⟨rfl, Hb.out⟩
end Go.Proofs.Ytcocpmoglhgbeaa
