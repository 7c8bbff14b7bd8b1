/- Layer 9's laws: LatchSteps. -/
import Derived.Test.YtcocpmoglhgbeaaLatF
namespace Go.Proofs.Ytcocpmoglhgbeaa
open Go.ChangeShapes Go.WideShapes Go.ChangeAt Go.RowKit
set_option linter.unusedVariables false
set_option maxRecDepth 100000
set_option linter.unusedSimpArgs false
section
variable {n0 : Nat} {X : Nat → Prop} {w : World} {C S t : Nat} {m : List Int} {n : Int} {τ : Nat → Option (Nat × Tre Itm)}
theorem stake_no (k i : Nat) (u c : Int) (h : Wld n0 X w C S m n τ) (hτ : τ k = some (t, spinT (takeI i u))) (hi : m[i]? = some c) (hc : c ≠ 0) (hu : 0 ≤ u ∧ u ≤ 100000) (hn : 0 ≤ n ∧ n ≤ 2000000) :
    Calls Try.prog 13 #[pV t, .int .i64 0] w fun e w' => e = .returned (.bool true) ∧ Wld n0 X w' C S m (n + 1) τ ∧ Keep (fun b => n0 ≤ b ∧ ¬ X b) w w' := by
  have hτ' := hτ
  rw [spinT_eq] at hτ'
  refine (wstepE k h hτ' (show (4 : Nat) < 5 by omega) hn (otake_no hi hc hu).1 (otake_no hi hc hu).2 (if_pos (.inl rfl))).mono ?_
  rintro e w' ⟨rfl, h1, h2⟩
  rw [← hτ, upd_id] at h1
  exact ⟨rfl, h1, h2⟩
theorem stake_yes (k i : Nat) (u : Int) (h : Wld n0 X w C S m n τ) (hτ : τ k = some (t, spinT (takeI i u))) (hi : m[i]? = some 0) (hu : 0 ≤ u ∧ u ≤ 100000) (hn : 0 ≤ n ∧ n ≤ 2000000) :
    Calls Try.prog 13 #[pV t, .int .i64 0] w fun e w' => e = .returned (.bool true) ∧ Wld n0 X w' C S (m.set i (u + 1)) (n + 1) (upd τ k (some (t, retT 1))) ∧ Keep (fun b => n0 ≤ b ∧ ¬ X b) w w' := by
  rw [spinT_eq] at hτ
  exact wstepE k h hτ (show (4 : Nat) < 5 by omega) hn (otake_yes hi hu).1 (otake_yes hi hu).2 (if_neg (by decide))
end
def OwnIs (own : Bool) (left x u : Int) : Prop := (own = true ∧ x = u + 1 ∧ left = 0) ∨ (own = false ∧ x ≠ u + 1 ∧ left = x)
theorem sdrop {n0 : Nat} {X : Nat → Prop} {w : World} {C S t : Nat} {n u x : Int} {τ : Nat → Option (Nat × Tre Itm)} (own : Bool) (left : Int) (h : Wld n0 X w C S [0, x, 0] n τ) (hτ : τ 1 = some (t, itmT [dropI 1 u] 0)) (hu : 0 ≤ u ∧ u ≤ 100000) (hn : 0 ≤ n ∧ n ≤ 2000000) (ho : OwnIs own left x u) :
    Calls Try.prog 13 #[pV t, .int .i64 0] w fun e w' => e = .returned (.bool true) ∧ Wld n0 X w' C S [0, left, 0] (n + 1) (upd τ 1 (some (t, retT (if own then 1 else 0)))) ∧ Keep (fun b => n0 ≤ b ∧ ¬ X b) w w' := by
  rcases ho with ⟨rfl, rfl, rfl⟩ | ⟨rfl, hx, rfl⟩
  · exact wstepE 1 h (x := dropI 1 u) (κ := itmT []) hτ (show (2 : Nat) < 5 by omega) hn (odrop_yes (m := [0, u + 1, 0]) (i := 1) rfl hu).1 (odrop_yes (m := [0, u + 1, 0]) (i := 1) rfl hu).2 rfl
  · exact wstepE 1 h (x := dropI 1 u) (κ := itmT []) hτ (show (2 : Nat) < 5 by omega) hn (odrop_no (m := [0, left, 0]) (i := 1) rfl hx hu).1 (odrop_no (m := [0, left, 0]) (i := 1) rfl hx hu).2 rfl
set_option maxHeartbeats 8000000 in
theorem steps_law (t x y : Int) (w : World) (ht : 0 ≤ t ∧ t ≤ 65535) (hx : 0 ≤ x ∧ x ≤ 4294967295) (hy : 0 ≤ y ∧ y ≤ 255) : Calls Try.prog 3 #[.int .u16 t, .int .u32 x, .int .u8 y] w fun e w' => e = .returned (.bool true) ∧ Below w.heap.size w w' := by
  have HN := Lib.hid fun W (h : w.heap.size ≤ W.heap.size) => wnew (a := 3) 3 rfl W w.heap.size h (by omega)
  have HWK := Lib.hid (works_any w)
  obtain ⟨u, hu⟩ : ∃ u, t.tmod 30000 = u := ⟨_, rfl⟩
  obtain ⟨r, hr⟩ : ∃ r : Nat, y.tmod 20 = (r : Int) ∧ r < 20 := by
    have : y.tmod 20 = y % 20 := Int.tmod_eq_emod_of_nonneg hy.1
    exact ⟨(y % 20).toNat, by omega, by omega⟩
  have hemod : t % 30000 = u := by rw [← hu, Int.tmod_eq_emod_of_nonneg ht.1]
  have hrmod : y % 20 = (r : Int) := by rw [← hr.1, Int.tmod_eq_emod_of_nonneg hy.1]
  have hu2 : 0 ≤ u ∧ u ≤ 100000 := by omega
  have HU := Lib.hid hu2
  have HX := Lib.hid hx
  have HR := Lib.hid hr.2
  have hr1 := hr.1
  have c1 : IntKind.i64.wrap t = t := IntWalk.i64_in _ ⟨by omega, by omega⟩
  have c2 : IntKind.u64.wrap x = x := by rw [IntKind.wrap_u64]; omega
  have c3 : IntKind.u64.wrap u = u := by rw [IntKind.wrap_u64]; omega
  have c4 : IntKind.u64.wrap (u + 1) = u + 1 := by rw [IntKind.wrap_u64]; omega
  clear hr hx hu2
  go_enter Try.func3, Try.ntmps3
  go_upto_region 3 with (go_at_call 8; refine HWK.out.mono ?_; rintro e w0 ⟨rfl, b0⟩; have HN0 := Lib.hid (HN.out w0 b0.size))
  go_upto_region 4 with (go_at_call 9; refine HN0.out.mono ?_; rintro e w1 ⟨C, S, rfl, hW1, b1, _⟩; have H1 := Lib.hid (wstore (a := 1) 1 rfl 0 x hW1 rfl (by decide)); clear HN0 hW1)
  go_upto_region 7 with (first
    | (go_at_call 10; (with_reducible refine H1.out.mono ?_); rintro e w2 ⟨rfl, hW2, k2⟩; have hW2b : Wld w.heap.size (fun _ => False) w2 C S [0, x, 0] 1 (fun _ => none) := hW2; have H2 := Lib.hid (wtake (a := 1) 0 1 rfl u hW2b); clear H1 hW2)
    | (go_at_call 11; (with_reducible refine H2.out.mono ?_); rintro e w3 ⟨ta, rfl, hW3, b3⟩; have H3 := Lib.hid (wsteps hW3); have HW3 := Lib.hid hW3; clear H2 hW3 hW2b))
  have B3 : Below w.heap.size w w3 := ((b0.trans (b1.mono b0.size)).trans (k2.below (by have := b0.size; have := b1.size; omega) (fun i _ h => h.1))).trans (b3.mono (by have := b0.size; have := b1.size; have := k2.size; omega))
  clear b0 b1 b3 k2 HWK HN
  go_wp2_with (go_at_call 12; (with_reducible refine H3.out.mono ?_); rintro e w4 ⟨rfl, rfl⟩; clear H3)
  go_loopw [11] (fun v11 wr => ∃ (I : Nat), I ≤ 20 ∧ v11 = .int .i64 (I : Int) ∧ Wld w.heap.size (fun _ => False) wr C S [0, x, 0] (1 + I) (upd (fun _ => none) 0 (some (ta, spinT (takeI 1 u)))) ∧ Below w.heap.size w wr)
    (fun v11 _ => 20 - (intOf v11).toNat)
  case atStart => exact ⟨0, by omega, rfl, HW3.out, B3⟩
  case round =>
    obtain ⟨I, hI, rfl, hW, hb⟩ := hrel
    clear HW3 B3
    have hrr := HR.out
    by_cases hgo : I < r ∧ x ≠ 0
    · have H5 := Lib.hid (stake_no 0 1 u x hW rfl rfl hgo.2 HU.out ⟨by omega, by omega⟩)
      have Hb := Lib.hid hb
      have HI := Lib.hid hI
      have g1 : (I : Int) < (r : Int) := by omega
      have g2 : (x == 0) = false := by rw [beq_eq_false_iff_ne]; exact hgo.2
      have g3 : (I : Int) < 20 := by omega
      have g4 : (0 : Int) ≤ I := by omega
      clear hgo hW hb hrr hI
      go_upto_region 11 with fail
      go_wp2_with (first
        | (go_at_call 13; (with_reducible refine H5.out.mono ?_); rintro e w5 ⟨rfl, hW5, k5⟩; have H6 := Lib.hid (wdone false 0 hW5 rfl (fin_spin _)); have H7 := Lib.hid (wsteps hW5); have H8 := Lib.hid (wallL 3 hW5 rfl (by omega)); have HW5 := Lib.hid hW5; clear H5 hW5)
        | (go_at_call 14; (with_reducible refine H6.out.mono ?_); rintro e w6 ⟨rfl, rfl⟩; clear H6)
        | (go_at_call 12; (with_reducible refine H7.out.mono ?_); rintro e w6 ⟨rfl, rfl⟩; clear H7)
        | (go_at_call 15; (with_reducible refine H8.out.mono ?_); rintro e w6 ⟨g, cap, rfl, hc, hg, b6⟩; have f1 : w6.cell? ⟨g, 1, none⟩ = some (.int .u64 x) := hc 1 x rfl; clear H8 hc))
      go_roundw
      case rel => exact ⟨I + 1, by omega, by go_num, by rw [Int.natCast_add, ← Int.add_assoc]; exact HW5.out.below b6, (Hb.out.trans (k5.below Hb.out.size (fun i _ h => h.1))).trans (b6.mono (by have := Hb.out.size; have := k5.size; omega))⟩
      case measure => simp [intOf]; omega
    · obtain ⟨N, hN⟩ : ∃ N : Int, 1 + (I : Int) = N := ⟨_, rfl⟩
      rw [hN] at hW
      have hN2 : 0 ≤ N ∧ N ≤ 30 := by omega
      have HN2 := Lib.hid hN2
      have H5 := Lib.hid (wstore (a := 1) 1 rfl x 0 hW rfl ⟨by omega, by omega⟩)
      have Hb := Lib.hid hb
      have hex : (¬ (I : Int) < (r : Int)) ∨ ((I : Int) < (r : Int) ∧ (x == 0) = true) := by
        by_cases h1 : I < r
        · right
          refine ⟨by omega, ?_⟩
          rw [beq_iff_eq]
          by_cases h2 : x = 0
          · exact h2
          · exact absurd ⟨h1, h2⟩ hgo
        · left; omega
      obtain ⟨own, left, ho⟩ : ∃ own left, (own = true ∧ x = u + 1 ∧ left = 0) ∨ (own = false ∧ x ≠ u + 1 ∧ left = x) := by
        by_cases h : x = u + 1
        · exact ⟨true, 0, .inl ⟨rfl, h, rfl⟩⟩
        · exact ⟨false, x, .inr ⟨rfl, h, rfl⟩⟩
      have HO : Hid (OwnIs own left x u) := Lib.hid ho
      have ho2 : (own = true ∧ left = 0 ∧ (x == u + 1) = true) ∨ (own = false ∧ x = left ∧ (x == u + 1) = false) := by
        rcases ho with ⟨a, b, c⟩ | ⟨a, b, c⟩
        · exact .inl ⟨a, c, by rw [beq_iff_eq]; exact b⟩
        · exact .inr ⟨a, c.symm, by rw [beq_eq_false_iff_ne]; exact b⟩
      have hall : (¬ ((I : Int) < (r : Int)) ∧ own = true ∧ left = 0 ∧ (x == u + 1) = true) ∨ (¬ ((I : Int) < (r : Int)) ∧ own = false ∧ x = left ∧ (x == u + 1) = false) ∨ ((I : Int) < (r : Int) ∧ (x == 0) = true ∧ own = false ∧ x = left ∧ (x == u + 1) = false) := by
        rcases hex with g | ⟨g, g'⟩
        · rcases ho2 with h | h
          · exact .inl ⟨g, h⟩
          · exact .inr (.inl ⟨g, h⟩)
        · rcases ho2 with ⟨h1, h2, h3⟩ | h
          · rw [beq_iff_eq] at g' h3
            have := HU.out
            omega
          · exact .inr (.inr ⟨g, g', h⟩)
      clear hgo hW hb hrr hI hN ho hex ho2
      rcases hall with ⟨g1, rfl, rfl, g3⟩ | ⟨g1, rfl, rfl, g3⟩ | ⟨g1, g2, rfl, rfl, g3⟩
      all_goals
        go_upto_region 15 with (first
            | (go_at_call 10; (with_reducible refine H5.out.mono ?_); rintro e w5 ⟨rfl, hW5, k5⟩; have H6 := Lib.hid (wsteps hW5); have H7 := Lib.hid (stake_yes 0 1 u hW5 rfl rfl HU.out ⟨by have := HN2.out; omega, by have := HN2.out; omega⟩); clear H5 hW5)
            | (go_at_call 12; (with_reducible refine H6.out.mono ?_); rintro e w6 ⟨rfl, rfl⟩; clear H6))
        go_upto_region 17 with (first
            | (go_at_call 13; (with_reducible refine H7.out.mono ?_); rintro e w6 ⟨rfl, hW6, k6⟩; have hW6b : Wld w.heap.size (fun _ => False) w6 C S [0, u + 1, 0] (N + 1 + 1) (upd (fun _ => none) 0 (some (ta, retT 1))) := hW6.fewer (fun k x e => by unfold upd at e ⊢; split at e <;> simp_all); have H8 := Lib.hid (wdone true 0 hW6b rfl (fin_ret 1)); have H9 := Lib.hid (wvalue_ret 0 hW6b rfl); have H10 := Lib.hid (wstep_ret 0 hW6b rfl); have H11 := Lib.hid (wsteps hW6b); have H12 := Lib.hid (wallL 3 hW6b rfl (by omega)); have HW6 := Lib.hid hW6b; clear H7 hW6 hW6b)
            | (go_at_call 14; (with_reducible refine H8.out.mono ?_); rintro e w7 ⟨rfl, rfl⟩; clear H8)
            | (go_at_call 16; (with_reducible refine H9.out.mono ?_); rintro e w7 ⟨rfl, rfl⟩; clear H9)
            | (go_at_call 13; (with_reducible refine H10.out.mono ?_); rintro e w7 ⟨rfl, rfl⟩; clear H10)
            | (go_at_call 12; (with_reducible refine H11.out.mono ?_); rintro e w7 ⟨rfl, rfl⟩; clear H11)
            | (go_at_call 15; (with_reducible refine H12.out.mono ?_); rintro e w7 ⟨g7, cap7, rfl, hc7, hg7, b7⟩; have f7 : w7.cell? ⟨g7, 1, none⟩ = some (.int .u64 (u + 1)) := hc7 1 (u + 1) rfl; have HW7 := Lib.hid (HW6.out.below b7); have H13 := Lib.hid (wstore (a := 1) 1 rfl (u + 1) x HW7.out rfl ⟨by have := HN2.out; omega, by have := HN2.out; omega⟩); clear H12 hc7))
        go_upto_region 20 with (first
            | (go_at_call 10; (with_reducible refine H13.out.mono ?_); rintro e w8 ⟨rfl, hW8, k8⟩; have H14 := Lib.hid (wsteps hW8); have H15 := Lib.hid (wdrop (a := 1) 1 1 rfl u hW8); clear H13 hW8)
            | (go_at_call 12; (with_reducible refine H14.out.mono ?_); rintro e w9 ⟨rfl, rfl⟩; clear H14)
            | (go_at_call 17; (with_reducible refine H15.out.mono ?_); rintro e w9 ⟨td, rfl, hW9, b9⟩; have hW9b : Wld w.heap.size (fun _ => False) w9 C S [0, x, 0] (N + 1 + 1 + 1) (upd (upd (fun _ => none) 0 (some (ta, retT 1))) 1 (some (td, itmT [dropI 1 u] 0))) := hW9; have H16 := Lib.hid (sdrop _ _ hW9b rfl HU.out ⟨by have := HN2.out; omega, by have := HN2.out; omega⟩ HO.out); clear H15 hW9 hW9b))
        have e5 := Hb.out.size
        have B5 := Hb.out.trans (k5.below e5 (fun i _ h => h.1))
        have B6 := B5.trans (k6.below B5.size (fun i _ h => h.1))
        have B7 := B6.trans (b7.mono B6.size)
        have B8 := B7.trans (k8.below B7.size (fun i _ h => h.1))
        have B9 := Lib.hid (B8.trans (b9.mono B8.size))
        clear e5 B5 B6 B7 B8 k5 k6 b7 k8 b9 f7 hg7 HW7 HW6
        go_wp2_with (first
            | (go_at_call 13; (with_reducible refine H16.out.mono ?_); rintro e w10 ⟨rfl, hW10, k10⟩; have H17 := Lib.hid (wdone true 1 hW10 rfl (fin_ret _)); have H18 := Lib.hid (wvalue_ret 1 hW10 rfl); have H19 := Lib.hid (wsteps hW10); have H20 := Lib.hid (wallL 3 hW10 rfl (by omega)); have HW10 := Lib.hid hW10; clear H16 hW10)
            | (go_at_call 14; (with_reducible refine H17.out.mono ?_); rintro e w11 ⟨rfl, rfl⟩; clear H17)
            | (go_at_call 16; (with_reducible refine H18.out.mono ?_); rintro e w11 ⟨rfl, rfl⟩; clear H18)
            | (go_at_call 12; (with_reducible refine H19.out.mono ?_); rintro e w11 ⟨rfl, rfl⟩; clear H19)
            | (go_at_call 15; (with_reducible refine H20.out.mono ?_); rintro e w11 ⟨g11, cap11, rfl, hc11, hg11, b11⟩; have f11 := hc11 1 _ rfl; have HW11 := Lib.hid (HW10.out.below b11); have H21 := Lib.hid (wallL 3 HW11.out rfl (by omega)); clear H20 hc11)
            | (go_at_call 15; (with_reducible refine H21.out.mono ?_); rintro e w12 ⟨g12, cap12, rfl, hc12, hg12, b12⟩; have f12 : w12.cell? ⟨g12, 0, none⟩ = some (.int .u64 0) := hc12 0 0 rfl; have HW12 := Lib.hid (HW11.out.below b12); have H22 := Lib.hid (wallL 3 HW12.out rfl (by omega)); clear H21 hc12)
            | (go_at_call 15; (with_reducible refine H22.out.mono ?_); rintro e w13 ⟨g13, cap13, rfl, hc13, hg13, b13⟩; have f13 : w13.cell? ⟨g13, 2, none⟩ = some (.int .u64 0) := hc13 2 0 rfl; clear H22 hc13))
        go_ret
        have B10 := B9.out.trans (k10.below B9.out.size (fun i _ h => h.1))
        have B11 := B10.trans (b11.mono B10.size)
        have B12 := B11.trans (b12.mono B11.size)
        exact ⟨rfl, B12.trans (b13.mono B12.size)⟩
end Go.Proofs.Ytcocpmoglhgbeaa
