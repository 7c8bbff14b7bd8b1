/- Layer 9's laws: finish; LatchKnown. -/
import Derived.Test.YtcocpmoglhgbeaaLatE
namespace Go.Proofs.Ytcocpmoglhgbeaa
open Go.ChangeShapes Go.WideShapes Go.ChangeAt Go.RowKit
set_option linter.unusedVariables false
set_option maxRecDepth 100000
set_option linter.unusedSimpArgs false
/-- how a task goes to its end, alone -/
structure Path (M : Nat → List Int) (T : Nat → Tre Itm) (L : Nat) (v : Int) : Prop where
  op : ∀ I, I < L → ∃ x κ u o, T I = opT x κ ∧ x.kind < 5 ∧ operS (M I) x = (M (I + 1), u, o) ∧ countS (M I) x = 1 ∧ κ u = T (I + 1)
  ret : T L = retT v
set_option maxHeartbeats 1000000 in
theorem finish_any {n0 : Nat} {X : Nat → Prop} {w : World} {C S t : Nat} {n v : Int} {τ : Nat → Option (Nat × Tre Itm)} {M : Nat → List Int} {T : Nat → Tre Itm} {L : Nat} (k most : Nat) (hP : Path M T L v) (h : Wld n0 X w C S (M 0) n τ) (hτ : τ k = some (t, T 0)) (hL : L ≤ most) (hm : most ≤ 1000) (hn : 0 ≤ n ∧ n ≤ 1000000) {mI : Int} (hI : mI = most) :
    Calls Try.prog 18 #[pV t, .int .i64 mI, .int .i64 v] w fun e w' => e = .returned (.bool true) ∧ (∃ τ', Wld n0 X w' C S (M L) (n + L) τ' ∧ ∀ j, j ≠ k → τ' j = τ j) ∧ Keep (fun b => n0 ≤ b ∧ ¬ X b) w w' := by
  subst hI
  have HP := Lib.hid hP
  have H := Lib.hid h
  have HT := Lib.hid hτ
  have HL := Lib.hid hL
  clear hP h hτ hL
  go_enter Try.func18, Try.ntmps18
  go_wp2_with fail
  go_loopw [7] (fun v7 wr => ∃ (I : Nat) (τ' : Nat → Option (Nat × Tre Itm)), I ≤ L ∧ v7 = .int .i64 (I : Int) ∧ τ' k = some (t, T I) ∧ (∀ j, j ≠ k → τ' j = τ j) ∧ Wld n0 X wr C S (M I) (n + I) τ' ∧ Keep (fun b => n0 ≤ b ∧ ¬ X b) w wr)
    (fun v7 _ => L - (intOf v7).toNat)
  case atStart => exact ⟨0, τ, by omega, rfl, HT.out, fun _ _ => rfl, by simpa using H.out, Keep.refl _ _⟩
  case round =>
    obtain ⟨I, τ', hI, rfl, hτ, ho, hW, hk⟩ := hrel
    have hLm := HL.out
    by_cases hlt : I < L
    · obtain ⟨x, κ, u, o, e1, e2, e3, e4, e5⟩ := HP.out.op I hlt
      have hτ2 := hτ
      rw [e1] at hτ2
      have hD := Lib.hid (wdone false k hW hτ2 (fin_op x κ))
      have hS := Lib.hid (wstepE k hW hτ2 e2 ⟨by omega, by omega⟩ e3 e4 e5)
      have Ho := Lib.hid ho
      have Hk := Lib.hid hk
      have h4 : (I : Int) < (most : Int) := by omega
      have HLt := Lib.hid hlt
      clear hτ hτ2 hW ho hk e1 e2 e3 e4 e5 hlt hLm hI
      go_wp2_with (first
        | (go_at_call 14; (with_reducible refine hD.out.mono ?_); rintro e w2 ⟨rfl, rfl⟩)
        | (go_at_call 13; (with_reducible refine hS.out.mono ?_); rintro e w3 ⟨rfl, hW3, k3⟩))
      have hlt := HLt.out
      go_roundw
      case rel => exact ⟨I + 1, _, hlt, by go_num, upd_same _ _ _, fun j hj => (upd_ne _ _ _ _ hj).trans (Ho.out j hj), by rw [Int.natCast_add, ← Int.add_assoc]; exact hW3, Hk.out.trans k3⟩
      case measure => simp [intOf]; omega
    · obtain rfl : I = L := by omega
      have hτ2 := hτ
      rw [HP.out.ret] at hτ2
      have hD := Lib.hid (wdone true k hW hτ2 (fin_ret v))
      have hV := Lib.hid (wvalue_ret k hW hτ2)
      have Ho := Lib.hid ho
      have Hk := Lib.hid hk
      have HW := Lib.hid hW
      clear hτ hτ2 hW ho hk HP H HT HL hlt hI
      have hor : (I : Int) < (most : Int) ∨ ¬ (I : Int) < (most : Int) := by omega
      rcases hor with h4 | h4
      all_goals
        go_wp2_with (first
          | (go_at_call 14; (with_reducible refine hD.out.mono ?_); rintro e w2 ⟨rfl, rfl⟩)
          | (go_at_call 16; (with_reducible refine hV.out.mono ?_); rintro e w2 ⟨rfl, rfl⟩))
        go_ret
        exact ⟨rfl, ⟨_, HW.out, Ho.out⟩, Hk.out⟩
section
variable {n0 : Nat} {X : Nat → Prop} {w : World} {C S : Nat} {m : List Int} {n : Int} {τ : Nat → Option (Nat × Tre Itm)}
theorem wloose {i' : Int} (k i : Nat) (hi : i' = i) (h : Wld n0 X w C S m n τ) :
    Calls Try.prog 20 #[cellsV C, .int .i64 i'] w fun e w' => ∃ t, e = .returned (pV t) ∧ Wld n0 X w' C S m n (upd τ k (some (t, looseT i))) ∧ Below w.heap.size w w' := by
  subst hi
  refine (loose_any C 0 (fun b => w.heap.size ≤ b) i w (fun _ h => h)).mono ?_
  rintro e w' ⟨t, rfl, hM⟩
  exact ⟨t, rfl, h.new k hM, hM.2.2⟩
theorem wguard_none {a' : Int} (k a : Nat) (ha : a' = a) (u : Int) (h : Wld n0 X w C S m n τ) :
    Calls Try.prog 23 #[cellsV C, .int .i64 a', .int .i64 u, .nilFunc] w fun e w' => ∃ t, e = .returned (pV t) ∧ Wld n0 X w' C S m n (upd τ k (some (t, guardT a u (retT 0)))) ∧ Below w.heap.size w w' := by
  subst ha
  refine (guard_any C 0 (fun b => w.heap.size ≤ b) a u .nilFunc (retT 0) w (.inl rfl) (fun W hW => ?_) (fun _ h => h)).mono ?_
  · refine (called_none W).mono ?_
    rintro e W' ⟨rfl, rfl⟩
    exact ⟨none, rfl, Below.refl _ _, .inl ⟨0, rfl, .inl ⟨rfl, rfl⟩⟩, fun k e => by cases e⟩
  · rintro e w' ⟨t, rfl, hM⟩
    exact ⟨t, rfl, h.new k hM, hM.2.2⟩
end
theorem wallL {n0 : Nat} {X : Nat → Prop} {w : World} {C S : Nat} {m : List Int} {n : Int} {τ : Nat → Option (Nat × Tre Itm)} (L : Nat) (h : Wld n0 X w C S m n τ) (hm : m.length = L) (h0 : 0 < L) :
    Calls Try.prog 15 #[cellsV C] w fun e w' => ∃ g cap, e = .returned (.slice (some ⟨g, 0, none⟩) L cap) ∧ (∀ (i : Nat) c, m[i]? = some c → w'.cell? ⟨g, i, none⟩ = some (.int .u64 c)) ∧ w.heap.size ≤ g ∧ Below w.heap.size w w' := by
  subst hm
  exact wall h (fun e => by rw [e] at h0; simp at h0)
def kT : Nat → Tre Itm
  | 0 => guardT 2 7 (retT 0)
  | 1 => outT 2 7 0
  | _ => retT 0
def kM : Nat → List Int
  | 1 => [0, 0, 8]
  | _ => [0, 0, 0]
theorem k_path : Path kM kT 2 0 where
  op := fun I hI => by
    have h7 : (0 : Int) ≤ 7 ∧ (7 : Int) ≤ 100000 := by decide
    match I, hI with
    | 0, _ => exact ⟨_, _, _, _, none_eq 2 7, (show (4 : Nat) < 5 by omega), (otake_yes (m := [0, 0, 0]) rfl h7).1, (otake_yes (m := [0, 0, 0]) rfl h7).2, rfl⟩
    | 1, _ => exact ⟨_, _, _, _, rfl, (show (2 : Nat) < 5 by omega), (odrop_yes (m := [0, 0, 8]) (i := 2) (u := 7) rfl h7).1, (odrop_yes (m := [0, 0, 8]) (i := 2) (u := 7) rfl h7).2, rfl⟩
  ret := rfl
set_option maxHeartbeats 4000000 in
theorem known_law (w : World) : Calls Try.prog 7 #[] w fun e w' => e = .returned (.bool true) ∧ Below w.heap.size w w' := by
  have HN := Lib.hid (wnew (a := 3) 3 rfl w w.heap.size (Nat.le_refl _) (by omega))
  have HWK := Lib.hid works_any
  go_enter Try.func7, Try.ntmps7
  go_upto_region 2 with (go_at_call 9; refine HN.out.mono ?_; rintro e w1 ⟨C, S, rfl, hW1, b1, _⟩; have H1 := Lib.hid (wguard_none (a' := 2) 0 2 rfl 7 hW1); clear HN hW1)
  go_upto_region 3 with (go_at_call 23; (with_reducible refine H1.out.mono ?_); rintro e w2 ⟨tg, rfl, hW2, b2⟩; have H2 := Lib.hid (finish_any (mI := 2) 0 2 k_path hW2 rfl (by omega) (by omega) (by decide) rfl); clear H1 hW2)
  have B2 : Below w.heap.size w w2 := b1.trans (b2.mono b1.size)
  clear b1 b2
  go_upto_region 4 with (first
    | (go_at_call 18; (with_reducible refine H2.out.mono ?_); rintro e w3 ⟨rfl, ⟨τ3, hW3, o3⟩, k3⟩; have H3 := Lib.hid (wall hW3 (by simp [kM])); have HW3 := Lib.hid hW3; clear H2 hW3)
    | (go_at_call 15; (with_reducible refine H3.out.mono ?_); rintro e w4 ⟨g, cap, rfl, hc, hg, b4⟩; have f2 : w4.cell? ⟨g, 2, none⟩ = some (.int .u64 0) := hc 2 0 rfl; have HW4 := Lib.hid (HW3.out.below b4); have H4 := Lib.hid (wsteps HW4.out); clear H3)
    | (go_at_call 12; (with_reducible refine H4.out.mono ?_); rintro e w5 ⟨rfl, rfl⟩))
  have B4 : Below w.heap.size w w4 := (B2.trans (k3.below B2.size (fun i _ h => h.1))).trans (b4.mono (by have := B2.size; have := k3.size; omega))
  clear B2 k3 b4 f2 hc hg H4
  have H5 := Lib.hid (wloose (i' := 0) 1 0 rfl HW4.out)
  go_upto_region 5 with (first
    | (go_at_call 20; (with_reducible refine H5.out.mono ?_); rintro e w5 ⟨ta, rfl, hW5, b5⟩; have H6 := Lib.hid (wloose (i' := 0) 2 0 rfl hW5); clear H5 hW5)
    | (go_at_call 20; (with_reducible refine H6.out.mono ?_); rintro e w6 ⟨tb, rfl, hW6, b6⟩; have HW6 := Lib.hid hW6; clear H6 hW6))
  have B6 : Below w.heap.size w w6 := (B4.trans (b5.mono B4.size)).trans (b6.mono (by have := B4.size; have := b5.size; omega))
  clear B4 b5 b6 HW4 HW3
  have S1 := Lib.hid (wstepE (T' := lsT 0 0) 1 HW6.out rfl (show (0 : Nat) < 5 by omega) (by decide) (oload_on (m := [0, 0, 0]) (i := 0) (c := 0) rfl (by decide)).1 (oload_on (m := [0, 0, 0]) (i := 0) (c := 0) rfl (by decide)).2 rfl)
  go_upto_region 6 with (first
    | (go_at_call 13; (with_reducible refine S1.out.mono ?_); rintro e w7 ⟨rfl, hW7, k7⟩; have S2 := Lib.hid (wstepE (T' := lsT 0 0) 2 hW7 rfl (show (0 : Nat) < 5 by omega) (by decide) (oload_on (m := [0, 0, 0]) (i := 0) (c := 0) rfl (by decide)).1 (oload_on (m := [0, 0, 0]) (i := 0) (c := 0) rfl (by decide)).2 rfl); clear S1 hW7)
    | (go_at_call 13; (with_reducible refine S2.out.mono ?_); rintro e w8 ⟨rfl, hW8, k8⟩; have S3 := Lib.hid (wstepE (T' := retT 0) 1 hW8 rfl (show (1 : Nat) < 5 by omega) (by decide) (ostore_on (m := [0, 0, 0]) (i := 0) (c := 0) (v := 0) rfl (by decide)).1 (ostore_on (m := [0, 0, 0]) (i := 0) (c := 0) rfl (by decide)).2 rfl); clear S2 hW8)
    | (go_at_call 13; (with_reducible refine S3.out.mono ?_); rintro e w9 ⟨rfl, hW9, k9⟩; have S4 := Lib.hid (wstepE (T' := retT 0) 2 hW9 rfl (show (1 : Nat) < 5 by omega) (by decide) (ostore_on (m := [1, 0, 0]) (i := 0) (c := 1) (v := 0) rfl (by decide)).1 (ostore_on (m := [1, 0, 0]) (i := 0) (c := 1) rfl (by decide)).2 rfl); clear S3 hW9)
    | (go_at_call 13; (with_reducible refine S4.out.mono ?_); rintro e w10 ⟨rfl, hW10, k10⟩; have D1 := Lib.hid (wdone true 1 hW10 rfl (fin_ret 0)); have D2 := Lib.hid (wdone true 2 hW10 rfl (fin_ret 0)); have A1 := Lib.hid (wall hW10 (by decide)); clear S4 hW10)
    | (go_at_call 14; (with_reducible refine D1.out.mono ?_); rintro e w11 ⟨rfl, rfl⟩; clear D1)
    | (go_at_call 14; (with_reducible refine D2.out.mono ?_); rintro e w11 ⟨rfl, rfl⟩; clear D2)
    | (go_at_call 15; (with_reducible refine A1.out.mono ?_); rintro e w12 ⟨g2, cap2, rfl, hc2, hg2, b12⟩; have f0 : w12.cell? ⟨g2, 0, none⟩ = some (.int .u64 1) := hc2 0 1 rfl; clear A1 hc2))
  have B10 : Below w.heap.size w w10 := (((B6.trans (k7.below B6.size (fun i _ h => h.1))).trans (k8.below (by have := B6.size; have := k7.size; omega) (fun i _ h => h.1))).trans (k9.below (by have := B6.size; have := k7.size; have := k8.size; omega) (fun i _ h => h.1))).trans (k10.below (by have := B6.size; have := k7.size; have := k8.size; have := k9.size; omega) (fun i _ h => h.1))
  have B12 : Below w.heap.size w w12 := B10.trans (b12.mono B10.size)
  clear B10 B6 k7 k8 k9 k10 b12 HW6
  go_wp2_with (go_at_call 8; (with_reducible refine (HWK.out _).mono ?_); rintro e w13 ⟨rfl, b13⟩)
  go_ret
  exact ⟨rfl, B12.trans (b13.mono B12.size)⟩
end Go.Proofs.Ytcocpmoglhgbeaa
