/- Layer 6's law: TaskSpins. -/
import Derived.Test.YtmkgbbbhmbejnaaTaskApi
import Derived.Test.YtmkgbbbhmbejnaaTaskHas
import Derived.Test.YtmkgbbbhmbejnaaTaskWorksB
namespace Go.Proofs.Ytmkgbbbhmbejnaa
open Go.ChangeShapes Go.WideShapes Go.ChangeAt Go.RowKit
set_option linter.unusedVariables false
set_option maxRecDepth 100000
set_option linter.unusedSimpArgs false
theorem has_one (C S : Nat) (x : Int) (k : Int) (b : Nat) (w : World) (hC : CellsAt w C S [x] k) (hb : Blk w b 22 #[.int .u64 x]) :
    Calls Try.prog 33 #[cellsV C, .slice (some ⟨b, 0, none⟩) 1 1] w fun e w' => e = .returned (.bool true) ∧ Keep (fun _ => False) w w' := by
  have hr : w.ownsRow b 22 1 (.slice (some ⟨b, 0, none⟩) 1 1) 1 [.int .u64 x] :=
    ⟨by simp, .inr ⟨b, 1, _, rfl, Nat.le_refl _, hb, Nat.le_refl _, by decide, rfl, rfl⟩⟩
  exact has6_any C S b [x] k _ w hC (Nat.succ_pos 0) hr
set_option maxHeartbeats 8000000 in
theorem spins_law (old new tries : Int) (w : World) (ho : 0 ≤ old ∧ old ≤ 18446744073709551615) (hn : 0 ≤ new ∧ new ≤ 18446744073709551615) (ht : 0 ≤ tries ∧ tries ≤ 255) :
    Calls Try.prog 6 #[.int .u64 old, .int .u64 new, .int .u8 tries] w fun e w' => e = .returned (.bool true) ∧ Below w.heap.size w w' := by
  have HWk := Lib.hid fun W => works6_any W
  have HN := Lib.hid fun W => new_some 1 W (by decide)
  have HO := Lib.hid ho
  have HNN := Lib.hid hn
  go_enter Try.func6, Try.ntmps6
  go_upto_region 4 with (first
    | (go_at_call 20; refine (HWk.out _).mono ?_; rintro e w2 ⟨rfl, kb2⟩)
    | (go_at_call 35; refine (HN.out _).mono ?_; rintro e w3 ⟨rfl, hC, kb3⟩))
  obtain ⟨S, hS⟩ : ∃ S, w2.heap.size = S := ⟨_, rfl⟩
  rw [hS] at hC kb3
  simp only [hS]
  have nS : w.heap.size ≤ S := by have := kb2.size; omega
  have HB := Lib.hid (kb2.trans (kb3.mono nS))
  replace hC : CellsAt w3 (S + 1) S [0] 0 := hC
  obtain ⟨C, hCd⟩ : ∃ C, S + 1 = C := ⟨_, rfl⟩
  rw [hCd] at hC
  simp only [hCd]
  obtain ⟨U, hU⟩ : ∃ U, IntKind.u64.wrap (old + 1) = U := ⟨_, rfl⟩
  have hUo : U ≠ old := by
    intro h
    rw [← hU] at h
    have h2 : (old + 1) % 18446744073709551616 = old := h
    omega
  have hST := Lib.hid (store_yes C S [0] 0 0 0 U w3 hC rfl (by decide) (by decide))
  clear hC HN HWk kb2 kb3
  go_upto_region 5 with (go_at_call 36; refine hST.out.mono ?_; rintro e w4 ⟨rfl, hC, k4⟩)
  replace hC : CellsAt w4 C S [U] 1 := hC
  have hSP := Lib.hid (spin_new C S old new [U] 1 w4 hC HO.out HNN.out)
  go_upto_region 6 with (go_at_call 37; refine hSP.out.mono ?_; rintro e w5 ⟨t, Q, rfl, hT, hQ, kb5⟩)
  have hC5 := hC.keep (Keep.ofBelow (Q := fun _ => False) kb5) (fun h => h) (fun h => h)
  obtain ⟨n, hn50, hnt⟩ : ∃ n : Nat, n < 50 ∧ tries.tmod 50 = n := by
    have h := Int.tmod_eq_emod_of_nonneg (b := 50) ht.1
    exact ⟨(tries % 50).toNat, by omega, by rw [h]; omega⟩
  have hCl := hC.own.lt
  have hSl := hC.row.lt
  have B4 : Below w.heap.size w w4 := HB.out.trans (k4.below (by have := HB.out.size; omega) (fun b _ h => by rcases h with h | h <;> omega))
  have B5 := B4.trans (kb5.mono B4.size)
  have h45 := kb5.size
  have DN := Lib.hid fun Q W h => show Calls Try.prog 29 #[ptrV t] W fun e w' => e = .returned (.bool false) ∧ Keep (fun _ => False) W w' from tdone_any (lone C S) t Q [⟨4, 0, old, new⟩] 0 W h
  have SN := Lib.hid fun k hk Q W h => gstep_no (lone C S) t Q [⟨4, 0, old, new⟩] 0 k W h rfl hk
  clear hC hSP hST k4 kb5
  have hst : stepS [U] [] [⟨4, 0, old, new⟩] 0 0 = ([U], [], [⟨4, 0, old, new⟩], 0) := by
    simp [stepS, operS, hUo]
  have HST := Lib.hid hst
  have HT := Lib.hid ht
  clear hst hUo ht ho hn
  go_wp2
  go_loopw [9] (fun i wr => ∃ (j : Nat) (Q : Nat → Prop), j ≤ n ∧ i = .int .i64 j ∧ TaskAt wr (lone C S) t Q [⟨4, 0, old, new⟩] 0 ∧ CellsAt wr C S [U] (1 + j) ∧ (∀ b, Q b → w4.heap.size ≤ b) ∧ w4.heap.size ≤ wr.heap.size ∧ Below w.heap.size w wr) (fun i wr => n - (intOf i).toNat)
  case atStart => exact ⟨0, Q, by omega, rfl, hT, hC5, hQ, h45, B5⟩
  case round =>
    clear hT hQ hC5
    obtain ⟨j, Q, hj, rfl, hT, hC, hQ, h4r, hB⟩ := hrel
    by_cases hlt : j < n
    · have gY := Lib.hid (gstep_yes (lone C S) t Q [⟨4, 0, old, new⟩] 0 [U] (1 + (j : Int)) wr hT hC (fun b hb => ⟨fun e => by have := hQ b hb; simp only [lone] at e; omega, fun e => by have := hQ b hb; simp only [lone] at e; omega⟩) (by simp) rfl (by omega))
      rw [HST.out] at gY
      have hlti : (j : Int) < n := by omega
      go_wp2_with (first
        | (go_at_call 27; (with_reducible refine gY.out.mono ?_); rintro e wb ⟨rfl, ⟨Q', hT', hQ'⟩, hC', kS⟩; have k0 : Keep (fun _ => False) wb wb := Keep.refl _ _)
        | (go_at_call 29; refine (DN.out Q' _ (hT'.keep (by first | assumption | exact k0.alloc _) (fun _ _ h => h))).mono ?_; rintro e wa ⟨rfl, k1⟩; replace k0 := k0.trans k1)
        | (go_at_call 27; (with_reducible refine (SN.out _ (by decide) Q' _ (hT'.keep (by first | assumption | exact k0.alloc _) (fun _ _ h => h))).mono ?_); rintro e wa ⟨rfl, k1⟩; replace k0 := k0.trans k1)
        | (go_at_call 33; (try simp only [hU]); refine (has_one C S U _ _ _ (hC'.keep (by first | assumption | exact k0.alloc _) (fun h => h) (fun h => h)) (Blk.new _ _ _)).mono ?_; rintro e wa ⟨rfl, k1⟩; replace k0 := (k0.alloc _).trans k1))
      have hsc : stepCount [U] [(⟨4, 0, old, new⟩ : Itm)] = 1 := rfl
      rw [hsc] at hC'
      refine ⟨⟨j + 1, Q', by omega, by go_num, hT'.keep k0 (fun _ _ h => h), by rw [Int.natCast_add, Int.natCast_one, ← Int.add_assoc]; exact hC'.keep k0 (fun h => h) (fun h => h), fun b hb => ?_, ?_, ?_⟩, by simp [intOf]; omega⟩
      · rcases hQ' b hb with h | h
        · exact hQ b h
        · omega
      · have := kS.size; have := k0.size; omega
      · have := B4.size
        have := hB.size
        have b1 : Below w.heap.size wr wb := kS.below hB.size (fun b _ h => by
          rcases h with h | h
          · have := hQ b h; omega
          · simp only [ofCells, lone] at h; omega)
        have := b1.size
        exact (hB.trans b1).trans (k0.below (by omega) (fun _ _ h => h.elim))
    · obtain rfl : j = n := by omega
      have hST := Lib.hid (store_yes C S [U] (1 + (j : Int)) 0 U old wr hC rfl (by omega) (by omega))
      go_upto_region 14 with (go_at_call 36; refine hST.out.mono ?_; rintro e w6 ⟨rfl, hC6, k6⟩)
      replace hC6 : CellsAt w6 C S [old] (1 + (j : Int) + 1) := hC6
      have hT6 := hT.keep k6 (fun b hb h => by have := hQ b hb; simp only [ofCells] at h; omega)
      have h6 := k6.size
      have gZ := Lib.hid (gstep_yes (lone C S) t Q [⟨4, 0, old, new⟩] 0 [old] (1 + (j : Int) + 1) w6 hT6 hC6 (fun b hb => ⟨fun e => by have := hQ b hb; simp only [lone] at e; omega, fun e => by have := hQ b hb; simp only [lone] at e; omega⟩) (by simp) rfl (by omega))
      rw [show stepS [old] [] [(⟨4, 0, old, new⟩ : Itm)] 0 0 = ([new], [], [], 1) by simp [stepS, operS, onS]] at gZ
      have B6 : Below w.heap.size w w6 := hB.trans (k6.below hB.size (fun b _ h => by simp only [ofCells] at h; omega))
      have DY := Lib.hid fun Q W h => show Calls Try.prog 29 #[ptrV t] W fun e w' => e = .returned (.bool true) ∧ Keep (fun _ => False) W w' from tdone_any (lone C S) t Q [] 1 W h
      have VY := Lib.hid fun Q W h => show Calls Try.prog 32 #[ptrV t] W fun e w' => e = .returned (.int .i64 1) ∧ Keep (fun _ => False) W w' from tvalue_any (lone C S) t Q [] 1 W h
      have CY := Lib.hid fun Q W h => gcan_none (lone C S) t Q 1 0 W h
      have HQ := Lib.hid hQ
      clear hT hC hST hT6 hC6 DN SN hQ hB
      go_wp2_with (first
        | (go_at_call 27; (with_reducible refine gZ.out.mono ?_); rintro e wb ⟨rfl, ⟨Q', hT', hQ'⟩, hC', kS⟩; have k0 : Keep (fun _ => False) wb wb := Keep.refl _ _)
        | (go_at_call 29; refine (DY.out Q' _ (hT'.keep (by first | assumption | exact k0.alloc _) (fun _ _ h => h))).mono ?_; rintro e wa ⟨rfl, k1⟩; replace k0 := k0.trans k1)
        | (go_at_call 32; refine (VY.out Q' _ (hT'.keep (by first | assumption | exact k0.alloc _) (fun _ _ h => h))).mono ?_; rintro e wa ⟨rfl, k1⟩; replace k0 := k0.trans k1)
        | (go_at_call 38; refine (CY.out Q' _ (hT'.keep (by first | assumption | exact k0.alloc _) (fun _ _ h => h))).mono ?_; rintro e wa ⟨rfl, k1⟩; replace k0 := k0.trans k1)
        | (go_at_call 33; refine (has_one C S new _ _ _ (hC'.keep (by first | assumption | exact k0.alloc _) (fun h => h) (fun h => h)) (Blk.new _ _ _)).mono ?_; rintro e wa ⟨rfl, k1⟩; replace k0 := (k0.alloc _).trans k1))
      go_ret
      have b1 : Below w.heap.size w6 wb := kS.below B6.size (fun b _ h => by
        have := HQ.out
        rcases h with h | h
        · have := HQ.out b h; have := B4.size; omega
        · simp only [ofCells, lone] at h; omega)
      have := b1.size
      have := B6.size
      exact ⟨rfl, (B6.trans b1).trans (k0.below (by omega) (fun _ _ h => h.elim))⟩
end Go.Proofs.Ytmkgbbbhmbejnaa
