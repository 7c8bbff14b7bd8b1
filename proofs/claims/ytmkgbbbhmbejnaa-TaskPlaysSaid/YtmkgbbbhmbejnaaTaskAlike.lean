/- Layer 6's law: alike. -/
import Derived.Test.YtmkgbbbhmbejnaaTaskApi
import Derived.Test.YtmkgbbbhmbejnaaCellsE
namespace Go.Proofs.Ytmkgbbbhmbejnaa
open Go.ChangeShapes Go.WideShapes Go.ChangeAt Go.RowKit
set_option linter.unusedVariables false
set_option maxRecDepth 100000
set_option linter.unusedSimpArgs false
set_option maxHeartbeats 4000000 in
theorem alike_any (c : Ids) (t T I : Nat) (Q : Nat → Prop) (l r : List Itm) (v : Int) (m : List Int) (ps : List Bool) (k n : Int) (w : World) (hT : TaskAt w c t Q r v) (hR : RTask w T I l r v) (hS : Setup w c m m ps ps k n) :
    Calls Try.prog 24 #[ptrV t, ptrV T, cellsV c.C, ptrV c.D] w fun e w' => e = .returned (.bool true) ∧ Keep (fun _ => False) w w' := by
  have h3 := hS.ref.few.2
  have A1 := Lib.hid fun W (hk : Keep (fun _ => False) w W) => tdone_any c t Q r v W (hT.keep hk (fun _ _ h => h))
  have A2 := Lib.hid fun W (hk : Keep (fun _ => False) w W) => tvalue_any c t Q r v W (hT.keep hk (fun _ _ h => h))
  have A3 := Lib.hid fun W (hk : Keep (fun _ => False) w W) => tparked_any c t Q r v W (hT.keep hk (fun _ _ h => h))
  have A4 := Lib.hid fun W (hk : Keep (fun _ => False) w W) kk => tcan_any c t Q r v ps kk W (hT.keep hk (fun _ _ h => h)) (hS.perms.keep hk (fun h => h) (fun h => h) (fun _ _ h => h)) h3
  have B1 := Lib.hid fun W (hk : Keep (fun _ => False) w W) => rdone_any T I l r v W (hR.keep hk (fun h => h) (fun h => h))
  have B3 := Lib.hid fun W (hk : Keep (fun _ => False) w W) => rparked_any T I l r v W (hR.keep hk (fun h => h) (fun h => h))
  have B4 := Lib.hid fun W (hk : Keep (fun _ => False) w W) kk => rcan_any T I c.D c.W c.V l r v kk n m ps W (hR.keep hk (fun h => h) (fun h => h)) (hS.ref.keep hk (fun h => h) (fun h => h) (fun h => h))
  have C1 := Lib.hid fun W (hk : Keep (fun _ => False) w W) => all_any c.C c.S m k W (hS.cells.keep hk (fun h => h) (fun h => h))
  obtain ⟨s0, hB, hI⟩ := hR.own
  have t2 : w.cell? ⟨T, 2, none⟩ = some (.int .i64 v) := hB.cell 2 _ rfl
  obtain ⟨cp, hO⟩ := hS.ref.own
  have d0 : w.cell? ⟨c.D, 0, none⟩ = some (.slice (some ⟨c.W, 0, none⟩) m.length cp) := hO.cell 0 _ rfl
  have m4 := hS.ref.few.1
  have HM := Lib.hid fun (i : Nat) (x : Int) (hx : m[i]? = some x) => (hS.ref.at hx).1
  clear hB hI hO hT hR hS
  have hval : (r.isEmpty = true ∧ valueS r v = v) ∨ (r.isEmpty = false ∧ valueS r v = 0) := by cases r <;> simp [valueS]
  rcases hval with ⟨hb, hv⟩ | ⟨hb, hv⟩
  all_goals
    rw [hb] at A1 B1
    rw [hv] at A2
    clear hb hv
    go_enter Try.func24, Try.ntmps24
    have k0 : Keep (fun _ => False) w w := Keep.refl _ _
    go_wp2_with (first
      | (go_at_call 56; refine (B1.out _ (by assumption)).mono ?_; rintro e w1 ⟨rfl, g1, rfl⟩; replace k0 := k0.drewN g1)
      | (go_at_call 57; refine (B3.out _ (by assumption)).mono ?_; rintro e w1 ⟨rfl, g1, rfl⟩; replace k0 := k0.drewN g1)
      | (go_at_call 29; refine (A1.out _ (by assumption)).mono ?_; rintro e w1 ⟨rfl, k1⟩; replace k0 := k0.trans k1)
      | (go_at_call 32; refine (A2.out _ (by assumption)).mono ?_; rintro e w1 ⟨rfl, k2⟩; replace k0 := k0.trans k2)
      | (go_at_call 30; refine (A3.out _ (by assumption)).mono ?_; rintro e w1 ⟨rfl, k3⟩; replace k0 := k0.trans k3))
    clear A1 A2 A3 B1 B3
    go_loopw [10] (fun i wr => ∃ j : Nat, j ≤ 5 ∧ i = .int .i64 ((j : Int) - 1) ∧ Keep (fun _ => False) w wr) (fun i wr => (4 - intOf i).toNat)
    case atStart => exact ⟨0, by omega, rfl, k0⟩
    case round =>
      clear k0
      obtain ⟨j, hj, rfl, k0⟩ := hrel
      by_cases hlt : j < 5
      · have j0 : ((j : Int) - 1) ≤ 3 := by omega
        have j1 : -1 ≤ ((j : Int) - 1) := by omega
        generalize hkk : (j : Int) - 1 = kk at *
        go_wp2_with (first
          | (go_at_call 58; refine (B4.out _ (by assumption) kk).mono ?_; rintro e w1 ⟨rfl, k1⟩; replace k0 := k0.trans k1)
          | (go_at_call 38; refine (A4.out _ (by assumption) kk).mono ?_; rintro e w1 ⟨rfl, k2⟩; replace k0 := k0.trans k2))
        go_roundw
        case rel => exact ⟨j + 1, by omega, by rw [← hkk]; simp, k0⟩
        case measure => simp [intOf]; omega
      · obtain rfl : j = 5 := by omega
        clear A4 B4
        go_upto_region 12 with (go_at_call 34; refine (C1.out _ (by assumption)).mono ?_; rintro e w1 ⟨u, rfl, kA, hrow⟩)
        obtain ⟨g, cap, rfl⟩ := row_slice hrow (by omega)
        have kW := k0.trans (Keep.ofBelow (Q := fun _ => False) kA)
        replace d0 := cell_keep d0 kW (fun h => h)
        have HG := Lib.hid fun (i : Nat) (x : Int) (hx : m[i]? = some x) => show w1.cell? ⟨g, i, none⟩ = some (.int .u64 x) by
          have hi := (List.getElem?_eq_some_iff.1 hx).1
          rw [hrow.cellAt i (by omega)]
          simp [hx]
        have HW := Lib.hid fun (i : Nat) (x : Int) (hx : m[i]? = some x) => cell_keep (HM.out i x hx) kW (fun h => h)
        rw [m4] at d0
        have m4' := m4
        simp only [m4]
        clear hrow kA HM C1 k0 t2
        go_wp2
        go_loopw [12] (fun i wr => ∃ j : Nat, j ≤ 4 ∧ i = .int .i64 j ∧ Keep (fun _ => False) w1 wr) (fun i wr => (4 - intOf i).toNat)
        case atStart => exact ⟨0, by omega, rfl, Keep.refl _ _⟩
        case round =>
          obtain ⟨j, hj, rfl, kr⟩ := hrel
          by_cases hlt : j < 4
          · obtain ⟨x, hx⟩ : ∃ x, m[j]? = some x := ⟨m[j]'(by omega), by simp⟩
            have e1 := cell_keep (HG.out j x hx) kr (fun h => h)
            have e2 := cell_keep (HW.out j x hx) kr (fun h => h)
            have e0 := cell_keep d0 kr (fun h => h)
            have i0 : 0 ≤ (j : Int) ∧ (j : Int) < 4 := by omega
            clear hx d0
            go_wp2
            go_quiet (fail)
            go_wp2
            go_roundw
            case rel => exact ⟨j + 1, by omega, by go_num, kr.drewN _⟩
            case measure => simp [intOf]; omega
          · obtain rfl : j = 4 := by omega
            go_wp2
            go_ret
            exact ⟨rfl, kW.trans kr⟩
end Go.Proofs.Ytmkgbbbhmbejnaa
