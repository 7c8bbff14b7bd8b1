/- Layer 6's law: has. -/
import Derived.Test.YtmkgbbbhmbejnaaTaskWorld
namespace Go.Proofs.Ytmkgbbbhmbejnaa
open Go.ChangeShapes Go.WideShapes Go.ChangeAt Go.RowKit
set_option linter.unusedVariables false
set_option maxRecDepth 100000
set_option linter.unusedSimpArgs false
theorem has6_any (C S B : Nat) (m : List Int) (k : Int) (u : Value) (w : World) (hC : CellsAt w C S m k) (hm : 0 < m.length) (hr : w.ownsRow B 22 1 u m.length (m.map (.int .u64))) :
    Calls Try.prog 33 #[cellsV C, u] w fun e w' => e = .returned (.bool true) ∧ Keep (fun _ => False) w w' := by
  have C1 := Lib.hid (all_any C S m k w hC)
  obtain ⟨g, cap, rfl⟩ := row_slice hr hm
  have HG := Lib.hid fun (i : Nat) (x : Int) (hx : m[i]? = some x) => show w.cell? ⟨g, i, none⟩ = some (.int .u64 x) by
    have hi := (List.getElem?_eq_some_iff.1 hx).1
    rw [hr.cellAt i (by omega)]
    simp [hx]
  have hle := hC.few
  clear hr hC
  obtain ⟨N, hN⟩ : ∃ N, m.length = N := ⟨_, rfl⟩
  rw [hN] at hm hle
  simp only [hN]
  go_enter Try.func33, Try.ntmps33
  go_upto_region 2 with (go_at_call 34; refine C1.out.mono ?_; rintro e w1 ⟨u, rfl, kA, hrow⟩)
  rw [hN] at hrow
  obtain ⟨g2, cap2, rfl⟩ := row_slice hrow hm
  have kW := Keep.ofBelow (Q := fun _ => False) kA
  have HG2 := Lib.hid fun (i : Nat) (x : Int) (hx : m[i]? = some x) => show w1.cell? ⟨g2, i, none⟩ = some (.int .u64 x) by
    have hi := (List.getElem?_eq_some_iff.1 hx).1
    rw [hrow.cellAt i (by omega)]
    simp [hx]
  have HG1 := Lib.hid fun (i : Nat) (x : Int) (hx : m[i]? = some x) => cell_keep (HG.out i x hx) kW (fun h => h)
  clear hrow kA HG C1
  go_wp2
  go_loopw [6] (fun i wr => ∃ j : Nat, j ≤ N ∧ i = .int .i64 j ∧ Keep (fun _ => False) w1 wr) (fun i wr => N - (intOf i).toNat)
  case atStart => exact ⟨0, by omega, rfl, Keep.refl _ _⟩
  case round =>
    obtain ⟨j, hj, rfl, kr⟩ := hrel
    by_cases hlt : j < N
    · obtain ⟨x, hx⟩ : ∃ x, m[j]? = some x := ⟨m[j]'(by omega), by simp⟩
      have e1 := cell_keep (HG2.out j x hx) kr (fun h => h)
      have e2 := cell_keep (HG1.out j x hx) kr (fun h => h)
      have i0 : 0 ≤ (j : Int) ∧ (j : Int) < N := by omega
      clear hx
      go_wp2
      go_quiet (fail)
      go_wp2
      go_roundw
      case rel => exact ⟨j + 1, by omega, by go_num, kr.drewN _⟩
      case measure => simp [intOf]; omega
    · obtain rfl : j = N := by omega
      go_wp2
      go_ret
      exact ⟨rfl, kW.trans kr⟩
end Go.Proofs.Ytmkgbbbhmbejnaa
