/- picks: two rows that read alike are alike. -/
import Derived.Test.YtkmadabpfialbaaGreatDoorScFills
namespace Go.Proofs.YtkmadabpfialbaaGreatDoor
open Go.ChangeShapes Go.WideShapes Go.ChangeAt Go.RowKit Go.Maps
set_option linter.unusedVariables false
set_option maxRecDepth 100000
set_option linter.unusedSimpArgs false
set_option maxHeartbeats 4000000 in
theorem picks_same (u v : Value) (l : List Pk) (w : World) (hu : PicksAt w w.heap.size u l) (hv : PicksAt w w.heap.size v l) (hl : l.length ≤ 100000) :
    Calls Tryz.prog 6 #[u, v] w fun e w' => e = .returned (.bool true) ∧ Below w.heap.size w w' := by
  obtain ⟨a, c, rfl, hc, hp⟩ := id hu
  obtain ⟨a', c', rfl, hc', hp'⟩ := id hv
  have HP := Lib.hid hp
  have HP' := Lib.hid hp'
  clear hu hv hp hp'
  go_enter Tryz.func6, Tryz.ntmps6
  go_upto_region 4 with fail
  go_loopw [5] (fun vi wr => ∃ I : Nat, I ≤ l.length ∧ vi = .int .i64 (I : Int) ∧ Below w.heap.size w wr)
    (fun vi _ => l.length - (intOf vi).toNat)
  case atStart => exact ⟨0, by omega, rfl, Below.refl _ _⟩
  case round =>
    obtain ⟨I, hI, rfl, hb⟩ := hrel
    by_cases hlt : I < l.length
    · obtain ⟨p, hpi⟩ : ∃ p, l[I]? = some p := ⟨_, List.getElem?_eq_getElem hlt⟩
      obtain ⟨B, o, rfl, hB1, hB2, c0, c1⟩ := HP.out I p hpi
      obtain ⟨B', o', rfl, hB1', hB2', d0, d1⟩ := HP'.out I p hpi
      replace c0 := (hb.cell (p := ⟨B, o + I * 2, none⟩) hB1).trans c0
      replace c1 := (hb.cell (p := ⟨B, o + (I * 2 + 1), none⟩) hB1).trans c1
      replace d0 := (hb.cell (p := ⟨B', o' + I * 2, none⟩) hB1').trans d0
      replace d1 := (hb.cell (p := ⟨B', o' + (I * 2 + 1), none⟩) hB1').trans d1
      rw [← Nat.add_assoc] at c1 d1
      have hix := idx_nat l.length c B o I hlt
      have hix' := idx_nat l.length c' B' o' I hlt
      obtain ⟨pu, pq⟩ := p
      have hne := pk_ne pu pq
      have hI3 : (I : Int) < (l.length : Int) := by omega
      simp only at c0 c1 d0 d1
      clear hpi
      go_upto_region 6 with fail
      go_quiet (fail)
      go_wp2
      go_roundw
      case rel => exact ⟨I + 1, by omega, by go_num, bdrewN hb nq⟩
      case measure => simp [intOf]; omega
    · have hIe : I = l.length := by omega
      subst hIe
      go_wp2
      go_ret
      exact ⟨rfl, hb⟩
end Go.Proofs.YtkmadabpfialbaaGreatDoor
