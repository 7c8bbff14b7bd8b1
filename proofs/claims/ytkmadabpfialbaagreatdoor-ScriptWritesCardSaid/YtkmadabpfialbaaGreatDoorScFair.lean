/- ScriptFair returns true. -/
import Derived.Test.YtkmadabpfialbaaGreatDoorScFairLaw
import Derived.Deep.QuietTactic
import Derived.BigQuiet
namespace Go.Proofs.YtkmadabpfialbaaGreatDoor
open Go.ChangeShapes Go.WideShapes Go.ChangeAt Go.RowKit Go.Maps
set_option linter.unusedVariables false
set_option maxRecDepth 100000
set_option linter.unusedSimpArgs false
theorem decode_cut (s : ByteArray) (m : Nat) (hm : m ≤ 100) (w : World) :
    Calls Tryz.prog 5 #[.string (s.extract 0 m)] w fun e w' => ∃ (a : Option Addr) (n c : Nat) (L : List Pk), n ≤ 100 ∧ e = .returned (.slice a n c) ∧ Below w.heap.size w w' ∧ L.length = n ∧ n ≤ c ∧ w'.ownsRow w.heap.size 46 2 (.slice a n c) n (pkCells L) := by
  have hz : (s.extract 0 m).size ≤ 100 := by rw [ByteArray.size_extract]; omega
  refine (decode_any _ w (by omega)).mono ?_
  rintro e w' ⟨v, rfl, hb, ho⟩
  obtain ⟨a, c, rfl, hc, _⟩ := id (PicksAt.own ho)
  exact ⟨a, _, c, _, by rw [decodeL_len]; exact hz, rfl, hb, rfl, hc, ho⟩
theorem wrap_ad (A D : Nat) (h : A + D ≤ 1000) : wrap64 ((A : Int) + (D : Int)) = ((A + D : Nat) : Int) := by
  rw [IntWalk.wrap64_in _ ⟨by omega, by omega⟩]; omega
end Go.Proofs.YtkmadabpfialbaaGreatDoor
