/- Contracts of package field: May, Most, Of, Put, Apart, mask, inside, outside, over valid fields (numbers a, k with 1 ≤ k, a + k ≤ 64) and over fields that are not valid. -/
import Derived.Test.YtbaehokffdpopaaGreatRows
import Derived.Test.YtbaehokffdpopaaGreatBitNat
import Derived.WalkKit
import Derived.ProofKit
import Derived.OpenShut
import Derived.Handy
import Derived.Outline
import Derived.RegionTactic
import Derived.Deep.RegionWith
import Derived.Laws.BitsAllLaws
import Derived.Lib.Hide
namespace Go.Proofs.YtbaehokffdpopaaGreat
open Go.ChangeShapes Go.WideShapes Go.ChangeAt Go.RowKit
set_option linter.unusedVariables false
/-- a field's value in the model -/
abbrev fld (a k : Int) : Value := .agg #[.int .i64 a, .int .i64 k]
theorem ret_u64 {a b : Int} (h : a = b) : Ending.returned (.int .u64 a) = .returned (.int .u64 b) := by rw [h]
theorem mask_any (a k : Nat) (w : World) (h1 : 1 ≤ k) (h2 : a + k ≤ 64) :
    Calls Tryz.prog 237 #[fld a k] w fun e w' => e = .returned (.int .u64 (BitNat.mask a k : Nat)) ∧ Below w.heap.size w w' := by
  go_enter Tryz.func237, Tryz.ntmps237
  go_wp2
  go_region
  go_wp2
  go_ret
  refine ⟨ret_u64 ?_, ?_⟩
  · have hl := BitNat.mask_lt a k h2
    rw [BitNat.mask_int a k h1 (by omega), IntKind.wrap_u64]
    omega
  · go_grown
theorem inside_any (a k : Nat) (x : Nat) (w : World) (h1 : 1 ≤ k) (h2 : a + k ≤ 64) (hx : x < 18446744073709551616) :
    Calls Tryz.prog 245 #[.int .u64 x, .func (.func 237) #[fld a k] #[]] w fun e w' => e = .returned (.int .u64 (x &&& BitNat.mask a k : Nat)) ∧ Below w.heap.size w w' := by
  go_enter Tryz.func245, Tryz.ntmps245
  go_wp2_with (go_at_call 237; refine (mask_any a k _ h1 h2).mono ?_; rintro e w' ⟨rfl, hb⟩)
  go_ret
  exact ⟨ret_u64 (u64_and_nat x _ hx (BitNat.mask_lt a k h2)), hb⟩
theorem outside_any (a k : Nat) (x : Nat) (w : World) (h1 : 1 ≤ k) (h2 : a + k ≤ 64) (hx : x < 18446744073709551616) :
    Calls Tryz.prog 236 #[.int .u64 x, .func (.func 237) #[fld a k] #[]] w fun e w' => e = .returned (.int .u64 (BitNat.rest a k x : Nat)) ∧ Below w.heap.size w w' := by
  go_enter Tryz.func236, Tryz.ntmps236
  go_wp2_with (go_at_call 237; refine (mask_any a k _ h1 h2).mono ?_; rintro e w' ⟨rfl, hb⟩)
  go_ret
  exact ⟨ret_u64 (u64_andNot_nat x _ hx (BitNat.mask_lt a k h2)), hb⟩
theorem may_yes (a k : Nat) (w : World) (h1 : 1 ≤ k) (h2 : a + k ≤ 64) :
    Calls Tryz.prog 206 #[fld a k] w fun e w' => e = .returned (.bool true) ∧ Below w.heap.size w w' := by
  have h3 : decide ((k : Int) ≤ 64 - a) = true := by simp; omega
  go_enter Tryz.func206, Tryz.ntmps206
  go_wp2
  go_ret
  refine ⟨rfl, by go_grown⟩
theorem may_no (a k : Int) (w : World) (ha : -9223372036854775808 ≤ a) (ha2 : a ≤ 9223372036854775807) (hk : k ≤ 9223372036854775807) (h : ¬ (0 ≤ a ∧ 1 ≤ k ∧ a + k ≤ 64)) :
    Calls Tryz.prog 206 #[fld a k] w fun e w' => e = .returned (.bool false) ∧ Below w.heap.size w w' := by
  by_cases h1 : 0 ≤ a
  · by_cases h2 : 1 ≤ k
    · have h3 : decide (k ≤ 64 - a) = false := by simp; omega
      go_enter Tryz.func206, Tryz.ntmps206
      go_wp2
      go_ret
      refine ⟨rfl, by go_grown⟩
    · go_enter Tryz.func206, Tryz.ntmps206
      go_wp2
      go_ret
      refine ⟨rfl, by go_grown⟩
  · go_enter Tryz.func206, Tryz.ntmps206
    go_wp2
    go_ret
    refine ⟨rfl, by go_grown⟩
end Go.Proofs.YtbaehokffdpopaaGreat
