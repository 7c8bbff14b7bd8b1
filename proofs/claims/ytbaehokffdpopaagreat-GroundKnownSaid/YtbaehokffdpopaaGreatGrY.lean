/- Package api: who holds a monitor, as a word; two examples. -/
import Derived.Test.YtbaehokffdpopaaGreatGrV
namespace Go.Proofs.YtbaehokffdpopaaGreat
open Go.ChangeShapes Go.WideShapes Go.ChangeAt Go.RowKit
set_option linter.unusedVariables false
set_option maxRecDepth 100000
set_option linter.unusedSimpArgs false
def hold13 : Int := 8589934595
theorem holdof_one (w : World) : Calls Tryz.prog 47 #[.int .i64 1, .int .i64 3] w fun e w' => e = .returned (.int .u64 hold13) ∧ w = w' := by
  go_enter Tryz.func47, Tryz.ntmps47
  go_wp2
  go_ret
  exact ⟨rfl, rfl⟩
theorem heldby_zero (w : World) : Calls Tryz.prog 83 #[.int .u64 0] w fun e w' => e = .returned (.tuple #[.int .i64 (-1), .int .i64 0]) ∧ w = w' := by
  go_enter Tryz.func83, Tryz.ntmps83
  go_wp2
  exact bodyPost_ret (v := .tuple #[.int .i64 (-1), .int .i64 0]) (by simp [results, Tryz.results83, go_sem]; kernel_rfl) rfl ⟨rfl, rfl⟩
theorem heldby_one (w : World) : Calls Tryz.prog 83 #[.int .u64 hold13] w fun e w' => e = .returned (.tuple #[.int .i64 1, .int .i64 3]) ∧ w = w' := by
  unfold hold13
  go_enter Tryz.func83, Tryz.ntmps83
  go_wp2
  exact bodyPost_ret (v := .tuple #[.int .i64 1, .int .i64 3]) (by simp [results, Tryz.results83, go_sem]; kernel_rfl) rfl ⟨rfl, rfl⟩
end Go.Proofs.YtbaehokffdpopaaGreat
