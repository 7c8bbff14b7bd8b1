/- Package queue: lineAt. -/
import Derived.Test.YtpejmkoheodblaaGreatQuA
namespace Go.Proofs.YtpejmkoheodblaaGreat
open Go.ChangeShapes Go.WideShapes Go.ChangeAt Go.RowKit
set_option linter.unusedVariables false
set_option maxRecDepth 100000
set_option linter.unusedSimpArgs false
theorem lineAt_any (C a : Nat) (m : Mp) (w : World) (ha : a ≤ 100000000) : Calls Tryz.prog 54 #[cellsV C, mapV m, .int .i64 (a : Int)] w fun e w' => e = .returned (lineV C a m) ∧ Below w.heap.size w w' := by
  have hmf : ∀ (fn : Fn) (first cap : Array Value) (w : World), (Instr.makeFunc fn first cap).run Tryz.prog w = .ok (.func fn first cap) w := fun _ _ _ _ => rfl
  go_enter Tryz.func54, Tryz.ntmps54
  go_wp2
  have h := Blk.new (w.alloc (.cells #[.int .i64 (m.t : Int), .int .i64 (m.o : Int), .int .i64 (m.n : Int)] 24)) 88 #[cellsV C, .int .i64 (a : Int), .int .i64 ((a : Int) + 1), nextV m, .int .i64 (m.t : Int)]
  simp only [World.size_alloc] at h
  exact bodyPost_ret (v := lineV C a m) (results_cell_row rfl _ _ (w.heap.size + 1) 88 _ (0, 0) _ rfl h Tryz.underlying88 rfl (by kernel_rfl)) rfl ⟨rfl, by go_grown⟩
end Go.Proofs.YtpejmkoheodblaaGreat
