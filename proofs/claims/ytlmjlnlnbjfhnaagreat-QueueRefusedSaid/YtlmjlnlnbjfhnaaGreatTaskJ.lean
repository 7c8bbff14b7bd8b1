/- Package task: Spin, Loop. -/
import Derived.Test.YtlmjlnlnbjfhnaaGreatTaskI
namespace Go.Proofs.YtlmjlnlnbjfhnaaGreat
open Go.ChangeShapes Go.WideShapes Go.ChangeAt Go.RowKit
set_option linter.unusedVariables false
set_option maxRecDepth 100000
set_option linter.unusedSimpArgs false
theorem call_loop1 : ∀ (W : World) (args : Array Value), (callFunc 90 args).run Tryz.prog W = .ok (.enter 90 args) W := by
  intro W args
  go_simp
/-- a try of a spin, and what asks whether it went -/
def SpinMid (w : World) (C : Nat) (Q : Nat → Prop) (x : Itm) (t : Nat) : Prop :=
  ∃ b F caps j k3, Live w t (cloV 96 #[pV b]) (.pointer none) j ∧ Q b ∧ Blk w b 28 #[cloV F caps] ∧ CloAt w C Q x F caps ∧ TreeO w Q j [k3] ∧ Link3 w Q k3
end Go.Proofs.YtlmjlnlnbjfhnaaGreat
