/- Package task: Spin, Loop. -/
import Derived.Test.YtgcmnaiiifaajaaTaskI
namespace Go.Proofs.Ytgcmnaiiifaajaa
open Go.ChangeShapes Go.WideShapes Go.ChangeAt Go.RowKit
set_option linter.unusedVariables false
set_option maxRecDepth 100000
set_option linter.unusedSimpArgs false
/-- a try of a spin, and what asks whether it went -/
def SpinMid (w : World) (C : Nat) (Q : Nat → Prop) (x : Itm) (t : Nat) : Prop :=
  ∃ b F caps j k3, Live w t (cloV 49 #[pV b]) (.pointer none) j ∧ Q b ∧ Blk w b 52 #[cloV F caps] ∧ CloAt w C Q x F caps ∧ TreeO w Q j [k3] ∧ Link3 w Q k3
end Go.Proofs.Ytgcmnaiiifaajaa
