/- The document's automaton: a draw changes no cell. -/
import Derived.Test.YtcgljmeppmdihaaRsC0
namespace Go.Proofs.Ytcgljmeppmdihaa
open Go.ChangeShapes Go.WideShapes Go.ChangeAt Go.RowKit
theorem rdrew (w : World) : Below w.heap.size w w.drew := ⟨rfl, rfl, rfl, Nat.le_refl _, fun _ _ => rfl⟩
end Go.Proofs.Ytcgljmeppmdihaa
