/- Bytes that came in. -/
import Derived.Test.YtldofbkjjmnooaaGreatMgPShQ
import Derived.OpenShut
namespace Go.Proofs.YtldofbkjjmnooaaGreat
open Go.ChangeShapes Go.WideShapes Go.ChangeAt Go.RowKit
set_option linter.unusedVariables false
theorem wf9_u8 {z : Int} (h : (Lit.int .u8 z).wf = true) : 0 ≤ z ∧ z ≤ 255 := by
  simpa [Lit.wf, IntKind.min, IntKind.max, IntKind.signed, IntKind.bits] using h
theorem bytes_of {w : World} {a : Option Addr} {len cap : Nat} {zs : List Int}
    (h : (a = none ∧ len = 0 ∧ cap = 0 ∧ zs = []) ∨ ∃ x, a = some x ∧ len ≤ cap ∧ cap ≤ maxLen ∧ zs.length = cap ∧ (∀ i, i < zs.length → w.cell? (x.add i) = some (.int .u8 (zs.getD i 0))) ∧ ∀ n ∈ zs, (Lit.int .u8 n).wf = true) :
    BytesAt w w.heap.size a len ∧ len ≤ cap ∧ cap ≤ 9223372036854775807 := by
  rcases h with ⟨rfl, rfl, rfl, rfl⟩ | ⟨x, rfl, hl, hm, hz, hc, hw⟩
  · exact ⟨fun i hi => by omega, Nat.le_refl _, by omega⟩
  · refine ⟨fun i hi => ?_, hl, by unfold maxLen at hm; omega⟩
    obtain ⟨b, off, rfl, hc2⟩ := ints_at hc (by omega)
    have h1 := hc2 i (by omega)
    have e : zs.getD i 0 = zs[i] := by simp [List.getD_eq_getElem?_getD, (by omega : i < zs.length)]
    have h2 := wf9_u8 (hw _ (List.getElem_mem (by omega : i < zs.length)))
    rw [← e] at h2
    refine ⟨b, off, (zs.getD i 0).toNat, rfl, cell_lt6 h1, ?_, by omega⟩
    rw [h1, show ((zs.getD i 0).toNat : Int) = zs.getD i 0 by omega]
end Go.Proofs.YtldofbkjjmnooaaGreat
