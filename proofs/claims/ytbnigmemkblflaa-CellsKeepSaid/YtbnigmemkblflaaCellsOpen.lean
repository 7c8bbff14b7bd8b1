/- A slice of acts that came in: read out of the argument's cells. -/
import Derived.Test.YtbnigmemkblflaaProg
import Derived.WalkKit
import Derived.ProofKit
import Derived.OpenShut
import Derived.Below
import Derived.Deep.Slices
import Derived.Deep.Fields
import Derived.ChangeSame
namespace Go.Proofs.Ytbnigmemkblflaa
open Go.ChangeShapes Go.WideShapes Go.ChangeAt Go.RowKit
set_option linter.unusedVariables false
/-- a slice of acts that came in -/
def ActsAt (w : World) (n0 : Nat) (a : Option Addr) (len : Nat) : Prop :=
  ∀ i, i < len → ∃ b off, a = some ⟨b, off, none⟩ ∧ b < n0 ∧ ∃ W I V N : Int, (0 ≤ W ∧ W ≤ 255) ∧ (-128 ≤ I ∧ I ≤ 127) ∧ (0 ≤ V ∧ V ≤ 18446744073709551615) ∧ (0 ≤ N ∧ N ≤ 18446744073709551615) ∧
    w.cell? ⟨b, off + i * 4, none⟩ = some (.int .u8 W) ∧ w.cell? ⟨b, off + i * 4 + 1, none⟩ = some (.int .i8 I) ∧ w.cell? ⟨b, off + i * 4 + 2, none⟩ = some (.int .u64 V) ∧ w.cell? ⟨b, off + i * 4 + 3, none⟩ = some (.int .u64 N)
theorem act_cells : Try.prog.cellsOf 35 = 4 := by kernel_rfl
theorem cells_u8 : Try.prog.cellsOf 5 = 1 := by kernel_rfl
theorem cells_i8 : Try.prog.cellsOf 33 = 1 := by kernel_rfl
theorem cells_u64 : Try.prog.cellsOf 31 = 1 := by kernel_rfl
theorem wfa_u8 {z : Int} (h : (Lit.int .u8 z).wf = true) : 0 ≤ z ∧ z ≤ 255 := by
  simpa [Lit.wf, IntKind.min, IntKind.max, IntKind.signed, IntKind.bits] using h
theorem wfa_i8 {z : Int} (h : (Lit.int .i8 z).wf = true) : -128 ≤ z ∧ z ≤ 127 := by
  simpa [Lit.wf, IntKind.min, IntKind.max, IntKind.signed, IntKind.bits] using h
theorem wfa_u64 {z : Int} (h : (Lit.int .u64 z).wf = true) : 0 ≤ z ∧ z ≤ 18446744073709551615 := by
  simpa [Lit.wf, IntKind.min, IntKind.max, IntKind.signed, IntKind.bits] using h
theorem acell_lt {w : World} {b o : Nat} {v : Value} (h : w.cell? ⟨b, o, none⟩ = some v) : b < w.heap.size := by
  by_cases hb : b < w.heap.size
  · exact hb
  · have : w.heap[b]? = none := by simp; omega
    simp [World.cell?, this] at h
theorem open_acts {H : Type} {enc : TypeId × Value → H} {W : World} {base : Nat} {spare : Nat → Bool} {held : Bool} {a : Option Addr} {len cap : Nat} {d : DataW H} {p : List MemPlace}
    (h : DataW.Trod enc Try.prog W base spare held 22 (.slice a len cap) d p) : len ≤ 9223372036854775807 ∧ ActsAt W W.heap.size a len := by
  obtain ⟨fuel, hf⟩ := h
  rcases Go.Deep.open_slice Try.underlying22 hf with ⟨hcs, _⟩ | ⟨x, l, c, m, n, D, Pl, hcs, _, hl, hm, hmm, _, hi⟩
  · simp [Value.cells] at hcs
    obtain ⟨rfl, rfl, rfl⟩ := hcs
    exact ⟨by omega, fun i h => by omega⟩
  · simp [Value.cells] at hcs
    obtain ⟨rfl, rfl, rfl⟩ := hcs
    refine ⟨by unfold maxLen at hm; omega, fun i hil => ?_⟩
    obtain ⟨b, off, sp⟩ := x
    have hsp : sp = none := by
      obtain ⟨cs', hc, _⟩ := hi 0 (by rw [hmm]; split <;> omega)
      rw [act_cells] at hc
      obtain ⟨_, hcl, hat⟩ := World.cells?_some hc
      have e := hat 0 (by omega)
      match cs', hcl with
      | [c0, c1, c2, c3], _ =>
        have e : W.cell? ((Addr.mk b off sp).add (0 * 4) |>.add 0) = some c0 := e
        simpa [Addr.add] using World.cell?_spot e
    subst hsp
    obtain ⟨cs', hc, ht⟩ := hi i (by rw [hmm]; split <;> omega)
    rw [act_cells] at hc
    obtain ⟨_, hcl, hat⟩ := World.cells?_some hc
    obtain ⟨xs, k, _, _, _, hlen, hg⟩ := DataW.trod_struct Try.underlying35 ht
    match cs', hcl, xs, hlen with
    | [c0, c1, c2, c3], _, [y0, y1, y2, y3], _ =>
      have g0 : DataW.trod enc Try.prog W base spare held k 5 (List.take (Try.prog.cellsOf 5) (List.drop 0 [c0, c1, c2, c3])) = some y0 := hg 0 _ rfl
      rw [cells_u8] at g0
      have g1 : DataW.trod enc Try.prog W base spare held k 33 (List.take (Try.prog.cellsOf 33) (List.drop 1 [c0, c1, c2, c3])) = some y1 := hg 1 _ rfl
      rw [cells_i8] at g1
      have g2 : DataW.trod enc Try.prog W base spare held k 31 (List.take (Try.prog.cellsOf 31) (List.drop 2 [c0, c1, c2, c3])) = some y2 := hg 2 _ rfl
      rw [cells_u64] at g2
      have g3 : DataW.trod enc Try.prog W base spare held k 31 (List.take (Try.prog.cellsOf 31) (List.drop 3 [c0, c1, c2, c3])) = some y3 := hg 3 _ rfl
      rw [cells_u64] at g3
      obtain ⟨z0, e0, _, w0⟩ := DataW.trod_int Try.underlying5 g0
      obtain rfl : c0 = .int .u8 z0 := by simpa using e0
      obtain ⟨z1, e1, _, w1⟩ := DataW.trod_int Try.underlying33 g1
      obtain rfl : c1 = .int .i8 z1 := by simpa using e1
      obtain ⟨z2, e2, _, w2⟩ := DataW.trod_int Try.underlying31 g2
      obtain rfl : c2 = .int .u64 z2 := by simpa using e2
      obtain ⟨z3, e3, _, w3⟩ := DataW.trod_int Try.underlying31 g3
      obtain rfl : c3 = .int .u64 z3 := by simpa using e3
      have h0 := hat 0 (by omega)
      have h1 := hat 1 (by omega)
      have h2 := hat 2 (by omega)
      have h3 := hat 3 (by omega)
      rw [Go.WideShapes.add_plain, Go.WideShapes.add_plain] at h0 h1 h2 h3
      exact ⟨b, off, rfl, acell_lt h0, z0, z1, z2, z3, wfa_u8 w0, wfa_i8 w1, wfa_u64 w2, wfa_u64 w3, h0, h1, h2, h3⟩
end Go.Proofs.Ytbnigmemkblflaa
