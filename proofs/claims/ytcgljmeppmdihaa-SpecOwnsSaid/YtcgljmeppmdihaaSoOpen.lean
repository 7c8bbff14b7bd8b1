/- A draft that came in. -/
import Derived.Test.YtcgljmeppmdihaaSoA
import Derived.WalkKit
import Derived.ProofKit
import Derived.OpenShut
import Derived.Below
import Derived.Deep.Slices
import Derived.Deep.Fields
import Derived.ChangeSame
namespace Go.Proofs.Ytcgljmeppmdihaa
open Go.ChangeShapes Go.WideShapes Go.ChangeAt Go.RowKit
set_option linter.unusedVariables false
set_option maxRecDepth 100000
theorem drw_cells : Try.prog.cellsOf 24 = 3 := by kernel_rfl
theorem drw_u8 : Try.prog.cellsOf 5 = 1 := by kernel_rfl
theorem drw_u8s : Try.prog.cellsOf 22 = 1 := by kernel_rfl
theorem drw_lt {w : World} {b o : Nat} {v : Value} (h : w.cell? ⟨b, o, none⟩ = some v) : b < w.heap.size := by
  by_cases hb : b < w.heap.size
  · exact hb
  · have : w.heap[b]? = none := by simp; omega
    simp [World.cell?, this] at h
section
variable {H : Type} {enc : TypeId × Value → H} {W : World} {base : Nat} {spare : Nat → Bool} {held : Bool}
theorem open_byte {n : Nat} {c : Value} {x : DataW H × List MemPlace} (h : DataW.trod enc Try.prog W base spare held n 5 [c] = some x) : ∃ z : Nat, c = .int .u8 (z : Int) ∧ z ≤ 255 := by
  obtain ⟨z, e, _, w⟩ := DataW.trod_int Try.underlying5 h
  have : 0 ≤ z ∧ z ≤ 255 := by simpa [Lit.wf, IntKind.min, IntKind.max, IntKind.signed, IntKind.bits] using w
  obtain ⟨k, rfl⟩ := Int.eq_ofNat_of_zero_le this.1
  exact ⟨k, by simpa using e, by omega⟩
theorem open_bytes {n : Nat} {c : Value} {x : DataW H × List MemPlace} (h : DataW.trod enc Try.prog W base spare held n 22 [c] = some x) :
    ∃ a len cap, c = .slice a len cap ∧ len ≤ cap ∧ cap ≤ 9223372036854775807 ∧ BytesIn W a len := by
  rcases Go.Deep.open_slice1 Try.underlying22 drw_u8 h with ⟨hcs, _⟩ | ⟨a, len, cap, m, n', V, D, Pl, hcs, _, hl, hm, hmm, _, hi⟩
  · simp at hcs
    subst hcs
    exact ⟨none, 0, 0, rfl, by omega, by omega, fun i h => by omega⟩
  · simp at hcs
    subst hcs
    refine ⟨some a, len, cap, rfl, hl, by unfold maxLen at hm; omega, ?_⟩
    obtain ⟨b, off, sp⟩ := a
    by_cases h0 : len = 0
    · subst h0
      exact fun i h => by omega
    have hsp : sp = none := by
      have := (hi 0 (by rw [hmm]; split <;> omega)).1
      simpa [Addr.add] using World.cell?_spot this
    subst hsp
    intro i hil
    obtain ⟨hc, ht⟩ := hi i (by rw [hmm]; split <;> omega)
    obtain ⟨z, e, hz⟩ := open_byte ht
    rw [Go.WideShapes.add_plain, e] at hc
    exact ⟨b, off, z, rfl, drw_lt hc, hz, hc⟩
theorem open_drawn {b0 : Nat} {v : Value} {d : DataW H} {p : List MemPlace} (hv : Value.okWide Try.prog W .any b0 24 v) (h : DataW.Trod enc Try.prog W base spare held 24 v d p) :
    ∃ (a b : Nat) (sl : Option Addr) (k c : Nat), v = .agg #[.int .u8 (a : Int), .int .u8 (b : Int), .slice sl k c] ∧ a ≤ 255 ∧ b ≤ 255 ∧ k ≤ c ∧ c ≤ 9223372036854775807 ∧ BytesIn W sl k := by
  obtain ⟨cs, rfl, hsz⟩ := okWide_struct Try.underlying24 hv
  obtain ⟨l⟩ := cs
  match l, hsz.trans drw_cells with
  | [x0, x1, x2], _ =>
    obtain ⟨fuel, hf⟩ := h
    obtain ⟨xs, n, _, _, _, hlen, hg⟩ := DataW.trod_struct Try.underlying24 hf
    match xs, hlen with
    | [y0, y1, y2], _ =>
      have g0 : DataW.trod enc Try.prog W base spare held n 5 (List.take (Try.prog.cellsOf 5) (List.drop 0 [x0, x1, x2])) = some y0 := hg 0 _ rfl
      have g1 : DataW.trod enc Try.prog W base spare held n 5 (List.take (Try.prog.cellsOf 5) (List.drop 1 [x0, x1, x2])) = some y1 := hg 1 _ rfl
      have g2 : DataW.trod enc Try.prog W base spare held n 22 (List.take (Try.prog.cellsOf 22) (List.drop 2 [x0, x1, x2])) = some y2 := hg 2 _ rfl
      rw [drw_u8] at g0 g1
      rw [drw_u8s] at g2
      have g0 : DataW.trod enc Try.prog W base spare held n 5 [x0] = some y0 := g0
      have g1 : DataW.trod enc Try.prog W base spare held n 5 [x1] = some y1 := g1
      have g2 : DataW.trod enc Try.prog W base spare held n 22 [x2] = some y2 := g2
      obtain ⟨a, rfl, ha⟩ := open_byte g0
      obtain ⟨b, rfl, hb⟩ := open_byte g1
      obtain ⟨sl, k, c, rfl, h1, h2, h3⟩ := open_bytes g2
      exact ⟨a, b, sl, k, c, rfl, ha, hb, h1, h2, h3⟩
end
end Go.Proofs.Ytcgljmeppmdihaa
