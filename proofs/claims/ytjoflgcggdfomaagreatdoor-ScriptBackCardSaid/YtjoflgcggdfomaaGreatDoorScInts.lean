/- Slices of small numbers that came in. -/
import Derived.Test.YtjoflgcggdfomaaGreatDoorScOpen
import Derived.Deep.Slices
namespace Go.Proofs.YtjoflgcggdfomaaGreatDoor
open Go.ChangeShapes Go.WideShapes Go.ChangeAt Go.RowKit
set_option linter.unusedVariables false
set_option maxRecDepth 100000
/-- a slice of numbers of this kind that came in: its cells lie below block n -/
def IntsAt (k : IntKind) (w : World) (n : Nat) (a : Option Addr) (len : Nat) : Prop :=
  ∀ i, i < len → ∃ b o z, a = some ⟨b, o, none⟩ ∧ b < n ∧ w.cell? ⟨b, o + i, none⟩ = some (.int k z) ∧ (Lit.int k z).wf = true
theorem IntsAt.below {k : IntKind} {w w' : World} {n : Nat} {a : Option Addr} {len : Nat} (h : IntsAt k w n a len) (hb : Below n w w') : IntsAt k w' n a len := by
  intro i hi
  obtain ⟨b, o, z, e, hbn, hc, hw⟩ := h i hi
  exact ⟨b, o, z, e, hbn, (hb.cell (p := ⟨b, o + i, none⟩) hbn).trans hc, hw⟩
theorem icell_lt {w : World} {b o : Nat} {v : Value} (h : w.cell? ⟨b, o, none⟩ = some v) : b < w.heap.size := by
  by_cases hb : b < w.heap.size
  · exact hb
  · have : w.heap[b]? = none := by simp; omega
    simp [World.cell?, this] at h
theorem open_ints {H : Type} {enc : TypeId × Value → H} {W : World} {base : Nat} {spare : Nat → Bool} {held : Bool} {a : Option Addr} {len cap : Nat} {d : DataW H} {p : List MemPlace} {t e : TypeId} {k : IntKind}
    (ht : Tryz.prog.underlying t = some (.slice e)) (he : Tryz.prog.underlying e = some (.int k)) (hc1 : Tryz.prog.cellsOf e = 1)
    (h : DataW.Trod enc Tryz.prog W base spare held t (.slice a len cap) d p) : len ≤ maxLen ∧ IntsAt k W W.heap.size a len := by
  obtain ⟨fuel, hf⟩ := h
  rcases Go.Deep.open_slice ht hf with ⟨hcs, _⟩ | ⟨x, l, c, m, n, D, Pl, hcs, _, hl, hm, hmm, _, hi⟩
  · simp [Value.cells] at hcs
    obtain ⟨rfl, rfl, rfl⟩ := hcs
    exact ⟨by omega, fun i h => by omega⟩
  · simp [Value.cells] at hcs
    obtain ⟨rfl, rfl, rfl⟩ := hcs
    refine ⟨by omega, fun i hil => ?_⟩
    obtain ⟨b, off, sp⟩ := x
    have hsp : sp = none := by
      obtain ⟨cs', hc, _⟩ := hi 0 (by rw [hmm]; split <;> omega)
      rw [hc1] at hc
      obtain ⟨_, hcl, hat⟩ := World.cells?_some hc
      have e := hat 0 (by omega)
      match cs', hcl with
      | [c0], _ =>
        have e : W.cell? ((Addr.mk b off sp).add (0 * 1) |>.add 0) = some c0 := e
        simpa [Addr.add] using World.cell?_spot e
    subst hsp
    obtain ⟨cs', hc, ht⟩ := hi i (by rw [hmm]; split <;> omega)
    rw [hc1] at hc
    obtain ⟨_, hcl, hat⟩ := World.cells?_some hc
    match cs', hcl with
    | [c0], _ =>
      obtain ⟨z, e0, _, w0⟩ := DataW.trod_int he ht
      obtain rfl : c0 = .int k z := by simpa using e0
      have e := hat 0 (by omega)
      have e2 : W.cell? ⟨b, off + i, none⟩ = some (.int k z) := by
        rcases Nat.eq_zero_or_pos i with rfl | h0
        · simpa [Addr.add] using e
        · simpa [Addr.add, show i ≠ 0 by omega] using e
      exact ⟨b, off, z, rfl, icell_lt e2, e2, w0⟩
theorem open_u16s {H : Type} {enc : TypeId × Value → H} {W : World} {base : Nat} {spare : Nat → Bool} {held : Bool} {a : Option Addr} {len cap : Nat} {d : DataW H} {p : List MemPlace}
    (h : DataW.Trod enc Tryz.prog W base spare held 49 (.slice a len cap) d p) : len ≤ maxLen ∧ IntsAt .u16 W W.heap.size a len :=
  open_ints Tryz.underlying49 Tryz.underlying51 (by kernel_rfl) h
theorem open_u8s {H : Type} {enc : TypeId × Value → H} {W : World} {base : Nat} {spare : Nat → Bool} {held : Bool} {a : Option Addr} {len cap : Nat} {d : DataW H} {p : List MemPlace}
    (h : DataW.Trod enc Tryz.prog W base spare held 50 (.slice a len cap) d p) : len ≤ maxLen ∧ IntsAt .u8 W W.heap.size a len :=
  open_ints Tryz.underlying50 Tryz.underlying5 (by kernel_rfl) h
end Go.Proofs.YtjoflgcggdfomaaGreatDoor
