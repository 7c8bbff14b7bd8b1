/- What layer 8's laws read of their arguments: rows of bytes, picks. -/
import Derived.Test.YtgcmnaiiifaajaaProg
import Derived.WalkKit
import Derived.ProofKit
import Derived.OpenShut
import Derived.Below
import Derived.Deep.Slices
import Derived.Deep.Fields
import Derived.ChangeSame
import Derived.Test.YtgcmnaiiifaajaaMacSums
namespace Go.Proofs.Ytgcmnaiiifaajaa
open Go.ChangeShapes Go.WideShapes Go.ChangeAt Go.RowKit
set_option linter.unusedVariables false
set_option maxRecDepth 100000
theorem m8_pick_cells : Try.prog.cellsOf 38 = 2 := by kernel_rfl
theorem m8_int_cells : Try.prog.cellsOf 3 = 1 := by kernel_rfl
theorem m8_u8s_cells : Try.prog.cellsOf 31 = 1 := by kernel_rfl
theorem m8_u8_cells : Try.prog.cellsOf 5 = 1 := by kernel_rfl
theorem wf8_u8 {z : Int} (h : (Lit.int .u8 z).wf = true) : 0 ≤ z ∧ z ≤ 255 := by
  simpa [Lit.wf, IntKind.min, IntKind.max, IntKind.signed, IntKind.bits] using h
theorem cell_lt8 {w : World} {b o : Nat} {v : Value} (h : w.cell? ⟨b, o, none⟩ = some v) : b < w.heap.size := by
  by_cases hb : b < w.heap.size
  · exact hb
  · have : w.heap[b]? = none := by simp; omega
    simp [World.cell?, this] at h
theorem list_of {α : Type} (P : Nat → α → Prop) : ∀ (n : Nat), (∀ i, i < n → ∃ x, P i x) → ∃ l : List α, l.length = n ∧ ∀ i x, l[i]? = some x → P i x
  | 0, _ => ⟨[], rfl, fun i x h => by simp at h⟩
  | n + 1, h => by
    obtain ⟨l, h1, h2⟩ := list_of P n (fun i hi => h i (by omega))
    obtain ⟨x, hx⟩ := h n (by omega)
    refine ⟨l ++ [x], by simp [h1], fun i y hy => ?_⟩
    rcases Nat.lt_or_ge i l.length with hl | hl
    · rw [List.getElem?_append_left hl] at hy
      exact h2 i y hy
    · rw [List.getElem?_append_right hl] at hy
      obtain ⟨h3, h4⟩ := List.getElem?_eq_some_iff.1 hy
      simp at h3
      obtain rfl : i = n := by omega
      simp at h4; subst h4
      exact hx
section
variable {H : Type} {enc : TypeId × Value → H} {W : World} {base : Nat} {spare : Nat → Bool} {held : Bool}
theorem row_u8 {fuel : Nat} {v : Value} {x : DataW H × List MemPlace} (hf : DataW.trod enc Try.prog W base spare held fuel 31 [v] = some x) :
    ∃ (a : Option Addr) (row : List Int) (c : Nat), v = .slice a row.length c ∧ ∀ (i : Nat) x, row[i]? = some x → (0 ≤ x ∧ x ≤ 255) ∧ ∃ b o, a = some ⟨b, o, none⟩ ∧ b < W.heap.size ∧ W.cell? ⟨b, o + i, none⟩ = some (.int .u8 x) := by
  rcases Go.Deep.open_slice Try.underlying31 hf with ⟨hcs, _⟩ | ⟨x, l, c, m, n, D, Pl, hcs, _, hl, hm, hmm, _, hi⟩
  · simp at hcs
    subst hcs
    exact ⟨none, [], 0, rfl, fun i x h => by simp at h⟩
  · simp at hcs
    subst hcs
    have key : ∀ i, i < l → ∃ z : Int, (0 ≤ z ∧ z ≤ 255) ∧ ∃ b o, (some x : Option Addr) = some ⟨b, o, none⟩ ∧ b < W.heap.size ∧ W.cell? ⟨b, o + i, none⟩ = some (.int .u8 z) := by
      intro i hil
      obtain ⟨b, off, sp⟩ := x
      have hsp : sp = none := by
        obtain ⟨cs', hc, _⟩ := hi 0 (by rw [hmm]; split <;> omega)
        rw [m8_u8_cells] at hc
        obtain ⟨_, hcl, hat⟩ := World.cells?_some hc
        have e := hat 0 (by omega)
        match cs', hcl with
        | [c0], _ =>
          have e : W.cell? ((Addr.mk b off sp).add (0 * 1) |>.add 0) = some c0 := e
          simpa [Addr.add] using World.cell?_spot e
      subst hsp
      obtain ⟨cs', hc, ht⟩ := hi i (by rw [hmm]; split <;> omega)
      rw [m8_u8_cells] at hc
      obtain ⟨_, hcl, hat⟩ := World.cells?_some hc
      match cs', hcl with
      | [c0], _ =>
        obtain ⟨z, e0, _, w0⟩ := DataW.trod_int Try.underlying5 ht
        obtain rfl : c0 = .int .u8 z := by simpa using e0
        have e := hat 0 (by omega)
        have e2 : W.cell? ⟨b, off + i, none⟩ = some (.int .u8 z) := by
          rcases Nat.eq_zero_or_pos i with rfl | h0
          · simpa [Addr.add] using e
          · simpa [Addr.add, show i ≠ 0 by omega] using e
        exact ⟨z, wf8_u8 w0, b, off, rfl, cell_lt8 e2, e2⟩
    obtain ⟨row, h1, h2⟩ := list_of (fun i (z : Int) => (0 ≤ z ∧ z ≤ 255) ∧ ∃ b o, (some x : Option Addr) = some ⟨b, o, none⟩ ∧ b < W.heap.size ∧ W.cell? ⟨b, o + i, none⟩ = some (.int .u8 z)) l key
    exact ⟨some x, row, c, by rw [h1], h2⟩
theorem open_rows {a : Option Addr} {len cap : Nat} {d : DataW H} {p : List MemPlace} (h : DataW.Trod enc Try.prog W base spare held 22 (.slice a len cap) d p) : ∃ N : List (List Int), N.length = len ∧ NumsAt W W.heap.size a N := by
  obtain ⟨fuel, hf⟩ := h
  rcases Go.Deep.open_slice Try.underlying22 hf with ⟨hcs, _⟩ | ⟨x, l, c, m, n, D, Pl, hcs, _, hl, hm, hmm, _, hi⟩
  · simp [Value.cells] at hcs
    obtain ⟨rfl, rfl, rfl⟩ := hcs
    exact ⟨[], rfl, fun t row h => by simp at h⟩
  · simp [Value.cells] at hcs
    obtain ⟨rfl, rfl, rfl⟩ := hcs
    refine list_of (fun t (row : List Int) => ∃ b o, (some x : Option Addr) = some ⟨b, o, none⟩ ∧ b < W.heap.size ∧ ∃ a' c', W.cell? ⟨b, o + t, none⟩ = some (.slice a' row.length c') ∧
      ∀ (i : Nat) x, row[i]? = some x → (0 ≤ x ∧ x ≤ 255) ∧ ∃ b' o', a' = some ⟨b', o', none⟩ ∧ b' < W.heap.size ∧ W.cell? ⟨b', o' + i, none⟩ = some (.int .u8 x)) _ (fun i hil => ?_)
    obtain ⟨b, off, sp⟩ := x
    have hsp : sp = none := by
      obtain ⟨cs', hc, _⟩ := hi 0 (by rw [hmm]; split <;> omega)
      rw [m8_u8s_cells] at hc
      obtain ⟨_, hcl, hat⟩ := World.cells?_some hc
      have e := hat 0 (by omega)
      match cs', hcl with
      | [c0], _ =>
        have e : W.cell? ((Addr.mk b off sp).add (0 * 1) |>.add 0) = some c0 := e
        simpa [Addr.add] using World.cell?_spot e
    subst hsp
    obtain ⟨cs', hc, ht⟩ := hi i (by rw [hmm]; split <;> omega)
    rw [m8_u8s_cells] at hc
    obtain ⟨_, hcl, hat⟩ := World.cells?_some hc
    match cs', hcl with
    | [c0], _ =>
      obtain ⟨a', row, c', rfl, hr⟩ := row_u8 ht
      have e := hat 0 (by omega)
      have e2 : W.cell? ⟨b, off + i, none⟩ = some (.slice a' row.length c') := by
        rcases Nat.eq_zero_or_pos i with rfl | h0
        · simpa [Addr.add] using e
        · simpa [Addr.add, show i ≠ 0 by omega] using e
      exact ⟨row, b, off, rfl, cell_lt8 e2, a', c', e2, hr⟩
theorem open_picks8 {a : Option Addr} {len cap : Nat} {d : DataW H} {p : List MemPlace}
    (h : DataW.Trod enc Try.prog W base spare held 23 (.slice a len cap) d p) : PickTs W W.heap.size a len := by
  obtain ⟨fuel, hf⟩ := h
  rcases Go.Deep.open_slice Try.underlying23 hf with ⟨hcs, _⟩ | ⟨x, l, c, m, n, D, Pl, hcs, _, hl, hm, hmm, _, hi⟩
  · simp [Value.cells] at hcs
    obtain ⟨rfl, rfl, rfl⟩ := hcs
    exact fun i h => by omega
  · simp [Value.cells] at hcs
    obtain ⟨rfl, rfl, rfl⟩ := hcs
    intro i hil
    obtain ⟨b, off, sp⟩ := x
    have hsp : sp = none := by
      obtain ⟨cs', hc, _⟩ := hi 0 (by rw [hmm]; split <;> omega)
      rw [m8_pick_cells] at hc
      obtain ⟨_, hcl, hat⟩ := World.cells?_some hc
      have e := hat 0 (by omega)
      match cs', hcl with
      | [c0, c1], _ =>
        have e : W.cell? ((Addr.mk b off sp).add (0 * 2) |>.add 0) = some c0 := e
        simpa [Addr.add] using World.cell?_spot e
    subst hsp
    obtain ⟨cs', hc, ht⟩ := hi i (by rw [hmm]; split <;> omega)
    rw [m8_pick_cells] at hc
    obtain ⟨_, hcl, hat⟩ := World.cells?_some hc
    obtain ⟨xs, k, _, _, _, hlen, hg⟩ := DataW.trod_struct Try.underlying38 ht
    match cs', hcl, xs, hlen with
    | [c0, c1], _, [y0, y1], _ =>
      have g0 : DataW.trod enc Try.prog W base spare held k 3 (List.take (Try.prog.cellsOf 3) (List.drop 0 [c0, c1])) = some y0 := hg 0 _ rfl
      rw [m8_int_cells] at g0
      obtain ⟨z0, e0, _, w0⟩ := DataW.trod_int Try.underlying3 g0
      obtain rfl : c0 = .int .i64 z0 := by simpa using e0
      have h0 := hat 0 (by omega)
      rw [Go.WideShapes.add_plain, Go.WideShapes.add_plain] at h0
      exact ⟨b, off, rfl, cell_lt8 h0, z0, h0⟩
end
end Go.Proofs.Ytgcmnaiiifaajaa
