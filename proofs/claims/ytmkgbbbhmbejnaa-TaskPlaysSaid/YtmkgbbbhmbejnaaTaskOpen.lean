/- What layer 6's laws read of their arguments: items, picks, the drawn struct. -/
import Derived.Test.YtmkgbbbhmbejnaaProg
import Derived.WalkKit
import Derived.ProofKit
import Derived.OpenShut
import Derived.Below
import Derived.Deep.Slices
import Derived.Deep.Fields
import Derived.ChangeSame
import Derived.Test.YtmkgbbbhmbejnaaTaskPlays
namespace Go.Proofs.Ytmkgbbbhmbejnaa
open Go.ChangeShapes Go.WideShapes Go.ChangeAt Go.RowKit
set_option linter.unusedVariables false
set_option maxRecDepth 100000
theorem item_cells : Try.prog.cellsOf 72 = 4 := by kernel_rfl
theorem pick_cells : Try.prog.cellsOf 63 = 3 := by kernel_rfl
theorem drawn_cells : Try.prog.cellsOf 46 = 11 := by kernel_rfl
theorem a4_cells : Try.prog.cellsOf 41 = 4 := by kernel_rfl
theorem a3_cells : Try.prog.cellsOf 42 = 3 := by kernel_rfl
theorem l3_cells : Try.prog.cellsOf 44 = 3 := by kernel_rfl
theorem items_cells : Try.prog.cellsOf 43 = 1 := by kernel_rfl
theorem u16_cells : Try.prog.cellsOf 40 = 1 := by kernel_rfl
theorem bool_cells : Try.prog.cellsOf 4 = 1 := by kernel_rfl
theorem int_cells6 : Try.prog.cellsOf 3 = 1 := by kernel_rfl
theorem u8_cells6 : Try.prog.cellsOf 5 = 1 := by kernel_rfl
theorem u64_cells6 : Try.prog.cellsOf 22 = 1 := by kernel_rfl
theorem wf6_u8 {z : Int} (h : (Lit.int .u8 z).wf = true) : 0 ≤ z ∧ z ≤ 255 := by
  simpa [Lit.wf, IntKind.min, IntKind.max, IntKind.signed, IntKind.bits] using h
theorem wf6_u16 {z : Int} (h : (Lit.int .u16 z).wf = true) : 0 ≤ z ∧ z ≤ 65535 := by
  simpa [Lit.wf, IntKind.min, IntKind.max, IntKind.signed, IntKind.bits] using h
theorem wf6_u64 {z : Int} (h : (Lit.int .u64 z).wf = true) : 0 ≤ z ∧ z ≤ 18446744073709551615 := by
  simpa [Lit.wf, IntKind.min, IntKind.max, IntKind.signed, IntKind.bits] using h
theorem wf6_i64 {z : Int} (h : (Lit.int .i64 z).wf = true) : -9223372036854775808 ≤ z ∧ z ≤ 9223372036854775807 := by
  simpa [Lit.wf, IntKind.min, IntKind.max, IntKind.signed, IntKind.bits] using h
theorem bcell_lt {w : World} {b o : Nat} {v : Value} (h : w.cell? ⟨b, o, none⟩ = some v) : b < w.heap.size := by
  by_cases hb : b < w.heap.size
  · exact hb
  · have : w.heap[b]? = none := by simp; omega
    simp [World.cell?, this] at h
section
variable {H : Type} {enc : TypeId × Value → H} {W : World} {base : Nat} {spare : Nat → Bool} {held : Bool}
theorem open_items {a : Option Addr} {len cap : Nat} {x : DataW H × List MemPlace} {fuel : Nat}
    (hf : DataW.trod enc Try.prog W base spare held fuel 43 [.slice a len cap] = some x) : len ≤ 9223372036854775807 ∧ RawAt W W.heap.size a len := by
  rcases Go.Deep.open_slice Try.underlying43 hf with ⟨hcs, _⟩ | ⟨x, l, c, m, n, D, Pl, hcs, _, hl, hm, hmm, _, hi⟩
  · simp at hcs
    obtain ⟨rfl, rfl, rfl⟩ := hcs
    exact ⟨by omega, fun i h => by omega⟩
  · simp at hcs
    obtain ⟨rfl, rfl, rfl⟩ := hcs
    refine ⟨by unfold maxLen at hm; omega, fun i hil => ?_⟩
    obtain ⟨b, off, sp⟩ := x
    have hsp : sp = none := by
      obtain ⟨cs', hc, _⟩ := hi 0 (by rw [hmm]; split <;> omega)
      rw [item_cells] at hc
      obtain ⟨_, hcl, hat⟩ := World.cells?_some hc
      have e := hat 0 (by omega)
      match cs', hcl with
      | [c0, c1, c2, c3], _ =>
        have e : W.cell? ((Addr.mk b off sp).add (0 * 4) |>.add 0) = some c0 := e
        simpa [Addr.add] using World.cell?_spot e
    subst hsp
    obtain ⟨cs', hc, ht⟩ := hi i (by rw [hmm]; split <;> omega)
    rw [item_cells] at hc
    obtain ⟨_, hcl, hat⟩ := World.cells?_some hc
    obtain ⟨xs, k, _, _, _, hlen, hg⟩ := DataW.trod_struct Try.underlying72 ht
    match cs', hcl, xs, hlen with
    | [c0, c1, c2, c3], _, [y0, y1, y2, y3], _ =>
      have g0 : DataW.trod enc Try.prog W base spare held k 3 (List.take (Try.prog.cellsOf 3) (List.drop 0 [c0, c1, c2, c3])) = some y0 := hg 0 _ rfl
      rw [int_cells6] at g0
      have g1 : DataW.trod enc Try.prog W base spare held k 3 (List.take (Try.prog.cellsOf 3) (List.drop 1 [c0, c1, c2, c3])) = some y1 := hg 1 _ rfl
      rw [int_cells6] at g1
      have g2 : DataW.trod enc Try.prog W base spare held k 22 (List.take (Try.prog.cellsOf 22) (List.drop 2 [c0, c1, c2, c3])) = some y2 := hg 2 _ rfl
      rw [u64_cells6] at g2
      have g3 : DataW.trod enc Try.prog W base spare held k 22 (List.take (Try.prog.cellsOf 22) (List.drop 3 [c0, c1, c2, c3])) = some y3 := hg 3 _ rfl
      rw [u64_cells6] at g3
      obtain ⟨z0, e0, _, w0⟩ := DataW.trod_int Try.underlying3 g0
      obtain rfl : c0 = .int .i64 z0 := by simpa using e0
      obtain ⟨z1, e1, _, w1⟩ := DataW.trod_int Try.underlying3 g1
      obtain rfl : c1 = .int .i64 z1 := by simpa using e1
      obtain ⟨z2, e2, _, w2⟩ := DataW.trod_int Try.underlying22 g2
      obtain rfl : c2 = .int .u64 z2 := by simpa using e2
      obtain ⟨z3, e3, _, w3⟩ := DataW.trod_int Try.underlying22 g3
      obtain rfl : c3 = .int .u64 z3 := by simpa using e3
      have h0 := hat 0 (by omega)
      have h1 := hat 1 (by omega)
      have h2 := hat 2 (by omega)
      have h3 := hat 3 (by omega)
      rw [Go.WideShapes.add_plain, Go.WideShapes.add_plain] at h0 h1 h2 h3
      exact ⟨b, off, rfl, bcell_lt h0, z0, z1, z2, z3, wf6_i64 w0, wf6_i64 w1, wf6_u64 w2, wf6_u64 w3, h0, h1, h2, h3⟩
theorem open_picks {a : Option Addr} {len cap : Nat} {d : DataW H} {p : List MemPlace}
    (h : DataW.Trod enc Try.prog W base spare held 47 (.slice a len cap) d p) : len ≤ 9223372036854775807 ∧ PicksAt W W.heap.size a len := by
  obtain ⟨fuel, hf⟩ := h
  rcases Go.Deep.open_slice Try.underlying47 hf with ⟨hcs, _⟩ | ⟨x, l, c, m, n, D, Pl, hcs, _, hl, hm, hmm, _, hi⟩
  · simp [Value.cells] at hcs
    obtain ⟨rfl, rfl, rfl⟩ := hcs
    exact ⟨by omega, fun i h => by omega⟩
  · simp [Value.cells] at hcs
    obtain ⟨rfl, rfl, rfl⟩ := hcs
    refine ⟨by unfold maxLen at hm; omega, fun i hil => ?_⟩
    obtain ⟨b, off, sp⟩ := x
    have hsp : sp = none := by
      obtain ⟨cs', hc, _⟩ := hi 0 (by rw [hmm]; split <;> omega)
      rw [pick_cells] at hc
      obtain ⟨_, hcl, hat⟩ := World.cells?_some hc
      have e := hat 0 (by omega)
      match cs', hcl with
      | [c0, c1, c2], _ =>
        have e : W.cell? ((Addr.mk b off sp).add (0 * 3) |>.add 0) = some c0 := e
        simpa [Addr.add] using World.cell?_spot e
    subst hsp
    obtain ⟨cs', hc, ht⟩ := hi i (by rw [hmm]; split <;> omega)
    rw [pick_cells] at hc
    obtain ⟨_, hcl, hat⟩ := World.cells?_some hc
    obtain ⟨xs, k, _, _, _, hlen, hg⟩ := DataW.trod_struct Try.underlying63 ht
    match cs', hcl, xs, hlen with
    | [c0, c1, c2], _, [y0, y1, y2], _ =>
      have g0 : DataW.trod enc Try.prog W base spare held k 5 (List.take (Try.prog.cellsOf 5) (List.drop 0 [c0, c1, c2])) = some y0 := hg 0 _ rfl
      rw [u8_cells6] at g0
      have g1 : DataW.trod enc Try.prog W base spare held k 5 (List.take (Try.prog.cellsOf 5) (List.drop 1 [c0, c1, c2])) = some y1 := hg 1 _ rfl
      rw [u8_cells6] at g1
      have g2 : DataW.trod enc Try.prog W base spare held k 4 (List.take (Try.prog.cellsOf 4) (List.drop 2 [c0, c1, c2])) = some y2 := hg 2 _ rfl
      rw [bool_cells] at g2
      obtain ⟨z0, e0, _, w0⟩ := DataW.trod_int Try.underlying5 g0
      obtain rfl : c0 = .int .u8 z0 := by simpa using e0
      obtain ⟨z1, e1, _, w1⟩ := DataW.trod_int Try.underlying5 g1
      obtain rfl : c1 = .int .u8 z1 := by simpa using e1
      obtain ⟨z2, e2, _⟩ := DataW.trod_bool Try.underlying4 g2
      obtain rfl : c2 = .bool z2 := by simpa using e2
      have h0 := hat 0 (by omega)
      have h1 := hat 1 (by omega)
      have h2 := hat 2 (by omega)
      rw [Go.WideShapes.add_plain, Go.WideShapes.add_plain] at h0 h1 h2
      exact ⟨b, off, rfl, bcell_lt h0, z0, z1, z2, wf6_u8 w0, wf6_u8 w1, h0, h1, h2⟩
theorem open_u16 {n : Nat} {c : Value} {x : DataW H × List MemPlace} (h : DataW.trod enc Try.prog W base spare held n 40 [c] = some x) : ∃ z, c = .int .u16 z ∧ 0 ≤ z ∧ z ≤ 65535 := by
  obtain ⟨z, e, _, w⟩ := DataW.trod_int Try.underlying40 h
  have := wf6_u16 w
  exact ⟨z, by simpa using e, this.1, this.2⟩
theorem open_bool {n : Nat} {c : Value} {x : DataW H × List MemPlace} (h : DataW.trod enc Try.prog W base spare held n 4 [c] = some x) : ∃ z, c = .bool z := by
  obtain ⟨z, e, _⟩ := DataW.trod_bool Try.underlying4 h
  exact ⟨z, by simpa using e⟩
theorem open_slice6 {n : Nat} {c : Value} {x : DataW H × List MemPlace} (h : DataW.trod enc Try.prog W base spare held n 43 [c] = some x) : ∃ a l cp, c = .slice a l cp ∧ l ≤ 9223372036854775807 ∧ RawAt W W.heap.size a l := by
  have h' := h
  rcases Go.Deep.open_slice Try.underlying43 h with ⟨hcs, _⟩ | ⟨x, l, cp, m, n, D, Pl, hcs, _⟩
  · obtain rfl : c = .slice none 0 0 := by simpa using hcs
    have := open_items h'
    exact ⟨_, _, _, rfl, this.1, this.2⟩
  · obtain rfl : c = .slice (some x) l cp := by simpa using hcs
    have := open_items h'
    exact ⟨_, _, _, rfl, this.1, this.2⟩
theorem open_drawn {b0 : Nat} {v : Value} {d : DataW H} {p : List MemPlace}
    (hv : Value.okWide Try.prog W .any b0 46 v) (h : DataW.Trod enc Try.prog W base spare held 46 v d p) :
    ∃ (f0 f1 f2 f3 pc : Int) (b0 b1 b2 : Bool) (a0 a1 a2 : Option Addr) (l0 l1 l2 c0 c1 c2 : Nat),
      v = .agg #[.int .u16 f0, .int .u16 f1, .int .u16 f2, .int .u16 f3, .bool b0, .bool b1, .bool b2, .slice a0 l0 c0, .slice a1 l1 c1, .slice a2 l2 c2, .int .u8 pc] ∧
      ((0 ≤ f0 ∧ f0 ≤ 65535) ∧ (0 ≤ f1 ∧ f1 ≤ 65535) ∧ (0 ≤ f2 ∧ f2 ≤ 65535) ∧ (0 ≤ f3 ∧ f3 ≤ 65535)) ∧ (0 ≤ pc ∧ pc ≤ 255) ∧
      (l0 ≤ 9223372036854775807 ∧ l1 ≤ 9223372036854775807 ∧ l2 ≤ 9223372036854775807) ∧ RawAt W W.heap.size a0 l0 ∧ RawAt W W.heap.size a1 l1 ∧ RawAt W W.heap.size a2 l2 := by
  obtain ⟨cs, rfl, hsz⟩ := okWide_struct Try.underlying46 hv
  obtain ⟨l⟩ := cs
  match l, hsz.trans drawn_cells with
  | [x0, x1, x2, x3, x4, x5, x6, x7, x8, x9, x10], _ =>
    obtain ⟨fuel, hf⟩ := h
    obtain ⟨xs, n, _, _, _, hlen, hg⟩ := DataW.trod_struct Try.underlying46 hf
    match xs, hlen with
    | [y0, y1, y2, y3], _ =>
      have g0 : DataW.trod enc Try.prog W base spare held n 41 (List.take (Try.prog.cellsOf 41) (List.drop 0 [x0, x1, x2, x3, x4, x5, x6, x7, x8, x9, x10])) = some y0 := hg 0 _ rfl
      rw [a4_cells] at g0
      have g1 : DataW.trod enc Try.prog W base spare held n 42 (List.take (Try.prog.cellsOf 42) (List.drop 4 [x0, x1, x2, x3, x4, x5, x6, x7, x8, x9, x10])) = some y1 := hg 1 _ rfl
      rw [a3_cells] at g1
      have g2 : DataW.trod enc Try.prog W base spare held n 44 (List.take (Try.prog.cellsOf 44) (List.drop 7 [x0, x1, x2, x3, x4, x5, x6, x7, x8, x9, x10])) = some y2 := hg 2 _ rfl
      rw [l3_cells] at g2
      have g3 : DataW.trod enc Try.prog W base spare held n 5 (List.take (Try.prog.cellsOf 5) (List.drop 10 [x0, x1, x2, x3, x4, x5, x6, x7, x8, x9, x10])) = some y3 := hg 3 _ rfl
      rw [u8_cells6] at g3
      have g0 : DataW.trod enc Try.prog W base spare held n 41 [x0, x1, x2, x3] = some y0 := g0
      have g1 : DataW.trod enc Try.prog W base spare held n 42 [x4, x5, x6] = some y1 := g1
      have g2 : DataW.trod enc Try.prog W base spare held n 44 [x7, x8, x9] = some y2 := g2
      have g3 : DataW.trod enc Try.prog W base spare held n 5 [x10] = some y3 := g3
      obtain ⟨ys0, m0, _, _, _, hl0, hi0⟩ := DataW.trod_array Try.underlying41 g0
      obtain ⟨ys1, m1, _, _, _, hl1, hi1⟩ := DataW.trod_array Try.underlying42 g1
      obtain ⟨ys2, m2, _, _, _, hl2, hi2⟩ := DataW.trod_array Try.underlying44 g2
      match ys0, hl0, ys1, hl1, ys2, hl2 with
      | [u0, u1, u2, u3], _, [v0, v1, v2], _, [w0, w1, w2], _ =>
        have p0 := hi0 0 (by omega)
        have p1 := hi0 1 (by omega)
        have p2 := hi0 2 (by omega)
        have p3 := hi0 3 (by omega)
        rw [u16_cells] at p0 p1 p2 p3
        have q0 := hi1 0 (by omega)
        have q1 := hi1 1 (by omega)
        have q2 := hi1 2 (by omega)
        rw [bool_cells] at q0 q1 q2
        have r0 := hi2 0 (by omega)
        have r1 := hi2 1 (by omega)
        have r2 := hi2 2 (by omega)
        rw [items_cells] at r0 r1 r2
        obtain ⟨f0, rfl, hf0⟩ := open_u16 (c := x0) (x := u0) p0
        obtain ⟨f1, rfl, hf1⟩ := open_u16 (c := x1) (x := u1) p1
        obtain ⟨f2, rfl, hf2⟩ := open_u16 (c := x2) (x := u2) p2
        obtain ⟨f3, rfl, hf3⟩ := open_u16 (c := x3) (x := u3) p3
        obtain ⟨k0, rfl⟩ := open_bool (c := x4) (x := v0) q0
        obtain ⟨k1, rfl⟩ := open_bool (c := x5) (x := v1) q1
        obtain ⟨k2, rfl⟩ := open_bool (c := x6) (x := v2) q2
        obtain ⟨a0, l0, c0, rfl, hz0, hr0⟩ := open_slice6 (c := x7) (x := w0) r0
        obtain ⟨a1, l1, c1, rfl, hz1, hr1⟩ := open_slice6 (c := x8) (x := w1) r1
        obtain ⟨a2, l2, c2, rfl, hz2, hr2⟩ := open_slice6 (c := x9) (x := w2) r2
        obtain ⟨pz, ep, _, wp⟩ := DataW.trod_int Try.underlying5 g3
        obtain rfl : x10 = .int .u8 pz := by simpa using ep
        exact ⟨f0, f1, f2, f3, pz, k0, k1, k2, a0, a1, a2, l0, l1, l2, c0, c1, c2, rfl, ⟨hf0, hf1, hf2, hf3⟩, wf6_u8 wp, ⟨hz0, hz1, hz2⟩, hr0, hr1, hr2⟩
end
end Go.Proofs.Ytmkgbbbhmbejnaa
