/- A slice of events that came in: read out of the argument's cells. -/
import Derived.Test.YtbaehokffdpopaaGreatGrL
import Derived.WalkKit
import Derived.ProofKit
import Derived.OpenShut
import Derived.Below
import Derived.Deep.Slices
import Derived.Deep.Fields
import Derived.ChangeSame
namespace Go.Proofs.YtbaehokffdpopaaGreat
open Go.ChangeShapes Go.WideShapes Go.ChangeAt Go.RowKit
set_option linter.unusedVariables false
set_option maxRecDepth 100000
theorem list_of {α : Type} {P : Nat → α → Prop} : ∀ k, (∀ i, i < k → ∃ e, P i e) → ∃ L : List α, L.length = k ∧ ∀ i e, L[i]? = some e → P i e
  | 0, _ => ⟨[], rfl, fun i e h => by simp at h⟩
  | k + 1, h => by
    obtain ⟨L, hL, hP⟩ := list_of k (fun i hi => h i (by omega))
    obtain ⟨e, he⟩ := h k (by omega)
    refine ⟨L ++ [e], by simp [hL], fun i x hx => ?_⟩
    rcases Nat.lt_or_ge i L.length with hi | hi
    · rw [List.getElem?_append_left hi] at hx
      exact hP i x hx
    · rw [List.getElem?_append_right hi] at hx
      have : i - L.length = 0 := by
        have := (List.getElem?_eq_some_iff.1 hx).1
        simp at this
        omega
      rw [this] at hx
      have hik : i = k := by omega
      subst hik
      simp at hx
      exact hx ▸ he
theorem ev_cells : Tryz.prog.cellsOf 68 = 8 := by kernel_rfl
theorem res_cells : Tryz.prog.cellsOf 66 = 2 := by kernel_rfl
theorem cellsI : Tryz.prog.cellsOf 3 = 1 := by kernel_rfl
theorem cellsE : Tryz.prog.cellsOf 64 = 1 := by kernel_rfl
theorem open_evs {H : Type} {enc : TypeId × Value → H} {W : World} {base : Nat} {spare : Nat → Bool} {held : Bool} {a : Option Addr} {len cap : Nat} {d : DataW H} {p : List MemPlace}
    (h : DataW.Trod enc Tryz.prog W base spare held 45 (.slice a len cap) d p) : len ≤ 9223372036854775807 ∧ len ≤ cap ∧ ∃ L : List Ev, L.length = min len 60 ∧ EvSl W (.slice a len cap) len L := by
  obtain ⟨fuel, hf⟩ := h
  rcases Go.Deep.open_slice Tryz.underlying45 hf with ⟨hcs, _⟩ | ⟨x, l, c, m, n, D, Pl, hcs, _, hl, hm, hmm, _, hi⟩
  · simp [Value.cells] at hcs
    obtain ⟨rfl, rfl, rfl⟩ := hcs
    exact ⟨by omega, by omega, [], by simp, ⟨none, 0, rfl, fun i e h => by simp at h⟩⟩
  · simp [Value.cells] at hcs
    obtain ⟨rfl, rfl, rfl⟩ := hcs
    refine ⟨by unfold maxLen at hm; omega, hl, ?_⟩
    obtain ⟨b, off, sp⟩ := x
    by_cases h0 : len = 0
    · subst h0
      exact ⟨[], by simp, ⟨_, _, rfl, fun i e h => by simp at h⟩⟩
    have hsp : sp = none := by
      obtain ⟨cs', hc, _⟩ := hi 0 (by rw [hmm]; split <;> omega)
      rw [ev_cells] at hc
      obtain ⟨_, hcl, hat⟩ := World.cells?_some hc
      have e := hat 0 (by omega)
      match cs', hcl with
      | [c0, c1, c2, c3, c4, c5, c6, c7], _ =>
        have e : W.cell? ((Addr.mk b off sp).add (0 * 8) |>.add 0) = some c0 := e
        simpa [Addr.add] using World.cell?_spot e
    subst hsp
    obtain ⟨L, hL, hP⟩ := list_of (P := fun i (e : Ev) => ∀ (j : Nat) (u : Value), (evL e)[j]? = some u → W.cell? ⟨b, off + i * 8 + j, none⟩ = some u) (min len 60) (fun i hil => by
      obtain ⟨cs', hc, ht⟩ := hi i (by rw [hmm]; split <;> omega)
      rw [ev_cells] at hc
      obtain ⟨_, hcl, hat⟩ := World.cells?_some hc
      obtain ⟨xs, k, _, _, _, hlen, hg⟩ := DataW.trod_struct Tryz.underlying68 ht
      match cs', hcl, xs, hlen with
      | [c0, c1, c2, c3, c4, c5, c6, c7], _, [y0, y1, y2, y3, y4, y5, y6], _ =>
        have g0 : DataW.trod enc Tryz.prog W base spare held k 3 (List.take (Tryz.prog.cellsOf 3) (List.drop 0 [c0, c1, c2, c3, c4, c5, c6, c7])) = some y0 := hg 0 _ rfl
        have g1 : DataW.trod enc Tryz.prog W base spare held k 3 (List.take (Tryz.prog.cellsOf 3) (List.drop 1 [c0, c1, c2, c3, c4, c5, c6, c7])) = some y1 := hg 1 _ rfl
        have g2 : DataW.trod enc Tryz.prog W base spare held k 3 (List.take (Tryz.prog.cellsOf 3) (List.drop 2 [c0, c1, c2, c3, c4, c5, c6, c7])) = some y2 := hg 2 _ rfl
        have g3 : DataW.trod enc Tryz.prog W base spare held k 3 (List.take (Tryz.prog.cellsOf 3) (List.drop 3 [c0, c1, c2, c3, c4, c5, c6, c7])) = some y3 := hg 3 _ rfl
        have g4 : DataW.trod enc Tryz.prog W base spare held k 3 (List.take (Tryz.prog.cellsOf 3) (List.drop 4 [c0, c1, c2, c3, c4, c5, c6, c7])) = some y4 := hg 4 _ rfl
        have g5 : DataW.trod enc Tryz.prog W base spare held k 3 (List.take (Tryz.prog.cellsOf 3) (List.drop 5 [c0, c1, c2, c3, c4, c5, c6, c7])) = some y5 := hg 5 _ rfl
        have g6 : DataW.trod enc Tryz.prog W base spare held k 66 (List.take (Tryz.prog.cellsOf 66) (List.drop 6 [c0, c1, c2, c3, c4, c5, c6, c7])) = some y6 := hg 6 _ rfl
        rw [cellsI] at g0 g1 g2 g3 g4 g5
        rw [res_cells] at g6
        obtain ⟨zs, k2, _, _, _, hlen2, hg2⟩ := DataW.trod_struct Tryz.underlying66 g6
        match zs, hlen2 with
        | [y7, y8], _ =>
          have g7 : DataW.trod enc Tryz.prog W base spare held k2 64 (List.take (Tryz.prog.cellsOf 64) (List.drop 0 [c6, c7])) = some y7 := hg2 0 _ rfl
          have g8 : DataW.trod enc Tryz.prog W base spare held k2 3 (List.take (Tryz.prog.cellsOf 3) (List.drop 1 [c6, c7])) = some y8 := hg2 1 _ rfl
          rw [cellsE] at g7
          rw [cellsI] at g8
          obtain ⟨z0, e0, _, _⟩ := DataW.trod_int Tryz.underlying3 g0
          obtain rfl : c0 = .int .i64 z0 := by simpa using e0
          obtain ⟨z1, e1, _, _⟩ := DataW.trod_int Tryz.underlying3 g1
          obtain rfl : c1 = .int .i64 z1 := by simpa using e1
          obtain ⟨z2, e2, _, _⟩ := DataW.trod_int Tryz.underlying3 g2
          obtain rfl : c2 = .int .i64 z2 := by simpa using e2
          obtain ⟨z3, e3, _, _⟩ := DataW.trod_int Tryz.underlying3 g3
          obtain rfl : c3 = .int .i64 z3 := by simpa using e3
          obtain ⟨z4, e4, _, _⟩ := DataW.trod_int Tryz.underlying3 g4
          obtain rfl : c4 = .int .i64 z4 := by simpa using e4
          obtain ⟨z5, e5, _, _⟩ := DataW.trod_int Tryz.underlying3 g5
          obtain rfl : c5 = .int .i64 z5 := by simpa using e5
          obtain ⟨z6, e6, _, _⟩ := DataW.trod_int Tryz.underlying64 g7
          obtain rfl : c6 = .int .i64 z6 := by simpa using e6
          obtain ⟨z7, e7, _, _⟩ := DataW.trod_int Tryz.underlying3 g8
          obtain rfl : c7 = .int .i64 z7 := by simpa using e7
          refine ⟨⟨z0, z1, z2, z3, z4, z5, z6, z7⟩, fun j u hu => ?_⟩
          have hj : j < 8 := (List.getElem?_eq_some_iff.1 hu).1
          have hx := hat j (by omega)
          rw [Go.WideShapes.add_plain, Go.WideShapes.add_plain] at hx
          have hu2 : [Value.int .i64 z0, .int .i64 z1, .int .i64 z2, .int .i64 z3, .int .i64 z4, .int .i64 z5, .int .i64 z6, .int .i64 z7][j]? = some u := hu
          rw [← hu2]
          exact hx.trans (by first | rfl | simp))
    exact ⟨L, hL, ⟨_, _, rfl, fun i e he => ⟨b, off, rfl, hP i e he⟩⟩⟩
end Go.Proofs.YtbaehokffdpopaaGreat
