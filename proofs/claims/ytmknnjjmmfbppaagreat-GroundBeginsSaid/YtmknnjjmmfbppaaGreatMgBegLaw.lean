/- A draft that came in. -/
import Derived.Test.YtmknnjjmmfbppaaGreatMgBegAR
import Derived.WalkKit
import Derived.ProofKit
import Derived.OpenShut
import Derived.Below
import Derived.Deep.Slices
import Derived.Deep.Fields
import Derived.ChangeSame
namespace Go.Proofs.YtmknnjjmmfbppaaGreat
open Go.ChangeShapes Go.WideShapes Go.ChangeAt Go.RowKit
set_option linter.unusedVariables false
set_option maxRecDepth 100000
theorem list_of2 {α : Type} {P : Nat → α → Prop} : ∀ k, (∀ i, i < k → ∃ e, P i e) → ∃ L : List α, L.length = k ∧ ∀ i e, L[i]? = some e → P i e
  | 0, _ => ⟨[], rfl, fun i e h => by simp at h⟩
  | k + 1, h => by
    obtain ⟨L, hL, hP⟩ := list_of2 k (fun i hi => h i (by omega))
    obtain ⟨e, he⟩ := h k (by omega)
    refine ⟨L ++ [e], by simp [hL], fun i x hx => ?_⟩
    rcases Nat.lt_or_ge i L.length with hi | hi
    · rw [List.getElem?_append_left hi] at hx
      exact hP i x hx
    · rw [List.getElem?_append_right hi] at hx
      have : i - L.length = 0 := by
        have := (List.getElem?_eq_some_iff.1 hx).1
        simp at this
        omega
      rw [this] at hx
      have hik : i = k := by omega
      subst hik
      simp at hx
      exact hx ▸ he
theorem dr_cells : Tryz.prog.cellsOf 26 = 5 := by kernel_rfl
theorem dr_a3 : Tryz.prog.cellsOf 22 = 3 := by kernel_rfl
theorem dr_u8 : Tryz.prog.cellsOf 5 = 1 := by kernel_rfl
theorem dr_ints : Tryz.prog.cellsOf 23 = 1 := by kernel_rfl
theorem dr_bools : Tryz.prog.cellsOf 24 = 1 := by kernel_rfl
theorem dr_int : Tryz.prog.cellsOf 3 = 1 := by kernel_rfl
theorem dr_bool : Tryz.prog.cellsOf 4 = 1 := by kernel_rfl
section
variable {H : Type} {enc : TypeId × Value → H} {W : World} {base : Nat} {spare : Nat → Bool} {held : Bool}
theorem open_u8d {n : Nat} {c : Value} {x : DataW H × List MemPlace} (h : DataW.trod enc Tryz.prog W base spare held n 5 [c] = some x) : ∃ z : Nat, c = .int .u8 (z : Int) ∧ z ≤ 255 := by
  obtain ⟨z, e, _, w⟩ := DataW.trod_int Tryz.underlying5 h
  have : 0 ≤ z ∧ z ≤ 255 := by simpa [Lit.wf, IntKind.min, IntKind.max, IntKind.signed, IntKind.bits] using w
  obtain ⟨k, rfl⟩ := Int.eq_ofNat_of_zero_le this.1
  exact ⟨k, by simpa using e, by omega⟩
theorem spot_none {x : Addr} {v : Value} (h : W.cell? (x.add 0) = some v) : x.spot = none := World.cell?_spot (by simpa [Addr.add] using h)
theorem open_intsd {n : Nat} {c : Value} {x : DataW H × List MemPlace} (h : DataW.trod enc Tryz.prog W base spare held n 23 [c] = some x) :
    ∃ a len cap, c = .slice a len cap ∧ len ≤ 9223372036854775807 ∧ len ≤ cap ∧ ∃ L : List Int, L.length = min len 8 ∧ SlN intE W a L := by
  rcases Go.Deep.open_slice1 Tryz.underlying23 dr_int h with ⟨hcs, _⟩ | ⟨a, len, cap, m, n', V, D, Pl, hcs, _, hl, hm, hmm, _, hi⟩
  · simp at hcs
    subst hcs
    exact ⟨none, 0, 0, rfl, by omega, by omega, [], by simp, fun i x h => by simp at h⟩
  · simp at hcs
    subst hcs
    refine ⟨some a, len, cap, rfl, by unfold maxLen at hm; omega, hl, ?_⟩
    obtain ⟨b, off, sp⟩ := a
    by_cases h0 : len = 0
    · subst h0
      exact ⟨[], by simp, fun i x h => by simp at h⟩
    have hsp : sp = none := by
      have := (hi 0 (by rw [hmm]; split <;> omega)).1
      simpa [Addr.add] using World.cell?_spot this
    subst hsp
    obtain ⟨L, hL, hP⟩ := list_of2 (P := fun i (z : Int) => W.cell? ⟨b, off + i, none⟩ = some (intE z)) (min len 8) (fun i hil => by
      obtain ⟨hc, ht⟩ := hi i (by rw [hmm]; split <;> omega)
      obtain ⟨z, e, _, _⟩ := DataW.trod_int Tryz.underlying3 ht
      have e2 : V i = .int .i64 z := by simpa using e
      rw [Go.WideShapes.add_plain, e2] at hc
      exact ⟨z, hc⟩)
    exact ⟨L, hL, fun i x hx => ⟨b, off, rfl, hP i x hx⟩⟩
theorem open_boolsd {n : Nat} {c : Value} {x : DataW H × List MemPlace} (h : DataW.trod enc Tryz.prog W base spare held n 24 [c] = some x) :
    ∃ a len cap, c = .slice a len cap ∧ len ≤ 9223372036854775807 ∧ len ≤ cap ∧ ∃ L : List Bool, L.length = min len 8 ∧ SlN Value.bool W a L := by
  rcases Go.Deep.open_slice1 Tryz.underlying24 dr_bool h with ⟨hcs, _⟩ | ⟨a, len, cap, m, n', V, D, Pl, hcs, _, hl, hm, hmm, _, hi⟩
  · simp at hcs
    subst hcs
    exact ⟨none, 0, 0, rfl, by omega, by omega, [], by simp, fun i x h => by simp at h⟩
  · simp at hcs
    subst hcs
    refine ⟨some a, len, cap, rfl, by unfold maxLen at hm; omega, hl, ?_⟩
    obtain ⟨b, off, sp⟩ := a
    by_cases h0 : len = 0
    · subst h0
      exact ⟨[], by simp, fun i x h => by simp at h⟩
    have hsp : sp = none := by
      have := (hi 0 (by rw [hmm]; split <;> omega)).1
      simpa [Addr.add] using World.cell?_spot this
    subst hsp
    obtain ⟨L, hL, hP⟩ := list_of2 (P := fun i (z : Bool) => W.cell? ⟨b, off + i, none⟩ = some (.bool z)) (min len 8) (fun i hil => by
      obtain ⟨hc, ht⟩ := hi i (by rw [hmm]; split <;> omega)
      obtain ⟨z, e, _⟩ := DataW.trod_bool Tryz.underlying4 ht
      have e2 : V i = .bool z := by simpa using e
      rw [Go.WideShapes.add_plain, e2] at hc
      exact ⟨z, hc⟩)
    exact ⟨L, hL, fun i x hx => ⟨b, off, rfl, hP i x hx⟩⟩
theorem open_draft {b0 : Nat} {v : Value} {d : DataW H} {p : List MemPlace} (hv : Value.okWide Tryz.prog W .any b0 26 v) (h : DataW.Trod enc Tryz.prog W base spare held 26 v d p) :
    ∃ (n0 n1 n2 : Nat) (ha : Option Addr) (hn hc : Nat) (fa : Option Addr) (fn fc : Nat) (L : List Int) (F : List Bool), v = draftV n0 n1 n2 ha hn hc fa fn fc ∧ (n0 ≤ 255 ∧ n1 ≤ 255 ∧ n2 ≤ 255) ∧
      (L.length = min hn 8 ∧ SlN intE W ha L ∧ hn ≤ hc ∧ hn ≤ 9223372036854775807) ∧ (F.length = min fn 8 ∧ SlN Value.bool W fa F ∧ fn ≤ fc ∧ fn ≤ 9223372036854775807) := by
  obtain ⟨cs, rfl, hsz⟩ := okWide_struct Tryz.underlying26 hv
  obtain ⟨l⟩ := cs
  match l, hsz.trans dr_cells with
  | [x0, x1, x2, x3, x4], _ =>
    obtain ⟨fuel, hf⟩ := h
    obtain ⟨xs, n, _, _, _, hlen, hg⟩ := DataW.trod_struct Tryz.underlying26 hf
    match xs, hlen with
    | [y0, y1, y2], _ =>
      have g0 : DataW.trod enc Tryz.prog W base spare held n 22 (List.take (Tryz.prog.cellsOf 22) (List.drop 0 [x0, x1, x2, x3, x4])) = some y0 := hg 0 _ rfl
      rw [dr_a3] at g0
      have g1 : DataW.trod enc Tryz.prog W base spare held n 23 (List.take (Tryz.prog.cellsOf 23) (List.drop 3 [x0, x1, x2, x3, x4])) = some y1 := hg 1 _ rfl
      rw [dr_ints] at g1
      have g2 : DataW.trod enc Tryz.prog W base spare held n 24 (List.take (Tryz.prog.cellsOf 24) (List.drop 4 [x0, x1, x2, x3, x4])) = some y2 := hg 2 _ rfl
      rw [dr_bools] at g2
      have g0 : DataW.trod enc Tryz.prog W base spare held n 22 [x0, x1, x2] = some y0 := g0
      have g1 : DataW.trod enc Tryz.prog W base spare held n 23 [x3] = some y1 := g1
      have g2 : DataW.trod enc Tryz.prog W base spare held n 24 [x4] = some y2 := g2
      obtain ⟨ys0, m0, _, _, _, hl0, hi0⟩ := DataW.trod_array Tryz.underlying22 g0
      match ys0, hl0 with
      | [u0, u1, u2], _ =>
        have p0 := hi0 0 (by omega)
        have p1 := hi0 1 (by omega)
        have p2 := hi0 2 (by omega)
        rw [dr_u8] at p0 p1 p2
        obtain ⟨f0, rfl, hf0⟩ := open_u8d (c := x0) (x := u0) p0
        obtain ⟨f1, rfl, hf1⟩ := open_u8d (c := x1) (x := u1) p1
        obtain ⟨f2, rfl, hf2⟩ := open_u8d (c := x2) (x := u2) p2
        obtain ⟨ha, hn, hc, rfl, h1, h2, L, h3, h4⟩ := open_intsd g1
        obtain ⟨fa, fn, fc, rfl, h5, h6, F, h7, h8⟩ := open_boolsd g2
        exact ⟨f0, f1, f2, ha, hn, hc, fa, fn, fc, L, F, rfl, ⟨hf0, hf1, hf2⟩, ⟨h3, h4, h2, h1⟩, ⟨h7, h8, h6, h5⟩⟩
end
end Go.Proofs.YtmknnjjmmfbppaaGreat
