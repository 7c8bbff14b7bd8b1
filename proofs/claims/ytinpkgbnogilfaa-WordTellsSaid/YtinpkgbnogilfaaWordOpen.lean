/- A header that came in by value, opened. -/
import Derived.Test.YtinpkgbnogilfaaRows
import Derived.WalkKit
import Derived.ProofKit
import Derived.OpenShut
import Derived.ShutString
import Derived.ChangeOld
import Derived.Below
import Derived.Test.YtinpkgbnogilfaaWordA
namespace Go.Proofs.Ytinpkgbnogilfaa
open Go.ChangeShapes Go.WideShapes Go.ChangeAt Go.RowKit
set_option linter.unusedVariables false
open Wd
theorem hd_cells : Try.prog.cellsOf 23 = 6 := by kernel_rfl
theorem int_cells : Try.prog.cellsOf 3 = 1 := by kernel_rfl
theorem open_hd {H : Type} {enc : TypeId × Value → H} {W : World} {base b0 : Nat} {spare : Nat → Bool} {held : Bool} {v : Value} {d : DataW H} {p : List MemPlace}
    (hv : Value.okWide Try.prog W .any b0 23 v) (h : DataW.Trod enc Try.prog W base spare held 23 v d p) : ∃ x : Hd, v = hdV x := by
  obtain ⟨cs, rfl, hsz⟩ := okWide_struct Try.underlying23 hv
  obtain ⟨l⟩ := cs
  match l, hsz.trans hd_cells with
  | [c0, c1, c2, c3, c4, c5], _ =>
    obtain ⟨fuel, hf⟩ := h
    obtain ⟨xs, n, _, _, _, hlen, hg⟩ := DataW.trod_struct Try.underlying23 hf
    match xs, hlen with
    | [y0, y1, y2, y3, y4, y5], _ =>
      have key := fun (i : Nat) (f : Field) h1 (h2 : f.type = 3) (h3 : f.offset = i) =>
        (show DataW.trod enc Try.prog W base spare held n 3 (List.take 1 (List.drop i [c0, c1, c2, c3, c4, c5])) = ([y0, y1, y2, y3, y4, y5] : List (DataW H × List MemPlace))[i]? from by
          have := hg i f h1
          rw [h2, h3, int_cells] at this
          exact this)
      have g0 := key 0 _ rfl rfl rfl
      have g1 := key 1 _ rfl rfl rfl
      have g2 := key 2 _ rfl rfl rfl
      have g3 := key 3 _ rfl rfl rfl
      have g4 := key 4 _ rfl rfl rfl
      have g5 := key 5 _ rfl rfl rfl
      have g0 : DataW.trod enc Try.prog W base spare held n 3 [c0] = some y0 := g0
      have g1 : DataW.trod enc Try.prog W base spare held n 3 [c1] = some y1 := g1
      have g2 : DataW.trod enc Try.prog W base spare held n 3 [c2] = some y2 := g2
      have g3 : DataW.trod enc Try.prog W base spare held n 3 [c3] = some y3 := g3
      have g4 : DataW.trod enc Try.prog W base spare held n 3 [c4] = some y4 := g4
      have g5 : DataW.trod enc Try.prog W base spare held n 3 [c5] = some y5 := g5
      obtain ⟨t, e0, _, _⟩ := DataW.trod_int Try.underlying3 g0
      obtain ⟨o, e1, _, _⟩ := DataW.trod_int Try.underlying3 g1
      obtain ⟨c, e2, _, _⟩ := DataW.trod_int Try.underlying3 g2
      obtain ⟨m, e3, _, _⟩ := DataW.trod_int Try.underlying3 g3
      obtain ⟨g, e4, _, _⟩ := DataW.trod_int Try.underlying3 g4
      obtain ⟨h, e5, _, _⟩ := DataW.trod_int Try.underlying3 g5
      cases e0; cases e1; cases e2; cases e3; cases e4; cases e5
      exact ⟨⟨t, o, c, m, g, h⟩, rfl⟩
theorem wf_u64 {z : Int} (h : (Lit.int .u64 z).wf = true) : 0 ≤ z ∧ z ≤ 18446744073709551615 := by
  simpa [Lit.wf, IntKind.min, IntKind.max, IntKind.signed, IntKind.bits] using h
end Go.Proofs.Ytinpkgbnogilfaa
