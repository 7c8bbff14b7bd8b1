/- The statement of SpecWakes: called with any input the law returns true, and its arguments read as before. No condition. -/
import Derived.Test.YtjfgkdgcihcmhaaRows
import Derived.WalkKit
import Derived.ProofKit
import Derived.OpenShut
import Derived.ShutString
import Derived.ChangeOld
import Derived.Below
import Derived.Test.YtjfgkdgcihcmhaaSpWakes
namespace Go.Proofs.Ytjfgkdgcihcmhaa.specWakes
open Go.ChangeShapes Go.WideShapes Go.ChangeAt Go.RowKit
set_option linter.unusedVariables false
set_option maxRecDepth 100000
theorem own : ownKnob Try.prog.godebug = none := by kernel_rfl
theorem laidOut : laidOutB Try.prog = true := by kernel_rfl
theorem cells1 : Try.prog.cellsOf 5 = 1 := by kernel_rfl
theorem cells6 : Try.prog.cellsOf 43 = 6 := by kernel_rfl
theorem nat_u8 {z : Int} (h : (Lit.int .u8 z).wf = true) : ∃ n : Nat, z = (n : Int) ∧ n ≤ 255 := by
  have h2 : 0 ≤ z ∧ z ≤ 255 := by simpa [Lit.wf, IntKind.min, IntKind.max, IntKind.signed, IntKind.bits] using h
  exact ⟨z.toNat, by omega, by omega⟩
theorem array6' {cs : Array Value} (h : cs.size = 6) : ∃ c0 c1 c2 c3 c4 c5, cs = #[c0, c1, c2, c3, c4, c5] := by
  obtain ⟨l⟩ := cs
  match l, h with
  | [c0, c1, c2, c3, c4, c5], _ => exact ⟨c0, c1, c2, c3, c4, c5, rfl⟩
/-- an array of 6 bytes that came in -/
theorem open_six {H : Type} {enc : TypeId × Value → H} {W : World} {base b0 : Nat} {spare : Nat → Bool} {held : Bool} {v : Value} {d : DataW H} {p : List MemPlace}
    (hv : Value.okWide Try.prog W .any b0 43 v) (h : DataW.Trod enc Try.prog W base spare held 43 v d p) :
    ∃ x0 x1 x2 x3 x4 x5 : Int, v = .agg #[.int .u8 x0, .int .u8 x1, .int .u8 x2, .int .u8 x3, .int .u8 x4, .int .u8 x5] ∧ (Lit.int .u8 x0).wf = true ∧ (Lit.int .u8 x1).wf = true ∧ (Lit.int .u8 x2).wf = true ∧ (Lit.int .u8 x3).wf = true ∧ (Lit.int .u8 x4).wf = true ∧ (Lit.int .u8 x5).wf = true := by
  simp only [Value.okWide, Try.underlying43] at hv
  obtain ⟨cs, rfl, hsz, _⟩ := hv
  obtain ⟨c0, c1, c2, c3, c4, c5, rfl⟩ := array6' (hsz.trans cells6)
  obtain ⟨fuel, hf⟩ := h
  have hf2 : DataW.trod enc Try.prog W base spare held fuel 43 [c0, c1, c2, c3, c4, c5] = some (d, p) := hf
  obtain ⟨xs, m, rfl, hx, hl, hxs, hi⟩ := DataW.trod_array Try.underlying43 hf2
  have h0 := hi 0 (by omega)
  rw [cells1] at h0
  have g0 : xs[0]? = some xs[0] := by simp
  rw [g0] at h0
  obtain ⟨x0, e0, _, wx0⟩ := DataW.trod_int Try.underlying5 h0
  simp at e0
  subst e0
  have h1 := hi 1 (by omega)
  rw [cells1] at h1
  have g1 : xs[1]? = some xs[1] := by simp
  rw [g1] at h1
  obtain ⟨x1, e1, _, wx1⟩ := DataW.trod_int Try.underlying5 h1
  simp at e1
  subst e1
  have h2 := hi 2 (by omega)
  rw [cells1] at h2
  have g2 : xs[2]? = some xs[2] := by simp
  rw [g2] at h2
  obtain ⟨x2, e2, _, wx2⟩ := DataW.trod_int Try.underlying5 h2
  simp at e2
  subst e2
  have h3 := hi 3 (by omega)
  rw [cells1] at h3
  have g3 : xs[3]? = some xs[3] := by simp
  rw [g3] at h3
  obtain ⟨x3, e3, _, wx3⟩ := DataW.trod_int Try.underlying5 h3
  simp at e3
  subst e3
  have h4 := hi 4 (by omega)
  rw [cells1] at h4
  have g4 : xs[4]? = some xs[4] := by simp
  rw [g4] at h4
  obtain ⟨x4, e4, _, wx4⟩ := DataW.trod_int Try.underlying5 h4
  simp at e4
  subst e4
  have h5 := hi 5 (by omega)
  rw [cells1] at h5
  have g5 : xs[5]? = some xs[5] := by simp
  rw [g5] at h5
  obtain ⟨x5, e5, _, wx5⟩ := DataW.trod_int Try.underlying5 h5
  simp at e5
  subst e5
  exact ⟨x0, x1, x2, x3, x4, x5, rfl, wx0, wx1, wx2, wx3, wx4, wx5⟩
set_option maxRecDepth 100000 in
theorem lifted (os : Os) (started : os.Started) (H : Type) (enc : TypeId × Value → H) :
    ReturnsInHanded {} Try.checked os 4 .any (Rows.specWakesSpec.pre6 enc Try.prog Try.f4 Rows.specWakesRow.domain false) (Rows.specWakesSpec.post enc Try.prog Try.f4 false true false false) := by
  refine returnsInHanded_of_change (C := Try.checked) own started (by kernel_rfl) Try.func4
    (ChangeSpec.witness6 (enc := enc) (C := Try.checked) false ⟨#[], #[.agg #[.int .u8 0, .int .u8 0, .int .u8 0, .int .u8 0, .int .u8 0, .int .u8 0], .agg #[.int .u8 0, .int .u8 0, .int .u8 0, .int .u8 0, .int .u8 0, .int .u8 0]], []⟩ 8 (by kernel_rfl) (by kernel_rfl) (by kernel_rfl) (by kernel_rfl)) ?_
  intro W base args ds gs before hval0 hW hcnd _
  have hval : ∀ (j : Nat) t v, Try.f4.params[j]? = some t → args[j]? = some v → Value.okWide Try.prog W .any base t v := hval0
  have hW' := hW
  obtain ⟨p, q, hA0, hV, rfl, hfz, hnd⟩ := hW
  have hA : DataW.TrodAll enc Try.prog W 0 (fun _ => true) true Try.f4.params.toList args.toList ds p := hA0
  rw [Try.params4] at hA hval
  obtain ⟨v0, vs0, d0, ds0, p0, q0, hargs, rfl, rfl, h0, r0⟩ := trodAll_cons hA
  obtain ⟨v1, vs1, d1, ds1, p1, q1, rfl, rfl, rfl, h1, r1⟩ := trodAll_cons r0
  obtain ⟨rfl, rfl, rfl⟩ := trodAll_nil r1
  obtain rfl : args = #[v0, v1] := by cases args; simp_all
  obtain ⟨rfl, rfl⟩ := trodVars_none hV
  have k0 := h0
  have lt0 : ∀ x ∈ p0, x.block < W.heap.size := by obtain ⟨m, hm⟩ := k0; exact DataW.trod_lt m _ _ _ hm
  have k1 := h1
  have lt1 : ∀ x ∈ p1, x.block < W.heap.size := by obtain ⟨m, hm⟩ := k1; exact DataW.trod_lt m _ _ _ hm
  obtain ⟨x0, x1, x2, x3, x4, x5, rfl, y0, y1, y2, y3, y4, y5⟩ := open_six (hval 0 43 v0 rfl rfl) h0
  obtain ⟨u0, u1, u2, u3, u4, u5, rfl, t0, t1, t2, t3, t4, t5⟩ := open_six (hval 1 43 v1 rfl rfl) h1
  obtain ⟨x0, rfl, i0⟩ := nat_u8 y0
  obtain ⟨x1, rfl, i1⟩ := nat_u8 y1
  obtain ⟨x2, rfl, i2⟩ := nat_u8 y2
  obtain ⟨x3, rfl, i3⟩ := nat_u8 y3
  obtain ⟨x4, rfl, i4⟩ := nat_u8 y4
  obtain ⟨x5, rfl, i5⟩ := nat_u8 y5
  obtain ⟨u0, rfl, j0⟩ := nat_u8 t0
  obtain ⟨u1, rfl, j1⟩ := nat_u8 t1
  obtain ⟨u2, rfl, j2⟩ := nat_u8 t2
  obtain ⟨u3, rfl, j3⟩ := nat_u8 t3
  obtain ⟨u4, rfl, j4⟩ := nat_u8 t4
  obtain ⟨u5, rfl, j5⟩ := nat_u8 t5
  clear hA0 hval0
  refine (wakes_law x0 x1 x2 x3 x4 x5 u0 u1 u2 u3 u4 u5 W ⟨i0, i1, i2, i3, i4, i5⟩ ⟨j0, j1, j2, j3, j4, j5⟩).mono fun e W' ⟨he, bel⟩ => ?_
  subst he
  exact ⟨_, rfl, _, _, _, [], _, [], hW', trodAll_mk1 (shut_bool Try.underlying4 _), (trodAll_cons_mk (Below.trod laidOut (by kernel_rfl) (of_decide_eq_true (by kernel_rfl)) k0 bel lt0) (trodAll_cons_mk (Below.trod laidOut (by kernel_rfl) (of_decide_eq_true (by kernel_rfl)) k1 bel lt1) trodAll_mk0)), rfl, bel.frame _, fun h => by cases h⟩
theorem over : Rows.specWakesRow.holds Try.pinned (OpenSpec.ofChange Rows.specWakesSpec) :=
  OpenClaim.holds_of_wide 4 Try.f4 rfl rfl rfl rfl rfl rfl rfl ⟨rfl, rfl, rfl, rfl, rfl⟩ rfl rfl rfl rfl rfl (by kernel_rfl) Try.func4 (by kernel_rfl)
    (of_decide_eq_true (by kernel_rfl)) (by unfold Func.isWrapper; first | (rw [if_pos (by decide +kernel)]; kernel_rfl) | (rw [if_neg (by decide +kernel)]; exact ⟨rfl, rfl⟩))
    (fun os started H enc _ => lifted os started H enc)
theorem proved : Rows.SpecWakesSaid := over
end Go.Proofs.Ytjfgkdgcihcmhaa.specWakes
