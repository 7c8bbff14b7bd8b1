/- The statement of QueueOrder: called with any input the law returns true, and its arguments read as before. No condition. -/
import Derived.Test.YtpejmkoheodblaaGreatRows
import Derived.WalkKit
import Derived.ProofKit
import Derived.OpenShut
import Derived.ShutString
import Derived.ChangeOld
import Derived.Below
import Derived.Test.YtpejmkoheodblaaGreatMgOrd
namespace Go.Proofs.YtpejmkoheodblaaGreat.queueOrder
open Go.ChangeShapes Go.WideShapes Go.ChangeAt Go.RowKit
set_option linter.unusedVariables false
set_option maxRecDepth 100000
theorem own : ownKnob Tryz.prog.godebug = none := by kernel_rfl
theorem laidOut : laidOutB Tryz.prog = true := by kernel_rfl
theorem cells1 : Tryz.prog.cellsOf 5 = 1 := by kernel_rfl
theorem cells8 : Tryz.prog.cellsOf 49 = 8 := by kernel_rfl
theorem cells4 : Tryz.prog.cellsOf 50 = 4 := by kernel_rfl
theorem nat_u8 {z : Int} (h : (Lit.int .u8 z).wf = true) : ∃ n : Nat, z = (n : Int) ∧ n ≤ 255 := by
  have h2 : 0 ≤ z ∧ z ≤ 255 := by simpa [Lit.wf, IntKind.min, IntKind.max, IntKind.signed, IntKind.bits] using h
  exact ⟨z.toNat, by omega, by omega⟩
theorem array8' {cs : Array Value} (h : cs.size = 8) : ∃ c0 c1 c2 c3 c4 c5 c6 c7, cs = #[c0, c1, c2, c3, c4, c5, c6, c7] := by
  obtain ⟨l⟩ := cs
  match l, h with
  | [c0, c1, c2, c3, c4, c5, c6, c7], _ => exact ⟨c0, c1, c2, c3, c4, c5, c6, c7, rfl⟩
/-- an array of 8 bytes that came in -/
theorem open_eight {H : Type} {enc : TypeId × Value → H} {W : World} {base b0 : Nat} {spare : Nat → Bool} {held : Bool} {v : Value} {d : DataW H} {p : List MemPlace}
    (hv : Value.okWide Tryz.prog W .any b0 49 v) (h : DataW.Trod enc Tryz.prog W base spare held 49 v d p) :
    ∃ x0 x1 x2 x3 x4 x5 x6 x7 : Int, v = .agg #[.int .u8 x0, .int .u8 x1, .int .u8 x2, .int .u8 x3, .int .u8 x4, .int .u8 x5, .int .u8 x6, .int .u8 x7] ∧ (Lit.int .u8 x0).wf = true ∧ (Lit.int .u8 x1).wf = true ∧ (Lit.int .u8 x2).wf = true ∧ (Lit.int .u8 x3).wf = true ∧ (Lit.int .u8 x4).wf = true ∧ (Lit.int .u8 x5).wf = true ∧ (Lit.int .u8 x6).wf = true ∧ (Lit.int .u8 x7).wf = true := by
  simp only [Value.okWide, Tryz.underlying49] at hv
  obtain ⟨cs, rfl, hsz, _⟩ := hv
  obtain ⟨c0, c1, c2, c3, c4, c5, c6, c7, rfl⟩ := array8' (hsz.trans cells8)
  obtain ⟨fuel, hf⟩ := h
  have hf2 : DataW.trod enc Tryz.prog W base spare held fuel 49 [c0, c1, c2, c3, c4, c5, c6, c7] = some (d, p) := hf
  obtain ⟨xs, m, rfl, hx, hl, hxs, hi⟩ := DataW.trod_array Tryz.underlying49 hf2
  have h0 := hi 0 (by omega)
  rw [cells1] at h0
  have g0 : xs[0]? = some xs[0] := by simp
  rw [g0] at h0
  obtain ⟨x0, e0, _, wx0⟩ := DataW.trod_int Tryz.underlying5 h0
  simp at e0
  subst e0
  have h1 := hi 1 (by omega)
  rw [cells1] at h1
  have g1 : xs[1]? = some xs[1] := by simp
  rw [g1] at h1
  obtain ⟨x1, e1, _, wx1⟩ := DataW.trod_int Tryz.underlying5 h1
  simp at e1
  subst e1
  have h2 := hi 2 (by omega)
  rw [cells1] at h2
  have g2 : xs[2]? = some xs[2] := by simp
  rw [g2] at h2
  obtain ⟨x2, e2, _, wx2⟩ := DataW.trod_int Tryz.underlying5 h2
  simp at e2
  subst e2
  have h3 := hi 3 (by omega)
  rw [cells1] at h3
  have g3 : xs[3]? = some xs[3] := by simp
  rw [g3] at h3
  obtain ⟨x3, e3, _, wx3⟩ := DataW.trod_int Tryz.underlying5 h3
  simp at e3
  subst e3
  have h4 := hi 4 (by omega)
  rw [cells1] at h4
  have g4 : xs[4]? = some xs[4] := by simp
  rw [g4] at h4
  obtain ⟨x4, e4, _, wx4⟩ := DataW.trod_int Tryz.underlying5 h4
  simp at e4
  subst e4
  have h5 := hi 5 (by omega)
  rw [cells1] at h5
  have g5 : xs[5]? = some xs[5] := by simp
  rw [g5] at h5
  obtain ⟨x5, e5, _, wx5⟩ := DataW.trod_int Tryz.underlying5 h5
  simp at e5
  subst e5
  have h6 := hi 6 (by omega)
  rw [cells1] at h6
  have g6 : xs[6]? = some xs[6] := by simp
  rw [g6] at h6
  obtain ⟨x6, e6, _, wx6⟩ := DataW.trod_int Tryz.underlying5 h6
  simp at e6
  subst e6
  have h7 := hi 7 (by omega)
  rw [cells1] at h7
  have g7 : xs[7]? = some xs[7] := by simp
  rw [g7] at h7
  obtain ⟨x7, e7, _, wx7⟩ := DataW.trod_int Tryz.underlying5 h7
  simp at e7
  subst e7
  exact ⟨x0, x1, x2, x3, x4, x5, x6, x7, rfl, wx0, wx1, wx2, wx3, wx4, wx5, wx6, wx7⟩
theorem array4' {cs : Array Value} (h : cs.size = 4) : ∃ c0 c1 c2 c3, cs = #[c0, c1, c2, c3] := by
  obtain ⟨l⟩ := cs
  match l, h with
  | [c0, c1, c2, c3], _ => exact ⟨c0, c1, c2, c3, rfl⟩
/-- an array of 4 bytes that came in -/
theorem open_four {H : Type} {enc : TypeId × Value → H} {W : World} {base b0 : Nat} {spare : Nat → Bool} {held : Bool} {v : Value} {d : DataW H} {p : List MemPlace}
    (hv : Value.okWide Tryz.prog W .any b0 50 v) (h : DataW.Trod enc Tryz.prog W base spare held 50 v d p) :
    ∃ x0 x1 x2 x3 : Int, v = .agg #[.int .u8 x0, .int .u8 x1, .int .u8 x2, .int .u8 x3] ∧ (Lit.int .u8 x0).wf = true ∧ (Lit.int .u8 x1).wf = true ∧ (Lit.int .u8 x2).wf = true ∧ (Lit.int .u8 x3).wf = true := by
  simp only [Value.okWide, Tryz.underlying50] at hv
  obtain ⟨cs, rfl, hsz, _⟩ := hv
  obtain ⟨c0, c1, c2, c3, rfl⟩ := array4' (hsz.trans cells4)
  obtain ⟨fuel, hf⟩ := h
  have hf2 : DataW.trod enc Tryz.prog W base spare held fuel 50 [c0, c1, c2, c3] = some (d, p) := hf
  obtain ⟨xs, m, rfl, hx, hl, hxs, hi⟩ := DataW.trod_array Tryz.underlying50 hf2
  have h0 := hi 0 (by omega)
  rw [cells1] at h0
  have g0 : xs[0]? = some xs[0] := by simp
  rw [g0] at h0
  obtain ⟨x0, e0, _, wx0⟩ := DataW.trod_int Tryz.underlying5 h0
  simp at e0
  subst e0
  have h1 := hi 1 (by omega)
  rw [cells1] at h1
  have g1 : xs[1]? = some xs[1] := by simp
  rw [g1] at h1
  obtain ⟨x1, e1, _, wx1⟩ := DataW.trod_int Tryz.underlying5 h1
  simp at e1
  subst e1
  have h2 := hi 2 (by omega)
  rw [cells1] at h2
  have g2 : xs[2]? = some xs[2] := by simp
  rw [g2] at h2
  obtain ⟨x2, e2, _, wx2⟩ := DataW.trod_int Tryz.underlying5 h2
  simp at e2
  subst e2
  have h3 := hi 3 (by omega)
  rw [cells1] at h3
  have g3 : xs[3]? = some xs[3] := by simp
  rw [g3] at h3
  obtain ⟨x3, e3, _, wx3⟩ := DataW.trod_int Tryz.underlying5 h3
  simp at e3
  subst e3
  exact ⟨x0, x1, x2, x3, rfl, wx0, wx1, wx2, wx3⟩
set_option maxRecDepth 100000 in
theorem lifted (os : Os) (started : os.Started) (H : Type) (enc : TypeId × Value → H) :
    ReturnsInHanded {} Tryz.checked os 4 .any (Rows.queueOrderSpec.pre6 enc Tryz.prog Tryz.f4 Rows.queueOrderRow.domain false) (Rows.queueOrderSpec.post enc Tryz.prog Tryz.f4 false true false false) := by
  refine returnsInHanded_of_change (C := Tryz.checked) own started (by kernel_rfl) Tryz.func4
    (ChangeSpec.witness6 (enc := enc) (C := Tryz.checked) false ⟨#[], #[.agg #[.int .u8 0, .int .u8 0, .int .u8 0, .int .u8 0, .int .u8 0, .int .u8 0, .int .u8 0, .int .u8 0], .int .u8 0, .agg #[.int .u8 0, .int .u8 0, .int .u8 0, .int .u8 0]], []⟩ 8 (by kernel_rfl) (by kernel_rfl) (by kernel_rfl) (by kernel_rfl)) ?_
  intro W base args ds gs before hval0 hW hcnd _
  have hval : ∀ (j : Nat) t v, Tryz.f4.params[j]? = some t → args[j]? = some v → Value.okWide Tryz.prog W .any base t v := hval0
  have hW' := hW
  obtain ⟨p, q, hA0, hV, rfl, hfz, hnd⟩ := hW
  have hA : DataW.TrodAll enc Tryz.prog W 0 (fun _ => true) true Tryz.f4.params.toList args.toList ds p := hA0
  rw [Tryz.params4] at hA hval
  obtain ⟨v0, vs0, d0, ds0, p0, q0, hargs, rfl, rfl, h0, r0⟩ := trodAll_cons hA
  obtain ⟨v1, vs1, d1, ds1, p1, q1, rfl, rfl, rfl, h1, r1⟩ := trodAll_cons r0
  obtain ⟨v2, vs2, d2, ds2, p2, q2, rfl, rfl, rfl, h2, r2⟩ := trodAll_cons r1
  obtain ⟨rfl, rfl, rfl⟩ := trodAll_nil r2
  obtain rfl : args = #[v0, v1, v2] := by cases args; simp_all
  obtain ⟨rfl, rfl⟩ := trodVars_none hV
  have k0 := h0
  have lt0 : ∀ x ∈ p0, x.block < W.heap.size := by obtain ⟨m, hm⟩ := k0; exact DataW.trod_lt m _ _ _ hm
  have k2 := h2
  have lt2 : ∀ x ∈ p2, x.block < W.heap.size := by obtain ⟨m, hm⟩ := k2; exact DataW.trod_lt m _ _ _ hm
  obtain ⟨z1, rfl, rfl, rfl, w1⟩ := open_int Tryz.underlying5 (hval 1 5 v1 rfl rfl) h1
  obtain ⟨x0, x1, x2, x3, x4, x5, x6, x7, rfl, y0, y1, y2, y3, y4, y5, y6, y7⟩ := open_eight (hval 0 49 v0 rfl rfl) h0
  obtain ⟨u0, u1, u2, u3, rfl, t0, t1, t2, t3⟩ := open_four (hval 2 50 v2 rfl rfl) h2
  obtain ⟨x0, rfl, i0⟩ := nat_u8 y0
  obtain ⟨x1, rfl, i1⟩ := nat_u8 y1
  obtain ⟨x2, rfl, i2⟩ := nat_u8 y2
  obtain ⟨x3, rfl, i3⟩ := nat_u8 y3
  obtain ⟨x4, rfl, i4⟩ := nat_u8 y4
  obtain ⟨x5, rfl, i5⟩ := nat_u8 y5
  obtain ⟨x6, rfl, i6⟩ := nat_u8 y6
  obtain ⟨x7, rfl, i7⟩ := nat_u8 y7
  obtain ⟨u0, rfl, j0⟩ := nat_u8 t0
  obtain ⟨u1, rfl, j1⟩ := nat_u8 t1
  obtain ⟨u2, rfl, j2⟩ := nat_u8 t2
  obtain ⟨u3, rfl, j3⟩ := nat_u8 t3
  have w1' := w1
  obtain ⟨z1, rfl, l1⟩ := nat_u8 w1
  clear hA0 hval0
  refine (order_law x0 x1 x2 x3 x4 x5 x6 x7 z1 u0 u1 u2 u3 W ⟨i0, i1, i2, i3, i4, i5, i6, i7⟩ l1 ⟨j0, j1, j2, j3⟩).mono fun e W' ⟨he, bel⟩ => ?_
  subst he
  exact ⟨_, rfl, _, _, _, [], _, [], hW', trodAll_mk1 (shut_bool Tryz.underlying4 _), (trodAll_cons_mk (Below.trod laidOut (by kernel_rfl) (of_decide_eq_true (by kernel_rfl)) k0 bel lt0) (trodAll_cons_mk (shut_int Tryz.underlying5 w1') (trodAll_cons_mk (Below.trod laidOut (by kernel_rfl) (of_decide_eq_true (by kernel_rfl)) k2 bel lt2) trodAll_mk0))), rfl, bel.frame _, fun h => by cases h⟩
theorem over : Rows.queueOrderRow.holds Tryz.pinned (OpenSpec.ofChange Rows.queueOrderSpec) :=
  OpenClaim.holds_of_wide 4 Tryz.f4 rfl rfl rfl rfl rfl rfl rfl ⟨rfl, rfl, rfl, rfl, rfl⟩ rfl rfl rfl rfl rfl (by kernel_rfl) Tryz.func4 (by kernel_rfl)
    (of_decide_eq_true (by kernel_rfl)) (by unfold Func.isWrapper; first | (rw [if_pos (by decide +kernel)]; kernel_rfl) | (rw [if_neg (by decide +kernel)]; exact ⟨rfl, rfl⟩))
    (fun os started H enc _ => lifted os started H enc)
theorem proved : Rows.QueueOrderSaid := over
end Go.Proofs.YtpejmkoheodblaaGreat.queueOrder
