/- The statement of GroundSleeps: called with any three bytes and any bool the law returns true, and its arguments read as before. No condition. -/
import Derived.Test.YtldofbkjjmnooaaGreatRows
import Derived.WalkKit
import Derived.ProofKit
import Derived.OpenShut
import Derived.ShutString
import Derived.ChangeOld
import Derived.Below
import Derived.Test.YtldofbkjjmnooaaGreatMgGSlLaw
namespace Go.Proofs.YtldofbkjjmnooaaGreat.groundSleeps
open Go.ChangeShapes Go.WideShapes Go.ChangeAt Go.RowKit
set_option linter.unusedVariables false
set_option maxRecDepth 100000
theorem own : ownKnob Tryz.prog.godebug = none := by kernel_rfl
theorem laidOut : laidOutB Tryz.prog = true := by kernel_rfl
theorem cells1 : Tryz.prog.cellsOf 5 = 1 := by kernel_rfl
theorem cells3 : Tryz.prog.cellsOf 59 = 3 := by kernel_rfl
theorem array3' {cs : Array Value} (h : cs.size = 3) : ∃ a b c, cs = #[a, b, c] := by
  obtain ⟨l⟩ := cs
  match l, h with
  | [a, b, c], _ => exact ⟨a, b, c, rfl⟩
theorem wf_u8' {z : Int} (h : (Lit.int .u8 z).wf = true) : 0 ≤ z ∧ z ≤ 255 := by
  simpa [Lit.wf, IntKind.min, IntKind.max, IntKind.signed, IntKind.bits] using h
/-- an array of three bytes that came in -/
theorem open_three {H : Type} {enc : TypeId × Value → H} {W : World} {base b0 : Nat} {spare : Nat → Bool} {held : Bool} {v : Value} {d : DataW H} {p : List MemPlace}
    (hv : Value.okWide Tryz.prog W .any b0 59 v) (h : DataW.Trod enc Tryz.prog W base spare held 59 v d p) :
    ∃ x y z : Int, v = .agg #[.int .u8 x, .int .u8 y, .int .u8 z] ∧ (Lit.int .u8 x).wf = true ∧ (Lit.int .u8 y).wf = true ∧ (Lit.int .u8 z).wf = true := by
  simp only [Value.okWide, Tryz.underlying59] at hv
  obtain ⟨cs, rfl, hsz, _⟩ := hv
  obtain ⟨c0, c1, c2, rfl⟩ := array3' (hsz.trans cells3)
  obtain ⟨fuel, hf⟩ := h
  have hf2 : DataW.trod enc Tryz.prog W base spare held fuel 59 [c0, c1, c2] = some (d, p) := hf
  obtain ⟨xs, m, rfl, hx, hl, hxs, hi⟩ := DataW.trod_array Tryz.underlying59 hf2
  have h0 := hi 0 (by omega)
  have h1 := hi 1 (by omega)
  have h2 := hi 2 (by omega)
  rw [cells1] at h0 h1 h2
  have g0 : xs[0]? = some xs[0] := by simp
  have g1 : xs[1]? = some xs[1] := by simp
  have g2 : xs[2]? = some xs[2] := by simp
  rw [g0] at h0
  rw [g1] at h1
  rw [g2] at h2
  obtain ⟨x, e0, _, wx⟩ := DataW.trod_int Tryz.underlying5 h0
  obtain ⟨y, e1, _, wy⟩ := DataW.trod_int Tryz.underlying5 h1
  obtain ⟨z, e2, _, wz⟩ := DataW.trod_int Tryz.underlying5 h2
  simp at e0 e1 e2
  subst e0
  subst e1
  subst e2
  exact ⟨x, y, z, rfl, wx, wy, wz⟩
set_option maxRecDepth 100000 in
theorem lifted (os : Os) (started : os.Started) (H : Type) (enc : TypeId × Value → H) :
    ReturnsInHanded {} Tryz.checked os 6 .any (Rows.groundSleepsSpec.pre6 enc Tryz.prog Tryz.f6 Rows.groundSleepsRow.domain false) (Rows.groundSleepsSpec.post enc Tryz.prog Tryz.f6 false true false false) := by
  refine returnsInHanded_of_change (C := Tryz.checked) own started (by kernel_rfl) Tryz.func6
    (ChangeSpec.witness6 (enc := enc) (C := Tryz.checked) false ⟨#[], #[.agg #[.int .u8 0, .int .u8 0, .int .u8 0], .bool false], []⟩ 8 (by kernel_rfl) (by kernel_rfl) (by kernel_rfl) (by kernel_rfl)) ?_
  intro W base args ds gs before hval0 hW hcnd _
  have hval : ∀ (j : Nat) t v, Tryz.f6.params[j]? = some t → args[j]? = some v → Value.okWide Tryz.prog W .any base t v := hval0
  have hW' := hW
  obtain ⟨p, q, hA0, hV, rfl, hfz, hnd⟩ := hW
  have hA : DataW.TrodAll enc Tryz.prog W 0 (fun _ => true) true Tryz.f6.params.toList args.toList ds p := hA0
  rw [Tryz.params6] at hA hval
  obtain ⟨v0, vs0, d0, ds0, p0, q0, hargs, rfl, rfl, h0, r0⟩ := trodAll_cons hA
  obtain ⟨v1, vs1, d1, ds1, p1, q1, rfl, rfl, rfl, h1, r1⟩ := trodAll_cons r0
  obtain ⟨rfl, rfl, rfl⟩ := trodAll_nil r1
  obtain rfl : args = #[v0, v1] := by cases args; simp_all
  obtain ⟨rfl, rfl⟩ := trodVars_none hV
  have k0 := h0
  have lt0 : ∀ x ∈ p0, x.block < W.heap.size := by obtain ⟨m, hm⟩ := k0; exact DataW.trod_lt m _ _ _ hm
  obtain ⟨x, y, z, rfl, wx, wy, wz⟩ := open_three (hval 0 59 v0 rfl rfl) h0
  obtain ⟨b1, rfl, rfl, rfl⟩ := open_bool Tryz.underlying4 (hval 1 4 v1 rfl rfl) h1
  clear hA0 hval0
  refine (sleeps13_law x y z b1 W (wf_u8' wx) (wf_u8' wy) (wf_u8' wz)).mono fun e W' ⟨he, bel⟩ => ?_
  subst he
  exact ⟨_, rfl, _, _, _, [], _, [], hW', trodAll_mk1 (shut_bool Tryz.underlying4 _), (trodAll_cons_mk (Below.trod laidOut (by kernel_rfl) (of_decide_eq_true (by kernel_rfl)) k0 bel lt0) (trodAll_cons_mk (shut_bool Tryz.underlying4 _) trodAll_mk0)), rfl, bel.frame _, fun h => by cases h⟩
theorem j1 : (Rows.groundSleepsRow.wf (OpenSpec.ofChange Rows.groundSleepsSpec)) = true := by kernel_rfl
theorem j2 : (laidOutB Tryz.prog) = true := by kernel_rfl
theorem j3 : (mapsRowed Tryz.prog) = true := by kernel_rfl
theorem j4 : (Rows.groundSleepsRow.inPlace == Tryz.prog.inPlace 6) = true := by kernel_rfl
theorem j5 : (Rows.groundSleepsRow.unfollowed == Tryz.prog.unfollowed 6) = true := by kernel_rfl
theorem j6 : (Rows.groundSleepsRow.recurses == Tryz.prog.recurses 6) = true := by kernel_rfl
theorem j7 : (Rows.groundSleepsRow.named == Tryz.prog.varsNamed 6) = true := by kernel_rfl
theorem j8 : (Rows.groundSleepsRow.plainKeys == Tryz.prog.plainKeys) = true := by kernel_rfl
theorem j9 : (Tryz.prog.stopsHeard) = true := by kernel_rfl
theorem j10 : (Tryz.prog.mayEnter) = true := by kernel_rfl
theorem j11 : (Rows.groundSleepsRow.lifted == Tryz.prog.liftsFinal) = true := by kernel_rfl
theorem j12 : (Tryz.prog.make == some Rows.groundSleepsRow.make) = true := by kernel_rfl
theorem j13 : (Tryz.prog.stops == []) = true := by kernel_rfl
theorem j14 : (Tryz.prog.stopKnobs == []) = true := by kernel_rfl
theorem closed : joinedFacts Tryz.prog 6 Tryz.f6 Rows.groundSleepsSpec Rows.groundSleepsRow = true := by
  unfold joinedFacts
  rw [j1, j2, j3, j4, j5, j6, j7, j8, j9, j10, j11, j12, j13, j14]
  kernel_rfl
theorem over : Rows.groundSleepsRow.holds Tryz.pinned (OpenSpec.ofChange Rows.groundSleepsSpec) :=
  OpenClaim.holds_of_wide 6 Tryz.f6 rfl rfl rfl rfl rfl rfl rfl ⟨rfl, rfl, rfl, rfl, rfl⟩ rfl rfl rfl rfl rfl (by kernel_rfl) Tryz.func6 closed
    (of_decide_eq_true (by kernel_rfl)) (by unfold Func.isWrapper; first | (rw [if_pos (by decide +kernel)]; kernel_rfl) | (rw [if_neg (by decide +kernel)]; exact ⟨rfl, rfl⟩))
    (fun os started H enc _ => lifted os started H enc)
theorem proved : Rows.GroundSleepsSaid := over
end Go.Proofs.YtldofbkjjmnooaaGreat.groundSleeps
