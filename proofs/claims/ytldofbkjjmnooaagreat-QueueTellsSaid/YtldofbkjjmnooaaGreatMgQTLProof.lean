/- The statement of QueueTells: called with any input the law returns true, and its arguments read as before. No condition. -/
import Derived.Test.YtldofbkjjmnooaaGreatRows
import Derived.WalkKit
import Derived.ProofKit
import Derived.OpenShut
import Derived.ShutString
import Derived.ChangeOld
import Derived.Below
import Derived.Test.YtldofbkjjmnooaaGreatMgQTLL
import Derived.Test.YtldofbkjjmnooaaGreatMgQTLLaw
namespace Go.Proofs.YtldofbkjjmnooaaGreat.queueTells
open Go.ChangeShapes Go.WideShapes Go.ChangeAt Go.RowKit
set_option linter.unusedVariables false
set_option maxRecDepth 100000
theorem own : ownKnob Tryz.prog.godebug = none := by kernel_rfl
theorem laidOut : laidOutB Tryz.prog = true := by kernel_rfl
set_option maxRecDepth 100000 in
theorem lifted (os : Os) (started : os.Started) (H : Type) (enc : TypeId × Value → H) :
    ReturnsInHanded {} Tryz.checked os 3 .any (Rows.queueTellsSpec.pre6 enc Tryz.prog Tryz.f3 Rows.queueTellsRow.domain false) (Rows.queueTellsSpec.post enc Tryz.prog Tryz.f3 false true false false) := by
  refine returnsInHanded_of_change (C := Tryz.checked) own started (by kernel_rfl) Tryz.func3
    (ChangeSpec.witness6 (enc := enc) (C := Tryz.checked) false ⟨#[], #[.slice none 0 0], []⟩ 8 (by kernel_rfl) (by kernel_rfl) (by kernel_rfl) (by kernel_rfl)) ?_
  intro W base args ds gs before hval0 hW hcnd _
  have hval : ∀ (j : Nat) t v, Tryz.f3.params[j]? = some t → args[j]? = some v → Value.okWide Tryz.prog W .any base t v := hval0
  have hW' := hW
  obtain ⟨p, q, hA0, hV, rfl, hfz, hnd⟩ := hW
  have hA : DataW.TrodAll enc Tryz.prog W 0 (fun _ => true) true Tryz.f3.params.toList args.toList ds p := hA0
  rw [Tryz.params3] at hA hval
  obtain ⟨v0, vs0, d0, ds0, p0, q0, hargs, rfl, rfl, h0, r0⟩ := trodAll_cons hA
  obtain ⟨rfl, rfl, rfl⟩ := trodAll_nil r0
  obtain rfl : args = #[v0] := by cases args; simp_all
  obtain ⟨rfl, rfl⟩ := trodVars_none hV
  obtain ⟨a1, len1, cap1, rfl⟩ := okWide_slice Tryz.underlying22 (hval 0 22 v0 rfl rfl)
  have k1 := h0
  have lt1 : ∀ x ∈ p0, x.block < W.heap.size := by obtain ⟨m, hm⟩ := k1; exact DataW.trod_lt m _ _ _ hm
  obtain ⟨hl1, hT1⟩ := open_actsq h0
  clear hA0 hval0
  refine (tells_law a1 len1 cap1 W hT1 hl1).mono fun e W' ⟨he, bel⟩ => ?_
  subst he
  exact ⟨_, rfl, _, _, _, [], _, [], hW', trodAll_mk1 (shut_bool Tryz.underlying4 _), (trodAll_cons_mk (Below.trod laidOut (by kernel_rfl) (of_decide_eq_true (by kernel_rfl)) k1 bel lt1) trodAll_mk0), rfl, bel.frame _, fun h => by cases h⟩
theorem j1 : (Rows.queueTellsRow.wf (OpenSpec.ofChange Rows.queueTellsSpec)) = true := by kernel_rfl
theorem j2 : (laidOutB Tryz.prog) = true := by kernel_rfl
theorem j3 : (mapsRowed Tryz.prog) = true := by kernel_rfl
theorem j4 : (Rows.queueTellsRow.inPlace == Tryz.prog.inPlace 3) = true := by kernel_rfl
theorem j5 : (Rows.queueTellsRow.unfollowed == Tryz.prog.unfollowed 3) = true := by kernel_rfl
theorem j6 : (Rows.queueTellsRow.recurses == Tryz.prog.recurses 3) = true := by kernel_rfl
theorem j7 : (Rows.queueTellsRow.named == Tryz.prog.varsNamed 3) = true := by kernel_rfl
theorem j8 : (Rows.queueTellsRow.plainKeys == Tryz.prog.plainKeys) = true := by kernel_rfl
theorem j9 : (Tryz.prog.stopsHeard) = true := by kernel_rfl
theorem j10 : (Tryz.prog.mayEnter) = true := by kernel_rfl
theorem j11 : (Rows.queueTellsRow.lifted == Tryz.prog.liftsFinal) = true := by kernel_rfl
theorem j12 : (Tryz.prog.make == some Rows.queueTellsRow.make) = true := by kernel_rfl
theorem j13 : (Tryz.prog.stops == []) = true := by kernel_rfl
theorem j14 : (Tryz.prog.stopKnobs == []) = true := by kernel_rfl
theorem closed : joinedFacts Tryz.prog 3 Tryz.f3 Rows.queueTellsSpec Rows.queueTellsRow = true := by
  unfold joinedFacts
  rw [j1, j2, j3, j4, j5, j6, j7, j8, j9, j10, j11, j12, j13, j14]
  kernel_rfl
theorem over : Rows.queueTellsRow.holds Tryz.pinned (OpenSpec.ofChange Rows.queueTellsSpec) :=
  OpenClaim.holds_of_wide 3 Tryz.f3 rfl rfl rfl rfl rfl rfl rfl ⟨rfl, rfl, rfl, rfl, rfl⟩ rfl rfl rfl rfl rfl (by kernel_rfl) Tryz.func3 closed
    (of_decide_eq_true (by kernel_rfl)) (by unfold Func.isWrapper; first | (rw [if_pos (by decide +kernel)]; kernel_rfl) | (rw [if_neg (by decide +kernel)]; exact ⟨rfl, rfl⟩))
    (fun os started H enc _ => lifted os started H enc)
theorem proved : Rows.QueueTellsSaid := over
end Go.Proofs.YtldofbkjjmnooaaGreat.queueTells
