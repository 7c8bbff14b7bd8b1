/- The statement of GroundBegins: called with any draft, any map and any bool the law returns true, and its arguments read as before. No condition. -/
import Derived.Test.YtmknnjjmmfbppaaGreatRows
import Derived.WalkKit
import Derived.ProofKit
import Derived.OpenShut
import Derived.ShutString
import Derived.ChangeOld
import Derived.Below
import Derived.Test.YtmknnjjmmfbppaaGreatMgBegLaw
import Derived.Test.YtmknnjjmmfbppaaGreatMgBegBX
namespace Go.Proofs.YtmknnjjmmfbppaaGreat.groundBegins
open Go.ChangeShapes Go.WideShapes Go.ChangeAt Go.RowKit
set_option linter.unusedVariables false
set_option maxRecDepth 100000
theorem own : ownKnob Tryz.prog.godebug = none := by kernel_rfl
theorem laidOut : laidOutB Tryz.prog = true := by kernel_rfl
theorem map_cells : Tryz.prog.cellsOf 28 = 3 := by kernel_rfl
theorem int_cells : Tryz.prog.cellsOf 3 = 1 := by kernel_rfl
theorem open_map {H : Type} {enc : TypeId × Value → H} {W : World} {base b0 : Nat} {spare : Nat → Bool} {held : Bool} {v : Value} {d : DataW H} {p : List MemPlace}
    (hv : Value.okWide Tryz.prog W .any b0 28 v) (h : DataW.Trod enc Tryz.prog W base spare held 28 v d p) : ∃ T O K : Int, v = .agg #[.int .i64 T, .int .i64 O, .int .i64 K] := by
  obtain ⟨cs, rfl, hsz⟩ := okWide_struct Tryz.underlying28 hv
  obtain ⟨l⟩ := cs
  match l, hsz.trans map_cells with
  | [c0, c1, c2], _ =>
    obtain ⟨fuel, hf⟩ := h
    obtain ⟨xs, n, _, _, _, hlen, hg⟩ := DataW.trod_struct Tryz.underlying28 hf
    match xs, hlen with
    | [y0, y1, y2], _ =>
      have key := fun (i : Nat) (f : Field) h1 (h2 : f.type = 3) (h3 : f.offset = i) =>
        (show DataW.trod enc Tryz.prog W base spare held n 3 (List.take 1 (List.drop i [c0, c1, c2])) = ([y0, y1, y2] : List (DataW H × List MemPlace))[i]? from by
          have := hg i f h1
          rw [h2, h3, int_cells] at this
          exact this)
      have g0 := key 0 _ rfl rfl rfl
      have g1 := key 1 _ rfl rfl rfl
      have g2 := key 2 _ rfl rfl rfl
      have g0 : DataW.trod enc Tryz.prog W base spare held n 3 [c0] = some y0 := g0
      have g1 : DataW.trod enc Tryz.prog W base spare held n 3 [c1] = some y1 := g1
      have g2 : DataW.trod enc Tryz.prog W base spare held n 3 [c2] = some y2 := g2
      obtain ⟨t, e0, _, _⟩ := DataW.trod_int Tryz.underlying3 g0
      obtain ⟨o, e1, _, _⟩ := DataW.trod_int Tryz.underlying3 g1
      obtain ⟨c, e2, _, _⟩ := DataW.trod_int Tryz.underlying3 g2
      cases e0; cases e1; cases e2
      exact ⟨t, o, c, rfl⟩
set_option maxRecDepth 100000 in
theorem lifted (os : Os) (started : os.Started) (H : Type) (enc : TypeId × Value → H) :
    ReturnsInHanded {} Tryz.checked os 3 .any (Rows.groundBeginsSpec.pre6 enc Tryz.prog Tryz.f3 Rows.groundBeginsRow.domain false) (Rows.groundBeginsSpec.post enc Tryz.prog Tryz.f3 false true false false) := by
  refine returnsInHanded_of_change (C := Tryz.checked) own started (by kernel_rfl) Tryz.func3
    (ChangeSpec.witness6 (enc := enc) (C := Tryz.checked) false ⟨#[], #[.agg #[.int .u8 0, .int .u8 0, .int .u8 0, .slice none 0 0, .slice none 0 0], .agg #[.int .i64 0, .int .i64 0, .int .i64 0], .bool false], []⟩ 8 (by kernel_rfl) (by kernel_rfl) (by kernel_rfl) (by kernel_rfl)) ?_
  intro W base args ds gs before hval0 hW hcnd _
  have hval : ∀ (j : Nat) t v, Tryz.f3.params[j]? = some t → args[j]? = some v → Value.okWide Tryz.prog W .any base t v := hval0
  have hW' := hW
  obtain ⟨p, q, hA0, hV, rfl, hfz, hnd⟩ := hW
  have hA : DataW.TrodAll enc Tryz.prog W 0 (fun _ => true) true Tryz.f3.params.toList args.toList ds p := hA0
  rw [Tryz.params3] at hA hval
  obtain ⟨v0, vs0, d0, ds0, p0, q0, hargs, rfl, rfl, h0, r0⟩ := trodAll_cons hA
  obtain ⟨v1, vs1, d1, ds1, p1, q1, rfl, rfl, rfl, h1, r1⟩ := trodAll_cons r0
  obtain ⟨v2, vs2, d2, ds2, p2, q2, rfl, rfl, rfl, h2, r2⟩ := trodAll_cons r1
  obtain ⟨rfl, rfl, rfl⟩ := trodAll_nil r2
  obtain rfl : args = #[v0, v1, v2] := by cases args; simp_all
  obtain ⟨rfl, rfl⟩ := trodVars_none hV
  have k0 := h0
  have lt0 : ∀ x ∈ p0, x.block < W.heap.size := by obtain ⟨m, hm⟩ := k0; exact DataW.trod_lt m _ _ _ hm
  obtain ⟨n0, n1, n2, ha, hn, hc, fa, fn, fc, L, F, rfl, ⟨b0, b1, b2⟩, ⟨l1, l2, l3, l4⟩, ⟨f1, f2, f3, f4⟩⟩ := open_draft (hval 0 26 v0 rfl rfl) h0
  have k1 := h1
  have lt1 : ∀ x ∈ p1, x.block < W.heap.size := by obtain ⟨m, hm⟩ := k1; exact DataW.trod_lt m _ _ _ hm
  obtain ⟨rt, ro, rn, rfl⟩ := open_map (hval 1 28 v1 rfl rfl) h1
  obtain ⟨b9, rfl, rfl, rfl⟩ := open_bool Tryz.underlying4 (hval 2 4 v2 rfl rfl) h2
  clear hA0 hval0
  refine (begins_law n0 n1 n2 b0 b1 b2 ha hn hc fa fn fc L F rt ro rn b9 W l2 l1 f2 f1 f3 l3 l4 f4).mono fun e W' ⟨he, bel⟩ => ?_
  subst he
  exact ⟨_, rfl, _, _, _, [], _, [], hW', trodAll_mk1 (shut_bool Tryz.underlying4 _), (trodAll_cons_mk (Below.trod laidOut (by kernel_rfl) (of_decide_eq_true (by kernel_rfl)) k0 bel lt0) (trodAll_cons_mk (Below.trod laidOut (by kernel_rfl) (of_decide_eq_true (by kernel_rfl)) k1 bel lt1) (trodAll_cons_mk (shut_bool Tryz.underlying4 _) trodAll_mk0))), rfl, bel.frame _, fun h => by cases h⟩
theorem j1 : (Rows.groundBeginsRow.wf (OpenSpec.ofChange Rows.groundBeginsSpec)) = true := by kernel_rfl
theorem j2 : (laidOutB Tryz.prog) = true := by kernel_rfl
theorem j3 : (mapsRowed Tryz.prog) = true := by kernel_rfl
theorem j4 : (Rows.groundBeginsRow.inPlace == Tryz.prog.inPlace 3) = true := by kernel_rfl
theorem j5 : (Rows.groundBeginsRow.unfollowed == Tryz.prog.unfollowed 3) = true := by kernel_rfl
theorem j6 : (Rows.groundBeginsRow.recurses == Tryz.prog.recurses 3) = true := by kernel_rfl
theorem j7 : (Rows.groundBeginsRow.named == Tryz.prog.varsNamed 3) = true := by kernel_rfl
theorem j8 : (Rows.groundBeginsRow.plainKeys == Tryz.prog.plainKeys) = true := by kernel_rfl
theorem j9 : (Tryz.prog.stopsHeard) = true := by kernel_rfl
theorem j10 : (Tryz.prog.mayEnter) = true := by kernel_rfl
theorem j11 : (Rows.groundBeginsRow.lifted == Tryz.prog.liftsFinal) = true := by kernel_rfl
theorem j12 : (Tryz.prog.make == some Rows.groundBeginsRow.make) = true := by kernel_rfl
theorem j13 : (Tryz.prog.stops == []) = true := by kernel_rfl
theorem j14 : (Tryz.prog.stopKnobs == []) = true := by kernel_rfl
theorem closed : joinedFacts Tryz.prog 3 Tryz.f3 Rows.groundBeginsSpec Rows.groundBeginsRow = true := by
  unfold joinedFacts
  rw [j1, j2, j3, j4, j5, j6, j7, j8, j9, j10, j11, j12, j13, j14]
  kernel_rfl
theorem over : Rows.groundBeginsRow.holds Tryz.pinned (OpenSpec.ofChange Rows.groundBeginsSpec) :=
  OpenClaim.holds_of_wide 3 Tryz.f3 rfl rfl rfl rfl rfl rfl rfl ⟨rfl, rfl, rfl, rfl, rfl⟩ rfl rfl rfl rfl rfl (by kernel_rfl) Tryz.func3 closed
    (of_decide_eq_true (by kernel_rfl)) (by unfold Func.isWrapper; first | (rw [if_pos (by decide +kernel)]; kernel_rfl) | (rw [if_neg (by decide +kernel)]; exact ⟨rfl, rfl⟩))
    (fun os started H enc _ => lifted os started H enc)
theorem proved : Rows.GroundBeginsSaid := over
end Go.Proofs.YtmknnjjmmfbppaaGreat.groundBegins
