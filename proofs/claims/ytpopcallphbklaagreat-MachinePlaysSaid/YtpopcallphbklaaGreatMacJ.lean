/- Package machine: Over, Able. -/
import Derived.Test.YtpopcallphbklaaGreatMacI
namespace Go.Proofs.YtpopcallphbklaaGreat
open Go.ChangeShapes Go.WideShapes Go.ChangeAt Go.RowKit Go.Shelf
set_option linter.unusedVariables false
set_option maxRecDepth 100000
set_option linter.unusedSimpArgs false
attribute [local go_sem] Oper.semAt_some
theorem those_in (n : Nat) (m : Option Addr) (fI : Nat) (w : World) :
    CallsIn Fence.wide n Tryz.prog 42 #[.pointer m, isV fI] w fun e w' => e = .returned (.func (.func 75) #[] #[.pointer (some ⟨w.heap.size, 0, none⟩), .pointer (some ⟨w.heap.size + 1, 0, none⟩)]) ∧ w' = (w.alloc (.cells #[.pointer m] 27)).alloc (.cells #[isV fI] 94) := by
  have hro : Fence.wide.round = none := rfl
  refine callsIn_of_wp Tryz.func42 rfl trivial ?_ hro
  simp only [Tryz.ntmps42, List.size_toArray, List.length_cons, List.length_nil, Nat.reduceAdd, Nat.reduceSub, Array.replicate_succ, Array.replicate_zero, List.push_toArray, List.append_toArray, List.nil_append, List.cons_append]
  gi_wp2
  go_ret
  exact ⟨rfl, by simp⟩
theorem over1_any (C P X : Nat) (O : Nat → Prop) (x : Thr) (w : World) (h : ThrAt w C P X O x.1 x.2) (hok : ThrOk x) : Calls Tryz.prog 43 #[pV X] w fun e w' => e = .returned (.bool (!x.1.isEmpty)) ∧ Keep (fun _ => False) w w' := by
  obtain ⟨c, x0, HD⟩ := thr_done h hok
  clear h hok
  go_enter Tryz.func43, Tryz.ntmps43
  go_wp2_with (go_at_call 44; refine HD.mono ?_; rintro e w3 ⟨rfl, rfl⟩)
  go_ret
  exact ⟨rfl, Keep.refl _ _⟩
theorem able1_any (C P R X : Nat) (cs : List Nat) (ps : List Bool) (O : Nat → Prop) (x : Thr) (w : World) (h : ThrAt w C P X O x.1 x.2) (hP : parkedT x = true → PermitsAt w P R cs ps) (hok : ∀ t ∈ x.1, ParkOk ps t.1) : Calls Tryz.prog 45 #[pV X] w fun e w' => e = .returned (.bool (canT ps x 0)) ∧ Keep (fun _ => False) w w' := by
  obtain ⟨c, x0, HD⟩ := thr_can 0 h hP hok
  clear h hok hP
  go_enter Tryz.func45, Tryz.ntmps45
  go_wp2_with (go_at_call 40; refine HD.mono ?_; rintro e w3 ⟨rfl, hk⟩)
  go_ret
  exact ⟨rfl, hk⟩
theorem call_over1 : ∀ (W : World) (args : Array Value), (callFunc 43 args).run Tryz.prog W = .ok (.enter 43 args) W := by
  intro W args
  go_simp
theorem call_able1 : ∀ (W : World) (args : Array Value), (callFunc 45 args).run Tryz.prog W = .ok (.enter 45 args) W := by
  intro W args
  go_simp
theorem those1_stops (n : Nat) (hn : 1 ≤ n) (Bm Bi n₀ C P M fI : Nat) (U : Nat → Prop) (L : List Th) (p : Nat → Bool) (w : World)
    (hcall : ∀ (W : World) (args : Array Value), (callFunc fI args).run Tryz.prog W = .ok (.enter fI args) W)
    (hIs : ∀ (i : Nat) k W', L[i]? = some k → Below n₀ w W' → Calls Tryz.prog fI #[pV k.X] W' fun e w' => e = .returned (.bool (p i)) ∧ Keep (fun _ => False) W' w')
    (hn0 : n₀ ≤ w.heap.size) (hM : MachAt w C P M U L) (hU : ∀ b, U b → b < n₀) (hBm : Blk w Bm 27 #[pV M]) (hBi : Blk w Bi 94 #[isV fI]) :
    SeqStopsK Fence.wide n Tryz.prog 75 #[.pointer (some ⟨Bm, 0, none⟩), .pointer (some ⟨Bi, 0, none⟩)] (fun x : Nat => #[.int .i64 (x : Nat)]) (Kd n₀ Bm Bi) (fun ys => ys = sift L.length p) (fun pre => pre <+: sift L.length p) (sift L.length p).length w := fun l J Jx W hW hJ _ hY h0 =>
  those1_in n hn l Bm Bi n₀ C P M fI U L p w J Jx (fun pre W W' h hb => hJ pre W W' none h (grown_of_below8 hb) (fun r e => by cases e)) hY hcall hIs W (hW.mono hn0) (Nat.le_trans hn0 hW.size) hM hU (hBm.below hW hBm.lt) (hBi.below hW hBi.lt) h0
/-- are all done? -/
def overL (L : List Th) : Bool := (thrs L).all fun x => x.1.isEmpty
theorem over_sift (L : List Th) : (sift L.length (fun i => !(thrAt (thrs L) i).1.isEmpty) = [] ↔ overL L = true) := by
  unfold overL sift
  rw [List.filter_eq_nil_iff, List.all_eq_true]
  constructor
  · intro h x hx
    obtain ⟨i, hi⟩ := List.mem_iff_getElem?.1 hx
    have hl : i < L.length := by have := (List.getElem?_eq_some_iff.1 hi).1; simpa using this
    have := h i (List.mem_range.2 hl)
    rw [thrAt_yes hi] at this
    simpa using this
  · intro h i hi
    have hl := List.mem_range.1 hi
    have hx : (thrs L)[i]? = some (L[i]'hl).x := by rw [List.getElem?_map, List.getElem?_eq_getElem hl]; rfl
    rw [thrAt_yes hx]
    have := h _ (List.mem_of_getElem? hx)
    simp [this]
theorem is_of {w W' : World} {C P M n₀ : Nat} {U : Nat → Prop} {L : List Th} (h : MachAt w C P M U L) (hn : n₀ ≤ w.heap.size) (hU : ∀ b, U b → b < n₀) (hb : Below n₀ w W') : MachAt W' C P M U L := h.keep (keep_above hb) (fun b hb => by have := hU b hb; omega)
set_option maxHeartbeats 4000000 in
theorem over_in (n : Nat) (hn : 3 ≤ n) (C P M : Nat) (U : Nat → Prop) (L : List Th) (w : World) (h : MachAt w C P M U L) :
    CallsIn Fence.wide n Tryz.prog 13 #[pV M] w fun e w' => e = .returned (.bool (overL L)) ∧ Below w.heap.size w w' := by
  have h1 : 1 ≤ n := by omega
  have hro : Fence.wide.round = none := rfl
  refine callsIn_of_wp_marks Tryz.func13 rfl trivial ?_ hro
  simp only [Tryz.ntmps13, List.size_toArray, List.length_cons, List.length_nil, Nat.reduceAdd, Nat.reduceSub, Array.replicate_succ, Array.replicate_zero, List.push_toArray, List.append_toArray, List.nil_append, List.cons_append]
  gi_wp2_with (refine ⟨trivial, ?_⟩; gi_at_call 42; refine (those_in (n - 1) _ _ _).mono ?_; rintro e w' ⟨rfl, rfl⟩)
  obtain ⟨W0, hW0⟩ : ∃ W0, ((w.alloc (.cells #[.bool false] 4)).alloc (.cells #[pV M] 27)).alloc (.cells #[isV 43] 94) = W0 := ⟨_, rfl⟩
  have hB0 : Below w.heap.size w W0 := by rw [← hW0]; go_grown
  have hsz : W0.heap.size = w.heap.size + 3 := by rw [← hW0]; simp
  have bA : Boxed W0 w.heap.size 4 (.bool false) := by rw [← hW0]; exact ((Blk.new w _ _).alloc _).alloc _
  have bM : Blk W0 (w.heap.size + 1) 27 #[pV M] := by rw [← hW0]; exact (blk_two w _ _ _).alloc _
  have bI : Blk W0 (w.heap.size + 1 + 1) 94 #[isV 43] := by
    rw [← hW0]
    have := Blk.new ((w.alloc (.cells #[.bool false] 4)).alloc (.cells #[pV M] 27)) 94 #[isV 43]
    simpa using this
  rw [hW0]
  clear hW0
  have hM0 := h.still (Keep.ofBelow hB0)
  have hp := over_sift L
  have HSt := those1_stops (n - 1) (by omega) (w.heap.size + 1) (w.heap.size + 1 + 1) w.heap.size C P M 43 U L (fun i => !(thrAt (thrs L) i).1.isEmpty) W0 call_over1 (fun i k W' hi hb => by
      have hM' := is_of hM0 (by omega) (fun b hb => h.lt b hb) hb
      have hk := hM'.thr k (List.mem_of_getElem? hi)
      have e : thrAt (thrs L) (i : Nat) = k.x := thrAt_yes (by rw [List.getElem?_map, hi]; rfl)
      simp only [e]
      exact over1_any C P k.X k.O k.x W' hk.1 hk.2.1) (by omega) hM0 (fun b hb => h.lt b hb) bM bI
  refine wpIn_rangeFunc_ownH hro h1 (gf := 75) (lb := #[.pointer (some ⟨w.heap.size + 1, 0, none⟩), .pointer (some ⟨w.heap.size + 1 + 1, 0, none⟩)]) rfl trivial (enters_of Tryz.func75 (by kernel_rfl) rfl)
    HSt kd_t (kd_b (by omega) (by omega) (by omega)) (Below.refl _ _) (fun _ => rfl)
    (fun (pre : List Nat) W => (pre = [] ∧ Boxed W w.heap.size 4 (.bool false)) ∧ Below w.heap.size w W)
    (fun c pre W => ((c = .ret ∧ pre ≠ []) ∧ Boxed W w.heap.size 4 (.bool false)) ∧ Below w.heap.size w W)
    (OwnFrom.and (OwnFrom.and (ownFrom_pure _ _) (Own.from (boxed_own _ _ (fun _ => .bool false)) _)) (ownFrom_below (by omega) (by omega)))
    (fun c => OwnFrom.and (OwnFrom.and (ownFrom_pure _ _) (Own.from (boxed_own _ _ (fun _ => .bool false)) _)) (ownFrom_below (by omega) (by omega)))
    ⟨⟨rfl, bA⟩, hB0⟩
    (fun x a' W => a' = { tmps := #[pV M, undef, .pointer (some ⟨w.heap.size, 0, none⟩), pV M, .func (.func 75) #[] #[.pointer (some ⟨w.heap.size + 1, 0, none⟩), .pointer (some ⟨w.heap.size + 1 + 1, 0, none⟩)], .int .i64 (x : Nat)], defers := [] })
    (fun x a' _ X Y row hs hg hr => hs)
    ?assign ?body ?done ?stop
  case assign =>
    rintro l pre x W K hI hK
    gi_wp2
    exact hK _ _ (KeepsFrom.refl _ _) ⟨Below.refl _ _, rfl, rfl⟩ hI (by simp)
  case body =>
    rintro l pre x a' W hl ⟨r, hr⟩ ⟨⟨rfl, bF1⟩, hB1⟩ rfl hlt
    have cF := bF1.cell
    have zF := bF1.frozen
    gi_wp2
    have hset := (show Blk W w.heap.size 4 #[.bool false] from bF1).set 0 (.bool false)
    exact ⟨(KeepsOthers.setCell _ _ _).from _, ⟨⟨rfl, by simp⟩, hset⟩, hB1.setCell (p := ⟨w.heap.size, 0, none⟩) (Nat.le_refl _) _⟩
  case done =>
    rintro D ys W hD rfl ⟨⟨hys, bF1⟩, hB1⟩ hK
    have cF := bF1.cell
    have zF := bF1.frozen
    have hov := hp.1 hys
    have hK2 : (W.setCell ⟨w.heap.size, 0, none⟩ (.bool true)).heap[D]? = some (.deferred (some [])) := (Below.heap_setCell W ⟨w.heap.size, 0, none⟩ _ D (by show D ≠ w.heap.size; omega)).trans hK
    have hset := (show Blk W w.heap.size 4 #[.bool false] from bF1).set 0 (.bool true)
    have hB2 : Below w.heap.size w (W.setCell ⟨w.heap.size, 0, none⟩ (.bool true)) := hB1.setCell (p := ⟨w.heap.size, 0, none⟩) (Nat.le_refl _) _
    gi_wp2
    refine ⟨by simp, .inl ⟨_, _, rfl, run_takeDeferred hK2, ?_⟩⟩
    have hD2 : Blk ((W.setCell ⟨w.heap.size, 0, none⟩ (.bool true)).putObj D (.deferred none)) w.heap.size 4 #[.bool true] := (World.putObj_heap_other (by omega)).trans hset
    have hc := hD2.cell 0 (.bool true) rfl
    refine ⟨.bool true, by simp [results, Tryz.results13, go_sem, hc], by rw [hov], hB2.trans (belowK_b (w := w) (by omega) _ D _ _ (by omega) hK2 rfl rfl)⟩
  case stop =>
    rintro D c pre W hD hpre ⟨⟨⟨rfl, hne⟩, bF1⟩, hB1⟩ hK
    have hov : overL L = false := by
      cases ho : overL L with
      | false => rfl
      | true =>
        have := hp.2 ho
        rw [this] at hpre
        exact absurd (List.prefix_nil.1 hpre) hne
    have hD2 : Blk (W.putObj D (.deferred none)) w.heap.size 4 #[.bool false] := (World.putObj_heap_other (by omega)).trans bF1
    have hc := hD2.cell 0 (.bool false) rfl
    gi_wp2
    refine ⟨by simp, .inl ⟨_, _, rfl, run_takeDeferred hK, ?_⟩⟩
    refine ⟨.bool false, by simp [results, Tryz.results13, go_sem, hc], by rw [hov], hB1.trans (belowK_b (w := w) (by omega) W D _ _ (by omega) hK rfl rfl)⟩
theorem over_any (C P M : Nat) (U : Nat → Prop) (L : List Th) (w : World) (h : MachAt w C P M U L) : Calls Tryz.prog 13 #[pV M] w fun e w' => e = .returned (.bool (overL L)) ∧ Below w.heap.size w w' :=
  callsIn_wide.1 (over_in 3 (Nat.le_refl _) C P M U L w h)
/-- who may take a step -/
def ableL (ps : List Bool) (L : List Th) : List Nat := sift L.length (fun i => canT ps (thrAt (thrs L) i) 0)
def AblePost (n₀ : Nat) (xs : List Nat) (w w' : World) : Prop :=
  Below n₀ w w' ∧ ∃ u, w'.ownsRow n₀ 3 1 u xs.length (xs.map fun x => Value.int .i64 (x : Nat))
set_option maxHeartbeats 4000000 in
theorem able_in (n : Nat) (hn : 3 ≤ n) (C P R M : Nat) (cs : List Nat) (ps : List Bool) (U : Nat → Prop) (L : List Th) (w : World) (h : MachAt w C P M U L) (hP : (∃ k ∈ L, parkedT k.x = true) → PermitsAt w P R cs ps) (hok : ∀ k ∈ L, ∀ t ∈ k.x.1, ParkOk ps t.1) :
    CallsIn Fence.wide n Tryz.prog 15 #[pV M] w fun e w' => ∃ u, e = .returned u ∧ w'.ownsRow w.heap.size 3 1 u (ableL ps L).length ((ableL ps L).map fun x => Value.int .i64 (x : Nat)) ∧ Below w.heap.size w w' := by
  have h1 : 1 ≤ n := by omega
  have hro : Fence.wide.round = none := rfl
  obtain ⟨i0, hi, hz0, hz1, hz2⟩ := info_parts mint_info
  have hLf := h.few
  refine callsIn_of_wp_marks Tryz.func15 rfl trivial ?_ hro
  simp only [Tryz.ntmps15, List.size_toArray, List.length_cons, List.length_nil, Nat.reduceAdd, Nat.reduceSub, Array.replicate_succ, Array.replicate_zero, List.push_toArray, List.append_toArray, List.nil_append, List.cons_append]
  gi_wp2_with (refine ⟨trivial, ?_⟩; gi_at_call 42; refine (those_in (n - 1) _ _ _).mono ?_; rintro e w' ⟨rfl, rfl⟩)
  obtain ⟨W0, hW0⟩ : ∃ W0, ((w.alloc (.cells #[.slice none 0 0] 48)).alloc (.cells #[pV M] 27)).alloc (.cells #[isV 45] 94) = W0 := ⟨_, rfl⟩
  have hB0 : Below w.heap.size w W0 := by rw [← hW0]; go_grown
  have hsz : W0.heap.size = w.heap.size + 3 := by rw [← hW0]; simp
  have bA : Boxed W0 w.heap.size 48 (.slice none 0 0) := by rw [← hW0]; exact ((Blk.new w _ _).alloc _).alloc _
  have bM : Blk W0 (w.heap.size + 1) 27 #[pV M] := by rw [← hW0]; exact (blk_two w _ _ _).alloc _
  have bI : Blk W0 (w.heap.size + 1 + 1) 94 #[isV 45] := by
    rw [← hW0]
    have := Blk.new ((w.alloc (.cells #[.slice none 0 0] 48)).alloc (.cells #[pV M] 27)) 94 #[isV 45]
    simpa using this
  rw [hW0]
  clear hW0
  have hM0 := h.still (Keep.ofBelow hB0)
  have hle : (ableL ps L).length ≤ L.length := by
    have := List.length_filter_le (fun i : Nat => canT ps (thrAt (thrs L) i) 0) (List.range L.length)
    simpa [ableL, sift] using this
  have HSt := those1_stops (n - 1) (by omega) (w.heap.size + 1) (w.heap.size + 1 + 1) w.heap.size C P M 45 U L (fun i => canT ps (thrAt (thrs L) i) 0) W0 call_able1 (fun i k W' hi hb => by
      have hM' := is_of hM0 (by omega) (fun b hb => h.lt b hb) hb
      have hkm := List.mem_of_getElem? hi
      have hk := hM'.thr k hkm
      have e : thrAt (thrs L) (i : Nat) = k.x := thrAt_yes (by rw [List.getElem?_map, hi]; rfl)
      simp only [e]
      exact able1_any C P R k.X cs ps k.O k.x W' hk.1 (fun hp => ((hP ⟨k, hkm, hp⟩).keep (Keep.ofBelow (Q := fun _ => False) hB0) (fun h => h) (fun h => h) (fun _ _ h => h)).keep (keep_above hb) (by have := (hP ⟨k, hkm, hp⟩).own.lt; omega) (by have := (hP ⟨k, hkm, hp⟩).row.lt; omega) (fun c hc => by
        have hp1 := hP ⟨k, hkm, hp⟩
        obtain ⟨j, hj⟩ := List.mem_iff_getElem?.1 hc
        have hlt := (List.getElem?_eq_some_iff.1 hj).1
        obtain ⟨s, r, hx⟩ := hp1.chan j c (ps[j]'(by rw [← hp1.len]; exact hlt)) hj (by simp)
        have := (Array.getElem?_eq_some_iff.1 hx).1
        omega)) (hok k hkm)) (by omega) hM0 (fun b hb => h.lt b hb) bM bI
  refine wpIn_rangeFunc_ownH hro h1 (gf := 75) (lb := #[.pointer (some ⟨w.heap.size + 1, 0, none⟩), .pointer (some ⟨w.heap.size + 1 + 1, 0, none⟩)]) rfl trivial (enters_of Tryz.func75 (by kernel_rfl) rfl)
    HSt kd_t (kd_b (by omega) (by omega) (by omega)) (Below.refl _ _) (fun _ => rfl)
    (fun (pre : List Nat) W => (∃ u, Boxed W w.heap.size 48 u ∧ W.ownsRow w.heap.size 3 1 u pre.length (pre.map fun x => Value.int .i64 (x : Nat)) ∧ True) ∧ (Boxed W (w.heap.size + 1) 27 (pV M) ∧ Boxed W (w.heap.size + 1 + 1) 94 (isV 45)) ∧ Below w.heap.size w W)
    (fun c pre W => False)
    (OwnFrom.and (Own.from (holdsRow_own w.heap.size w.heap.size 48 3 1 (fun pre : List Nat => pre.length) (fun pre : List Nat => pre.map fun x => Value.int .i64 (x : Nat)) (fun _ _ => True)) _) (OwnFrom.and (OwnFrom.and (Own.from (boxed_own _ _ (fun _ => pV M)) _) (Own.from (boxed_own _ _ (fun _ => isV 45)) _)) (ownFrom_below (by omega) (by omega))))
    (fun c => ownFrom_pure _ _)
    ⟨⟨_, bA, World.ownsRow_nil _ _ _ _, trivial⟩, ⟨bM, bI⟩, hB0⟩
    (fun x a' W => ∃ u0 u1 u2 u3 u4 u5 u6 u7, a' = { tmps := #[pV M, undef, u0, .pointer (some ⟨w.heap.size, 0, none⟩), .int .i64 (x : Nat), u1, u2, u3, u4, u5, u6, u7, undef], defers := [] })
    (fun x a' _ X Y row hs hg hr => hs)
    ?assign ?body ?done ?stop
  case assign =>
    rintro l pre x W K hI hK
    gi_wp2
    exact hK _ _ (KeepsFrom.refl _ _) ⟨Below.refl _ _, rfl, rfl⟩ hI ⟨_, _, _, _, _, _, _, _, rfl⟩
  case body =>
    rintro l pre x a' W hl ⟨r, hr⟩ ⟨⟨u, bF1, hrow, _⟩, ⟨bP, bQ⟩, hB1⟩ ⟨u0, u1, u2, u3, u4, u5, u6, u7, rfl⟩ hlt
    have h1' : 1 ≤ n - 1 - 1 := by omega
    have hs1 := hB1.size
    have cF := bF1.cell
    have hpl : pre.length < 1000 := by
      have : (sift L.length fun i => canT ps (thrAt (thrs L) ↑i) 0) = ableL ps L := rfl
      rw [this] at hlt
      omega
    have HC := Lib.hid (show (pre ++ [x]).map (fun x => Value.int .i64 (x : Nat)) = pre.map (fun x => Value.int .i64 (x : Nat)) ++ [.int .i64 (x : Nat)] by simp)
    gi_wp2_with (gi_at_builtin; refine wpListIn_append_own _ rfl _ _ 48 rfl w.heap.size 3 i0 (.int .i64 0) 1 8 Tryz.underlying48 hi hz0 hz1 hz2 rfl (by decide) _ _ _ rfl (hrow.alloc _) ⟨W.heap.size, 0, none⟩ 1 1 [.int .i64 (x : Nat)] rfl rfl (cell_one_new _ _ _) (by simp [Value.oneCell']) (by unfold maxLen; omega) (by omega) (by simp; omega) ?_; intro v' w2 hown' hgrow _; obtain ⟨g', cap', rfl⟩ := ownsRow_succ hown'; obtain ⟨hv1, hv2, hr2, hk2, hb2⟩ := bF1.appended (by decide) hrow (by omega) (Nat.le_refl _) hown' hgrow; have hc1 := hv1.cell; have hf1 := hv1.frozen)
    have bP2 : Boxed w2 (w.heap.size + 1) 27 (pV M) := (bP.alloc _).kept hgrow (bP.not_row (by decide) hrow)
    have bP3 := bP2.other (B' := w.heap.size) (by omega) (.slice (some ⟨g', 0, none⟩) (pre.length + 1) cap')
    have bQ2 : Boxed w2 (w.heap.size + 1 + 1) 94 (isV 45) := (bQ.alloc _).kept hgrow (bQ.not_row (by decide) hrow)
    have bQ3 := bQ2.other (B' := w.heap.size) (by omega) (.slice (some ⟨g', 0, none⟩) (pre.length + 1) cap')
    exact ⟨hk2.from _, ⟨hb2, bP3.trans bP.symm, bQ3.trans bQ.symm⟩, ⟨⟨_, hv2, by rw [HC.out]; simpa using hr2, trivial⟩, ⟨bP3, bQ3⟩, hB1.trans hb2⟩⟩
  case done =>
    rintro D ys W hD rfl ⟨⟨u, bF1, hrow, _⟩, _, hB1⟩ hK
    have cF := bF1.cell
    obtain ⟨ua, ul, uc, rfl⟩ : ∃ ua ul uc, u = .slice ua ul uc := by
      rcases hrow.2 with ⟨rfl, _⟩ | ⟨g, cap, cur, rfl, _⟩
      · exact ⟨_, _, _, rfl⟩
      · exact ⟨_, _, _, rfl⟩
    gi_wp2
    refine ⟨by simp, .inl ⟨_, _, rfl, run_takeDeferred hK, ?_⟩⟩
    exact ⟨_, results_tmp rfl _ _ _, _, rfl, ownsRow_putObj hrow _ hK rfl, hB1.trans (belowK_b (w := w) (by omega) W D _ _ (by omega) hK rfl rfl)⟩
  case stop =>
    rintro D c pre W hD hpre h hK
    exact h.elim
theorem able_any (C P R M : Nat) (cs : List Nat) (ps : List Bool) (U : Nat → Prop) (L : List Th) (w : World) (h : MachAt w C P M U L) (hP : (∃ k ∈ L, parkedT k.x = true) → PermitsAt w P R cs ps) (hok : ∀ k ∈ L, ∀ t ∈ k.x.1, ParkOk ps t.1) :
    Calls Tryz.prog 15 #[pV M] w fun e w' => ∃ u, e = .returned u ∧ RowI w' u ((ableL ps L).map fun x : Nat => (x : Int)) ∧ Below w.heap.size w w' :=
  (callsIn_wide.1 (able_in 3 (Nat.le_refl _) C P R M cs ps U L w h hP hok)).mono (by
    rintro e w' ⟨u, rfl, hr, hb⟩
    refine ⟨u, rfl, RowI.own (n0 := w.heap.size) ?_, hb⟩
    simpa [List.map_map, Function.comp_def] using hr)
end Go.Proofs.YtpopcallphbklaaGreat
