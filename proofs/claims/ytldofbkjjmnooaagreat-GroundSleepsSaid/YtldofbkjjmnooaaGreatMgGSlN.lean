/- The contract of cells.All: the values of all cells, in new memory. -/
import Derived.Test.YtldofbkjjmnooaaGreatMgGSlC
import Derived.RangeFuncNested
import Derived.RangeFuncBound
import Derived.RangeFuncCalls
import Derived.RangeFuncLeaves
import Derived.Shelf.Abstract
import Derived.Shelf.RegionOpen
import Derived.OwnWalkIn
import Derived.TacticsInMore
import Derived.LoopNIn
import Derived.LoopIn
import Derived.Maps.AppendAt
import Derived.Test.YtldofbkjjmnooaaGreatMgGSlL
import Derived.Test.YtldofbkjjmnooaaGreatProg
import Derived.Test.YtldofbkjjmnooaaGreatMgGSlF
import Derived.WalkKit
import Derived.StillTailTactics
import Derived.Deep.CutBlock
import Derived.Deep.RegionHeld3
import Derived.BigGuardPart
import Derived.WalkSpells
import Derived.OwnWalk
import Derived.Lib.Hide
import Derived.Test.YtldofbkjjmnooaaGreatMgGSlH
namespace Go.Proofs.YtldofbkjjmnooaaGreat
open Go.ChangeShapes Go.WideShapes Go.ChangeAt Go.RowKit Go.Shelf
set_option linter.unusedVariables false
set_option maxRecDepth 100000
set_option linter.unusedSimpArgs false
attribute [local go_sem] Oper.semAt_some
/-- what a round keeps: all below n₀, and one box -/
def Kc (n₀ Bn : Nat) (W W' : World) : Prop := Below n₀ W W' ∧ W'.heap[Bn]? = W.heap[Bn]?
theorem kc_t {n₀ Bn : Nat} {A B C : World} (h : Kc n₀ Bn A B) (k : Kc n₀ Bn B C) : Kc n₀ Bn A C := ⟨h.1.trans k.1, k.2.trans h.2⟩
theorem kc_b {n₀ Bn : Nat} {w : World} (hn : n₀ ≤ w.heap.size) (hb : Bn < w.heap.size) (W : World) (l : Nat) (o o' : Obj) (hl : w.heap.size ≤ l) (h : W.heap[l]? = some o) (h1 : o.isCells = false) (h2 : o.isWalk = false) : Kc n₀ Bn W (W.putObj l o') :=
  ⟨belowK_b hn W l o o' hl h h1 h2, World.putObj_heap_other (by omega)⟩
theorem grown_of_below {W W' : World} (h : Below W.heap.size W W') : W.grownBy W' none := ⟨h.os, h.tape, h.output, h.size, fun k hk _ => h.block k hk⟩
theorem take_snoc_w {xs : List Int} {k : Nat} {x : Int} (h : xs[k]? = some x) : xs.take (k + 1) = xs.take k ++ [x] := by
  rw [List.take_add_one, h]; rfl
theorem take_prefix_w (xs : List Int) (k : Nat) : xs.take k <+: xs := List.take_prefix k xs
set_option maxRecDepth 100000 in
set_option maxHeartbeats 2000000 in
theorem valuesC_in (n : Nat) (hn : 1 ≤ n) (l Bn n₀ C S : Nat) (xs : List Int) (k0 : Int) (J Jx : List Int → World → Prop)
    (hJ : ∀ pre W W', J pre W → Below W.heap.size W W' → J pre W')
    (hY : ∀ pre x W, J pre W → pre.length < xs.length → YieldAt Fence.wide (n - 1) Tryz.prog l #[.int .u64 x] W fun e W' =>
      (e = .returned (.bool true) ∧ J (pre ++ [x]) W' ∧ Kc n₀ Bn W W') ∨ (e = .returned (.bool false) ∧ Jx (pre ++ [x]) W'))
    (W : World) (hB : Blk W Bn 26 #[cellsV C]) (hC : CellsAt W C S xs k0) (hC1 : C < n₀) (hS1 : S < n₀) (h0 : J [] W) :
    CallsIn Fence.wide n Tryz.prog 175 #[.func (.yield l) #[] #[], .pointer (some ⟨Bn, 0, none⟩)] W fun e W' => (∃ v, e = .returned v) ∧
      ((∃ ys, ys = xs ∧ J ys W') ∨ (∃ pre, pre <+: xs ∧ Jx pre W')) := by
  have hro : Fence.wide.round = none := rfl
  have hm := hC.few
  have c0 := hB.cell 0 _ rfl
  have HLen := Lib.hid (len_any C S xs k0 W hC)
  generalize hxn : xs.length = N at *
  have HX := Lib.hid hxn
  clear hxn
  refine callsIn_of_wp Tryz.func175 rfl trivial ?_ hro
  simp only [Tryz.ntmps175, List.size_toArray, List.length_cons, List.length_nil, Nat.reduceAdd, Nat.reduceSub, Array.replicate_succ, Array.replicate_zero, List.push_toArray, List.append_toArray, List.nil_append, List.cons_append]
  gi_wp2_with (refine ⟨trivial, ?_⟩; gi_at_call 101; refine (callsIn_wide.2 HLen.out).mono ?_; rintro e w1 ⟨rfl, hb⟩)
  have B1 := hB.below hb hB.lt
  have C1 := hC.keep (Keep.ofBelow (Q := fun _ => False) hb) (fun h => h) (fun h => h)
  have J1 := hJ [] W w1 h0 hb
  clear c0
  gi_loopw [6] (fun i wr => ∃ k : Nat, k ≤ N ∧ i = .int .i64 k ∧ J (xs.take k) wr ∧ Blk wr Bn 26 #[cellsV C] ∧ CellsAt wr C S xs k0)
    (fun i wr => N - (intOf i).toNat)
  case atStart => exact ⟨0, Nat.zero_le _, rfl, J1, B1, C1⟩
  case round =>
    obtain ⟨k, hk, rfl, hJ2, hB2, hC2⟩ := hrel
    by_cases hlt : k < N
    · obtain ⟨x, hx⟩ : ∃ x, xs[k]? = some x := ⟨_, List.getElem?_eq_getElem (by rw [HX.out]; exact hlt)⟩
      have hlen : (xs.take k).length < N := by rw [List.length_take, HX.out]; omega
      obtain ⟨fn, tmps, assign, body, hy, hR⟩ := hY (xs.take k) x wr hJ2 hlen
      have HT := Lib.hid (take_snoc_w hx)
      have HP := Lib.hid (pLoad_any S xs k x wr hC2.row hx (by rw [HX.out]; omega))
      rw [HX.out] at HP
      have q0 := hB2.cell 0 _ rfl
      have q1 := hC2.own.cell 0 _ rfl
      rw [HX.out] at q1
      clear hx
      have hm1 : 0 ≤ (k : Int) := by omega
      have HM := Lib.hid (show (k : Int) + 1 ≤ 16777216 by omega)
      clear hm
      have hmeth : ∀ W, (method 481 135 (rowV S N) "Load").run Tryz.prog W = .ok (401, rowV S N) W := fun _ => by kernel_rfl
      gi_wp2_with (refine ⟨trivial, ?_⟩; gi_at_call 401; refine (callsIn_wide.2 HP.out).mono ?_; rintro e w3 ⟨rfl, rfl⟩)
      refine hR.mono ?_
      rintro e W3 (⟨rfl, hJ3, hk3⟩ | ⟨rfl, hJx3⟩)
      · have B3 : Blk W3 Bn 26 #[cellsV C] := hk3.2.trans hB2
        have C3 : CellsAt W3 C S xs k0 := ⟨hC2.own.below hk3.1 hC1, hC2.row.below hk3.1 hS1, hC2.ne, hC2.few⟩
        rw [← HT.out] at hJ3
        have hkm := HM.out
        have hk1 : (k : Int) + 1 ≤ 9223372036854775807 := by omega
        clear hkm q0 q1 hmeth
        gi_wp2
        go_roundw
        case rel => exact ⟨k + 1, by omega, by go_num, hJ3, B3, C3⟩
        case measure => simp [intOf]; omega
      · rw [← HT.out] at hJx3
        clear q0 q1 hmeth
        gi_wp2
        refine bodyPost_ret (results_none rfl _ _ _) rfl ?_
        exact ⟨⟨_, rfl⟩, .inr ⟨_, take_prefix_w xs (k + 1), hJx3⟩⟩
    · have hke : k = N := by omega
      have HE := Lib.hid hke
      clear hke hm
      gi_wp2
      go_end0
      refine ⟨⟨_, rfl⟩, .inl ⟨_, rfl, ?_⟩⟩
      rw [HE.out, ← HX.out, List.take_length] at hJ2
      exact hJ2
theorem values_in (n : Nat) (C : Nat) (w : World) :
    CallsIn Fence.wide n Tryz.prog 98 #[cellsV C] w fun e w' => e = .returned (.func (.func 175) #[] #[.pointer (some ⟨w.heap.size, 0, none⟩)]) ∧ w' = w.alloc (.cells #[cellsV C] 26) := by
  have hro : Fence.wide.round = none := rfl
  refine callsIn_of_wp Tryz.func98 rfl trivial ?_ hro
  simp only [Tryz.ntmps98, List.size_toArray, List.length_cons, List.length_nil, Nat.reduceAdd, Nat.reduceSub, Array.replicate_succ, Array.replicate_zero, List.push_toArray, List.append_toArray, List.nil_append, List.cons_append]
  gi_wp2
  go_ret
  exact ⟨rfl, by simp⟩
theorem valuesC_stops (n : Nat) (hn : 1 ≤ n) (Bn n₀ C S : Nat) (xs : List Int) (k0 : Int) (w : World) (hB : Blk w Bn 26 #[cellsV C]) (hC : CellsAt w C S xs k0) (hC1 : C < n₀) (hS1 : S < n₀) :
    SeqStopsK Fence.wide n Tryz.prog 175 #[.pointer (some ⟨Bn, 0, none⟩)] (fun x : Int => #[.int .u64 x]) (Kc n₀ Bn) (fun ys => ys = xs) (fun pre => pre <+: xs) xs.length w := fun l J Jx W hW hJ _ hY h0 =>
  valuesC_in n hn l Bn n₀ C S xs k0 J Jx (fun pre W W' h hb => hJ pre W W' none h (grown_of_below hb) (fun r e => by cases e)) hY W (hB.below hW hB.lt)
    (hC.keep (Keep.ofBelow (Q := fun _ => False) hW) (fun h => h) (fun h => h)) hC1 hS1 h0
theorem u64_size1 : (Tryz.prog.info? 47).map (fun i => (i.zero, i.size, i.bytes)) = some (some (.int .u64 0), 1, 8) := u64_info
/-- behind the reading: the variable holds a slice of the words, in new memory -/
def AllPost (n₀ a : Nat) (xs : List Int) (w w' : World) : Prop :=
  Below n₀ w w' ∧ ∃ u, Boxed w' a 38 u ∧ w'.ownsRow n₀ 47 1 u xs.length (xs.map (.int .u64))
set_option maxRecDepth 100000 in
set_option maxHeartbeats 4000000 in
theorem allC_in (n : Nat) (hn : 3 ≤ n) (b a n₀ C S : Nat) (xs : List Int) (k0 : Int) (w : World) (hB : Blk w b 26 #[cellsV C]) (hA : Boxed w a 38 (.slice none 0 0)) (hn₀ : n₀ ≤ a) (hC : CellsAt w C S xs k0) (hC1 : C < n₀) (hS1 : S < n₀) :
    CallsIn Fence.wide n Tryz.prog 97 #[.pointer (some ⟨b, 0, none⟩), .pointer (some ⟨a, 0, none⟩)] w fun e w' => e = .returned unitV ∧ AllPost n₀ a xs w w' := by
  have h1 : 1 ≤ n := by omega
  have hro : Fence.wide.round = none := rfl
  have halt := hA.lt
  have hfew := hC.few
  obtain ⟨i0, hi, hz0, hz1, hz2⟩ := info_parts u64_info
  have c0 := hB.cell 0 _ rfl
  refine callsIn_of_wp_marks Tryz.func97 rfl trivial ?_ hro
  simp only [Tryz.ntmps97, List.size_toArray, List.length_cons, List.length_nil, Nat.reduceAdd, Nat.reduceSub, Array.replicate_succ, Array.replicate_zero, List.push_toArray, List.append_toArray, List.nil_append, List.cons_append]
  gi_wp2_with (refine ⟨trivial, ?_⟩; gi_at_call 98; refine (values_in (n - 1) C _).mono ?_; rintro e w' ⟨rfl, rfl⟩)
  have bn : Blk (w.alloc (.cells #[cellsV C] 26)) w.heap.size 26 #[cellsV C] := Blk.new w _ _
  have hB0 : Below w.heap.size w (w.alloc (.cells #[cellsV C] 26)) := (Below.refl _ w).alloc (Nat.le_refl _) _
  have hsz : (w.alloc (.cells #[cellsV C] 26)).heap.size = w.heap.size + 1 := by simp
  have bA := hA.alloc (.cells #[cellsV C] 26)
  obtain ⟨W0, hW0⟩ : ∃ W0, w.alloc (.cells #[cellsV C] 26) = W0 := ⟨_, rfl⟩
  rw [hW0] at bn hB0 hsz bA ⊢
  clear hW0
  have hCW := hC.keep (Keep.ofBelow (Q := fun _ => False) hB0) (fun h => h) (fun h => h)
  refine wpIn_rangeFunc_ownH hro h1 (gf := 175) (lb := #[.pointer (some ⟨w.heap.size, 0, none⟩)]) rfl trivial (enters_of Tryz.func175 (by kernel_rfl) rfl)
    (valuesC_stops (n - 1) (by omega) w.heap.size n₀ C S xs k0 W0 bn hCW hC1 hS1) kc_t (kc_b (by omega) (by omega)) (Below.refl _ _) (fun _ => rfl)
    (fun (pre : List Int) W => (∃ u, Boxed W a 38 u ∧ W.ownsRow n₀ 47 1 u pre.length (pre.map (.int .u64)) ∧ True) ∧ (Boxed W w.heap.size 26 (cellsV C) ∧ Below n₀ w W))
    (fun c pre W => False)
    (OwnFrom.and (Own.from (holdsRow_own n₀ a 38 47 1 (fun pre : List Int => pre.length) (fun pre : List Int => pre.map (.int .u64)) (fun _ _ => True)) _) (OwnFrom.and (Own.from (boxed_own _ _ (fun _ => cellsV C)) _) (ownFrom_below (by omega) (by omega))))
    (fun c => ownFrom_pure _ _)
    ⟨⟨_, bA, World.ownsRow_nil _ _ _ _, trivial⟩, bn, hB0.mono (by omega)⟩
    (fun x a' W => a' = { tmps := #[.pointer (some ⟨b, 0, none⟩), .pointer (some ⟨a, 0, none⟩), .int .u64 x, cellsV C, .func (.func 175) #[] #[.pointer (some ⟨w.heap.size, 0, none⟩)], .int .u64 x, undef, undef, undef, undef], defers := [] })
    (fun x a' _ X Y row hs hg hr => hs)
    ?assign ?body ?done ?stop
  case assign =>
    rintro l pre x W K hI hK
    gi_wp2
    exact hK _ _ (KeepsFrom.refl _ _) ⟨Below.refl _ _, rfl⟩ hI rfl
  case body =>
    rintro l pre x a' W hl ⟨r, hr⟩ ⟨⟨u, bF1, hrow, _⟩, bP, hB1⟩ rfl hlt
    have h1' : 1 ≤ n - 1 - 1 := by omega
    have hs1 := hB1.size
    have cF := bF1.cell
    have HC := Lib.hid (show (pre ++ [x]).map (Value.int .u64) = pre.map (Value.int .u64) ++ [.int .u64 x] by simp)
    gi_wp2_with (gi_at_builtin; refine wpListIn_append_own _ rfl _ _ 38 rfl n₀ 47 i0 (.int .u64 0) 1 8 Tryz.underlying38 hi hz0 hz1 hz2 rfl (by decide) _ _ _ rfl (hrow.alloc _) ⟨W.heap.size, 0, none⟩ 1 1 [.int .u64 x] rfl rfl (cell_one_new _ _ _) (by simp [Value.oneCell']) (by unfold maxLen; omega) (by omega) (by simp; omega) ?_; intro v' w2 hown' hgrow _; obtain ⟨g', cap', rfl⟩ := ownsRow_succ hown'; obtain ⟨hv1, hv2, hr2, hk2, hb2⟩ := bF1.appended (by decide) hrow (by omega) hn₀ hown' hgrow; have hc1 := hv1.cell; have hf1 := hv1.frozen)
    have bP2 : Boxed w2 w.heap.size 26 (cellsV C) := (bP.alloc _).kept hgrow (bP.not_row (by decide) hrow)
    have bP3 := bP2.other (B' := a) (by omega) (.slice (some ⟨g', 0, none⟩) (pre.length + 1) cap')
    exact ⟨hk2.from _, ⟨hb2, bP3.trans bP.symm⟩, ⟨⟨_, hv2, by rw [HC.out]; simpa using hr2, trivial⟩, bP3, hB1.trans hb2⟩⟩
  case done =>
    rintro D ys W hD rfl ⟨⟨u, bF1, hrow, _⟩, bP, hB1⟩ hK
    gi_wp2
    refine ⟨by simp, .inl ⟨_, _, rfl, run_takeDeferred hK, ?_⟩⟩
    refine ⟨_, results_none rfl _ _ _, rfl, hB1.trans (belowK_b (w := w) (by omega) W D _ _ (by omega) hK rfl rfl), u, ?_, ?_⟩
    · exact bF1.kept (grownBy_putObj' _ D (.deferred none)) (fun e => by cases e; omega)
    · exact ownsRow_putObj hrow _ hK rfl
  case stop =>
    rintro D c pre W hD hpre h hK
    exact h.elim
theorem call_allC : ∀ (W : World) (args : Array Value), (callFunc 97 args).run Tryz.prog W = .ok (.enter 97 args) W := by
  intro W args
  go_simp
theorem allC_any (b a n₀ C S : Nat) (xs : List Int) (k0 : Int) (w : World) (hB : Blk w b 26 #[cellsV C]) (hA : Boxed w a 38 (.slice none 0 0)) (hn₀ : n₀ ≤ a) (hC : CellsAt w C S xs k0) (hC1 : C < n₀) (hS1 : S < n₀) :
    Calls Tryz.prog 97 #[.pointer (some ⟨b, 0, none⟩), .pointer (some ⟨a, 0, none⟩)] w fun e w' => e = .returned unitV ∧ AllPost n₀ a xs w w' :=
  callsIn_wide.1 (allC_in 3 (Nat.le_refl _) b a n₀ C S xs k0 w hB hA hn₀ hC hC1 hS1)
/-- the values of all cells -/
def AllIs (w : World) (xs : List Int) (e : Ending) (w' : World) : Prop :=
  ∃ u, e = .returned u ∧ Below w.heap.size w w' ∧ w'.ownsRow w.heap.size 47 1 u xs.length (xs.map (.int .u64))
theorem all_any (C S : Nat) (xs : List Int) (k0 : Int) (w : World) (hC : CellsAt w C S xs k0) :
    Calls Tryz.prog 17 #[cellsV C] w (AllIs w xs) := by
  have hCl := hC.own.lt
  have hSl := hC.row.lt
  have hmf : ∀ (fn : Fn) (first cap : Array Value) (w : World), (Instr.makeFunc fn first cap).run Tryz.prog w = .ok (.func fn first cap) w := fun _ _ _ _ => rfl
  go_enter Tryz.func17, Tryz.ntmps17
  go_upto_region 2 with fail
  generalize hW : (w.alloc _).alloc _ = W
  have bW : Below w.heap.size w W := by rw [← hW]; go_grown
  have cW : Blk W w.heap.size 26 #[cellsV C] := by rw [← hW]; exact (Blk.new w _ _).alloc _
  have aW : Boxed W (w.heap.size + 1) 38 (.slice none 0 0) := by rw [← hW]; exact blk_two w _ _ _
  have CW : CellsAt W C S xs k0 := hC.keep (Keep.ofBelow (Q := fun _ => False) bW) (fun h => h) (fun h => h)
  clear hW
  have HA := Lib.hid (attempt_any 97 _ W _ call_allC (allC_any w.heap.size (w.heap.size + 1) w.heap.size C S xs k0 W cW aW (by omega) CW hCl hSl))
  go_upto_region 3 with (refine HA.out.mono ?_; rintro e w1 ⟨rfl, hb, u, hu, hrow⟩)
  obtain ⟨ua, ul, uc, rfl⟩ : ∃ ua ul uc, u = .slice ua ul uc := by
    rcases hrow.2 with ⟨rfl, _⟩ | ⟨g, cap, cur, rfl, _⟩
    · exact ⟨_, _, _, rfl⟩
    · exact ⟨_, _, _, rfl⟩
  have u0 := hu.cell
  go_wp2_with fail
  go_ret
  exact ⟨_, rfl, bW.trans hb, hrow⟩
/- nil cells -/
set_option maxRecDepth 100000 in
set_option maxHeartbeats 2000000 in
theorem valuesN_in (n : Nat) (hn : 1 ≤ n) (l Bn n₀ : Nat) (J Jx : List Int → World → Prop)
    (hJ : ∀ pre W W', J pre W → Below W.heap.size W W' → J pre W')
    (W : World) (hB : Blk W Bn 26 #[.pointer none]) (h0 : J [] W) :
    CallsIn Fence.wide n Tryz.prog 175 #[.func (.yield l) #[] #[], .pointer (some ⟨Bn, 0, none⟩)] W fun e W' => (∃ v, e = .returned v) ∧
      ((∃ ys, ys = [] ∧ J ys W') ∨ (∃ pre, pre <+: [] ∧ Jx pre W')) := by
  have hro : Fence.wide.round = none := rfl
  have c0 := hB.cell 0 _ rfl
  have HLen := Lib.hid (len_nil W)
  refine callsIn_of_wp Tryz.func175 rfl trivial ?_ hro
  simp only [Tryz.ntmps175, List.size_toArray, List.length_cons, List.length_nil, Nat.reduceAdd, Nat.reduceSub, Array.replicate_succ, Array.replicate_zero, List.push_toArray, List.append_toArray, List.nil_append, List.cons_append]
  gi_wp2_with (refine ⟨trivial, ?_⟩; gi_at_call 101; refine (callsIn_wide.2 HLen.out).mono ?_; rintro e w1 ⟨rfl, hb⟩)
  have J1 := hJ [] W w1 h0 hb
  clear c0
  gi_loopw [6] (fun i wr => i = .int .i64 0 ∧ J [] wr)
    (fun i wr => 0)
  case atStart => exact ⟨rfl, J1⟩
  case round =>
    obtain ⟨rfl, hJ2⟩ := hrel
    gi_wp2
    go_end0
    exact ⟨⟨_, rfl⟩, .inl ⟨[], rfl, hJ2⟩⟩
theorem valuesN_stops (n : Nat) (hn : 1 ≤ n) (Bn n₀ : Nat) (w : World) (hB : Blk w Bn 26 #[.pointer none]) :
    SeqStopsK Fence.wide n Tryz.prog 175 #[.pointer (some ⟨Bn, 0, none⟩)] (fun x : Int => #[.int .u64 x]) (Kc n₀ Bn) (fun ys => ys = []) (fun pre => pre <+: []) 0 w := fun l J Jx W hW hJ _ hY h0 =>
  valuesN_in n hn l Bn n₀ J Jx (fun pre W W' h hb => hJ pre W W' none h (grown_of_below hb) (fun r e => by cases e)) W (hB.below hW hB.lt) h0
theorem valuesN_call (n : Nat) (w : World) :
    CallsIn Fence.wide n Tryz.prog 98 #[.pointer none] w fun e w' => e = .returned (.func (.func 175) #[] #[.pointer (some ⟨w.heap.size, 0, none⟩)]) ∧ w' = w.alloc (.cells #[.pointer none] 26) := by
  have hro : Fence.wide.round = none := rfl
  refine callsIn_of_wp Tryz.func98 rfl trivial ?_ hro
  simp only [Tryz.ntmps98, List.size_toArray, List.length_cons, List.length_nil, Nat.reduceAdd, Nat.reduceSub, Array.replicate_succ, Array.replicate_zero, List.push_toArray, List.append_toArray, List.nil_append, List.cons_append]
  gi_wp2
  go_ret
  exact ⟨rfl, by simp⟩
set_option maxRecDepth 100000 in
set_option maxHeartbeats 4000000 in
theorem allN_in (n : Nat) (hn : 3 ≤ n) (b a n₀ : Nat) (w : World) (hB : Blk w b 26 #[.pointer none]) (hA : Boxed w a 38 (.slice none 0 0)) (hn₀ : n₀ ≤ a) :
    CallsIn Fence.wide n Tryz.prog 97 #[.pointer (some ⟨b, 0, none⟩), .pointer (some ⟨a, 0, none⟩)] w fun e w' => e = .returned unitV ∧ Below n₀ w w' ∧ Boxed w' a 38 (.slice none 0 0) := by
  have h1 : 1 ≤ n := by omega
  have hro : Fence.wide.round = none := rfl
  have halt := hA.lt
  have c0 := hB.cell 0 _ rfl
  refine callsIn_of_wp_marks Tryz.func97 rfl trivial ?_ hro
  simp only [Tryz.ntmps97, List.size_toArray, List.length_cons, List.length_nil, Nat.reduceAdd, Nat.reduceSub, Array.replicate_succ, Array.replicate_zero, List.push_toArray, List.append_toArray, List.nil_append, List.cons_append]
  gi_wp2_with (refine ⟨trivial, ?_⟩; gi_at_call 98; refine (valuesN_call (n - 1) _).mono ?_; rintro e w' ⟨rfl, rfl⟩)
  have bn : Blk (w.alloc (.cells #[.pointer none] 26)) w.heap.size 26 #[.pointer none] := Blk.new w _ _
  have hB0 : Below w.heap.size w (w.alloc (.cells #[.pointer none] 26)) := (Below.refl _ w).alloc (Nat.le_refl _) _
  have hsz : (w.alloc (.cells #[.pointer none] 26)).heap.size = w.heap.size + 1 := by simp
  have bA := hA.alloc (.cells #[.pointer none] 26)
  obtain ⟨W0, hW0⟩ : ∃ W0, w.alloc (.cells #[.pointer none] 26) = W0 := ⟨_, rfl⟩
  rw [hW0] at bn hB0 hsz bA ⊢
  clear hW0
  refine wpIn_rangeFunc_ownH hro h1 (gf := 175) (lb := #[.pointer (some ⟨w.heap.size, 0, none⟩)]) rfl trivial (enters_of Tryz.func175 (by kernel_rfl) rfl)
    (valuesN_stops (n - 1) (by omega) w.heap.size n₀ W0 bn) kc_t (kc_b (by omega) (by omega)) (Below.refl _ _) (fun _ => rfl)
    (fun (pre : List Int) W => (pre = [] ∧ Boxed W a 38 (.slice none 0 0)) ∧ Below n₀ w W)
    (fun c pre W => False)
    (OwnFrom.and (OwnFrom.and (ownFrom_pure _ _) (Own.from (boxed_own _ _ (fun _ => .slice none 0 0)) _)) (ownFrom_below (by omega) (by omega)))
    (fun c => ownFrom_pure _ _)
    ⟨⟨rfl, bA⟩, hB0.mono (by omega)⟩
    (fun x a' W => True)
    (fun x a' _ X Y row hs hg hr => hs)
    ?assign ?body ?done ?stop
  case assign =>
    rintro l pre x W K hI hK
    gi_wp2
    exact hK _ _ (KeepsFrom.refl _ _) ⟨Below.refl _ _, rfl⟩ hI trivial
  case body =>
    rintro l pre x a' W hl ⟨r, hr⟩ _ _ hlt
    exact absurd hlt (Nat.not_lt_zero _)
  case done =>
    rintro D ys W hD rfl ⟨⟨_, bF1⟩, hB1⟩ hK
    gi_wp2
    refine ⟨by simp, .inl ⟨_, _, rfl, run_takeDeferred hK, ?_⟩⟩
    exact ⟨_, results_none rfl _ _ _, rfl, hB1.trans (belowK_b (w := w) (by omega) W D _ _ (by omega) hK rfl rfl), bF1.kept (grownBy_putObj' _ D (.deferred none)) (fun e => by cases e; omega)⟩
  case stop =>
    rintro D c pre W hD hpre h hK
    exact h.elim
theorem all_nil (w : World) : Calls Tryz.prog 17 #[.pointer none] w fun e w' => e = .returned (.slice none 0 0) ∧ Below w.heap.size w w' := by
  have hmf : ∀ (fn : Fn) (first cap : Array Value) (w : World), (Instr.makeFunc fn first cap).run Tryz.prog w = .ok (.func fn first cap) w := fun _ _ _ _ => rfl
  go_enter Tryz.func17, Tryz.ntmps17
  go_upto_region 2 with fail
  generalize hW : (w.alloc _).alloc _ = W
  have bW : Below w.heap.size w W := by rw [← hW]; go_grown
  have cW : Blk W w.heap.size 26 #[.pointer none] := by rw [← hW]; exact (Blk.new w _ _).alloc _
  have aW : Boxed W (w.heap.size + 1) 38 (.slice none 0 0) := by rw [← hW]; exact blk_two w _ _ _
  clear hW
  have HA := Lib.hid (attempt_any 97 _ W _ call_allC (callsIn_wide.1 (allN_in 3 (Nat.le_refl _) w.heap.size (w.heap.size + 1) w.heap.size W cW aW (by omega))))
  go_upto_region 3 with (refine HA.out.mono ?_; rintro e w1 ⟨rfl, hb, hu⟩)
  have u0 := hu.cell
  go_wp2_with fail
  go_ret
  exact ⟨rfl, bW.trans hb⟩
end Go.Proofs.YtldofbkjjmnooaaGreat
/- Laws over tasks of latches: cells, and tasks over them, each of blocks of its own. -/
namespace Go.Proofs.YtldofbkjjmnooaaGreat
open Go.ChangeShapes Go.WideShapes Go.ChangeAt Go.RowKit
set_option linter.unusedVariables false
set_option maxRecDepth 100000
set_option linter.unusedSimpArgs false
/-- the trees of latches, step by step -/
def outT (a : Nat) (t v : Int) : Tre Itm := opT (dropI a t) fun _ => retT v
def lstT (a : Nat) (t : Int) (i : Nat) (v : Int) : Tre Itm := opT (storeI i v) fun _ => outT a t v
def inT (a : Nat) (t : Int) (i : Nat) : Tre Itm := opT (loadI i) fun v => lstT a t i v
def lsT (i : Nat) (v : Int) : Tre Itm := opT (storeI i v) fun _ => retT v
theorem looseT_eq (i : Nat) : looseT i = opT (loadI i) fun v => lsT i v := rfl
theorem out_eq (a : Nat) (t v : Int) : itmT [dropI a t, readyI v] 0 = outT a t v := rfl
theorem take_eq (i : Nat) (t : Int) : itmT [takeI i t] 0 = spinT (takeI i t) := spin_end _
theorem guardT_eq (i : Nat) (t : Int) (B : Tre Itm) : guardT i t B = opT (takeI i t) (fun v => if v = 0 ∨ v = -2147483648 then guardT i t B else bindT (fun v => outT i t v) B) := by
  have e : guardT i t B = bindT (fun v => itmT [dropI i t, readyI v] 0) (bindT (fun _ => B) (spinT (takeI i t))) := by unfold guardT; rw [take_eq]
  conv => lhs; rw [e, spinT_eq, bindT_op, bindT_op]
  congr 1
  funext v
  by_cases h : v = 0 ∨ v = -2147483648
  · rw [if_pos h, if_pos h, e]
  · rw [if_neg h, if_neg h, bindT_ret]
    rfl
theorem bump_in (a : Nat) (t : Int) (i : Nat) : bindT (fun v => outT a t v) (looseT i) = inT a t i := by
  rw [looseT_eq, bindT_op]
  unfold inT
  congr 1
  funext v
  unfold lsT lstT
  rw [bindT_op]
  congr 1
  funext u
  rw [bindT_ret]
theorem bumpT_eq (a : Nat) (t : Int) (i : Nat) : bumpT a t i = opT (takeI a t) (fun v => if v = 0 ∨ v = -2147483648 then bumpT a t i else inT a t i) := by
  show guardT a t (looseT i) = opT (takeI a t) (fun v => if v = 0 ∨ v = -2147483648 then guardT a t (looseT i) else inT a t i)
  conv => lhs; rw [guardT_eq, bump_in]
theorem none_eq (i : Nat) (t : Int) : guardT i t (retT 0) = opT (takeI i t) (fun v => if v = 0 ∨ v = -2147483648 then guardT i t (retT 0) else outT i t 0) := by
  conv => lhs; rw [guardT_eq, bindT_ret]
theorem oper_take {m : List Int} {i : Nat} {t c : Int} (h : m[i]? = some c) (ht : 0 ≤ t ∧ t ≤ 100000) : operS m (takeI i t) = if c = 0 then (m.set i (t + 1), 1, true) else (m, 0, false) := by
  simp [operS, h, markS_eq ht]
theorem oper_drop {m : List Int} {i : Nat} {t c : Int} (h : m[i]? = some c) (ht : 0 ≤ t ∧ t ≤ 100000) : operS m (dropI i t) = if c = t + 1 then (m.set i 0, 1, true) else (m, 0, true) := by
  simp [operS, h, markS_eq ht]
theorem oper_load {m : List Int} {i : Nat} {c : Int} (h : m[i]? = some c) (hc : 0 ≤ c ∧ c ≤ 1000000000000) : operS m (loadI i) = (m, c, true) := by
  have e : wrap64 c = c := IntWalk.wrap64_in _ ⟨by omega, by omega⟩
  simp [operS, h, e]
theorem oper_store {m : List Int} {i : Nat} {c v : Int} (h : m[i]? = some c) (hv : 0 ≤ v ∧ v ≤ 1000000000000) : operS m (storeI i v) = (m.set i (v + 1), 1, true) := by
  have e : IntKind.u64.wrap (IntKind.u64.wrap v + 1) = v + 1 := by
    rw [IntKind.wrap_u64, IntKind.wrap_u64]
    omega
  simp [operS, h, e]
theorem count_in {m : List Int} {x : Itm} {c : Int} (h : m[x.at']? = some c) : countS m x = 1 := by
  have := (List.getElem?_eq_some_iff.1 h).1
  simp [countS, this]
/-- one of several turned -/
def upd {α : Type} (τ : Nat → Option α) (k : Nat) (x : Option α) : Nat → Option α := fun j => if j = k then x else τ j
theorem upd_same {α : Type} (τ : Nat → Option α) (k : Nat) (x : Option α) : upd τ k x k = x := by simp [upd]
theorem upd_ne {α : Type} (τ : Nat → Option α) (k j : Nat) (x : Option α) (h : j ≠ k) : upd τ k x j = τ j := by simp [upd, h]
theorem upd_id {α : Type} (τ : Nat → Option α) (k : Nat) : upd τ k (τ k) = τ := by
  funext j
  unfold upd
  split
  · next h => rw [h]
  · rfl
/-- cells that the call made, and tasks over them; X: blocks of the law's own -/
structure Wld (n0 : Nat) (X : Nat → Prop) (w : World) (C S : Nat) (m : List Int) (n : Int) (τ : Nat → Option (Nat × Tre Itm)) : Prop where
  cells : CellsAt w C S m n
  lo : n0 ≤ C ∧ n0 ≤ S ∧ n0 ≤ w.heap.size
  x : ∀ b, X b → b ≠ C ∧ b ≠ S ∧ b < w.heap.size
  tasks : ∃ lab : Nat → Nat, ∀ k t T, τ k = some (t, T) → ∃ Q, TkT (cellOps C 0) w t Q T ∧ ∀ b, Q b → n0 ≤ b ∧ ¬ X b ∧ b ≠ C ∧ b ≠ S ∧ lab b = k
theorem Wld.keep {n0 : Nat} {X F : Nat → Prop} {w w1 : World} {C S : Nat} {m : List Int} {n : Int} {τ : Nat → Option (Nat × Tre Itm)} (h : Wld n0 X w C S m n τ) (hk : Keep F w w1) (hF : ∀ b, F b → X b) : Wld n0 X w1 C S m n τ := by
  have hs := hk.size
  obtain ⟨h1, h2, h3, lab, h4⟩ := h
  refine ⟨h1.keep hk (fun hf => (h3 _ (hF _ hf)).1 rfl) (fun hf => (h3 _ (hF _ hf)).2.1 rfl), ⟨h2.1, h2.2.1, by omega⟩, fun b hb => ⟨(h3 b hb).1, (h3 b hb).2.1, by have := (h3 b hb).2.2; omega⟩, lab, fun k t T e => ?_⟩
  obtain ⟨Q, g1, g2⟩ := h4 k t T e
  exact ⟨Q, g1.keep hk (fun b hb hf => (g2 b hb).2.1 (hF b hf)), g2⟩
theorem Wld.below {n0 : Nat} {X : Nat → Prop} {w w1 : World} {C S : Nat} {m : List Int} {n : Int} {τ : Nat → Option (Nat × Tre Itm)} (h : Wld n0 X w C S m n τ) (hb : Below w.heap.size w w1) : Wld n0 X w1 C S m n τ := h.keep (Keep.ofBelow (Q := fun _ => False) hb) (fun _ h => h.elim)
/-- more blocks of the law's own -/
theorem Wld.grow {n0 : Nat} {X : Nat → Prop} {w w1 : World} {C S : Nat} {m : List Int} {n : Int} {τ : Nat → Option (Nat × Tre Itm)} (h : Wld n0 X w C S m n τ) (hb : Below w.heap.size w w1) (X' : Nat → Prop) (hX : ∀ b, X' b → X b ∨ (w.heap.size ≤ b ∧ b < w1.heap.size)) : Wld n0 X' w1 C S m n τ := by
  have hC := h.cells.own.lt
  have hS := h.cells.row.lt
  have h1 := h.below hb
  obtain ⟨a1, a2, a3, lab, a4⟩ := h
  obtain ⟨h1, h2, h3, _⟩ := h1
  refine ⟨h1, h2, fun b hb' => ?_, lab, fun k t T e => ?_⟩
  · rcases hX b hb' with hb' | hb'
    · exact h3 b hb'
    · omega
  · obtain ⟨Q, g1, g2⟩ := a4 k t T e
    refine ⟨Q, g1.still (Keep.ofBelow hb), fun b hb' => ⟨(g2 b hb').1, fun hx => ?_, (g2 b hb').2.2⟩⟩
    rcases hX b hx with hx | hx
    · exact (g2 b hb').2.1 hx
    · have := g1.lt b hb'; omega
theorem Wld.fewer {n0 : Nat} {X : Nat → Prop} {w : World} {C S : Nat} {m : List Int} {n : Int} {τ τ' : Nat → Option (Nat × Tre Itm)} (h : Wld n0 X w C S m n τ) (hs : ∀ k x, τ' k = some x → τ k = some x) : Wld n0 X w C S m n τ' := by
  obtain ⟨h1, h2, h3, lab, h4⟩ := h
  exact ⟨h1, h2, h3, lab, fun k t T e => h4 k t T (hs k _ e)⟩
/-- a task that is new -/
theorem Wld.new {n0 : Nat} {X : Nat → Prop} {w w' : World} {C S t : Nat} {m : List Int} {n : Int} {τ : Nat → Option (Nat × Tre Itm)} {T : Tre Itm} (h : Wld n0 X w C S m n τ) (k : Nat) (hM : MadeT (cellOps C 0) w (fun b => w.heap.size ≤ b) T t w') : Wld n0 X w' C S m n (upd τ k (some (t, T))) := by
  have hC := h.cells.own.lt
  have hS := h.cells.row.lt
  have hb := hM.2.2
  have h1 := h.below hb
  obtain ⟨a1, a2, a3, lab, a4⟩ := h
  obtain ⟨h1, h2, h3, _⟩ := h1
  refine ⟨h1, h2, h3, fun b => if b < w.heap.size then lab b else k, fun j t' T' e => ?_⟩
  unfold upd at e
  split at e
  · next hj =>
    simp only [Option.some.injEq, Prod.mk.injEq] at e
    obtain ⟨rfl, rfl⟩ := e
    refine ⟨_, TkT.new hM.2.1 hM.1, fun b hb' => ?_⟩
    have hge : w.heap.size ≤ b := hb'.1
    exact ⟨by omega, fun hx => by have := (a3 b hx).2.2; omega, by omega, by omega, (if_neg (by omega)).trans hj.symm⟩
  · obtain ⟨Q, g1, g2⟩ := a4 j t' T' e
    refine ⟨Q, g1.still (Keep.ofBelow hb), fun b hb' => ?_⟩
    have := g1.lt b hb'
    obtain ⟨e1, e2, e3, e4, e5⟩ := g2 b hb'
    exact ⟨e1, e2, e3, e4, (if_pos this).trans e5⟩
/-- a step of one of them -/
theorem wstep {n0 : Nat} {X : Nat → Prop} {w : World} {C S t : Nat} {m : List Int} {n : Int} {τ : Nat → Option (Nat × Tre Itm)} {x : Itm} {κ : Int → Tre Itm} (k : Nat) (h : Wld n0 X w C S m n τ) (hτ : τ k = some (t, opT x κ)) (hk : x.kind < 5) (hn : 0 ≤ n ∧ n ≤ 2000000) :
    Calls Tryz.prog 37 #[pV t, .int .i64 0] w fun e w' => e = .returned (.bool true) ∧ Wld n0 X w' C S (operS m x).1 (n + countS m x) (upd τ k (some (t, κ (operS m x).2.1))) ∧ Keep (fun b => n0 ≤ b ∧ ¬ X b) w w' := by
  obtain ⟨a1, a2, a3, lab, a4⟩ := h
  obtain ⟨Q, g1, g2⟩ := a4 k t _ hτ
  have hC := a1.own.lt
  have hS := a1.row.lt
  refine (tstepT_op C 0 S t Q x κ m n w g1 a1 hk (fun b hb => ⟨(g2 b hb).2.2.1, (g2 b hb).2.2.2.1⟩) hn).mono ?_
  rintro e w' ⟨rfl, ⟨Q', q1, q2⟩, q3, q4⟩
  have hs := q4.size
  have ht := g2 t g1.own
  have hfX : ∀ b, (b = t ∨ ofCells C S b) → n0 ≤ b ∧ ¬ X b := fun b hb => by
    rcases hb with rfl | rfl | rfl
    · exact ⟨ht.1, ht.2.1⟩
    · exact ⟨a2.1, fun hx => (a3 _ hx).1 rfl⟩
    · exact ⟨a2.2.1, fun hx => (a3 _ hx).2.1 rfl⟩
  refine ⟨rfl, ⟨q3, ⟨a2.1, a2.2.1, by omega⟩, fun b hb => ⟨(a3 b hb).1, (a3 b hb).2.1, by have := (a3 b hb).2.2; omega⟩, fun b => if b < w.heap.size then lab b else k, fun j t' T' e => ?_⟩, q4.mono (fun b _ hb => hfX b hb)⟩
  unfold upd at e
  split at e
  · next hj =>
    simp only [Option.some.injEq, Prod.mk.injEq] at e
    obtain ⟨rfl, rfl⟩ := e
    refine ⟨Q', q1, fun b hb => ?_⟩
    by_cases hlt : b < w.heap.size
    · rcases q2 b hb with hb | hb
      · obtain ⟨e1, e2, e3, e4, e5⟩ := g2 b hb
        exact ⟨e1, e2, e3, e4, (if_pos hlt).trans (e5.trans hj.symm)⟩
      · omega
    · exact ⟨by omega, fun hx => by have := (a3 b hx).2.2; omega, by omega, by omega, (if_neg hlt).trans hj.symm⟩
  · next hj =>
    obtain ⟨Q2, r1, r2⟩ := a4 j t' T' e
    refine ⟨Q2, r1.keep q4 (fun b hb hf => ?_), fun b hb => ?_⟩
    · obtain ⟨e1, e2, e3, e4, e5⟩ := r2 b hb
      rcases hf with rfl | rfl | rfl
      · exact hj (e5.symm.trans ht.2.2.2.2)
      · exact e3 rfl
      · exact e4 rfl
    · have := r1.lt b hb
      obtain ⟨e1, e2, e3, e4, e5⟩ := r2 b hb
      exact ⟨e1, e2, e3, e4, (if_pos this).trans e5⟩
theorem wdone_ret {n0 : Nat} {X : Nat → Prop} {w : World} {C S t : Nat} {m : List Int} {n v : Int} {τ : Nat → Option (Nat × Tre Itm)} (k : Nat) (h : Wld n0 X w C S m n τ) (hτ : τ k = some (t, retT v)) : Calls Tryz.prog 38 #[pV t] w fun e w' => e = .returned (.bool true) ∧ w = w' := by
  obtain ⟨a1, a2, a3, lab, a4⟩ := h
  obtain ⟨Q, g1, g2⟩ := a4 k t _ hτ
  exact tdoneT_ret t Q v w g1
theorem wdone_op {n0 : Nat} {X : Nat → Prop} {w : World} {C S t : Nat} {m : List Int} {n : Int} {τ : Nat → Option (Nat × Tre Itm)} {x : Itm} {κ : Int → Tre Itm} (k : Nat) (h : Wld n0 X w C S m n τ) (hτ : τ k = some (t, opT x κ)) : Calls Tryz.prog 38 #[pV t] w fun e w' => e = .returned (.bool false) ∧ w = w' := by
  obtain ⟨a1, a2, a3, lab, a4⟩ := h
  obtain ⟨Q, g1, g2⟩ := a4 k t _ hτ
  exact tdoneT_op t Q x κ w g1
theorem wvalue_ret {n0 : Nat} {X : Nat → Prop} {w : World} {C S t : Nat} {m : List Int} {n v : Int} {τ : Nat → Option (Nat × Tre Itm)} (k : Nat) (h : Wld n0 X w C S m n τ) (hτ : τ k = some (t, retT v)) : Calls Tryz.prog 27 #[pV t] w fun e w' => e = .returned (.int .i64 v) ∧ w = w' := by
  obtain ⟨a1, a2, a3, lab, a4⟩ := h
  obtain ⟨Q, g1, g2⟩ := a4 k t _ hτ
  exact tvalueT_ret t Q v w g1
theorem wstep_ret {n0 : Nat} {X : Nat → Prop} {w : World} {C S t : Nat} {m : List Int} {n v : Int} {τ : Nat → Option (Nat × Tre Itm)} (k : Nat) (h : Wld n0 X w C S m n τ) (hτ : τ k = some (t, retT v)) : Calls Tryz.prog 37 #[pV t, .int .i64 0] w fun e w' => e = .returned (.bool false) ∧ w = w' := by
  obtain ⟨a1, a2, a3, lab, a4⟩ := h
  obtain ⟨Q, g1, g2⟩ := a4 k t _ hτ
  exact tstepT_ret t Q v 0 w g1
/-- the law's own calls on the cells -/
theorem Wld.cell {n0 : Nat} {X : Nat → Prop} {w w' : World} {C S : Nat} {m m' : List Int} {n n' : Int} {τ : Nat → Option (Nat × Tre Itm)} (h : Wld n0 X w C S m n τ) (hk : Keep (ofCells C S) w w') (hC : CellsAt w' C S m' n') : Wld n0 X w' C S m' n' τ ∧ Keep (fun b => n0 ≤ b ∧ ¬ X b) w w' := by
  obtain ⟨a1, a2, a3, lab, a4⟩ := h
  have hs := hk.size
  refine ⟨⟨hC, ⟨a2.1, a2.2.1, by omega⟩, fun b hb => ⟨(a3 b hb).1, (a3 b hb).2.1, by have := (a3 b hb).2.2; omega⟩, lab, fun j t' T' e => ?_⟩, hk.mono (fun b _ hb => ?_)⟩
  · obtain ⟨Q2, r1, r2⟩ := a4 j t' T' e
    refine ⟨Q2, r1.keep hk (fun b hb hf => ?_), r2⟩
    obtain ⟨e1, e2, e3, e4, e5⟩ := r2 b hb
    rcases hf with rfl | rfl
    · exact e3 rfl
    · exact e4 rfl
  · rcases hb with rfl | rfl
    · exact ⟨a2.1, fun hx => (a3 _ hx).1 rfl⟩
    · exact ⟨a2.2.1, fun hx => (a3 _ hx).2.1 rfl⟩
theorem wload {a : Int} {n0 : Nat} {X : Nat → Prop} {w : World} {C S : Nat} {m : List Int} {n : Int} {τ : Nat → Option (Nat × Tre Itm)} (i : Nat) (ha : a = i) (c : Int) (h : Wld n0 X w C S m n τ) (hi : m[i]? = some c) (hn : 0 ≤ n ∧ n ≤ 2000000) :
    Calls Tryz.prog 86 #[cellsV C, .int .i64 a] w fun e w' => e = .returned (.int .u64 c) ∧ Wld n0 X w' C S m (n + 1) τ ∧ Keep (fun b => n0 ≤ b ∧ ¬ X b) w w' := by
  subst ha
  refine (load_yes C S m n i c w h.cells hi hn.1 (by omega)).mono ?_
  rintro e w' ⟨rfl, h1, h2⟩
  exact ⟨rfl, h.cell h2 h1⟩
theorem wstore {a : Int} {n0 : Nat} {X : Nat → Prop} {w : World} {C S : Nat} {m : List Int} {n : Int} {τ : Nat → Option (Nat × Tre Itm)} (i : Nat) (ha : a = i) (c u : Int) (h : Wld n0 X w C S m n τ) (hi : m[i]? = some c) (hn : 0 ≤ n ∧ n ≤ 2000000) :
    Calls Tryz.prog 59 #[cellsV C, .int .i64 a, .int .u64 u] w fun e w' => e = .returned (.bool true) ∧ Wld n0 X w' C S (m.set i u) (n + 1) τ ∧ Keep (fun b => n0 ≤ b ∧ ¬ X b) w w' := by
  subst ha
  refine (store_yes C S m n i c u w h.cells hi hn.1 (by omega)).mono ?_
  rintro e w' ⟨rfl, h1, h2⟩
  exact ⟨rfl, h.cell h2 h1⟩
theorem wsteps {n0 : Nat} {X : Nat → Prop} {w : World} {C S : Nat} {m : List Int} {n : Int} {τ : Nat → Option (Nat × Tre Itm)} (h : Wld n0 X w C S m n τ) :
    Calls Tryz.prog 18 #[cellsV C] w fun e w' => e = .returned (.int .i64 n) ∧ w = w' := steps_any C S m n w h.cells
theorem wall {n0 : Nat} {X : Nat → Prop} {w : World} {C S : Nat} {m : List Int} {n : Int} {τ : Nat → Option (Nat × Tre Itm)} (h : Wld n0 X w C S m n τ) (hm : m ≠ []) :
    Calls Tryz.prog 17 #[cellsV C] w fun e w' => ∃ g cap, e = .returned (.slice (some ⟨g, 0, none⟩) m.length cap) ∧ (∀ (i : Nat) c, m[i]? = some c → w'.cell? ⟨g, i, none⟩ = some (.int .u64 c)) ∧ w.heap.size ≤ g ∧ Below w.heap.size w w' := by
  refine (all_any C S m n w h.cells).mono ?_
  rintro e w' ⟨u, rfl, hb, hrow⟩
  rcases id hrow.2 with ⟨rfl, h0⟩ | ⟨g, cap, cur, rfl, h1, _⟩
  · exfalso
    have : m.length = 0 := by simpa using h0
    exact hm (List.length_eq_zero_iff.1 this)
  · refine ⟨g, cap, rfl, fun i c hc => ?_, h1, hb⟩
    have := hrow.cells (g := g) rfl i (.int .u64 c) (by rw [List.getElem?_map, hc]; rfl)
    rw [addr_add, Nat.zero_add] at this
    exact this
end Go.Proofs.YtldofbkjjmnooaaGreat
/- The document's queues (doorkeeperref10): what they are in memory; In. -/
namespace Go.Proofs.YtldofbkjjmnooaaGreat
open Go.ChangeShapes Go.WideShapes Go.ChangeAt Go.RowKit
set_option linter.unusedVariables false
set_option maxRecDepth 100000
set_option linter.unusedSimpArgs false
abbrev qV (T : Nat) : Value := .pointer (some ⟨T, 0, none⟩)
theorem qcell_keep {w w1 : World} {F : Nat → Prop} {p : Addr} {v : Value} (h : w.cell? p = some v) (hk : Keep F w w1) (hn : ¬ F p.block) : w1.cell? p = some v := by
  have hb : p.block < w.heap.size := by
    unfold World.cell? at h
    cases hb : w.heap[p.block]? with
    | none => rw [hb] at h; cases h
    | some y => exact (Array.getElem?_eq_some_iff.1 hb).1
  unfold World.cell? at h ⊢
  rw [hk.block p.block hb hn]
  exact h
/-- a row of numbers that is read, of blocks of which N is said -/
def RowN (w : World) (N : Nat → Prop) (v : Value) (l : List Int) : Prop :=
  ∃ a c, v = .slice a l.length c ∧ l.length ≤ c ∧ ∀ (i : Nat) x, l[i]? = some x → ∃ b o, a = some ⟨b, o, none⟩ ∧ N b ∧ b < w.heap.size ∧ w.cell? ⟨b, o + i, none⟩ = some (.int .i64 x)
theorem RowN.keep {w w1 : World} {N F : Nat → Prop} {v : Value} {l : List Int} (h : RowN w N v l) (hk : Keep F w w1) (hF : ∀ b, N b → ¬ F b) : RowN w1 N v l := by
  obtain ⟨a, c, e, hc, h⟩ := h
  refine ⟨a, c, e, hc, fun i x hx => ?_⟩
  obtain ⟨b, o, e, hN, hl, hc⟩ := h i x hx
  exact ⟨b, o, e, hN, Nat.lt_of_lt_of_le hl hk.size, qcell_keep hc hk (hF b hN)⟩
theorem RowN.mono {w : World} {N N' : Nat → Prop} {v : Value} {l : List Int} (h : RowN w N v l) (hN : ∀ b, N b → N' b) : RowN w N' v l := by
  obtain ⟨a, c, e, hc, h⟩ := h
  refine ⟨a, c, e, hc, fun i x hx => ?_⟩
  obtain ⟨b, o, e, h1, hl, hc⟩ := h i x hx
  exact ⟨b, o, e, hN b h1, hl, hc⟩
/-- queues at block Q, their rows in block B, of the blocks of which O is said -/
structure RQ (w : World) (Q B : Nat) (O : Nat → Prop) (L : List (List Int)) : Prop where
  own : ∃ c, Blk w Q 33 #[.slice (some ⟨B, 0, none⟩) L.length c]
  rows : ∃ vs : List Value, Blk w B 37 vs.toArray ∧ vs.length = L.length ∧ ∀ (i : Nat) l, L[i]? = some l → ∃ v, vs[i]? = some v ∧ RowN w (fun b => O b ∧ b ≠ B ∧ b ≠ Q) v l
  few : L.length ≤ 4 ∧ ∀ l ∈ L, l.length ≤ 1000
  mine : O Q ∧ O B
  lt : ∀ b, O b → b < w.heap.size
theorem RQ.keep {w w1 : World} {Q B : Nat} {O F : Nat → Prop} {L : List (List Int)} (h : RQ w Q B O L) (hk : Keep F w w1) (hF : ∀ b, O b → ¬ F b) : RQ w1 Q B O L := by
  obtain ⟨c, h1⟩ := h.own
  obtain ⟨vs, h2, h3, h4⟩ := h.rows
  refine ⟨⟨c, h1.keep hk (hF _ h.mine.1)⟩, ⟨vs, h2.keep hk (hF _ h.mine.2), h3, fun i l hl => ?_⟩, h.few, h.mine, fun b hb => Nat.lt_of_lt_of_le (h.lt b hb) hk.size⟩
  obtain ⟨v, hv, hr⟩ := h4 i l hl
  exact ⟨v, hv, hr.keep hk (fun b hb => hF b hb.1)⟩
/-- what is read of a queue -/
theorem RQ.at {w : World} {Q B : Nat} {O : Nat → Prop} {L : List (List Int)} (h : RQ w Q B O L) {i : Nat} {l : List Int} (hi : L[i]? = some l) : ∃ a c, w.cell? ⟨B, i, none⟩ = some (.slice a l.length c) ∧ l.length ≤ c ∧ ∀ (k : Nat) x, l[k]? = some x → ∃ b o, a = some ⟨b, o, none⟩ ∧ (O b ∧ b ≠ B ∧ b ≠ Q) ∧ w.cell? ⟨b, o + k, none⟩ = some (.int .i64 x) := by
  obtain ⟨vs, h2, h3, h4⟩ := h.rows
  obtain ⟨v, hv, a, c, rfl, hc, hr⟩ := h4 i l hi
  refine ⟨a, c, h2.cell i _ (by simpa using hv), hc, fun k x hx => ?_⟩
  obtain ⟨b, o, e, hN, _, hc⟩ := hr k x hx
  exact ⟨b, o, e, hN, hc⟩
theorem idx_qintss (len c B o i : Nat) (h : i < len) : ∀ W, (Instr.indexAt 31 (.slice (some ⟨B, o, none⟩) len c) (.int .i64 (i : Int))).run Tryz.prog W = .ok (.pointer (some ⟨B, o + i, none⟩)) W := by
  intro W
  go_simp
theorem idx_qints (len c B o i : Nat) (h : i < len) : ∀ W, (Instr.indexAt 37 (.slice (some ⟨B, o, none⟩) len c) (.int .i64 (i : Int))).run Tryz.prog W = .ok (.pointer (some ⟨B, o + i, none⟩)) W := by
  intro W
  go_simp
theorem not_in_next {l : List Int} {k : Nat} {x t : Int} (hx : l[k]? = some x) (h : ∀ y ∈ l.take k, y ≠ t) (hn : x ≠ t) : ∀ y ∈ l.take (k + 1), y ≠ t := by
  intro y hy
  rw [List.take_add_one, hx] at hy
  rcases List.mem_append.1 hy with hy | hy
  · exact h y hy
  · simp at hy; subst hy; exact hn
set_option maxHeartbeats 2000000 in
theorem rqin_any (Q B : Nat) (O : Nat → Prop) (L : List (List Int)) (t : Int) (w : World) (h : RQ w Q B O L) :
    Calls Tryz.prog 19 #[qV Q, .int .i64 t] w fun e w' => ∃ k : Int, e = .returned (.int .i64 k) ∧ (0 ≤ k ↔ ∃ l ∈ L, t ∈ l) ∧ w = w' := by
  obtain ⟨c, h1⟩ := h.own
  have c0 : w.cell? ⟨Q, 0, none⟩ = some (.slice (some ⟨B, 0, none⟩) L.length c) := h1.cell 0 _ rfl
  have H := Lib.hid h
  have hfew := h.few.1
  obtain ⟨ll, hll⟩ : ∃ ll, ll = L.length := ⟨_, rfl⟩
  have HLL := Lib.hid hll
  rw [← hll] at c0 hfew
  clear h h1 hll
  go_enter Tryz.func19, Tryz.ntmps19
  go_upto_region 2 with fail
  go_loopw [5] (fun vi wr => ∃ i : Nat, i ≤ ll ∧ vi = .int .i64 i ∧ Hid (∀ l ∈ L.take i, t ∉ l) ∧ wr = w) (fun vi _ => 5 - (intOf vi).toNat)
  case atStart => exact ⟨0, by omega, rfl, Lib.hid (by simp), rfl⟩
  case round =>
    obtain ⟨i, hi, rfl, hno, rfl⟩ := hrel
    by_cases hil : i < ll
    · obtain ⟨l, hl⟩ : ∃ l, L[i]? = some l := ⟨_, List.getElem?_eq_getElem (by rw [← HLL.out]; exact hil)⟩
      obtain ⟨a, cl, d0, hcl, hrow⟩ := H.out.at hl
      have HROW := Lib.hid hrow
      have hx1 := idx_qintss ll c B 0 i hil
      simp only [Nat.zero_add] at hx1
      have hj1 : (i : Int) < (ll : Int) := by omega
      have hl1 := H.out.few.2 l (List.mem_of_getElem? hl)
      have HL := Lib.hid hl
      obtain ⟨kl, hkl⟩ : ∃ kl, kl = l.length := ⟨_, rfl⟩
      have HKL := Lib.hid hkl
      rw [← hkl] at d0 hl1 hcl
      clear hrow hl hkl
      go_upto_region 5 with fail
      go_loopw [6] (fun vk wr2 => ∃ k : Nat, k ≤ kl ∧ vk = .int .i64 k ∧ Hid (∀ y ∈ l.take k, y ≠ t) ∧ wr2 = wr) (fun vk _ => 1001 - (intOf vk).toNat)
      case atStart => exact ⟨0, by omega, rfl, Lib.hid (by simp), rfl⟩
      case round =>
        obtain ⟨k, hk, rfl, hnk, rfl⟩ := hrel
        by_cases hkl1 : k < kl
        · obtain ⟨x, hx⟩ : ∃ x, l[k]? = some x := ⟨_, List.getElem?_eq_getElem (by rw [← HKL.out]; exact hkl1)⟩
          obtain ⟨b, o, rfl, _, e0⟩ := HROW.out k x hx
          have hx2 := idx_qints kl cl b o k hkl1
          have hj2 : (k : Int) < (kl : Int) := by omega
          have HX := Lib.hid hx
          clear hx
          by_cases hxt : x = t
          · subst hxt
            go_wp2
            go_ret
            exact ⟨_, rfl, ⟨fun _ => ⟨l, List.mem_of_getElem? HL.out, List.mem_of_getElem? HX.out⟩, fun _ => by omega⟩, rfl⟩
          · go_wp2
            go_roundw
            case rel => exact ⟨k + 1, by omega, by go_num, Lib.hid (not_in_next HX.out hnk.out hxt), by trivial⟩
            case measure => simp [intOf]; omega
        · obtain rfl : k = kl := by omega
          have hj2 : ¬ (k : Int) < (k : Int) := by omega
          go_wp2
          go_roundw
          case rel =>
            refine ⟨i + 1, by omega, by go_num, Lib.hid ?_, by trivial⟩
            intro z hz ht
            rw [List.take_add_one, HL.out] at hz
            rcases List.mem_append.1 hz with hz | hz
            · exact hno.out z hz ht
            · simp at hz
              subst hz
              have := hnk.out
              rw [HKL.out, List.take_length] at this
              exact this t ht rfl
          case measure => simp [intOf]; omega
    · obtain rfl : i = ll := by omega
      have hj1 : ¬ (i : Int) < (i : Int) := by omega
      go_wp2
      go_ret
      refine ⟨-1, rfl, ⟨fun h => by omega, fun ⟨l, hl, ht⟩ => ?_⟩, rfl⟩
      have := hno.out
      rw [HLL.out, List.take_length] at this
      exact absurd ht (this l hl)
end Go.Proofs.YtldofbkjjmnooaaGreat
/- Layer 10's laws: ends: a task's steps, alone; ints: rows that read alike. -/
namespace Go.Proofs.YtldofbkjjmnooaaGreat
open Go.ChangeShapes Go.WideShapes Go.ChangeAt Go.RowKit
set_option linter.unusedVariables false
set_option maxRecDepth 100000
set_option linter.unusedSimpArgs false
/-- how a task goes to its end, alone: so many operations, what the cells hold then, its value -/
inductive Goes : List Int → Tre Itm → Nat → List Int → Int → Prop
  | ret (m : List Int) (v : Int) : Goes m (retT v) 0 m v
  | op {m m' : List Int} {x : Itm} {κ : Int → Tre Itm} {k : Nat} {v : Int} (h1 : x.kind < 5) (h2 : countS m x = 1) (h3 : Goes (operS m x).1 (κ (operS m x).2.1) k m' v) : Goes m (opT x κ) (k + 1) m' v
theorem Goes.cases' {m m' : List Int} {T : Tre Itm} {k : Nat} {v : Int} (h : Goes m T k m' v) :
    (k = 0 ∧ T = retT v ∧ m' = m) ∨ ∃ x κ j, k = j + 1 ∧ T = opT x κ ∧ x.kind < 5 ∧ countS m x = 1 ∧ Goes (operS m x).1 (κ (operS m x).2.1) j m' v := by
  cases h with
  | ret m v => exact .inl ⟨rfl, rfl, rfl⟩
  | op h1 h2 h3 => exact .inr ⟨_, _, _, rfl, rfl, h1, h2, h3⟩
set_option maxHeartbeats 1000000 in
theorem qends_any (C P S t : Nat) (Q : Nat → Prop) (T : Tre Itm) (L most : Nat) (m m' : List Int) (v n : Int) (w : World) (hG : Goes m T L m' v) (hL : L ≤ most) (hm : most ≤ 1000)
    (h : TkT (cellOps C P) w t Q T) (hC : CellsAt w C S m n) (hQ : ∀ b, Q b → b ≠ C ∧ b ≠ S) (hn : 0 ≤ n ∧ n ≤ 1000000) {mI : Int} (hI : mI = most) :
    Calls Tryz.prog 26 #[pV t, .int .i64 mI] w fun e w' => e = .returned (.int .i64 L) ∧ (∃ Q', TkT (cellOps C P) w' t Q' (retT v) ∧ ∀ b, Q' b → Q b ∨ w.heap.size ≤ b) ∧ CellsAt w' C S m' (n + L) ∧ Keep (fun b => Q b ∨ ofCells C S b) w w' := by
  subst hI
  have H := Lib.hid h
  have HG := Lib.hid hG
  have HC := Lib.hid hC
  have HQ := Lib.hid hQ
  have HL := Lib.hid hL
  have hCl := hC.own.lt
  have hSl := hC.row.lt
  clear h hG hC hQ hL
  go_enter Tryz.func26, Tryz.ntmps26
  go_wp2_with fail
  go_loopw [5] (fun v5 wr => ∃ (I : Nat) (m1 : List Int) (T1 : Tre Itm) (Q1 : Nat → Prop) (j : Nat), I + j = L ∧ v5 = .int .i64 (I : Int) ∧ Goes m1 T1 j m' v ∧ TkT (cellOps C P) wr t Q1 T1 ∧ (∀ b, Q1 b → Q b ∨ w.heap.size ≤ b) ∧ CellsAt wr C S m1 (n + I) ∧ Keep (fun b => Q b ∨ ofCells C S b) w wr)
    (fun v5 _ => L - (intOf v5).toNat)
  case atStart => exact ⟨0, m, T, Q, L, by omega, rfl, HG.out, H.out, fun _ h => .inl h, by simpa using HC.out, Keep.refl _ _⟩
  case round =>
    obtain ⟨I, m1, T1, Q1, j, hIj, rfl, hG, hT, hq, hC, hk⟩ := hrel
    have hLm := HL.out
    have hsz := hk.size
    have hQ1 : ∀ b, Q1 b → b ≠ C ∧ b ≠ S := fun b hb => by
      rcases hq b hb with h | h
      · exact HQ.out b h
      · omega
    rcases hG.cases' with ⟨rfl, rfl, rfl⟩ | ⟨x, κ, j, rfl, rfl, e1, e2, e3⟩
    · obtain rfl : I = L := by omega
      have hD := Lib.hid (tdoneT_ret t Q1 v wr hT)
      have HX := Lib.hid (And.intro (⟨Q1, hT, hq⟩ : ∃ Q', TkT (cellOps C P) wr t Q' (retT v) ∧ ∀ b, Q' b → Q b ∨ w.heap.size ≤ b) (And.intro hC hk))
      clear hG hT hq hC hk hQ1 H HG HC HQ HL
      go_wp2_with (go_at_call 38; (with_reducible refine hD.out.mono ?_); rintro e w2 ⟨rfl, rfl⟩)
      go_ret
      exact ⟨rfl, HX.out⟩
    · have hD := Lib.hid (tdoneT_op t Q1 x κ wr hT)
      have hS := Lib.hid (tstepT_op C P S t Q1 x κ m1 (n + I) wr hT hC e1 hQ1 ⟨by omega, by omega⟩)
      have hQt := hT.own
      have HX := Lib.hid (And.intro e2 (And.intro e3 (And.intro hq (And.intro hk (And.intro (hq t hQt) (And.intro hsz (HC.out.own.lt)))))))
      have ht : t < w.heap.size ∧ Q t := ⟨H.out.lt t H.out.own, H.out.own⟩
      have h4 : ¬ ((most : Int) ≤ (I : Int)) := by omega
      have h5 : (I : Int) < (most : Int) := by omega
      clear hG hT hq hC hk hQ1 e1 e2 e3
      go_wp2_with (first
        | (go_at_call 38; (with_reducible refine hD.out.mono ?_); rintro e w2 ⟨rfl, rfl⟩)
        | (go_at_call 37; (with_reducible refine hS.out.mono ?_); rintro e w3 ⟨rfl, ⟨Q3, g1, g2⟩, g3, g4⟩))
      obtain ⟨e2, e3, hq, hk, _, _, _⟩ := HX.out
      rw [e2] at g3
      go_roundw
      case rel =>
        refine ⟨I + 1, _, _, Q3, j, by omega, by go_num, e3, g1, fun b hb => ?_, by rw [Int.natCast_add, ← Int.add_assoc]; exact g3, hk.trans (g4.mono fun b _ hb => ?_)⟩
        · rcases g2 b hb with h | h
          · exact hq b h
          · exact .inr (by omega)
        · rcases hb with rfl | hb
          · exact .inl ht.2
          · exact .inr hb
      case measure => simp [intOf]; omega
set_option maxHeartbeats 4000000 in
theorem qints_same (u v : Value) (N N' : Nat → Prop) (l : List Int) (w : World) (hu : RowN w N u l) (hv : RowN w N' v l) (hl : l.length ≤ 100000) :
    Calls Tryz.prog 28 #[u, v] w fun e w' => e = .returned (.bool true) ∧ Below w.heap.size w w' := by
  obtain ⟨a, c, rfl, _, hp⟩ := id hu
  obtain ⟨a', c', rfl, _, hp'⟩ := id hv
  have HP := Lib.hid hp
  have HP' := Lib.hid hp'
  clear hu hv hp hp'
  go_enter Tryz.func28, Tryz.ntmps28
  go_upto_region 4 with fail
  go_loopw [5] (fun vi wr => ∃ I : Nat, I ≤ l.length ∧ vi = .int .i64 (I : Int) ∧ Below w.heap.size w wr)
    (fun vi _ => l.length - (intOf vi).toNat)
  case atStart => exact ⟨0, by omega, rfl, Below.refl _ _⟩
  case round =>
    obtain ⟨I, hI, rfl, hb⟩ := hrel
    by_cases hlt : I < l.length
    · obtain ⟨p, hpi⟩ : ∃ p, l[I]? = some p := ⟨_, List.getElem?_eq_getElem hlt⟩
      obtain ⟨B, o, rfl, _, hB1, c0⟩ := HP.out I p hpi
      obtain ⟨B', o', rfl, _, hB1', d0⟩ := HP'.out I p hpi
      replace c0 := (hb.cell (p := ⟨B, o + I, none⟩) hB1).trans c0
      replace d0 := (hb.cell (p := ⟨B', o' + I, none⟩) hB1').trans d0
      have hix := idx_qints l.length c B o I hlt
      have hix' := idx_qints l.length c' B' o' I hlt
      have hI3 : (I : Int) < (l.length : Int) := by omega
      clear hpi
      go_upto_region 6 with fail
      go_quiet (fail)
      go_wp2
      go_roundw
      case rel => exact ⟨I + 1, by omega, by go_num, bdrewN hb nq⟩
      case measure => simp [intOf]; omega
    · have hIe : I = l.length := by omega
      subst hIe
      go_wp2
      go_ret
      exact ⟨rfl, hb⟩
end Go.Proofs.YtldofbkjjmnooaaGreat
