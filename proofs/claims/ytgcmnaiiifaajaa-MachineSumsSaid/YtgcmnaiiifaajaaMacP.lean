/- Package machine: Run; a nil machine's Over, Able. -/
import Derived.Test.YtgcmnaiiifaajaaMacO
namespace Go.Proofs.Ytgcmnaiiifaajaa
open Go.ChangeShapes Go.WideShapes Go.ChangeAt Go.RowKit Go.Shelf
set_option linter.unusedVariables false
set_option maxRecDepth 100000
set_option linter.unusedSimpArgs false
attribute [local go_sem] Oper.semAt_some
theorem idx_picks (len c B o i : Nat) (h : i < len) : ∀ W, (Instr.indexAt 23 (.slice (some ⟨B, o, none⟩) len c) (.int .i64 (i : Int))).run Try.prog W = .ok (.pointer (some ⟨B, o + i * 2, none⟩)) W := by
  intro W
  go_simp
set_option maxHeartbeats 2000000 in
theorem count_gen (m : Value) (l : List (Int × Int)) (a : Option Addr) (c : Nat) (w : World) (J : Nat → Nat → World → Prop) (h0 : J 0 0 w) (hJ : ∀ i n W W', J i n W → Below W.heap.size W W' → J i n W')
    (hP : ∀ i n W p, J i n W → l[i]? = some p → ∃ b o, a = some ⟨b, o, none⟩ ∧ W.cell? ⟨b, o + i * 2, none⟩ = some (.int .i64 p.1) ∧ W.cell? ⟨b, o + i * 2 + 1, none⟩ = some (.int .i64 p.2))
    (hS : ∀ i n W p, l[i]? = some p → J i n W → Calls Try.prog 10 #[m, .agg #[.int .i64 p.1, .int .i64 p.2]] W fun e w' => ∃ b, e = .returned (.bool b) ∧ J (i + 1) (if b then n + 1 else n) w') (hl : l.length ≤ 100000) :
    Calls Try.prog 47 #[.slice a l.length c, .func (.func 10) #[m] #[]] w fun e w' => ∃ n : Nat, e = .returned (.int .i64 n) ∧ n ≤ l.length ∧ J l.length n w' := by
  have HJ := Lib.hid hJ
  have HP := Lib.hid hP
  have HS := Lib.hid hS
  clear hJ hP hS
  go_enter Try.func47, Try.ntmps47
  go_wp2
  go_loopw [5, 10] (fun vn vi wr => ∃ i n : Nat, i ≤ l.length ∧ n ≤ i ∧ vn = .int .i64 (n : Int) ∧ vi = .int .i64 (i : Int) ∧ J i n wr)
    (fun _ vi _ => l.length - (intOf vi).toNat)
  case atStart => exact ⟨0, 0, by omega, by omega, rfl, rfl, h0⟩
  case round =>
    obtain ⟨i, n, hi, hn, rfl, rfl, hj⟩ := hrel
    by_cases hlt : i < l.length
    · obtain ⟨p, hpi⟩ : ∃ p, l[i]? = some p := ⟨_, List.getElem?_eq_getElem hlt⟩
      obtain ⟨B, o, rfl, c0, c1⟩ := HP.out i n wr p hj hpi
      have hix := idx_picks l.length c B o i hlt
      have hi3 : (i : Int) < (l.length : Int) := by omega
      obtain ⟨p1, p2⟩ := p
      have HC : Hid (∀ W, Below wr.heap.size wr W → Calls Try.prog 10 #[m, .agg #[.int .i64 p1, .int .i64 p2]] W fun e w' => ∃ b, e = .returned (.bool b) ∧ J (i + 1) (if b then n + 1 else n) w') := Lib.hid fun W hb => HS.out i n W (p1, p2) hpi (HJ.out i n wr W hj hb)
      simp only at c0 c1
      clear hpi hj h0
      go_upto_region 5 with fail
      generalize hW : (wr.alloc _) = W1
      have b1 : Below wr.heap.size wr W1 := by rw [← hW]; go_grown
      have q1 : Blk W1 wr.heap.size 38 #[.int .i64 p1, .int .i64 p2] := by rw [← hW]; exact Blk.new wr _ _
      clear hW c0 c1
      have d0 := q1.cell 0 _ rfl
      have d1 := q1.cell 1 _ rfl
      have HC1 := Lib.hid (HC.out W1 b1)
      clear q1 HC
      go_upto_region 6 with (go_at_call 10; refine HC1.out.mono ?_; rintro e w3 ⟨b, rfl, hj3⟩)
      case roundEnd =>
        rename_i hbf
        subst hbf
        exact ⟨⟨i + 1, n, by omega, by omega, rfl, by go_num, hj3⟩, by simp [intOf]; omega⟩
      rename_i hbt
      subst hbt
      have hn63 : (n : Int) + 1 ≤ 1000000 := by omega
      go_wp2
      go_roundw
      case rel => exact ⟨i + 1, n + 1, by omega, by omega, by go_num, by go_num, hj3⟩
      case measure => simp [intOf]; omega
    · have hie : i = l.length := by omega
      subst hie
      go_wp2
      go_ret
      exact ⟨n, rfl, hn, hj⟩
theorem run_gen (mp : Option Addr) (l : List (Int × Int)) (a : Option Addr) (c : Nat) (w : World) (J : Nat → Nat → World → Prop) (h0 : J 0 0 w) (hJ : ∀ i n W W', J i n W → Below W.heap.size W W' → J i n W')
    (hP : ∀ i n W p, J i n W → l[i]? = some p → ∃ b o, a = some ⟨b, o, none⟩ ∧ W.cell? ⟨b, o + i * 2, none⟩ = some (.int .i64 p.1) ∧ W.cell? ⟨b, o + i * 2 + 1, none⟩ = some (.int .i64 p.2))
    (hS : ∀ i n W p, l[i]? = some p → J i n W → Calls Try.prog 10 #[.pointer mp, .agg #[.int .i64 p.1, .int .i64 p.2]] W fun e w' => ∃ b, e = .returned (.bool b) ∧ J (i + 1) (if b then n + 1 else n) w') (hl : l.length ≤ 100000) :
    Calls Try.prog 23 #[.pointer mp, .slice a l.length c] w fun e w' => ∃ n : Nat, e = .returned (.int .i64 n) ∧ n ≤ l.length ∧ J l.length n w' := by
  have hmf : ∀ (fn : Fn) (first cap : Array Value) (w : World), (Instr.makeFunc fn first cap).run Try.prog w = .ok (.func fn first cap) w := fun _ _ _ _ => rfl
  have HC := Lib.hid (count_gen (.pointer mp) l a c w J h0 hJ hP hS hl)
  clear hJ hP hS h0
  go_enter Try.func23, Try.ntmps23
  go_wp2_with (go_at_call 47; refine HC.out.mono ?_; rintro e w2 ⟨n, rfl, hn, hj⟩)
  go_ret
  exact ⟨n, rfl, hn, hj⟩
set_option maxHeartbeats 4000000 in
theorem over_nil_in (n : Nat) (hn : 3 ≤ n) (w : World) :
    CallsIn Fence.wide n Try.prog 12 #[.pointer none] w fun e w' => e = .returned (.bool true) ∧ Below w.heap.size w w' := by
  have h1 : 1 ≤ n := by omega
  have hro : Fence.wide.round = none := rfl
  refine callsIn_of_wp_marks Try.func12 rfl trivial ?_ hro
  simp only [Try.ntmps12, List.size_toArray, List.length_cons, List.length_nil, Nat.reduceAdd, Nat.reduceSub, Array.replicate_succ, Array.replicate_zero, List.push_toArray, List.append_toArray, List.nil_append, List.cons_append]
  gi_wp2_with (refine ⟨trivial, ?_⟩; gi_at_call 37; refine (those_in (n - 1) _ _ _).mono ?_; rintro e w' ⟨rfl, rfl⟩)
  obtain ⟨W0, hW0⟩ : ∃ W0, ((w.alloc (.cells #[.bool false] 4)).alloc (.cells #[.pointer none] 27)).alloc (.cells #[isV 38] 85) = W0 := ⟨_, rfl⟩
  have hB0 : Below w.heap.size w W0 := by rw [← hW0]; go_grown
  have hsz : W0.heap.size = w.heap.size + 3 := by rw [← hW0]; simp
  have bA : Boxed W0 w.heap.size 4 (.bool false) := by rw [← hW0]; exact ((Blk.new w _ _).alloc _).alloc _
  have bM : Blk W0 (w.heap.size + 1) 27 #[.pointer none] := by rw [← hW0]; exact (blk_two w _ _ _).alloc _
  rw [hW0]
  clear hW0
  refine wpIn_rangeFunc_ownH hro h1 (gf := 59) (lb := #[.pointer (some ⟨w.heap.size + 1, 0, none⟩), .pointer (some ⟨w.heap.size + 1 + 1, 0, none⟩)]) rfl trivial (enters_of Try.func59 (by kernel_rfl) rfl)
    (those1_nil (n - 1) (by omega) (w.heap.size + 1) (w.heap.size + 1 + 1) w.heap.size W0 bM) kd_t (kd_b (by omega) (by omega) (by omega)) (Below.refl _ _) (fun _ => rfl)
    (fun (pre : List Nat) W => (pre = [] ∧ Boxed W w.heap.size 4 (.bool false)) ∧ Below w.heap.size w W)
    (fun c pre W => False)
    (OwnFrom.and (OwnFrom.and (ownFrom_pure _ _) (Own.from (boxed_own _ _ (fun _ => .bool false)) _)) (ownFrom_below (by omega) (by omega)))
    (fun c => ownFrom_pure _ _)
    ⟨⟨rfl, bA⟩, hB0⟩
    (fun x a' W => True)
    (fun x a' _ X Y row hs hg hr => hs)
    ?assign ?body ?done ?stop
  case assign =>
    rintro l pre x W K hI hK
    gi_wp2
    exact hK _ _ (KeepsFrom.refl _ _) ⟨Below.refl _ _, rfl, rfl⟩ hI trivial
  case body =>
    rintro l pre x a' W hl ⟨r, hr⟩ _ _ hlt
    exact absurd hlt (Nat.not_lt_zero _)
  case done =>
    rintro D ys W hD rfl ⟨⟨hys, bF1⟩, hB1⟩ hK
    have cF := bF1.cell
    have zF := bF1.frozen
    have hK2 : (W.setCell ⟨w.heap.size, 0, none⟩ (.bool true)).heap[D]? = some (.deferred (some [])) := (Below.heap_setCell W ⟨w.heap.size, 0, none⟩ _ D (by show D ≠ w.heap.size; omega)).trans hK
    have hset := (show Blk W w.heap.size 4 #[.bool false] from bF1).set 0 (.bool true)
    have hB2 : Below w.heap.size w (W.setCell ⟨w.heap.size, 0, none⟩ (.bool true)) := hB1.setCell (p := ⟨w.heap.size, 0, none⟩) (Nat.le_refl _) _
    gi_wp2
    refine ⟨by simp, .inl ⟨_, _, rfl, run_takeDeferred hK2, ?_⟩⟩
    have hD2 : Blk ((W.setCell ⟨w.heap.size, 0, none⟩ (.bool true)).putObj D (.deferred none)) w.heap.size 4 #[.bool true] := (World.putObj_heap_other (by omega)).trans hset
    have hc := hD2.cell 0 (.bool true) rfl
    refine ⟨.bool true, by simp [results, Try.results12, go_sem, hc], rfl, hB2.trans (belowK_b (w := w) (by omega) _ D _ _ (by omega) hK2 rfl rfl)⟩
  case stop =>
    rintro D c pre W hD hpre h hK
    exact h.elim
theorem over_nilM (w : World) : Calls Try.prog 12 #[.pointer none] w fun e w' => e = .returned (.bool true) ∧ Below w.heap.size w w' := callsIn_wide.1 (over_nil_in 3 (Nat.le_refl _) w)
set_option maxHeartbeats 4000000 in
theorem able_nil_in (n : Nat) (hn : 3 ≤ n) (w : World) :
    CallsIn Fence.wide n Try.prog 13 #[.pointer none] w fun e w' => e = .returned (.slice none 0 0) ∧ Below w.heap.size w w' := by
  have h1 : 1 ≤ n := by omega
  have hro : Fence.wide.round = none := rfl
  refine callsIn_of_wp_marks Try.func13 rfl trivial ?_ hro
  simp only [Try.ntmps13, List.size_toArray, List.length_cons, List.length_nil, Nat.reduceAdd, Nat.reduceSub, Array.replicate_succ, Array.replicate_zero, List.push_toArray, List.append_toArray, List.nil_append, List.cons_append]
  gi_wp2_with (refine ⟨trivial, ?_⟩; gi_at_call 37; refine (those_in (n - 1) _ _ _).mono ?_; rintro e w' ⟨rfl, rfl⟩)
  obtain ⟨W0, hW0⟩ : ∃ W0, ((w.alloc (.cells #[.slice none 0 0] 35)).alloc (.cells #[.pointer none] 27)).alloc (.cells #[isV 40] 85) = W0 := ⟨_, rfl⟩
  have hB0 : Below w.heap.size w W0 := by rw [← hW0]; go_grown
  have hsz : W0.heap.size = w.heap.size + 3 := by rw [← hW0]; simp
  have bA : Boxed W0 w.heap.size 35 (.slice none 0 0) := by rw [← hW0]; exact ((Blk.new w _ _).alloc _).alloc _
  have bM : Blk W0 (w.heap.size + 1) 27 #[.pointer none] := by rw [← hW0]; exact (blk_two w _ _ _).alloc _
  rw [hW0]
  clear hW0
  refine wpIn_rangeFunc_ownH hro h1 (gf := 59) (lb := #[.pointer (some ⟨w.heap.size + 1, 0, none⟩), .pointer (some ⟨w.heap.size + 1 + 1, 0, none⟩)]) rfl trivial (enters_of Try.func59 (by kernel_rfl) rfl)
    (those1_nil (n - 1) (by omega) (w.heap.size + 1) (w.heap.size + 1 + 1) w.heap.size W0 bM) kd_t (kd_b (by omega) (by omega) (by omega)) (Below.refl _ _) (fun _ => rfl)
    (fun (pre : List Nat) W => (pre = [] ∧ Boxed W w.heap.size 35 (.slice none 0 0)) ∧ Below w.heap.size w W)
    (fun c pre W => False)
    (OwnFrom.and (OwnFrom.and (ownFrom_pure _ _) (Own.from (boxed_own _ _ (fun _ => .slice none 0 0)) _)) (ownFrom_below (by omega) (by omega)))
    (fun c => ownFrom_pure _ _)
    ⟨⟨rfl, bA⟩, hB0⟩
    (fun x a' W => True)
    (fun x a' _ X Y row hs hg hr => hs)
    ?assign ?body ?done ?stop
  case assign =>
    rintro l pre x W K hI hK
    gi_wp2
    exact hK _ _ (KeepsFrom.refl _ _) ⟨Below.refl _ _, rfl, rfl⟩ hI trivial
  case body =>
    rintro l pre x a' W hl ⟨r, hr⟩ _ _ hlt
    exact absurd hlt (Nat.not_lt_zero _)
  case done =>
    rintro D ys W hD rfl ⟨⟨hys, bF1⟩, hB1⟩ hK
    have cF := bF1.cell
    gi_wp2
    refine ⟨by simp, .inl ⟨_, _, rfl, run_takeDeferred hK, ?_⟩⟩
    exact ⟨_, results_tmp rfl _ _ _, rfl, hB1.trans (belowK_b (w := w) (by omega) W D _ _ (by omega) hK rfl rfl)⟩
  case stop =>
    rintro D c pre W hD hpre h hK
    exact h.elim
theorem able_nilM (w : World) : Calls Try.prog 13 #[.pointer none] w fun e w' => e = .returned (.slice none 0 0) ∧ Below w.heap.size w w' := callsIn_wide.1 (able_nil_in 3 (Nat.le_refl _) w)
end Go.Proofs.Ytgcmnaiiifaajaa
