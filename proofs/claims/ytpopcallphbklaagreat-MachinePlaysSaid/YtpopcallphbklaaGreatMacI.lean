/- Package machine: the iterator over threads of which something is said. -/
import Derived.Test.YtpopcallphbklaaGreatMacH
import Derived.RangeFuncNested
import Derived.RangeFuncBound
import Derived.RangeFuncCalls
import Derived.RangeFuncLeaves
import Derived.Shelf.Abstract
import Derived.Shelf.RegionOpen
import Derived.OwnWalkIn
import Derived.TacticsInMore
import Derived.LoopNIn
import Derived.LoopIn
import Derived.Maps.AppendAt
import Derived.Stop.RegionWithIn
namespace Go.Proofs.YtpopcallphbklaaGreat
open Go.ChangeShapes Go.WideShapes Go.ChangeAt Go.RowKit Go.Shelf
set_option linter.unusedVariables false
set_option maxRecDepth 100000
set_option linter.unusedSimpArgs false
attribute [local go_sem] Oper.semAt_some
theorem keep_above {n : Nat} {a b : World} (h : Below n a b) : Keep (fun i => n ≤ i) a b := ⟨h.os, h.tape, h.output, h.size, fun i _ hn => h.block i (by omega)⟩
/-- what a round keeps: all below n₀, and two boxes -/
def Kd (n₀ B1 B2 : Nat) (W W' : World) : Prop := Below n₀ W W' ∧ W'.heap[B1]? = W.heap[B1]? ∧ W'.heap[B2]? = W.heap[B2]?
theorem kd_t {n₀ B1 B2 : Nat} {A B C : World} (h : Kd n₀ B1 B2 A B) (k : Kd n₀ B1 B2 B C) : Kd n₀ B1 B2 A C := ⟨h.1.trans k.1, k.2.1.trans h.2.1, k.2.2.trans h.2.2⟩
theorem kd_b {n₀ B1 B2 : Nat} {w : World} (hn : n₀ ≤ w.heap.size) (hb : B1 < w.heap.size) (hb2 : B2 < w.heap.size) (W : World) (l : Nat) (o o' : Obj) (hl : w.heap.size ≤ l) (h : W.heap[l]? = some o) (h1 : o.isCells = false) (h2 : o.isWalk = false) : Kd n₀ B1 B2 W (W.putObj l o') :=
  ⟨belowK_b hn W l o o' hl h h1 h2, World.putObj_heap_other (by omega), World.putObj_heap_other (by omega)⟩
theorem grown_of_below8 {W W' : World} (h : Below W.heap.size W W') : W.grownBy W' none := ⟨h.os, h.tape, h.output, h.size, fun k hk _ => h.block k hk⟩
/-- the numbers below n of which p is said -/
abbrev sift (n : Nat) (p : Nat → Bool) : List Nat := (List.range n).filter p
theorem sift_yes {n k : Nat} {p : Nat → Bool} (h : p k = true) : sift (k + 1) p = sift k p ++ [k] := by simp [sift, List.range_succ, h]
theorem sift_no {n k : Nat} {p : Nat → Bool} (h : p k = false) : sift (k + 1) p = sift k p := by simp [sift, List.range_succ, h]
theorem sift_pre (n : Nat) (p : Nat → Bool) : ∀ m, sift n p <+: sift (n + m) p
  | 0 => List.prefix_refl _
  | m + 1 => by
    refine (sift_pre n p m).trans ?_
    rw [← Nat.add_assoc]
    cases h : p (n + m) with
    | true => rw [sift_yes (n := 0) h]; exact List.prefix_append _ _
    | false => rw [sift_no (n := 0) h]; exact List.prefix_refl _
theorem sift_lt {n k : Nat} {p : Nat → Bool} (hk : k < n) (h : p k = true) : (sift k p).length < (sift n p).length := by
  have := (sift_pre (k + 1) p (n - (k + 1))).length_le
  rw [show k + 1 + (n - (k + 1)) = n by omega, sift_yes (n := 0) h, List.length_append] at this
  simp at this ⊢; omega
abbrev isV (fI : Nat) : Value := .func (.func fI) #[] #[]
set_option maxHeartbeats 4000000 in
theorem those1_in (n : Nat) (hn : 1 ≤ n) (l Bm Bi n₀ C P M fI : Nat) (U : Nat → Prop) (L : List Th) (p : Nat → Bool) (w0 : World) (J Jx : List Nat → World → Prop)
    (hJ : ∀ pre W W', J pre W → Below W.heap.size W W' → J pre W')
    (hY : ∀ pre x W, J pre W → pre.length < (sift L.length p).length → YieldAt Fence.wide (n - 1) Tryz.prog l #[.int .i64 (x : Nat)] W fun e W' =>
      (e = .returned (.bool true) ∧ J (pre ++ [x]) W' ∧ Kd n₀ Bm Bi W W') ∨ (e = .returned (.bool false) ∧ Jx (pre ++ [x]) W'))
    (hcall : ∀ (W : World) (args : Array Value), (callFunc fI args).run Tryz.prog W = .ok (.enter fI args) W)
    (hIs : ∀ (i : Nat) k W', L[i]? = some k → Below n₀ w0 W' → Calls Tryz.prog fI #[pV k.X] W' fun e w' => e = .returned (.bool (p i)) ∧ Keep (fun _ => False) W' w')
    (W : World) (hW : Below n₀ w0 W) (hn0 : n₀ ≤ W.heap.size) (hM : MachAt w0 C P M U L) (hU : ∀ b, U b → b < n₀) (hBm : Blk W Bm 27 #[pV M]) (hBi : Blk W Bi 94 #[isV fI]) (h0 : J [] W) :
    CallsIn Fence.wide n Tryz.prog 75 #[.func (.yield l) #[] #[], .pointer (some ⟨Bm, 0, none⟩), .pointer (some ⟨Bi, 0, none⟩)] W fun e W' => (∃ v, e = .returned v) ∧
      ((∃ ys, ys = sift L.length p ∧ J ys W') ∨ (∃ pre, pre <+: sift L.length p ∧ Jx pre W')) := by
  have hro : Fence.wide.round = none := rfl
  have hm := hM.few
  have HM : Hid (∀ W', Below n₀ w0 W' → MachAt W' C P M U L) := Lib.hid fun W' hb => hM.keep (keep_above hb) (fun b hb => by have := hU b hb; omega)
  have c0 := hBm.cell 0 _ rfl
  have HLen := Lib.hid (mthreads_any C P M U L W (HM.out W hW))
  have HIs := Lib.hid hIs
  clear hIs hM hU
  refine callsIn_of_wp Tryz.func75 rfl trivial ?_ hro
  simp only [Tryz.ntmps75, List.size_toArray, List.length_cons, List.length_nil, Nat.reduceAdd, Nat.reduceSub, Array.replicate_succ, Array.replicate_zero, List.push_toArray, List.append_toArray, List.nil_append, List.cons_append]
  gi_wp2_with (refine ⟨trivial, ?_⟩; gi_at_call 12; refine (callsIn_wide.2 HLen.out).mono ?_; rintro e w1 ⟨rfl, rfl⟩)
  clear c0 HLen
  gi_loopw [7] (fun i wr => ∃ k : Nat, k ≤ L.length ∧ i = .int .i64 k ∧ J (sift k p) wr ∧ Blk wr Bm 27 #[pV M] ∧ Blk wr Bi 94 #[isV fI] ∧ Below n₀ w0 wr ∧ n₀ ≤ wr.heap.size)
    (fun i wr => L.length - (intOf i).toNat)
  case atStart => exact ⟨0, Nat.zero_le _, rfl, h0, hBm, hBi, hW, hn0⟩
  case round =>
    clear hBm hBi h0 hW hn0
    obtain ⟨k, hk, rfl, hJ2, hB1, hB2, hB, hns⟩ := hrel
    by_cases hlt : k < L.length
    · obtain ⟨x, hx⟩ : ∃ x, L[k]? = some x := ⟨_, List.getElem?_eq_getElem hlt⟩
      have bd : Below wr.heap.size wr wr.drew := ⟨rfl, rfl, rfl, Nat.le_refl _, fun _ _ => rfl⟩
      have HTh := Lib.hid (thread_yes C P M k U L x wr.drew (HM.out _ (hB.trans (bd.mono hns))) hx)
      have HI := Lib.hid (HIs.out k x wr.drew hx (hB.trans (bd.mono hns)))
      have q0 := hB1.cell 0 _ rfl
      have q1 := hB2.cell 0 _ rfl
      have hlt' : (k : Int) < (L.length : Int) := by omega
      cases hp : p k with
      | false =>
        rw [hp] at HI
        gi_wp2
        refine wpIn_region_any (by kernel_rfl) ?_
        change wpAnyIn _ _ _ _ _ _ _ _ _ (World.drew _)
        have q0d : wr.drew.cell? ⟨Bm, 0, none⟩ = some (pV M) := q0
        have q1d : wr.drew.cell? ⟨Bi, 0, none⟩ = some (isV fI) := q1
        generalize hWd : wr.drew = Wd at *
        refine wpAnyIn_take (i := 2) (v := ?_) rfl rfl (by kernel_rfl) (by kernel_rfl) (by kernel_rfl) (fun _ _ _ h => h) ⟨Or.inl ⟨by rfl, ?_⟩, fun _ => rfl⟩ ?_
        rotate_left
        · intro w; go_simp; try with_reducible rfl
        (try dsimp only [Act.put]); (try simp only [Act.put, List.setIfInBounds_toArray, List.set_cons_zero, List.set_cons_succ])
        refine wpAnyIn_ready (rs := [0, 1]) (by kernel_rfl) (by simp) ?_
        refine AllReadyIn.cons rfl (fun K hK => ?_) (AllReadyIn.cons rfl (fun K hK => ?_) AllReadyIn.nil)
        · go_simp
          refine hK _ _ ?_
          clear hK K
          (try dsimp only [Act.put]); (try simp only [Act.put, List.setIfInBounds_toArray, List.set_cons_zero, List.set_cons_succ])
          refine wpAnyIn_ready (rs := [1]) (by kernel_rfl) (by simp) ?_
          refine AllReadyIn.cons rfl (fun K hK => ?_) AllReadyIn.nil
          go_simp
          refine hK _ _ ?_
          clear hK K
          (try dsimp only [Act.put]); (try simp only [Act.put, List.setIfInBounds_toArray, List.set_cons_zero, List.set_cons_succ])
          refine wpAnyIn_ready (rs := [3]) (by kernel_rfl) (by simp) ?_
          refine AllReadyIn.cons rfl (fun K hK => ?_) AllReadyIn.nil
          go_simp
          gi_wp2_with ((refine ⟨trivial, ?_⟩; gi_at_call 36; refine (callsIn_wide.2 HTh.out).mono ?_; rintro e w3 ⟨rfl, rfl⟩))
          (try clear hK K)
          (try dsimp only [Act.put]); (try simp only [Act.put, List.setIfInBounds_toArray, List.set_cons_zero, List.set_cons_succ])
          refine wpAnyIn_ready (rs := [4]) (by kernel_rfl) (by simp) ?_
          refine AllReadyIn.cons rfl (fun K hK => ?_) AllReadyIn.nil
          go_simp
          gi_wp2_with ((refine ⟨trivial, ?_⟩; refine (callsIn_wide.2 HI.out).mono ?_; rintro e w4 ⟨rfl, k4⟩))
          (try clear hK K)
          (try dsimp only [Act.put]); (try simp only [Act.put, List.setIfInBounds_toArray, List.set_cons_zero, List.set_cons_succ])
          refine wpAnyIn_take (i := 5) (v := ?_) rfl rfl (by kernel_rfl) (by kernel_rfl) (by kernel_rfl) (fun _ _ _ h => h) ⟨Or.inl ⟨by rfl, ?_⟩, fun _ => rfl⟩ ?_
          rotate_left
          · intro w; go_simp; try with_reducible rfl
          (try dsimp only [Act.put]); (try simp only [Act.put, List.setIfInBounds_toArray, List.set_cons_zero, List.set_cons_succ])
          refine wpAnyIn_take (i := 6) (v := undef) rfl rfl (by kernel_rfl) (by kernel_rfl) (by kernel_rfl) (fun _ _ _ h => h) ⟨Or.inr ⟨by rfl, rfl⟩, fun _ => rfl⟩ ?_
          (try dsimp only [Act.put]); (try simp only [Act.put, List.setIfInBounds_toArray, List.set_cons_zero, List.set_cons_succ])
          refine wpAnyIn_take (i := 7) (v := undef) rfl rfl (by kernel_rfl) (by kernel_rfl) (by kernel_rfl) (fun _ _ _ h => h) ⟨Or.inr ⟨by rfl, rfl⟩, fun _ => rfl⟩ ?_
          (try dsimp only [Act.put]); (try simp only [Act.put, List.setIfInBounds_toArray, List.set_cons_zero, List.set_cons_succ])
          refine wpAnyIn_ready (rs := [8]) (by kernel_rfl) (by simp) ?_
          refine AllReadyIn.cons rfl (fun K hK => ?_) AllReadyIn.nil
          rw [if_neg (fun h => by cases (show false = true from h))]
          refine ⟨fun _ _ => trivial, hK _ _ ?_⟩
          clear hK K
          (try dsimp only [Act.put]); (try simp only [Act.put, List.setIfInBounds_toArray, List.set_cons_zero, List.set_cons_succ])
          refine wpAnyIn_take (i := 9) (v := undef) rfl rfl (by kernel_rfl) (by kernel_rfl) (by kernel_rfl) (fun _ _ _ h => h) ⟨Or.inr ⟨by rfl, rfl⟩, fun _ => rfl⟩ ?_
          (try dsimp only [Act.put]); (try simp only [Act.put, List.setIfInBounds_toArray, List.set_cons_zero, List.set_cons_succ])
          refine wpAnyIn_ready (rs := [10]) (by kernel_rfl) (by simp) ?_
          refine AllReadyIn.cons rfl (fun K hK => ?_) AllReadyIn.nil
          go_simp
          refine hK _ _ ?_
          clear hK K
          (try dsimp only [Act.put]); (try simp only [Act.put, List.setIfInBounds_toArray, List.set_cons_zero, List.set_cons_succ])
          refine wpAnyIn_done (by kernel_rfl) ?_ _
          have b4 : Below wr.heap.size wr w4 := bd.trans (k4.below bd.size (fun _ _ h => h.elim))
          clear q0 q1 q0d q1d
          gi_wp2
          go_roundw
          case rel => exact ⟨k + 1, by omega, by go_num, by rw [sift_no (n := 0) hp]; exact hJ _ _ _ hJ2 b4, hB1.below b4 hB1.lt, hB2.below b4 hB2.lt, hB.trans (b4.mono hns), Nat.le_trans hns b4.size⟩
          case measure => simp [intOf]; omega
        · go_simp
          refine hK _ _ ?_
          clear hK K
          (try dsimp only [Act.put]); (try simp only [Act.put, List.setIfInBounds_toArray, List.set_cons_zero, List.set_cons_succ])
          refine wpAnyIn_ready (rs := [0, 3]) (by kernel_rfl) (by simp) ?_
          refine AllReadyIn.cons rfl (fun K hK => ?_) (AllReadyIn.cons rfl (fun K hK => ?_) AllReadyIn.nil)
          · go_simp
            refine hK _ _ ?_
            clear hK K
            (try dsimp only [Act.put]); (try simp only [Act.put, List.setIfInBounds_toArray, List.set_cons_zero, List.set_cons_succ])
            refine wpAnyIn_ready (rs := [3]) (by kernel_rfl) (by simp) ?_
            refine AllReadyIn.cons rfl (fun K hK => ?_) AllReadyIn.nil
            go_simp
            gi_wp2_with ((refine ⟨trivial, ?_⟩; gi_at_call 36; refine (callsIn_wide.2 HTh.out).mono ?_; rintro e w3 ⟨rfl, rfl⟩))
            (try clear hK K)
            (try dsimp only [Act.put]); (try simp only [Act.put, List.setIfInBounds_toArray, List.set_cons_zero, List.set_cons_succ])
            refine wpAnyIn_ready (rs := [4]) (by kernel_rfl) (by simp) ?_
            refine AllReadyIn.cons rfl (fun K hK => ?_) AllReadyIn.nil
            go_simp
            gi_wp2_with ((refine ⟨trivial, ?_⟩; refine (callsIn_wide.2 HI.out).mono ?_; rintro e w4 ⟨rfl, k4⟩))
            (try clear hK K)
            (try dsimp only [Act.put]); (try simp only [Act.put, List.setIfInBounds_toArray, List.set_cons_zero, List.set_cons_succ])
            refine wpAnyIn_take (i := 5) (v := ?_) rfl rfl (by kernel_rfl) (by kernel_rfl) (by kernel_rfl) (fun _ _ _ h => h) ⟨Or.inl ⟨by rfl, ?_⟩, fun _ => rfl⟩ ?_
            rotate_left
            · intro w; go_simp; try with_reducible rfl
            (try dsimp only [Act.put]); (try simp only [Act.put, List.setIfInBounds_toArray, List.set_cons_zero, List.set_cons_succ])
            refine wpAnyIn_take (i := 6) (v := undef) rfl rfl (by kernel_rfl) (by kernel_rfl) (by kernel_rfl) (fun _ _ _ h => h) ⟨Or.inr ⟨by rfl, rfl⟩, fun _ => rfl⟩ ?_
            (try dsimp only [Act.put]); (try simp only [Act.put, List.setIfInBounds_toArray, List.set_cons_zero, List.set_cons_succ])
            refine wpAnyIn_take (i := 7) (v := undef) rfl rfl (by kernel_rfl) (by kernel_rfl) (by kernel_rfl) (fun _ _ _ h => h) ⟨Or.inr ⟨by rfl, rfl⟩, fun _ => rfl⟩ ?_
            (try dsimp only [Act.put]); (try simp only [Act.put, List.setIfInBounds_toArray, List.set_cons_zero, List.set_cons_succ])
            refine wpAnyIn_ready (rs := [8]) (by kernel_rfl) (by simp) ?_
            refine AllReadyIn.cons rfl (fun K hK => ?_) AllReadyIn.nil
            rw [if_neg (fun h => by cases (show false = true from h))]
            refine ⟨fun _ _ => trivial, hK _ _ ?_⟩
            clear hK K
            (try dsimp only [Act.put]); (try simp only [Act.put, List.setIfInBounds_toArray, List.set_cons_zero, List.set_cons_succ])
            refine wpAnyIn_take (i := 9) (v := undef) rfl rfl (by kernel_rfl) (by kernel_rfl) (by kernel_rfl) (fun _ _ _ h => h) ⟨Or.inr ⟨by rfl, rfl⟩, fun _ => rfl⟩ ?_
            (try dsimp only [Act.put]); (try simp only [Act.put, List.setIfInBounds_toArray, List.set_cons_zero, List.set_cons_succ])
            refine wpAnyIn_ready (rs := [10]) (by kernel_rfl) (by simp) ?_
            refine AllReadyIn.cons rfl (fun K hK => ?_) AllReadyIn.nil
            go_simp
            refine hK _ _ ?_
            clear hK K
            (try dsimp only [Act.put]); (try simp only [Act.put, List.setIfInBounds_toArray, List.set_cons_zero, List.set_cons_succ])
            refine wpAnyIn_done (by kernel_rfl) ?_ _
            have b4 : Below wr.heap.size wr w4 := bd.trans (k4.below bd.size (fun _ _ h => h.elim))
            clear q0 q1 q0d q1d
            gi_wp2
            go_roundw
            case rel => exact ⟨k + 1, by omega, by go_num, by rw [sift_no (n := 0) hp]; exact hJ _ _ _ hJ2 b4, hB1.below b4 hB1.lt, hB2.below b4 hB2.lt, hB.trans (b4.mono hns), Nat.le_trans hns b4.size⟩
            case measure => simp [intOf]; omega
          · go_simp
            gi_wp2_with ((refine ⟨trivial, ?_⟩; gi_at_call 36; refine (callsIn_wide.2 HTh.out).mono ?_; rintro e w3 ⟨rfl, rfl⟩))
            (try clear hK K)
            (try dsimp only [Act.put]); (try simp only [Act.put, List.setIfInBounds_toArray, List.set_cons_zero, List.set_cons_succ])
            refine wpAnyIn_ready (rs := [0]) (by kernel_rfl) (by simp) ?_
            refine AllReadyIn.cons rfl (fun K hK => ?_) AllReadyIn.nil
            go_simp
            refine hK _ _ ?_
            clear hK K
            (try dsimp only [Act.put]); (try simp only [Act.put, List.setIfInBounds_toArray, List.set_cons_zero, List.set_cons_succ])
            refine wpAnyIn_ready (rs := [4]) (by kernel_rfl) (by simp) ?_
            refine AllReadyIn.cons rfl (fun K hK => ?_) AllReadyIn.nil
            go_simp
            gi_wp2_with ((refine ⟨trivial, ?_⟩; refine (callsIn_wide.2 HI.out).mono ?_; rintro e w4 ⟨rfl, k4⟩))
            (try clear hK K)
            (try dsimp only [Act.put]); (try simp only [Act.put, List.setIfInBounds_toArray, List.set_cons_zero, List.set_cons_succ])
            refine wpAnyIn_take (i := 5) (v := ?_) rfl rfl (by kernel_rfl) (by kernel_rfl) (by kernel_rfl) (fun _ _ _ h => h) ⟨Or.inl ⟨by rfl, ?_⟩, fun _ => rfl⟩ ?_
            rotate_left
            · intro w; go_simp; try with_reducible rfl
            (try dsimp only [Act.put]); (try simp only [Act.put, List.setIfInBounds_toArray, List.set_cons_zero, List.set_cons_succ])
            refine wpAnyIn_take (i := 6) (v := undef) rfl rfl (by kernel_rfl) (by kernel_rfl) (by kernel_rfl) (fun _ _ _ h => h) ⟨Or.inr ⟨by rfl, rfl⟩, fun _ => rfl⟩ ?_
            (try dsimp only [Act.put]); (try simp only [Act.put, List.setIfInBounds_toArray, List.set_cons_zero, List.set_cons_succ])
            refine wpAnyIn_take (i := 7) (v := undef) rfl rfl (by kernel_rfl) (by kernel_rfl) (by kernel_rfl) (fun _ _ _ h => h) ⟨Or.inr ⟨by rfl, rfl⟩, fun _ => rfl⟩ ?_
            (try dsimp only [Act.put]); (try simp only [Act.put, List.setIfInBounds_toArray, List.set_cons_zero, List.set_cons_succ])
            refine wpAnyIn_ready (rs := [8]) (by kernel_rfl) (by simp) ?_
            refine AllReadyIn.cons rfl (fun K hK => ?_) AllReadyIn.nil
            rw [if_neg (fun h => by cases (show false = true from h))]
            refine ⟨fun _ _ => trivial, hK _ _ ?_⟩
            clear hK K
            (try dsimp only [Act.put]); (try simp only [Act.put, List.setIfInBounds_toArray, List.set_cons_zero, List.set_cons_succ])
            refine wpAnyIn_take (i := 9) (v := undef) rfl rfl (by kernel_rfl) (by kernel_rfl) (by kernel_rfl) (fun _ _ _ h => h) ⟨Or.inr ⟨by rfl, rfl⟩, fun _ => rfl⟩ ?_
            (try dsimp only [Act.put]); (try simp only [Act.put, List.setIfInBounds_toArray, List.set_cons_zero, List.set_cons_succ])
            refine wpAnyIn_ready (rs := [10]) (by kernel_rfl) (by simp) ?_
            refine AllReadyIn.cons rfl (fun K hK => ?_) AllReadyIn.nil
            go_simp
            refine hK _ _ ?_
            clear hK K
            (try dsimp only [Act.put]); (try simp only [Act.put, List.setIfInBounds_toArray, List.set_cons_zero, List.set_cons_succ])
            refine wpAnyIn_done (by kernel_rfl) ?_ _
            have b4 : Below wr.heap.size wr w4 := bd.trans (k4.below bd.size (fun _ _ h => h.elim))
            clear q0 q1 q0d q1d
            gi_wp2
            go_roundw
            case rel => exact ⟨k + 1, by omega, by go_num, by rw [sift_no (n := 0) hp]; exact hJ _ _ _ hJ2 b4, hB1.below b4 hB1.lt, hB2.below b4 hB2.lt, hB.trans (b4.mono hns), Nat.le_trans hns b4.size⟩
            case measure => simp [intOf]; omega
      | true =>
        rw [hp] at HI
        gi_wp2
        refine wpIn_region_any (by kernel_rfl) ?_
        change wpAnyIn _ _ _ _ _ _ _ _ _ (World.drew _)
        have q0d : wr.drew.cell? ⟨Bm, 0, none⟩ = some (pV M) := q0
        have q1d : wr.drew.cell? ⟨Bi, 0, none⟩ = some (isV fI) := q1
        generalize hWd : wr.drew = Wd at *
        refine wpAnyIn_take (i := 2) (v := ?_) rfl rfl (by kernel_rfl) (by kernel_rfl) (by kernel_rfl) (fun _ _ _ h => h) ⟨Or.inl ⟨by rfl, ?_⟩, fun _ => rfl⟩ ?_
        rotate_left
        · intro w; go_simp; try with_reducible rfl
        (try dsimp only [Act.put]); (try simp only [Act.put, List.setIfInBounds_toArray, List.set_cons_zero, List.set_cons_succ])
        refine wpAnyIn_ready (rs := [0, 1]) (by kernel_rfl) (by simp) ?_
        refine AllReadyIn.cons rfl (fun K hK => ?_) (AllReadyIn.cons rfl (fun K hK => ?_) AllReadyIn.nil)
        · go_simp
          refine hK _ _ ?_
          clear hK K
          (try dsimp only [Act.put]); (try simp only [Act.put, List.setIfInBounds_toArray, List.set_cons_zero, List.set_cons_succ])
          refine wpAnyIn_ready (rs := [1]) (by kernel_rfl) (by simp) ?_
          refine AllReadyIn.cons rfl (fun K hK => ?_) AllReadyIn.nil
          go_simp
          refine hK _ _ ?_
          clear hK K
          (try dsimp only [Act.put]); (try simp only [Act.put, List.setIfInBounds_toArray, List.set_cons_zero, List.set_cons_succ])
          refine wpAnyIn_ready (rs := [3]) (by kernel_rfl) (by simp) ?_
          refine AllReadyIn.cons rfl (fun K hK => ?_) AllReadyIn.nil
          go_simp
          gi_wp2_with ((refine ⟨trivial, ?_⟩; gi_at_call 36; refine (callsIn_wide.2 HTh.out).mono ?_; rintro e w3 ⟨rfl, rfl⟩))
          (try clear hK K)
          (try dsimp only [Act.put]); (try simp only [Act.put, List.setIfInBounds_toArray, List.set_cons_zero, List.set_cons_succ])
          refine wpAnyIn_ready (rs := [4]) (by kernel_rfl) (by simp) ?_
          refine AllReadyIn.cons rfl (fun K hK => ?_) AllReadyIn.nil
          go_simp
          gi_wp2_with ((refine ⟨trivial, ?_⟩; refine (callsIn_wide.2 HI.out).mono ?_; rintro e w4 ⟨rfl, k4⟩))
          (try clear hK K)
          (try dsimp only [Act.put]); (try simp only [Act.put, List.setIfInBounds_toArray, List.set_cons_zero, List.set_cons_succ])
          refine wpAnyIn_take (i := 5) (v := ?_) rfl rfl (by kernel_rfl) (by kernel_rfl) (by kernel_rfl) (fun _ _ _ h => h) ⟨Or.inl ⟨by rfl, ?_⟩, fun _ => rfl⟩ ?_
          rotate_left
          · intro w; go_simp; try with_reducible rfl
          (try dsimp only [Act.put]); (try simp only [Act.put, List.setIfInBounds_toArray, List.set_cons_zero, List.set_cons_succ])
          refine wpAnyIn_take (i := 6) (v := ?_) rfl rfl (by kernel_rfl) (by kernel_rfl) (by kernel_rfl) (fun _ _ _ h => h) ⟨Or.inl ⟨by rfl, ?_⟩, fun _ => rfl⟩ ?_
          rotate_left
          · intro w; go_simp; try with_reducible rfl
          (try dsimp only [Act.put]); (try simp only [Act.put, List.setIfInBounds_toArray, List.set_cons_zero, List.set_cons_succ])
          refine wpAnyIn_take (i := 7) (v := ?_) rfl rfl (by kernel_rfl) (by kernel_rfl) (by kernel_rfl) (fun _ _ _ h => h) ⟨Or.inl ⟨by rfl, ?_⟩, fun _ => rfl⟩ ?_
          rotate_left
          · intro w; go_simp; try with_reducible rfl
          (try dsimp only [Act.put]); (try simp only [Act.put, List.setIfInBounds_toArray, List.set_cons_zero, List.set_cons_succ])
          have b4 : Below wr.heap.size wr w4 := bd.trans (k4.below bd.size (fun _ _ h => h.elim))
          obtain ⟨fn, tmps, assign, body, hy, hR⟩ := hY (sift k p) k w4 (hJ _ _ _ hJ2 b4) (sift_lt hlt hp)
          refine wpAnyIn_ready (rs := [8]) (by kernel_rfl) (by simp) ?_
          refine AllReadyIn.cons rfl (fun K hK => ?_) AllReadyIn.nil
          go_simp
          gi_wp2_with fail
          refine hR.mono ?_
          rintro e W5 hpost
          obtain ⟨b, rfl, hpo⟩ : ∃ b, e = .returned (.bool b) ∧ ((b = true ∧ J (sift k p ++ [k]) W5 ∧ Kd n₀ Bm Bi w4 W5) ∨ (b = false ∧ Jx (sift k p ++ [k]) W5)) := by
            rcases hpost with ⟨rfl, h1, h2⟩ | ⟨rfl, h1⟩
            · exact ⟨true, rfl, .inl ⟨rfl, h1, h2⟩⟩
            · exact ⟨false, rfl, .inr ⟨rfl, h1⟩⟩
          gi_wp2_with fail
          (try (refine hK _ _ ?_; clear hK K))
          (try dsimp only [Act.put]); (try simp only [Act.put, List.setIfInBounds_toArray, List.set_cons_zero, List.set_cons_succ])
          refine wpAnyIn_take (i := 9) (v := ?_) rfl rfl (by kernel_rfl) (by kernel_rfl) (by kernel_rfl) (fun _ _ _ h => h) ⟨Or.inl ⟨by rfl, ?_⟩, fun _ => rfl⟩ ?_
          rotate_left
          · intro w; go_simp; try with_reducible rfl
          (try dsimp only [Act.put]); (try simp only [Act.put, List.setIfInBounds_toArray, List.set_cons_zero, List.set_cons_succ])
          refine wpAnyIn_ready (rs := [10]) (by kernel_rfl) (by simp) ?_
          refine AllReadyIn.cons rfl (fun K hK => ?_) AllReadyIn.nil
          go_simp
          refine hK _ _ ?_
          clear hK K
          (try dsimp only [Act.put]); (try simp only [Act.put, List.setIfInBounds_toArray, List.set_cons_zero, List.set_cons_succ])
          refine wpAnyIn_done (by kernel_rfl) ?_ _
          have s4 := b4.size
          clear hpost
          rcases hpo with ⟨rfl, hJ3, hk3⟩ | ⟨rfl, hJx⟩
          · have B1 : Blk W5 Bm 27 #[pV M] := hk3.2.1.trans (hB1.below b4 hB1.lt)
            have B2 : Blk W5 Bi 94 #[isV fI] := hk3.2.2.trans (hB2.below b4 hB2.lt)
            have B5 : Below n₀ w0 W5 := (hB.trans (b4.mono hns)).trans hk3.1
            have s5 := hk3.1.size
            clear q0 q1 q0d q1d hy hR
            gi_wp2
            go_roundw
            case rel => exact ⟨k + 1, by omega, by go_num, by rw [sift_yes (n := 0) hp]; exact hJ3, B1, B2, B5, by omega⟩
            case measure => simp [intOf]; omega
          · clear q0 q1 q0d q1d hy hR
            gi_wp2
            refine bodyPost_ret (results_none rfl _ _ _) rfl ?_
            refine ⟨⟨_, rfl⟩, .inr ⟨_, ?_, hJx⟩⟩
            rw [← sift_yes (n := 0) hp]
            have := sift_pre (k + 1) p (L.length - (k + 1))
            rwa [show k + 1 + (L.length - (k + 1)) = L.length by omega] at this
        · go_simp
          refine hK _ _ ?_
          clear hK K
          (try dsimp only [Act.put]); (try simp only [Act.put, List.setIfInBounds_toArray, List.set_cons_zero, List.set_cons_succ])
          refine wpAnyIn_ready (rs := [0, 3]) (by kernel_rfl) (by simp) ?_
          refine AllReadyIn.cons rfl (fun K hK => ?_) (AllReadyIn.cons rfl (fun K hK => ?_) AllReadyIn.nil)
          · go_simp
            refine hK _ _ ?_
            clear hK K
            (try dsimp only [Act.put]); (try simp only [Act.put, List.setIfInBounds_toArray, List.set_cons_zero, List.set_cons_succ])
            refine wpAnyIn_ready (rs := [3]) (by kernel_rfl) (by simp) ?_
            refine AllReadyIn.cons rfl (fun K hK => ?_) AllReadyIn.nil
            go_simp
            gi_wp2_with ((refine ⟨trivial, ?_⟩; gi_at_call 36; refine (callsIn_wide.2 HTh.out).mono ?_; rintro e w3 ⟨rfl, rfl⟩))
            (try clear hK K)
            (try dsimp only [Act.put]); (try simp only [Act.put, List.setIfInBounds_toArray, List.set_cons_zero, List.set_cons_succ])
            refine wpAnyIn_ready (rs := [4]) (by kernel_rfl) (by simp) ?_
            refine AllReadyIn.cons rfl (fun K hK => ?_) AllReadyIn.nil
            go_simp
            gi_wp2_with ((refine ⟨trivial, ?_⟩; refine (callsIn_wide.2 HI.out).mono ?_; rintro e w4 ⟨rfl, k4⟩))
            (try clear hK K)
            (try dsimp only [Act.put]); (try simp only [Act.put, List.setIfInBounds_toArray, List.set_cons_zero, List.set_cons_succ])
            refine wpAnyIn_take (i := 5) (v := ?_) rfl rfl (by kernel_rfl) (by kernel_rfl) (by kernel_rfl) (fun _ _ _ h => h) ⟨Or.inl ⟨by rfl, ?_⟩, fun _ => rfl⟩ ?_
            rotate_left
            · intro w; go_simp; try with_reducible rfl
            (try dsimp only [Act.put]); (try simp only [Act.put, List.setIfInBounds_toArray, List.set_cons_zero, List.set_cons_succ])
            refine wpAnyIn_take (i := 6) (v := ?_) rfl rfl (by kernel_rfl) (by kernel_rfl) (by kernel_rfl) (fun _ _ _ h => h) ⟨Or.inl ⟨by rfl, ?_⟩, fun _ => rfl⟩ ?_
            rotate_left
            · intro w; go_simp; try with_reducible rfl
            (try dsimp only [Act.put]); (try simp only [Act.put, List.setIfInBounds_toArray, List.set_cons_zero, List.set_cons_succ])
            refine wpAnyIn_take (i := 7) (v := ?_) rfl rfl (by kernel_rfl) (by kernel_rfl) (by kernel_rfl) (fun _ _ _ h => h) ⟨Or.inl ⟨by rfl, ?_⟩, fun _ => rfl⟩ ?_
            rotate_left
            · intro w; go_simp; try with_reducible rfl
            (try dsimp only [Act.put]); (try simp only [Act.put, List.setIfInBounds_toArray, List.set_cons_zero, List.set_cons_succ])
            have b4 : Below wr.heap.size wr w4 := bd.trans (k4.below bd.size (fun _ _ h => h.elim))
            obtain ⟨fn, tmps, assign, body, hy, hR⟩ := hY (sift k p) k w4 (hJ _ _ _ hJ2 b4) (sift_lt hlt hp)
            refine wpAnyIn_ready (rs := [8]) (by kernel_rfl) (by simp) ?_
            refine AllReadyIn.cons rfl (fun K hK => ?_) AllReadyIn.nil
            go_simp
            gi_wp2_with fail
            refine hR.mono ?_
            rintro e W5 hpost
            obtain ⟨b, rfl, hpo⟩ : ∃ b, e = .returned (.bool b) ∧ ((b = true ∧ J (sift k p ++ [k]) W5 ∧ Kd n₀ Bm Bi w4 W5) ∨ (b = false ∧ Jx (sift k p ++ [k]) W5)) := by
              rcases hpost with ⟨rfl, h1, h2⟩ | ⟨rfl, h1⟩
              · exact ⟨true, rfl, .inl ⟨rfl, h1, h2⟩⟩
              · exact ⟨false, rfl, .inr ⟨rfl, h1⟩⟩
            gi_wp2_with fail
            (try (refine hK _ _ ?_; clear hK K))
            (try dsimp only [Act.put]); (try simp only [Act.put, List.setIfInBounds_toArray, List.set_cons_zero, List.set_cons_succ])
            refine wpAnyIn_take (i := 9) (v := ?_) rfl rfl (by kernel_rfl) (by kernel_rfl) (by kernel_rfl) (fun _ _ _ h => h) ⟨Or.inl ⟨by rfl, ?_⟩, fun _ => rfl⟩ ?_
            rotate_left
            · intro w; go_simp; try with_reducible rfl
            (try dsimp only [Act.put]); (try simp only [Act.put, List.setIfInBounds_toArray, List.set_cons_zero, List.set_cons_succ])
            refine wpAnyIn_ready (rs := [10]) (by kernel_rfl) (by simp) ?_
            refine AllReadyIn.cons rfl (fun K hK => ?_) AllReadyIn.nil
            go_simp
            refine hK _ _ ?_
            clear hK K
            (try dsimp only [Act.put]); (try simp only [Act.put, List.setIfInBounds_toArray, List.set_cons_zero, List.set_cons_succ])
            refine wpAnyIn_done (by kernel_rfl) ?_ _
            have s4 := b4.size
            clear hpost
            rcases hpo with ⟨rfl, hJ3, hk3⟩ | ⟨rfl, hJx⟩
            · have B1 : Blk W5 Bm 27 #[pV M] := hk3.2.1.trans (hB1.below b4 hB1.lt)
              have B2 : Blk W5 Bi 94 #[isV fI] := hk3.2.2.trans (hB2.below b4 hB2.lt)
              have B5 : Below n₀ w0 W5 := (hB.trans (b4.mono hns)).trans hk3.1
              have s5 := hk3.1.size
              clear q0 q1 q0d q1d hy hR
              gi_wp2
              go_roundw
              case rel => exact ⟨k + 1, by omega, by go_num, by rw [sift_yes (n := 0) hp]; exact hJ3, B1, B2, B5, by omega⟩
              case measure => simp [intOf]; omega
            · clear q0 q1 q0d q1d hy hR
              gi_wp2
              refine bodyPost_ret (results_none rfl _ _ _) rfl ?_
              refine ⟨⟨_, rfl⟩, .inr ⟨_, ?_, hJx⟩⟩
              rw [← sift_yes (n := 0) hp]
              have := sift_pre (k + 1) p (L.length - (k + 1))
              rwa [show k + 1 + (L.length - (k + 1)) = L.length by omega] at this
          · go_simp
            gi_wp2_with ((refine ⟨trivial, ?_⟩; gi_at_call 36; refine (callsIn_wide.2 HTh.out).mono ?_; rintro e w3 ⟨rfl, rfl⟩))
            (try clear hK K)
            (try dsimp only [Act.put]); (try simp only [Act.put, List.setIfInBounds_toArray, List.set_cons_zero, List.set_cons_succ])
            refine wpAnyIn_ready (rs := [0]) (by kernel_rfl) (by simp) ?_
            refine AllReadyIn.cons rfl (fun K hK => ?_) AllReadyIn.nil
            go_simp
            refine hK _ _ ?_
            clear hK K
            (try dsimp only [Act.put]); (try simp only [Act.put, List.setIfInBounds_toArray, List.set_cons_zero, List.set_cons_succ])
            refine wpAnyIn_ready (rs := [4]) (by kernel_rfl) (by simp) ?_
            refine AllReadyIn.cons rfl (fun K hK => ?_) AllReadyIn.nil
            go_simp
            gi_wp2_with ((refine ⟨trivial, ?_⟩; refine (callsIn_wide.2 HI.out).mono ?_; rintro e w4 ⟨rfl, k4⟩))
            (try clear hK K)
            (try dsimp only [Act.put]); (try simp only [Act.put, List.setIfInBounds_toArray, List.set_cons_zero, List.set_cons_succ])
            refine wpAnyIn_take (i := 5) (v := ?_) rfl rfl (by kernel_rfl) (by kernel_rfl) (by kernel_rfl) (fun _ _ _ h => h) ⟨Or.inl ⟨by rfl, ?_⟩, fun _ => rfl⟩ ?_
            rotate_left
            · intro w; go_simp; try with_reducible rfl
            (try dsimp only [Act.put]); (try simp only [Act.put, List.setIfInBounds_toArray, List.set_cons_zero, List.set_cons_succ])
            refine wpAnyIn_take (i := 6) (v := ?_) rfl rfl (by kernel_rfl) (by kernel_rfl) (by kernel_rfl) (fun _ _ _ h => h) ⟨Or.inl ⟨by rfl, ?_⟩, fun _ => rfl⟩ ?_
            rotate_left
            · intro w; go_simp; try with_reducible rfl
            (try dsimp only [Act.put]); (try simp only [Act.put, List.setIfInBounds_toArray, List.set_cons_zero, List.set_cons_succ])
            refine wpAnyIn_take (i := 7) (v := ?_) rfl rfl (by kernel_rfl) (by kernel_rfl) (by kernel_rfl) (fun _ _ _ h => h) ⟨Or.inl ⟨by rfl, ?_⟩, fun _ => rfl⟩ ?_
            rotate_left
            · intro w; go_simp; try with_reducible rfl
            (try dsimp only [Act.put]); (try simp only [Act.put, List.setIfInBounds_toArray, List.set_cons_zero, List.set_cons_succ])
            have b4 : Below wr.heap.size wr w4 := bd.trans (k4.below bd.size (fun _ _ h => h.elim))
            obtain ⟨fn, tmps, assign, body, hy, hR⟩ := hY (sift k p) k w4 (hJ _ _ _ hJ2 b4) (sift_lt hlt hp)
            refine wpAnyIn_ready (rs := [8]) (by kernel_rfl) (by simp) ?_
            refine AllReadyIn.cons rfl (fun K hK => ?_) AllReadyIn.nil
            go_simp
            gi_wp2_with fail
            refine hR.mono ?_
            rintro e W5 hpost
            obtain ⟨b, rfl, hpo⟩ : ∃ b, e = .returned (.bool b) ∧ ((b = true ∧ J (sift k p ++ [k]) W5 ∧ Kd n₀ Bm Bi w4 W5) ∨ (b = false ∧ Jx (sift k p ++ [k]) W5)) := by
              rcases hpost with ⟨rfl, h1, h2⟩ | ⟨rfl, h1⟩
              · exact ⟨true, rfl, .inl ⟨rfl, h1, h2⟩⟩
              · exact ⟨false, rfl, .inr ⟨rfl, h1⟩⟩
            gi_wp2_with fail
            (try (refine hK _ _ ?_; clear hK K))
            (try dsimp only [Act.put]); (try simp only [Act.put, List.setIfInBounds_toArray, List.set_cons_zero, List.set_cons_succ])
            refine wpAnyIn_take (i := 9) (v := ?_) rfl rfl (by kernel_rfl) (by kernel_rfl) (by kernel_rfl) (fun _ _ _ h => h) ⟨Or.inl ⟨by rfl, ?_⟩, fun _ => rfl⟩ ?_
            rotate_left
            · intro w; go_simp; try with_reducible rfl
            (try dsimp only [Act.put]); (try simp only [Act.put, List.setIfInBounds_toArray, List.set_cons_zero, List.set_cons_succ])
            refine wpAnyIn_ready (rs := [10]) (by kernel_rfl) (by simp) ?_
            refine AllReadyIn.cons rfl (fun K hK => ?_) AllReadyIn.nil
            go_simp
            refine hK _ _ ?_
            clear hK K
            (try dsimp only [Act.put]); (try simp only [Act.put, List.setIfInBounds_toArray, List.set_cons_zero, List.set_cons_succ])
            refine wpAnyIn_done (by kernel_rfl) ?_ _
            have s4 := b4.size
            clear hpost
            rcases hpo with ⟨rfl, hJ3, hk3⟩ | ⟨rfl, hJx⟩
            · have B1 : Blk W5 Bm 27 #[pV M] := hk3.2.1.trans (hB1.below b4 hB1.lt)
              have B2 : Blk W5 Bi 94 #[isV fI] := hk3.2.2.trans (hB2.below b4 hB2.lt)
              have B5 : Below n₀ w0 W5 := (hB.trans (b4.mono hns)).trans hk3.1
              have s5 := hk3.1.size
              clear q0 q1 q0d q1d hy hR
              gi_wp2
              go_roundw
              case rel => exact ⟨k + 1, by omega, by go_num, by rw [sift_yes (n := 0) hp]; exact hJ3, B1, B2, B5, by omega⟩
              case measure => simp [intOf]; omega
            · clear q0 q1 q0d q1d hy hR
              gi_wp2
              refine bodyPost_ret (results_none rfl _ _ _) rfl ?_
              refine ⟨⟨_, rfl⟩, .inr ⟨_, ?_, hJx⟩⟩
              rw [← sift_yes (n := 0) hp]
              have := sift_pre (k + 1) p (L.length - (k + 1))
              rwa [show k + 1 + (L.length - (k + 1)) = L.length by omega] at this
    · have hke : k = L.length := by omega
      subst hke
      gi_wp2
      go_end0
      exact ⟨⟨_, rfl⟩, .inl ⟨_, rfl, hJ2⟩⟩
end Go.Proofs.YtpopcallphbklaaGreat
