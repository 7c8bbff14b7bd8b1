/- Contracts of package field, continued: May of any numbers; the iterator of inRow: fields in a row, one for each width. -/
import Derived.Test.YtdfnldgjgaieeaaFieldC
import Derived.RangeFuncNested
import Derived.RangeFuncBound
import Derived.RangeFuncCalls
import Derived.RangeFuncLeaves
import Derived.Shelf.Abstract
import Derived.Shelf.RegionOpen
import Derived.OwnWalkIn
import Derived.TacticsInMore
import Derived.LoopNIn
import Derived.LoopIn
namespace Go.Proofs.Ytdfnldgjgaieeaa
open Go.ChangeShapes Go.WideShapes Go.ChangeAt Go.RowKit Go.Shelf
set_option linter.unusedVariables false
attribute [local go_sem] Oper.semAt_some
/-- May, of whatever numbers -/
def mayW (a k : Int) : Bool := decide (0 ≤ a) && decide (1 ≤ k) && decide (k ≤ wrap64 (64 - a))
theorem may_any (a k : Int) (w : World) : Calls Try.prog 10 #[fld a k] w fun e w' => e = .returned (.bool (mayW a k)) ∧ Below w.heap.size w w' := by
  by_cases h1 : 0 ≤ a
  · by_cases h2 : 1 ≤ k
    · have h3 : mayW a k = decide (k ≤ wrap64 (64 - a)) := by simp [mayW, h1, h2]
      have H := Lib.hid h3
      clear h3
      by_cases h4 : k ≤ wrap64 (64 - a)
      all_goals
        go_enter Try.func10, Try.ntmps10
        go_wp2
        all_goals go_ret
        all_goals refine ⟨ret_bool ?_, by go_grown⟩
        all_goals (rw [H.out]; try simp [h4])
    · have h3 : mayW a k = false := by simp [mayW, h2]
      have H := Lib.hid h3
      clear h3
      go_enter Try.func10, Try.ntmps10
      go_wp2
      go_ret
      exact ⟨ret_bool H.out.symm, by go_grown⟩
  · have h3 : mayW a k = false := by simp [mayW, h1]
    have H := Lib.hid h3
    clear h3
    go_enter Try.func10, Try.ntmps10
    go_wp2
    go_ret
    exact ⟨ret_bool H.out.symm, by go_grown⟩
/-- fields in a row: each at the place behind the one before, as the program reckons it -/
def laidW : Int → List Int → List (Int × Int)
  | _, [] => []
  | a, k :: ks => (a, k) :: laidW (wrap64 (a + k)) ks
/-- the place behind all -/
def endW : Int → List Int → Int
  | a, [] => a
  | a, k :: ks => endW (wrap64 (a + k)) ks
theorem laidW_length (a : Int) (ks : List Int) : (laidW a ks).length = ks.length := by
  induction ks generalizing a with
  | nil => rfl
  | cons k ks ih => simp [laidW, ih]
theorem laidW_snoc (a : Int) (ks : List Int) (k : Int) : laidW a (ks ++ [k]) = laidW a ks ++ [(endW a ks, k)] := by
  induction ks generalizing a with
  | nil => rfl
  | cons j ks ih => simp [laidW, endW, ih]
theorem endW_snoc (a : Int) (ks : List Int) (k : Int) : endW a (ks ++ [k]) = wrap64 (endW a ks + k) := by
  induction ks generalizing a with
  | nil => rfl
  | cons j ks ih => simp [endW, ih]
theorem take_snoc_int (zs : List Int) (k : Nat) (h : k < zs.length) : zs.take (k + 1) = zs.take k ++ [zs.getD k 0] := by
  rw [List.take_succ_eq_append_getElem h]
  simp [List.getD_eq_getElem?_getD, h]
/-- the slice v reads as these numbers, in a block below n₀ -/
def IntsAt (w : World) (n₀ : Nat) (v : Value) (zs : List Int) : Prop :=
  ∃ a c, v = .slice a zs.length c ∧ ∀ i, i < zs.length → ∃ b off, a = some ⟨b, off, none⟩ ∧ b < n₀ ∧ w.cell? ⟨b, off + i, none⟩ = some (.int .i64 (zs.getD i 0))
theorem IntsAt.below {w w1 : World} {n₀ : Nat} {v : Value} {zs : List Int} (h : IntsAt w n₀ v zs) (hb : Below n₀ w w1) : IntsAt w1 n₀ v zs := by
  obtain ⟨a, c, e, hc⟩ := h
  refine ⟨a, c, e, fun i hi => ?_⟩
  obtain ⟨b, off, e1, e2, e3⟩ := hc i hi
  exact ⟨b, off, e1, e2, (hb.cell (p := ⟨b, off + i, none⟩) e2).trans e3⟩
theorem prefix_laid (zs : List Int) (k : Nat) : laidW 0 (zs.take k) <+: laidW 0 zs := by
  have e : zs = zs.take k ++ zs.drop k := (List.take_append_drop k zs).symm
  have key : ∀ (a : Int) (l m : List Int), laidW a l <+: laidW a (l ++ m) := by
    intro a l m
    induction l generalizing a with
    | nil => exact List.nil_prefix
    | cons j l ih => simp only [List.cons_append, laidW]; exact (List.cons_prefix_cons).2 ⟨rfl, ih _⟩
  rw [congrArg (laidW 0) e]
  exact key 0 _ _
set_option maxRecDepth 100000 in
set_option maxHeartbeats 1000000 in
/-- THE ITERATOR: for every loop body that keeps what lay below n₀ -/
theorem inRow1_in (F : Fence) (n : Nat) (h6 : F.fn 25) (hro : F.round = none) (hn : 1 ≤ n) (l Bn n₀ : Nat) (v : Value) (zs : List Int) (hlen : zs.length ≤ 4096) (J Jx : List (Int × Int) → World → Prop)
    (hY : ∀ pre x W, J pre W → pre.length < zs.length → YieldAt F (n - 1) Try.prog l #[fld x.1 x.2] W fun e W' =>
      (e = .returned (.bool true) ∧ J (pre ++ [x]) W' ∧ Below n₀ W W') ∨ (e = .returned (.bool false) ∧ Jx (pre ++ [x]) W'))
    (hJb : ∀ pre W o, J pre W → J pre (W.alloc o))
    (W : World) (hn0 : n₀ ≤ W.heap.size) (hBn : W.cell? ⟨Bn, 0, none⟩ = some v) (hL : IntsAt W n₀ v zs) (h0 : J [] W) :
    CallsIn F n Try.prog 25 #[.func (.yield l) #[] #[], .pointer (some ⟨Bn, 0, none⟩)] W fun e W' => (∃ v, e = .returned v) ∧
      ((∃ ys, ys = laidW 0 zs ∧ J ys W') ∨ (∃ pre, pre <+: laidW 0 zs ∧ Jx pre W')) := by
  obtain ⟨a, c, rfl, hcs⟩ := hL
  have hcell : ∀ i, i < zs.length → ∃ b off, a = some ⟨b, off, none⟩ ∧ b < n₀ ∧ W.cell? ⟨b, off + i, none⟩ = some (.int .i64 (zs.getD i 0)) := hcs
  have HC := Lib.hid hcell
  clear hcell hcs
  refine callsIn_of_wp Try.func25 rfl h6 ?_ hro
  simp only [Try.ntmps25, List.size_toArray, List.length_cons, List.length_nil, Nat.reduceAdd, Nat.reduceSub, Array.replicate_succ, Array.replicate_zero, List.push_toArray, List.append_toArray, List.nil_append, List.cons_append]
  gi_wp2
  gi_loopw [3, 9] (fun p i wr => ∃ k : Nat, k ≤ zs.length ∧ i = .int .i64 k ∧ p = .int .i64 (endW 0 (zs.take k)) ∧ J (laidW 0 (zs.take k)) wr ∧ Below n₀ W wr)
    (fun p i wr => zs.length - (intOf i).toNat)
  case atStart =>
    exact ⟨0, Nat.zero_le _, rfl, rfl, h0, Below.refl _ _⟩
  case round =>
    obtain ⟨k, hk, rfl, rfl, hJ, hB⟩ := hrel
    by_cases hlt : k < zs.length
    · obtain ⟨b, off, ea, hb, hcl⟩ := HC.out k hlt
      subst ea
      have hcl2 : wr.cell? ⟨b, off + k, none⟩ = some (.int .i64 (zs.getD k 0)) := (hB.cell (p := ⟨b, off + k, none⟩) hb).trans hcl
      have hlt1 : (laidW 0 (zs.take k)).length < zs.length := by rw [laidW_length, List.length_take]; omega
      obtain ⟨fn, tmps, assign, body, hy, hR⟩ := hY (laidW 0 (zs.take k)) (endW 0 (zs.take k), zs.getD k 0) _ (hJb _ wr (.cells #[.int .i64 (endW 0 (zs.take k)), .int .i64 (zs.getD k 0)] 25) hJ) hlt1
      dsimp only at hy
      have hts := take_snoc_int zs k hlt
      have HS := Lib.hid hts
      clear hts
      have hls := laidW_snoc 0 (zs.take k) (zs.getD k 0)
      have hes := endW_snoc 0 (zs.take k) (zs.getD k 0)
      rw [← HS.out] at hls hes
      generalize hp : endW 0 (zs.take k) = p0 at *
      have HL := Lib.hid hls
      have HE := Lib.hid hes
      clear hp hls hes hcl HC HS
      generalize zs.getD k 0 = z at *
      have hm1 : 0 ≤ (k : Int) := by omega
      have hkm : (k : Int) + 1 ≤ 4096 := by omega
      gi_wp2
      refine hR.mono ?_
      rintro e W3 (⟨rfl, hJ3, hk3⟩ | ⟨rfl, hJx3⟩)
      · have hB3 : Below n₀ W W3 := (hB.alloc (by have := hB.size; omega) _).trans hk3
        rw [← HL.out] at hJ3
        gi_wp2
        go_roundw
        case rel => exact ⟨k + 1, by omega, by go_num, by rw [HE.out], hJ3, hB3⟩
        case measure => simp [intOf]; omega
      · rw [← HL.out] at hJx3
        gi_wp2
        refine bodyPost_ret (results_none rfl _ _ _) rfl ?_
        exact ⟨⟨_, rfl⟩, .inr ⟨_, prefix_laid zs (k + 1), hJx3⟩⟩
    · have hke : k = zs.length := by omega
      have HE := Lib.hid hke
      clear hke
      gi_wp2
      go_end0
      refine ⟨⟨_, rfl⟩, .inl ⟨_, rfl, ?_⟩⟩
      rw [HE.out, List.take_length] at hJ
      exact hJ
theorem inRow_in (F : Fence) (n : Nat) (h5 : F.fn 24) (hro : F.round = none) (v : Value) (h1 : v.oneCell' = true) (w : World) :
    CallsIn F n Try.prog 24 #[v] w fun e w' => e = .returned (.func (.func 25) #[] #[.pointer (some ⟨w.heap.size, 0, none⟩)]) ∧ w' = w.alloc (.cells #[v] 40) := by
  have hv : v.cells = #[v] := by cases v <;> simp_all [Value.oneCell', Value.cells]
  refine callsIn_of_wp Try.func24 rfl h5 ?_ hro
  simp only [Try.ntmps24, List.size_toArray, List.length_cons, List.length_nil, Nat.reduceAdd, Nat.reduceSub, Array.replicate_succ, Array.replicate_zero, List.push_toArray, List.append_toArray, List.nil_append, List.cons_append]
  gi_wp2
  go_ret
  exact ⟨rfl, by simp⟩
theorem inRow1_stops (F : Fence) (n : Nat) (h6 : F.fn 25) (hro : F.round = none) (hn : 1 ≤ n) (Bn n₀ : Nat) (v : Value) (zs : List Int) (hlen : zs.length ≤ 4096) (w : World) (hBn : Bn < w.heap.size) (hn₀ : n₀ ≤ w.heap.size)
    (hc : w.cell? ⟨Bn, 0, none⟩ = some v) (hL : IntsAt w n₀ v zs) :
    SeqStopsK F n Try.prog 25 #[.pointer (some ⟨Bn, 0, none⟩)] (fun x : Int × Int => #[fld x.1 x.2]) (Below n₀) (fun ys => ys = laidW 0 zs) (fun pre => pre <+: laidW 0 zs) zs.length w := fun l J Jx W hW hJ _ hY h0 =>
  inRow1_in F n h6 hro hn l Bn n₀ v zs hlen J Jx hY (fun pre W o h => hJ pre W _ none h (World.grownBy_alloc W o none) (fun r e => by cases e)) W (Nat.le_trans hn₀ hW.size) ((hW.cell (p := ⟨Bn, 0, none⟩) hBn).trans hc) (hL.below (hW.mono hn₀)) h0
end Go.Proofs.Ytdfnldgjgaieeaa
