/- The document's own answers of layer 7 (doorkeeperref07): Decode, round, Fill. -/
import Derived.Test.YtkmadabpfialbaaGreatDoorScSame
namespace Go.Proofs.YtkmadabpfialbaaGreatDoor
open Go.ChangeShapes Go.WideShapes Go.ChangeAt Go.RowKit Go.Maps
set_option linter.unusedVariables false
set_option maxRecDepth 100000
set_option linter.unusedSimpArgs false
theorem take_snocP (l : List Pk) (k : Nat) (p : Pk) (h : l[k]? = some p) : l.take (k + 1) = l.take k ++ [p] := by
  rw [List.take_add_one, h]; rfl
theorem grown_belowP {w w2 : World} {base : Nat} {e : TypeId} {n k : Nat} {v : Value} {xs : List Value} {o : Obj} (hg : (w.alloc o).grownBy w2 v.ownBlock) (hrow : w.ownsRow base e n v k xs) (hh : base ≤ w.heap.size) : Below base w w2 :=
  ⟨hg.os, hg.tape, hg.output, by have := hg.size; simp at this; omega, fun i hi => by
    rw [hg.block i (by simp; omega) (fun e => by
      rcases hrow.2 with ⟨rfl, _⟩ | ⟨g, cap, cur, rfl, hb, _⟩
      · cases e
      · simp [Value.ownBlock] at e; omega)]
    exact Below.heap_alloc w o i (by omega)⟩
set_option maxHeartbeats 4000000 in
theorem rdecode_any (s : ByteArray) (w : World) (hs : s.size ≤ 1000) :
    Calls Tryz.prog 7 #[.string s] w fun e w' => ∃ v, e = .returned v ∧ Below w.heap.size w w' ∧ w'.ownsRow w.heap.size 46 2 v (decodeL s).length (pkCells (decodeL s)) := by
  obtain ⟨i0, hi, hz0, hz1, hz2⟩ := info_parts picks_info
  have hl := decodeL_len s
  go_enter Tryz.func7, Tryz.ntmps7
  go_wp2
  go_loopw [3, 4] (fun v i wr => ∃ k : Nat, k ≤ s.size ∧ i = .int .i64 (k : Int) ∧ wr.ownsRow w.heap.size 46 2 v k (pkCells ((decodeL s).take k)) ∧ Below w.heap.size w wr)
    (fun _ i _ => s.size - (intOf i).toNat)
  case atStart => exact ⟨0, by omega, rfl, World.ownsRow_nil _ _ _ _, Below.refl _ _⟩
  case round =>
    obtain ⟨k, hk, rfl, hrow, hb⟩ := hrel
    by_cases hlt : k < s.size
    · have hix := fun W => str_at s k W hlt
      obtain ⟨b, hbv⟩ : ∃ b : Int, b = ((s.data.toList.getD k 0).toNat : Int) := ⟨_, rfl⟩
      rw [← hbv] at hix
      have hb0 : 0 ≤ b := by omega
      have hb1 : b ≤ 255 := by have := (s.data.toList.getD k 0).toNat_lt; omega
      have HL := Lib.hid (show (decodeL s)[k]? = some (b % 64, kindD b) by
        have hk2 : k < s.data.toList.length := by simpa using hlt
        rw [hbv]
        simp [decodeL, decodeB, List.getD_eq_getElem?_getD, List.getElem?_eq_getElem hk2])
      have HB := Lib.hid hbv
      have hh := hb.size
      clear hbv
      have hdv : b / 64 = 3 ∨ b / 64 = 2 ∨ ¬ b / 64 = 3 ∧ ¬ b / 64 = 2 := by omega
      go_upto_region 6 with fail
      have hX0 : Blk (wr.alloc (.cells #[.int .i64 (b % 64), .int .i64 0] 46)) wr.heap.size 46 #[.int .i64 (b % 64), .int .i64 0] := Blk.new _ _ _
      have k0 : Keep (fun _ => False) wr (wr.alloc (.cells #[.int .i64 (b % 64), .int .i64 0] 46)) := (Keep.refl _ _).alloc _
      generalize wr.alloc (.cells #[.int .i64 (b % 64), .int .i64 0] 46) = W0 at *
      have x1 : W0.cell? ⟨wr.heap.size, 1, none⟩ = some (.int .i64 0) := hX0.cell 1 _ rfl
      have z1 := hX0.free 1
      rcases hdv with e | e | ⟨e, e'⟩
      · go_upto_region 10 with fail
        have HX := hX0.set 1 (.int .i64 1)
        replace k0 := k0.set (p := ⟨wr.heap.size, 1, none⟩) (fun h => absurd h (Nat.lt_irrefl _)) (.int .i64 1)
        clear x1 z1 hX0
        generalize W0.setCell ⟨wr.heap.size, 1, none⟩ (.int .i64 1) = W1 at *
        have x0 : W1.cell? ⟨wr.heap.size, 0, none⟩ = some (.int .i64 (b % 64)) := HX.cell 0 _ rfl
        have x1 : W1.cell? ⟨wr.heap.size, 1, none⟩ = some (.int .i64 1) := HX.cell 1 _ rfl
        have hrow1 := ownsRow_below hrow (k0.below (Nat.le_refl _) (fun _ _ h => h.elim))
        have hb1 := hb.trans (k0.below hh (fun _ _ h => h.elim))
        have hh1 := hb1.size
        have HZ : Hid (kindD b = 1) := Lib.hid (by simp [kindD, e])
        clear HX k0 e
        go_wp2_with (at_builtin; refine wpList_append_own _ rfl _ _ 22 rfl w.heap.size 46 i0 (.agg #[.int .i64 0, .int .i64 0]) 2 16 Tryz.underlying22 hi hz0 hz1 hz2 rfl (by decide) _ _ _ rfl (hrow1.alloc _) ⟨W1.heap.size, 0, none⟩ 1 1 [.int .i64 (b % 64), .int .i64 1] rfl rfl (cell_two_new' _ _ _ _) (by simp [Value.oneCell']) (by unfold maxLen; omega) (by omega) (by simp; omega) ?_; intro v' w6 hown' hgrow _; have hgb := grown_belowP hgrow hrow1 hh1)
        go_roundw
        case rel =>
          have hT := HL.out
          rw [HZ.out] at hT
          refine ⟨k + 1, by omega, by go_num, ?_, hb1.trans hgb⟩
          rw [take_snocP _ _ _ hT, pkCells_snoc]
          exact hown'
        case measure => simp [intOf]; omega
      · go_upto_region 10 with fail
        have HX := hX0.set 1 (.int .i64 2)
        replace k0 := k0.set (p := ⟨wr.heap.size, 1, none⟩) (fun h => absurd h (Nat.lt_irrefl _)) (.int .i64 2)
        clear x1 z1 hX0
        generalize W0.setCell ⟨wr.heap.size, 1, none⟩ (.int .i64 2) = W1 at *
        have x0 : W1.cell? ⟨wr.heap.size, 0, none⟩ = some (.int .i64 (b % 64)) := HX.cell 0 _ rfl
        have x1 : W1.cell? ⟨wr.heap.size, 1, none⟩ = some (.int .i64 2) := HX.cell 1 _ rfl
        have hrow1 := ownsRow_below hrow (k0.below (Nat.le_refl _) (fun _ _ h => h.elim))
        have hb1 := hb.trans (k0.below hh (fun _ _ h => h.elim))
        have hh1 := hb1.size
        have HZ : Hid (kindD b = 2) := Lib.hid (by simp [kindD, e])
        clear HX k0 e
        go_wp2_with (at_builtin; refine wpList_append_own _ rfl _ _ 22 rfl w.heap.size 46 i0 (.agg #[.int .i64 0, .int .i64 0]) 2 16 Tryz.underlying22 hi hz0 hz1 hz2 rfl (by decide) _ _ _ rfl (hrow1.alloc _) ⟨W1.heap.size, 0, none⟩ 1 1 [.int .i64 (b % 64), .int .i64 2] rfl rfl (cell_two_new' _ _ _ _) (by simp [Value.oneCell']) (by unfold maxLen; omega) (by omega) (by simp; omega) ?_; intro v' w6 hown' hgrow _; have hgb := grown_belowP hgrow hrow1 hh1)
        go_roundw
        case rel =>
          have hT := HL.out
          rw [HZ.out] at hT
          refine ⟨k + 1, by omega, by go_num, ?_, hb1.trans hgb⟩
          rw [take_snocP _ _ _ hT, pkCells_snoc]
          exact hown'
        case measure => simp [intOf]; omega
      · go_upto_region 10 with fail
        have HX := hX0
        clear x1 z1 hX0
        generalize W0 = W1 at *
        have x0 : W1.cell? ⟨wr.heap.size, 0, none⟩ = some (.int .i64 (b % 64)) := HX.cell 0 _ rfl
        have x1 : W1.cell? ⟨wr.heap.size, 1, none⟩ = some (.int .i64 0) := HX.cell 1 _ rfl
        have hrow1 := ownsRow_below hrow (k0.below (Nat.le_refl _) (fun _ _ h => h.elim))
        have hb1 := hb.trans (k0.below hh (fun _ _ h => h.elim))
        have hh1 := hb1.size
        have HZ : Hid (kindD b = 0) := Lib.hid (by simp [kindD, e, e'])
        clear HX k0 e e'
        go_wp2_with (at_builtin; refine wpList_append_own _ rfl _ _ 22 rfl w.heap.size 46 i0 (.agg #[.int .i64 0, .int .i64 0]) 2 16 Tryz.underlying22 hi hz0 hz1 hz2 rfl (by decide) _ _ _ rfl (hrow1.alloc _) ⟨W1.heap.size, 0, none⟩ 1 1 [.int .i64 (b % 64), .int .i64 0] rfl rfl (cell_two_new' _ _ _ _) (by simp [Value.oneCell']) (by unfold maxLen; omega) (by omega) (by simp; omega) ?_; intro v' w6 hown' hgrow _; have hgb := grown_belowP hgrow hrow1 hh1)
        go_roundw
        case rel =>
          have hT := HL.out
          rw [HZ.out] at hT
          refine ⟨k + 1, by omega, by go_num, ?_, hb1.trans hgb⟩
          rw [take_snocP _ _ _ hT, pkCells_snoc]
          exact hown'
        case measure => simp [intOf]; omega
    · have hke : k = s.size := by omega
      subst hke
      go_wp2
      go_ret
      refine ⟨_, rfl, hb, ?_⟩
      rw [List.take_of_length_le (by omega), ← hl] at hrow
      exact hrow
end Go.Proofs.YtkmadabpfialbaaGreatDoor
