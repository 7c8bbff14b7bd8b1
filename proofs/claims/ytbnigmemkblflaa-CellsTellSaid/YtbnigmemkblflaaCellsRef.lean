/- An act, on the document's cells (doorkeeperref03). -/
import Derived.Test.YtbnigmemkblflaaCellsDo
namespace Go.Proofs.Ytbnigmemkblflaa
open Go.ChangeShapes Go.WideShapes Go.ChangeAt Go.RowKit
set_option linter.unusedVariables false
set_option linter.unusedSimpArgs false
/-- the document's cells -/
structure RefAt (w : World) (R S : Nat) (l : List Int) (k : Int) : Prop where
  own : Blk w R 28 #[rowV S l.length, .int .i64 k]
  row : Blk w S 31 (words l)
  ne : R ≠ S
  few : l.length ≤ 16777216
theorem RefAt.keep {w w1 : World} {C S : Nat} {l : List Int} {k : Int} {Q : Nat → Prop} (h : RefAt w C S l k) (hk : Keep Q w w1) (h1 : ¬ Q C) (h2 : ¬ Q S) : RefAt w1 C S l k :=
  ⟨h.own.keep hk h1, h.row.keep hk h2, h.ne, h.few⟩
theorem there_no (R S : Nat) (l : List Int) (k I : Int) (w : World) (hR : RefAt w R S l k) (h : I < 0 ∨ l.length ≤ I) :
    Calls Try.prog 22 #[cellsV R, .int .i64 I] w fun e w' => e = .returned (.bool false) ∧ w = w' := by
  have hm := hR.few
  have r0 := hR.own.cell 0 _ rfl
  generalize l.length = n at *
  rcases h with h | h
  · go_enter Try.func22, Try.ntmps22
    go_wp2
    go_ret
    exact ⟨rfl, rfl⟩
  · have h0 : ¬ I < 0 := by omega
    go_enter Try.func22, Try.ntmps22
    go_wp2
    go_ret
    exact ⟨rfl, rfl⟩
theorem there_yes (R S : Nat) (l : List Int) (k : Int) (i : Nat) (w : World) (hR : RefAt w R S l k) (h : i < l.length) (h0 : 0 ≤ k) (h1 : k < 9223372036854775807) :
    Calls Try.prog 22 #[cellsV R, .int .i64 i] w fun e w' => e = .returned (.bool true) ∧ w.setCell ⟨R, 1, none⟩ (.int .i64 (k + 1)) = w' := by
  have hm := hR.few
  have r0 := hR.own.cell 0 _ rfl
  have r1 := hR.own.cell 1 _ rfl
  have rf := hR.own.free 1
  generalize hn : l.length = n at *
  go_enter Try.func22, Try.ntmps22
  go_wp2
  go_ret
  exact ⟨rfl, rfl⟩
theorem RefAt.one {w : World} {R S : Nat} {l : List Int} {k : Int} (h : RefAt w R S l k) (k' : Int) : RefAt (w.setCell ⟨R, 1, none⟩ (.int .i64 k')) R S l k' :=
  ⟨h.own.set 1 _, h.row.far (Ne.symm h.ne) _ _, h.ne, h.few⟩
def RefPost (w : World) (C S : Nat) (l : List Int) (k : Int) (a : Int × List Int × Int) (e : Ending) (w' : World) : Prop :=
  e = .returned (.int .u64 a.1) ∧ RefAt w' C S a.2.1 (k + a.2.2) ∧ Keep (ofCells C S) w w'
set_option maxHeartbeats 1000000 in
theorem rdo_no (C S : Nat) (l : List Int) (k W I V N : Int) (w : World) (hC : RefAt w C S l k) (i0 : -128 ≤ I) (i1 : I ≤ 127) (h : I < 0 ∨ l.length ≤ I) :
    Calls Try.prog 10 #[cellsV C, actV W I V N] w (RefPost w C S l k (0, l, 0)) := by
  have hbox : Below w.heap.size w (w.alloc (.cells #[.int .u8 W, .int .i8 I, .int .u64 V, .int .u64 N] 35)) := (Below.refl _ _).alloc (Nat.le_refl _) _
  have hC1 := hC.keep (Keep.ofBelow (Q := fun _ => False) hbox) (fun h => h) (fun h => h)
  have L := Lib.hid (there_no C S l k I _ hC1 h)
  clear h
  go_enter Try.func10, Try.ntmps10
  go_wp2_with (go_at_call 22; refine L.out.mono ?_; rintro e w2 ⟨rfl, rfl⟩)
  go_ret
  exact ⟨rfl, by simpa using hC1, Keep.ofBelow hbox⟩
set_option maxHeartbeats 2000000 in
theorem rdo_load (C S : Nat) (l : List Int) (k W V N x : Int) (i : Nat) (w : World) (hC : RefAt w C S l k) (w0 : 0 ≤ W) (w1 : W ≤ 255) (i1 : (i : Int) ≤ 127) (h0 : 0 ≤ k) (h1 : k < 9223372036854775807) (hx : l[i]? = some x) (hm : W % 4 = 0) :
    Calls Try.prog 10 #[cellsV C, actV W i V N] w (RefPost w C S l k (x, l, 1)) := by
  have hlt : i < l.length := by rw [List.getElem?_eq_some_iff] at hx; exact hx.1
  have hCl := hC.own.lt
  have hbox : Keep (ofCells C S) w (w.alloc (.cells #[.int .u8 W, .int .i8 i, .int .u64 V, .int .u64 N] 35)) := (Keep.refl _ _).alloc _
  have hC1 := hC.keep (Keep.ofBelow (Q := fun _ => False) ((Below.refl _ w).alloc (Nat.le_refl _) (.cells #[.int .u8 W, .int .i8 i, .int .u64 V, .int .u64 N] 35))) (fun h => h) (fun h => h)
  have L := Lib.hid (there_yes C S l k i _ hC1 hlt h0 h1)
  have hC2 := hC1.one (k + 1)
  have hx2 : Blk ((w.alloc (.cells #[.int .u8 W, .int .i8 i, .int .u64 V, .int .u64 N] 35)).setCell ⟨C, 1, none⟩ (.int .i64 (k + 1))) w.heap.size 35 #[.int .u8 W, .int .i8 i, .int .u64 V, .int .u64 N] := (Blk.new w _ _).far (by omega) _ _
  have hK : Keep (ofCells C S) w ((w.alloc (.cells #[.int .u8 W, .int .i8 i, .int .u64 V, .int .u64 N] 35)).setCell ⟨C, 1, none⟩ (.int .i64 (k + 1))) := hbox.set (fun _ => .inl rfl) _
  have i0 : 0 ≤ (i : Int) := by omega
  have i2 : 0 ≤ (i : Int) ∧ (i : Int) < l.length := by omega
  have L2 := Lib.hid (L.out.mono (R' := fun e w' => e = .returned (.bool true) ∧ RefAt w' C S l (k + 1) ∧ Blk w' w.heap.size 35 #[.int .u8 W, .int .i8 i, .int .u64 V, .int .u64 N] ∧ Keep (ofCells C S) w w') fun e w' h => ⟨h.1, h.2 ▸ hC2, h.2 ▸ hx2, h.2 ▸ hK⟩)
  clear hK hC1 hbox hC2 hx2 L
  go_enter Try.func10, Try.ntmps10
  go_upto_region 4 with (go_at_call 22; refine L2.out.mono ?_; rintro e W2 ⟨rfl, hC2, hx2, hK⟩)
  clear L2 hC hCl
  have x0 := hx2.cell 0 _ rfl
  have x2 := hx2.cell 2 _ rfl
  have x3 := hx2.cell 3 _ rfl
  have r0 := hC2.own.cell 0 _ rfl
  have c0 := hC2.row.cell i _ (words_at hx)
  have cf := hC2.row.free i
  have HX := Lib.hid hx
  have hmm := hC2.few
  clear hx
  go_wp2_with fail
  go_ret
  exact ⟨rfl, hC2, hK⟩
set_option maxHeartbeats 2000000 in
theorem rdo_store (C S : Nat) (l : List Int) (k W V N x : Int) (i : Nat) (w : World) (hC : RefAt w C S l k) (w0 : 0 ≤ W) (w1 : W ≤ 255) (i1 : (i : Int) ≤ 127) (h0 : 0 ≤ k) (h1 : k < 9223372036854775807) (hx : l[i]? = some x) (hm : W % 4 = 1) :
    Calls Try.prog 10 #[cellsV C, actV W i V N] w (RefPost w C S l k (1, l.set i V, 1)) := by
  have hlt : i < l.length := by rw [List.getElem?_eq_some_iff] at hx; exact hx.1
  have hCl := hC.own.lt
  have hbox : Keep (ofCells C S) w (w.alloc (.cells #[.int .u8 W, .int .i8 i, .int .u64 V, .int .u64 N] 35)) := (Keep.refl _ _).alloc _
  have hC1 := hC.keep (Keep.ofBelow (Q := fun _ => False) ((Below.refl _ w).alloc (Nat.le_refl _) (.cells #[.int .u8 W, .int .i8 i, .int .u64 V, .int .u64 N] 35))) (fun h => h) (fun h => h)
  have L := Lib.hid (there_yes C S l k i _ hC1 hlt h0 h1)
  have hC2 := hC1.one (k + 1)
  have hx2 : Blk ((w.alloc (.cells #[.int .u8 W, .int .i8 i, .int .u64 V, .int .u64 N] 35)).setCell ⟨C, 1, none⟩ (.int .i64 (k + 1))) w.heap.size 35 #[.int .u8 W, .int .i8 i, .int .u64 V, .int .u64 N] := (Blk.new w _ _).far (by omega) _ _
  have hK : Keep (ofCells C S) w ((w.alloc (.cells #[.int .u8 W, .int .i8 i, .int .u64 V, .int .u64 N] 35)).setCell ⟨C, 1, none⟩ (.int .i64 (k + 1))) := hbox.set (fun _ => .inl rfl) _
  have i0 : 0 ≤ (i : Int) := by omega
  have i2 : 0 ≤ (i : Int) ∧ (i : Int) < l.length := by omega
  have L2 := Lib.hid (L.out.mono (R' := fun e w' => e = .returned (.bool true) ∧ RefAt w' C S l (k + 1) ∧ Blk w' w.heap.size 35 #[.int .u8 W, .int .i8 i, .int .u64 V, .int .u64 N] ∧ Keep (ofCells C S) w w') fun e w' h => ⟨h.1, h.2 ▸ hC2, h.2 ▸ hx2, h.2 ▸ hK⟩)
  clear hK hC1 hbox hC2 hx2 L
  go_enter Try.func10, Try.ntmps10
  go_upto_region 4 with (go_at_call 22; refine L2.out.mono ?_; rintro e W2 ⟨rfl, hC2, hx2, hK⟩)
  clear L2 hC hCl
  have x0 := hx2.cell 0 _ rfl
  have x2 := hx2.cell 2 _ rfl
  have x3 := hx2.cell 3 _ rfl
  have r0 := hC2.own.cell 0 _ rfl
  have c0 := hC2.row.cell i _ (words_at hx)
  have cf := hC2.row.free i
  have HX := Lib.hid hx
  have hmm := hC2.few
  clear hx
  have hC3 := hC2
  have hK3 := hK
  clear hC2 hK
  generalize W2 = W3 at *
  go_upto_region 8 with fail
  go_still_tail 8, (by kernel_rfl)
  change wpList _ _ _ _ _ W3.drew
  have hC4 : RefAt W3.drew C S l (k + 1) := hC3.keep (Q := fun _ => False) ((Keep.refl _ _).drew) (fun h => h) (fun h => h)
  have hK4 := hK3.drew
  clear x0 x2 x3 r0 c0 cf hC3 hK3
  generalize W3.drew = W4 at *
  have c0 := hC4.row.cell i _ (words_at HX.out)
  have cf := hC4.row.free i
  go_wp2_with fail
  go_ret
  refine ⟨rfl, ⟨?_, ?_, hC4.ne, ?_⟩, hK4.set (fun _ => .inr rfl) _⟩
  · rw [List.length_set]; exact hC4.own.far hC4.ne _ _
  · rw [← words_set]; exact hC4.row.set i _
  · rw [List.length_set]; exact hC4.few
set_option maxHeartbeats 2000000 in
theorem rdo_swap1 (C S : Nat) (l : List Int) (k W V N : Int) (i : Nat) (w : World) (hC : RefAt w C S l k) (w0 : 0 ≤ W) (w1 : W ≤ 255) (i1 : (i : Int) ≤ 127) (h0 : 0 ≤ k) (h1 : k < 9223372036854775807) (hx : l[i]? = some V) (hm : W % 4 = 2) :
    Calls Try.prog 10 #[cellsV C, actV W i V N] w (RefPost w C S l k (1, l.set i N, 1)) := by
  have hlt : i < l.length := by rw [List.getElem?_eq_some_iff] at hx; exact hx.1
  have hCl := hC.own.lt
  have hbox : Keep (ofCells C S) w (w.alloc (.cells #[.int .u8 W, .int .i8 i, .int .u64 V, .int .u64 N] 35)) := (Keep.refl _ _).alloc _
  have hC1 := hC.keep (Keep.ofBelow (Q := fun _ => False) ((Below.refl _ w).alloc (Nat.le_refl _) (.cells #[.int .u8 W, .int .i8 i, .int .u64 V, .int .u64 N] 35))) (fun h => h) (fun h => h)
  have L := Lib.hid (there_yes C S l k i _ hC1 hlt h0 h1)
  have hC2 := hC1.one (k + 1)
  have hx2 : Blk ((w.alloc (.cells #[.int .u8 W, .int .i8 i, .int .u64 V, .int .u64 N] 35)).setCell ⟨C, 1, none⟩ (.int .i64 (k + 1))) w.heap.size 35 #[.int .u8 W, .int .i8 i, .int .u64 V, .int .u64 N] := (Blk.new w _ _).far (by omega) _ _
  have hK : Keep (ofCells C S) w ((w.alloc (.cells #[.int .u8 W, .int .i8 i, .int .u64 V, .int .u64 N] 35)).setCell ⟨C, 1, none⟩ (.int .i64 (k + 1))) := hbox.set (fun _ => .inl rfl) _
  have i0 : 0 ≤ (i : Int) := by omega
  have i2 : 0 ≤ (i : Int) ∧ (i : Int) < l.length := by omega
  have L2 := Lib.hid (L.out.mono (R' := fun e w' => e = .returned (.bool true) ∧ RefAt w' C S l (k + 1) ∧ Blk w' w.heap.size 35 #[.int .u8 W, .int .i8 i, .int .u64 V, .int .u64 N] ∧ Keep (ofCells C S) w w') fun e w' h => ⟨h.1, h.2 ▸ hC2, h.2 ▸ hx2, h.2 ▸ hK⟩)
  clear hK hC1 hbox hC2 hx2 L
  go_enter Try.func10, Try.ntmps10
  go_upto_region 4 with (go_at_call 22; refine L2.out.mono ?_; rintro e W2 ⟨rfl, hC2, hx2, hK⟩)
  clear L2 hC hCl
  have x0 := hx2.cell 0 _ rfl
  have x2 := hx2.cell 2 _ rfl
  have x3 := hx2.cell 3 _ rfl
  have r0 := hC2.own.cell 0 _ rfl
  have c0 := hC2.row.cell i _ (words_at hx)
  have cf := hC2.row.free i
  have HX := Lib.hid hx
  have hmm := hC2.few
  clear hx
  go_upto_region 11 with fail
  go_quiet (fail)
  go_upto_region 13 with fail
  clear x0 x2 x3 r0 c0 cf
  have hC3 : RefAt (W2.drewN nq) C S l (k + 1) := hC2.keep (Q := fun _ => False) ((Keep.refl _ _).drewN _) (fun h => h) (fun h => h)
  have hx3 := hx2.drewN nq
  have hK3 := hK.drewN nq
  clear hC2 hx2 hK
  generalize W2.drewN nq = W3 at *
  have x3 := hx3.cell 3 _ rfl
  have r0 := hC3.own.cell 0 _ rfl
  have c0 := hC3.row.cell i _ (words_at HX.out)
  go_still_tail 8, (by kernel_rfl)
  change wpList _ _ _ _ _ W3.drew
  have hC4 : RefAt W3.drew C S l (k + 1) := hC3.keep (Q := fun _ => False) ((Keep.refl _ _).drew) (fun h => h) (fun h => h)
  have hK4 := hK3.drew
  clear x3 r0 c0 hC3 hK3
  generalize W3.drew = W4 at *
  have c0 := hC4.row.cell i _ (words_at HX.out)
  have cf := hC4.row.free i
  go_wp2_with fail
  go_ret
  refine ⟨rfl, ⟨?_, ?_, hC4.ne, ?_⟩, hK4.set (fun _ => .inr rfl) _⟩
  · rw [List.length_set]; exact hC4.own.far hC4.ne _ _
  · rw [← words_set]; exact hC4.row.set i _
  · rw [List.length_set]; exact hC4.few
set_option maxHeartbeats 2000000 in
theorem rdo_swap0 (C S : Nat) (l : List Int) (k W V N x : Int) (i : Nat) (w : World) (hC : RefAt w C S l k) (w0 : 0 ≤ W) (w1 : W ≤ 255) (i1 : (i : Int) ≤ 127) (h0 : 0 ≤ k) (h1 : k < 9223372036854775807) (hx : l[i]? = some x) (hne : (x != V) = true) (hm : W % 4 = 2) :
    Calls Try.prog 10 #[cellsV C, actV W i V N] w (RefPost w C S l k (0, l, 1)) := by
  have hlt : i < l.length := by rw [List.getElem?_eq_some_iff] at hx; exact hx.1
  have hCl := hC.own.lt
  have hbox : Keep (ofCells C S) w (w.alloc (.cells #[.int .u8 W, .int .i8 i, .int .u64 V, .int .u64 N] 35)) := (Keep.refl _ _).alloc _
  have hC1 := hC.keep (Keep.ofBelow (Q := fun _ => False) ((Below.refl _ w).alloc (Nat.le_refl _) (.cells #[.int .u8 W, .int .i8 i, .int .u64 V, .int .u64 N] 35))) (fun h => h) (fun h => h)
  have L := Lib.hid (there_yes C S l k i _ hC1 hlt h0 h1)
  have hC2 := hC1.one (k + 1)
  have hx2 : Blk ((w.alloc (.cells #[.int .u8 W, .int .i8 i, .int .u64 V, .int .u64 N] 35)).setCell ⟨C, 1, none⟩ (.int .i64 (k + 1))) w.heap.size 35 #[.int .u8 W, .int .i8 i, .int .u64 V, .int .u64 N] := (Blk.new w _ _).far (by omega) _ _
  have hK : Keep (ofCells C S) w ((w.alloc (.cells #[.int .u8 W, .int .i8 i, .int .u64 V, .int .u64 N] 35)).setCell ⟨C, 1, none⟩ (.int .i64 (k + 1))) := hbox.set (fun _ => .inl rfl) _
  have i0 : 0 ≤ (i : Int) := by omega
  have i2 : 0 ≤ (i : Int) ∧ (i : Int) < l.length := by omega
  have L2 := Lib.hid (L.out.mono (R' := fun e w' => e = .returned (.bool true) ∧ RefAt w' C S l (k + 1) ∧ Blk w' w.heap.size 35 #[.int .u8 W, .int .i8 i, .int .u64 V, .int .u64 N] ∧ Keep (ofCells C S) w w') fun e w' h => ⟨h.1, h.2 ▸ hC2, h.2 ▸ hx2, h.2 ▸ hK⟩)
  clear hK hC1 hbox hC2 hx2 L
  go_enter Try.func10, Try.ntmps10
  go_upto_region 4 with (go_at_call 22; refine L2.out.mono ?_; rintro e W2 ⟨rfl, hC2, hx2, hK⟩)
  clear L2 hC hCl
  have x0 := hx2.cell 0 _ rfl
  have x2 := hx2.cell 2 _ rfl
  have x3 := hx2.cell 3 _ rfl
  have r0 := hC2.own.cell 0 _ rfl
  have c0 := hC2.row.cell i _ (words_at hx)
  have cf := hC2.row.free i
  have HX := Lib.hid hx
  have hmm := hC2.few
  clear hx
  go_upto_region 11 with fail
  go_quiet (fail)
  go_wp2_with fail
  go_ret
  exact ⟨rfl, hC2.keep (Q := fun _ => False) ((Keep.refl _ _).drewN _) (fun h => h) (fun h => h), hK.drewN _⟩
set_option maxHeartbeats 2000000 in
theorem rdo_add (C S : Nat) (l : List Int) (k W V N x : Int) (i : Nat) (w : World) (hC : RefAt w C S l k) (w0 : 0 ≤ W) (w1 : W ≤ 255) (i1 : (i : Int) ≤ 127) (h0 : 0 ≤ k) (h1 : k < 9223372036854775807) (hx : l[i]? = some x) (hm : W % 4 = 3) :
    Calls Try.prog 10 #[cellsV C, actV W i V N] w (RefPost w C S l k (IntKind.u64.wrap (x + V), l.set i (IntKind.u64.wrap (x + V)), 1)) := by
  have hlt : i < l.length := by rw [List.getElem?_eq_some_iff] at hx; exact hx.1
  have hCl := hC.own.lt
  have hbox : Keep (ofCells C S) w (w.alloc (.cells #[.int .u8 W, .int .i8 i, .int .u64 V, .int .u64 N] 35)) := (Keep.refl _ _).alloc _
  have hC1 := hC.keep (Keep.ofBelow (Q := fun _ => False) ((Below.refl _ w).alloc (Nat.le_refl _) (.cells #[.int .u8 W, .int .i8 i, .int .u64 V, .int .u64 N] 35))) (fun h => h) (fun h => h)
  have L := Lib.hid (there_yes C S l k i _ hC1 hlt h0 h1)
  have hC2 := hC1.one (k + 1)
  have hx2 : Blk ((w.alloc (.cells #[.int .u8 W, .int .i8 i, .int .u64 V, .int .u64 N] 35)).setCell ⟨C, 1, none⟩ (.int .i64 (k + 1))) w.heap.size 35 #[.int .u8 W, .int .i8 i, .int .u64 V, .int .u64 N] := (Blk.new w _ _).far (by omega) _ _
  have hK : Keep (ofCells C S) w ((w.alloc (.cells #[.int .u8 W, .int .i8 i, .int .u64 V, .int .u64 N] 35)).setCell ⟨C, 1, none⟩ (.int .i64 (k + 1))) := hbox.set (fun _ => .inl rfl) _
  have i0 : 0 ≤ (i : Int) := by omega
  have i2 : 0 ≤ (i : Int) ∧ (i : Int) < l.length := by omega
  have L2 := Lib.hid (L.out.mono (R' := fun e w' => e = .returned (.bool true) ∧ RefAt w' C S l (k + 1) ∧ Blk w' w.heap.size 35 #[.int .u8 W, .int .i8 i, .int .u64 V, .int .u64 N] ∧ Keep (ofCells C S) w w') fun e w' h => ⟨h.1, h.2 ▸ hC2, h.2 ▸ hx2, h.2 ▸ hK⟩)
  clear hK hC1 hbox hC2 hx2 L
  go_enter Try.func10, Try.ntmps10
  go_upto_region 4 with (go_at_call 22; refine L2.out.mono ?_; rintro e W2 ⟨rfl, hC2, hx2, hK⟩)
  clear L2 hC hCl
  have x0 := hx2.cell 0 _ rfl
  have x2 := hx2.cell 2 _ rfl
  have x3 := hx2.cell 3 _ rfl
  have r0 := hC2.own.cell 0 _ rfl
  have c0 := hC2.row.cell i _ (words_at hx)
  have cf := hC2.row.free i
  have HX := Lib.hid hx
  have hmm := hC2.few
  clear hx
  have hC3 := hC2
  have hK3 := hK
  clear hC2 hK
  generalize W2 = W3 at *
  go_upto_region 15 with fail
  go_still_tail 16, (by kernel_rfl)
  change wpList _ _ _ _ _ W3.drew
  have hC4 : RefAt W3.drew C S l (k + 1) := hC3.keep (Q := fun _ => False) ((Keep.refl _ _).drew) (fun h => h) (fun h => h)
  have hK4 := hK3.drew
  clear x0 x2 x3 r0 c0 cf hC3 hK3
  generalize W3.drew = W4 at *
  have c0 := hC4.row.cell i _ (words_at HX.out)
  have cf := hC4.row.free i
  have hs0 : True := trivial
  have r0 := hC4.own.cell 0 _ rfl
  have c1 : (W4.setCell ⟨S, i, none⟩ (.int .u64 (IntKind.u64.wrap (x + V)))).cell? ⟨C, 0, none⟩ = some (rowV S l.length) := (hC4.own.far hC4.ne _ _).cell 0 _ rfl
  have c2 : (W4.setCell ⟨S, i, none⟩ (.int .u64 (IntKind.u64.wrap (x + V)))).cell? ⟨S, i, none⟩ = some (.int .u64 (IntKind.u64.wrap (x + V))) := by have := (hC4.row.set i (.int .u64 (IntKind.u64.wrap (x + V)))).cell i (.int .u64 (IntKind.u64.wrap (x + V))) (by rw [words_set]; exact words_at (by rw [List.getElem?_set_self hlt])); exact this
  go_wp2_with fail
  go_ret
  refine ⟨rfl, ⟨?_, ?_, hC4.ne, ?_⟩, hK4.set (fun _ => .inr rfl) _⟩
  · rw [List.length_set]; exact hC4.own.far hC4.ne _ _
  · rw [← words_set]; exact hC4.row.set i _
  · rw [List.length_set]; exact hC4.few
theorem rdo_any (C S : Nat) (l : List Int) (k W I V N : Int) (w : World) (hC : RefAt w C S l k) (w0 : 0 ≤ W) (w1 : W ≤ 255) (i0 : -128 ≤ I) (i1 : I ≤ 127) (h0 : 0 ≤ k) (h1 : k < 9223372036854775807) :
    Calls Try.prog 10 #[cellsV C, actV W I V N] w (RefPost w C S l k (actP l W I V N)) := by
  by_cases h : I < 0 ∨ l.length ≤ I
  · rw [actP_no h]; exact rdo_no C S l k W I V N w hC i0 i1 h
  · obtain ⟨i, rfl⟩ := Int.eq_ofNat_of_zero_le (show 0 ≤ I by omega)
    have hlt : i < l.length := by omega
    have hx := List.getElem?_eq_getElem hlt
    generalize l[i] = x at hx
    have e : actP l W i V N = if W % 4 = 0 then (x, l, 1) else if W % 4 = 1 then (1, l.set i V, 1) else if W % 4 = 2 then (if x = V then (1, l.set i N, 1) else (0, l, 1)) else (IntKind.u64.wrap (x + V), l.set i (IntKind.u64.wrap (x + V)), 1) := by
      unfold actP
      rw [if_neg (by omega), Int.toNat_natCast, hx]
    rw [e]
    have hm : W % 4 = 0 ∨ W % 4 = 1 ∨ W % 4 = 2 ∨ W % 4 = 3 := by omega
    rcases hm with hm | hm | hm | hm
    · rw [if_pos hm]; exact rdo_load C S l k W V N x i w hC w0 w1 i1 h0 h1 hx hm
    · rw [if_neg (by omega), if_pos hm]; exact rdo_store C S l k W V N x i w hC w0 w1 i1 h0 h1 hx hm
    · rw [if_neg (by omega), if_neg (by omega), if_pos hm]
      by_cases hv : x = V
      · subst hv; rw [if_pos rfl]; exact rdo_swap1 C S l k W x N i w hC w0 w1 i1 h0 h1 hx hm
      · rw [if_neg hv]; exact rdo_swap0 C S l k W V N x i w hC w0 w1 i1 h0 h1 hx (by simpa using hv) hm
    · rw [if_neg (by omega), if_neg (by omega), if_neg (by omega)]; exact rdo_add C S l k W V N x i w hC w0 w1 i1 h0 h1 hx hm
end Go.Proofs.Ytbnigmemkblflaa
