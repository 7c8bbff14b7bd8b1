/- Package latch: Take, Drop, Loose. -/
import Derived.Test.YtpejmkoheodblaaGreatTreC
namespace Go.Proofs.YtpejmkoheodblaaGreat
open Go.ChangeShapes Go.WideShapes Go.ChangeAt Go.RowKit
set_option linter.unusedVariables false
set_option maxRecDepth 100000
set_option linter.unusedSimpArgs false
/-- what a latch has while that thread has it -/
def markS (t : Int) : Int := IntKind.u64.wrap (IntKind.u64.wrap t + 1)
theorem markS_eq {t : Int} (h : 0 ≤ t ∧ t ≤ 100000) : markS t = t + 1 := by
  unfold markS
  rw [IntKind.wrap_u64, IntKind.wrap_u64]
  omega
abbrev takeI (i : Nat) (t : Int) : Itm := ⟨4, i, 0, markS t⟩
abbrev dropI (i : Nat) (t : Int) : Itm := ⟨2, i, markS t, 0⟩
abbrev holdV (C i : Nat) (t : Int) : Value := .agg #[cellsV C, .int .i64 i, .int .i64 t]
theorem lmark_any (C i : Nat) (t : Int) (w : World) : Calls Tryz.prog 143 #[holdV C i t] w fun e w' => e = .returned (.int .u64 (markS t)) ∧ Below w.heap.size w w' := by
  go_enter Tryz.func143, Tryz.ntmps143
  go_wp2
  go_ret
  exact ⟨rfl, by go_grown⟩
/-- a new task -/
def MadeT {A : Type} (O : Ops A) (w : World) (Q : Nat → Prop) (T : Tre A) (t : Nat) (w' : World) : Prop := w.heap.size ≤ t ∧ TaskF O w' (fun b => Q b ∧ b ≠ t) (some ⟨t, 0, none⟩) T ∧ Below w.heap.size w w'
theorem Made6.madeT {w w' : World} {C P : Nat} {Q : Nat → Prop} {r : List Itm} {v : Int} {t : Nat} (h : Made6 w C P Q r v t w') : MadeT (cellOps C P) w Q (itmT r v) t w' := ⟨h.1, TaskC.tree h.2.1, h.2.2⟩
theorem MadeT.from {A : Type} {O : Ops A} {w w1 w' : World} {Q : Nat → Prop} {T : Tre A} {t : Nat} (h : MadeT O w1 Q T t w') (hb : Below w.heap.size w w1) : MadeT O w Q T t w' := ⟨Nat.le_trans hb.size h.1, h.2.1, hb.trans (h.2.2.mono hb.size)⟩
theorem Made6.from {w w1 w' : World} {C P : Nat} {Q : Nat → Prop} {r : List Itm} {v : Int} {t : Nat} (h : Made6 w1 C P Q r v t w') (hb : Below w.heap.size w w1) : Made6 w C P Q r v t w' := ⟨Nat.le_trans hb.size h.1, h.2.1, hb.trans (h.2.2.mono hb.size)⟩
theorem enter_any (C P : Nat) (Q : Nat → Prop) (i : Nat) (t : Int) (w : World) (hQ : ∀ k, w.heap.size ≤ k → Q k) :
    Calls Tryz.prog 133 #[holdV C i t] w fun e w' => ∃ k, e = .returned (pV k) ∧ Made6 w C P Q [takeI i t] 0 k w' := by
  have HM := Lib.hid (lmark_any C i t)
  have HS := Lib.hid fun W (hb : w.heap.size ≤ W.heap.size) => tspin_any C P Q (takeI i t) W rfl (fun k hk => hQ k (by omega))
  clear hQ
  go_enter Tryz.func133, Tryz.ntmps133
  go_upto_region 1 with fail
  generalize hW : (w.alloc _) = W
  have bW : Below w.heap.size w W := by rw [← hW]; go_grown
  have sW : W.heap.size = w.heap.size + 1 := by rw [← hW]; simp
  have q0 : Blk W w.heap.size 144 #[cellsV C, .int .i64 i, .int .i64 t] := by rw [← hW]; exact Blk.new w _ _
  clear hW
  have hl := q0.lt
  have SK := Lib.hid (show ∀ V, Below W.heap.size W V → V.cell? ⟨w.heap.size, 0, none⟩ = some (cellsV C) ∧ V.cell? ⟨w.heap.size, 1, none⟩ = some (.int .i64 i) ∧ V.cell? ⟨w.heap.size, 2, none⟩ = some (.int .i64 t) from fun V hk => ⟨(q0.below hk hl).cell 0 _ rfl, (q0.below hk hl).cell 1 _ rfl, (q0.below hk hl).cell 2 _ rfl⟩)
  have bd : Below W.heap.size W W.drew := ⟨rfl, rfl, rfl, Nat.le_refl _, fun _ _ => rfl⟩
  have HM1 := Lib.hid (HM.out W.drew)
  go_region_held3 (fun V => V.cell? ⟨w.heap.size, 0, none⟩ = some (cellsV C) ∧ V.cell? ⟨w.heap.size, 1, none⟩ = some (.int .i64 i) ∧ V.cell? ⟨w.heap.size, 2, none⟩ = some (.int .i64 t)) (first | exact SK.out _ b3 | exact SK.out _ b2 | exact SK.out _ bd) (first
    | (go_at_call 143; refine HM1.out.mono ?_; rintro e w2 ⟨rfl, hb2⟩; have b2 : Below W.heap.size W w2 := bd.trans hb2; have HS2 := Lib.hid (HS.out w2 (by have := b2.size; omega)))
    | (go_at_call 142; refine HS2.out.mono ?_; rintro e w3 ⟨k, rfl, hM⟩; have b3 : Below W.heap.size W w3 := b2.trans (hM.2.2.mono b2.size)))
  go_wp2
  go_ret
  exact ⟨k, rfl, hM.from (bW.trans (b2.mono bW.size))⟩
theorem leave_any (C P : Nat) (Q : Nat → Prop) (i : Nat) (t : Int) (w : World) (hQ : ∀ k, w.heap.size ≤ k → Q k) :
    Calls Tryz.prog 134 #[holdV C i t] w fun e w' => ∃ k, e = .returned (pV k) ∧ Made6 w C P Q [dropI i t] 0 k w' := by
  have HM := Lib.hid (lmark_any C i t)
  have HS := Lib.hid fun W (hb : w.heap.size ≤ W.heap.size) => tSwap_any C P Q (dropI i t) W rfl (fun k hk => hQ k (by omega))
  clear hQ
  go_enter Tryz.func134, Tryz.ntmps134
  go_upto_region 1 with fail
  generalize hW : (w.alloc _) = W
  have bW : Below w.heap.size w W := by rw [← hW]; go_grown
  have sW : W.heap.size = w.heap.size + 1 := by rw [← hW]; simp
  have q0 : Blk W w.heap.size 144 #[cellsV C, .int .i64 i, .int .i64 t] := by rw [← hW]; exact Blk.new w _ _
  clear hW
  have hl := q0.lt
  have SK := Lib.hid (show ∀ V, Below W.heap.size W V → V.cell? ⟨w.heap.size, 0, none⟩ = some (cellsV C) ∧ V.cell? ⟨w.heap.size, 1, none⟩ = some (.int .i64 i) ∧ V.cell? ⟨w.heap.size, 2, none⟩ = some (.int .i64 t) from fun V hk => ⟨(q0.below hk hl).cell 0 _ rfl, (q0.below hk hl).cell 1 _ rfl, (q0.below hk hl).cell 2 _ rfl⟩)
  have bd : Below W.heap.size W W.drew := ⟨rfl, rfl, rfl, Nat.le_refl _, fun _ _ => rfl⟩
  have HM1 := Lib.hid (HM.out W.drew)
  go_region_held3 (fun V => V.cell? ⟨w.heap.size, 0, none⟩ = some (cellsV C) ∧ V.cell? ⟨w.heap.size, 1, none⟩ = some (.int .i64 i) ∧ V.cell? ⟨w.heap.size, 2, none⟩ = some (.int .i64 t)) (first | exact SK.out _ b3 | exact SK.out _ b2 | exact SK.out _ bd) (first
    | (go_at_call 143; refine HM1.out.mono ?_; rintro e w2 ⟨rfl, hb2⟩; have b2 : Below W.heap.size W w2 := bd.trans hb2; have HS2 := Lib.hid (HS.out w2 (by have := b2.size; omega)))
    | (go_at_call 144; refine HS2.out.mono ?_; rintro e w3 ⟨k, rfl, hM⟩; have b3 : Below W.heap.size W w3 := b2.trans (hM.2.2.mono b2.size)))
  go_wp2
  go_ret
  exact ⟨k, rfl, hM.from (bW.trans (b2.mono bW.size))⟩
abbrev readyI (v : Int) : Itm := ⟨7, 0, v, 0⟩
theorem equiv_op {x : Itm} (h : x.kind ≠ 7) : Equiv6 [x] [x] 0 := ⟨by simpa [Fresh] using h, fun y => ⟨by simp [onS, h], fun e => by cases e⟩⟩
theorem equiv_val (v : Int) : Equiv6 [readyI v] [] v := ⟨by simp [Fresh], fun y => ⟨by simp [onS], fun _ => by simp [onS]⟩⟩
/-- Seq of a task of one operation, and a value -/
theorem seq_val {wa w2 w4 : World} {C P t1 t2 : Nat} {x : Itm} {v : Int} {Q : Nat → Prop} (hx : x.kind ≠ 7) (h1 : Made6 wa C P Q [x] 0 t1 w2) (hq1 : Q t1) (h2 : Made6 w2 C P Q [] v t2 w4) (hq2 : Q t2) (hQ : ∀ k, w4.heap.size ≤ k → Q k) :
    Calls Tryz.prog 78 #[.slice (some ⟨w4.heap.size, 0, none⟩) 2 2] (w4.alloc (.cells #[pV t1, pV t2] 40)) fun e w' => ∃ t, e = .returned (pV t) ∧ Made6 (w4.alloc (.cells #[pV t1, pV t2] 40)) C P Q [x, readyI v] 0 t w' := by
  have hB := Blk.new w4 40 #[pV t1, pV t2]
  have k2 : Keep (fun _ => False) w2 w4 := Keep.ofBelow h2.2.2
  have k4 : Keep (fun _ => False) w4 (w4.alloc (.cells #[pV t1, pV t2] 40)) := (Keep.refl _ _).alloc _
  have e1 : TaskC (w4.alloc (.cells #[pV t1, pV t2] 40)) C P Q t1 [x] 0 := h1.task.keep (k2.trans k4) (fun _ _ h => h) (fun h => h) (fun _ _ h => h)
  have e2 : TaskC (w4.alloc (.cells #[pV t1, pV t2] 40)) C P Q t2 [] v := h2.task.keep k4 (fun _ _ h => h) (fun h => h) (fun _ _ h => h)
  refine (seq_any C P Q [(some ⟨t1, 0, none⟩, [x]), (some ⟨t2, 0, none⟩, [readyI v])] w4.heap.size 0 2 _ (by simp) (by simp) (fun i z hz => ?_) (fun k hk => hQ k (by rw [World.size_alloc] at hk; omega))).mono ?_
  · match i, hz with
    | 0, hz =>
      obtain rfl : z = (some ⟨t1, 0, none⟩, [x]) := by simpa using hz.symm
      exact ⟨hB.cell 0 _ rfl, .inr ⟨t1, [x], 0, rfl, hq1, e1, equiv_op hx⟩⟩
    | 1, hz =>
      obtain rfl : z = (some ⟨t2, 0, none⟩, [readyI v]) := by simpa using hz.symm
      exact ⟨hB.cell 1 _ rfl, .inr ⟨t2, [], v, rfl, hq2, e2, equiv_val v⟩⟩
    | (i + 2), hz => simp at hz
  · rintro e w' ⟨t, r, v', rfl, hM, hR⟩
    refine ⟨t, rfl, ?_⟩
    rcases hR with ⟨h, _⟩ | ⟨_, hR⟩
    · cases h
    · have e0 := (hR.on 0).1
      have ef : flat [((some ⟨t1, 0, none⟩ : Option Addr), [x]), (some ⟨t2, 0, none⟩, [readyI v])] = [x, readyI v] := by simp [flat]
      rw [ef, onS_other hx] at e0
      subst e0
      exact ⟨hM.1, TaskIn.value hM.2.1 0 (fun h => by cases h), hM.2.2⟩
abbrev loadI (i : Nat) : Itm := ⟨0, i, 0, 0⟩
abbrev storeI (i : Nat) (v : Int) : Itm := ⟨1, i, IntKind.u64.wrap (IntKind.u64.wrap v + 1), 0⟩
def looseT (i : Nat) : Tre Itm := opT (loadI i) fun v => itmT [storeI i v, readyI v] 0
end Go.Proofs.YtpejmkoheodblaaGreat
