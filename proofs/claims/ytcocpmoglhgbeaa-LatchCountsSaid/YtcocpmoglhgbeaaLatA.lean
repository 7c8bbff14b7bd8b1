/- Package latch: Take, Drop, Loose. -/
import Derived.Test.YtcocpmoglhgbeaaTreC
namespace Go.Proofs.Ytcocpmoglhgbeaa
open Go.ChangeShapes Go.WideShapes Go.ChangeAt Go.RowKit
set_option linter.unusedVariables false
set_option maxRecDepth 100000
set_option linter.unusedSimpArgs false
/-- what a latch has while that thread has it -/
def markS (t : Int) : Int := IntKind.u64.wrap (IntKind.u64.wrap t + 1)
theorem markS_eq {t : Int} (h : 0 ≤ t ∧ t ≤ 100000) : markS t = t + 1 := by
  unfold markS
  rw [IntKind.wrap_u64, IntKind.wrap_u64]
  omega
abbrev takeI (i : Nat) (t : Int) : Itm := ⟨4, i, 0, markS t⟩
abbrev dropI (i : Nat) (t : Int) : Itm := ⟨2, i, markS t, 0⟩
abbrev holdV (C i : Nat) (t : Int) : Value := .agg #[cellsV C, .int .i64 i, .int .i64 t]
theorem mark_any (C i : Nat) (t : Int) (w : World) : Calls Try.prog 49 #[holdV C i t] w fun e w' => e = .returned (.int .u64 (markS t)) ∧ Below w.heap.size w w' := by
  go_enter Try.func49, Try.ntmps49
  go_wp2
  go_ret
  exact ⟨rfl, by go_grown⟩
/-- a new task -/
def MadeT {A : Type} (O : Ops A) (w : World) (Q : Nat → Prop) (T : Tre A) (t : Nat) (w' : World) : Prop := w.heap.size ≤ t ∧ TaskF O w' (fun b => Q b ∧ b ≠ t) (some ⟨t, 0, none⟩) T ∧ Below w.heap.size w w'
theorem Made6.madeT {w w' : World} {C P : Nat} {Q : Nat → Prop} {r : List Itm} {v : Int} {t : Nat} (h : Made6 w C P Q r v t w') : MadeT (cellOps C P) w Q (itmT r v) t w' := ⟨h.1, TaskC.tree h.2.1, h.2.2⟩
theorem MadeT.from {A : Type} {O : Ops A} {w w1 w' : World} {Q : Nat → Prop} {T : Tre A} {t : Nat} (h : MadeT O w1 Q T t w') (hb : Below w.heap.size w w1) : MadeT O w Q T t w' := ⟨Nat.le_trans hb.size h.1, h.2.1, hb.trans (h.2.2.mono hb.size)⟩
theorem Made6.from {w w1 w' : World} {C P : Nat} {Q : Nat → Prop} {r : List Itm} {v : Int} {t : Nat} (h : Made6 w1 C P Q r v t w') (hb : Below w.heap.size w w1) : Made6 w C P Q r v t w' := ⟨Nat.le_trans hb.size h.1, h.2.1, hb.trans (h.2.2.mono hb.size)⟩
theorem enter_any (C P : Nat) (Q : Nat → Prop) (i : Nat) (t : Int) (w : World) (hQ : ∀ k, w.heap.size ≤ k → Q k) :
    Calls Try.prog 28 #[holdV C i t] w fun e w' => ∃ k, e = .returned (pV k) ∧ Made6 w C P Q [takeI i t] 0 k w' := by
  have HM := Lib.hid (mark_any C i t)
  have HS := Lib.hid fun W (hb : w.heap.size ≤ W.heap.size) => tspin_any C P Q (takeI i t) W rfl (fun k hk => hQ k (by omega))
  clear hQ
  go_enter Try.func28, Try.ntmps28
  go_upto_region 1 with fail
  generalize hW : (w.alloc _) = W
  have bW : Below w.heap.size w W := by rw [← hW]; go_grown
  have sW : W.heap.size = w.heap.size + 1 := by rw [← hW]; simp
  have q0 : Blk W w.heap.size 68 #[cellsV C, .int .i64 i, .int .i64 t] := by rw [← hW]; exact Blk.new w _ _
  clear hW
  have hl := q0.lt
  have SK := Lib.hid (show ∀ V, Below W.heap.size W V → V.cell? ⟨w.heap.size, 0, none⟩ = some (cellsV C) ∧ V.cell? ⟨w.heap.size, 1, none⟩ = some (.int .i64 i) ∧ V.cell? ⟨w.heap.size, 2, none⟩ = some (.int .i64 t) from fun V hk => ⟨(q0.below hk hl).cell 0 _ rfl, (q0.below hk hl).cell 1 _ rfl, (q0.below hk hl).cell 2 _ rfl⟩)
  have bd : Below W.heap.size W W.drew := ⟨rfl, rfl, rfl, Nat.le_refl _, fun _ _ => rfl⟩
  have HM1 := Lib.hid (HM.out W.drew)
  go_region_held3 (fun V => V.cell? ⟨w.heap.size, 0, none⟩ = some (cellsV C) ∧ V.cell? ⟨w.heap.size, 1, none⟩ = some (.int .i64 i) ∧ V.cell? ⟨w.heap.size, 2, none⟩ = some (.int .i64 t)) (first | exact SK.out _ b3 | exact SK.out _ b2 | exact SK.out _ bd) (first
    | (go_at_call 49; refine HM1.out.mono ?_; rintro e w2 ⟨rfl, hb2⟩; have b2 : Below W.heap.size W w2 := bd.trans hb2; have HS2 := Lib.hid (HS.out w2 (by have := b2.size; omega)))
    | (go_at_call 48; refine HS2.out.mono ?_; rintro e w3 ⟨k, rfl, hM⟩; have b3 : Below W.heap.size W w3 := b2.trans (hM.2.2.mono b2.size)))
  go_wp2
  go_ret
  exact ⟨k, rfl, hM.from (bW.trans (b2.mono bW.size))⟩
theorem leave_any (C P : Nat) (Q : Nat → Prop) (i : Nat) (t : Int) (w : World) (hQ : ∀ k, w.heap.size ≤ k → Q k) :
    Calls Try.prog 36 #[holdV C i t] w fun e w' => ∃ k, e = .returned (pV k) ∧ Made6 w C P Q [dropI i t] 0 k w' := by
  have HM := Lib.hid (mark_any C i t)
  have HS := Lib.hid fun W (hb : w.heap.size ≤ W.heap.size) => tSwap_any C P Q (dropI i t) W rfl (fun k hk => hQ k (by omega))
  clear hQ
  go_enter Try.func36, Try.ntmps36
  go_upto_region 1 with fail
  generalize hW : (w.alloc _) = W
  have bW : Below w.heap.size w W := by rw [← hW]; go_grown
  have sW : W.heap.size = w.heap.size + 1 := by rw [← hW]; simp
  have q0 : Blk W w.heap.size 68 #[cellsV C, .int .i64 i, .int .i64 t] := by rw [← hW]; exact Blk.new w _ _
  clear hW
  have hl := q0.lt
  have SK := Lib.hid (show ∀ V, Below W.heap.size W V → V.cell? ⟨w.heap.size, 0, none⟩ = some (cellsV C) ∧ V.cell? ⟨w.heap.size, 1, none⟩ = some (.int .i64 i) ∧ V.cell? ⟨w.heap.size, 2, none⟩ = some (.int .i64 t) from fun V hk => ⟨(q0.below hk hl).cell 0 _ rfl, (q0.below hk hl).cell 1 _ rfl, (q0.below hk hl).cell 2 _ rfl⟩)
  have bd : Below W.heap.size W W.drew := ⟨rfl, rfl, rfl, Nat.le_refl _, fun _ _ => rfl⟩
  have HM1 := Lib.hid (HM.out W.drew)
  go_region_held3 (fun V => V.cell? ⟨w.heap.size, 0, none⟩ = some (cellsV C) ∧ V.cell? ⟨w.heap.size, 1, none⟩ = some (.int .i64 i) ∧ V.cell? ⟨w.heap.size, 2, none⟩ = some (.int .i64 t)) (first | exact SK.out _ b3 | exact SK.out _ b2 | exact SK.out _ bd) (first
    | (go_at_call 49; refine HM1.out.mono ?_; rintro e w2 ⟨rfl, hb2⟩; have b2 : Below W.heap.size W w2 := bd.trans hb2; have HS2 := Lib.hid (HS.out w2 (by have := b2.size; omega)))
    | (go_at_call 56; refine HS2.out.mono ?_; rintro e w3 ⟨k, rfl, hM⟩; have b3 : Below W.heap.size W w3 := b2.trans (hM.2.2.mono b2.size)))
  go_wp2
  go_ret
  exact ⟨k, rfl, hM.from (bW.trans (b2.mono bW.size))⟩
theorem ltake_any (C P : Nat) (Q : Nat → Prop) (i : Nat) (t : Int) (w : World) (hQ : ∀ k, w.heap.size ≤ k → Q k) :
    Calls Try.prog 11 #[cellsV C, .int .i64 i, .int .i64 t] w fun e w' => ∃ k, e = .returned (pV k) ∧ Made6 w C P Q [takeI i t] 0 k w' := by
  have HE := Lib.hid (enter_any C P Q i t w hQ)
  clear hQ
  go_enter Try.func11, Try.ntmps11
  go_wp2_with (go_at_call 28; refine HE.out.mono ?_; rintro e w2 ⟨k, rfl, hM⟩)
  go_ret
  exact ⟨k, rfl, hM⟩
theorem ldrop_any (C P : Nat) (Q : Nat → Prop) (i : Nat) (t : Int) (w : World) (hQ : ∀ k, w.heap.size ≤ k → Q k) :
    Calls Try.prog 17 #[cellsV C, .int .i64 i, .int .i64 t] w fun e w' => ∃ k, e = .returned (pV k) ∧ Made6 w C P Q [dropI i t] 0 k w' := by
  have HE := Lib.hid (leave_any C P Q i t w hQ)
  clear hQ
  go_enter Try.func17, Try.ntmps17
  go_wp2_with (go_at_call 36; refine HE.out.mono ?_; rintro e w2 ⟨k, rfl, hM⟩)
  go_ret
  exact ⟨k, rfl, hM⟩
abbrev readyI (v : Int) : Itm := ⟨7, 0, v, 0⟩
theorem equiv_op {x : Itm} (h : x.kind ≠ 7) : Equiv6 [x] [x] 0 := ⟨by simpa [Fresh] using h, fun y => ⟨by simp [onS, h], fun e => by cases e⟩⟩
theorem equiv_val (v : Int) : Equiv6 [readyI v] [] v := ⟨by simp [Fresh], fun y => ⟨by simp [onS], fun _ => by simp [onS]⟩⟩
/-- Seq of a task of one operation, and a value -/
theorem seq_val {wa w2 w4 : World} {C P t1 t2 : Nat} {x : Itm} {v : Int} {Q : Nat → Prop} (hx : x.kind ≠ 7) (h1 : Made6 wa C P Q [x] 0 t1 w2) (hq1 : Q t1) (h2 : Made6 w2 C P Q [] v t2 w4) (hq2 : Q t2) (hQ : ∀ k, w4.heap.size ≤ k → Q k) :
    Calls Try.prog 41 #[.slice (some ⟨w4.heap.size, 0, none⟩) 2 2] (w4.alloc (.cells #[pV t1, pV t2] 29)) fun e w' => ∃ t, e = .returned (pV t) ∧ Made6 (w4.alloc (.cells #[pV t1, pV t2] 29)) C P Q [x, readyI v] 0 t w' := by
  have hB := Blk.new w4 29 #[pV t1, pV t2]
  have k2 : Keep (fun _ => False) w2 w4 := Keep.ofBelow h2.2.2
  have k4 : Keep (fun _ => False) w4 (w4.alloc (.cells #[pV t1, pV t2] 29)) := (Keep.refl _ _).alloc _
  have e1 : TaskC (w4.alloc (.cells #[pV t1, pV t2] 29)) C P Q t1 [x] 0 := h1.task.keep (k2.trans k4) (fun _ _ h => h) (fun h => h) (fun _ _ h => h)
  have e2 : TaskC (w4.alloc (.cells #[pV t1, pV t2] 29)) C P Q t2 [] v := h2.task.keep k4 (fun _ _ h => h) (fun h => h) (fun _ _ h => h)
  refine (seq_any C P Q [(some ⟨t1, 0, none⟩, [x]), (some ⟨t2, 0, none⟩, [readyI v])] w4.heap.size 0 2 _ (by simp) (by simp) (fun i z hz => ?_) (fun k hk => hQ k (by rw [World.size_alloc] at hk; omega))).mono ?_
  · match i, hz with
    | 0, hz =>
      obtain rfl : z = (some ⟨t1, 0, none⟩, [x]) := by simpa using hz.symm
      exact ⟨hB.cell 0 _ rfl, .inr ⟨t1, [x], 0, rfl, hq1, e1, equiv_op hx⟩⟩
    | 1, hz =>
      obtain rfl : z = (some ⟨t2, 0, none⟩, [readyI v]) := by simpa using hz.symm
      exact ⟨hB.cell 1 _ rfl, .inr ⟨t2, [], v, rfl, hq2, e2, equiv_val v⟩⟩
    | (i + 2), hz => simp at hz
  · rintro e w' ⟨t, r, v', rfl, hM, hR⟩
    refine ⟨t, rfl, ?_⟩
    rcases hR with ⟨h, _⟩ | ⟨_, hR⟩
    · cases h
    · have e0 := (hR.on 0).1
      have ef : flat [((some ⟨t1, 0, none⟩ : Option Addr), [x]), (some ⟨t2, 0, none⟩, [readyI v])] = [x, readyI v] := by simp [flat]
      rw [ef, onS_other hx] at e0
      subst e0
      exact ⟨hM.1, TaskIn.value hM.2.1 0 (fun h => by cases h), hM.2.2⟩
abbrev loadI (i : Nat) : Itm := ⟨0, i, 0, 0⟩
abbrev storeI (i : Nat) (v : Int) : Itm := ⟨1, i, IntKind.u64.wrap (IntKind.u64.wrap v + 1), 0⟩
def looseT (i : Nat) : Tre Itm := opT (loadI i) fun v => itmT [storeI i v, readyI v] 0
theorem loose1_any (C P : Nat) (Q : Nat → Prop) (i : Nat) (v : Int) (bc bi : Nat) (w : World) (hc : Blk w bc 25 #[cellsV C]) (hi : Blk w bi 3 #[.int .i64 i]) (hQ : ∀ k, w.heap.size ≤ k → Q k) :
    Calls Try.prog 40 #[.int .i64 v, pV bc, pV bi] w fun e w' => ∃ t, e = .returned (pV t) ∧ Made6 w C P Q [storeI i v, readyI v] 0 t w' := by
  have c0 : w.cell? ⟨bc, 0, none⟩ = some (cellsV C) := hc.cell 0 _ rfl
  have c1 : w.cell? ⟨bi, 0, none⟩ = some (.int .i64 i) := hi.cell 0 _ rfl
  have HS := Lib.hid (tStore_any C P Q (storeI i v) w rfl hQ)
  have HR := Lib.hid fun W => tready_any C P Q v W
  have HQ := Lib.hid hQ
  have HSQ : Hid (∀ (w2 w4 : World) (t1 t2 : Nat), Made6 w C P Q [storeI i v] 0 t1 w2 → Made6 w2 C P Q [] v t2 w4 → Calls Try.prog 41 #[.slice (some ⟨w4.heap.size, 0, none⟩) 2 2] (w4.alloc (.cells #[pV t1, pV t2] 29)) fun e w' => ∃ t, e = .returned (pV t) ∧ Made6 (w4.alloc (.cells #[pV t1, pV t2] 29)) C P Q [storeI i v, readyI v] 0 t w') :=
    Lib.hid fun w2 w4 t1 t2 h1 h2 => seq_val (show (1 : Nat) ≠ 7 by decide) h1 (hQ _ h1.1) h2 (hQ _ (Nat.le_trans h1.2.2.size h2.1)) (fun k hk => hQ k (Nat.le_trans h1.2.2.size (Nat.le_trans h2.2.2.size hk)))
  clear hQ hc hi
  go_enter Try.func40, Try.ntmps40
  go_wp2_with (first
    | (go_at_call 42; refine HS.out.mono ?_; rintro e w2 ⟨t1, rfl, h1⟩; have HR2 := Lib.hid (HR.out w2))
    | (go_at_call 32; refine HR2.out.mono ?_; rintro e w4 ⟨t2, rfl, h2⟩; have HS4 := Lib.hid (HSQ.out w2 w4 t1 t2 h1 h2))
    | (go_at_call 41; refine HS4.out.mono ?_; rintro e w6 ⟨t, rfl, h3⟩))
  go_ret
  have b4 : Below w.heap.size w w4 := h1.2.2.trans (h2.2.2.mono h1.2.2.size)
  exact ⟨t, rfl, h3.from (b4.trans (((Below.refl _ w4).alloc (Nat.le_refl _) _).mono b4.size))⟩
theorem call_loose1 : ∀ (W : World) (args : Array Value), (callFunc 40 args).run Try.prog W = .ok (.enter 40 args) W := by
  intro W args
  go_simp
theorem loose_any (C P : Nat) (Q : Nat → Prop) (i : Nat) (w : World) (hQ : ∀ k, w.heap.size ≤ k → Q k) :
    Calls Try.prog 20 #[cellsV C, .int .i64 i] w fun e w' => ∃ t, e = .returned (pV t) ∧ MadeT (cellOps C P) w Q (looseT i) t w' := by
  have hmf : ∀ (fn : Fn) (first cap : Array Value) (w : World), (Instr.makeFunc fn first cap).run Try.prog w = .ok (.func fn first cap) w := fun _ _ _ _ => rfl
  have HQ := Lib.hid hQ
  clear hQ
  go_enter Try.func20, Try.ntmps20
  go_upto_region 1 with fail
  generalize hW : ((w.alloc _).alloc _) = W
  have bW : Below w.heap.size w W := by rw [← hW]; go_grown
  have q0 : Blk W w.heap.size 25 #[cellsV C] := by rw [← hW]; exact (Blk.new w _ _).alloc _
  have q1 : Blk W (w.heap.size + 1) 3 #[.int .i64 i] := by rw [← hW]; exact blk_two w _ _ _
  clear hW
  have sW := bW.size
  have c0 : W.cell? ⟨w.heap.size, 0, none⟩ = some (cellsV C) := q0.cell 0 _ rfl
  have c1 : W.cell? ⟨w.heap.size + 1, 0, none⟩ = some (.int .i64 i) := q1.cell 0 _ rfl
  have HL := Lib.hid (tLoad_any C P Q (loadI i) W rfl (fun k hk => HQ.out k (by omega)))
  have HT : Hid (∀ w2 t1, Made6 W C P Q [loadI i] 0 t1 w2 → Calls Try.prog 38 #[pV t1, cloV 40 #[pV w.heap.size, pV (w.heap.size + 1)]] w2 fun e w' => ∃ t, e = .returned (pV t) ∧ w2.heap.size ≤ t ∧ TaskF (cellOps C P) w' (fun b => Q b ∧ b ≠ t) (some ⟨t, 0, none⟩) (looseT i) ∧ Below w2.heap.size w2 w') := Lib.hid (by
    intro w2 t1 hM
    have s2 := hM.2.2.size
    have e : bindT (fun v => itmT [storeI i v, readyI v] 0) (itmT [loadI i] 0) = looseT i := by
      simp only [itmT]
      rw [if_neg (by decide), if_neg (by decide), bindT_op]
      simp only [bindT_ret]
      rfl
    rw [← e]
    refine thenT_any (cellOps C P) (some ⟨t1, 0, none⟩) 40 _ (itmT [loadI i] 0) _ Q w2 (TaskF.keep hM.madeT.2.1 (Keep.refl (fun _ => False) w2) (fun _ _ h => h) (fun _ _ h => h) (fun b _ h => h.1)) (fun j e => by injection e with e; injection e with e; rw [← e]; exact TaskT.lt hM.madeT.2.1) (fun k hk => HQ.out k (by omega)) ?_
    intro w3 Q1 f hb hf hlo hqf hqq
    have p0 : Blk w3 w.heap.size 25 #[cellsV C] := (q0.below hM.2.2 q0.lt).below hb (by have := q0.lt; omega)
    have p1 : Blk w3 (w.heap.size + 1) 3 #[.int .i64 i] := (q1.below hM.2.2 q1.lt).below hb (by have := q1.lt; omega)
    have qa : Q1 w.heap.size := hqq _ (by have := q0.lt; omega) (HQ.out _ (Nat.le_refl _))
    have qb : Q1 (w.heap.size + 1) := hqq _ (by have := q1.lt; omega) (HQ.out _ (by omega))
    refine contT_of (cellOps C P) w3 Q1 f 40 _ _ hqf hf call_loose1 fun v w4 hw => ?_
    refine (loose1_any C P (fun b => (Q1 b ∧ b < w3.heap.size) ∨ w4.heap.size ≤ b) i v w.heap.size (w.heap.size + 1) w4 (p0.keep hw (fun h => h qa)) (p1.keep hw (fun h => h qb)) (fun k hk => .inr hk)).mono ?_
    rintro e w5 ⟨t, rfl, hM5⟩
    exact ⟨some ⟨t, 0, none⟩, rfl, hM5.2.2, TaskF.keep hM5.madeT.2.1 (Keep.refl (fun _ => False) w5) (fun _ _ h => h) (fun _ _ h => h) (fun b _ h => h.1), fun j e => by injection e with e; injection e with e; rw [← e]; exact .inr hM5.1⟩)
  go_wp2_with (first
    | (go_at_call 39; refine HL.out.mono ?_; rintro e w2 ⟨t1, rfl, h1⟩; have HT2 := Lib.hid (HT.out w2 t1 h1))
    | (go_at_call 38; refine HT2.out.mono ?_; rintro e w4 ⟨t, rfl, g1, g2, g3⟩))
  go_ret
  have b2 : Below w.heap.size w w2 := bW.trans (h1.2.2.mono sW)
  exact ⟨t, rfl, Nat.le_trans b2.size g1, g2, b2.trans (g3.mono b2.size)⟩
end Go.Proofs.Ytcocpmoglhgbeaa
