/- Package latch: Take, Drop, Loose. -/
import Derived.Test.YtldofbkjjmnooaaGreatMgGSlH
import Derived.Test.YtldofbkjjmnooaaGreatMgGSlK
import Derived.Test.YtldofbkjjmnooaaGreatMgGSlI
namespace Go.Proofs.YtldofbkjjmnooaaGreat
open Go.ChangeShapes Go.WideShapes Go.ChangeAt Go.RowKit
set_option linter.unusedVariables false
set_option maxRecDepth 100000
set_option linter.unusedSimpArgs false
/-- what a latch has while that thread has it -/
def markS (t : Int) : Int := IntKind.u64.wrap (IntKind.u64.wrap t + 1)
theorem markS_eq {t : Int} (h : 0 ≤ t ∧ t ≤ 100000) : markS t = t + 1 := by
  unfold markS
  rw [IntKind.wrap_u64, IntKind.wrap_u64]
  omega
abbrev takeI (i : Nat) (t : Int) : Itm := ⟨4, i, 0, markS t⟩
abbrev dropI (i : Nat) (t : Int) : Itm := ⟨2, i, markS t, 0⟩
abbrev holdV (C i : Nat) (t : Int) : Value := .agg #[cellsV C, .int .i64 i, .int .i64 t]
theorem lmark_any (C i : Nat) (t : Int) (w : World) : Calls Tryz.prog 359 #[holdV C i t] w fun e w' => e = .returned (.int .u64 (markS t)) ∧ Below w.heap.size w w' := by
  go_enter Tryz.func359, Tryz.ntmps359
  go_wp2
  go_ret
  exact ⟨rfl, by go_grown⟩
/-- a new task -/
def MadeT {A : Type} (O : Ops A) (w : World) (Q : Nat → Prop) (T : Tre A) (t : Nat) (w' : World) : Prop := w.heap.size ≤ t ∧ TaskF O w' (fun b => Q b ∧ b ≠ t) (some ⟨t, 0, none⟩) T ∧ Below w.heap.size w w'
theorem Made6.madeT {w w' : World} {C P : Nat} {Q : Nat → Prop} {r : List Itm} {v : Int} {t : Nat} (h : Made6 w C P Q r v t w') : MadeT (cellOps C P) w Q (itmT r v) t w' := ⟨h.1, TaskC.tree h.2.1, h.2.2⟩
theorem MadeT.from {A : Type} {O : Ops A} {w w1 w' : World} {Q : Nat → Prop} {T : Tre A} {t : Nat} (h : MadeT O w1 Q T t w') (hb : Below w.heap.size w w1) : MadeT O w Q T t w' := ⟨Nat.le_trans hb.size h.1, h.2.1, hb.trans (h.2.2.mono hb.size)⟩
theorem Made6.from {w w1 w' : World} {C P : Nat} {Q : Nat → Prop} {r : List Itm} {v : Int} {t : Nat} (h : Made6 w1 C P Q r v t w') (hb : Below w.heap.size w w1) : Made6 w C P Q r v t w' := ⟨Nat.le_trans hb.size h.1, h.2.1, hb.trans (h.2.2.mono hb.size)⟩
theorem enter_any (C P : Nat) (Q : Nat → Prop) (i : Nat) (t : Int) (w : World) (hQ : ∀ k, w.heap.size ≤ k → Q k) :
    Calls Tryz.prog 329 #[holdV C i t] w fun e w' => ∃ k, e = .returned (pV k) ∧ Made6 w C P Q [takeI i t] 0 k w' := by
  have HM := Lib.hid (lmark_any C i t)
  have HS := Lib.hid fun W (hb : w.heap.size ≤ W.heap.size) => tspin_any C P Q (takeI i t) W rfl (fun k hk => hQ k (by omega))
  clear hQ
  go_enter Tryz.func329, Tryz.ntmps329
  go_upto_region 1 with fail
  generalize hW : (w.alloc _) = W
  have bW : Below w.heap.size w W := by rw [← hW]; go_grown
  have sW : W.heap.size = w.heap.size + 1 := by rw [← hW]; simp
  have q0 : Blk W w.heap.size 332 #[cellsV C, .int .i64 i, .int .i64 t] := by rw [← hW]; exact Blk.new w _ _
  clear hW
  have hl := q0.lt
  have SK := Lib.hid (show ∀ V, Below W.heap.size W V → V.cell? ⟨w.heap.size, 0, none⟩ = some (cellsV C) ∧ V.cell? ⟨w.heap.size, 1, none⟩ = some (.int .i64 i) ∧ V.cell? ⟨w.heap.size, 2, none⟩ = some (.int .i64 t) from fun V hk => ⟨(q0.below hk hl).cell 0 _ rfl, (q0.below hk hl).cell 1 _ rfl, (q0.below hk hl).cell 2 _ rfl⟩)
  have bd : Below W.heap.size W W.drew := ⟨rfl, rfl, rfl, Nat.le_refl _, fun _ _ => rfl⟩
  have HM1 := Lib.hid (HM.out W.drew)
  go_region_held3 (fun V => V.cell? ⟨w.heap.size, 0, none⟩ = some (cellsV C) ∧ V.cell? ⟨w.heap.size, 1, none⟩ = some (.int .i64 i) ∧ V.cell? ⟨w.heap.size, 2, none⟩ = some (.int .i64 t)) (first | exact SK.out _ b3 | exact SK.out _ b2 | exact SK.out _ bd) (first
    | (go_at_call 359; refine HM1.out.mono ?_; rintro e w2 ⟨rfl, hb2⟩; have b2 : Below W.heap.size W w2 := bd.trans hb2; have HS2 := Lib.hid (HS.out w2 (by have := b2.size; omega)))
    | (go_at_call 136; refine HS2.out.mono ?_; rintro e w3 ⟨k, rfl, hM⟩; have b3 : Below W.heap.size W w3 := b2.trans (hM.2.2.mono b2.size)))
  go_wp2
  go_ret
  exact ⟨k, rfl, hM.from (bW.trans (b2.mono bW.size))⟩
theorem leave_any (C P : Nat) (Q : Nat → Prop) (i : Nat) (t : Int) (w : World) (hQ : ∀ k, w.heap.size ≤ k → Q k) :
    Calls Tryz.prog 330 #[holdV C i t] w fun e w' => ∃ k, e = .returned (pV k) ∧ Made6 w C P Q [dropI i t] 0 k w' := by
  have HM := Lib.hid (lmark_any C i t)
  have HS := Lib.hid fun W (hb : w.heap.size ≤ W.heap.size) => tSwap_any C P Q (dropI i t) W rfl (fun k hk => hQ k (by omega))
  clear hQ
  go_enter Tryz.func330, Tryz.ntmps330
  go_upto_region 1 with fail
  generalize hW : (w.alloc _) = W
  have bW : Below w.heap.size w W := by rw [← hW]; go_grown
  have sW : W.heap.size = w.heap.size + 1 := by rw [← hW]; simp
  have q0 : Blk W w.heap.size 332 #[cellsV C, .int .i64 i, .int .i64 t] := by rw [← hW]; exact Blk.new w _ _
  clear hW
  have hl := q0.lt
  have SK := Lib.hid (show ∀ V, Below W.heap.size W V → V.cell? ⟨w.heap.size, 0, none⟩ = some (cellsV C) ∧ V.cell? ⟨w.heap.size, 1, none⟩ = some (.int .i64 i) ∧ V.cell? ⟨w.heap.size, 2, none⟩ = some (.int .i64 t) from fun V hk => ⟨(q0.below hk hl).cell 0 _ rfl, (q0.below hk hl).cell 1 _ rfl, (q0.below hk hl).cell 2 _ rfl⟩)
  have bd : Below W.heap.size W W.drew := ⟨rfl, rfl, rfl, Nat.le_refl _, fun _ _ => rfl⟩
  have HM1 := Lib.hid (HM.out W.drew)
  go_region_held3 (fun V => V.cell? ⟨w.heap.size, 0, none⟩ = some (cellsV C) ∧ V.cell? ⟨w.heap.size, 1, none⟩ = some (.int .i64 i) ∧ V.cell? ⟨w.heap.size, 2, none⟩ = some (.int .i64 t)) (first | exact SK.out _ b3 | exact SK.out _ b2 | exact SK.out _ bd) (first
    | (go_at_call 359; refine HM1.out.mono ?_; rintro e w2 ⟨rfl, hb2⟩; have b2 : Below W.heap.size W w2 := bd.trans hb2; have HS2 := Lib.hid (HS.out w2 (by have := b2.size; omega)))
    | (go_at_call 217; refine HS2.out.mono ?_; rintro e w3 ⟨k, rfl, hM⟩; have b3 : Below W.heap.size W w3 := b2.trans (hM.2.2.mono b2.size)))
  go_wp2
  go_ret
  exact ⟨k, rfl, hM.from (bW.trans (b2.mono bW.size))⟩
abbrev readyI (v : Int) : Itm := ⟨7, 0, v, 0⟩
theorem equiv_op {x : Itm} (h : x.kind ≠ 7) : Equiv6 [x] [x] 0 := ⟨by simpa [Fresh] using h, fun y => ⟨by simp [onS, h], fun e => by cases e⟩⟩
theorem equiv_val (v : Int) : Equiv6 [readyI v] [] v := ⟨by simp [Fresh], fun y => ⟨by simp [onS], fun _ => by simp [onS]⟩⟩
/-- Seq of a task of one operation, and a value -/
theorem seq_val {wa w2 w4 : World} {C P t1 t2 : Nat} {x : Itm} {v : Int} {Q : Nat → Prop} (hx : x.kind ≠ 7) (h1 : Made6 wa C P Q [x] 0 t1 w2) (hq1 : Q t1) (h2 : Made6 w2 C P Q [] v t2 w4) (hq2 : Q t2) (hQ : ∀ k, w4.heap.size ≤ k → Q k) :
    Calls Tryz.prog 138 #[.slice (some ⟨w4.heap.size, 0, none⟩) 2 2] (w4.alloc (.cells #[pV t1, pV t2] 40)) fun e w' => ∃ t, e = .returned (pV t) ∧ Made6 (w4.alloc (.cells #[pV t1, pV t2] 40)) C P Q [x, readyI v] 0 t w' := by
  have hB := Blk.new w4 40 #[pV t1, pV t2]
  have k2 : Keep (fun _ => False) w2 w4 := Keep.ofBelow h2.2.2
  have k4 : Keep (fun _ => False) w4 (w4.alloc (.cells #[pV t1, pV t2] 40)) := (Keep.refl _ _).alloc _
  have e1 : TaskC (w4.alloc (.cells #[pV t1, pV t2] 40)) C P Q t1 [x] 0 := h1.task.keep (k2.trans k4) (fun _ _ h => h) (fun h => h) (fun _ _ h => h)
  have e2 : TaskC (w4.alloc (.cells #[pV t1, pV t2] 40)) C P Q t2 [] v := h2.task.keep k4 (fun _ _ h => h) (fun h => h) (fun _ _ h => h)
  refine (seq_any C P Q [(some ⟨t1, 0, none⟩, [x]), (some ⟨t2, 0, none⟩, [readyI v])] w4.heap.size 0 2 _ (by simp) (by simp) (fun i z hz => ?_) (fun k hk => hQ k (by rw [World.size_alloc] at hk; omega))).mono ?_
  · match i, hz with
    | 0, hz =>
      obtain rfl : z = (some ⟨t1, 0, none⟩, [x]) := by simpa using hz.symm
      exact ⟨hB.cell 0 _ rfl, .inr ⟨t1, [x], 0, rfl, hq1, e1, equiv_op hx⟩⟩
    | 1, hz =>
      obtain rfl : z = (some ⟨t2, 0, none⟩, [readyI v]) := by simpa using hz.symm
      exact ⟨hB.cell 1 _ rfl, .inr ⟨t2, [], v, rfl, hq2, e2, equiv_val v⟩⟩
    | (i + 2), hz => simp at hz
  · rintro e w' ⟨t, r, v', rfl, hM, hR⟩
    refine ⟨t, rfl, ?_⟩
    rcases hR with ⟨h, _⟩ | ⟨_, hR⟩
    · cases h
    · have e0 := (hR.on 0).1
      have ef : flat [((some ⟨t1, 0, none⟩ : Option Addr), [x]), (some ⟨t2, 0, none⟩, [readyI v])] = [x, readyI v] := by simp [flat]
      rw [ef, onS_other hx] at e0
      subst e0
      exact ⟨hM.1, TaskIn.value hM.2.1 0 (fun h => by cases h), hM.2.2⟩
abbrev loadI (i : Nat) : Itm := ⟨0, i, 0, 0⟩
abbrev storeI (i : Nat) (v : Int) : Itm := ⟨1, i, IntKind.u64.wrap (IntKind.u64.wrap v + 1), 0⟩
def looseT (i : Nat) : Tre Itm := opT (loadI i) fun v => itmT [storeI i v, readyI v] 0
end Go.Proofs.YtldofbkjjmnooaaGreat
/- Package latch: Guard, Bump. -/
namespace Go.Proofs.YtldofbkjjmnooaaGreat
open Go.ChangeShapes Go.WideShapes Go.ChangeAt Go.RowKit
set_option linter.unusedVariables false
set_option maxRecDepth 100000
set_option linter.unusedSimpArgs false
theorem called1_idle (w : World) : CallsD Tryz.prog 376 #[] .returning w fun e u' w' => e = .returned (.tuple #[]) ∧ u' = .returning ∧ w' = w := by
  refine callsD_of_wpS Tryz.func376 rfl fun c₀ cs hu => ?_
  apply wpS_region
  simp [wpOpsS, go_sem, recoverD, hu, Tryz.ntmps376, Exit.thenS, bodyPostS, results, Tryz.results376]
  cases c₀
  simp_all
theorem called1_panic (v : Value) (older : List PanicEntry) (w : World) : CallsD Tryz.prog 376 #[] (.panicking ({ v := v, recovered := false } :: older)) w fun e u' w' => e = .returned (.tuple #[]) ∧ u' = .panicking ({ v := v, recovered := true } :: older) ∧ w' = w := by
  refine callsD_of_wpS Tryz.func376 rfl fun c₀ cs hu => ?_
  apply wpS_region
  simp [wpOpsS, go_sem, recoverD, hu, Tryz.ntmps376, Exit.thenS, bodyPostS, results, Tryz.results376]
theorem called_some (F : Nat) (caps : Array Value) (w : World) (R : Option Addr → World → Prop)
    (hcall : ∀ (W : World) (args : Array Value), (callFunc F args).run Tryz.prog W = .ok (.enter F args) W)
    (h : Calls Tryz.prog F caps w fun e w' => ∃ t, e = .returned (.pointer t) ∧ R t w') :
    Calls Tryz.prog 357 #[cloV F caps] w fun e w' => ∃ t, e = .returned (.pointer t) ∧ R t w' := by
  have HH := Lib.hid h
  clear h
  go_enter_defers Tryz.func357, Tryz.ntmps357
  go_wp2_with fail
  refine HH.out.mono ?_
  rintro e w1 ⟨v, rfl, hp⟩
  go_wp2_with fail
  refine leaves_cons (f := 376) (args := #[]) (by simp) (by simp [go_sem]) ?_
  refine (called1_idle _).mono ?_
  rintro e u' w'' ⟨rfl, rfl, rfl⟩
  simp [Leaves, settle, results, Tryz.results357, go_sem]
  exact hp
theorem called_none (w : World) : Calls Tryz.prog 357 #[.nilFunc] w fun e w' => e = .returned (.pointer none) ∧ w = w' := by
  go_enter_defers Tryz.func357, Tryz.ntmps357
  go_wp2_with fail
  refine leaves_cons (f := 376) (args := #[]) (by simp) (by simp [go_sem]) ?_
  refine (called1_panic _ [] _).mono ?_
  rintro e u' w'' ⟨rfl, rfl, rfl⟩
  simp [Leaves, settle, results, Tryz.results357, go_sem]
/-- what is done within a latch -/
def BodyIs {A : Type} (O : Ops A) (w : World) (Q : Nat → Prop) (bv : Value) (B : Tre A) : Prop :=
  ∀ W, Keep (fun b => ¬ Q b) w W → Calls Tryz.prog 357 #[bv] W fun e W' => ∃ n, e = .returned (.pointer n) ∧ Below W.heap.size W W' ∧
    TaskF O W' (fun b => (Q b ∧ b < w.heap.size) ∨ W.heap.size ≤ b) n B ∧ InQ (fun b => (Q b ∧ b < w.heap.size) ∨ W.heap.size ≤ b) n
theorem BodyIs.later {A : Type} {O : Ops A} {w w1 : World} {Q Q1 : Nat → Prop} {bv : Value} {B : Tre A} (h : BodyIs O w Q bv B) (hk : Keep (fun _ => False) w w1) (hq : ∀ b, b < w.heap.size → Q b → Q1 b) : BodyIs O w1 Q1 bv B := by
  intro W hW
  have hs := hk.size
  refine (h W ⟨hW.os.trans hk.os, hW.tape.trans hk.tape, hW.output.trans hk.output, Nat.le_trans hs hW.size, fun b hb hn => ?_⟩).mono ?_
  · have hQ : Q b := Classical.not_not.1 hn
    rw [hW.block b (by omega) (fun h => h (hq b hb hQ)), hk.block b hb (fun h => h)]
  · rintro e W' ⟨n, rfl, h1, h2, h3⟩
    have hqq : ∀ b, (Q b ∧ b < w.heap.size) ∨ W.heap.size ≤ b → (Q1 b ∧ b < w1.heap.size) ∨ W.heap.size ≤ b := fun b hb => hb.imp (fun h => ⟨hq b h.2 h.1, by omega⟩) id
    exact ⟨n, rfl, h1, h2.keep (Keep.refl (fun _ => False) W') (fun _ _ h => h) (fun _ _ h => h) (fun b _ h => hqq b h), fun k e => hqq k (h3 k e)⟩
theorem between1_any {A : Type} (O : Ops A) (Q Q' : Nat → Prop) (bb : Nat) (bv : Value) (B : Tre A) (v : Int) (w : World) (hb : Blk w bb 155 #[bv])
    (hB : Calls Tryz.prog 357 #[bv] w fun e W' => ∃ n, e = .returned (.pointer n) ∧ Below w.heap.size w W' ∧ TaskF O W' Q' n B ∧ InQ Q' n) :
    Calls Tryz.prog 356 #[.int .i64 v, pV bb] w fun e W' => ∃ n, e = .returned (.pointer n) ∧ Below w.heap.size w W' ∧ TaskF O W' Q' n B ∧ InQ Q' n := by
  have c0 : w.cell? ⟨bb, 0, none⟩ = some bv := hb.cell 0 _ rfl
  have HH := Lib.hid hB
  clear hB hb
  go_enter Tryz.func356, Tryz.ntmps356
  go_wp2_with (go_at_call 357; refine HH.out.mono ?_; rintro e w2 ⟨n, rfl, h⟩)
  go_ret
  exact ⟨n, rfl, h⟩
theorem call_between1 : ∀ (W : World) (args : Array Value), (callFunc 356 args).run Tryz.prog W = .ok (.enter 356 args) W := by
  intro W args
  go_simp
theorem call_between2 : ∀ (W : World) (args : Array Value), (callFunc 358 args).run Tryz.prog W = .ok (.enter 358 args) W := by
  intro W args
  go_simp
abbrev leaveV (C i : Nat) (t : Int) : Value := .func (.func 330) #[holdV C i t] #[]
abbrev enterV (C i : Nat) (t : Int) : Value := .func (.func 329) #[holdV C i t] #[]
theorem between2_any (C P : Nat) (Q : Nat → Prop) (i : Nat) (t v : Int) (bl : Nat) (w : World) (hb : Blk w bl 155 #[leaveV C i t]) (hQ : ∀ k, w.heap.size ≤ k → Q k) :
    Calls Tryz.prog 358 #[.int .i64 v, pV bl] w fun e w' => ∃ k, e = .returned (pV k) ∧ Made6 w C P Q [dropI i t, readyI v] 0 k w' := by
  have c0 : w.cell? ⟨bl, 0, none⟩ = some (leaveV C i t) := hb.cell 0 _ rfl
  have HE := Lib.hid (leave_any C P Q i t w hQ)
  have HR := Lib.hid fun W => tready_any C P Q v W
  have HSQ : Hid (∀ (w2 w4 : World) (t1 t2 : Nat), Made6 w C P Q [dropI i t] 0 t1 w2 → Made6 w2 C P Q [] v t2 w4 → Calls Tryz.prog 138 #[.slice (some ⟨w4.heap.size, 0, none⟩) 2 2] (w4.alloc (.cells #[pV t1, pV t2] 40)) fun e w' => ∃ t', e = .returned (pV t') ∧ Made6 (w4.alloc (.cells #[pV t1, pV t2] 40)) C P Q [dropI i t, readyI v] 0 t' w') :=
    Lib.hid fun w2 w4 t1 t2 h1 h2 => seq_val (show (2 : Nat) ≠ 7 by decide) h1 (hQ _ h1.1) h2 (hQ _ (Nat.le_trans h1.2.2.size h2.1)) (fun k hk => hQ k (Nat.le_trans h1.2.2.size (Nat.le_trans h2.2.2.size hk)))
  clear hQ hb
  go_enter Tryz.func358, Tryz.ntmps358
  go_wp2_with (first
    | (go_at_call 330; refine HE.out.mono ?_; rintro e w2 ⟨t1, rfl, h1⟩; have HR2 := Lib.hid (HR.out w2))
    | (go_at_call 102; refine HR2.out.mono ?_; rintro e w4 ⟨t2, rfl, h2⟩; have HS4 := Lib.hid (HSQ.out w2 w4 t1 t2 h1 h2))
    | (go_at_call 138; refine HS4.out.mono ?_; rintro e w6 ⟨t, rfl, h3⟩))
  go_ret
  have b4 : Below w.heap.size w w4 := h1.2.2.trans (h2.2.2.mono h1.2.2.size)
  exact ⟨t, rfl, h3.from (b4.trans (((Below.refl _ w4).alloc (Nat.le_refl _) _).mono b4.size))⟩
def guardT (i : Nat) (t : Int) (B : Tre Itm) : Tre Itm := bindT (fun v => itmT [dropI i t, readyI v] 0) (bindT (fun _ => B) (itmT [takeI i t] 0))
set_option maxHeartbeats 1000000 in
theorem between_any (C P : Nat) (Q : Nat → Prop) (i : Nat) (t : Int) (bv : Value) (B : Tre Itm) (w : World) (hbv : bv = .nilFunc ∨ ∃ F caps, bv = cloV F caps) (hB : BodyIs (cellOps C P) w Q bv B) (hQ : ∀ k, w.heap.size ≤ k → Q k) :
    Calls Tryz.prog 328 #[enterV C i t, bv, leaveV C i t] w fun e w' => ∃ k, e = .returned (pV k) ∧ MadeT (cellOps C P) w Q (guardT i t B) k w' := by
  have hmf : ∀ (fn : Fn) (first cap : Array Value) (w : World), (Instr.makeFunc fn first cap).run Tryz.prog w = .ok (.func fn first cap) w := fun _ _ _ _ => rfl
  have HQ := Lib.hid hQ
  have HB := Lib.hid hB
  clear hQ hB
  have HBV := Lib.hid hbv
  clear hbv
  go_enter Tryz.func328, Tryz.ntmps328
  go_upto_region 1 with fail
  generalize hW : ((w.alloc _).alloc _) = W
  have bW : Below w.heap.size w W := by rw [← hW]; go_grown
  have q0 : Blk W w.heap.size 155 #[bv] := by rw [← hW]; rcases HBV.out with rfl | ⟨F, caps, rfl⟩ <;> exact (Blk.new w _ _).alloc _
  have q1 : Blk W (w.heap.size + 1) 155 #[leaveV C i t] := by rw [← hW]; rcases HBV.out with rfl | ⟨F, caps, rfl⟩ <;> exact blk_two w _ _ _
  clear hW
  have sW := bW.size
  have HE := Lib.hid (enter_any C P Q i t W (fun k hk => HQ.out k (by omega)))
  have HT1 : Hid (∀ w2 t1, Made6 W C P Q [takeI i t] 0 t1 w2 → Calls Tryz.prog 137 #[pV t1, cloV 356 #[pV w.heap.size]] w2 fun e w' => ∃ t', e = .returned (pV t') ∧ MadeT (cellOps C P) w2 Q (bindT (fun _ => B) (itmT [takeI i t] 0)) t' w') := Lib.hid (by
    intro w2 t1 hM
    have s2 := hM.2.2.size
    refine thenT_any (cellOps C P) (some ⟨t1, 0, none⟩) 356 _ (itmT [takeI i t] 0) _ Q w2 (TaskF.keep hM.madeT.2.1 (Keep.refl (fun _ => False) w2) (fun _ _ h => h) (fun _ _ h => h) (fun b _ h => h.1)) (fun j e => by injection e with e; injection e with e; rw [← e]; exact TaskT.lt hM.madeT.2.1) (fun k hk => HQ.out k (by omega)) ?_
    intro w3 Q1 f hb hf hlo hqf hqq
    have b3 : Below w.heap.size w w3 := bW.trans ((hM.2.2.trans (hb.mono s2)).mono sW)
    have p0 : Blk w3 w.heap.size 155 #[bv] := (q0.below hM.2.2 q0.lt).below hb (by have := q0.lt; omega)
    have qa : Q1 w.heap.size := hqq _ (by have := q0.lt; omega) (HQ.out _ (Nat.le_refl _))
    have hB3 := HB.out.later (w1 := w3) (Q1 := Q1) (Keep.ofBelow b3) (fun b hb h => hqq b (by omega) h)
    refine contT_of (cellOps C P) w3 Q1 f 356 _ _ hqf hf call_between1 fun v w4 hw => ?_
    exact between1_any (cellOps C P) Q1 _ w.heap.size bv B v w4 (p0.keep hw (fun h => h qa)) (hB3 w4 hw))
  have HT2 : Hid (∀ w2 w4 t1 t2, Made6 W C P Q [takeI i t] 0 t1 w2 → MadeT (cellOps C P) w2 Q (bindT (fun _ => B) (itmT [takeI i t] 0)) t2 w4 → Calls Tryz.prog 137 #[pV t2, cloV 358 #[pV (w.heap.size + 1)]] w4 fun e w' => ∃ t', e = .returned (pV t') ∧ MadeT (cellOps C P) w4 Q (guardT i t B) t' w') := Lib.hid (by
    intro w2 w4 t1 t2 hM hM2
    have s2 := hM.2.2.size
    have s4 := hM2.2.2.size
    refine thenT_any (cellOps C P) (some ⟨t2, 0, none⟩) 358 _ (bindT (fun _ => B) (itmT [takeI i t] 0)) (fun v => itmT [dropI i t, readyI v] 0) Q w4 (TaskF.keep hM2.2.1 (Keep.refl (fun _ => False) w4) (fun _ _ h => h) (fun _ _ h => h) (fun b _ h => h.1)) (fun j e => by injection e with e; injection e with e; rw [← e]; exact TaskT.lt hM2.2.1) (fun k hk => HQ.out k (by omega)) ?_
    intro w3 Q1 f hb hf hlo hqf hqq
    have p1 : Blk w3 (w.heap.size + 1) 155 #[leaveV C i t] := ((q1.below hM.2.2 q1.lt).below hM2.2.2 (by have := q1.lt; omega)).below hb (by have := q1.lt; omega)
    have qa : Q1 (w.heap.size + 1) := hqq _ (by have := q1.lt; omega) (HQ.out _ (by omega))
    refine contT_of (cellOps C P) w3 Q1 f 358 _ _ hqf hf call_between2 fun v w5 hw => ?_
    refine (between2_any C P (fun b => (Q1 b ∧ b < w3.heap.size) ∨ w5.heap.size ≤ b) i t v (w.heap.size + 1) w5 (p1.keep hw (fun h => h qa)) (fun k hk => .inr hk)).mono ?_
    rintro e w6 ⟨t', rfl, hM6⟩
    exact ⟨some ⟨t', 0, none⟩, rfl, hM6.2.2, TaskF.keep hM6.madeT.2.1 (Keep.refl (fun _ => False) w6) (fun _ _ h => h) (fun _ _ h => h) (fun b _ h => h.1), fun j e => by injection e with e; injection e with e; rw [← e]; exact .inr hM6.1⟩)
  go_upto_region 2 with (first
    | (go_at_call 329; refine HE.out.mono ?_; rintro e w2 ⟨t1, rfl, h1⟩; have HT3 := Lib.hid (HT1.out w2 t1 h1))
    | (go_at_call 137; refine HT3.out.mono ?_; rintro e w4 ⟨t2, rfl, h2⟩; have HT4 := Lib.hid (HT2.out w2 w4 t1 t2 h1 h2)))
  clear HT1 HT2 HT3 HE HB
  go_wp2_with (go_at_call 137; refine HT4.out.mono ?_; rintro e w6 ⟨t3, rfl, h3⟩)
  go_ret
  have b2 : Below w.heap.size w w2 := bW.trans (h1.2.2.mono sW)
  have b4 : Below w.heap.size w w4 := b2.trans (h2.2.2.mono b2.size)
  exact ⟨t3, rfl, h3.from b4⟩
theorem guard_any (C P : Nat) (Q : Nat → Prop) (i : Nat) (t : Int) (bv : Value) (B : Tre Itm) (w : World) (hbv : bv = .nilFunc ∨ ∃ F caps, bv = cloV F caps) (hB : BodyIs (cellOps C P) w Q bv B) (hQ : ∀ k, w.heap.size ≤ k → Q k) :
    Calls Tryz.prog 275 #[cellsV C, .int .i64 i, .int .i64 t, bv] w fun e w' => ∃ k, e = .returned (pV k) ∧ MadeT (cellOps C P) w Q (guardT i t B) k w' := by
  have hmf : ∀ (fn : Fn) (first cap : Array Value) (w : World), (Instr.makeFunc fn first cap).run Tryz.prog w = .ok (.func fn first cap) w := fun _ _ _ _ => rfl
  have HB := Lib.hid fun W (hb : Below w.heap.size w W) => between_any C P Q i t bv B W hbv (hB.later (Keep.ofBelow hb) (fun _ _ h => h)) (fun k hk => hQ k (Nat.le_trans hb.size hk))
  clear hB hQ
  go_enter Tryz.func275, Tryz.ntmps275
  go_upto_region 2 with fail
  generalize hW : (w.alloc _) = W
  have bW : Below w.heap.size w W := by rw [← hW]; go_grown
  have q0 : Blk W w.heap.size 332 #[cellsV C, .int .i64 i, .int .i64 t] := by rw [← hW]; exact Blk.new w _ _
  clear hW
  have c0 : W.cell? ⟨w.heap.size, 0, none⟩ = some (cellsV C) := q0.cell 0 _ rfl
  have c1 : W.cell? ⟨w.heap.size, 1, none⟩ = some (.int .i64 i) := q0.cell 1 _ rfl
  have c2 : W.cell? ⟨w.heap.size, 2, none⟩ = some (.int .i64 t) := q0.cell 2 _ rfl
  have HB2 := Lib.hid (HB.out W bW)
  go_wp2_with (go_at_call 328; refine HB2.out.mono ?_; rintro e w2 ⟨k, rfl, h⟩)
  go_ret
  exact ⟨k, rfl, h.from bW⟩
def bumpT (at' : Nat) (t : Int) (i : Nat) : Tre Itm := guardT at' t (looseT i)
end Go.Proofs.YtldofbkjjmnooaaGreat
/- Package pool: what is done under the latch. -/
namespace Go.Proofs.YtldofbkjjmnooaaGreat
open Go.ChangeShapes Go.WideShapes Go.ChangeAt Go.RowKit
set_option linter.unusedVariables false
set_option maxRecDepth 100000
set_option linter.unusedSimpArgs false
theorem poReady (C P : Nat) (Q : Nat → Prop) (v : Int) (w : World) : Calls Tryz.prog 102 #[.int .i64 v] w fun e w' => ∃ t, e = .returned (pV t) ∧ MadeQ (cellOps C P) w Q (retT v) t w' := by
  refine (tready_any C P Q v w).mono ?_
  rintro e w' ⟨t, rfl, h⟩
  exact ⟨t, rfl, h.madeQ⟩
abbrev storeN (b : Nat) (v : Int) : Itm := ⟨1, b, v, 0⟩
def putT (b : Nat) (v : Int) : Tre Itm := opT (storeN b v) fun u => retT u
theorem put_eq (b : Nat) (v : Int) : itmT [storeN b v] 0 = putT b v := rfl
theorem poStore (C P : Nat) (Q : Nat → Prop) (b : Nat) (v : Int) (w : World) (hQ : ∀ k, w.heap.size ≤ k → Q k) : Calls Tryz.prog 178 #[cellsV C, .int .i64 (b : Int), .int .u64 v] w fun e w' => ∃ t, e = .returned (pV t) ∧ MadeQ (cellOps C P) w Q (putT b v) t w' := by
  refine (tStore_any C P Q (storeN b v) w rfl hQ).mono ?_
  rintro e w' ⟨t, rfl, h⟩
  exact ⟨t, rfl, h.madeQ⟩
theorem poLoad (C P : Nat) (Q : Nat → Prop) (b : Nat) (w : World) (hQ : ∀ k, w.heap.size ≤ k → Q k) : Calls Tryz.prog 193 #[cellsV C, .int .i64 (b : Int)] w fun e w' => ∃ t, e = .returned (pV t) ∧ MadeQ (cellOps C P) w Q (opT (loadI b) retT) t w' := by
  refine (tLoad_any C P Q (loadI b) w rfl hQ).mono ?_
  rintro e w' ⟨t, rfl, h⟩
  exact ⟨t, rfl, h.madeQ⟩
/-- Then, with a closure that is told of by how it answers -/
theorem poThen (C P : Nat) (Q : Nat → Prop) (t1 F : Nat) (caps : Array Value) (T : Tre Itm) (k : Int → Tre Itm) (w : World) (hT : TaskF (cellOps C P) w Q (some ⟨t1, 0, none⟩) T) (hQ : ∀ k, w.heap.size ≤ k → Q k)
    (hcall : ∀ (W : World) (args : Array Value), (callFunc F args).run Tryz.prog W = .ok (.enter F args) W)
    (hG : ∀ v w4, Keep (fun b => ¬ (Q b ∧ b < w.heap.size)) w w4 → Calls Tryz.prog F (#[.int .i64 v] ++ caps) w4 fun e w' => ∃ t, e = .returned (pV t) ∧ MadeQ (cellOps C P) w4 (fun b => w4.heap.size ≤ b) (k v) t w') :
    Calls Tryz.prog 137 #[pV t1, cloV F caps] w fun e w' => ∃ t, e = .returned (pV t) ∧ MadeQ (cellOps C P) w Q (bindT k T) t w' := by
  refine (thenT_any (cellOps C P) (some ⟨t1, 0, none⟩) F caps T k Q w hT (fun j e => by injection e with e; injection e with e; rw [← e]; exact TaskT.lt hT) hQ ?_).mono ?_
  · intro w3 Q1 f hb hf hlo hqf hqq
    refine contT_of (cellOps C P) w3 Q1 f F _ _ hqf hf hcall fun v w4 hw => ?_
    have k4 : Keep (fun b => ¬ (Q b ∧ b < w.heap.size)) w w4 := ((Keep.ofBelow (Q := fun _ => False) hb).mono (fun _ _ h => h.elim)).step hw (fun i hi h hh => h (hqq i hi hh.1))
    refine (hG v w4 k4).mono ?_
    rintro e w5 ⟨t, rfl, hM⟩
    exact ⟨some ⟨t, 0, none⟩, rfl, hM.2.2, TaskF.keep hM.2.1 (Keep.refl (fun _ => False) w5) (fun _ _ h => h) (fun _ _ h => h) (fun b _ h => .inr h.1), fun j e => by injection e with e; injection e with e; rw [← e]; exact .inr hM.1⟩
  · rintro e w' ⟨t, rfl, h1, h2, h3⟩
    exact ⟨t, rfl, h1, h2, h3⟩
theorem bind_load (b : Nat) (k : Int → Tre Itm) : bindT k (opT (loadI b) retT) = opT (loadI b) k := by
  rw [bindT_op]
  congr 1
  funext v
  rw [bindT_ret]
theorem seqT_three {A : Type} (O : Ops A) (Q : Nat → Prop) (T1 T2 T3 : Tre A) (t1 t2 t3 : Nat) (w : World) (h1 : TaskF O w Q (some ⟨t1, 0, none⟩) T1) (h2 : TaskF O w Q (some ⟨t2, 0, none⟩) T2) (h3 : TaskF O w Q (some ⟨t3, 0, none⟩) T3) (q1 : Q t1) (q2 : Q t2) (q3 : Q t3) (hQ : ∀ k, w.heap.size ≤ k → Q k) :
    Calls Tryz.prog 138 #[.slice (some ⟨w.heap.size, 0, none⟩) 3 3] (w.alloc (.cells #[pV t1, pV t2, pV t3] 40)) fun e w' => ∃ t, e = .returned (pV t) ∧ MadeQ O w Q (seqT [T1, T2, T3]) t w' := by
  have hB := Blk.new w 40 #[pV t1, pV t2, pV t3]
  have hb : Below w.heap.size w (w.alloc (.cells #[pV t1, pV t2, pV t3] 40)) := (Below.refl _ w).alloc (Nat.le_refl _) _
  have l1 := TaskT.lt h1
  have l2 := TaskT.lt h2
  have l3 := TaskT.lt h3
  have hi : ∀ (P : Nat → Prop), P t1 → P t2 → P t3 → ∀ (i : Nat) (x : Option Addr × Tre A), [((some ⟨t1, 0, none⟩ : Option Addr), T1), (some ⟨t2, 0, none⟩, T2), (some ⟨t3, 0, none⟩, T3)][i]? = some x → InQ P x.1 := fun P p1 p2 p3 i x hx k e => by
    match i, hx with
    | 0, hx => simp at hx; subst hx; simp at e; exact e ▸ p1
    | 1, hx => simp at hx; subst hx; simp at e; exact e ▸ p2
    | 2, hx => simp at hx; subst hx; simp at e; exact e ▸ p3
    | (i + 3), hx => simp at hx
  refine (seqT_any O Q [((some ⟨t1, 0, none⟩ : Option Addr), T1), (some ⟨t2, 0, none⟩, T2), (some ⟨t3, 0, none⟩, T3)] w.heap.size 0 3 _ (by simp) (by simp) (fun i x hx => ?_) (hi Q q1 q2 q3) (fun k hk => hQ k (by rw [World.size_alloc] at hk; omega))).mono ?_
  · refine ⟨?_, ?_, fun k e => Nat.lt_of_lt_of_le (hi (fun k => k < w.heap.size) l1 l2 l3 i x hx k e) hb.size⟩
    · match i, hx with
      | 0, hx => simp at hx; subst hx; exact hB.cell 0 _ rfl
      | 1, hx => simp at hx; subst hx; exact hB.cell 1 _ rfl
      | 2, hx => simp at hx; subst hx; exact hB.cell 2 _ rfl
      | (i + 3), hx => simp at hx
    · match i, hx with
      | 0, hx => simp at hx; subst hx; exact h1.at hb
      | 1, hx => simp at hx; subst hx; exact h2.at hb
      | 2, hx => simp at hx; subst hx; exact h3.at hb
      | (i + 3), hx => simp at hx
  · rintro e w' ⟨t, rfl, h⟩
    exact ⟨t, rfl, h.of hb⟩
/-- a cell stored in another one -/
def mvT (a b : Nat) : Tre Itm := opT (loadI a) fun v => putT b (IntKind.u64.wrap v)
theorem call_move1 : ∀ (W : World) (args : Array Value), (callFunc 278 args).run Tryz.prog W = .ok (.enter 278 args) W := by
  intro W args
  go_simp
theorem move1_any (C P : Nat) (m : Mp) (Q : Nat → Prop) (b : Nat) (v : Int) (bs bt : Nat) (w : World) (hs : Blk w bs 170 (stockCs C m)) (ht : Blk w bt 3 #[.int .i64 (b : Int)]) (hQ : ∀ k, w.heap.size ≤ k → Q k) :
    Calls Tryz.prog 278 #[.int .i64 v, pV bs, pV bt] w fun e w' => ∃ t, e = .returned (pV t) ∧ MadeQ (cellOps C P) w Q (putT b (IntKind.u64.wrap v)) t w' := by
  have c0 : w.cell? ⟨bs, 0, none⟩ = some (cellsV C) := hs.cell 0 _ rfl
  have c1 : w.cell? ⟨bt, 0, none⟩ = some (.int .i64 (b : Int)) := ht.cell 0 _ rfl
  have HS := Lib.hid (poStore C P Q b (IntKind.u64.wrap v) w hQ)
  clear hQ hs ht
  go_enter Tryz.func278, Tryz.ntmps278
  go_wp2_with (go_at_call 178; refine HS.out.mono ?_; rintro e w2 ⟨t, rfl, h⟩)
  go_ret
  exact ⟨t, rfl, h⟩
theorem move_any (C P : Nat) (m : Mp) (Q : Nat → Prop) (a b : Nat) (w : World) (hQ : ∀ k, w.heap.size ≤ k → Q k) {aI bI : Int} (ha : aI = a) (hb : bI = b) :
    Calls Tryz.prog 196 #[stockV C m, .int .i64 aI, .int .i64 bI] w fun e w' => ∃ t, e = .returned (pV t) ∧ MadeQ (cellOps C P) w Q (mvT a b) t w' := by
  subst ha hb
  have hmf : ∀ (fn : Fn) (first cap : Array Value) (w : World), (Instr.makeFunc fn first cap).run Tryz.prog w = .ok (.func fn first cap) w := fun _ _ _ _ => rfl
  have HQ := Lib.hid hQ
  clear hQ
  go_enter Tryz.func196, Tryz.ntmps196
  go_upto_region 1 with fail
  generalize hW : ((w.alloc _).alloc _) = W
  have bW : Below w.heap.size w W := by rw [← hW]; go_grown
  have sW : W.heap.size = w.heap.size + 2 := by rw [← hW]; simp
  have q0 : Blk W w.heap.size 170 (stockCs C m) := by rw [← hW]; exact (Blk.new w _ _).alloc _
  have q1 : Blk W (w.heap.size + 1) 3 #[.int .i64 (b : Int)] := by rw [← hW]; exact blk_two w _ _ _
  clear hW
  have c0 : W.cell? ⟨w.heap.size, 0, none⟩ = some (cellsV C) := q0.cell 0 _ rfl
  have HL := Lib.hid (poLoad C P Q a W (fun k hk => HQ.out k (by omega)))
  have HT := Lib.hid fun w2 t1 (hM : MadeQ (cellOps C P) W Q (opT (loadI a) retT) t1 w2) => poThen C P Q t1 278 #[pV w.heap.size, pV (w.heap.size + 1)] (opT (loadI a) retT) (fun v => putT b (IntKind.u64.wrap v)) w2 hM.task (fun k hk => HQ.out k (by have := hM.2.2.size; omega)) call_move1 (fun v w4 hk => by
    have s2 := hM.2.2.size
    exact move1_any C P m _ b v _ _ w4 ((q0.below hM.2.2 q0.lt).keep hk (fun h => h ⟨HQ.out _ (by omega), by omega⟩)) ((q1.below hM.2.2 q1.lt).keep hk (fun h => h ⟨HQ.out _ (by omega), by omega⟩)) (fun k hk => hk))
  clear q0 q1
  go_wp2_with (first
    | (go_at_call 193; refine HL.out.mono ?_; rintro e w2 ⟨t1, rfl, h1⟩; have HT2 := Lib.hid (HT.out w2 t1 h1))
    | (go_at_call 137; refine HT2.out.mono ?_; rintro e w4 ⟨t, rfl, h2⟩))
  go_ret
  rw [bind_load] at h2
  exact ⟨t, rfl, h2.of (bW.trans (h1.2.2.mono bW.size))⟩
/-- Take's work behind the load of the head -/
def takeK (m : Mp) (v : Int) : Tre Itm := if pmS m (IntKind.u64.wrap v) = -1 then retT (-1) else seqT [mvT (linkN m (pmS m (IntKind.u64.wrap v))) 1, retT (pmS m (IntKind.u64.wrap v))]
def takeB (m : Mp) : Tre Itm := opT (loadI 1) (takeK m)
theorem call_take11 : ∀ (W : World) (args : Array Value), (callFunc 194 args).run Tryz.prog W = .ok (.enter 194 args) W := by
  intro W args
  go_simp
theorem call_take1 : ∀ (W : World) (args : Array Value), (callFunc 192 args).run Tryz.prog W = .ok (.enter 192 args) W := by
  intro W args
  go_simp
theorem stock4 {w : World} {b C : Nat} {m : Mp} (h : Blk w b 170 (stockCs C m)) : w.cell? ⟨b, 0, none⟩ = some (cellsV C) ∧ w.cell? ⟨b, 1, none⟩ = some (.int .i64 (m.t : Int)) ∧ w.cell? ⟨b, 2, none⟩ = some (.int .i64 (m.o : Int)) ∧ w.cell? ⟨b, 3, none⟩ = some (.int .i64 (m.n : Int)) := ⟨h.cell 0 _ rfl, h.cell 1 _ rfl, h.cell 2 _ rfl, h.cell 3 _ rfl⟩
set_option maxHeartbeats 2000000 in
theorem take11_any (C P : Nat) (m : Mp) (Q : Nat → Prop) (v : Int) (bs : Nat) (w : World) (hm : m.ok) (hs : Blk w bs 170 (stockCs C m)) (hQ : ∀ k, w.heap.size ≤ k → Q k) :
    Calls Tryz.prog 194 #[.int .i64 v, pV bs] w fun e w' => ∃ t, e = .returned (pV t) ∧ MadeQ (cellOps C P) w Q (takeK m v) t w' := by
  have hu := u64_range v
  have hr := pmS_range (m := m) hu.1
  have hn := hm.n
  have HK := Lib.hid fun V => pmarked_any C m (IntKind.u64.wrap v) V hm hu
  have HX := Lib.hid fun V => fun h => link_any m (pmS m (IntKind.u64.wrap v)) V hm h
  have HH := Lib.hid fun V => head_any m V
  unfold takeK
  generalize pmS m (IntKind.u64.wrap v) = n at *
  have SK := Lib.hid (show ∀ V, Below w.heap.size w V → (V.cell? ⟨bs, 0, none⟩ = some (cellsV C) ∧ V.cell? ⟨bs, 1, none⟩ = some (.int .i64 (m.t : Int)) ∧ V.cell? ⟨bs, 2, none⟩ = some (.int .i64 (m.o : Int)) ∧ V.cell? ⟨bs, 3, none⟩ = some (.int .i64 (m.n : Int))) from fun V hk => stock4 (hs.below hk hs.lt))
  obtain ⟨d0, d1, d2, d3⟩ := stock4 hs
  have HQ := Lib.hid hQ
  clear hs hQ hm hu
  go_enter Tryz.func194, Tryz.ntmps194
  go_upto_region 2 with (go_at_call 195; refine (HK.out _).mono ?_; rintro e w1 ⟨rfl, b1⟩)
  clear d0 d1 d2 d3
  by_cases hn1 : n = -1
  · subst hn1
    go_wp2_with (go_at_call 102; refine (poReady C P Q (-1) _).mono ?_; rintro e w2 ⟨t', rfl, h1⟩)
    go_ret
    exact ⟨t', rfl, h1.of b1⟩
  · have s1 := b1.size
    have HMv := Lib.hid fun V (hV : Below w.heap.size w V) => move_any C P m Q (linkN m n) 1 V (fun k hk => HQ.out k (by have := hV.size; omega)) rfl rfl
    have HR := Lib.hid fun V => poReady C P Q n V
    have HSQ := Lib.hid fun V t1 t2 (hV : Below w.heap.size w V) h1 h2 q1 q2 => seqT_two (cellOps C P) Q (mvT (linkN m n) 1) (retT n) t1 t2 V h1 h2 q1 q2 (fun k hk => HQ.out k (by have := hV.size; omega))
    have HX2 := Lib.hid fun V => HX.out V ⟨by omega, by omega⟩
    have hne : (n == -1) = false := by rw [beq_eq_false_iff_ne]; exact hn1
    have bd : Below w.heap.size w w1.drew := b1.trans ((bdrewP w1).mono s1)
    clear HX HK hr hn
    have HN1 := Lib.hid hn1
    go_upto_region 4 with fail
    go_region_held3 (fun V => V.cell? ⟨bs, 0, none⟩ = some (cellsV C) ∧ V.cell? ⟨bs, 1, none⟩ = some (.int .i64 (m.t : Int)) ∧ V.cell? ⟨bs, 2, none⟩ = some (.int .i64 (m.o : Int)) ∧ V.cell? ⟨bs, 3, none⟩ = some (.int .i64 (m.n : Int))) (first | exact SK.out _ b7 | exact SK.out _ bA | exact SK.out _ b5 | exact SK.out _ b4 | exact SK.out _ b3 | exact SK.out _ b2 | exact SK.out _ bd) (first
      | (go_at_call 47; (with_reducible refine (HX2.out _).mono ?_); rintro e w2 ⟨rfl, hb2⟩; have b2 : Below w.heap.size w w2 := bd.trans (hb2.mono bd.size))
      | (go_at_call 36; (with_reducible refine (HH.out _).mono ?_); rintro e w3 ⟨rfl, hb3⟩; have b3 : Below w.heap.size w w3 := b2.trans (hb3.mono b2.size); have HMv2 := Lib.hid (HMv.out w3 b3))
      | (go_at_call 196; refine HMv2.out.mono ?_; rintro e w4 ⟨t1, rfl, hM1⟩; have b4 : Below w.heap.size w w4 := b3.trans (hM1.2.2.mono b3.size); have HR2 := Lib.hid (HR.out w4))
      | (go_at_call 102; (with_reducible refine HR2.out.mono ?_); rintro e w5 ⟨t2, rfl, hM2⟩; have b5 : Below w.heap.size w w5 := b4.trans (hM2.2.2.mono b4.size); have HSQ2 := Lib.hid (HSQ.out w5 t1 t2 b5 (hM1.task.at hM2.2.2) hM2.task (HQ.out _ (by have := b3.size; have := hM1.1; omega)) (HQ.out _ (by have := b4.size; have := hM2.1; omega))); have bA : Below w.heap.size w (w5.alloc (.cells #[pV t1, pV t2] 40)) := b5.trans (((Below.refl _ w5).alloc (Nat.le_refl _) _).mono b5.size))
      | (go_at_call 138; (with_reducible refine HSQ2.out.mono ?_); rintro e w7 ⟨t3, rfl, hM3⟩; have b7 : Below w.heap.size w w7 := b5.trans (hM3.2.2.mono b5.size)))
    all_goals go_wp2
    all_goals go_ret
    all_goals exact ⟨t3, rfl, hM3.of b5⟩
end Go.Proofs.YtldofbkjjmnooaaGreat
/- Tasks over a ground: Then with a closure that may note; Begin, End, Sleep. -/
namespace Go.Proofs.YtldofbkjjmnooaaGreat
open Go.ChangeShapes Go.WideShapes Go.ChangeAt Go.RowKit
set_option linter.unusedVariables false
set_option maxRecDepth 100000
set_option linter.unusedSimpArgs false
section
variable {g : GrP} {m : Mp}
/-- what a closure answers: a task of new blocks alone; what it notes -/
def AnsE (g : GrP) (m : Mp) (w4 : World) (B4 : Nat → Prop) (s4 : GS) (R0 : TrE GOp Ev) (e : Ending) (w5 : World) : Prop :=
  ∃ n, e = .returned (.pointer n) ∧ ∃ M2 B2 l R, Keep B4 w4 w5 ∧ (∀ b, b < w4.heap.size → ¬ M2 b) ∧ (grH g m).at' w5 B2 ((grH g m).note s4 l) ∧ (∀ b, b < w4.heap.size → B2 b → B4 b) ∧ InQ (fun b => w4.heap.size ≤ b ∧ ¬ B2 b) n ∧ JeF (grH g m) (gOps g m) w5 (fun b => w4.heap.size ≤ b ∧ ¬ B2 b) M2 n [] R ∧ R0 = emE l R
theorem AnsE.of {w4 w5 : World} {B4 : Nat → Prop} {s4 : GS} {T : Tre Itm} {t : Nat} (hB : (grH g m).at' w4 B4 s4) (h : MadeQ (cellOps g.C g.P) w4 (fun b => w4.heap.size ≤ b) T t w5) : AnsE g m w4 B4 s4 (itE T) (.returned (pV t)) w5 := by
  have hl := (grH g m).lt hB
  have k0 : Keep (fun _ => False) w4 w5 := Keep.ofBelow h.2.2
  refine ⟨some ⟨t, 0, none⟩, rfl, fun _ => False, B4, [], itE T, k0.mono fun _ _ h => h.elim, fun _ _ h => h, by rw [(grH g m).nil]; exact (grH g m).keep hB k0 (fun _ _ h => h), fun _ _ h => h, fun k e => ?_, ?_, (emE_nil _).symm⟩
  · injection e with e
    injection e with e
    subst e
    exact ⟨h.1, fun hb => by have := hl _ hb; have := h.1; omega⟩
  · exact JeF.keep (jeF_pure g m h.2.1) (Keep.refl (fun _ => False) w5) (fun _ _ h => h) (fun _ _ h => h) (fun b _ hb => ⟨hb.1, fun hB4 => by have := hl _ hB4; have := hb.1; omega⟩)
/-- Then -/
theorem gThen (n0 t1 F : Nat) (caps : Array Value) (T : TrE GOp Ev) (k : Int → TrE GOp Ev) (M1 Qc B : Nat → Prop) (s : GS) (w : World) (hB : (grH g m).at' w B s) (hBn : ∀ b, B b → b < n0) (hn0 : n0 ≤ w.heap.size) (hT : JeF (grH g m) (gOps g m) w (fun b => n0 ≤ b) M1 (some ⟨t1, 0, none⟩) [] T) (hQc : ∀ b, Qc b → n0 ≤ b ∧ b < w.heap.size ∧ ¬ M1 b)
    (hcall : ∀ (W : World) (args : Array Value), (callFunc F args).run Tryz.prog W = .ok (.enter F args) W)
    (hG : ∀ v w4 B4 s4, Keep (fun b => ¬ Qc b) w w4 → (grH g m).at' w4 B4 s4 → (∀ b, B4 b → ¬ Qc b) → Calls Tryz.prog F (#[.int .i64 v] ++ caps) w4 (AnsE g m w4 B4 s4 (k v))) :
    Calls Tryz.prog 137 #[pV t1, cloV F caps] w fun e w' => ∃ t M2 B2 l R2, e = .returned (pV t) ∧ w.heap.size ≤ t ∧ JeF (grH g m) (gOps g m) w' (fun b => (n0 ≤ b ∧ b ≠ t) ∧ ¬ B2 b) M2 (some ⟨t, 0, none⟩) [] R2 ∧ (grH g m).at' w' B2 ((grH g m).note s l) ∧ (∀ x, x < w.heap.size → B2 x → B x) ∧ bindE k T = emE l R2 ∧ Keep (fun b => M1 b ∨ B b) w w' ∧ ¬ B2 t := by
  have hf1 := hT.few
  refine (thenE_any (grH g m) (gOps g m) (some ⟨t1, 0, none⟩) F caps (bindE k T) (fun b => n0 ≤ b) (fun b => M1 b ∨ False) B s w (fun j e => by injection e with e; injection e with e; rw [← e]; exact hT.lt) (fun k hk => Nat.le_trans hn0 hk) hB (fun b hb h => by have := hBn b hb; omega) ?_).mono ?_
  · intro w3 Q1 f hb hf hlo hflt hqf hqq
    have k3 : Keep (fun _ => False) w w3 := Keep.ofBelow hb
    refine jeF_app (grH g m) (gOps g m) (Q1 := fun b => n0 ≤ b ∧ b < w.heap.size) (Q2 := fun b => Qc b ∨ b = f) (fs := []) (JeF.keep hT k3 (fun _ _ h => h) (fun _ _ h => h) (fun b hb h => ⟨h, hb⟩)) (contE_of (grH g m) (gOps g m) w3 _ (fun _ => False) f F caps k (.inr rfl) hf (fun _ h => h.elim) hcall fun v w4 B4 s4 hw hB4 hd => ?_) (fun b _ h => hqq b h.2 h.1) (fun b _ h => ?_) (fun b hb h => ?_) (fun _ h => h.elim)
    · have s3 := hb.size
      refine (hG v w4 B4 s4 (k3.mono (fun _ _ h => h.elim) |>.step hw fun i hi h hc => h (.inl hc)) hB4 (fun b hb hc => hd b hb (by have := (hQc b hc).2.1; omega) (.inl hc))).mono ?_
      rintro e w5 ⟨n, rfl, M2, B2, l, R, g1, g2, g3, g4, g5, g6, g7⟩
      exact ⟨n, rfl, M2, B2, l, R, g1.mono fun _ _ h => .inr h, fun b hb h => (g2 b hb h).elim, g3, g4, fun k e => ⟨.inr (g5 k e).1, (g5 k e).2⟩, g6.keep (Keep.refl (fun _ => False) w5) (fun _ _ h => h) (fun _ _ h => h) (fun b _ h => ⟨.inr h.1, h.2⟩), g7⟩
    · rcases h with h | rfl
      · exact hqq b (hQc b h).2.1 (hQc b h).1
      · exact hqf
    · rcases h with h | rfl
      · exact (hQc b h).2.2 hb
      · have := (hf1 b hb).2; omega
  · rintro e w' ⟨t, M2, B2, l, R2, rfl, h1, h2, h3, h4, h5, h6, h7, h8⟩
    exact ⟨t, M2, B2, l, R2, rfl, h1, h2, h5, h4, h6, h7.mono fun _ _ h => h.imp (fun h => h.elim id False.elim) id, h8⟩
/-- nothing is noted ahead of an operation -/
theorem emE_root {w : World} {Q M : Nat → Prop} {n : Option Addr} {l : List Ev} {R : TrE GOp Ev} {x : GOp} {κ : Int → TrE GOp Ev} (h : JeF (grH g m) (gOps g m) w Q M n [] R) (e : opE x κ = emE l R) : l = [] ∧ R = opE x κ := by
  rcases h.root with ⟨v, rfl, _⟩ | ⟨y, k, rfl⟩
  · exact (retE_opE (e := l) (f := []) (by rw [emE_nil]; exact e.symm)).elim
  · obtain ⟨h1, h2, h3⟩ := emE_inj_op (a := []) (b := l) (x := x) (y := y) (g := κ) (h := k) (by rw [emE_nil]; exact e)
    exact ⟨h1.symm, by rw [h2, h3]⟩
end
/- Begin, End, Sleep -/
abbrev begI (m : Mp) (u : Int) : Itm := ⟨4, safeN m u, 1, 0⟩
abbrev parkN (u : Nat) (timed : Bool) : Itm := ⟨if timed then 6 else 5, u, 0, 0⟩
def wakeT (m : Mp) (u : Int) (how : Int) : Tre Itm := bindT (fun _ => retT how) (spinT (begI m u))
theorem wakeT_eq (m : Mp) (u how : Int) : wakeT m u how = opT (begI m u) (fun v => if v = 0 ∨ v = -2147483648 then wakeT m u how else retT how) := by
  unfold wakeT
  conv => lhs; rw [spinT_eq]
  rw [bindT_op]
  congr 1
  funext v
  split
  · rfl
  · rw [bindT_ret]
def sleepE (m : Mp) (u : Nat) (timed : Bool) : TrE GOp Ev := opE (.itm (storeN (safeN m u) 1)) fun _ => opE (.itm (parkN u timed)) fun how => itE (wakeT m u how)
theorem sleepE_eq (m : Mp) (u : Nat) (timed : Bool) : bindE (fun how => itE (wakeT m u how)) (itE (seqT [putT (safeN m u) 1, itmT [parkN u timed] 0])) = sleepE m u timed := by
  have e1 : seqT [putT (safeN m u) 1, itmT [parkN u timed] 0] = opT (storeN (safeN m u) 1) fun _ => opT (parkN u timed) retT := by
    have hp : itmT [parkN u timed] 0 = opT (parkN u timed) retT := by
      cases timed <;> simp [itmT] <;> rfl
    simp only [seqT, putT, bindT_op, bindT_ret, hp]
  rw [e1, itE_op, bindE_op]
  unfold sleepE
  congr 1
  funext v
  rw [itE_op, bindE_op]
  congr 1
  funext u
  rw [itE_ret, bindE_ret]
section
variable {w : World} {g : GrP} {m : Mp} {mm : List Int} {k : Int} {l : List Bool} {vo : Value} {E : List Ev}
theorem gisT_any (u : Nat) (hu : u < m.t) (h : GrAt w g m mm k l vo E) : Calls Tryz.prog 135 #[grV g, .int .i64 (u : Int)] w fun e w' => e = .returned (.bool true) ∧ w = w' := by
  have c0 : w.cell? ⟨g.G, 0, none⟩ = some (.int .i64 (m.t : Int)) := h.own.cell 0 _ rfl
  have h1 : (0 : Int) ≤ (u : Int) := by omega
  have h2 : (u : Int) < (m.t : Int) := by omega
  clear h
  go_enter Tryz.func135, Tryz.ntmps135
  go_wp2_with fail
  go_ret
  exact ⟨rfl, rfl⟩
end
end Go.Proofs.YtldofbkjjmnooaaGreat
