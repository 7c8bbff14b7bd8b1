/- Package latch: Guard, Bump. -/
import Derived.Test.YtpejmkoheodblaaGreatLatA
namespace Go.Proofs.YtpejmkoheodblaaGreat
open Go.ChangeShapes Go.WideShapes Go.ChangeAt Go.RowKit
set_option linter.unusedVariables false
set_option maxRecDepth 100000
set_option linter.unusedSimpArgs false
theorem called1_idle (w : World) : CallsD Tryz.prog 146 #[] .returning w fun e u' w' => e = .returned (.tuple #[]) ∧ u' = .returning ∧ w' = w := by
  refine callsD_of_wpS Tryz.func146 rfl fun c₀ cs hu => ?_
  apply wpS_region
  simp [wpOpsS, go_sem, recoverD, hu, Tryz.ntmps146, Exit.thenS, bodyPostS, results, Tryz.results146]
  cases c₀
  simp_all
theorem called1_panic (v : Value) (older : List PanicEntry) (w : World) : CallsD Tryz.prog 146 #[] (.panicking ({ v := v, recovered := false } :: older)) w fun e u' w' => e = .returned (.tuple #[]) ∧ u' = .panicking ({ v := v, recovered := true } :: older) ∧ w' = w := by
  refine callsD_of_wpS Tryz.func146 rfl fun c₀ cs hu => ?_
  apply wpS_region
  simp [wpOpsS, go_sem, recoverD, hu, Tryz.ntmps146, Exit.thenS, bodyPostS, results, Tryz.results146]
theorem called_some (F : Nat) (caps : Array Value) (w : World) (R : Option Addr → World → Prop)
    (hcall : ∀ (W : World) (args : Array Value), (callFunc F args).run Tryz.prog W = .ok (.enter F args) W)
    (h : Calls Tryz.prog F caps w fun e w' => ∃ t, e = .returned (.pointer t) ∧ R t w') :
    Calls Tryz.prog 140 #[cloV F caps] w fun e w' => ∃ t, e = .returned (.pointer t) ∧ R t w' := by
  have HH := Lib.hid h
  clear h
  go_enter_defers Tryz.func140, Tryz.ntmps140
  go_wp2_with fail
  refine HH.out.mono ?_
  rintro e w1 ⟨v, rfl, hp⟩
  go_wp2_with fail
  refine leaves_cons (f := 146) (args := #[]) (by simp) (by simp [go_sem]) ?_
  refine (called1_idle _).mono ?_
  rintro e u' w'' ⟨rfl, rfl, rfl⟩
  simp [Leaves, settle, results, Tryz.results140, go_sem]
  exact hp
theorem called_none (w : World) : Calls Tryz.prog 140 #[.nilFunc] w fun e w' => e = .returned (.pointer none) ∧ w = w' := by
  go_enter_defers Tryz.func140, Tryz.ntmps140
  go_wp2_with fail
  refine leaves_cons (f := 146) (args := #[]) (by simp) (by simp [go_sem]) ?_
  refine (called1_panic _ [] _).mono ?_
  rintro e u' w'' ⟨rfl, rfl, rfl⟩
  simp [Leaves, settle, results, Tryz.results140, go_sem]
/-- what is done within a latch -/
def BodyIs {A : Type} (O : Ops A) (w : World) (Q : Nat → Prop) (bv : Value) (B : Tre A) : Prop :=
  ∀ W, Keep (fun b => ¬ Q b) w W → Calls Tryz.prog 140 #[bv] W fun e W' => ∃ n, e = .returned (.pointer n) ∧ Below W.heap.size W W' ∧
    TaskF O W' (fun b => (Q b ∧ b < w.heap.size) ∨ W.heap.size ≤ b) n B ∧ InQ (fun b => (Q b ∧ b < w.heap.size) ∨ W.heap.size ≤ b) n
theorem BodyIs.later {A : Type} {O : Ops A} {w w1 : World} {Q Q1 : Nat → Prop} {bv : Value} {B : Tre A} (h : BodyIs O w Q bv B) (hk : Keep (fun _ => False) w w1) (hq : ∀ b, b < w.heap.size → Q b → Q1 b) : BodyIs O w1 Q1 bv B := by
  intro W hW
  have hs := hk.size
  refine (h W ⟨hW.os.trans hk.os, hW.tape.trans hk.tape, hW.output.trans hk.output, Nat.le_trans hs hW.size, fun b hb hn => ?_⟩).mono ?_
  · have hQ : Q b := Classical.not_not.1 hn
    rw [hW.block b (by omega) (fun h => h (hq b hb hQ)), hk.block b hb (fun h => h)]
  · rintro e W' ⟨n, rfl, h1, h2, h3⟩
    have hqq : ∀ b, (Q b ∧ b < w.heap.size) ∨ W.heap.size ≤ b → (Q1 b ∧ b < w1.heap.size) ∨ W.heap.size ≤ b := fun b hb => hb.imp (fun h => ⟨hq b h.2 h.1, by omega⟩) id
    exact ⟨n, rfl, h1, h2.keep (Keep.refl (fun _ => False) W') (fun _ _ h => h) (fun _ _ h => h) (fun b _ h => hqq b h), fun k e => hqq k (h3 k e)⟩
theorem between1_any {A : Type} (O : Ops A) (Q Q' : Nat → Prop) (bb : Nat) (bv : Value) (B : Tre A) (v : Int) (w : World) (hb : Blk w bb 90 #[bv])
    (hB : Calls Tryz.prog 140 #[bv] w fun e W' => ∃ n, e = .returned (.pointer n) ∧ Below w.heap.size w W' ∧ TaskF O W' Q' n B ∧ InQ Q' n) :
    Calls Tryz.prog 139 #[.int .i64 v, pV bb] w fun e W' => ∃ n, e = .returned (.pointer n) ∧ Below w.heap.size w W' ∧ TaskF O W' Q' n B ∧ InQ Q' n := by
  have c0 : w.cell? ⟨bb, 0, none⟩ = some bv := hb.cell 0 _ rfl
  have HH := Lib.hid hB
  clear hB hb
  go_enter Tryz.func139, Tryz.ntmps139
  go_wp2_with (go_at_call 140; refine HH.out.mono ?_; rintro e w2 ⟨n, rfl, h⟩)
  go_ret
  exact ⟨n, rfl, h⟩
theorem call_between1 : ∀ (W : World) (args : Array Value), (callFunc 139 args).run Tryz.prog W = .ok (.enter 139 args) W := by
  intro W args
  go_simp
theorem call_between2 : ∀ (W : World) (args : Array Value), (callFunc 141 args).run Tryz.prog W = .ok (.enter 141 args) W := by
  intro W args
  go_simp
abbrev leaveV (C i : Nat) (t : Int) : Value := .func (.func 134) #[holdV C i t] #[]
abbrev enterV (C i : Nat) (t : Int) : Value := .func (.func 133) #[holdV C i t] #[]
theorem between2_any (C P : Nat) (Q : Nat → Prop) (i : Nat) (t v : Int) (bl : Nat) (w : World) (hb : Blk w bl 90 #[leaveV C i t]) (hQ : ∀ k, w.heap.size ≤ k → Q k) :
    Calls Tryz.prog 141 #[.int .i64 v, pV bl] w fun e w' => ∃ k, e = .returned (pV k) ∧ Made6 w C P Q [dropI i t, readyI v] 0 k w' := by
  have c0 : w.cell? ⟨bl, 0, none⟩ = some (leaveV C i t) := hb.cell 0 _ rfl
  have HE := Lib.hid (leave_any C P Q i t w hQ)
  have HR := Lib.hid fun W => tready_any C P Q v W
  have HSQ : Hid (∀ (w2 w4 : World) (t1 t2 : Nat), Made6 w C P Q [dropI i t] 0 t1 w2 → Made6 w2 C P Q [] v t2 w4 → Calls Tryz.prog 78 #[.slice (some ⟨w4.heap.size, 0, none⟩) 2 2] (w4.alloc (.cells #[pV t1, pV t2] 40)) fun e w' => ∃ t', e = .returned (pV t') ∧ Made6 (w4.alloc (.cells #[pV t1, pV t2] 40)) C P Q [dropI i t, readyI v] 0 t' w') :=
    Lib.hid fun w2 w4 t1 t2 h1 h2 => seq_val (show (2 : Nat) ≠ 7 by decide) h1 (hQ _ h1.1) h2 (hQ _ (Nat.le_trans h1.2.2.size h2.1)) (fun k hk => hQ k (Nat.le_trans h1.2.2.size (Nat.le_trans h2.2.2.size hk)))
  clear hQ hb
  go_enter Tryz.func141, Tryz.ntmps141
  go_wp2_with (first
    | (go_at_call 134; refine HE.out.mono ?_; rintro e w2 ⟨t1, rfl, h1⟩; have HR2 := Lib.hid (HR.out w2))
    | (go_at_call 53; refine HR2.out.mono ?_; rintro e w4 ⟨t2, rfl, h2⟩; have HS4 := Lib.hid (HSQ.out w2 w4 t1 t2 h1 h2))
    | (go_at_call 78; refine HS4.out.mono ?_; rintro e w6 ⟨t, rfl, h3⟩))
  go_ret
  have b4 : Below w.heap.size w w4 := h1.2.2.trans (h2.2.2.mono h1.2.2.size)
  exact ⟨t, rfl, h3.from (b4.trans (((Below.refl _ w4).alloc (Nat.le_refl _) _).mono b4.size))⟩
def guardT (i : Nat) (t : Int) (B : Tre Itm) : Tre Itm := bindT (fun v => itmT [dropI i t, readyI v] 0) (bindT (fun _ => B) (itmT [takeI i t] 0))
set_option maxHeartbeats 1000000 in
theorem between_any (C P : Nat) (Q : Nat → Prop) (i : Nat) (t : Int) (bv : Value) (B : Tre Itm) (w : World) (hbv : bv = .nilFunc ∨ ∃ F caps, bv = cloV F caps) (hB : BodyIs (cellOps C P) w Q bv B) (hQ : ∀ k, w.heap.size ≤ k → Q k) :
    Calls Tryz.prog 132 #[enterV C i t, bv, leaveV C i t] w fun e w' => ∃ k, e = .returned (pV k) ∧ MadeT (cellOps C P) w Q (guardT i t B) k w' := by
  have hmf : ∀ (fn : Fn) (first cap : Array Value) (w : World), (Instr.makeFunc fn first cap).run Tryz.prog w = .ok (.func fn first cap) w := fun _ _ _ _ => rfl
  have HQ := Lib.hid hQ
  have HB := Lib.hid hB
  clear hQ hB
  have HBV := Lib.hid hbv
  clear hbv
  go_enter Tryz.func132, Tryz.ntmps132
  go_upto_region 1 with fail
  generalize hW : ((w.alloc _).alloc _) = W
  have bW : Below w.heap.size w W := by rw [← hW]; go_grown
  have q0 : Blk W w.heap.size 90 #[bv] := by rw [← hW]; rcases HBV.out with rfl | ⟨F, caps, rfl⟩ <;> exact (Blk.new w _ _).alloc _
  have q1 : Blk W (w.heap.size + 1) 90 #[leaveV C i t] := by rw [← hW]; rcases HBV.out with rfl | ⟨F, caps, rfl⟩ <;> exact blk_two w _ _ _
  clear hW
  have sW := bW.size
  have HE := Lib.hid (enter_any C P Q i t W (fun k hk => HQ.out k (by omega)))
  have HT1 : Hid (∀ w2 t1, Made6 W C P Q [takeI i t] 0 t1 w2 → Calls Tryz.prog 81 #[pV t1, cloV 139 #[pV w.heap.size]] w2 fun e w' => ∃ t', e = .returned (pV t') ∧ MadeT (cellOps C P) w2 Q (bindT (fun _ => B) (itmT [takeI i t] 0)) t' w') := Lib.hid (by
    intro w2 t1 hM
    have s2 := hM.2.2.size
    refine thenT_any (cellOps C P) (some ⟨t1, 0, none⟩) 139 _ (itmT [takeI i t] 0) _ Q w2 (TaskF.keep hM.madeT.2.1 (Keep.refl (fun _ => False) w2) (fun _ _ h => h) (fun _ _ h => h) (fun b _ h => h.1)) (fun j e => by injection e with e; injection e with e; rw [← e]; exact TaskT.lt hM.madeT.2.1) (fun k hk => HQ.out k (by omega)) ?_
    intro w3 Q1 f hb hf hlo hqf hqq
    have b3 : Below w.heap.size w w3 := bW.trans ((hM.2.2.trans (hb.mono s2)).mono sW)
    have p0 : Blk w3 w.heap.size 90 #[bv] := (q0.below hM.2.2 q0.lt).below hb (by have := q0.lt; omega)
    have qa : Q1 w.heap.size := hqq _ (by have := q0.lt; omega) (HQ.out _ (Nat.le_refl _))
    have hB3 := HB.out.later (w1 := w3) (Q1 := Q1) (Keep.ofBelow b3) (fun b hb h => hqq b (by omega) h)
    refine contT_of (cellOps C P) w3 Q1 f 139 _ _ hqf hf call_between1 fun v w4 hw => ?_
    exact between1_any (cellOps C P) Q1 _ w.heap.size bv B v w4 (p0.keep hw (fun h => h qa)) (hB3 w4 hw))
  have HT2 : Hid (∀ w2 w4 t1 t2, Made6 W C P Q [takeI i t] 0 t1 w2 → MadeT (cellOps C P) w2 Q (bindT (fun _ => B) (itmT [takeI i t] 0)) t2 w4 → Calls Tryz.prog 81 #[pV t2, cloV 141 #[pV (w.heap.size + 1)]] w4 fun e w' => ∃ t', e = .returned (pV t') ∧ MadeT (cellOps C P) w4 Q (guardT i t B) t' w') := Lib.hid (by
    intro w2 w4 t1 t2 hM hM2
    have s2 := hM.2.2.size
    have s4 := hM2.2.2.size
    refine thenT_any (cellOps C P) (some ⟨t2, 0, none⟩) 141 _ (bindT (fun _ => B) (itmT [takeI i t] 0)) (fun v => itmT [dropI i t, readyI v] 0) Q w4 (TaskF.keep hM2.2.1 (Keep.refl (fun _ => False) w4) (fun _ _ h => h) (fun _ _ h => h) (fun b _ h => h.1)) (fun j e => by injection e with e; injection e with e; rw [← e]; exact TaskT.lt hM2.2.1) (fun k hk => HQ.out k (by omega)) ?_
    intro w3 Q1 f hb hf hlo hqf hqq
    have p1 : Blk w3 (w.heap.size + 1) 90 #[leaveV C i t] := ((q1.below hM.2.2 q1.lt).below hM2.2.2 (by have := q1.lt; omega)).below hb (by have := q1.lt; omega)
    have qa : Q1 (w.heap.size + 1) := hqq _ (by have := q1.lt; omega) (HQ.out _ (by omega))
    refine contT_of (cellOps C P) w3 Q1 f 141 _ _ hqf hf call_between2 fun v w5 hw => ?_
    refine (between2_any C P (fun b => (Q1 b ∧ b < w3.heap.size) ∨ w5.heap.size ≤ b) i t v (w.heap.size + 1) w5 (p1.keep hw (fun h => h qa)) (fun k hk => .inr hk)).mono ?_
    rintro e w6 ⟨t', rfl, hM6⟩
    exact ⟨some ⟨t', 0, none⟩, rfl, hM6.2.2, TaskF.keep hM6.madeT.2.1 (Keep.refl (fun _ => False) w6) (fun _ _ h => h) (fun _ _ h => h) (fun b _ h => h.1), fun j e => by injection e with e; injection e with e; rw [← e]; exact .inr hM6.1⟩)
  go_upto_region 2 with (first
    | (go_at_call 133; refine HE.out.mono ?_; rintro e w2 ⟨t1, rfl, h1⟩; have HT3 := Lib.hid (HT1.out w2 t1 h1))
    | (go_at_call 81; refine HT3.out.mono ?_; rintro e w4 ⟨t2, rfl, h2⟩; have HT4 := Lib.hid (HT2.out w2 w4 t1 t2 h1 h2)))
  clear HT1 HT2 HT3 HE HB
  go_wp2_with (go_at_call 81; refine HT4.out.mono ?_; rintro e w6 ⟨t3, rfl, h3⟩)
  go_ret
  have b2 : Below w.heap.size w w2 := bW.trans (h1.2.2.mono sW)
  have b4 : Below w.heap.size w w4 := b2.trans (h2.2.2.mono b2.size)
  exact ⟨t3, rfl, h3.from b4⟩
theorem guard_any (C P : Nat) (Q : Nat → Prop) (i : Nat) (t : Int) (bv : Value) (B : Tre Itm) (w : World) (hbv : bv = .nilFunc ∨ ∃ F caps, bv = cloV F caps) (hB : BodyIs (cellOps C P) w Q bv B) (hQ : ∀ k, w.heap.size ≤ k → Q k) :
    Calls Tryz.prog 121 #[cellsV C, .int .i64 i, .int .i64 t, bv] w fun e w' => ∃ k, e = .returned (pV k) ∧ MadeT (cellOps C P) w Q (guardT i t B) k w' := by
  have hmf : ∀ (fn : Fn) (first cap : Array Value) (w : World), (Instr.makeFunc fn first cap).run Tryz.prog w = .ok (.func fn first cap) w := fun _ _ _ _ => rfl
  have HB := Lib.hid fun W (hb : Below w.heap.size w W) => between_any C P Q i t bv B W hbv (hB.later (Keep.ofBelow hb) (fun _ _ h => h)) (fun k hk => hQ k (Nat.le_trans hb.size hk))
  clear hB hQ
  go_enter Tryz.func121, Tryz.ntmps121
  go_upto_region 2 with fail
  generalize hW : (w.alloc _) = W
  have bW : Below w.heap.size w W := by rw [← hW]; go_grown
  have q0 : Blk W w.heap.size 144 #[cellsV C, .int .i64 i, .int .i64 t] := by rw [← hW]; exact Blk.new w _ _
  clear hW
  have c0 : W.cell? ⟨w.heap.size, 0, none⟩ = some (cellsV C) := q0.cell 0 _ rfl
  have c1 : W.cell? ⟨w.heap.size, 1, none⟩ = some (.int .i64 i) := q0.cell 1 _ rfl
  have c2 : W.cell? ⟨w.heap.size, 2, none⟩ = some (.int .i64 t) := q0.cell 2 _ rfl
  have HB2 := Lib.hid (HB.out W bW)
  go_wp2_with (go_at_call 132; refine HB2.out.mono ?_; rintro e w2 ⟨k, rfl, h⟩)
  go_ret
  exact ⟨k, rfl, h.from bW⟩
def bumpT (at' : Nat) (t : Int) (i : Nat) : Tre Itm := guardT at' t (looseT i)
end Go.Proofs.YtpejmkoheodblaaGreat
