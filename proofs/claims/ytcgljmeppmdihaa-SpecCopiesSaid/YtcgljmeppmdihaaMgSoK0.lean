/- Law 12's turns: some event comes of one (written by tools/gen_turned.py). -/
import Derived.Test.YtcgljmeppmdihaaSpX
import Derived.IntWalk
import Derived.Test.YtcgljmeppmdihaaSoA
import Derived.Test.YtcgljmeppmdihaaMgSpZ
namespace Go.Proofs.Ytcgljmeppmdihaa
open Go.ChangeShapes Go.WideShapes Go.ChangeAt Go.RowKit
set_option linter.unusedVariables false
set_option maxRecDepth 100000
set_option linter.unusedSimpArgs false
theorem tev_info : (Try.prog.info? 37).map (·.size) = some 8 := by kernel_rfl
def TurnPost (w : World) (r : Ending) (w' : World) : Prop := ∃ e : Ev, r = .returned (evV e) ∧ Below w.heap.size w w'
theorem turn_end {w W : World} {a : Act} {br be : Nat} {cs : Array Value} (q : Blk W br 37 cs) (hb : Below w.heap.size w W) (e : Ev) (hc : cs = evC e) (h4 : a.tmps.getD 4 undef = .pointer (some ⟨br, 0, none⟩)) (hd : a.defers = []) :
    bodyPost Try.prog Try.f14 (TurnPost w) Exit.ret a W := by
  subst hc
  rcases e with ⟨e0, e1, e2, e3, e4, e5, e6, e7⟩
  have d0 := q.cell 0 _ rfl
  have d1 := q.cell 1 _ rfl
  have d2 := q.cell 2 _ rfl
  have d3 := q.cell 3 _ rfl
  have d4 := q.cell 4 _ rfl
  have d5 := q.cell 5 _ rfl
  have d6 := q.cell 6 _ rfl
  have d7 := q.cell 7 _ rfl
  refine bodyPost_ret (v := evV ⟨e0, e1, e2, e3, e4, e5, e6, e7⟩) ?_ hd ⟨_, rfl, hb⟩
  simp only [Array.getD_eq_getD_getElem?] at h4
  simp [results, Try.results14, go_sem, h4, d0, d1, d2, d3, d4, d5, d6, d7]
set_option maxHeartbeats 8000000 in
theorem turned_any (a b : Nat) (c : Int) (e : Ev) (w : World) :
    Calls Try.prog 14 #[.agg #[.int .u8 (a : Int), .int .u8 (b : Int), .int .i8 c], evV e] w (TurnPost w) := by
  obtain ⟨x, hx⟩ : ∃ x, x = a % 8 := ⟨_, rfl⟩
  have ea : ((a : Int)).tmod 8 = (x : Int) := by rw [hx]; rfl
  have hx8 : x = 0 ∨ x = 1 ∨ x = 2 ∨ x = 3 ∨ x = 4 ∨ x = 5 ∨ x = 6 ∨ x = 7 := by omega
  rcases e with ⟨e0, e1, e2, e3, e4, e5, e6, e7⟩
  have HB := Lib.hid (show Below w.heap.size w (((w.alloc (.cells #[.int .u8 (a : Int), .int .u8 (b : Int), .int .i8 c] 45)).alloc (.cells #[.int .i64 e0, .int .i64 e1, .int .i64 e2, .int .i64 e3, .int .i64 e4, .int .i64 e5, .int .i64 e6, .int .i64 e7] 37)).alloc (.cells #[.int .i64 0, .int .i64 0, .int .i64 0, .int .i64 0, .int .i64 0, .int .i64 0, .int .i64 0, .int .i64 0] 37)) from by go_grown)
  have Q0 := Lib.hid (((Blk.new w 45 #[.int .u8 (a : Int), .int .u8 (b : Int), .int .i8 c]).alloc (.cells #[.int .i64 e0, .int .i64 e1, .int .i64 e2, .int .i64 e3, .int .i64 e4, .int .i64 e5, .int .i64 e6, .int .i64 e7] 37)).alloc (.cells #[.int .i64 0, .int .i64 0, .int .i64 0, .int .i64 0, .int .i64 0, .int .i64 0, .int .i64 0, .int .i64 0] 37))
  have Q1 := Lib.hid ((blk_two w (.cells #[.int .u8 (a : Int), .int .u8 (b : Int), .int .i8 c] 45) 37 #[.int .i64 e0, .int .i64 e1, .int .i64 e2, .int .i64 e3, .int .i64 e4, .int .i64 e5, .int .i64 e6, .int .i64 e7]).alloc (.cells #[.int .i64 0, .int .i64 0, .int .i64 0, .int .i64 0, .int .i64 0, .int .i64 0, .int .i64 0, .int .i64 0] 37))
  have Q2 := Lib.hid (show Blk _ (w.heap.size + 1 + 1) 37 _ from by
    have := Blk.new ((w.alloc (.cells #[.int .u8 (a : Int), .int .u8 (b : Int), .int .i8 c] 45)).alloc (.cells #[.int .i64 e0, .int .i64 e1, .int .i64 e2, .int .i64 e3, .int .i64 e4, .int .i64 e5, .int .i64 e6, .int .i64 e7] 37)) 37 #[.int .i64 0, .int .i64 0, .int .i64 0, .int .i64 0, .int .i64 0, .int .i64 0, .int .i64 0, .int .i64 0]
    rwa [World.size_alloc, World.size_alloc] at this)
  have hesz : Hid ((Try.prog.info? 37).map (·.size) = some 8) := Lib.hid tev_info
  clear hx
  go_enter Try.func14, Try.ntmps14
  go_upto_region 1 with fail
  generalize hW : World.alloc _ _ = W at HB Q0 Q1 Q2 ⊢
  obtain ⟨bt, hbt⟩ : ∃ b, b = w.heap.size := ⟨_, rfl⟩
  obtain ⟨be, hbe⟩ : ∃ b, b = w.heap.size + 1 := ⟨_, rfl⟩
  obtain ⟨br, hbr⟩ : ∃ b, b = w.heap.size + 1 + 1 := ⟨_, rfl⟩
  have HLo := Lib.hid (show w.heap.size ≤ be ∧ w.heap.size ≤ br ∧ be ≠ br from by omega)
  rw [← hbr] at Q2 ⊢
  rw [← hbe] at Q1 ⊢
  rw [← hbt] at Q0 ⊢
  clear hW hbt hbe hbr
  have t0 := Q0.out.cell 0 _ rfl
  have t2 := Q0.out.cell 2 _ rfl
  have b0 := Q1.out.cell 0 _ rfl
  have b1 := Q1.out.cell 1 _ rfl
  have b2 := Q1.out.cell 2 _ rfl
  have b3 := Q1.out.cell 3 _ rfl
  have b4 := Q1.out.cell 4 _ rfl
  have b5 := Q1.out.cell 5 _ rfl
  have b6 := Q1.out.cell 6 _ rfl
  have b7 := Q1.out.cell 7 _ rfl
  have f0 := Q1.out.free 0
  have f1 := Q1.out.free 1
  have f2 := Q1.out.free 2
  have f3 := Q1.out.free 3
  have f4 := Q1.out.free 4
  have f5 := Q1.out.free 5
  have f6 := Q1.out.free 6
  have f7 := Q1.out.free 7
  rcases hx8 with rfl | rfl | rfl | rfl | rfl | rfl | rfl | rfl
  · go_upto_region 17 with fail
    have q := Q1.out.set 0 (.int .i64 (wrap64 (c.tmod 4)))
    have hne := HLo.out.2.2
    have q2 := Q2.out.far hne.symm 0 (.int .i64 (wrap64 (c.tmod 4)))
    have hb := HB.out.trans ((Below.refl w.heap.size W).trans (Keep.below (Q := fun i => i = be) ((Keep.refl (fun i => i = be) W).set (p := ⟨be, 0, none⟩) (fun _ => rfl) (.int .i64 (wrap64 (c.tmod 4)))) HB.out.size (fun i _ e => by have := HLo.out.1; omega)))
    generalize hz : wrap64 (c.tmod 4) = z at q q2 hb ⊢
    generalize hW2 : World.setCell _ _ _ = W2 at q q2 hb ⊢
    clear hz hW2 t0 t2 b0 b1 b2 b3 b4 b5 b6 b7 f0 f1 f2 f3 f4 f5 f6 f7
    have q : Blk W2 be 37 (evC ⟨z, e1, e2, e3, e4, e5, e6, e7⟩) := q
    have HQ := Lib.hid q
    have HQ2 := Lib.hid q2
    have HB2 := Lib.hid hb
    clear q q2 hb
    go_wp2_with (first
      | (refine wpList_load_row rfl 37 _ rfl be rfl 37 (evC ⟨z, e1, e2, e3, e4, e5, e6, e7⟩) (0, 0) _ HQ.out Try.underlying37 rfl hesz.out ?_)
      | (refine wpList_store_row rfl 37 _ _ rfl br (evC ⟨z, e1, e2, e3, e4, e5, e6, e7⟩) rfl rfl 37 #[.int .i64 0, .int .i64 0, .int .i64 0, .int .i64 0, .int .i64 0, .int .i64 0, .int .i64 0, .int .i64 0] (HQ2.out) hesz.out rfl (by simp [Value.oneCell']) ?_; (try simp only [Act.put, List.setIfInBounds_toArray, List.set_cons_zero, List.set_cons_succ])))
    refine turn_end (br := br) (be := be) (HQ2.out.row (evC ⟨z, e1, e2, e3, e4, e5, e6, e7⟩)) (HB2.out.trans ⟨rfl, rfl, rfl, by simp [World.setRow], fun i hi => setRow_other _ br i _ (by have := HLo.out.2.1; omega)⟩) ⟨z, e1, e2, e3, e4, e5, e6, e7⟩ rfl rfl rfl
  · go_upto_region 17 with fail
    have q := Q1.out.set 1 (.int .i64 (wrap64 (c.tmod 6)))
    have hne := HLo.out.2.2
    have q2 := Q2.out.far hne.symm 1 (.int .i64 (wrap64 (c.tmod 6)))
    have hb := HB.out.trans ((Below.refl w.heap.size W).trans (Keep.below (Q := fun i => i = be) ((Keep.refl (fun i => i = be) W).set (p := ⟨be, 1, none⟩) (fun _ => rfl) (.int .i64 (wrap64 (c.tmod 6)))) HB.out.size (fun i _ e => by have := HLo.out.1; omega)))
    generalize hz : wrap64 (c.tmod 6) = z at q q2 hb ⊢
    generalize hW2 : World.setCell _ _ _ = W2 at q q2 hb ⊢
    clear hz hW2 t0 t2 b0 b1 b2 b3 b4 b5 b6 b7 f0 f1 f2 f3 f4 f5 f6 f7
    have q : Blk W2 be 37 (evC ⟨e0, z, e2, e3, e4, e5, e6, e7⟩) := q
    have HQ := Lib.hid q
    have HQ2 := Lib.hid q2
    have HB2 := Lib.hid hb
    clear q q2 hb
    go_wp2_with (first
      | (refine wpList_load_row rfl 37 _ rfl be rfl 37 (evC ⟨e0, z, e2, e3, e4, e5, e6, e7⟩) (0, 0) _ HQ.out Try.underlying37 rfl hesz.out ?_)
      | (refine wpList_store_row rfl 37 _ _ rfl br (evC ⟨e0, z, e2, e3, e4, e5, e6, e7⟩) rfl rfl 37 #[.int .i64 0, .int .i64 0, .int .i64 0, .int .i64 0, .int .i64 0, .int .i64 0, .int .i64 0, .int .i64 0] (HQ2.out) hesz.out rfl (by simp [Value.oneCell']) ?_; (try simp only [Act.put, List.setIfInBounds_toArray, List.set_cons_zero, List.set_cons_succ])))
    refine turn_end (br := br) (be := be) (HQ2.out.row (evC ⟨e0, z, e2, e3, e4, e5, e6, e7⟩)) (HB2.out.trans ⟨rfl, rfl, rfl, by simp [World.setRow], fun i hi => setRow_other _ br i _ (by have := HLo.out.2.1; omega)⟩) ⟨e0, z, e2, e3, e4, e5, e6, e7⟩ rfl rfl rfl
  · go_upto_region 17 with fail
    have q := Q1.out.set 2 (.int .i64 (wrap64 (e2 + wrap64 c)))
    have hne := HLo.out.2.2
    have q2 := Q2.out.far hne.symm 2 (.int .i64 (wrap64 (e2 + wrap64 c)))
    have hb := HB.out.trans ((Below.refl w.heap.size W).trans (Keep.below (Q := fun i => i = be) ((Keep.refl (fun i => i = be) W).set (p := ⟨be, 2, none⟩) (fun _ => rfl) (.int .i64 (wrap64 (e2 + wrap64 c)))) HB.out.size (fun i _ e => by have := HLo.out.1; omega)))
    generalize hz : wrap64 (e2 + wrap64 c) = z at q q2 hb ⊢
    generalize hW2 : World.setCell _ _ _ = W2 at q q2 hb ⊢
    clear hz hW2 t0 t2 b0 b1 b2 b3 b4 b5 b6 b7 f0 f1 f2 f3 f4 f5 f6 f7
    have q : Blk W2 be 37 (evC ⟨e0, e1, z, e3, e4, e5, e6, e7⟩) := q
    have HQ := Lib.hid q
    have HQ2 := Lib.hid q2
    have HB2 := Lib.hid hb
    clear q q2 hb
    go_wp2_with (first
      | (refine wpList_load_row rfl 37 _ rfl be rfl 37 (evC ⟨e0, e1, z, e3, e4, e5, e6, e7⟩) (0, 0) _ HQ.out Try.underlying37 rfl hesz.out ?_)
      | (refine wpList_store_row rfl 37 _ _ rfl br (evC ⟨e0, e1, z, e3, e4, e5, e6, e7⟩) rfl rfl 37 #[.int .i64 0, .int .i64 0, .int .i64 0, .int .i64 0, .int .i64 0, .int .i64 0, .int .i64 0, .int .i64 0] (HQ2.out) hesz.out rfl (by simp [Value.oneCell']) ?_; (try simp only [Act.put, List.setIfInBounds_toArray, List.set_cons_zero, List.set_cons_succ])))
    refine turn_end (br := br) (be := be) (HQ2.out.row (evC ⟨e0, e1, z, e3, e4, e5, e6, e7⟩)) (HB2.out.trans ⟨rfl, rfl, rfl, by simp [World.setRow], fun i hi => setRow_other _ br i _ (by have := HLo.out.2.1; omega)⟩) ⟨e0, e1, z, e3, e4, e5, e6, e7⟩ rfl rfl rfl
  · go_upto_region 17 with fail
    have q := Q1.out.set 3 (.int .i64 (wrap64 (c.tmod 12)))
    have hne := HLo.out.2.2
    have q2 := Q2.out.far hne.symm 3 (.int .i64 (wrap64 (c.tmod 12)))
    have hb := HB.out.trans ((Below.refl w.heap.size W).trans (Keep.below (Q := fun i => i = be) ((Keep.refl (fun i => i = be) W).set (p := ⟨be, 3, none⟩) (fun _ => rfl) (.int .i64 (wrap64 (c.tmod 12)))) HB.out.size (fun i _ e => by have := HLo.out.1; omega)))
    generalize hz : wrap64 (c.tmod 12) = z at q q2 hb ⊢
    generalize hW2 : World.setCell _ _ _ = W2 at q q2 hb ⊢
    clear hz hW2 t0 t2 b0 b1 b2 b3 b4 b5 b6 b7 f0 f1 f2 f3 f4 f5 f6 f7
    have q : Blk W2 be 37 (evC ⟨e0, e1, e2, z, e4, e5, e6, e7⟩) := q
    have HQ := Lib.hid q
    have HQ2 := Lib.hid q2
    have HB2 := Lib.hid hb
    clear q q2 hb
    go_wp2_with (first
      | (refine wpList_load_row rfl 37 _ rfl be rfl 37 (evC ⟨e0, e1, e2, z, e4, e5, e6, e7⟩) (0, 0) _ HQ.out Try.underlying37 rfl hesz.out ?_)
      | (refine wpList_store_row rfl 37 _ _ rfl br (evC ⟨e0, e1, e2, z, e4, e5, e6, e7⟩) rfl rfl 37 #[.int .i64 0, .int .i64 0, .int .i64 0, .int .i64 0, .int .i64 0, .int .i64 0, .int .i64 0, .int .i64 0] (HQ2.out) hesz.out rfl (by simp [Value.oneCell']) ?_; (try simp only [Act.put, List.setIfInBounds_toArray, List.set_cons_zero, List.set_cons_succ])))
    refine turn_end (br := br) (be := be) (HQ2.out.row (evC ⟨e0, e1, e2, z, e4, e5, e6, e7⟩)) (HB2.out.trans ⟨rfl, rfl, rfl, by simp [World.setRow], fun i hi => setRow_other _ br i _ (by have := HLo.out.2.1; omega)⟩) ⟨e0, e1, e2, z, e4, e5, e6, e7⟩ rfl rfl rfl
  · go_upto_region 17 with fail
    have q := Q1.out.set 4 (.int .i64 (wrap64 (c.tmod 5)))
    have hne := HLo.out.2.2
    have q2 := Q2.out.far hne.symm 4 (.int .i64 (wrap64 (c.tmod 5)))
    have hb := HB.out.trans ((Below.refl w.heap.size W).trans (Keep.below (Q := fun i => i = be) ((Keep.refl (fun i => i = be) W).set (p := ⟨be, 4, none⟩) (fun _ => rfl) (.int .i64 (wrap64 (c.tmod 5)))) HB.out.size (fun i _ e => by have := HLo.out.1; omega)))
    generalize hz : wrap64 (c.tmod 5) = z at q q2 hb ⊢
    generalize hW2 : World.setCell _ _ _ = W2 at q q2 hb ⊢
    clear hz hW2 t0 t2 b0 b1 b2 b3 b4 b5 b6 b7 f0 f1 f2 f3 f4 f5 f6 f7
    have q : Blk W2 be 37 (evC ⟨e0, e1, e2, e3, z, e5, e6, e7⟩) := q
    have HQ := Lib.hid q
    have HQ2 := Lib.hid q2
    have HB2 := Lib.hid hb
    clear q q2 hb
    go_wp2_with (first
      | (refine wpList_load_row rfl 37 _ rfl be rfl 37 (evC ⟨e0, e1, e2, e3, z, e5, e6, e7⟩) (0, 0) _ HQ.out Try.underlying37 rfl hesz.out ?_)
      | (refine wpList_store_row rfl 37 _ _ rfl br (evC ⟨e0, e1, e2, e3, z, e5, e6, e7⟩) rfl rfl 37 #[.int .i64 0, .int .i64 0, .int .i64 0, .int .i64 0, .int .i64 0, .int .i64 0, .int .i64 0, .int .i64 0] (HQ2.out) hesz.out rfl (by simp [Value.oneCell']) ?_; (try simp only [Act.put, List.setIfInBounds_toArray, List.set_cons_zero, List.set_cons_succ])))
    refine turn_end (br := br) (be := be) (HQ2.out.row (evC ⟨e0, e1, e2, e3, z, e5, e6, e7⟩)) (HB2.out.trans ⟨rfl, rfl, rfl, by simp [World.setRow], fun i hi => setRow_other _ br i _ (by have := HLo.out.2.1; omega)⟩) ⟨e0, e1, e2, e3, z, e5, e6, e7⟩ rfl rfl rfl
  · go_upto_region 17 with fail
    have q := Q1.out.set 5 (.int .i64 (wrap64 (c.tmod 12)))
    have hne := HLo.out.2.2
    have q2 := Q2.out.far hne.symm 5 (.int .i64 (wrap64 (c.tmod 12)))
    have hb := HB.out.trans ((Below.refl w.heap.size W).trans (Keep.below (Q := fun i => i = be) ((Keep.refl (fun i => i = be) W).set (p := ⟨be, 5, none⟩) (fun _ => rfl) (.int .i64 (wrap64 (c.tmod 12)))) HB.out.size (fun i _ e => by have := HLo.out.1; omega)))
    generalize hz : wrap64 (c.tmod 12) = z at q q2 hb ⊢
    generalize hW2 : World.setCell _ _ _ = W2 at q q2 hb ⊢
    clear hz hW2 t0 t2 b0 b1 b2 b3 b4 b5 b6 b7 f0 f1 f2 f3 f4 f5 f6 f7
    have q : Blk W2 be 37 (evC ⟨e0, e1, e2, e3, e4, z, e6, e7⟩) := q
    have HQ := Lib.hid q
    have HQ2 := Lib.hid q2
    have HB2 := Lib.hid hb
    clear q q2 hb
    go_wp2_with (first
      | (refine wpList_load_row rfl 37 _ rfl be rfl 37 (evC ⟨e0, e1, e2, e3, e4, z, e6, e7⟩) (0, 0) _ HQ.out Try.underlying37 rfl hesz.out ?_)
      | (refine wpList_store_row rfl 37 _ _ rfl br (evC ⟨e0, e1, e2, e3, e4, z, e6, e7⟩) rfl rfl 37 #[.int .i64 0, .int .i64 0, .int .i64 0, .int .i64 0, .int .i64 0, .int .i64 0, .int .i64 0, .int .i64 0] (HQ2.out) hesz.out rfl (by simp [Value.oneCell']) ?_; (try simp only [Act.put, List.setIfInBounds_toArray, List.set_cons_zero, List.set_cons_succ])))
    refine turn_end (br := br) (be := be) (HQ2.out.row (evC ⟨e0, e1, e2, e3, e4, z, e6, e7⟩)) (HB2.out.trans ⟨rfl, rfl, rfl, by simp [World.setRow], fun i hi => setRow_other _ br i _ (by have := HLo.out.2.1; omega)⟩) ⟨e0, e1, e2, e3, e4, z, e6, e7⟩ rfl rfl rfl
  · go_upto_region 17 with fail
    have q := Q1.out.set 6 (.int .i64 (wrap64 (c.tmod 14)))
    have hne := HLo.out.2.2
    have q2 := Q2.out.far hne.symm 6 (.int .i64 (wrap64 (c.tmod 14)))
    have hb := HB.out.trans ((Below.refl w.heap.size W).trans (Keep.below (Q := fun i => i = be) ((Keep.refl (fun i => i = be) W).set (p := ⟨be, 6, none⟩) (fun _ => rfl) (.int .i64 (wrap64 (c.tmod 14)))) HB.out.size (fun i _ e => by have := HLo.out.1; omega)))
    generalize hz : wrap64 (c.tmod 14) = z at q q2 hb ⊢
    generalize hW2 : World.setCell _ _ _ = W2 at q q2 hb ⊢
    clear hz hW2 t0 t2 b0 b1 b2 b3 b4 b5 b6 b7 f0 f1 f2 f3 f4 f5 f6 f7
    have q : Blk W2 be 37 (evC ⟨e0, e1, e2, e3, e4, e5, z, e7⟩) := q
    have HQ := Lib.hid q
    have HQ2 := Lib.hid q2
    have HB2 := Lib.hid hb
    clear q q2 hb
    go_wp2_with (first
      | (refine wpList_load_row rfl 37 _ rfl be rfl 37 (evC ⟨e0, e1, e2, e3, e4, e5, z, e7⟩) (0, 0) _ HQ.out Try.underlying37 rfl hesz.out ?_)
      | (refine wpList_store_row rfl 37 _ _ rfl br (evC ⟨e0, e1, e2, e3, e4, e5, z, e7⟩) rfl rfl 37 #[.int .i64 0, .int .i64 0, .int .i64 0, .int .i64 0, .int .i64 0, .int .i64 0, .int .i64 0, .int .i64 0] (HQ2.out) hesz.out rfl (by simp [Value.oneCell']) ?_; (try simp only [Act.put, List.setIfInBounds_toArray, List.set_cons_zero, List.set_cons_succ])))
    refine turn_end (br := br) (be := be) (HQ2.out.row (evC ⟨e0, e1, e2, e3, e4, e5, z, e7⟩)) (HB2.out.trans ⟨rfl, rfl, rfl, by simp [World.setRow], fun i hi => setRow_other _ br i _ (by have := HLo.out.2.1; omega)⟩) ⟨e0, e1, e2, e3, e4, e5, z, e7⟩ rfl rfl rfl
  · go_upto_region 17 with fail
    have q := Q1.out.set 7 (.int .i64 (wrap64 (c.tmod 5)))
    have hne := HLo.out.2.2
    have q2 := Q2.out.far hne.symm 7 (.int .i64 (wrap64 (c.tmod 5)))
    have hb := HB.out.trans ((Below.refl w.heap.size W).trans (Keep.below (Q := fun i => i = be) ((Keep.refl (fun i => i = be) W).set (p := ⟨be, 7, none⟩) (fun _ => rfl) (.int .i64 (wrap64 (c.tmod 5)))) HB.out.size (fun i _ e => by have := HLo.out.1; omega)))
    generalize hz : wrap64 (c.tmod 5) = z at q q2 hb ⊢
    generalize hW2 : World.setCell _ _ _ = W2 at q q2 hb ⊢
    clear hz hW2 t0 t2 b0 b1 b2 b3 b4 b5 b6 b7 f0 f1 f2 f3 f4 f5 f6 f7
    have q : Blk W2 be 37 (evC ⟨e0, e1, e2, e3, e4, e5, e6, z⟩) := q
    have HQ := Lib.hid q
    have HQ2 := Lib.hid q2
    have HB2 := Lib.hid hb
    clear q q2 hb
    go_wp2_with (first
      | (refine wpList_load_row rfl 37 _ rfl be rfl 37 (evC ⟨e0, e1, e2, e3, e4, e5, e6, z⟩) (0, 0) _ HQ.out Try.underlying37 rfl hesz.out ?_)
      | (refine wpList_store_row rfl 37 _ _ rfl br (evC ⟨e0, e1, e2, e3, e4, e5, e6, z⟩) rfl rfl 37 #[.int .i64 0, .int .i64 0, .int .i64 0, .int .i64 0, .int .i64 0, .int .i64 0, .int .i64 0, .int .i64 0] (HQ2.out) hesz.out rfl (by simp [Value.oneCell']) ?_; (try simp only [Act.put, List.setIfInBounds_toArray, List.set_cons_zero, List.set_cons_succ])))
    refine turn_end (br := br) (be := be) (HQ2.out.row (evC ⟨e0, e1, e2, e3, e4, e5, e6, z⟩)) (HB2.out.trans ⟨rfl, rfl, rfl, by simp [World.setRow], fun i hi => setRow_other _ br i _ (by have := HLo.out.2.1; omega)⟩) ⟨e0, e1, e2, e3, e4, e5, e6, z⟩ rfl rfl rfl
end Go.Proofs.Ytcgljmeppmdihaa
/- Rows of events as values, nil or not: takes, Check, and what is cut of them; two automatons beside each other. -/
namespace Go.Proofs.Ytcgljmeppmdihaa
open Go.ChangeShapes Go.WideShapes Go.ChangeAt Go.RowKit
set_option linter.unusedVariables false
set_option maxRecDepth 100000
set_option linter.unusedSimpArgs false
def EvsV (w : World) (v : Value) (l : List Ev) : Prop := (v = .slice none 0 0 ∧ l = []) ∨ ∃ B off c, v = .slice (some ⟨B, off, none⟩) l.length c ∧ EvsAt w B off l ∧ B < w.heap.size
theorem EvsV.below {w w1 : World} {v : Value} {l : List Ev} (h : EvsV w v l) (hb : Below w.heap.size w w1) : EvsV w1 v l := by
  rcases h with h | ⟨B, off, c, h1, h2, h3⟩
  · exact .inl h
  · exact .inr ⟨B, off, c, h1, h2.keep (Keep.ofBelow (Q := fun _ => False) hb) (fun h => h), Nat.lt_of_lt_of_le h3 hb.size⟩
theorem takes_none {w : World} {A : Nat → Prop} {p : Pl} {s : SS} (h : SpecAt w A p s) : Calls Try.prog 11 #[spV p, .slice none 0 0] w (RunPost w A p (s, true)) := by
  have H := Lib.hid h
  clear h
  go_enter Try.func11, Try.ntmps11
  go_upto_region 2 with fail
  go_loopw [5] (fun v5 wr => v5 = .int .i64 ((0 : Nat) : Int) ∧ wr = w) (fun v5 _ => 0)
  case atStart => exact ⟨rfl, rfl⟩
  case round =>
    obtain ⟨rfl, hw⟩ := hrel
    obtain rfl := hw.symm
    go_wp2_with fail
    go_ret
    exact ⟨rfl, A, H.out, Keep.refl _ _, fun b hb => .inl hb, fun _ hb => hb⟩
theorem takesV {w : World} {A : Nat → Prop} {p : Pl} {s : SS} (h : SpecAt w A p s) (hwf : WF s) {v : Value} {l : List Ev} (hv : EvsV w v l) (hB : ∀ B off c n, v = .slice (some ⟨B, off, none⟩) n c → ¬ A B) (hll : l.length ≤ 1000000) :
    Calls Try.prog 11 #[spV p, v] w (RunPost w A p (takesS s l)) := by
  rcases hv with ⟨rfl, rfl⟩ | ⟨B, off, c, rfl, hE, hlt⟩
  · exact takes_none h
  · exact takes_any h hwf l B off c hE (hB B off c _ rfl) (.inl hlt) hll
theorem check_nil (m n : Nat) (w : World) (hm : 1 ≤ m ∧ m ≤ 32766) (hn : 1 ≤ n ∧ n ≤ 65536) :
    Calls Try.prog 12 #[.int .i64 (m : Int), .int .i64 (n : Int), .slice none 0 0] w fun r w' => r = .returned (.int .i64 (-1)) ∧ Below w.heap.size w w' := by
  have HNew := Lib.hid (new_some m n w hm hn)
  have hmf : ∀ (fn : Fn) (first cap : Array Value) (w : World), (Instr.makeFunc fn first cap).run Try.prog w = .ok (.func fn first cap) w := fun _ _ _ _ => rfl
  clear hm hn
  go_enter Try.func12, Try.ntmps12
  go_wp2_with fail
  refine HNew.out.mono ?_
  rintro e1 w1 ⟨p, A, rfl, hS, hA, hb⟩
  have HB := Lib.hid hb
  clear hS hA hb
  go_wp2_with fail
  refine (idx_none _ _).mono ?_
  rintro r w2 ⟨rfl, rfl⟩
  go_wp2_with fail
  go_ret
  exact ⟨rfl, HB.out.alloc HB.out.size _⟩
theorem checkV (m n : Nat) {w : World} {v : Value} {l : List Ev} (hm : 1 ≤ m ∧ m ≤ 32766) (hn : 1 ≤ n ∧ n ≤ 65536) (hv : EvsV w v l) (hll : l.length ≤ 1000000) (hall : (takesS (newS m n) l).2 = true) :
    Calls Try.prog 12 #[.int .i64 (m : Int), .int .i64 (n : Int), v] w fun r w' => r = .returned (.int .i64 (-1)) ∧ Below w.heap.size w w' := by
  rcases hv with ⟨rfl, rfl⟩ | ⟨B, off, c, rfl, hE, hlt⟩
  · exact check_nil m n w hm hn
  · exact check_all m n l B off c w hm hn hE hlt hll hall
/-- a row of events of its own, as a value -/
theorem evsv_own {w : World} {N : Nat} {v : Value} {l : List Ev} (h : w.ownsRow N 37 8 v l.length (l.flatMap evL)) : ∃ a c, v = .slice a l.length c ∧ l.length ≤ c ∧ c ≤ 9223372036854775807 ∧ ((a = none ∧ c = 0 ∧ l = []) ∨ ∃ g, a = some ⟨g, 0, none⟩ ∧ EvsAt w g 0 l ∧ g < w.heap.size ∧ N ≤ g) := by
  rcases h.2 with ⟨hv, h0⟩ | ⟨g, c, cur, hv, hg, hh, hnc, hcm, _⟩
  · exact ⟨none, 0, by rw [hv, h0], by omega, by omega, .inl ⟨rfl, rfl, List.eq_nil_of_length_eq_zero h0⟩⟩
  · subst hv
    refine ⟨_, c, rfl, hnc, by unfold maxLen at hcm; omega, .inr ⟨g, rfl, fun i e he j v hv => ?_, (row_lt h rfl).1, hg⟩⟩
    have := h.cells (g := g) rfl (i * 8 + j) v (flat8 l i e he j v hv)
    rw [Go.WideShapes.add_plain] at this
    rw [← this]
    congr 2
    omega
/-- what is cut of it -/
theorem cut_to {w : World} {a : Option Addr} {c k : Nat} {l : List Ev} (hk : k ≤ l.length) (hc : l.length ≤ c) (h : (a = none ∧ c = 0 ∧ l = []) ∨ ∃ g, a = some ⟨g, 0, none⟩ ∧ EvsAt w g 0 l ∧ g < w.heap.size) :
    ∃ v1, (∀ W, (Instr.slice 31 (.slice a l.length c) none (some (.int .i64 (k : Int))) none).run Try.prog W = .ok v1 W) ∧ EvsV w v1 (l.take k) ∧ ∀ B off c' n, v1 = .slice (some ⟨B, off, none⟩) n c' → a = some ⟨B, 0, none⟩ := by
  refine ⟨.slice (if c = 0 then a else a.map (·.add (0 * 8))) k c, fun W => ?_, ?_, ?_⟩
  · rw [run_slice_h _ 31 _ _ _ (by kernel_rfl) .i64 k (by omega) (by omega)]
    have hs : (sizeOf (Try.prog.elem 31)).run Try.prog W = .ok 8 W := by kernel_rfl
    rw [hs]
    simp only [Result.andThen, sliced, Int.toNat_natCast, Nat.sub_zero]
  · rcases h with ⟨rfl, rfl, rfl⟩ | ⟨g, rfl, hE, hlt⟩
    · simp at hk
      subst hk
      exact .inl ⟨rfl, rfl⟩
    · refine .inr ⟨g, 0, c, ?_, fun i e he => ?_, hlt⟩
      · rw [List.length_take, Nat.min_eq_left hk]
        split <;> simp [Addr.add]
      · rw [List.getElem?_take] at he
        split at he
        · exact hE i e he
        · cases he
  · intro B off c' n e
    injection e with e1
    rcases h with ⟨rfl, rfl, rfl⟩ | ⟨g, rfl, hE, hlt⟩
    · simp at e1
    · split at e1
      · injection e1 with e1
        injection e1 with e1 e2
        rw [e1]
      · simp [Addr.add] at e1
        rw [e1.1]
theorem cut_from {w : World} {a : Option Addr} {c k : Nat} {l : List Ev} (hk : k ≤ l.length) (hc : l.length ≤ c) (h : (a = none ∧ c = 0 ∧ l = []) ∨ ∃ g, a = some ⟨g, 0, none⟩ ∧ EvsAt w g 0 l ∧ g < w.heap.size) :
    ∃ v1, (∀ W, (Instr.slice 31 (.slice a l.length c) (some (.int .i64 (k : Int))) none none).run Try.prog W = .ok v1 W) ∧ EvsV w v1 (l.drop k) ∧ ∀ B off c' n, v1 = .slice (some ⟨B, off, none⟩) n c' → a = some ⟨B, 0, none⟩ := by
  refine ⟨.slice (if c = k then a else a.map (·.add (k * 8))) (l.length - k) (c - k), fun W => ?_, ?_, ?_⟩
  · rw [run_slice_l _ 31 _ _ _ (by kernel_rfl) .i64 k (by omega) (by omega)]
    have hs : (sizeOf (Try.prog.elem 31)).run Try.prog W = .ok 8 W := by kernel_rfl
    rw [hs]
    simp only [Result.andThen, sliced, Int.toNat_natCast]
  · rcases h with ⟨rfl, rfl, rfl⟩ | ⟨g, rfl, hE, hlt⟩
    · simp at hk
      subst hk
      exact .inl ⟨rfl, rfl⟩
    · by_cases e : c = k
      · have e2 : k = l.length := by omega
        refine .inr ⟨g, 0, c - k, ?_, fun i e he => ?_, hlt⟩
        · rw [if_pos e, List.length_drop]
        · rw [e2, List.drop_length] at he
          simp at he
      · refine .inr ⟨g, k * 8, c - k, ?_, fun i e he j v hv => ?_, hlt⟩
        · rw [if_neg e, List.length_drop]
          simp [Addr.add]
          omega
        · rw [List.getElem?_drop] at he
          have := hE (k + i) e he j v hv
          rw [← this]
          congr 2
          omega
  · intro B off c' n e
    injection e with e1
    rcases h with ⟨rfl, rfl, rfl⟩ | ⟨g, rfl, hE, hlt⟩
    · simp at e1
    · split at e1
      · injection e1 with e1
        injection e1 with e1 e2
        rw [e1]
      · simp [Addr.add] at e1
        split at e1
        · injection e1 with e1
          rw [e1]
        · injection e1 with e1
          rw [e1]
/-- two automatons, apart from each other -/
structure KK (w W : World) (A : Nat → Prop) (p : Pl) (s : SS) (C : Nat → Prop) (q : Pl) (t : SS) : Prop where
  a : KS w W A p s
  c : KS w W C q t
  dj : ∀ b, A b → ¬ C b
section
variable {w W W1 : World} {A A1 C C1 F : Nat → Prop} {p q : Pl} {s s1 t t1 : SS}
theorem KK.below (h : KK w W A p s C q t) (hb : Below W.heap.size W W1) : KK w W1 A p s C q t := ⟨h.a.below hb, h.c.below hb, h.dj⟩
theorem KK.one (h : KK w W A p s C q t) (k1 : KS w W1 A1 p s1) (hk : Keep A W W1) (ha : ∀ k, A1 k → A k ∨ W.heap.size ≤ k) : KK w W1 A1 p s1 C q t :=
  ⟨k1, h.c.other hk (fun k hc ha => h.dj k ha hc) (fun k ha => h.a.lo k ha), fun b hb hc => by
    rcases ha b hb with h1 | h1
    · exact h.dj b h1 hc
    · have := h.c.sp.lt b hc
      omega⟩
theorem KK.two (h : KK w W A p s C q t) (k1 : KS w W1 C1 q t1) (hk : Keep C W W1) (ha : ∀ k, C1 k → C k ∨ W.heap.size ≤ k) : KK w W1 A p s C1 q t1 :=
  ⟨h.a.other hk (fun k ha hc => h.dj k ha hc) (fun k hc => h.c.lo k hc), k1, fun b hb hc => by
    rcases ha b hc with h1 | h1
    · exact h.dj b hb h1
    · have := h.a.sp.lt b hb
      omega⟩
theorem KK.far (h : KK w W A p s C q t) (hk : Keep F W W1) (h1 : ∀ b, A b → ¬ F b) (h2 : ∀ b, C b → ¬ F b) (h3 : ∀ b, F b → w.heap.size ≤ b) : KK w W1 A p s C q t :=
  ⟨h.a.other hk h1 h3, h.c.other hk h2 h3, h.dj⟩
/-- a copy beside it -/
theorem KS.copied {e : Ending} (h : KS w W A p s) (hr : CopyPost W s e W1) : ∃ q C, e = .returned (spV q) ∧ KK w W1 A p s C q s ∧ ∀ b, C b → W.heap.size ≤ b := by
  obtain ⟨q, C, h1, h2, h3, h4⟩ := hr
  refine ⟨q, C, h1, ⟨h.below h4, ⟨h2, h.wf, fun b hb => Nat.le_trans h.bl.size (h3 b hb), h.bl.trans (h4.mono h.bl.size)⟩, fun b hb hc => ?_⟩, h3⟩
  have := h.sp.lt b hb
  have := h3 b hc
  omega
theorem KS.takesV {l : List Ev} {r : Ending} (h : KS w W A p s) (hr : RunPost W A p (takesS s l) r W1) (he : (takesS s l).2 = true) : r = .returned (.bool true) ∧ ∃ A1, KS w W1 A1 p (takesS s l).1 ∧ Keep A W W1 ∧ (∀ k, A1 k → A k ∨ W.heap.size ≤ k) :=
  h.run hr (Prod.ext rfl he)
end
/-- a run, cut -/
theorem takesTo_S {m n : Nat} : ∀ {l : List Ev} {s s1 : SS}, TakesTo m n s l s1 → takesS s l = (s1, true)
  | [], s, s1, h => by obtain ⟨rfl, _⟩ := h; rfl
  | a :: l, s, s1, h => by
    obtain ⟨_, _, _, s2, h1, h2⟩ := h
    unfold takesS
    rw [h1]
    exact takesTo_S h2
theorem takesTo_cut {m n : Nat} : ∀ {l : List Ev} {s s1 : SS} (k : Nat), TakesTo m n s l s1 → ∃ s2, TakesTo m n s (l.take k) s2 ∧ TakesTo m n s2 (l.drop k) s1
  | l, s, s1, 0, h => ⟨s, by rw [List.take_zero]; exact ⟨rfl, h.here⟩, h⟩
  | [], s, s1, k + 1, h => ⟨s1, by simpa using h, by
      obtain ⟨rfl, h1⟩ := h
      exact ⟨rfl, h1⟩⟩
  | a :: l, s, s1, k + 1, h => by
    obtain ⟨g1, g2, g3, s2, g4, g5⟩ := h
    obtain ⟨s3, h1, h2⟩ := takesTo_cut k g5
    exact ⟨s3, ⟨g1, g2, g3, s2, g4, h1⟩, h2⟩
theorem takeS_kind {s : SS} {e : Ev} (h0 : e.kind ≠ 0) (h1 : e.kind ≠ 1) (h2 : e.kind ≠ 2) : takeS s e = none := by
  unfold takeS
  split
  · rfl
  · split
    · rfl
    · first
        | rfl
        | rw [if_neg h0, if_neg h1, if_neg h2]
theorem takeS_low {s : SS} {e : Ev} (h : e.thr < 0) : takeS s e = none := by
  unfold takeS
  rw [if_pos h]
theorem takeS_high {s : SS} {e : Ev} (h : (s.T.length : Int) ≤ e.thr) : takeS s e = none := by
  unfold takeS
  rw [if_neg (by omega), List.getElem?_eq_none (by omega)]
end Go.Proofs.Ytcgljmeppmdihaa
