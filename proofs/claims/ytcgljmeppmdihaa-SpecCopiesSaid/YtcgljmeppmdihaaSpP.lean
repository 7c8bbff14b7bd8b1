/- Package spec: open (written by tools/gensp9.py). -/
import Derived.Test.YtcgljmeppmdihaaSpC
namespace Go.Proofs.Ytcgljmeppmdihaa
open Go.ChangeShapes Go.WideShapes Go.ChangeAt Go.RowKit
set_option linter.unusedVariables false
set_option maxRecDepth 100000
set_option linter.unusedSimpArgs false
theorem SpecAt.begT {w : World} {A : Nat → Prop} {p : Pl} {s : SS} (h : SpecAt w A p s) {t : Nat} {x : Th} (hx : s.T[t]? = some x) (e : Ev) :
    SpecAt ((((w.setCell ⟨p.T, t * 9, none⟩ (.int .i64 e.act)).setCell ⟨p.T, t * 9 + 1, none⟩ (.int .i64 e.obj)).setCell ⟨p.T, t * 9 + 2, none⟩ (.int .i64 e.oth)).setCell ⟨p.T, t * 9 + 3, none⟩ (.int .i64 1)) A p (s.setT t (begTh x e)) := by
  have h1 := h.setT hx (x' := { x with op := e.act }) 0 (.int .i64 e.act) (by omega) rfl
  have h2 := h1.setT (setT_get _ hx) (x' := { x with op := e.act, obj := e.obj }) 1 (.int .i64 e.obj) (by omega) rfl
  rw [setT2] at h2
  have h3 := h2.setT (setT_get _ hx) (x' := { x with op := e.act, obj := e.obj, arg := e.oth }) 2 (.int .i64 e.oth) (by omega) rfl
  rw [setT2] at h3
  have h4 := h3.setT (setT_get _ hx) (x' := begTh x e) 3 (.int .i64 1) (by omega) rfl
  rw [setT2] at h4
  exact h4
set_option maxHeartbeats 4000000 in
theorem open_1 {w : World} {A : Nat → Prop} {p : Pl} {s : SS} (h : SpecAt w A p s) {t : Nat} {x : Th} (hx : s.T[t]? = some x) (kind idx act obj oth code val : Int) (hp : x.pr ≠ 0) :
    Calls Try.prog 21 #[spV p, evV ⟨kind, (t : Int), idx, act, obj, oth, code, val⟩] w (HandPost w A p s none) := by
  have H := Lib.hid h
  have HX := Lib.hid hx
  have ix := idx_thrs p.T s.T.length p.cT t (thr_lt hx)
  have e0 : (x.pr == 0) = false := beq_eq_false_iff_ne.2 hp
  have e1 : (x.pr != 0) = true := by rw [bne, e0]; rfl
  have Hhp := Lib.hid hp
  have HF0 := Lib.hid (Fr.boxed h ⟨kind, (t : Int), idx, act, obj, oth, code, val⟩)
  clear h hx hp
  go_enter Try.func21, Try.ntmps21
  go_upto_region 1 with fail
  generalize hW : w.alloc _ = W at HF0 ⊢
  obtain ⟨bx, hbx⟩ : ∃ bx, bx = w.heap.size := ⟨_, rfl⟩
  rw [← hbx] at HF0 ⊢
  clear hbx hW
  obtain ⟨⟨c0, c1⟩, b0, b1, b2, b3, b4, b5, b6, b7⟩ := HF0.out.cells
  dsimp only at b0 b1 b2 b3 b4 b5 b6 b7
  have xp := (HF0.out.sp.th HX.out).pr
  go_quiet (fail)
  generalize hq : World.drewN _ _ = W2
  have HF1 := Lib.hid (show Fr w W2 A p s bx _ from by rw [← hq]; exact HF0.out.drewN _)
  clear hq HF0 c0 c1 b0 b1 b2 b3 b4 b5 b6 b7 xp
  obtain ⟨⟨c0, c1⟩, b0, b1, b2, b3, b4, b5, b6, b7⟩ := HF1.out.cells
  dsimp only at b0 b1 b2 b3 b4 b5 b6 b7
  have xp := (HF1.out.sp.th HX.out).pr
  go_upto_region 2 with fail
  go_quiet (fail)
  generalize hq : World.drewN _ _ = W3
  have HF2 := Lib.hid (show Fr w W3 A p s bx _ from by rw [← hq]; exact HF1.out.drewN _)
  clear hq HF1 c0 c1 b0 b1 b2 b3 b4 b5 b6 b7 xp
  obtain ⟨⟨c0, c1⟩, b0, b1, b2, b3, b4, b5, b6, b7⟩ := HF2.out.cells
  dsimp only at b0 b1 b2 b3 b4 b5 b6 b7
  have xp := (HF2.out.sp.th HX.out).pr
  go_wp2_with fail
  go_ret
  exact HandPost.no HF2.out.sp HF2.out.kp
set_option maxHeartbeats 4000000 in
theorem open_2 {w : World} {A : Nat → Prop} {p : Pl} {s : SS} (h : SpecAt w A p s) {t : Nat} {x : Th} (hx : s.T[t]? = some x) (kind idx act obj oth code val : Int) (hp : x.pr = 0) (hi : idx ≠ x.calls) :
    Calls Try.prog 21 #[spV p, evV ⟨kind, (t : Int), idx, act, obj, oth, code, val⟩] w (HandPost w A p s none) := by
  have H := Lib.hid h
  have HX := Lib.hid hx
  have ix := idx_thrs p.T s.T.length p.cT t (thr_lt hx)
  have e0 : (idx == x.calls) = false := beq_eq_false_iff_ne.2 hi
  have e1 : (idx != x.calls) = true := by rw [bne, e0]; rfl
  have Hhp := Lib.hid hp
  have Hhi := Lib.hid hi
  have HF0 := Lib.hid (Fr.boxed h ⟨kind, (t : Int), idx, act, obj, oth, code, val⟩)
  clear h hx hp hi
  go_enter Try.func21, Try.ntmps21
  go_upto_region 1 with fail
  generalize hW : w.alloc _ = W at HF0 ⊢
  obtain ⟨bx, hbx⟩ : ∃ bx, bx = w.heap.size := ⟨_, rfl⟩
  rw [← hbx] at HF0 ⊢
  clear hbx hW
  obtain ⟨⟨c0, c1⟩, b0, b1, b2, b3, b4, b5, b6, b7⟩ := HF0.out.cells
  dsimp only at b0 b1 b2 b3 b4 b5 b6 b7
  have xp := (HF0.out.sp.th HX.out).pr
  rw [Hhp.out] at xp
  have xc := (HF0.out.sp.th HX.out).calls
  go_quiet (fail)
  generalize hq : World.drewN _ _ = W2
  have HF1 := Lib.hid (show Fr w W2 A p s bx _ from by rw [← hq]; exact HF0.out.drewN _)
  clear hq HF0 c0 c1 b0 b1 b2 b3 b4 b5 b6 b7 xp xc
  obtain ⟨⟨c0, c1⟩, b0, b1, b2, b3, b4, b5, b6, b7⟩ := HF1.out.cells
  dsimp only at b0 b1 b2 b3 b4 b5 b6 b7
  have xp := (HF1.out.sp.th HX.out).pr
  rw [Hhp.out] at xp
  have xc := (HF1.out.sp.th HX.out).calls
  go_upto_region 2 with fail
  go_quiet (fail)
  generalize hq : World.drewN _ _ = W3
  have HF2 := Lib.hid (show Fr w W3 A p s bx _ from by rw [← hq]; exact HF1.out.drewN _)
  clear hq HF1 c0 c1 b0 b1 b2 b3 b4 b5 b6 b7 xp xc
  obtain ⟨⟨c0, c1⟩, b0, b1, b2, b3, b4, b5, b6, b7⟩ := HF2.out.cells
  dsimp only at b0 b1 b2 b3 b4 b5 b6 b7
  have xp := (HF2.out.sp.th HX.out).pr
  rw [Hhp.out] at xp
  have xc := (HF2.out.sp.th HX.out).calls
  go_wp2_with fail
  go_ret
  exact HandPost.no HF2.out.sp HF2.out.kp
set_option maxHeartbeats 4000000 in
theorem open_3 {w : World} {A : Nat → Prop} {p : Pl} {s : SS} (h : SpecAt w A p s) {t : Nat} {x : Th} (hx : s.T[t]? = some x) (kind idx act obj oth code val : Int) (hp : x.pr = 0) (hi : x.calls = idx) (hc : code ≠ 0) :
    Calls Try.prog 21 #[spV p, evV ⟨kind, (t : Int), idx, act, obj, oth, code, val⟩] w (HandPost w A p s none) := by
  have H := Lib.hid h
  have HX := Lib.hid hx
  have ix := idx_thrs p.T s.T.length p.cT t (thr_lt hx)
  have ec : (code == 0) = false := beq_eq_false_iff_ne.2 hc
  have Hhp := Lib.hid hp
  have Hhi := Lib.hid hi
  have Hhc := Lib.hid hc
  have HF0 := Lib.hid (Fr.boxed h ⟨kind, (t : Int), idx, act, obj, oth, code, val⟩)
  clear h hx hp hi hc
  go_enter Try.func21, Try.ntmps21
  go_upto_region 1 with fail
  generalize hW : w.alloc _ = W at HF0 ⊢
  obtain ⟨bx, hbx⟩ : ∃ bx, bx = w.heap.size := ⟨_, rfl⟩
  rw [← hbx] at HF0 ⊢
  clear hbx hW
  obtain ⟨⟨c0, c1⟩, b0, b1, b2, b3, b4, b5, b6, b7⟩ := HF0.out.cells
  dsimp only at b0 b1 b2 b3 b4 b5 b6 b7
  have xp := (HF0.out.sp.th HX.out).pr
  rw [Hhp.out] at xp
  have xc := (HF0.out.sp.th HX.out).calls
  rw [Hhi.out] at xc
  go_quiet (fail)
  generalize hq : World.drewN _ _ = W2
  have HF1 := Lib.hid (show Fr w W2 A p s bx _ from by rw [← hq]; exact HF0.out.drewN _)
  clear hq HF0 c0 c1 b0 b1 b2 b3 b4 b5 b6 b7 xp xc
  obtain ⟨⟨c0, c1⟩, b0, b1, b2, b3, b4, b5, b6, b7⟩ := HF1.out.cells
  dsimp only at b0 b1 b2 b3 b4 b5 b6 b7
  have xp := (HF1.out.sp.th HX.out).pr
  rw [Hhp.out] at xp
  have xc := (HF1.out.sp.th HX.out).calls
  rw [Hhi.out] at xc
  go_upto_region 2 with fail
  go_quiet (fail)
  generalize hq : World.drewN _ _ = W3
  have HF2 := Lib.hid (show Fr w W3 A p s bx _ from by rw [← hq]; exact HF1.out.drewN _)
  clear hq HF1 c0 c1 b0 b1 b2 b3 b4 b5 b6 b7 xp xc
  obtain ⟨⟨c0, c1⟩, b0, b1, b2, b3, b4, b5, b6, b7⟩ := HF2.out.cells
  dsimp only at b0 b1 b2 b3 b4 b5 b6 b7
  have xp := (HF2.out.sp.th HX.out).pr
  rw [Hhp.out] at xp
  have xc := (HF2.out.sp.th HX.out).calls
  rw [Hhi.out] at xc
  go_wp2_with fail
  go_ret
  exact HandPost.no HF2.out.sp HF2.out.kp
set_option maxHeartbeats 4000000 in
theorem open_3b {w : World} {A : Nat → Prop} {p : Pl} {s : SS} (h : SpecAt w A p s) {t : Nat} {x : Th} (hx : s.T[t]? = some x) (kind idx act obj oth code val : Int) (hp : x.pr = 0) (hi : x.calls = idx) (hc : code = 0) (hv : val ≠ 0) :
    Calls Try.prog 21 #[spV p, evV ⟨kind, (t : Int), idx, act, obj, oth, code, val⟩] w (HandPost w A p s none) := by
  have H := Lib.hid h
  have HX := Lib.hid hx
  have ix := idx_thrs p.T s.T.length p.cT t (thr_lt hx)
  have ec : (val == 0) = false := beq_eq_false_iff_ne.2 hv
  have Hhp := Lib.hid hp
  have Hhi := Lib.hid hi
  have Hhc := Lib.hid hc
  have Hhv := Lib.hid hv
  have HF0 := Lib.hid (Fr.boxed h ⟨kind, (t : Int), idx, act, obj, oth, code, val⟩)
  clear h hx hp hi hc hv
  go_enter Try.func21, Try.ntmps21
  go_upto_region 1 with fail
  generalize hW : w.alloc _ = W at HF0 ⊢
  obtain ⟨bx, hbx⟩ : ∃ bx, bx = w.heap.size := ⟨_, rfl⟩
  rw [← hbx] at HF0 ⊢
  clear hbx hW
  obtain ⟨⟨c0, c1⟩, b0, b1, b2, b3, b4, b5, b6, b7⟩ := HF0.out.cells
  dsimp only at b0 b1 b2 b3 b4 b5 b6 b7
  rw [Hhc.out] at b6
  have xp := (HF0.out.sp.th HX.out).pr
  rw [Hhp.out] at xp
  have xc := (HF0.out.sp.th HX.out).calls
  rw [Hhi.out] at xc
  go_quiet (fail)
  generalize hq : World.drewN _ _ = W2
  have HF1 := Lib.hid (show Fr w W2 A p s bx _ from by rw [← hq]; exact HF0.out.drewN _)
  clear hq HF0 c0 c1 b0 b1 b2 b3 b4 b5 b6 b7 xp xc
  obtain ⟨⟨c0, c1⟩, b0, b1, b2, b3, b4, b5, b6, b7⟩ := HF1.out.cells
  dsimp only at b0 b1 b2 b3 b4 b5 b6 b7
  rw [Hhc.out] at b6
  have xp := (HF1.out.sp.th HX.out).pr
  rw [Hhp.out] at xp
  have xc := (HF1.out.sp.th HX.out).calls
  rw [Hhi.out] at xc
  go_upto_region 2 with fail
  go_quiet (fail)
  generalize hq : World.drewN _ _ = W3
  have HF2 := Lib.hid (show Fr w W3 A p s bx _ from by rw [← hq]; exact HF1.out.drewN _)
  clear hq HF1 c0 c1 b0 b1 b2 b3 b4 b5 b6 b7 xp xc
  obtain ⟨⟨c0, c1⟩, b0, b1, b2, b3, b4, b5, b6, b7⟩ := HF2.out.cells
  dsimp only at b0 b1 b2 b3 b4 b5 b6 b7
  rw [Hhc.out] at b6
  have xp := (HF2.out.sp.th HX.out).pr
  rw [Hhp.out] at xp
  have xc := (HF2.out.sp.th HX.out).calls
  rw [Hhi.out] at xc
  go_wp2_with fail
  go_ret
  exact HandPost.no HF2.out.sp HF2.out.kp
set_option maxHeartbeats 4000000 in
theorem open_4 {w : World} {A : Nat → Prop} {p : Pl} {s : SS} (h : SpecAt w A p s) {t : Nat} {x : Th} (hx : s.T[t]? = some x) (kind idx act obj oth code val : Int) (hp : x.pr = 0) (hi : x.calls = idx) (hc : code = 0) (hz : val = 0) (v : validS s act obj oth) :
    Calls Try.prog 21 #[spV p, evV ⟨kind, (t : Int), idx, act, obj, oth, code, val⟩] w (HandPost w A p s (some (s.setT t (begTh x ⟨kind, (t : Int), idx, act, obj, oth, code, val⟩)))) := by
  have H := Lib.hid h
  have HX := Lib.hid hx
  have ix := idx_thrs p.T s.T.length p.cT t (thr_lt hx)
  have Hhp := Lib.hid hp
  have Hhi := Lib.hid hi
  have Hhc := Lib.hid hc
  have Hhz := Lib.hid hz
  have Hv := Lib.hid v
  have HF0 := Lib.hid (Fr.boxed h ⟨kind, (t : Int), idx, act, obj, oth, code, val⟩)
  clear h hx hp hi hc hz v
  go_enter Try.func21, Try.ntmps21
  go_upto_region 1 with fail
  generalize hW : w.alloc _ = W at HF0 ⊢
  obtain ⟨bx, hbx⟩ : ∃ bx, bx = w.heap.size := ⟨_, rfl⟩
  rw [← hbx] at HF0 ⊢
  clear hbx hW
  obtain ⟨⟨c0, c1⟩, b0, b1, b2, b3, b4, b5, b6, b7⟩ := HF0.out.cells
  dsimp only at b0 b1 b2 b3 b4 b5 b6 b7
  rw [Hhc.out] at b6
  rw [Hhz.out] at b7
  have xp := (HF0.out.sp.th HX.out).pr
  rw [Hhp.out] at xp
  have xc := (HF0.out.sp.th HX.out).calls
  rw [Hhi.out] at xc
  have xo := (HF0.out.sp.th HX.out).op
  have xj := (HF0.out.sp.th HX.out).obj
  have xa := (HF0.out.sp.th HX.out).arg
  go_quiet (fail)
  generalize hq : World.drewN _ _ = W2
  have HF1 := Lib.hid (show Fr w W2 A p s bx _ from by rw [← hq]; exact HF0.out.drewN _)
  clear hq HF0 c0 c1 b0 b1 b2 b3 b4 b5 b6 b7 xp xc xo xj xa
  obtain ⟨⟨c0, c1⟩, b0, b1, b2, b3, b4, b5, b6, b7⟩ := HF1.out.cells
  dsimp only at b0 b1 b2 b3 b4 b5 b6 b7
  rw [Hhc.out] at b6
  rw [Hhz.out] at b7
  have xp := (HF1.out.sp.th HX.out).pr
  rw [Hhp.out] at xp
  have xc := (HF1.out.sp.th HX.out).calls
  rw [Hhi.out] at xc
  have xo := (HF1.out.sp.th HX.out).op
  have xj := (HF1.out.sp.th HX.out).obj
  have xa := (HF1.out.sp.th HX.out).arg
  go_upto_region 2 with fail
  go_quiet (fail)
  generalize hq : World.drewN _ _ = W3
  have HF2 := Lib.hid (show Fr w W3 A p s bx _ from by rw [← hq]; exact HF1.out.drewN _)
  clear hq HF1 c0 c1 b0 b1 b2 b3 b4 b5 b6 b7 xp xc xo xj xa
  obtain ⟨⟨c0, c1⟩, b0, b1, b2, b3, b4, b5, b6, b7⟩ := HF2.out.cells
  dsimp only at b0 b1 b2 b3 b4 b5 b6 b7
  rw [Hhc.out] at b6
  rw [Hhz.out] at b7
  have xp := (HF2.out.sp.th HX.out).pr
  rw [Hhp.out] at xp
  have xc := (HF2.out.sp.th HX.out).calls
  rw [Hhi.out] at xc
  have xo := (HF2.out.sp.th HX.out).op
  have xj := (HF2.out.sp.th HX.out).obj
  have xa := (HF2.out.sp.th HX.out).arg
  have f0 := HF2.out.sp.freeT (t * 9)
  have f1 := HF2.out.sp.freeT (t * 9 + 1)
  have f2 := HF2.out.sp.freeT (t * 9 + 2)
  have f3 := HF2.out.sp.freeT (t * 9 + 3)
  have hTm := HF2.out.sp.mine.2.1
  have HO := Lib.hid (HF2.out.step (HF2.out.sp.begT HX.out ⟨kind, (t : Int), idx, act, obj, oth, code, val⟩) (((((Keep.refl A _).set (fun _ => hTm) _).set (fun _ => hTm) _).set (fun _ => hTm) _).set (fun _ => hTm) _))
  dsimp only at HO
  have hbT : bx ≠ p.T := fun e => HF2.out.out (e ▸ hTm)
  go_upto_region 6 with fail
  generalize hq : World.setCell _ _ _ = Ws at HO ⊢
  clear hq HF2 c0 c1 b0 b1 b2 b3 b4 b5 b6 b7 xp xc xo xj xa f0 f1 f2 f3
  have hx1 := setT_get (begTh x ⟨kind, (t : Int), idx, act, obj, oth, code, val⟩) HX.out
  have hT := HO.out.sp.th hx1
  have yo := hT.op
  have yj := hT.obj
  have ya := hT.arg
  simp only [begTh] at yo yj ya
  clear hT
  have HX1 := Lib.hid hx1
  clear hx1
  go_wp2_with fail
  refine (valid_yes HO.out.sp act obj oth (by have hv := Hv.out; unfold validS at hv ⊢; rw [(setT_len s t _).1, (setT_len s t _).2]; exact hv)).mono ?_
  rintro r w8 ⟨rfl, hb8⟩
  go_wp2_with fail
  go_ret
  exact HandPost.yes (HO.out.sp.below hb8) (HO.out.kp.trans (Keep.ofBelow hb8))
set_option maxHeartbeats 4000000 in
theorem open_5 {w : World} {A : Nat → Prop} {p : Pl} {s : SS} (h : SpecAt w A p s) {t : Nat} {x : Th} (hx : s.T[t]? = some x) (kind idx act obj oth code val : Int) (hp : x.pr = 0) (hi : x.calls = idx) (hc : code = 0) (hz : val = 0) (v : ¬ validS s act obj oth) :
    Calls Try.prog 21 #[spV p, evV ⟨kind, (t : Int), idx, act, obj, oth, code, val⟩] w (HandPost w A p s (some (s.setT t (endTh (begTh x ⟨kind, (t : Int), idx, act, obj, oth, code, val⟩) 2 0)))) := by
  have H := Lib.hid h
  have HX := Lib.hid hx
  have ix := idx_thrs p.T s.T.length p.cT t (thr_lt hx)
  have Hhp := Lib.hid hp
  have Hhi := Lib.hid hi
  have Hhc := Lib.hid hc
  have Hhz := Lib.hid hz
  have Hv := Lib.hid v
  have HF0 := Lib.hid (Fr.boxed h ⟨kind, (t : Int), idx, act, obj, oth, code, val⟩)
  clear h hx hp hi hc hz v
  go_enter Try.func21, Try.ntmps21
  go_upto_region 1 with fail
  generalize hW : w.alloc _ = W at HF0 ⊢
  obtain ⟨bx, hbx⟩ : ∃ bx, bx = w.heap.size := ⟨_, rfl⟩
  rw [← hbx] at HF0 ⊢
  clear hbx hW
  obtain ⟨⟨c0, c1⟩, b0, b1, b2, b3, b4, b5, b6, b7⟩ := HF0.out.cells
  dsimp only at b0 b1 b2 b3 b4 b5 b6 b7
  rw [Hhc.out] at b6
  rw [Hhz.out] at b7
  have xp := (HF0.out.sp.th HX.out).pr
  rw [Hhp.out] at xp
  have xc := (HF0.out.sp.th HX.out).calls
  rw [Hhi.out] at xc
  have xo := (HF0.out.sp.th HX.out).op
  have xj := (HF0.out.sp.th HX.out).obj
  have xa := (HF0.out.sp.th HX.out).arg
  go_quiet (fail)
  generalize hq : World.drewN _ _ = W2
  have HF1 := Lib.hid (show Fr w W2 A p s bx _ from by rw [← hq]; exact HF0.out.drewN _)
  clear hq HF0 c0 c1 b0 b1 b2 b3 b4 b5 b6 b7 xp xc xo xj xa
  obtain ⟨⟨c0, c1⟩, b0, b1, b2, b3, b4, b5, b6, b7⟩ := HF1.out.cells
  dsimp only at b0 b1 b2 b3 b4 b5 b6 b7
  rw [Hhc.out] at b6
  rw [Hhz.out] at b7
  have xp := (HF1.out.sp.th HX.out).pr
  rw [Hhp.out] at xp
  have xc := (HF1.out.sp.th HX.out).calls
  rw [Hhi.out] at xc
  have xo := (HF1.out.sp.th HX.out).op
  have xj := (HF1.out.sp.th HX.out).obj
  have xa := (HF1.out.sp.th HX.out).arg
  go_upto_region 2 with fail
  go_quiet (fail)
  generalize hq : World.drewN _ _ = W3
  have HF2 := Lib.hid (show Fr w W3 A p s bx _ from by rw [← hq]; exact HF1.out.drewN _)
  clear hq HF1 c0 c1 b0 b1 b2 b3 b4 b5 b6 b7 xp xc xo xj xa
  obtain ⟨⟨c0, c1⟩, b0, b1, b2, b3, b4, b5, b6, b7⟩ := HF2.out.cells
  dsimp only at b0 b1 b2 b3 b4 b5 b6 b7
  rw [Hhc.out] at b6
  rw [Hhz.out] at b7
  have xp := (HF2.out.sp.th HX.out).pr
  rw [Hhp.out] at xp
  have xc := (HF2.out.sp.th HX.out).calls
  rw [Hhi.out] at xc
  have xo := (HF2.out.sp.th HX.out).op
  have xj := (HF2.out.sp.th HX.out).obj
  have xa := (HF2.out.sp.th HX.out).arg
  have f0 := HF2.out.sp.freeT (t * 9)
  have f1 := HF2.out.sp.freeT (t * 9 + 1)
  have f2 := HF2.out.sp.freeT (t * 9 + 2)
  have f3 := HF2.out.sp.freeT (t * 9 + 3)
  have hTm := HF2.out.sp.mine.2.1
  have HO := Lib.hid (HF2.out.step (HF2.out.sp.begT HX.out ⟨kind, (t : Int), idx, act, obj, oth, code, val⟩) (((((Keep.refl A _).set (fun _ => hTm) _).set (fun _ => hTm) _).set (fun _ => hTm) _).set (fun _ => hTm) _))
  dsimp only at HO
  have hbT : bx ≠ p.T := fun e => HF2.out.out (e ▸ hTm)
  go_upto_region 6 with fail
  generalize hq : World.setCell _ _ _ = Ws at HO ⊢
  clear hq HF2 c0 c1 b0 b1 b2 b3 b4 b5 b6 b7 xp xc xo xj xa f0 f1 f2 f3
  have hx1 := setT_get (begTh x ⟨kind, (t : Int), idx, act, obj, oth, code, val⟩) HX.out
  have hT := HO.out.sp.th hx1
  have yo := hT.op
  have yj := hT.obj
  have ya := hT.arg
  simp only [begTh] at yo yj ya
  clear hT
  have HX1 := Lib.hid hx1
  clear hx1
  go_wp2_with fail
  refine (valid_no HO.out.sp act obj oth (by have hv := Hv.out; unfold validS at hv ⊢; rw [(setT_len s t _).1, (setT_len s t _).2]; exact hv)).mono ?_
  rintro r w8 ⟨rfl, hb8⟩
  have HO8 := Lib.hid (HO.out.below hb8)
  clear hb8 yo yj ya
  go_wp2_with fail
  refine (end_any HO8.out.sp HX1.out 2 0).mono ?_
  rintro r9 w9 ⟨rfl, hs9, hk9⟩
  rw [endS_at HX1.out, setT2] at hs9
  go_wp2_with fail
  go_ret
  exact HandPost.yes hs9 (HO8.out.kp.trans hk9)
/-- open -/
theorem open_any {w : World} {A : Nat → Prop} {p : Pl} {s : SS} (h : SpecAt w A p s) {t : Nat} {x : Th} (hx : s.T[t]? = some x) (kind idx act obj oth code val : Int) :
    Calls Try.prog 21 #[spV p, evV ⟨kind, (t : Int), idx, act, obj, oth, code, val⟩] w (HandPost w A p s (openS s t x ⟨kind, (t : Int), idx, act, obj, oth, code, val⟩)) := by
  unfold openS
  dsimp only
  by_cases h0 : x.pr = 0
  rotate_left
  · rw [if_pos (.inl h0)]; exact open_1 h hx kind idx act obj oth code val h0
  by_cases hi : idx = x.calls
  rotate_left
  · rw [if_pos (.inr (.inl hi))]; exact open_2 h hx kind idx act obj oth code val h0 hi
  by_cases hc : code = 0
  rotate_left
  · rw [if_pos (.inr (.inr (.inl hc)))]; exact open_3 h hx kind idx act obj oth code val h0 hi.symm hc
  by_cases hv : val = 0
  rotate_left
  · rw [if_pos (.inr (.inr (.inr hv)))]; exact open_3b h hx kind idx act obj oth code val h0 hi.symm hc hv
  rw [if_neg (fun k => by omega)]
  by_cases hw : validS s act obj oth
  · rw [if_pos hw]; exact open_4 h hx kind idx act obj oth code val h0 hi.symm hc hv hw
  · rw [if_neg hw]; exact open_5 h hx kind idx act obj oth code val h0 hi.symm hc hv hw
end Go.Proofs.Ytcgljmeppmdihaa
