/- Package spec: endWait, beginWait but for its release (written by tools/gen_sp.py). -/
import Derived.Test.YtcgljmeppmdihaaSpF
namespace Go.Proofs.Ytcgljmeppmdihaa
open Go.ChangeShapes Go.WideShapes Go.ChangeAt Go.RowKit
set_option linter.unusedVariables false
set_option maxRecDepth 100000
set_option linter.unusedSimpArgs false
theorem SpecAt.clearT {w : World} {A : Nat → Prop} {p : Pl} {s : SS} (h : SpecAt w A p s) {t : Nat} {x : Th} (hx : s.T[t]? = some x) :
    SpecAt ((w.setCell ⟨p.T, t * 9 + 5, none⟩ (.bool false)).setCell ⟨p.T, t * 9 + 3, none⟩ (.int .i64 3)) A p (s.setT t { x with flag := false, pr := 3 }) := by
  have h1 := h.setT hx (x' := { x with flag := false }) 5 (.bool false) (by omega) rfl
  have h2 := h1.setT (setT_get _ hx) (x' := { x with flag := false, pr := 3 }) 3 (.int .i64 3) (by omega) rfl
  rw [setT2] at h2
  exact h2
set_option maxHeartbeats 4000000 in
theorem endw_1 {w : World} {A : Nat → Prop} {p : Pl} {s : SS} (h : SpecAt w A p s) {t o : Nat} {x : Th} {b : Ob} (hx : s.T[t]? = some x) (hb : s.O[o]? = some b) (kind idx act oth code val : Int) (h1 : act = 7) (h2 : oth = 0) (hf : x.flag = true) (hp : x.pr = 2) :
    Calls Try.prog 72 #[spV p, evV ⟨kind, (t : Int), idx, act, (o : Int), oth, code, val⟩] w (HandPost w A p s (some (s.setT t { x with flag := false, pr := 3 }))) := by
  have H := Lib.hid h
  have HX := Lib.hid hx
  have HB := Lib.hid hb
  have ix := idx_thrs p.T s.T.length p.cT t (thr_lt hx)
  have iy := idx_objs p.O s.O.length p.cO o (obj_lt hb)
  have Hh1 := Lib.hid h1
  have Hh2 := Lib.hid h2
  have Hhf := Lib.hid hf
  have Hhp := Lib.hid hp
  have HF0 := Lib.hid (Fr.boxed h ⟨kind, (t : Int), idx, act, (o : Int), oth, code, val⟩)
  clear h hx hb h1 h2 hf hp
  go_enter Try.func72, Try.ntmps72
  go_upto_region 1 with fail
  generalize hW : w.alloc _ = W at HF0 ⊢
  obtain ⟨bx, hbx⟩ : ∃ bx, bx = w.heap.size := ⟨_, rfl⟩
  rw [← hbx] at HF0 ⊢
  clear hbx hW
  obtain ⟨⟨c0, c1⟩, b0, b1, b2, b3, b4, b5, b6, b7⟩ := HF0.out.cells
  have xf := (HF0.out.sp.th HX.out).flag
  rw [Hhf.out] at xf
  have xp := (HF0.out.sp.th HX.out).pr
  rw [Hhp.out] at xp
  go_quiet (fail)
  generalize hq : World.drewN _ _ = W2
  have HF1 := Lib.hid (show Fr w W2 A p s bx _ from by rw [← hq]; exact (HF0.out.drewN _))
  clear HF0 c0 c1 b0 b1 b2 b3 b4 b5 b6 b7 xf xp
  obtain ⟨⟨c0, c1⟩, b0, b1, b2, b3, b4, b5, b6, b7⟩ := HF1.out.cells
  have xf := (HF1.out.sp.th HX.out).flag
  rw [Hhf.out] at xf
  have xp := (HF1.out.sp.th HX.out).pr
  rw [Hhp.out] at xp
  clear hq
  go_wp2_with fail
  refine (is_yes ⟨kind, (t : Int), idx, act, (o : Int), oth, code, val⟩ (7) (0) _ Hh1.out Hh2.out).mono ?_
  rintro r2 w2 ⟨rfl, hb2⟩
  have HF2 := Lib.hid (HF1.out.below hb2)
  clear HF1 c0 c1 b0 b1 b2 b3 b4 b5 b6 b7 xf xp
  obtain ⟨⟨c0, c1⟩, b0, b1, b2, b3, b4, b5, b6, b7⟩ := HF2.out.cells
  have xf := (HF2.out.sp.th HX.out).flag
  rw [Hhf.out] at xf
  have xp := (HF2.out.sp.th HX.out).pr
  rw [Hhp.out] at xp
  clear hb2
  have hTm := HF2.out.sp.mine.2.1
  have f5 := HF2.out.sp.freeT (t * 9 + 5)
  have f3 := HF2.out.sp.freeT (t * 9 + 3)
  have HO := Lib.hid (HF2.out.step (HF2.out.sp.clearT HX.out) (((Keep.refl A _).set (fun _ => hTm) _).set (fun _ => hTm) _))
  go_wp2_with fail
  go_ret
  exact HandPost.yes HO.out.sp HO.out.kp
set_option maxHeartbeats 4000000 in
theorem endw_2 {w : World} {A : Nat → Prop} {p : Pl} {s : SS} (h : SpecAt w A p s) {t o : Nat} {x : Th} {b : Ob} (hx : s.T[t]? = some x) (hb : s.O[o]? = some b) (kind idx act oth code val : Int) (h1 : act = 4) (hl : leavesS x oth = true) (hxo : x.obj = (o : Int)) (hm : (t : Int) ∈ b.line) :
    Calls Try.prog 72 #[spV p, evV ⟨kind, (t : Int), idx, act, (o : Int), oth, code, val⟩] w (HandPost w A p s (some (awakeS s t oth))) := by
  have H := Lib.hid h
  have HX := Lib.hid hx
  have HB := Lib.hid hb
  have ix := idx_thrs p.T s.T.length p.cT t (thr_lt hx)
  have iy := idx_objs p.O s.O.length p.cO o (obj_lt hb)
  have Hh1 := Lib.hid h1
  have Hhl := Lib.hid hl
  have Hhxo := Lib.hid hxo
  have Hhm := Lib.hid hm
  have HF0 := Lib.hid (Fr.boxed h ⟨kind, (t : Int), idx, act, (o : Int), oth, code, val⟩)
  clear h hx hb h1 hl hxo hm
  go_enter Try.func72, Try.ntmps72
  go_upto_region 1 with fail
  generalize hW : w.alloc _ = W at HF0 ⊢
  obtain ⟨bx, hbx⟩ : ∃ bx, bx = w.heap.size := ⟨_, rfl⟩
  rw [← hbx] at HF0 ⊢
  clear hbx hW
  obtain ⟨⟨c0, c1⟩, b0, b1, b2, b3, b4, b5, b6, b7⟩ := HF0.out.cells
  go_quiet (fail)
  generalize hq : World.drewN _ _ = W2
  have HF1 := Lib.hid (show Fr w W2 A p s bx _ from by rw [← hq]; exact (HF0.out.drewN _))
  clear HF0 c0 c1 b0 b1 b2 b3 b4 b5 b6 b7
  obtain ⟨⟨c0, c1⟩, b0, b1, b2, b3, b4, b5, b6, b7⟩ := HF1.out.cells
  clear hq
  go_wp2_with fail
  refine (is_no ⟨kind, (t : Int), idx, act, (o : Int), oth, code, val⟩ (7) (0) _ (by intro hh; dsimp only at hh; have h1 := Hh1.out; omega)).mono ?_
  rintro r2 w2 ⟨rfl, hb2⟩
  have HF2 := Lib.hid (HF1.out.below hb2)
  clear HF1 c0 c1 b0 b1 b2 b3 b4 b5 b6 b7
  obtain ⟨⟨c0, c1⟩, b0, b1, b2, b3, b4, b5, b6, b7⟩ := HF2.out.cells
  clear hb2
  rw [Hh1.out] at b3
  go_wp2_with fail
  refine (leaves_any HF2.out.sp HX.out oth).mono ?_
  rintro rl wl ⟨rfl, rfl⟩
  rw [Hhl.out]
  go_wp2_with fail
  refine (awake_any HF2.out.sp HX.out Hhxo.out HB.out Hhm.out oth).mono ?_
  rintro r9 w9 ⟨rfl, hs9, hk9⟩
  go_wp2_with fail
  go_ret
  exact HandPost.yes hs9 (HF2.out.kp.trans hk9)
set_option maxHeartbeats 4000000 in
theorem endw_3 {w : World} {A : Nat → Prop} {p : Pl} {s : SS} (h : SpecAt w A p s) {t o : Nat} {x : Th} {b : Ob} (hx : s.T[t]? = some x) (hb : s.O[o]? = some b) (kind idx act oth code val : Int) (h1 : act = 7) (h2 : oth = 0) (hf : x.flag = false) :
    Calls Try.prog 72 #[spV p, evV ⟨kind, (t : Int), idx, act, (o : Int), oth, code, val⟩] w (HandPost w A p s none) := by
  have H := Lib.hid h
  have HX := Lib.hid hx
  have HB := Lib.hid hb
  have ix := idx_thrs p.T s.T.length p.cT t (thr_lt hx)
  have iy := idx_objs p.O s.O.length p.cO o (obj_lt hb)
  have Hh1 := Lib.hid h1
  have Hh2 := Lib.hid h2
  have Hhf := Lib.hid hf
  have HF0 := Lib.hid (Fr.boxed h ⟨kind, (t : Int), idx, act, (o : Int), oth, code, val⟩)
  clear h hx hb h1 h2 hf
  go_enter Try.func72, Try.ntmps72
  go_upto_region 1 with fail
  generalize hW : w.alloc _ = W at HF0 ⊢
  obtain ⟨bx, hbx⟩ : ∃ bx, bx = w.heap.size := ⟨_, rfl⟩
  rw [← hbx] at HF0 ⊢
  clear hbx hW
  obtain ⟨⟨c0, c1⟩, b0, b1, b2, b3, b4, b5, b6, b7⟩ := HF0.out.cells
  have xf := (HF0.out.sp.th HX.out).flag
  rw [Hhf.out] at xf
  go_quiet (fail)
  generalize hq : World.drewN _ _ = W2
  have HF1 := Lib.hid (show Fr w W2 A p s bx _ from by rw [← hq]; exact (HF0.out.drewN _))
  clear HF0 c0 c1 b0 b1 b2 b3 b4 b5 b6 b7 xf
  obtain ⟨⟨c0, c1⟩, b0, b1, b2, b3, b4, b5, b6, b7⟩ := HF1.out.cells
  have xf := (HF1.out.sp.th HX.out).flag
  rw [Hhf.out] at xf
  clear hq
  go_wp2_with fail
  refine (is_yes ⟨kind, (t : Int), idx, act, (o : Int), oth, code, val⟩ (7) (0) _ Hh1.out Hh2.out).mono ?_
  rintro r2 w2 ⟨rfl, hb2⟩
  have HF2 := Lib.hid (HF1.out.below hb2)
  clear HF1 c0 c1 b0 b1 b2 b3 b4 b5 b6 b7 xf
  obtain ⟨⟨c0, c1⟩, b0, b1, b2, b3, b4, b5, b6, b7⟩ := HF2.out.cells
  have xf := (HF2.out.sp.th HX.out).flag
  rw [Hhf.out] at xf
  clear hb2
  rw [Hh1.out] at b3
  go_wp2_with fail
  go_ret
  exact HandPost.no HF2.out.sp HF2.out.kp
set_option maxHeartbeats 4000000 in
theorem endw_4 {w : World} {A : Nat → Prop} {p : Pl} {s : SS} (h : SpecAt w A p s) {t o : Nat} {x : Th} {b : Ob} (hx : s.T[t]? = some x) (hb : s.O[o]? = some b) (kind idx act oth code val : Int) (h1 : act = 7) (h2 : oth = 0) (hf : x.flag = true) (hp : x.pr ≠ 2) :
    Calls Try.prog 72 #[spV p, evV ⟨kind, (t : Int), idx, act, (o : Int), oth, code, val⟩] w (HandPost w A p s none) := by
  have H := Lib.hid h
  have HX := Lib.hid hx
  have HB := Lib.hid hb
  have ix := idx_thrs p.T s.T.length p.cT t (thr_lt hx)
  have iy := idx_objs p.O s.O.length p.cO o (obj_lt hb)
  have hp2 : (x.pr == 2) = false := beq_eq_false_iff_ne.2 hp
  have Hh1 := Lib.hid h1
  have Hh2 := Lib.hid h2
  have Hhf := Lib.hid hf
  have Hhp := Lib.hid hp
  have HF0 := Lib.hid (Fr.boxed h ⟨kind, (t : Int), idx, act, (o : Int), oth, code, val⟩)
  clear h hx hb h1 h2 hf hp
  go_enter Try.func72, Try.ntmps72
  go_upto_region 1 with fail
  generalize hW : w.alloc _ = W at HF0 ⊢
  obtain ⟨bx, hbx⟩ : ∃ bx, bx = w.heap.size := ⟨_, rfl⟩
  rw [← hbx] at HF0 ⊢
  clear hbx hW
  obtain ⟨⟨c0, c1⟩, b0, b1, b2, b3, b4, b5, b6, b7⟩ := HF0.out.cells
  have xf := (HF0.out.sp.th HX.out).flag
  rw [Hhf.out] at xf
  have xp := (HF0.out.sp.th HX.out).pr
  go_quiet (fail)
  generalize hq : World.drewN _ _ = W2
  have HF1 := Lib.hid (show Fr w W2 A p s bx _ from by rw [← hq]; exact (HF0.out.drewN _))
  clear HF0 c0 c1 b0 b1 b2 b3 b4 b5 b6 b7 xf xp
  obtain ⟨⟨c0, c1⟩, b0, b1, b2, b3, b4, b5, b6, b7⟩ := HF1.out.cells
  have xf := (HF1.out.sp.th HX.out).flag
  rw [Hhf.out] at xf
  have xp := (HF1.out.sp.th HX.out).pr
  clear hq
  go_wp2_with fail
  refine (is_yes ⟨kind, (t : Int), idx, act, (o : Int), oth, code, val⟩ (7) (0) _ Hh1.out Hh2.out).mono ?_
  rintro r2 w2 ⟨rfl, hb2⟩
  have HF2 := Lib.hid (HF1.out.below hb2)
  clear HF1 c0 c1 b0 b1 b2 b3 b4 b5 b6 b7 xf xp
  obtain ⟨⟨c0, c1⟩, b0, b1, b2, b3, b4, b5, b6, b7⟩ := HF2.out.cells
  have xf := (HF2.out.sp.th HX.out).flag
  rw [Hhf.out] at xf
  have xp := (HF2.out.sp.th HX.out).pr
  clear hb2
  rw [Hh1.out] at b3
  go_wp2_with fail
  go_ret
  exact HandPost.no HF2.out.sp HF2.out.kp
set_option maxHeartbeats 4000000 in
theorem endw_5 {w : World} {A : Nat → Prop} {p : Pl} {s : SS} (h : SpecAt w A p s) {t o : Nat} {x : Th} {b : Ob} (hx : s.T[t]? = some x) (hb : s.O[o]? = some b) (kind idx act oth code val : Int) (h1 : act = 4) (hl : leavesS x oth = false) :
    Calls Try.prog 72 #[spV p, evV ⟨kind, (t : Int), idx, act, (o : Int), oth, code, val⟩] w (HandPost w A p s none) := by
  have H := Lib.hid h
  have HX := Lib.hid hx
  have HB := Lib.hid hb
  have ix := idx_thrs p.T s.T.length p.cT t (thr_lt hx)
  have iy := idx_objs p.O s.O.length p.cO o (obj_lt hb)
  have Hh1 := Lib.hid h1
  have Hhl := Lib.hid hl
  have HF0 := Lib.hid (Fr.boxed h ⟨kind, (t : Int), idx, act, (o : Int), oth, code, val⟩)
  clear h hx hb h1 hl
  go_enter Try.func72, Try.ntmps72
  go_upto_region 1 with fail
  generalize hW : w.alloc _ = W at HF0 ⊢
  obtain ⟨bx, hbx⟩ : ∃ bx, bx = w.heap.size := ⟨_, rfl⟩
  rw [← hbx] at HF0 ⊢
  clear hbx hW
  obtain ⟨⟨c0, c1⟩, b0, b1, b2, b3, b4, b5, b6, b7⟩ := HF0.out.cells
  go_quiet (fail)
  generalize hq : World.drewN _ _ = W2
  have HF1 := Lib.hid (show Fr w W2 A p s bx _ from by rw [← hq]; exact (HF0.out.drewN _))
  clear HF0 c0 c1 b0 b1 b2 b3 b4 b5 b6 b7
  obtain ⟨⟨c0, c1⟩, b0, b1, b2, b3, b4, b5, b6, b7⟩ := HF1.out.cells
  clear hq
  go_wp2_with fail
  refine (is_no ⟨kind, (t : Int), idx, act, (o : Int), oth, code, val⟩ (7) (0) _ (by intro hh; dsimp only at hh; have h1 := Hh1.out; omega)).mono ?_
  rintro r2 w2 ⟨rfl, hb2⟩
  have HF2 := Lib.hid (HF1.out.below hb2)
  clear HF1 c0 c1 b0 b1 b2 b3 b4 b5 b6 b7
  obtain ⟨⟨c0, c1⟩, b0, b1, b2, b3, b4, b5, b6, b7⟩ := HF2.out.cells
  clear hb2
  rw [Hh1.out] at b3
  go_wp2_with fail
  refine (leaves_any HF2.out.sp HX.out oth).mono ?_
  rintro rl wl ⟨rfl, rfl⟩
  rw [Hhl.out]
  go_wp2_with fail
  go_ret
  exact HandPost.no HF2.out.sp HF2.out.kp
set_option maxHeartbeats 4000000 in
theorem endw_6 {w : World} {A : Nat → Prop} {p : Pl} {s : SS} (h : SpecAt w A p s) {t o : Nat} {x : Th} {b : Ob} (hx : s.T[t]? = some x) (hb : s.O[o]? = some b) (kind idx act oth code val : Int) (hn : ¬ (act = 7 ∧ oth = 0)) (h4 : act ≠ 4) :
    Calls Try.prog 72 #[spV p, evV ⟨kind, (t : Int), idx, act, (o : Int), oth, code, val⟩] w (HandPost w A p s none) := by
  have H := Lib.hid h
  have HX := Lib.hid hx
  have HB := Lib.hid hb
  have ix := idx_thrs p.T s.T.length p.cT t (thr_lt hx)
  have iy := idx_objs p.O s.O.length p.cO o (obj_lt hb)
  have ha4 : (act == 4) = false := beq_eq_false_iff_ne.2 h4
  have Hhn := Lib.hid hn
  have Hh4 := Lib.hid h4
  have HF0 := Lib.hid (Fr.boxed h ⟨kind, (t : Int), idx, act, (o : Int), oth, code, val⟩)
  clear h hx hb hn h4
  go_enter Try.func72, Try.ntmps72
  go_upto_region 1 with fail
  generalize hW : w.alloc _ = W at HF0 ⊢
  obtain ⟨bx, hbx⟩ : ∃ bx, bx = w.heap.size := ⟨_, rfl⟩
  rw [← hbx] at HF0 ⊢
  clear hbx hW
  obtain ⟨⟨c0, c1⟩, b0, b1, b2, b3, b4, b5, b6, b7⟩ := HF0.out.cells
  go_quiet (fail)
  generalize hq : World.drewN _ _ = W2
  have HF1 := Lib.hid (show Fr w W2 A p s bx _ from by rw [← hq]; exact (HF0.out.drewN _))
  clear HF0 c0 c1 b0 b1 b2 b3 b4 b5 b6 b7
  obtain ⟨⟨c0, c1⟩, b0, b1, b2, b3, b4, b5, b6, b7⟩ := HF1.out.cells
  clear hq
  go_wp2_with fail
  refine (is_no ⟨kind, (t : Int), idx, act, (o : Int), oth, code, val⟩ (7) (0) _ Hhn.out).mono ?_
  rintro r2 w2 ⟨rfl, hb2⟩
  have HF2 := Lib.hid (HF1.out.below hb2)
  clear HF1 c0 c1 b0 b1 b2 b3 b4 b5 b6 b7
  obtain ⟨⟨c0, c1⟩, b0, b1, b2, b3, b4, b5, b6, b7⟩ := HF2.out.cells
  clear hb2
  go_wp2_with fail
  go_ret
  exact HandPost.no HF2.out.sp HF2.out.kp
theorem endWait_any {w : World} {A : Nat → Prop} {p : Pl} {s : SS} (h : SpecAt w A p s) {t o : Nat} {x : Th} {b : Ob} (hx : s.T[t]? = some x) (hb : s.O[o]? = some b) (kind idx act oth code val : Int) (hxo : x.obj = (o : Int)) (hm : (t : Int) ∈ b.line) :
    Calls Try.prog 72 #[spV p, evV ⟨kind, (t : Int), idx, act, (o : Int), oth, code, val⟩] w (HandPost w A p s (endWaitS s t x ⟨kind, (t : Int), idx, act, (o : Int), oth, code, val⟩)) := by
  unfold endWaitS
  dsimp only
  by_cases h1 : act = 7 ∧ oth = 0
  · cases hf : x.flag with
    | true =>
      by_cases hp : x.pr = 2
      · rw [if_pos ⟨h1.1, h1.2, rfl, hp⟩]
        exact endw_1 h hx hb kind idx act oth code val h1.1 h1.2 hf hp
      · rw [if_neg (fun k => hp k.2.2.2), if_neg (fun k => by omega)]
        exact endw_4 h hx hb kind idx act oth code val h1.1 h1.2 hf hp
    | false =>
      rw [if_neg (fun k => by cases k.2.2.1), if_neg (fun k => by omega)]
      exact endw_3 h hx hb kind idx act oth code val h1.1 h1.2 hf
  rw [if_neg (fun k => h1 ⟨k.1, k.2.1⟩)]
  by_cases h4 : act = 4
  rotate_left
  · rw [if_neg (fun k => h4 k.1)]
    exact endw_6 h hx hb kind idx act oth code val h1 h4
  cases hl : leavesS x oth with
  | true =>
    rw [if_pos ⟨h4, rfl⟩]
    exact endw_2 h hx hb kind idx act oth code val h4 hl hxo hm
  | false =>
    rw [if_neg (fun k => by cases k.2)]
    exact endw_5 h hx hb kind idx act oth code val h4 hl
set_option maxHeartbeats 4000000 in
theorem begi_1 {w : World} {A : Nat → Prop} {p : Pl} {s : SS} (h : SpecAt w A p s) {t o : Nat} {x : Th} {b : Ob} (hx : s.T[t]? = some x) (hb : s.O[o]? = some b) (kind idx act oth code val : Int) (h1 : act = 8) (h2 : oth = 4) (ho : b.own ≠ (t : Int)) :
    Calls Try.prog 70 #[spV p, evV ⟨kind, (t : Int), idx, act, (o : Int), oth, code, val⟩] w (HandPost w A p s (some (endS s t oth 0))) := by
  have H := Lib.hid h
  have HX := Lib.hid hx
  have HB := Lib.hid hb
  have ix := idx_thrs p.T s.T.length p.cT t (thr_lt hx)
  have iy := idx_objs p.O s.O.length p.cO o (obj_lt hb)
  have hne : (b.own == (t : Int)) = false := beq_eq_false_iff_ne.2 ho
  have Hh1 := Lib.hid h1
  have Hh2 := Lib.hid h2
  have Hho := Lib.hid ho
  have HF0 := Lib.hid (Fr.boxed h ⟨kind, (t : Int), idx, act, (o : Int), oth, code, val⟩)
  clear h hx hb h1 h2 ho
  go_enter Try.func70, Try.ntmps70
  go_upto_region 1 with fail
  generalize hW : w.alloc _ = W at HF0 ⊢
  obtain ⟨bx, hbx⟩ : ∃ bx, bx = w.heap.size := ⟨_, rfl⟩
  rw [← hbx] at HF0 ⊢
  clear hbx hW
  obtain ⟨⟨c0, c1⟩, b0, b1, b2, b3, b4, b5, b6, b7⟩ := HF0.out.cells
  have oc := (HF0.out.sp.ob HB.out).1
  have od := (HF0.out.sp.ob HB.out).2
  go_quiet (fail)
  go_upto_region 2 with fail
  go_quiet (fail)
  generalize hq : World.drewN _ _ = W2
  have HF1 := Lib.hid (show Fr w W2 A p s bx _ from by rw [← hq]; exact ((HF0.out.drewN _).drewN _))
  clear HF0 c0 c1 b0 b1 b2 b3 b4 b5 b6 b7 oc od
  obtain ⟨⟨c0, c1⟩, b0, b1, b2, b3, b4, b5, b6, b7⟩ := HF1.out.cells
  have oc := (HF1.out.sp.ob HB.out).1
  have od := (HF1.out.sp.ob HB.out).2
  clear hq
  go_wp2_with fail
  refine (refuses_yes ⟨kind, (t : Int), idx, act, (o : Int), oth, code, val⟩ (4) _ Hh1.out Hh2.out).mono ?_
  rintro r2 w2 ⟨rfl, hb2⟩
  have HF2 := Lib.hid (HF1.out.below hb2)
  clear HF1 c0 c1 b0 b1 b2 b3 b4 b5 b6 b7 oc od
  obtain ⟨⟨c0, c1⟩, b0, b1, b2, b3, b4, b5, b6, b7⟩ := HF2.out.cells
  have oc := (HF2.out.sp.ob HB.out).1
  have od := (HF2.out.sp.ob HB.out).2
  clear hb2
  go_wp2_with fail
  refine (refuse_any HF2.out.sp HX.out ⟨kind, (t : Int), idx, act, (o : Int), oth, code, val⟩).mono ?_
  rintro r9 w9 ⟨rfl, hs9, hk9⟩
  go_wp2_with fail
  go_ret
  exact HandPost.yes hs9 (HF2.out.kp.trans hk9)
set_option maxHeartbeats 4000000 in
theorem begi_2 {w : World} {A : Nat → Prop} {p : Pl} {s : SS} (h : SpecAt w A p s) {t o : Nat} {x : Th} {b : Ob} (hx : s.T[t]? = some x) (hb : s.O[o]? = some b) (kind idx act oth code val : Int) (h1 : act = 8) (h2 : oth = 3) :
    Calls Try.prog 70 #[spV p, evV ⟨kind, (t : Int), idx, act, (o : Int), oth, code, val⟩] w (HandPost w A p s (some (endS s t oth 0))) := by
  have H := Lib.hid h
  have HX := Lib.hid hx
  have HB := Lib.hid hb
  have ix := idx_thrs p.T s.T.length p.cT t (thr_lt hx)
  have iy := idx_objs p.O s.O.length p.cO o (obj_lt hb)
  have Hh1 := Lib.hid h1
  have Hh2 := Lib.hid h2
  have HF0 := Lib.hid (Fr.boxed h ⟨kind, (t : Int), idx, act, (o : Int), oth, code, val⟩)
  clear h hx hb h1 h2
  go_enter Try.func70, Try.ntmps70
  go_upto_region 1 with fail
  generalize hW : w.alloc _ = W at HF0 ⊢
  obtain ⟨bx, hbx⟩ : ∃ bx, bx = w.heap.size := ⟨_, rfl⟩
  rw [← hbx] at HF0 ⊢
  clear hbx hW
  obtain ⟨⟨c0, c1⟩, b0, b1, b2, b3, b4, b5, b6, b7⟩ := HF0.out.cells
  have oc := (HF0.out.sp.ob HB.out).1
  have od := (HF0.out.sp.ob HB.out).2
  go_quiet (fail)
  go_upto_region 2 with fail
  go_quiet (fail)
  generalize hq : World.drewN _ _ = W2
  have HF1 := Lib.hid (show Fr w W2 A p s bx _ from by rw [← hq]; exact ((HF0.out.drewN _).drewN _))
  clear HF0 c0 c1 b0 b1 b2 b3 b4 b5 b6 b7 oc od
  obtain ⟨⟨c0, c1⟩, b0, b1, b2, b3, b4, b5, b6, b7⟩ := HF1.out.cells
  have oc := (HF1.out.sp.ob HB.out).1
  have od := (HF1.out.sp.ob HB.out).2
  clear hq
  go_wp2_with fail
  refine (refuses_no ⟨kind, (t : Int), idx, act, (o : Int), oth, code, val⟩ (4) _ (by intro hh; dsimp only at hh; have h1 := Hh2.out; omega)).mono ?_
  rintro r2 w2 ⟨rfl, hb2⟩
  have HF2 := Lib.hid (HF1.out.below hb2)
  clear HF1 c0 c1 b0 b1 b2 b3 b4 b5 b6 b7 oc od
  obtain ⟨⟨c0, c1⟩, b0, b1, b2, b3, b4, b5, b6, b7⟩ := HF2.out.cells
  have oc := (HF2.out.sp.ob HB.out).1
  have od := (HF2.out.sp.ob HB.out).2
  clear hb2
  go_wp2_with fail
  refine (refuses_yes ⟨kind, (t : Int), idx, act, (o : Int), oth, code, val⟩ (3) _ Hh1.out Hh2.out).mono ?_
  rintro r3 w3 ⟨rfl, hb3⟩
  have HF3 := Lib.hid (HF2.out.below hb3)
  clear HF2 c0 c1 b0 b1 b2 b3 b4 b5 b6 b7 oc od
  obtain ⟨⟨c0, c1⟩, b0, b1, b2, b3, b4, b5, b6, b7⟩ := HF3.out.cells
  have oc := (HF3.out.sp.ob HB.out).1
  have od := (HF3.out.sp.ob HB.out).2
  clear hb3
  go_wp2_with fail
  refine (refuse_any HF3.out.sp HX.out ⟨kind, (t : Int), idx, act, (o : Int), oth, code, val⟩).mono ?_
  rintro r9 w9 ⟨rfl, hs9, hk9⟩
  go_wp2_with fail
  go_ret
  exact HandPost.yes hs9 (HF3.out.kp.trans hk9)
set_option maxHeartbeats 4000000 in
theorem begi_3 {w : World} {A : Nat → Prop} {p : Pl} {s : SS} (h : SpecAt w A p s) {t o : Nat} {x : Th} {b : Ob} (hx : s.T[t]? = some x) (hb : s.O[o]? = some b) (kind idx act oth code val : Int) (h1 : act = 7) (h2 : oth = 0) (ho : b.own = (t : Int)) (hf : x.flag = true) :
    Calls Try.prog 70 #[spV p, evV ⟨kind, (t : Int), idx, act, (o : Int), oth, code, val⟩] w (HandPost w A p s (some (endS (s.setT t { x with flag := false }) t 0 2))) := by
  have H := Lib.hid h
  have HX := Lib.hid hx
  have HB := Lib.hid hb
  have ix := idx_thrs p.T s.T.length p.cT t (thr_lt hx)
  have iy := idx_objs p.O s.O.length p.cO o (obj_lt hb)
  have Hh1 := Lib.hid h1
  have Hh2 := Lib.hid h2
  have Hho := Lib.hid ho
  have Hhf := Lib.hid hf
  have HF0 := Lib.hid (Fr.boxed h ⟨kind, (t : Int), idx, act, (o : Int), oth, code, val⟩)
  clear h hx hb h1 h2 ho hf
  go_enter Try.func70, Try.ntmps70
  go_upto_region 1 with fail
  generalize hW : w.alloc _ = W at HF0 ⊢
  obtain ⟨bx, hbx⟩ : ∃ bx, bx = w.heap.size := ⟨_, rfl⟩
  rw [← hbx] at HF0 ⊢
  clear hbx hW
  obtain ⟨⟨c0, c1⟩, b0, b1, b2, b3, b4, b5, b6, b7⟩ := HF0.out.cells
  have oc := (HF0.out.sp.ob HB.out).1
  rw [Hho.out] at oc
  have od := (HF0.out.sp.ob HB.out).2
  have xf := (HF0.out.sp.th HX.out).flag
  rw [Hhf.out] at xf
  go_quiet (fail)
  go_upto_region 2 with fail
  go_quiet (fail)
  generalize hq : World.drewN _ _ = W2
  have HF1 := Lib.hid (show Fr w W2 A p s bx _ from by rw [← hq]; exact ((HF0.out.drewN _).drewN _))
  clear HF0 c0 c1 b0 b1 b2 b3 b4 b5 b6 b7 oc od xf
  obtain ⟨⟨c0, c1⟩, b0, b1, b2, b3, b4, b5, b6, b7⟩ := HF1.out.cells
  have oc := (HF1.out.sp.ob HB.out).1
  rw [Hho.out] at oc
  have od := (HF1.out.sp.ob HB.out).2
  have xf := (HF1.out.sp.th HX.out).flag
  rw [Hhf.out] at xf
  clear hq
  go_wp2_with fail
  refine (refuses_no ⟨kind, (t : Int), idx, act, (o : Int), oth, code, val⟩ (4) _ (by intro hh; dsimp only at hh; have h1 := Hh1.out; omega)).mono ?_
  rintro r2 w2 ⟨rfl, hb2⟩
  have HF2 := Lib.hid (HF1.out.below hb2)
  clear HF1 c0 c1 b0 b1 b2 b3 b4 b5 b6 b7 oc od xf
  obtain ⟨⟨c0, c1⟩, b0, b1, b2, b3, b4, b5, b6, b7⟩ := HF2.out.cells
  have oc := (HF2.out.sp.ob HB.out).1
  rw [Hho.out] at oc
  have od := (HF2.out.sp.ob HB.out).2
  have xf := (HF2.out.sp.th HX.out).flag
  rw [Hhf.out] at xf
  clear hb2
  go_wp2_with fail
  refine (refuses_no ⟨kind, (t : Int), idx, act, (o : Int), oth, code, val⟩ (3) _ (by intro hh; dsimp only at hh; have h1 := Hh1.out; omega)).mono ?_
  rintro r3 w3 ⟨rfl, hb3⟩
  have HF3 := Lib.hid (HF2.out.below hb3)
  clear HF2 c0 c1 b0 b1 b2 b3 b4 b5 b6 b7 oc od xf
  obtain ⟨⟨c0, c1⟩, b0, b1, b2, b3, b4, b5, b6, b7⟩ := HF3.out.cells
  have oc := (HF3.out.sp.ob HB.out).1
  rw [Hho.out] at oc
  have od := (HF3.out.sp.ob HB.out).2
  have xf := (HF3.out.sp.th HX.out).flag
  rw [Hhf.out] at xf
  clear hb3
  go_wp2_with fail
  refine (is_yes ⟨kind, (t : Int), idx, act, (o : Int), oth, code, val⟩ (7) (0) _ Hh1.out Hh2.out).mono ?_
  rintro r4 w4 ⟨rfl, hb4⟩
  have HF4 := Lib.hid (HF3.out.below hb4)
  clear HF3 c0 c1 b0 b1 b2 b3 b4 b5 b6 b7 oc od xf
  obtain ⟨⟨c0, c1⟩, b0, b1, b2, b3, b4, b5, b6, b7⟩ := HF4.out.cells
  have oc := (HF4.out.sp.ob HB.out).1
  rw [Hho.out] at oc
  have od := (HF4.out.sp.ob HB.out).2
  have xf := (HF4.out.sp.th HX.out).flag
  rw [Hhf.out] at xf
  clear hb4
  have hTm := HF4.out.sp.mine.2.1
  have ff := HF4.out.sp.freeT (t * 9 + 5)
  have HO := Lib.hid (HF4.out.step (HF4.out.sp.setT HX.out (x' := { x with flag := false }) 5 (.bool false) (by omega) rfl) ((Keep.refl A _).set (fun _ => hTm) _))
  go_wp2_with fail
  refine (end_any HO.out.sp (setT_get _ HX.out) (0) (2)).mono ?_
  rintro r9 w9 ⟨rfl, hs9, hk9⟩
  go_wp2_with fail
  go_ret
  exact HandPost.yes hs9 (HO.out.kp.trans hk9)
set_option maxHeartbeats 4000000 in
theorem begi_5 {w : World} {A : Nat → Prop} {p : Pl} {s : SS} (h : SpecAt w A p s) {t o : Nat} {x : Th} {b : Ob} (hx : s.T[t]? = some x) (hb : s.O[o]? = some b) (kind idx act oth code val : Int) (h1 : act = 8) (h2 : oth = 4) (ho : b.own = (t : Int)) :
    Calls Try.prog 70 #[spV p, evV ⟨kind, (t : Int), idx, act, (o : Int), oth, code, val⟩] w (HandPost w A p s none) := by
  have H := Lib.hid h
  have HX := Lib.hid hx
  have HB := Lib.hid hb
  have ix := idx_thrs p.T s.T.length p.cT t (thr_lt hx)
  have iy := idx_objs p.O s.O.length p.cO o (obj_lt hb)
  have Hh1 := Lib.hid h1
  have Hh2 := Lib.hid h2
  have Hho := Lib.hid ho
  have HF0 := Lib.hid (Fr.boxed h ⟨kind, (t : Int), idx, act, (o : Int), oth, code, val⟩)
  clear h hx hb h1 h2 ho
  go_enter Try.func70, Try.ntmps70
  go_upto_region 1 with fail
  generalize hW : w.alloc _ = W at HF0 ⊢
  obtain ⟨bx, hbx⟩ : ∃ bx, bx = w.heap.size := ⟨_, rfl⟩
  rw [← hbx] at HF0 ⊢
  clear hbx hW
  obtain ⟨⟨c0, c1⟩, b0, b1, b2, b3, b4, b5, b6, b7⟩ := HF0.out.cells
  have oc := (HF0.out.sp.ob HB.out).1
  rw [Hho.out] at oc
  have od := (HF0.out.sp.ob HB.out).2
  go_quiet (fail)
  go_upto_region 2 with fail
  go_quiet (fail)
  generalize hq : World.drewN _ _ = W2
  have HF1 := Lib.hid (show Fr w W2 A p s bx _ from by rw [← hq]; exact ((HF0.out.drewN _).drewN _))
  clear HF0 c0 c1 b0 b1 b2 b3 b4 b5 b6 b7 oc od
  obtain ⟨⟨c0, c1⟩, b0, b1, b2, b3, b4, b5, b6, b7⟩ := HF1.out.cells
  have oc := (HF1.out.sp.ob HB.out).1
  rw [Hho.out] at oc
  have od := (HF1.out.sp.ob HB.out).2
  clear hq
  go_wp2_with fail
  refine (refuses_yes ⟨kind, (t : Int), idx, act, (o : Int), oth, code, val⟩ (4) _ Hh1.out Hh2.out).mono ?_
  rintro r2 w2 ⟨rfl, hb2⟩
  have HF2 := Lib.hid (HF1.out.below hb2)
  clear HF1 c0 c1 b0 b1 b2 b3 b4 b5 b6 b7 oc od
  obtain ⟨⟨c0, c1⟩, b0, b1, b2, b3, b4, b5, b6, b7⟩ := HF2.out.cells
  have oc := (HF2.out.sp.ob HB.out).1
  rw [Hho.out] at oc
  have od := (HF2.out.sp.ob HB.out).2
  clear hb2
  go_wp2_with fail
  refine (refuses_no ⟨kind, (t : Int), idx, act, (o : Int), oth, code, val⟩ (3) _ (by intro hh; dsimp only at hh; have h1 := Hh2.out; omega)).mono ?_
  rintro r3 w3 ⟨rfl, hb3⟩
  have HF3 := Lib.hid (HF2.out.below hb3)
  clear HF2 c0 c1 b0 b1 b2 b3 b4 b5 b6 b7 oc od
  obtain ⟨⟨c0, c1⟩, b0, b1, b2, b3, b4, b5, b6, b7⟩ := HF3.out.cells
  have oc := (HF3.out.sp.ob HB.out).1
  rw [Hho.out] at oc
  have od := (HF3.out.sp.ob HB.out).2
  clear hb3
  go_wp2_with fail
  refine (is_no ⟨kind, (t : Int), idx, act, (o : Int), oth, code, val⟩ (7) (0) _ (by intro hh; dsimp only at hh; have h1 := Hh1.out; omega)).mono ?_
  rintro r4 w4 ⟨rfl, hb4⟩
  have HF4 := Lib.hid (HF3.out.below hb4)
  clear HF3 c0 c1 b0 b1 b2 b3 b4 b5 b6 b7 oc od
  obtain ⟨⟨c0, c1⟩, b0, b1, b2, b3, b4, b5, b6, b7⟩ := HF4.out.cells
  have oc := (HF4.out.sp.ob HB.out).1
  rw [Hho.out] at oc
  have od := (HF4.out.sp.ob HB.out).2
  clear hb4
  go_wp2_with fail
  refine (is_no ⟨kind, (t : Int), idx, act, (o : Int), oth, code, val⟩ (2) (0) _ (by intro hh; dsimp only at hh; have h1 := Hh1.out; omega)).mono ?_
  rintro r5 w5 ⟨rfl, hb5⟩
  have HF5 := Lib.hid (HF4.out.below hb5)
  clear HF4 c0 c1 b0 b1 b2 b3 b4 b5 b6 b7 oc od
  obtain ⟨⟨c0, c1⟩, b0, b1, b2, b3, b4, b5, b6, b7⟩ := HF5.out.cells
  have oc := (HF5.out.sp.ob HB.out).1
  rw [Hho.out] at oc
  have od := (HF5.out.sp.ob HB.out).2
  clear hb5
  go_wp2_with fail
  go_ret
  exact HandPost.no HF5.out.sp HF5.out.kp
set_option maxHeartbeats 4000000 in
theorem begi_6 {w : World} {A : Nat → Prop} {p : Pl} {s : SS} (h : SpecAt w A p s) {t o : Nat} {x : Th} {b : Ob} (hx : s.T[t]? = some x) (hb : s.O[o]? = some b) (kind idx act oth code val : Int) (h1 : act = 7) (h2 : oth = 0) (ho : b.own ≠ (t : Int)) :
    Calls Try.prog 70 #[spV p, evV ⟨kind, (t : Int), idx, act, (o : Int), oth, code, val⟩] w (HandPost w A p s none) := by
  have H := Lib.hid h
  have HX := Lib.hid hx
  have HB := Lib.hid hb
  have ix := idx_thrs p.T s.T.length p.cT t (thr_lt hx)
  have iy := idx_objs p.O s.O.length p.cO o (obj_lt hb)
  have hne : (b.own == (t : Int)) = false := beq_eq_false_iff_ne.2 ho
  have Hh1 := Lib.hid h1
  have Hh2 := Lib.hid h2
  have Hho := Lib.hid ho
  have HF0 := Lib.hid (Fr.boxed h ⟨kind, (t : Int), idx, act, (o : Int), oth, code, val⟩)
  clear h hx hb h1 h2 ho
  go_enter Try.func70, Try.ntmps70
  go_upto_region 1 with fail
  generalize hW : w.alloc _ = W at HF0 ⊢
  obtain ⟨bx, hbx⟩ : ∃ bx, bx = w.heap.size := ⟨_, rfl⟩
  rw [← hbx] at HF0 ⊢
  clear hbx hW
  obtain ⟨⟨c0, c1⟩, b0, b1, b2, b3, b4, b5, b6, b7⟩ := HF0.out.cells
  have oc := (HF0.out.sp.ob HB.out).1
  have od := (HF0.out.sp.ob HB.out).2
  go_quiet (fail)
  go_upto_region 2 with fail
  go_quiet (fail)
  generalize hq : World.drewN _ _ = W2
  have HF1 := Lib.hid (show Fr w W2 A p s bx _ from by rw [← hq]; exact ((HF0.out.drewN _).drewN _))
  clear HF0 c0 c1 b0 b1 b2 b3 b4 b5 b6 b7 oc od
  obtain ⟨⟨c0, c1⟩, b0, b1, b2, b3, b4, b5, b6, b7⟩ := HF1.out.cells
  have oc := (HF1.out.sp.ob HB.out).1
  have od := (HF1.out.sp.ob HB.out).2
  clear hq
  go_wp2_with fail
  refine (refuses_no ⟨kind, (t : Int), idx, act, (o : Int), oth, code, val⟩ (4) _ (by intro hh; dsimp only at hh; have h1 := Hh1.out; omega)).mono ?_
  rintro r2 w2 ⟨rfl, hb2⟩
  have HF2 := Lib.hid (HF1.out.below hb2)
  clear HF1 c0 c1 b0 b1 b2 b3 b4 b5 b6 b7 oc od
  obtain ⟨⟨c0, c1⟩, b0, b1, b2, b3, b4, b5, b6, b7⟩ := HF2.out.cells
  have oc := (HF2.out.sp.ob HB.out).1
  have od := (HF2.out.sp.ob HB.out).2
  clear hb2
  go_wp2_with fail
  refine (refuses_no ⟨kind, (t : Int), idx, act, (o : Int), oth, code, val⟩ (3) _ (by intro hh; dsimp only at hh; have h1 := Hh1.out; omega)).mono ?_
  rintro r3 w3 ⟨rfl, hb3⟩
  have HF3 := Lib.hid (HF2.out.below hb3)
  clear HF2 c0 c1 b0 b1 b2 b3 b4 b5 b6 b7 oc od
  obtain ⟨⟨c0, c1⟩, b0, b1, b2, b3, b4, b5, b6, b7⟩ := HF3.out.cells
  have oc := (HF3.out.sp.ob HB.out).1
  have od := (HF3.out.sp.ob HB.out).2
  clear hb3
  go_wp2_with fail
  refine (is_yes ⟨kind, (t : Int), idx, act, (o : Int), oth, code, val⟩ (7) (0) _ Hh1.out Hh2.out).mono ?_
  rintro r4 w4 ⟨rfl, hb4⟩
  have HF4 := Lib.hid (HF3.out.below hb4)
  clear HF3 c0 c1 b0 b1 b2 b3 b4 b5 b6 b7 oc od
  obtain ⟨⟨c0, c1⟩, b0, b1, b2, b3, b4, b5, b6, b7⟩ := HF4.out.cells
  have oc := (HF4.out.sp.ob HB.out).1
  have od := (HF4.out.sp.ob HB.out).2
  clear hb4
  go_wp2_with fail
  refine (is_no ⟨kind, (t : Int), idx, act, (o : Int), oth, code, val⟩ (2) (0) _ (by intro hh; dsimp only at hh; have h1 := Hh1.out; omega)).mono ?_
  rintro r5 w5 ⟨rfl, hb5⟩
  have HF5 := Lib.hid (HF4.out.below hb5)
  clear HF4 c0 c1 b0 b1 b2 b3 b4 b5 b6 b7 oc od
  obtain ⟨⟨c0, c1⟩, b0, b1, b2, b3, b4, b5, b6, b7⟩ := HF5.out.cells
  have oc := (HF5.out.sp.ob HB.out).1
  have od := (HF5.out.sp.ob HB.out).2
  clear hb5
  go_wp2_with fail
  go_ret
  exact HandPost.no HF5.out.sp HF5.out.kp
set_option maxHeartbeats 4000000 in
theorem begi_7 {w : World} {A : Nat → Prop} {p : Pl} {s : SS} (h : SpecAt w A p s) {t o : Nat} {x : Th} {b : Ob} (hx : s.T[t]? = some x) (hb : s.O[o]? = some b) (kind idx act oth code val : Int) (h1 : act = 7) (h2 : oth = 0) (ho : b.own = (t : Int)) (hf : x.flag = false) :
    Calls Try.prog 70 #[spV p, evV ⟨kind, (t : Int), idx, act, (o : Int), oth, code, val⟩] w (HandPost w A p s none) := by
  have H := Lib.hid h
  have HX := Lib.hid hx
  have HB := Lib.hid hb
  have ix := idx_thrs p.T s.T.length p.cT t (thr_lt hx)
  have iy := idx_objs p.O s.O.length p.cO o (obj_lt hb)
  have Hh1 := Lib.hid h1
  have Hh2 := Lib.hid h2
  have Hho := Lib.hid ho
  have Hhf := Lib.hid hf
  have HF0 := Lib.hid (Fr.boxed h ⟨kind, (t : Int), idx, act, (o : Int), oth, code, val⟩)
  clear h hx hb h1 h2 ho hf
  go_enter Try.func70, Try.ntmps70
  go_upto_region 1 with fail
  generalize hW : w.alloc _ = W at HF0 ⊢
  obtain ⟨bx, hbx⟩ : ∃ bx, bx = w.heap.size := ⟨_, rfl⟩
  rw [← hbx] at HF0 ⊢
  clear hbx hW
  obtain ⟨⟨c0, c1⟩, b0, b1, b2, b3, b4, b5, b6, b7⟩ := HF0.out.cells
  have oc := (HF0.out.sp.ob HB.out).1
  rw [Hho.out] at oc
  have od := (HF0.out.sp.ob HB.out).2
  have xf := (HF0.out.sp.th HX.out).flag
  rw [Hhf.out] at xf
  go_quiet (fail)
  go_upto_region 2 with fail
  go_quiet (fail)
  generalize hq : World.drewN _ _ = W2
  have HF1 := Lib.hid (show Fr w W2 A p s bx _ from by rw [← hq]; exact ((HF0.out.drewN _).drewN _))
  clear HF0 c0 c1 b0 b1 b2 b3 b4 b5 b6 b7 oc od xf
  obtain ⟨⟨c0, c1⟩, b0, b1, b2, b3, b4, b5, b6, b7⟩ := HF1.out.cells
  have oc := (HF1.out.sp.ob HB.out).1
  rw [Hho.out] at oc
  have od := (HF1.out.sp.ob HB.out).2
  have xf := (HF1.out.sp.th HX.out).flag
  rw [Hhf.out] at xf
  clear hq
  go_wp2_with fail
  refine (refuses_no ⟨kind, (t : Int), idx, act, (o : Int), oth, code, val⟩ (4) _ (by intro hh; dsimp only at hh; have h1 := Hh1.out; omega)).mono ?_
  rintro r2 w2 ⟨rfl, hb2⟩
  have HF2 := Lib.hid (HF1.out.below hb2)
  clear HF1 c0 c1 b0 b1 b2 b3 b4 b5 b6 b7 oc od xf
  obtain ⟨⟨c0, c1⟩, b0, b1, b2, b3, b4, b5, b6, b7⟩ := HF2.out.cells
  have oc := (HF2.out.sp.ob HB.out).1
  rw [Hho.out] at oc
  have od := (HF2.out.sp.ob HB.out).2
  have xf := (HF2.out.sp.th HX.out).flag
  rw [Hhf.out] at xf
  clear hb2
  go_wp2_with fail
  refine (refuses_no ⟨kind, (t : Int), idx, act, (o : Int), oth, code, val⟩ (3) _ (by intro hh; dsimp only at hh; have h1 := Hh1.out; omega)).mono ?_
  rintro r3 w3 ⟨rfl, hb3⟩
  have HF3 := Lib.hid (HF2.out.below hb3)
  clear HF2 c0 c1 b0 b1 b2 b3 b4 b5 b6 b7 oc od xf
  obtain ⟨⟨c0, c1⟩, b0, b1, b2, b3, b4, b5, b6, b7⟩ := HF3.out.cells
  have oc := (HF3.out.sp.ob HB.out).1
  rw [Hho.out] at oc
  have od := (HF3.out.sp.ob HB.out).2
  have xf := (HF3.out.sp.th HX.out).flag
  rw [Hhf.out] at xf
  clear hb3
  go_wp2_with fail
  refine (is_yes ⟨kind, (t : Int), idx, act, (o : Int), oth, code, val⟩ (7) (0) _ Hh1.out Hh2.out).mono ?_
  rintro r4 w4 ⟨rfl, hb4⟩
  have HF4 := Lib.hid (HF3.out.below hb4)
  clear HF3 c0 c1 b0 b1 b2 b3 b4 b5 b6 b7 oc od xf
  obtain ⟨⟨c0, c1⟩, b0, b1, b2, b3, b4, b5, b6, b7⟩ := HF4.out.cells
  have oc := (HF4.out.sp.ob HB.out).1
  rw [Hho.out] at oc
  have od := (HF4.out.sp.ob HB.out).2
  have xf := (HF4.out.sp.th HX.out).flag
  rw [Hhf.out] at xf
  clear hb4
  go_wp2_with fail
  refine (is_no ⟨kind, (t : Int), idx, act, (o : Int), oth, code, val⟩ (2) (0) _ (by intro hh; dsimp only at hh; have h1 := Hh1.out; omega)).mono ?_
  rintro r5 w5 ⟨rfl, hb5⟩
  have HF5 := Lib.hid (HF4.out.below hb5)
  clear HF4 c0 c1 b0 b1 b2 b3 b4 b5 b6 b7 oc od xf
  obtain ⟨⟨c0, c1⟩, b0, b1, b2, b3, b4, b5, b6, b7⟩ := HF5.out.cells
  have oc := (HF5.out.sp.ob HB.out).1
  rw [Hho.out] at oc
  have od := (HF5.out.sp.ob HB.out).2
  have xf := (HF5.out.sp.th HX.out).flag
  rw [Hhf.out] at xf
  clear hb5
  go_wp2_with fail
  go_ret
  exact HandPost.no HF5.out.sp HF5.out.kp
set_option maxHeartbeats 4000000 in
theorem begi_8 {w : World} {A : Nat → Prop} {p : Pl} {s : SS} (h : SpecAt w A p s) {t o : Nat} {x : Th} {b : Ob} (hx : s.T[t]? = some x) (hb : s.O[o]? = some b) (kind idx act oth code val : Int) (h1 : act = 2) (h2 : oth = 0) (ho : b.own ≠ (t : Int)) :
    Calls Try.prog 70 #[spV p, evV ⟨kind, (t : Int), idx, act, (o : Int), oth, code, val⟩] w (HandPost w A p s none) := by
  have H := Lib.hid h
  have HX := Lib.hid hx
  have HB := Lib.hid hb
  have ix := idx_thrs p.T s.T.length p.cT t (thr_lt hx)
  have iy := idx_objs p.O s.O.length p.cO o (obj_lt hb)
  have hne : (b.own == (t : Int)) = false := beq_eq_false_iff_ne.2 ho
  have Hh1 := Lib.hid h1
  have Hh2 := Lib.hid h2
  have Hho := Lib.hid ho
  have HF0 := Lib.hid (Fr.boxed h ⟨kind, (t : Int), idx, act, (o : Int), oth, code, val⟩)
  clear h hx hb h1 h2 ho
  go_enter Try.func70, Try.ntmps70
  go_upto_region 1 with fail
  generalize hW : w.alloc _ = W at HF0 ⊢
  obtain ⟨bx, hbx⟩ : ∃ bx, bx = w.heap.size := ⟨_, rfl⟩
  rw [← hbx] at HF0 ⊢
  clear hbx hW
  obtain ⟨⟨c0, c1⟩, b0, b1, b2, b3, b4, b5, b6, b7⟩ := HF0.out.cells
  have oc := (HF0.out.sp.ob HB.out).1
  have od := (HF0.out.sp.ob HB.out).2
  go_quiet (fail)
  go_upto_region 2 with fail
  go_quiet (fail)
  generalize hq : World.drewN _ _ = W2
  have HF1 := Lib.hid (show Fr w W2 A p s bx _ from by rw [← hq]; exact ((HF0.out.drewN _).drewN _))
  clear HF0 c0 c1 b0 b1 b2 b3 b4 b5 b6 b7 oc od
  obtain ⟨⟨c0, c1⟩, b0, b1, b2, b3, b4, b5, b6, b7⟩ := HF1.out.cells
  have oc := (HF1.out.sp.ob HB.out).1
  have od := (HF1.out.sp.ob HB.out).2
  clear hq
  go_wp2_with fail
  refine (refuses_no ⟨kind, (t : Int), idx, act, (o : Int), oth, code, val⟩ (4) _ (by intro hh; dsimp only at hh; have h1 := Hh1.out; omega)).mono ?_
  rintro r2 w2 ⟨rfl, hb2⟩
  have HF2 := Lib.hid (HF1.out.below hb2)
  clear HF1 c0 c1 b0 b1 b2 b3 b4 b5 b6 b7 oc od
  obtain ⟨⟨c0, c1⟩, b0, b1, b2, b3, b4, b5, b6, b7⟩ := HF2.out.cells
  have oc := (HF2.out.sp.ob HB.out).1
  have od := (HF2.out.sp.ob HB.out).2
  clear hb2
  go_wp2_with fail
  refine (refuses_no ⟨kind, (t : Int), idx, act, (o : Int), oth, code, val⟩ (3) _ (by intro hh; dsimp only at hh; have h1 := Hh1.out; omega)).mono ?_
  rintro r3 w3 ⟨rfl, hb3⟩
  have HF3 := Lib.hid (HF2.out.below hb3)
  clear HF2 c0 c1 b0 b1 b2 b3 b4 b5 b6 b7 oc od
  obtain ⟨⟨c0, c1⟩, b0, b1, b2, b3, b4, b5, b6, b7⟩ := HF3.out.cells
  have oc := (HF3.out.sp.ob HB.out).1
  have od := (HF3.out.sp.ob HB.out).2
  clear hb3
  go_wp2_with fail
  refine (is_no ⟨kind, (t : Int), idx, act, (o : Int), oth, code, val⟩ (7) (0) _ (by intro hh; dsimp only at hh; have h1 := Hh1.out; omega)).mono ?_
  rintro r4 w4 ⟨rfl, hb4⟩
  have HF4 := Lib.hid (HF3.out.below hb4)
  clear HF3 c0 c1 b0 b1 b2 b3 b4 b5 b6 b7 oc od
  obtain ⟨⟨c0, c1⟩, b0, b1, b2, b3, b4, b5, b6, b7⟩ := HF4.out.cells
  have oc := (HF4.out.sp.ob HB.out).1
  have od := (HF4.out.sp.ob HB.out).2
  clear hb4
  go_wp2_with fail
  refine (is_yes ⟨kind, (t : Int), idx, act, (o : Int), oth, code, val⟩ (2) (0) _ Hh1.out Hh2.out).mono ?_
  rintro r5 w5 ⟨rfl, hb5⟩
  have HF5 := Lib.hid (HF4.out.below hb5)
  clear HF4 c0 c1 b0 b1 b2 b3 b4 b5 b6 b7 oc od
  obtain ⟨⟨c0, c1⟩, b0, b1, b2, b3, b4, b5, b6, b7⟩ := HF5.out.cells
  have oc := (HF5.out.sp.ob HB.out).1
  have od := (HF5.out.sp.ob HB.out).2
  clear hb5
  go_wp2_with fail
  go_ret
  exact HandPost.no HF5.out.sp HF5.out.kp
set_option maxHeartbeats 4000000 in
theorem begi_9 {w : World} {A : Nat → Prop} {p : Pl} {s : SS} (h : SpecAt w A p s) {t o : Nat} {x : Th} {b : Ob} (hx : s.T[t]? = some x) (hb : s.O[o]? = some b) (kind idx act oth code val : Int) (n84 : ¬ (act = 8 ∧ oth = 4)) (n83 : ¬ (act = 8 ∧ oth = 3)) (n70 : ¬ (act = 7 ∧ oth = 0)) (n20 : ¬ (act = 2 ∧ oth = 0)) :
    Calls Try.prog 70 #[spV p, evV ⟨kind, (t : Int), idx, act, (o : Int), oth, code, val⟩] w (HandPost w A p s none) := by
  have H := Lib.hid h
  have HX := Lib.hid hx
  have HB := Lib.hid hb
  have ix := idx_thrs p.T s.T.length p.cT t (thr_lt hx)
  have iy := idx_objs p.O s.O.length p.cO o (obj_lt hb)
  have Hn84 := Lib.hid n84
  have Hn83 := Lib.hid n83
  have Hn70 := Lib.hid n70
  have Hn20 := Lib.hid n20
  have HF0 := Lib.hid (Fr.boxed h ⟨kind, (t : Int), idx, act, (o : Int), oth, code, val⟩)
  clear h hx hb n84 n83 n70 n20
  go_enter Try.func70, Try.ntmps70
  go_upto_region 1 with fail
  generalize hW : w.alloc _ = W at HF0 ⊢
  obtain ⟨bx, hbx⟩ : ∃ bx, bx = w.heap.size := ⟨_, rfl⟩
  rw [← hbx] at HF0 ⊢
  clear hbx hW
  obtain ⟨⟨c0, c1⟩, b0, b1, b2, b3, b4, b5, b6, b7⟩ := HF0.out.cells
  have oc := (HF0.out.sp.ob HB.out).1
  have od := (HF0.out.sp.ob HB.out).2
  go_quiet (fail)
  go_upto_region 2 with fail
  go_quiet (fail)
  generalize hq : World.drewN _ _ = W2
  have HF1 := Lib.hid (show Fr w W2 A p s bx _ from by rw [← hq]; exact ((HF0.out.drewN _).drewN _))
  clear HF0 c0 c1 b0 b1 b2 b3 b4 b5 b6 b7 oc od
  obtain ⟨⟨c0, c1⟩, b0, b1, b2, b3, b4, b5, b6, b7⟩ := HF1.out.cells
  have oc := (HF1.out.sp.ob HB.out).1
  have od := (HF1.out.sp.ob HB.out).2
  clear hq
  go_wp2_with fail
  refine (refuses_no ⟨kind, (t : Int), idx, act, (o : Int), oth, code, val⟩ (4) _ Hn84.out).mono ?_
  rintro r2 w2 ⟨rfl, hb2⟩
  have HF2 := Lib.hid (HF1.out.below hb2)
  clear HF1 c0 c1 b0 b1 b2 b3 b4 b5 b6 b7 oc od
  obtain ⟨⟨c0, c1⟩, b0, b1, b2, b3, b4, b5, b6, b7⟩ := HF2.out.cells
  have oc := (HF2.out.sp.ob HB.out).1
  have od := (HF2.out.sp.ob HB.out).2
  clear hb2
  go_wp2_with fail
  refine (refuses_no ⟨kind, (t : Int), idx, act, (o : Int), oth, code, val⟩ (3) _ Hn83.out).mono ?_
  rintro r3 w3 ⟨rfl, hb3⟩
  have HF3 := Lib.hid (HF2.out.below hb3)
  clear HF2 c0 c1 b0 b1 b2 b3 b4 b5 b6 b7 oc od
  obtain ⟨⟨c0, c1⟩, b0, b1, b2, b3, b4, b5, b6, b7⟩ := HF3.out.cells
  have oc := (HF3.out.sp.ob HB.out).1
  have od := (HF3.out.sp.ob HB.out).2
  clear hb3
  go_wp2_with fail
  refine (is_no ⟨kind, (t : Int), idx, act, (o : Int), oth, code, val⟩ (7) (0) _ Hn70.out).mono ?_
  rintro r4 w4 ⟨rfl, hb4⟩
  have HF4 := Lib.hid (HF3.out.below hb4)
  clear HF3 c0 c1 b0 b1 b2 b3 b4 b5 b6 b7 oc od
  obtain ⟨⟨c0, c1⟩, b0, b1, b2, b3, b4, b5, b6, b7⟩ := HF4.out.cells
  have oc := (HF4.out.sp.ob HB.out).1
  have od := (HF4.out.sp.ob HB.out).2
  clear hb4
  go_wp2_with fail
  refine (is_no ⟨kind, (t : Int), idx, act, (o : Int), oth, code, val⟩ (2) (0) _ Hn20.out).mono ?_
  rintro r5 w5 ⟨rfl, hb5⟩
  have HF5 := Lib.hid (HF4.out.below hb5)
  clear HF4 c0 c1 b0 b1 b2 b3 b4 b5 b6 b7 oc od
  obtain ⟨⟨c0, c1⟩, b0, b1, b2, b3, b4, b5, b6, b7⟩ := HF5.out.cells
  have oc := (HF5.out.sp.ob HB.out).1
  have od := (HF5.out.sp.ob HB.out).2
  clear hb5
  go_wp2_with fail
  go_ret
  exact HandPost.no HF5.out.sp HF5.out.kp
end Go.Proofs.Ytcgljmeppmdihaa
