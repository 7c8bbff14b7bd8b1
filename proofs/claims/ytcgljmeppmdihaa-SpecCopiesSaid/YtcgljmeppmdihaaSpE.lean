/- Package spec: look, deflate, grant (written by tools/gen_sp.py). -/
import Derived.Test.YtcgljmeppmdihaaSpC
namespace Go.Proofs.Ytcgljmeppmdihaa
open Go.ChangeShapes Go.WideShapes Go.ChangeAt Go.RowKit
set_option linter.unusedVariables false
set_option maxRecDepth 100000
set_option linter.unusedSimpArgs false
set_option maxHeartbeats 4000000 in
theorem look_y1 {w : World} {A : Nat → Prop} {p : Pl} {s : SS} (h : SpecAt w A p s) {t o : Nat} {x : Th} {b : Ob} (hx : s.T[t]? = some x) (hb : s.O[o]? = some b) (kind idx act oth code val : Int) (h1 : act = 9) (h2 : oth = 1) (ho : b.own = (t : Int)) :
    Calls Try.prog 51 #[spV p, evV ⟨kind, (t : Int), idx, act, (o : Int), oth, code, val⟩] w (HandPost w A p s (some (endS s t 0 1))) := by
  have H := Lib.hid h
  have HX := Lib.hid hx
  have HB := Lib.hid hb
  have ix := idx_thrs p.T s.T.length p.cT t (thr_lt hx)
  have iy := idx_objs p.O s.O.length p.cO o (obj_lt hb)
  have Hh1 := Lib.hid h1
  have Hh2 := Lib.hid h2
  have Hho := Lib.hid ho
  have HF0 := Lib.hid (Fr.boxed h ⟨kind, (t : Int), idx, act, (o : Int), oth, code, val⟩)
  clear h hx hb h1 h2 ho
  go_enter Try.func51, Try.ntmps51
  go_upto_region 2 with fail
  generalize hW : w.alloc _ = W at HF0 ⊢
  obtain ⟨bx, hbx⟩ : ∃ bx, bx = w.heap.size := ⟨_, rfl⟩
  rw [← hbx] at HF0 ⊢
  clear hbx hW
  obtain ⟨⟨c0, c1⟩, b0, b1, b2, b3, b4, b5, b6, b7⟩ := HF0.out.cells
  have oc := (HF0.out.sp.ob HB.out).1
  rw [Hho.out] at oc
  go_quiet (fail)
  generalize hq : World.drewN _ _ = W2
  have HF1 := Lib.hid (show Fr w W2 A p s bx _ from by rw [← hq]; exact (HF0.out.drewN _))
  clear HF0 c0 c1 b0 b1 b2 b3 b4 b5 b6 b7 oc
  obtain ⟨⟨c0, c1⟩, b0, b1, b2, b3, b4, b5, b6, b7⟩ := HF1.out.cells
  have oc := (HF1.out.sp.ob HB.out).1
  rw [Hho.out] at oc
  clear hq
  go_wp2_with fail
  refine (is_yes ⟨kind, (t : Int), idx, act, (o : Int), oth, code, val⟩ (9) (1) _ Hh1.out Hh2.out).mono ?_
  rintro r2 w2 ⟨rfl, hb2⟩
  have HF2 := Lib.hid (HF1.out.below hb2)
  clear HF1 c0 c1 b0 b1 b2 b3 b4 b5 b6 b7 oc
  obtain ⟨⟨c0, c1⟩, b0, b1, b2, b3, b4, b5, b6, b7⟩ := HF2.out.cells
  have oc := (HF2.out.sp.ob HB.out).1
  rw [Hho.out] at oc
  clear hb2
  go_upto_region 6 with fail
  go_still_tail 9, (by kernel_rfl)
  change wpList _ _ _ _ _ w2.drew
  have HG := Lib.hid HF2.out.drew
  go_wp2_with fail
  refine (end_any HG.out.sp HX.out (0) (1)).mono ?_
  rintro r9 w9 ⟨rfl, hs9, hk9⟩
  go_wp2_with fail
  go_ret
  exact HandPost.yes hs9 (HG.out.kp.trans hk9)
set_option maxHeartbeats 4000000 in
theorem look_n1 {w : World} {A : Nat → Prop} {p : Pl} {s : SS} (h : SpecAt w A p s) {t o : Nat} {x : Th} {b : Ob} (hx : s.T[t]? = some x) (hb : s.O[o]? = some b) (kind idx act oth code val : Int) (hn : ¬ (act = 9 ∧ oth = 1)) (ho : b.own = (t : Int)) :
    Calls Try.prog 51 #[spV p, evV ⟨kind, (t : Int), idx, act, (o : Int), oth, code, val⟩] w (HandPost w A p s none) := by
  have H := Lib.hid h
  have HX := Lib.hid hx
  have HB := Lib.hid hb
  have ix := idx_thrs p.T s.T.length p.cT t (thr_lt hx)
  have iy := idx_objs p.O s.O.length p.cO o (obj_lt hb)
  have Hhn := Lib.hid hn
  have Hho := Lib.hid ho
  have HF0 := Lib.hid (Fr.boxed h ⟨kind, (t : Int), idx, act, (o : Int), oth, code, val⟩)
  clear h hx hb hn ho
  go_enter Try.func51, Try.ntmps51
  go_upto_region 2 with fail
  generalize hW : w.alloc _ = W at HF0 ⊢
  obtain ⟨bx, hbx⟩ : ∃ bx, bx = w.heap.size := ⟨_, rfl⟩
  rw [← hbx] at HF0 ⊢
  clear hbx hW
  obtain ⟨⟨c0, c1⟩, b0, b1, b2, b3, b4, b5, b6, b7⟩ := HF0.out.cells
  have oc := (HF0.out.sp.ob HB.out).1
  rw [Hho.out] at oc
  go_quiet (fail)
  generalize hq : World.drewN _ _ = W2
  have HF1 := Lib.hid (show Fr w W2 A p s bx _ from by rw [← hq]; exact (HF0.out.drewN _))
  clear HF0 c0 c1 b0 b1 b2 b3 b4 b5 b6 b7 oc
  obtain ⟨⟨c0, c1⟩, b0, b1, b2, b3, b4, b5, b6, b7⟩ := HF1.out.cells
  have oc := (HF1.out.sp.ob HB.out).1
  rw [Hho.out] at oc
  clear hq
  go_wp2_with fail
  refine (is_no ⟨kind, (t : Int), idx, act, (o : Int), oth, code, val⟩ (9) (1) _ Hhn.out).mono ?_
  rintro r2 w2 ⟨rfl, hb2⟩
  have HF2 := Lib.hid (HF1.out.below hb2)
  clear HF1 c0 c1 b0 b1 b2 b3 b4 b5 b6 b7 oc
  obtain ⟨⟨c0, c1⟩, b0, b1, b2, b3, b4, b5, b6, b7⟩ := HF2.out.cells
  have oc := (HF2.out.sp.ob HB.out).1
  rw [Hho.out] at oc
  clear hb2
  go_wp2_with fail
  go_ret
  exact HandPost.no HF2.out.sp HF2.out.kp
set_option maxHeartbeats 4000000 in
theorem look_y2 {w : World} {A : Nat → Prop} {p : Pl} {s : SS} (h : SpecAt w A p s) {t o : Nat} {x : Th} {b : Ob} (hx : s.T[t]? = some x) (hb : s.O[o]? = some b) (kind idx act oth code val : Int) (h1 : act = 9) (h2 : oth = 0) (ho : b.own ≠ (t : Int)) :
    Calls Try.prog 51 #[spV p, evV ⟨kind, (t : Int), idx, act, (o : Int), oth, code, val⟩] w (HandPost w A p s (some (endS s t 0 0))) := by
  have H := Lib.hid h
  have HX := Lib.hid hx
  have HB := Lib.hid hb
  have ix := idx_thrs p.T s.T.length p.cT t (thr_lt hx)
  have iy := idx_objs p.O s.O.length p.cO o (obj_lt hb)
  have hne : (b.own == (t : Int)) = false := beq_eq_false_iff_ne.2 ho
  have Hh1 := Lib.hid h1
  have Hh2 := Lib.hid h2
  have Hho := Lib.hid ho
  have HF0 := Lib.hid (Fr.boxed h ⟨kind, (t : Int), idx, act, (o : Int), oth, code, val⟩)
  clear h hx hb h1 h2 ho
  go_enter Try.func51, Try.ntmps51
  go_upto_region 2 with fail
  generalize hW : w.alloc _ = W at HF0 ⊢
  obtain ⟨bx, hbx⟩ : ∃ bx, bx = w.heap.size := ⟨_, rfl⟩
  rw [← hbx] at HF0 ⊢
  clear hbx hW
  obtain ⟨⟨c0, c1⟩, b0, b1, b2, b3, b4, b5, b6, b7⟩ := HF0.out.cells
  have oc := (HF0.out.sp.ob HB.out).1
  go_quiet (fail)
  generalize hq : World.drewN _ _ = W2
  have HF1 := Lib.hid (show Fr w W2 A p s bx _ from by rw [← hq]; exact (HF0.out.drewN _))
  clear HF0 c0 c1 b0 b1 b2 b3 b4 b5 b6 b7 oc
  obtain ⟨⟨c0, c1⟩, b0, b1, b2, b3, b4, b5, b6, b7⟩ := HF1.out.cells
  have oc := (HF1.out.sp.ob HB.out).1
  clear hq
  go_wp2_with fail
  refine (is_yes ⟨kind, (t : Int), idx, act, (o : Int), oth, code, val⟩ (9) (0) _ Hh1.out Hh2.out).mono ?_
  rintro r2 w2 ⟨rfl, hb2⟩
  have HF2 := Lib.hid (HF1.out.below hb2)
  clear HF1 c0 c1 b0 b1 b2 b3 b4 b5 b6 b7 oc
  obtain ⟨⟨c0, c1⟩, b0, b1, b2, b3, b4, b5, b6, b7⟩ := HF2.out.cells
  have oc := (HF2.out.sp.ob HB.out).1
  clear hb2
  go_upto_region 6 with fail
  go_still_tail 9, (by kernel_rfl)
  change wpList _ _ _ _ _ w2.drew
  have HG := Lib.hid HF2.out.drew
  go_wp2_with fail
  refine (end_any HG.out.sp HX.out (0) (0)).mono ?_
  rintro r9 w9 ⟨rfl, hs9, hk9⟩
  go_wp2_with fail
  go_ret
  exact HandPost.yes hs9 (HG.out.kp.trans hk9)
set_option maxHeartbeats 4000000 in
theorem look_n2 {w : World} {A : Nat → Prop} {p : Pl} {s : SS} (h : SpecAt w A p s) {t o : Nat} {x : Th} {b : Ob} (hx : s.T[t]? = some x) (hb : s.O[o]? = some b) (kind idx act oth code val : Int) (hn : ¬ (act = 9 ∧ oth = 0)) (ho : b.own ≠ (t : Int)) :
    Calls Try.prog 51 #[spV p, evV ⟨kind, (t : Int), idx, act, (o : Int), oth, code, val⟩] w (HandPost w A p s none) := by
  have H := Lib.hid h
  have HX := Lib.hid hx
  have HB := Lib.hid hb
  have ix := idx_thrs p.T s.T.length p.cT t (thr_lt hx)
  have iy := idx_objs p.O s.O.length p.cO o (obj_lt hb)
  have hne : (b.own == (t : Int)) = false := beq_eq_false_iff_ne.2 ho
  have Hhn := Lib.hid hn
  have Hho := Lib.hid ho
  have HF0 := Lib.hid (Fr.boxed h ⟨kind, (t : Int), idx, act, (o : Int), oth, code, val⟩)
  clear h hx hb hn ho
  go_enter Try.func51, Try.ntmps51
  go_upto_region 2 with fail
  generalize hW : w.alloc _ = W at HF0 ⊢
  obtain ⟨bx, hbx⟩ : ∃ bx, bx = w.heap.size := ⟨_, rfl⟩
  rw [← hbx] at HF0 ⊢
  clear hbx hW
  obtain ⟨⟨c0, c1⟩, b0, b1, b2, b3, b4, b5, b6, b7⟩ := HF0.out.cells
  have oc := (HF0.out.sp.ob HB.out).1
  go_quiet (fail)
  generalize hq : World.drewN _ _ = W2
  have HF1 := Lib.hid (show Fr w W2 A p s bx _ from by rw [← hq]; exact (HF0.out.drewN _))
  clear HF0 c0 c1 b0 b1 b2 b3 b4 b5 b6 b7 oc
  obtain ⟨⟨c0, c1⟩, b0, b1, b2, b3, b4, b5, b6, b7⟩ := HF1.out.cells
  have oc := (HF1.out.sp.ob HB.out).1
  clear hq
  go_wp2_with fail
  refine (is_no ⟨kind, (t : Int), idx, act, (o : Int), oth, code, val⟩ (9) (0) _ Hhn.out).mono ?_
  rintro r2 w2 ⟨rfl, hb2⟩
  have HF2 := Lib.hid (HF1.out.below hb2)
  clear HF1 c0 c1 b0 b1 b2 b3 b4 b5 b6 b7 oc
  obtain ⟨⟨c0, c1⟩, b0, b1, b2, b3, b4, b5, b6, b7⟩ := HF2.out.cells
  have oc := (HF2.out.sp.ob HB.out).1
  clear hb2
  go_wp2_with fail
  go_ret
  exact HandPost.no HF2.out.sp HF2.out.kp
theorem look_any {w : World} {A : Nat → Prop} {p : Pl} {s : SS} (h : SpecAt w A p s) {t o : Nat} {x : Th} {b : Ob} (hx : s.T[t]? = some x) (hb : s.O[o]? = some b) (kind idx act oth code val : Int) :
    Calls Try.prog 51 #[spV p, evV ⟨kind, (t : Int), idx, act, (o : Int), oth, code, val⟩] w (HandPost w A p s (lookS s t b ⟨kind, (t : Int), idx, act, (o : Int), oth, code, val⟩)) := by
  unfold lookS
  dsimp only
  by_cases ho : b.own = (t : Int)
  · rw [if_pos ho]
    by_cases h1 : act = 9 ∧ oth = 1
    · rw [if_pos h1]; exact look_y1 h hx hb kind idx act oth code val h1.1 h1.2 ho
    · rw [if_neg h1]; exact look_n1 h hx hb kind idx act oth code val h1 ho
  · rw [if_neg ho]
    by_cases h1 : act = 9 ∧ oth = 0
    · rw [if_pos h1]; exact look_y2 h hx hb kind idx act oth code val h1.1 h1.2 ho
    · rw [if_neg h1]; exact look_n2 h hx hb kind idx act oth code val h1 ho
set_option maxHeartbeats 4000000 in
theorem defl_1 {w : World} {A : Nat → Prop} {p : Pl} {s : SS} (h : SpecAt w A p s) {t o : Nat} {x : Th} {b : Ob} (hx : s.T[t]? = some x) (hb : s.O[o]? = some b) (kind idx act oth code val : Int) (h1 : act = 10) (h2 : oth = 0) :
    Calls Try.prog 52 #[spV p, evV ⟨kind, (t : Int), idx, act, (o : Int), oth, code, val⟩] w (HandPost w A p s (some (endS s t 0 0))) := by
  have H := Lib.hid h
  have HX := Lib.hid hx
  have HB := Lib.hid hb
  have ix := idx_thrs p.T s.T.length p.cT t (thr_lt hx)
  have iy := idx_objs p.O s.O.length p.cO o (obj_lt hb)
  have Hh1 := Lib.hid h1
  have Hh2 := Lib.hid h2
  have HF0 := Lib.hid (Fr.boxed h ⟨kind, (t : Int), idx, act, (o : Int), oth, code, val⟩)
  clear h hx hb h1 h2
  go_enter Try.func52, Try.ntmps52
  go_upto_region 1 with fail
  generalize hW : w.alloc _ = W at HF0 ⊢
  obtain ⟨bx, hbx⟩ : ∃ bx, bx = w.heap.size := ⟨_, rfl⟩
  rw [← hbx] at HF0 ⊢
  clear hbx hW
  obtain ⟨⟨c0, c1⟩, b0, b1, b2, b3, b4, b5, b6, b7⟩ := HF0.out.cells
  go_wp2_with fail
  refine (is_yes ⟨kind, (t : Int), idx, act, (o : Int), oth, code, val⟩ (10) (0) _ Hh1.out Hh2.out).mono ?_
  rintro r1 w1 ⟨rfl, hb1⟩
  have HF1 := Lib.hid (HF0.out.below hb1)
  clear HF0 c0 c1 b0 b1 b2 b3 b4 b5 b6 b7
  obtain ⟨⟨c0, c1⟩, b0, b1, b2, b3, b4, b5, b6, b7⟩ := HF1.out.cells
  clear hb1
  go_upto_region 3 with fail
  go_still_tail 8, (by kernel_rfl)
  change wpList _ _ _ _ _ w1.drew
  have HG := Lib.hid HF1.out.drew
  go_wp2_with fail
  refine (end_any HG.out.sp HX.out (0) (0)).mono ?_
  rintro r9 w9 ⟨rfl, hs9, hk9⟩
  go_wp2_with fail
  go_ret
  exact HandPost.yes hs9 (HG.out.kp.trans hk9)
set_option maxHeartbeats 4000000 in
theorem defl_2 {w : World} {A : Nat → Prop} {p : Pl} {s : SS} (h : SpecAt w A p s) {t o : Nat} {x : Th} {b : Ob} (hx : s.T[t]? = some x) (hb : s.O[o]? = some b) (kind idx act oth code val : Int) (hn : ¬ (act = 10 ∧ oth = 0)) :
    Calls Try.prog 52 #[spV p, evV ⟨kind, (t : Int), idx, act, (o : Int), oth, code, val⟩] w (HandPost w A p s none) := by
  have H := Lib.hid h
  have HX := Lib.hid hx
  have HB := Lib.hid hb
  have ix := idx_thrs p.T s.T.length p.cT t (thr_lt hx)
  have iy := idx_objs p.O s.O.length p.cO o (obj_lt hb)
  have Hhn := Lib.hid hn
  have HF0 := Lib.hid (Fr.boxed h ⟨kind, (t : Int), idx, act, (o : Int), oth, code, val⟩)
  clear h hx hb hn
  go_enter Try.func52, Try.ntmps52
  go_upto_region 1 with fail
  generalize hW : w.alloc _ = W at HF0 ⊢
  obtain ⟨bx, hbx⟩ : ∃ bx, bx = w.heap.size := ⟨_, rfl⟩
  rw [← hbx] at HF0 ⊢
  clear hbx hW
  obtain ⟨⟨c0, c1⟩, b0, b1, b2, b3, b4, b5, b6, b7⟩ := HF0.out.cells
  go_wp2_with fail
  refine (is_no ⟨kind, (t : Int), idx, act, (o : Int), oth, code, val⟩ (10) (0) _ Hhn.out).mono ?_
  rintro r1 w1 ⟨rfl, hb1⟩
  have HF1 := Lib.hid (HF0.out.below hb1)
  clear HF0 c0 c1 b0 b1 b2 b3 b4 b5 b6 b7
  obtain ⟨⟨c0, c1⟩, b0, b1, b2, b3, b4, b5, b6, b7⟩ := HF1.out.cells
  clear hb1
  go_wp2_with fail
  go_ret
  exact HandPost.no HF1.out.sp HF1.out.kp
theorem deflate_any {w : World} {A : Nat → Prop} {p : Pl} {s : SS} (h : SpecAt w A p s) {t o : Nat} {x : Th} {b : Ob} (hx : s.T[t]? = some x) (hb : s.O[o]? = some b) (kind idx act oth code val : Int) :
    Calls Try.prog 52 #[spV p, evV ⟨kind, (t : Int), idx, act, (o : Int), oth, code, val⟩] w (HandPost w A p s (deflateS s t ⟨kind, (t : Int), idx, act, (o : Int), oth, code, val⟩)) := by
  unfold deflateS
  dsimp only
  by_cases h1 : act = 10 ∧ oth = 0
  · rw [if_pos h1]; exact defl_1 h hx hb kind idx act oth code val h1.1 h1.2
  · rw [if_neg h1]; exact defl_2 h hx hb kind idx act oth code val h1
set_option maxHeartbeats 4000000 in
theorem grant_1 {w : World} {A : Nat → Prop} {p : Pl} {s : SS} (h : SpecAt w A p s) {t o : Nat} {x : Th} {b : Ob} (hx : s.T[t]? = some x) (hb : s.O[o]? = some b) (kind idx act oth code val : Int) (h1 : act = 5) (h2 : oth = 0) (ho : b.own = -1) :
    Calls Try.prog 71 #[spV p, evV ⟨kind, (t : Int), idx, act, (o : Int), oth, code, val⟩] w (HandPost w A p s (some (endS (s.setO o { b with own := (t : Int), dep := x.dep }) t x.code x.val))) := by
  have H := Lib.hid h
  have HX := Lib.hid hx
  have HB := Lib.hid hb
  have ix := idx_thrs p.T s.T.length p.cT t (thr_lt hx)
  have iy := idx_objs p.O s.O.length p.cO o (obj_lt hb)
  have Hh1 := Lib.hid h1
  have Hh2 := Lib.hid h2
  have Hho := Lib.hid ho
  have HF0 := Lib.hid (Fr.boxed h ⟨kind, (t : Int), idx, act, (o : Int), oth, code, val⟩)
  clear h hx hb h1 h2 ho
  go_enter Try.func71, Try.ntmps71
  go_upto_region 1 with fail
  generalize hW : w.alloc _ = W at HF0 ⊢
  obtain ⟨bx, hbx⟩ : ∃ bx, bx = w.heap.size := ⟨_, rfl⟩
  rw [← hbx] at HF0 ⊢
  clear hbx hW
  obtain ⟨⟨c0, c1⟩, b0, b1, b2, b3, b4, b5, b6, b7⟩ := HF0.out.cells
  have oc := (HF0.out.sp.ob HB.out).1
  rw [Hho.out] at oc
  have od := (HF0.out.sp.ob HB.out).2
  have xd := (HF0.out.sp.th HX.out).dep
  have xc := (HF0.out.sp.th HX.out).code
  have xv := (HF0.out.sp.th HX.out).val
  have fo0 := HF0.out.sp.freeO (o * 3)
  have fo1 := HF0.out.sp.freeO (o * 3 + 1)
  go_quiet (fail)
  generalize hq : World.drewN _ _ = W2
  have HF1 := Lib.hid (show Fr w W2 A p s bx _ from by rw [← hq]; exact (HF0.out.drewN _))
  clear HF0 c0 c1 b0 b1 b2 b3 b4 b5 b6 b7 oc od xd xc xv fo0 fo1
  obtain ⟨⟨c0, c1⟩, b0, b1, b2, b3, b4, b5, b6, b7⟩ := HF1.out.cells
  have oc := (HF1.out.sp.ob HB.out).1
  rw [Hho.out] at oc
  have od := (HF1.out.sp.ob HB.out).2
  have xd := (HF1.out.sp.th HX.out).dep
  have xc := (HF1.out.sp.th HX.out).code
  have xv := (HF1.out.sp.th HX.out).val
  have fo0 := HF1.out.sp.freeO (o * 3)
  have fo1 := HF1.out.sp.freeO (o * 3 + 1)
  clear hq
  go_wp2_with fail
  refine (is_yes ⟨kind, (t : Int), idx, act, (o : Int), oth, code, val⟩ (5) (0) _ Hh1.out Hh2.out).mono ?_
  rintro r2 w2 ⟨rfl, hb2⟩
  have HF2 := Lib.hid (HF1.out.below hb2)
  clear HF1 c0 c1 b0 b1 b2 b3 b4 b5 b6 b7 oc od xd xc xv fo0 fo1
  obtain ⟨⟨c0, c1⟩, b0, b1, b2, b3, b4, b5, b6, b7⟩ := HF2.out.cells
  have oc := (HF2.out.sp.ob HB.out).1
  rw [Hho.out] at oc
  have od := (HF2.out.sp.ob HB.out).2
  have xd := (HF2.out.sp.th HX.out).dep
  have xc := (HF2.out.sp.th HX.out).code
  have xv := (HF2.out.sp.th HX.out).val
  have fo0 := HF2.out.sp.freeO (o * 3)
  have fo1 := HF2.out.sp.freeO (o * 3 + 1)
  clear hb2
  have hOm := HF2.out.sp.mine.2.2
  go_upto_region 4 with fail
  go_region_with (fail)
  all_goals
    generalize hq : World.drew _ = Wt
    have HO := Lib.hid (show Fr w Wt A p (s.setO o { b with own := (t : Int), dep := x.dep }) bx _ from by rw [← hq]; exact (HF2.out.step (HF2.out.sp.own2 HB.out (t : Int) x.dep) (((Keep.refl A _).set (fun _ => hOm) _).set (fun _ => hOm) _)).drew)
    clear hq xc xv
    have xc := (HO.out.sp.th HX.out).code
    have xv := (HO.out.sp.th HX.out).val
    go_wp2_with fail
    refine (end_any (s := s.setO o { b with own := (t : Int), dep := x.dep }) HO.out.sp HX.out x.code x.val).mono ?_
    rintro r9 w9 ⟨rfl, hs9, hk9⟩
    go_wp2_with fail
    go_ret
    exact HandPost.yes hs9 (HO.out.kp.trans hk9)
set_option maxHeartbeats 4000000 in
theorem grant_2 {w : World} {A : Nat → Prop} {p : Pl} {s : SS} (h : SpecAt w A p s) {t o : Nat} {x : Th} {b : Ob} (hx : s.T[t]? = some x) (hb : s.O[o]? = some b) (kind idx act oth code val : Int) (h1 : act = 5) (h2 : oth = 0) (ho : b.own ≠ -1) :
    Calls Try.prog 71 #[spV p, evV ⟨kind, (t : Int), idx, act, (o : Int), oth, code, val⟩] w (HandPost w A p s none) := by
  have H := Lib.hid h
  have HX := Lib.hid hx
  have HB := Lib.hid hb
  have ix := idx_thrs p.T s.T.length p.cT t (thr_lt hx)
  have iy := idx_objs p.O s.O.length p.cO o (obj_lt hb)
  have hne : (b.own == -1) = false := beq_eq_false_iff_ne.2 ho
  have hne2 : (b.own != -1) = true := by rw [bne, hne]; rfl
  have Hh1 := Lib.hid h1
  have Hh2 := Lib.hid h2
  have Hho := Lib.hid ho
  have HF0 := Lib.hid (Fr.boxed h ⟨kind, (t : Int), idx, act, (o : Int), oth, code, val⟩)
  clear h hx hb h1 h2 ho
  go_enter Try.func71, Try.ntmps71
  go_upto_region 1 with fail
  generalize hW : w.alloc _ = W at HF0 ⊢
  obtain ⟨bx, hbx⟩ : ∃ bx, bx = w.heap.size := ⟨_, rfl⟩
  rw [← hbx] at HF0 ⊢
  clear hbx hW
  obtain ⟨⟨c0, c1⟩, b0, b1, b2, b3, b4, b5, b6, b7⟩ := HF0.out.cells
  have oc := (HF0.out.sp.ob HB.out).1
  go_quiet (fail)
  generalize hq : World.drewN _ _ = W2
  have HF1 := Lib.hid (show Fr w W2 A p s bx _ from by rw [← hq]; exact (HF0.out.drewN _))
  clear HF0 c0 c1 b0 b1 b2 b3 b4 b5 b6 b7 oc
  obtain ⟨⟨c0, c1⟩, b0, b1, b2, b3, b4, b5, b6, b7⟩ := HF1.out.cells
  have oc := (HF1.out.sp.ob HB.out).1
  clear hq
  go_wp2_with fail
  refine (is_yes ⟨kind, (t : Int), idx, act, (o : Int), oth, code, val⟩ (5) (0) _ Hh1.out Hh2.out).mono ?_
  rintro r2 w2 ⟨rfl, hb2⟩
  have HF2 := Lib.hid (HF1.out.below hb2)
  clear HF1 c0 c1 b0 b1 b2 b3 b4 b5 b6 b7 oc
  obtain ⟨⟨c0, c1⟩, b0, b1, b2, b3, b4, b5, b6, b7⟩ := HF2.out.cells
  have oc := (HF2.out.sp.ob HB.out).1
  clear hb2
  go_wp2_with fail
  go_ret
  exact HandPost.no HF2.out.sp HF2.out.kp
set_option maxHeartbeats 4000000 in
theorem grant_3 {w : World} {A : Nat → Prop} {p : Pl} {s : SS} (h : SpecAt w A p s) {t o : Nat} {x : Th} {b : Ob} (hx : s.T[t]? = some x) (hb : s.O[o]? = some b) (kind idx act oth code val : Int) (hn : ¬ (act = 5 ∧ oth = 0)) :
    Calls Try.prog 71 #[spV p, evV ⟨kind, (t : Int), idx, act, (o : Int), oth, code, val⟩] w (HandPost w A p s none) := by
  have H := Lib.hid h
  have HX := Lib.hid hx
  have HB := Lib.hid hb
  have ix := idx_thrs p.T s.T.length p.cT t (thr_lt hx)
  have iy := idx_objs p.O s.O.length p.cO o (obj_lt hb)
  have Hhn := Lib.hid hn
  have HF0 := Lib.hid (Fr.boxed h ⟨kind, (t : Int), idx, act, (o : Int), oth, code, val⟩)
  clear h hx hb hn
  go_enter Try.func71, Try.ntmps71
  go_upto_region 1 with fail
  generalize hW : w.alloc _ = W at HF0 ⊢
  obtain ⟨bx, hbx⟩ : ∃ bx, bx = w.heap.size := ⟨_, rfl⟩
  rw [← hbx] at HF0 ⊢
  clear hbx hW
  obtain ⟨⟨c0, c1⟩, b0, b1, b2, b3, b4, b5, b6, b7⟩ := HF0.out.cells
  have oc := (HF0.out.sp.ob HB.out).1
  go_quiet (fail)
  generalize hq : World.drewN _ _ = W2
  have HF1 := Lib.hid (show Fr w W2 A p s bx _ from by rw [← hq]; exact (HF0.out.drewN _))
  clear HF0 c0 c1 b0 b1 b2 b3 b4 b5 b6 b7 oc
  obtain ⟨⟨c0, c1⟩, b0, b1, b2, b3, b4, b5, b6, b7⟩ := HF1.out.cells
  have oc := (HF1.out.sp.ob HB.out).1
  clear hq
  go_wp2_with fail
  refine (is_no ⟨kind, (t : Int), idx, act, (o : Int), oth, code, val⟩ (5) (0) _ Hhn.out).mono ?_
  rintro r2 w2 ⟨rfl, hb2⟩
  have HF2 := Lib.hid (HF1.out.below hb2)
  clear HF1 c0 c1 b0 b1 b2 b3 b4 b5 b6 b7 oc
  obtain ⟨⟨c0, c1⟩, b0, b1, b2, b3, b4, b5, b6, b7⟩ := HF2.out.cells
  have oc := (HF2.out.sp.ob HB.out).1
  clear hb2
  go_wp2_with fail
  go_ret
  exact HandPost.no HF2.out.sp HF2.out.kp
theorem grant_any {w : World} {A : Nat → Prop} {p : Pl} {s : SS} (h : SpecAt w A p s) {t o : Nat} {x : Th} {b : Ob} (hx : s.T[t]? = some x) (hb : s.O[o]? = some b) (kind idx act oth code val : Int) :
    Calls Try.prog 71 #[spV p, evV ⟨kind, (t : Int), idx, act, (o : Int), oth, code, val⟩] w (HandPost w A p s (grantS s t x o b ⟨kind, (t : Int), idx, act, (o : Int), oth, code, val⟩)) := by
  unfold grantS
  dsimp only
  by_cases h1 : act = 5 ∧ oth = 0
  · by_cases ho : b.own = -1
    · rw [if_pos ⟨h1.1, h1.2, ho⟩]; exact grant_1 h hx hb kind idx act oth code val h1.1 h1.2 ho
    · rw [if_neg (fun k => ho k.2.2)]; exact grant_2 h hx hb kind idx act oth code val h1.1 h1.2 ho
  · rw [if_neg (fun k => h1 ⟨k.1, k.2.1⟩)]; exact grant_3 h hx hb kind idx act oth code val h1
end Go.Proofs.Ytcgljmeppmdihaa
