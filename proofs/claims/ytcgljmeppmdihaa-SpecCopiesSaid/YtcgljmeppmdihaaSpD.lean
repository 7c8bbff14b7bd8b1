/- Package spec: enter, exit (written by tools/gen_sp.py). -/
import Derived.Test.YtcgljmeppmdihaaSpC
namespace Go.Proofs.Ytcgljmeppmdihaa
open Go.ChangeShapes Go.WideShapes Go.ChangeAt Go.RowKit
set_option linter.unusedVariables false
set_option maxRecDepth 100000
set_option linter.unusedSimpArgs false
set_option maxHeartbeats 4000000 in
theorem enter_1 {w : World} {A : Nat → Prop} {p : Pl} {s : SS} (h : SpecAt w A p s) {t o : Nat} {x : Th} {b : Ob} (hx : s.T[t]? = some x) (hb : s.O[o]? = some b) (kind idx act oth code val : Int) (h1 : act = 0) (h2 : oth = 0) (ho : b.own = (t : Int)) :
    Calls Try.prog 46 #[spV p, evV ⟨kind, (t : Int), idx, act, (o : Int), oth, code, val⟩] w (HandPost w A p s (some (endS (s.setO o { b with own := (t : Int), dep := wrap64 (b.dep + 1) }) t 0 0))) := by
  have H := Lib.hid h
  have HX := Lib.hid hx
  have HB := Lib.hid hb
  have ix := idx_thrs p.T s.T.length p.cT t (thr_lt hx)
  have iy := idx_objs p.O s.O.length p.cO o (obj_lt hb)
  have Hh1 := Lib.hid h1
  have Hh2 := Lib.hid h2
  have Hho := Lib.hid ho
  have HF0 := Lib.hid (Fr.boxed h ⟨kind, (t : Int), idx, act, (o : Int), oth, code, val⟩)
  clear h hx hb h1 h2 ho
  go_enter Try.func46, Try.ntmps46
  go_upto_region 1 with fail
  generalize hW : w.alloc _ = W at HF0 ⊢
  obtain ⟨bx, hbx⟩ : ∃ bx, bx = w.heap.size := ⟨_, rfl⟩
  rw [← hbx] at HF0 ⊢
  clear hbx hW
  obtain ⟨⟨c0, c1⟩, b0, b1, b2, b3, b4, b5, b6, b7⟩ := HF0.out.cells
  have oc := (HF0.out.sp.ob HB.out).1
  rw [Hho.out] at oc
  have od := (HF0.out.sp.ob HB.out).2
  go_quiet (fail)
  go_upto_region 2 with fail
  go_quiet (fail)
  generalize hq : World.drewN _ _ = W2
  have HF1 := Lib.hid (show Fr w W2 A p s bx _ from by rw [← hq]; exact ((HF0.out.drewN _).drewN _))
  clear HF0 c0 c1 b0 b1 b2 b3 b4 b5 b6 b7 oc od
  obtain ⟨⟨c0, c1⟩, b0, b1, b2, b3, b4, b5, b6, b7⟩ := HF1.out.cells
  have oc := (HF1.out.sp.ob HB.out).1
  rw [Hho.out] at oc
  have od := (HF1.out.sp.ob HB.out).2
  clear hq
  go_wp2_with fail
  refine (is_yes ⟨kind, (t : Int), idx, act, (o : Int), oth, code, val⟩ (0) (0) _ Hh1.out Hh2.out).mono ?_
  rintro r2 w2 ⟨rfl, hb2⟩
  have HF2 := Lib.hid (HF1.out.below hb2)
  clear HF1 c0 c1 b0 b1 b2 b3 b4 b5 b6 b7 oc od
  obtain ⟨⟨c0, c1⟩, b0, b1, b2, b3, b4, b5, b6, b7⟩ := HF2.out.cells
  have oc := (HF2.out.sp.ob HB.out).1
  rw [Hho.out] at oc
  have od := (HF2.out.sp.ob HB.out).2
  clear hb2
  clear c0 c1 b0 b1 b2 b3 b4 b5 b6 b7 oc od
  obtain ⟨⟨c0, c1⟩, b0, b1, b2, b3, b4, b5, b6, b7⟩ := HF2.out.cells
  have oc := (HF2.out.sp.ob HB.out).1
  rw [Hho.out] at oc
  have od := (HF2.out.sp.ob HB.out).2
  have fo0 := HF2.out.sp.freeO (o * 3)
  have fo1 := HF2.out.sp.freeO (o * 3 + 1)
  have hOm := HF2.out.sp.mine.2.2
  have HO := Lib.hid (HF2.out.step (HF2.out.sp.own2 HB.out (t : Int) (wrap64 (b.dep + 1))) (((Keep.refl A _).set (fun _ => hOm) _).set (fun _ => hOm) _))
  go_wp2_with fail
  refine (end_any (s := s.setO o { b with own := (t : Int), dep := wrap64 (b.dep + 1) }) HO.out.sp HX.out (0) (0)).mono ?_
  rintro r9 w9 ⟨rfl, hs9, hk9⟩
  go_wp2_with fail
  go_ret
  exact HandPost.yes hs9 (HO.out.kp.trans hk9)
set_option maxHeartbeats 4000000 in
theorem enter_2 {w : World} {A : Nat → Prop} {p : Pl} {s : SS} (h : SpecAt w A p s) {t o : Nat} {x : Th} {b : Ob} (hx : s.T[t]? = some x) (hb : s.O[o]? = some b) (kind idx act oth code val : Int) (h1 : act = 0) (h2 : oth = 0) (ho : b.own = -1) :
    Calls Try.prog 46 #[spV p, evV ⟨kind, (t : Int), idx, act, (o : Int), oth, code, val⟩] w (HandPost w A p s (some (endS (s.setO o { b with own := (t : Int), dep := wrap64 (b.dep + 1) }) t 0 0))) := by
  have H := Lib.hid h
  have HX := Lib.hid hx
  have HB := Lib.hid hb
  have ix := idx_thrs p.T s.T.length p.cT t (thr_lt hx)
  have iy := idx_objs p.O s.O.length p.cO o (obj_lt hb)
  have hne : ((-1 : Int) == (t : Int)) = false := beq_eq_false_iff_ne.2 (by omega)
  have Hh1 := Lib.hid h1
  have Hh2 := Lib.hid h2
  have Hho := Lib.hid ho
  have HF0 := Lib.hid (Fr.boxed h ⟨kind, (t : Int), idx, act, (o : Int), oth, code, val⟩)
  clear h hx hb h1 h2 ho
  go_enter Try.func46, Try.ntmps46
  go_upto_region 1 with fail
  generalize hW : w.alloc _ = W at HF0 ⊢
  obtain ⟨bx, hbx⟩ : ∃ bx, bx = w.heap.size := ⟨_, rfl⟩
  rw [← hbx] at HF0 ⊢
  clear hbx hW
  obtain ⟨⟨c0, c1⟩, b0, b1, b2, b3, b4, b5, b6, b7⟩ := HF0.out.cells
  have oc := (HF0.out.sp.ob HB.out).1
  rw [Hho.out] at oc
  have od := (HF0.out.sp.ob HB.out).2
  go_quiet (fail)
  go_upto_region 2 with fail
  go_quiet (fail)
  generalize hq : World.drewN _ _ = W2
  have HF1 := Lib.hid (show Fr w W2 A p s bx _ from by rw [← hq]; exact ((HF0.out.drewN _).drewN _))
  clear HF0 c0 c1 b0 b1 b2 b3 b4 b5 b6 b7 oc od
  obtain ⟨⟨c0, c1⟩, b0, b1, b2, b3, b4, b5, b6, b7⟩ := HF1.out.cells
  have oc := (HF1.out.sp.ob HB.out).1
  rw [Hho.out] at oc
  have od := (HF1.out.sp.ob HB.out).2
  clear hq
  go_wp2_with fail
  refine (is_yes ⟨kind, (t : Int), idx, act, (o : Int), oth, code, val⟩ (0) (0) _ Hh1.out Hh2.out).mono ?_
  rintro r2 w2 ⟨rfl, hb2⟩
  have HF2 := Lib.hid (HF1.out.below hb2)
  clear HF1 c0 c1 b0 b1 b2 b3 b4 b5 b6 b7 oc od
  obtain ⟨⟨c0, c1⟩, b0, b1, b2, b3, b4, b5, b6, b7⟩ := HF2.out.cells
  have oc := (HF2.out.sp.ob HB.out).1
  rw [Hho.out] at oc
  have od := (HF2.out.sp.ob HB.out).2
  clear hb2
  clear c0 c1 b0 b1 b2 b3 b4 b5 b6 b7 oc od
  obtain ⟨⟨c0, c1⟩, b0, b1, b2, b3, b4, b5, b6, b7⟩ := HF2.out.cells
  have oc := (HF2.out.sp.ob HB.out).1
  rw [Hho.out] at oc
  have od := (HF2.out.sp.ob HB.out).2
  have fo0 := HF2.out.sp.freeO (o * 3)
  have fo1 := HF2.out.sp.freeO (o * 3 + 1)
  have hOm := HF2.out.sp.mine.2.2
  have HO := Lib.hid (HF2.out.step (HF2.out.sp.own2 HB.out (t : Int) (wrap64 (b.dep + 1))) (((Keep.refl A _).set (fun _ => hOm) _).set (fun _ => hOm) _))
  go_wp2_with fail
  refine (end_any (s := s.setO o { b with own := (t : Int), dep := wrap64 (b.dep + 1) }) HO.out.sp HX.out (0) (0)).mono ?_
  rintro r9 w9 ⟨rfl, hs9, hk9⟩
  go_wp2_with fail
  go_ret
  exact HandPost.yes hs9 (HO.out.kp.trans hk9)
set_option maxHeartbeats 4000000 in
theorem enter_3 {w : World} {A : Nat → Prop} {p : Pl} {s : SS} (h : SpecAt w A p s) {t o : Nat} {x : Th} {b : Ob} (hx : s.T[t]? = some x) (hb : s.O[o]? = some b) (kind idx act oth code val : Int) (hn : ¬ (act = 0 ∧ oth = 0)) (h1 : act = 8) (h2 : oth = 5) (ho : b.own = (t : Int)) :
    Calls Try.prog 46 #[spV p, evV ⟨kind, (t : Int), idx, act, (o : Int), oth, code, val⟩] w (HandPost w A p s (some (endS s t oth 0))) := by
  have H := Lib.hid h
  have HX := Lib.hid hx
  have HB := Lib.hid hb
  have ix := idx_thrs p.T s.T.length p.cT t (thr_lt hx)
  have iy := idx_objs p.O s.O.length p.cO o (obj_lt hb)
  have Hhn := Lib.hid hn
  have Hh1 := Lib.hid h1
  have Hh2 := Lib.hid h2
  have Hho := Lib.hid ho
  have HF0 := Lib.hid (Fr.boxed h ⟨kind, (t : Int), idx, act, (o : Int), oth, code, val⟩)
  clear h hx hb hn h1 h2 ho
  go_enter Try.func46, Try.ntmps46
  go_upto_region 1 with fail
  generalize hW : w.alloc _ = W at HF0 ⊢
  obtain ⟨bx, hbx⟩ : ∃ bx, bx = w.heap.size := ⟨_, rfl⟩
  rw [← hbx] at HF0 ⊢
  clear hbx hW
  obtain ⟨⟨c0, c1⟩, b0, b1, b2, b3, b4, b5, b6, b7⟩ := HF0.out.cells
  have oc := (HF0.out.sp.ob HB.out).1
  rw [Hho.out] at oc
  have od := (HF0.out.sp.ob HB.out).2
  go_quiet (fail)
  go_upto_region 2 with fail
  go_quiet (fail)
  generalize hq : World.drewN _ _ = W2
  have HF1 := Lib.hid (show Fr w W2 A p s bx _ from by rw [← hq]; exact ((HF0.out.drewN _).drewN _))
  clear HF0 c0 c1 b0 b1 b2 b3 b4 b5 b6 b7 oc od
  obtain ⟨⟨c0, c1⟩, b0, b1, b2, b3, b4, b5, b6, b7⟩ := HF1.out.cells
  have oc := (HF1.out.sp.ob HB.out).1
  rw [Hho.out] at oc
  have od := (HF1.out.sp.ob HB.out).2
  clear hq
  go_wp2_with fail
  refine (is_no ⟨kind, (t : Int), idx, act, (o : Int), oth, code, val⟩ (0) (0) _ Hhn.out).mono ?_
  rintro r2 w2 ⟨rfl, hb2⟩
  have HF2 := Lib.hid (HF1.out.below hb2)
  clear HF1 c0 c1 b0 b1 b2 b3 b4 b5 b6 b7 oc od
  obtain ⟨⟨c0, c1⟩, b0, b1, b2, b3, b4, b5, b6, b7⟩ := HF2.out.cells
  have oc := (HF2.out.sp.ob HB.out).1
  rw [Hho.out] at oc
  have od := (HF2.out.sp.ob HB.out).2
  clear hb2
  go_wp2_with fail
  refine (refuses_yes ⟨kind, (t : Int), idx, act, (o : Int), oth, code, val⟩ (5) _ Hh1.out Hh2.out).mono ?_
  rintro r3 w3 ⟨rfl, hb3⟩
  have HF3 := Lib.hid (HF2.out.below hb3)
  clear HF2 c0 c1 b0 b1 b2 b3 b4 b5 b6 b7 oc od
  obtain ⟨⟨c0, c1⟩, b0, b1, b2, b3, b4, b5, b6, b7⟩ := HF3.out.cells
  have oc := (HF3.out.sp.ob HB.out).1
  rw [Hho.out] at oc
  have od := (HF3.out.sp.ob HB.out).2
  clear hb3
  go_wp2_with fail
  refine (refuse_any HF3.out.sp HX.out ⟨kind, (t : Int), idx, act, (o : Int), oth, code, val⟩).mono ?_
  rintro r9 w9 ⟨rfl, hs9, hk9⟩
  go_wp2_with fail
  go_ret
  exact HandPost.yes hs9 (HF3.out.kp.trans hk9)
set_option maxHeartbeats 4000000 in
theorem enter_4 {w : World} {A : Nat → Prop} {p : Pl} {s : SS} (h : SpecAt w A p s) {t o : Nat} {x : Th} {b : Ob} (hx : s.T[t]? = some x) (hb : s.O[o]? = some b) (kind idx act oth code val : Int) (hn : ¬ (act = 0 ∧ oth = 0)) (hn5 : ¬ (act = 8 ∧ oth = 5)) (h1 : act = 8) (h2 : oth = 3) :
    Calls Try.prog 46 #[spV p, evV ⟨kind, (t : Int), idx, act, (o : Int), oth, code, val⟩] w (HandPost w A p s (some (endS s t oth 0))) := by
  have H := Lib.hid h
  have HX := Lib.hid hx
  have HB := Lib.hid hb
  have ix := idx_thrs p.T s.T.length p.cT t (thr_lt hx)
  have iy := idx_objs p.O s.O.length p.cO o (obj_lt hb)
  have Hhn := Lib.hid hn
  have Hhn5 := Lib.hid hn5
  have Hh1 := Lib.hid h1
  have Hh2 := Lib.hid h2
  have HF0 := Lib.hid (Fr.boxed h ⟨kind, (t : Int), idx, act, (o : Int), oth, code, val⟩)
  clear h hx hb hn hn5 h1 h2
  go_enter Try.func46, Try.ntmps46
  go_upto_region 1 with fail
  generalize hW : w.alloc _ = W at HF0 ⊢
  obtain ⟨bx, hbx⟩ : ∃ bx, bx = w.heap.size := ⟨_, rfl⟩
  rw [← hbx] at HF0 ⊢
  clear hbx hW
  obtain ⟨⟨c0, c1⟩, b0, b1, b2, b3, b4, b5, b6, b7⟩ := HF0.out.cells
  have oc := (HF0.out.sp.ob HB.out).1
  have od := (HF0.out.sp.ob HB.out).2
  go_quiet (fail)
  go_upto_region 2 with fail
  go_quiet (fail)
  generalize hq : World.drewN _ _ = W2
  have HF1 := Lib.hid (show Fr w W2 A p s bx _ from by rw [← hq]; exact ((HF0.out.drewN _).drewN _))
  clear HF0 c0 c1 b0 b1 b2 b3 b4 b5 b6 b7 oc od
  obtain ⟨⟨c0, c1⟩, b0, b1, b2, b3, b4, b5, b6, b7⟩ := HF1.out.cells
  have oc := (HF1.out.sp.ob HB.out).1
  have od := (HF1.out.sp.ob HB.out).2
  clear hq
  go_wp2_with fail
  refine (is_no ⟨kind, (t : Int), idx, act, (o : Int), oth, code, val⟩ (0) (0) _ Hhn.out).mono ?_
  rintro r2 w2 ⟨rfl, hb2⟩
  have HF2 := Lib.hid (HF1.out.below hb2)
  clear HF1 c0 c1 b0 b1 b2 b3 b4 b5 b6 b7 oc od
  obtain ⟨⟨c0, c1⟩, b0, b1, b2, b3, b4, b5, b6, b7⟩ := HF2.out.cells
  have oc := (HF2.out.sp.ob HB.out).1
  have od := (HF2.out.sp.ob HB.out).2
  clear hb2
  go_wp2_with fail
  refine (refuses_no ⟨kind, (t : Int), idx, act, (o : Int), oth, code, val⟩ (5) _ Hhn5.out).mono ?_
  rintro r3 w3 ⟨rfl, hb3⟩
  have HF3 := Lib.hid (HF2.out.below hb3)
  clear HF2 c0 c1 b0 b1 b2 b3 b4 b5 b6 b7 oc od
  obtain ⟨⟨c0, c1⟩, b0, b1, b2, b3, b4, b5, b6, b7⟩ := HF3.out.cells
  have oc := (HF3.out.sp.ob HB.out).1
  have od := (HF3.out.sp.ob HB.out).2
  clear hb3
  go_wp2_with fail
  refine (refuses_yes ⟨kind, (t : Int), idx, act, (o : Int), oth, code, val⟩ (3) _ Hh1.out Hh2.out).mono ?_
  rintro r4 w4 ⟨rfl, hb4⟩
  have HF4 := Lib.hid (HF3.out.below hb4)
  clear HF3 c0 c1 b0 b1 b2 b3 b4 b5 b6 b7 oc od
  obtain ⟨⟨c0, c1⟩, b0, b1, b2, b3, b4, b5, b6, b7⟩ := HF4.out.cells
  have oc := (HF4.out.sp.ob HB.out).1
  have od := (HF4.out.sp.ob HB.out).2
  clear hb4
  go_wp2_with fail
  refine (refuse_any HF4.out.sp HX.out ⟨kind, (t : Int), idx, act, (o : Int), oth, code, val⟩).mono ?_
  rintro r9 w9 ⟨rfl, hs9, hk9⟩
  go_wp2_with fail
  go_ret
  exact HandPost.yes hs9 (HF4.out.kp.trans hk9)
set_option maxHeartbeats 4000000 in
theorem enter_5 {w : World} {A : Nat → Prop} {p : Pl} {s : SS} (h : SpecAt w A p s) {t o : Nat} {x : Th} {b : Ob} (hx : s.T[t]? = some x) (hb : s.O[o]? = some b) (kind idx act oth code val : Int) (h1 : act = 0) (h2 : oth = 0) (ho : b.own ≠ (t : Int)) (hm : b.own ≠ -1) :
    Calls Try.prog 46 #[spV p, evV ⟨kind, (t : Int), idx, act, (o : Int), oth, code, val⟩] w (HandPost w A p s none) := by
  have H := Lib.hid h
  have HX := Lib.hid hx
  have HB := Lib.hid hb
  have ix := idx_thrs p.T s.T.length p.cT t (thr_lt hx)
  have iy := idx_objs p.O s.O.length p.cO o (obj_lt hb)
  have hne : (b.own == (t : Int)) = false := beq_eq_false_iff_ne.2 ho
  have hne2 : (b.own == -1) = false := beq_eq_false_iff_ne.2 hm
  have Hh1 := Lib.hid h1
  have Hh2 := Lib.hid h2
  have Hho := Lib.hid ho
  have Hhm := Lib.hid hm
  have HF0 := Lib.hid (Fr.boxed h ⟨kind, (t : Int), idx, act, (o : Int), oth, code, val⟩)
  clear h hx hb h1 h2 ho hm
  go_enter Try.func46, Try.ntmps46
  go_upto_region 1 with fail
  generalize hW : w.alloc _ = W at HF0 ⊢
  obtain ⟨bx, hbx⟩ : ∃ bx, bx = w.heap.size := ⟨_, rfl⟩
  rw [← hbx] at HF0 ⊢
  clear hbx hW
  obtain ⟨⟨c0, c1⟩, b0, b1, b2, b3, b4, b5, b6, b7⟩ := HF0.out.cells
  have oc := (HF0.out.sp.ob HB.out).1
  have od := (HF0.out.sp.ob HB.out).2
  go_quiet (fail)
  go_upto_region 2 with fail
  go_quiet (fail)
  generalize hq : World.drewN _ _ = W2
  have HF1 := Lib.hid (show Fr w W2 A p s bx _ from by rw [← hq]; exact ((HF0.out.drewN _).drewN _))
  clear HF0 c0 c1 b0 b1 b2 b3 b4 b5 b6 b7 oc od
  obtain ⟨⟨c0, c1⟩, b0, b1, b2, b3, b4, b5, b6, b7⟩ := HF1.out.cells
  have oc := (HF1.out.sp.ob HB.out).1
  have od := (HF1.out.sp.ob HB.out).2
  clear hq
  go_wp2_with fail
  refine (is_yes ⟨kind, (t : Int), idx, act, (o : Int), oth, code, val⟩ (0) (0) _ Hh1.out Hh2.out).mono ?_
  rintro r2 w2 ⟨rfl, hb2⟩
  have HF2 := Lib.hid (HF1.out.below hb2)
  clear HF1 c0 c1 b0 b1 b2 b3 b4 b5 b6 b7 oc od
  obtain ⟨⟨c0, c1⟩, b0, b1, b2, b3, b4, b5, b6, b7⟩ := HF2.out.cells
  have oc := (HF2.out.sp.ob HB.out).1
  have od := (HF2.out.sp.ob HB.out).2
  clear hb2
  go_wp2_with fail
  refine (refuses_no ⟨kind, (t : Int), idx, act, (o : Int), oth, code, val⟩ (5) _ (by intro hh; dsimp only at hh; have h1 := Hh1.out; omega)).mono ?_
  rintro r3 w3 ⟨rfl, hb3⟩
  have HF3 := Lib.hid (HF2.out.below hb3)
  clear HF2 c0 c1 b0 b1 b2 b3 b4 b5 b6 b7 oc od
  obtain ⟨⟨c0, c1⟩, b0, b1, b2, b3, b4, b5, b6, b7⟩ := HF3.out.cells
  have oc := (HF3.out.sp.ob HB.out).1
  have od := (HF3.out.sp.ob HB.out).2
  clear hb3
  go_wp2_with fail
  refine (refuses_no ⟨kind, (t : Int), idx, act, (o : Int), oth, code, val⟩ (3) _ (by intro hh; dsimp only at hh; have h1 := Hh1.out; omega)).mono ?_
  rintro r4 w4 ⟨rfl, hb4⟩
  have HF4 := Lib.hid (HF3.out.below hb4)
  clear HF3 c0 c1 b0 b1 b2 b3 b4 b5 b6 b7 oc od
  obtain ⟨⟨c0, c1⟩, b0, b1, b2, b3, b4, b5, b6, b7⟩ := HF4.out.cells
  have oc := (HF4.out.sp.ob HB.out).1
  have od := (HF4.out.sp.ob HB.out).2
  clear hb4
  go_wp2_with fail
  go_ret
  exact HandPost.no HF4.out.sp HF4.out.kp
set_option maxHeartbeats 4000000 in
theorem enter_6 {w : World} {A : Nat → Prop} {p : Pl} {s : SS} (h : SpecAt w A p s) {t o : Nat} {x : Th} {b : Ob} (hx : s.T[t]? = some x) (hb : s.O[o]? = some b) (kind idx act oth code val : Int) (hn : ¬ (act = 0 ∧ oth = 0)) (h1 : act = 8) (h2 : oth = 5) (ho : b.own ≠ (t : Int)) :
    Calls Try.prog 46 #[spV p, evV ⟨kind, (t : Int), idx, act, (o : Int), oth, code, val⟩] w (HandPost w A p s none) := by
  have H := Lib.hid h
  have HX := Lib.hid hx
  have HB := Lib.hid hb
  have ix := idx_thrs p.T s.T.length p.cT t (thr_lt hx)
  have iy := idx_objs p.O s.O.length p.cO o (obj_lt hb)
  have hne : (b.own == (t : Int)) = false := beq_eq_false_iff_ne.2 ho
  have Hhn := Lib.hid hn
  have Hh1 := Lib.hid h1
  have Hh2 := Lib.hid h2
  have Hho := Lib.hid ho
  have HF0 := Lib.hid (Fr.boxed h ⟨kind, (t : Int), idx, act, (o : Int), oth, code, val⟩)
  clear h hx hb hn h1 h2 ho
  go_enter Try.func46, Try.ntmps46
  go_upto_region 1 with fail
  generalize hW : w.alloc _ = W at HF0 ⊢
  obtain ⟨bx, hbx⟩ : ∃ bx, bx = w.heap.size := ⟨_, rfl⟩
  rw [← hbx] at HF0 ⊢
  clear hbx hW
  obtain ⟨⟨c0, c1⟩, b0, b1, b2, b3, b4, b5, b6, b7⟩ := HF0.out.cells
  have oc := (HF0.out.sp.ob HB.out).1
  have od := (HF0.out.sp.ob HB.out).2
  go_quiet (fail)
  go_upto_region 2 with fail
  go_quiet (fail)
  generalize hq : World.drewN _ _ = W2
  have HF1 := Lib.hid (show Fr w W2 A p s bx _ from by rw [← hq]; exact ((HF0.out.drewN _).drewN _))
  clear HF0 c0 c1 b0 b1 b2 b3 b4 b5 b6 b7 oc od
  obtain ⟨⟨c0, c1⟩, b0, b1, b2, b3, b4, b5, b6, b7⟩ := HF1.out.cells
  have oc := (HF1.out.sp.ob HB.out).1
  have od := (HF1.out.sp.ob HB.out).2
  clear hq
  go_wp2_with fail
  refine (is_no ⟨kind, (t : Int), idx, act, (o : Int), oth, code, val⟩ (0) (0) _ Hhn.out).mono ?_
  rintro r2 w2 ⟨rfl, hb2⟩
  have HF2 := Lib.hid (HF1.out.below hb2)
  clear HF1 c0 c1 b0 b1 b2 b3 b4 b5 b6 b7 oc od
  obtain ⟨⟨c0, c1⟩, b0, b1, b2, b3, b4, b5, b6, b7⟩ := HF2.out.cells
  have oc := (HF2.out.sp.ob HB.out).1
  have od := (HF2.out.sp.ob HB.out).2
  clear hb2
  go_wp2_with fail
  refine (refuses_yes ⟨kind, (t : Int), idx, act, (o : Int), oth, code, val⟩ (5) _ Hh1.out Hh2.out).mono ?_
  rintro r3 w3 ⟨rfl, hb3⟩
  have HF3 := Lib.hid (HF2.out.below hb3)
  clear HF2 c0 c1 b0 b1 b2 b3 b4 b5 b6 b7 oc od
  obtain ⟨⟨c0, c1⟩, b0, b1, b2, b3, b4, b5, b6, b7⟩ := HF3.out.cells
  have oc := (HF3.out.sp.ob HB.out).1
  have od := (HF3.out.sp.ob HB.out).2
  clear hb3
  go_wp2_with fail
  refine (refuses_no ⟨kind, (t : Int), idx, act, (o : Int), oth, code, val⟩ (3) _ (by intro hh; dsimp only at hh; have h2 := Hh2.out; omega)).mono ?_
  rintro r4 w4 ⟨rfl, hb4⟩
  have HF4 := Lib.hid (HF3.out.below hb4)
  clear HF3 c0 c1 b0 b1 b2 b3 b4 b5 b6 b7 oc od
  obtain ⟨⟨c0, c1⟩, b0, b1, b2, b3, b4, b5, b6, b7⟩ := HF4.out.cells
  have oc := (HF4.out.sp.ob HB.out).1
  have od := (HF4.out.sp.ob HB.out).2
  clear hb4
  go_wp2_with fail
  go_ret
  exact HandPost.no HF4.out.sp HF4.out.kp
set_option maxHeartbeats 4000000 in
theorem enter_7 {w : World} {A : Nat → Prop} {p : Pl} {s : SS} (h : SpecAt w A p s) {t o : Nat} {x : Th} {b : Ob} (hx : s.T[t]? = some x) (hb : s.O[o]? = some b) (kind idx act oth code val : Int) (hn : ¬ (act = 0 ∧ oth = 0)) (hn5 : ¬ (act = 8 ∧ oth = 5)) (hn3 : ¬ (act = 8 ∧ oth = 3)) :
    Calls Try.prog 46 #[spV p, evV ⟨kind, (t : Int), idx, act, (o : Int), oth, code, val⟩] w (HandPost w A p s none) := by
  have H := Lib.hid h
  have HX := Lib.hid hx
  have HB := Lib.hid hb
  have ix := idx_thrs p.T s.T.length p.cT t (thr_lt hx)
  have iy := idx_objs p.O s.O.length p.cO o (obj_lt hb)
  have Hhn := Lib.hid hn
  have Hhn5 := Lib.hid hn5
  have Hhn3 := Lib.hid hn3
  have HF0 := Lib.hid (Fr.boxed h ⟨kind, (t : Int), idx, act, (o : Int), oth, code, val⟩)
  clear h hx hb hn hn5 hn3
  go_enter Try.func46, Try.ntmps46
  go_upto_region 1 with fail
  generalize hW : w.alloc _ = W at HF0 ⊢
  obtain ⟨bx, hbx⟩ : ∃ bx, bx = w.heap.size := ⟨_, rfl⟩
  rw [← hbx] at HF0 ⊢
  clear hbx hW
  obtain ⟨⟨c0, c1⟩, b0, b1, b2, b3, b4, b5, b6, b7⟩ := HF0.out.cells
  have oc := (HF0.out.sp.ob HB.out).1
  have od := (HF0.out.sp.ob HB.out).2
  go_quiet (fail)
  go_upto_region 2 with fail
  go_quiet (fail)
  generalize hq : World.drewN _ _ = W2
  have HF1 := Lib.hid (show Fr w W2 A p s bx _ from by rw [← hq]; exact ((HF0.out.drewN _).drewN _))
  clear HF0 c0 c1 b0 b1 b2 b3 b4 b5 b6 b7 oc od
  obtain ⟨⟨c0, c1⟩, b0, b1, b2, b3, b4, b5, b6, b7⟩ := HF1.out.cells
  have oc := (HF1.out.sp.ob HB.out).1
  have od := (HF1.out.sp.ob HB.out).2
  clear hq
  go_wp2_with fail
  refine (is_no ⟨kind, (t : Int), idx, act, (o : Int), oth, code, val⟩ (0) (0) _ Hhn.out).mono ?_
  rintro r2 w2 ⟨rfl, hb2⟩
  have HF2 := Lib.hid (HF1.out.below hb2)
  clear HF1 c0 c1 b0 b1 b2 b3 b4 b5 b6 b7 oc od
  obtain ⟨⟨c0, c1⟩, b0, b1, b2, b3, b4, b5, b6, b7⟩ := HF2.out.cells
  have oc := (HF2.out.sp.ob HB.out).1
  have od := (HF2.out.sp.ob HB.out).2
  clear hb2
  go_wp2_with fail
  refine (refuses_no ⟨kind, (t : Int), idx, act, (o : Int), oth, code, val⟩ (5) _ Hhn5.out).mono ?_
  rintro r3 w3 ⟨rfl, hb3⟩
  have HF3 := Lib.hid (HF2.out.below hb3)
  clear HF2 c0 c1 b0 b1 b2 b3 b4 b5 b6 b7 oc od
  obtain ⟨⟨c0, c1⟩, b0, b1, b2, b3, b4, b5, b6, b7⟩ := HF3.out.cells
  have oc := (HF3.out.sp.ob HB.out).1
  have od := (HF3.out.sp.ob HB.out).2
  clear hb3
  go_wp2_with fail
  refine (refuses_no ⟨kind, (t : Int), idx, act, (o : Int), oth, code, val⟩ (3) _ Hhn3.out).mono ?_
  rintro r4 w4 ⟨rfl, hb4⟩
  have HF4 := Lib.hid (HF3.out.below hb4)
  clear HF3 c0 c1 b0 b1 b2 b3 b4 b5 b6 b7 oc od
  obtain ⟨⟨c0, c1⟩, b0, b1, b2, b3, b4, b5, b6, b7⟩ := HF4.out.cells
  have oc := (HF4.out.sp.ob HB.out).1
  have od := (HF4.out.sp.ob HB.out).2
  clear hb4
  go_wp2_with fail
  go_ret
  exact HandPost.no HF4.out.sp HF4.out.kp
theorem enter_any {w : World} {A : Nat → Prop} {p : Pl} {s : SS} (h : SpecAt w A p s) {t o : Nat} {x : Th} {b : Ob} (hx : s.T[t]? = some x) (hb : s.O[o]? = some b) (kind idx act oth code val : Int) :
    Calls Try.prog 46 #[spV p, evV ⟨kind, (t : Int), idx, act, (o : Int), oth, code, val⟩] w (HandPost w A p s (enterS s t o b ⟨kind, (t : Int), idx, act, (o : Int), oth, code, val⟩)) := by
  unfold enterS
  dsimp only
  by_cases h1 : act = 0 ∧ oth = 0
  · by_cases ho : b.own = (t : Int)
    · rw [if_pos ⟨h1.1, h1.2, .inl ho⟩]
      exact enter_1 h hx hb kind idx act oth code val h1.1 h1.2 ho
    by_cases hm : b.own = -1
    · rw [if_pos ⟨h1.1, h1.2, .inr hm⟩]
      exact enter_2 h hx hb kind idx act oth code val h1.1 h1.2 hm
    rw [if_neg (fun k => by omega), if_neg (fun k => by omega)]
    exact enter_5 h hx hb kind idx act oth code val h1.1 h1.2 ho hm
  rw [if_neg (fun k => h1 ⟨k.1, k.2.1⟩)]
  by_cases h5 : act = 8 ∧ oth = 5
  · by_cases ho : b.own = (t : Int)
    · rw [if_pos ⟨h5.1, .inl ⟨h5.2, ho⟩⟩]
      exact enter_3 h hx hb kind idx act oth code val h1 h5.1 h5.2 ho
    rw [if_neg (fun k => by omega)]
    exact enter_6 h hx hb kind idx act oth code val h1 h5.1 h5.2 ho
  by_cases h3 : act = 8 ∧ oth = 3
  · rw [if_pos ⟨h3.1, .inr h3.2⟩]
    exact enter_4 h hx hb kind idx act oth code val h1 h5 h3.1 h3.2
  rw [if_neg (fun k => by omega)]
  exact enter_7 h hx hb kind idx act oth code val h1 h5 h3
set_option maxHeartbeats 4000000 in
theorem exit_1 {w : World} {A : Nat → Prop} {p : Pl} {s : SS} (h : SpecAt w A p s) {t o : Nat} {x : Th} {b : Ob} (hx : s.T[t]? = some x) (hb : s.O[o]? = some b) (kind idx act oth code val : Int) (h1 : act = 1) (h2 : oth = 0) (ho : b.own = (t : Int)) (hz : (wrap64 (b.dep - 1) == 0) = true) :
    Calls Try.prog 47 #[spV p, evV ⟨kind, (t : Int), idx, act, (o : Int), oth, code, val⟩] w (HandPost w A p s (some (endS (s.setO o { b with own := -1, dep := wrap64 (b.dep - 1) }) t 0 0))) := by
  have H := Lib.hid h
  have HX := Lib.hid hx
  have HB := Lib.hid hb
  have ix := idx_thrs p.T s.T.length p.cT t (thr_lt hx)
  have iy := idx_objs p.O s.O.length p.cO o (obj_lt hb)
  have Hh1 := Lib.hid h1
  have Hh2 := Lib.hid h2
  have Hho := Lib.hid ho
  have HF0 := Lib.hid (Fr.boxed h ⟨kind, (t : Int), idx, act, (o : Int), oth, code, val⟩)
  clear h hx hb h1 h2 ho
  go_enter Try.func47, Try.ntmps47
  go_upto_region 1 with fail
  generalize hW : w.alloc _ = W at HF0 ⊢
  obtain ⟨bx, hbx⟩ : ∃ bx, bx = w.heap.size := ⟨_, rfl⟩
  rw [← hbx] at HF0 ⊢
  clear hbx hW
  obtain ⟨⟨c0, c1⟩, b0, b1, b2, b3, b4, b5, b6, b7⟩ := HF0.out.cells
  have oc := (HF0.out.sp.ob HB.out).1
  rw [Hho.out] at oc
  have od := (HF0.out.sp.ob HB.out).2
  go_quiet (fail)
  go_upto_region 2 with fail
  go_quiet (fail)
  generalize hq : World.drewN _ _ = W2
  have HF1 := Lib.hid (show Fr w W2 A p s bx _ from by rw [← hq]; exact ((HF0.out.drewN _).drewN _))
  clear HF0 c0 c1 b0 b1 b2 b3 b4 b5 b6 b7 oc od
  obtain ⟨⟨c0, c1⟩, b0, b1, b2, b3, b4, b5, b6, b7⟩ := HF1.out.cells
  have oc := (HF1.out.sp.ob HB.out).1
  rw [Hho.out] at oc
  have od := (HF1.out.sp.ob HB.out).2
  clear hq
  go_wp2_with fail
  refine (is_yes ⟨kind, (t : Int), idx, act, (o : Int), oth, code, val⟩ (1) (0) _ Hh1.out Hh2.out).mono ?_
  rintro r2 w2 ⟨rfl, hb2⟩
  have HF2 := Lib.hid (HF1.out.below hb2)
  clear HF1 c0 c1 b0 b1 b2 b3 b4 b5 b6 b7 oc od
  obtain ⟨⟨c0, c1⟩, b0, b1, b2, b3, b4, b5, b6, b7⟩ := HF2.out.cells
  have oc := (HF2.out.sp.ob HB.out).1
  rw [Hho.out] at oc
  have od := (HF2.out.sp.ob HB.out).2
  clear hb2
  clear c0 c1 b0 b1 b2 b3 b4 b5 b6 b7 oc od
  obtain ⟨⟨c0, c1⟩, b0, b1, b2, b3, b4, b5, b6, b7⟩ := HF2.out.cells
  have oc := (HF2.out.sp.ob HB.out).1
  rw [Hho.out] at oc
  have od := (HF2.out.sp.ob HB.out).2
  have fo0 := HF2.out.sp.freeO (o * 3)
  have fo1 := HF2.out.sp.freeO (o * 3 + 1)
  have hOm := HF2.out.sp.mine.2.2
  have HO := Lib.hid (HF2.out.step (HF2.out.sp.own2r HB.out (-1) (wrap64 (b.dep - 1))) (((Keep.refl A _).set (fun _ => hOm) _).set (fun _ => hOm) _))
  go_wp2_with fail
  refine (end_any (s := s.setO o { b with own := -1, dep := wrap64 (b.dep - 1) }) HO.out.sp HX.out (0) (0)).mono ?_
  rintro r9 w9 ⟨rfl, hs9, hk9⟩
  go_wp2_with fail
  go_ret
  exact HandPost.yes hs9 (HO.out.kp.trans hk9)
set_option maxHeartbeats 4000000 in
theorem exit_2 {w : World} {A : Nat → Prop} {p : Pl} {s : SS} (h : SpecAt w A p s) {t o : Nat} {x : Th} {b : Ob} (hx : s.T[t]? = some x) (hb : s.O[o]? = some b) (kind idx act oth code val : Int) (h1 : act = 1) (h2 : oth = 0) (ho : b.own = (t : Int)) (hz : (wrap64 (b.dep - 1) == 0) = false) :
    Calls Try.prog 47 #[spV p, evV ⟨kind, (t : Int), idx, act, (o : Int), oth, code, val⟩] w (HandPost w A p s (some (endS (s.setO o { b with own := (t : Int), dep := wrap64 (b.dep - 1) }) t 0 0))) := by
  have H := Lib.hid h
  have HX := Lib.hid hx
  have HB := Lib.hid hb
  have ix := idx_thrs p.T s.T.length p.cT t (thr_lt hx)
  have iy := idx_objs p.O s.O.length p.cO o (obj_lt hb)
  have Hh1 := Lib.hid h1
  have Hh2 := Lib.hid h2
  have Hho := Lib.hid ho
  have HF0 := Lib.hid (Fr.boxed h ⟨kind, (t : Int), idx, act, (o : Int), oth, code, val⟩)
  clear h hx hb h1 h2 ho
  go_enter Try.func47, Try.ntmps47
  go_upto_region 1 with fail
  generalize hW : w.alloc _ = W at HF0 ⊢
  obtain ⟨bx, hbx⟩ : ∃ bx, bx = w.heap.size := ⟨_, rfl⟩
  rw [← hbx] at HF0 ⊢
  clear hbx hW
  obtain ⟨⟨c0, c1⟩, b0, b1, b2, b3, b4, b5, b6, b7⟩ := HF0.out.cells
  have oc := (HF0.out.sp.ob HB.out).1
  rw [Hho.out] at oc
  have od := (HF0.out.sp.ob HB.out).2
  go_quiet (fail)
  go_upto_region 2 with fail
  go_quiet (fail)
  generalize hq : World.drewN _ _ = W2
  have HF1 := Lib.hid (show Fr w W2 A p s bx _ from by rw [← hq]; exact ((HF0.out.drewN _).drewN _))
  clear HF0 c0 c1 b0 b1 b2 b3 b4 b5 b6 b7 oc od
  obtain ⟨⟨c0, c1⟩, b0, b1, b2, b3, b4, b5, b6, b7⟩ := HF1.out.cells
  have oc := (HF1.out.sp.ob HB.out).1
  rw [Hho.out] at oc
  have od := (HF1.out.sp.ob HB.out).2
  clear hq
  go_wp2_with fail
  refine (is_yes ⟨kind, (t : Int), idx, act, (o : Int), oth, code, val⟩ (1) (0) _ Hh1.out Hh2.out).mono ?_
  rintro r2 w2 ⟨rfl, hb2⟩
  have HF2 := Lib.hid (HF1.out.below hb2)
  clear HF1 c0 c1 b0 b1 b2 b3 b4 b5 b6 b7 oc od
  obtain ⟨⟨c0, c1⟩, b0, b1, b2, b3, b4, b5, b6, b7⟩ := HF2.out.cells
  have oc := (HF2.out.sp.ob HB.out).1
  rw [Hho.out] at oc
  have od := (HF2.out.sp.ob HB.out).2
  clear hb2
  clear c0 c1 b0 b1 b2 b3 b4 b5 b6 b7 oc od
  obtain ⟨⟨c0, c1⟩, b0, b1, b2, b3, b4, b5, b6, b7⟩ := HF2.out.cells
  have oc := (HF2.out.sp.ob HB.out).1
  rw [Hho.out] at oc
  have od := (HF2.out.sp.ob HB.out).2
  have fo0 := HF2.out.sp.freeO (o * 3)
  have fo1 := HF2.out.sp.freeO (o * 3 + 1)
  have hOm := HF2.out.sp.mine.2.2
  have HO := Lib.hid (HF2.out.step (HF2.out.sp.own1 HB.out (wrap64 (b.dep - 1)) Hho.out) ((Keep.refl A _).set (fun _ => hOm) _))
  go_wp2_with fail
  refine (end_any (s := s.setO o { b with own := (t : Int), dep := wrap64 (b.dep - 1) }) HO.out.sp HX.out (0) (0)).mono ?_
  rintro r9 w9 ⟨rfl, hs9, hk9⟩
  go_wp2_with fail
  go_ret
  exact HandPost.yes hs9 (HO.out.kp.trans hk9)
set_option maxHeartbeats 4000000 in
theorem exit_3 {w : World} {A : Nat → Prop} {p : Pl} {s : SS} (h : SpecAt w A p s) {t o : Nat} {x : Th} {b : Ob} (hx : s.T[t]? = some x) (hb : s.O[o]? = some b) (kind idx act oth code val : Int) (h1 : act = 8) (h2 : oth = 4) (ho : b.own ≠ (t : Int)) :
    Calls Try.prog 47 #[spV p, evV ⟨kind, (t : Int), idx, act, (o : Int), oth, code, val⟩] w (HandPost w A p s (some (endS s t oth 0))) := by
  have H := Lib.hid h
  have HX := Lib.hid hx
  have HB := Lib.hid hb
  have ix := idx_thrs p.T s.T.length p.cT t (thr_lt hx)
  have iy := idx_objs p.O s.O.length p.cO o (obj_lt hb)
  have hne : (b.own == (t : Int)) = false := beq_eq_false_iff_ne.2 ho
  have Hh1 := Lib.hid h1
  have Hh2 := Lib.hid h2
  have Hho := Lib.hid ho
  have HF0 := Lib.hid (Fr.boxed h ⟨kind, (t : Int), idx, act, (o : Int), oth, code, val⟩)
  clear h hx hb h1 h2 ho
  go_enter Try.func47, Try.ntmps47
  go_upto_region 1 with fail
  generalize hW : w.alloc _ = W at HF0 ⊢
  obtain ⟨bx, hbx⟩ : ∃ bx, bx = w.heap.size := ⟨_, rfl⟩
  rw [← hbx] at HF0 ⊢
  clear hbx hW
  obtain ⟨⟨c0, c1⟩, b0, b1, b2, b3, b4, b5, b6, b7⟩ := HF0.out.cells
  have oc := (HF0.out.sp.ob HB.out).1
  have od := (HF0.out.sp.ob HB.out).2
  go_quiet (fail)
  go_upto_region 2 with fail
  go_quiet (fail)
  generalize hq : World.drewN _ _ = W2
  have HF1 := Lib.hid (show Fr w W2 A p s bx _ from by rw [← hq]; exact ((HF0.out.drewN _).drewN _))
  clear HF0 c0 c1 b0 b1 b2 b3 b4 b5 b6 b7 oc od
  obtain ⟨⟨c0, c1⟩, b0, b1, b2, b3, b4, b5, b6, b7⟩ := HF1.out.cells
  have oc := (HF1.out.sp.ob HB.out).1
  have od := (HF1.out.sp.ob HB.out).2
  clear hq
  go_wp2_with fail
  refine (is_no ⟨kind, (t : Int), idx, act, (o : Int), oth, code, val⟩ (1) (0) _ (by intro hh; dsimp only at hh; have h1 := Hh1.out; omega)).mono ?_
  rintro r2 w2 ⟨rfl, hb2⟩
  have HF2 := Lib.hid (HF1.out.below hb2)
  clear HF1 c0 c1 b0 b1 b2 b3 b4 b5 b6 b7 oc od
  obtain ⟨⟨c0, c1⟩, b0, b1, b2, b3, b4, b5, b6, b7⟩ := HF2.out.cells
  have oc := (HF2.out.sp.ob HB.out).1
  have od := (HF2.out.sp.ob HB.out).2
  clear hb2
  go_wp2_with fail
  refine (refuses_yes ⟨kind, (t : Int), idx, act, (o : Int), oth, code, val⟩ (4) _ Hh1.out Hh2.out).mono ?_
  rintro r3 w3 ⟨rfl, hb3⟩
  have HF3 := Lib.hid (HF2.out.below hb3)
  clear HF2 c0 c1 b0 b1 b2 b3 b4 b5 b6 b7 oc od
  obtain ⟨⟨c0, c1⟩, b0, b1, b2, b3, b4, b5, b6, b7⟩ := HF3.out.cells
  have oc := (HF3.out.sp.ob HB.out).1
  have od := (HF3.out.sp.ob HB.out).2
  clear hb3
  go_wp2_with fail
  refine (refuse_any HF3.out.sp HX.out ⟨kind, (t : Int), idx, act, (o : Int), oth, code, val⟩).mono ?_
  rintro r9 w9 ⟨rfl, hs9, hk9⟩
  go_wp2_with fail
  go_ret
  exact HandPost.yes hs9 (HF3.out.kp.trans hk9)
set_option maxHeartbeats 4000000 in
theorem exit_4 {w : World} {A : Nat → Prop} {p : Pl} {s : SS} (h : SpecAt w A p s) {t o : Nat} {x : Th} {b : Ob} (hx : s.T[t]? = some x) (hb : s.O[o]? = some b) (kind idx act oth code val : Int) (h1 : act = 1) (h2 : oth = 0) (ho : b.own ≠ (t : Int)) :
    Calls Try.prog 47 #[spV p, evV ⟨kind, (t : Int), idx, act, (o : Int), oth, code, val⟩] w (HandPost w A p s none) := by
  have H := Lib.hid h
  have HX := Lib.hid hx
  have HB := Lib.hid hb
  have ix := idx_thrs p.T s.T.length p.cT t (thr_lt hx)
  have iy := idx_objs p.O s.O.length p.cO o (obj_lt hb)
  have hne : (b.own == (t : Int)) = false := beq_eq_false_iff_ne.2 ho
  have Hh1 := Lib.hid h1
  have Hh2 := Lib.hid h2
  have Hho := Lib.hid ho
  have HF0 := Lib.hid (Fr.boxed h ⟨kind, (t : Int), idx, act, (o : Int), oth, code, val⟩)
  clear h hx hb h1 h2 ho
  go_enter Try.func47, Try.ntmps47
  go_upto_region 1 with fail
  generalize hW : w.alloc _ = W at HF0 ⊢
  obtain ⟨bx, hbx⟩ : ∃ bx, bx = w.heap.size := ⟨_, rfl⟩
  rw [← hbx] at HF0 ⊢
  clear hbx hW
  obtain ⟨⟨c0, c1⟩, b0, b1, b2, b3, b4, b5, b6, b7⟩ := HF0.out.cells
  have oc := (HF0.out.sp.ob HB.out).1
  have od := (HF0.out.sp.ob HB.out).2
  go_quiet (fail)
  go_upto_region 2 with fail
  go_quiet (fail)
  generalize hq : World.drewN _ _ = W2
  have HF1 := Lib.hid (show Fr w W2 A p s bx _ from by rw [← hq]; exact ((HF0.out.drewN _).drewN _))
  clear HF0 c0 c1 b0 b1 b2 b3 b4 b5 b6 b7 oc od
  obtain ⟨⟨c0, c1⟩, b0, b1, b2, b3, b4, b5, b6, b7⟩ := HF1.out.cells
  have oc := (HF1.out.sp.ob HB.out).1
  have od := (HF1.out.sp.ob HB.out).2
  clear hq
  go_wp2_with fail
  refine (is_yes ⟨kind, (t : Int), idx, act, (o : Int), oth, code, val⟩ (1) (0) _ Hh1.out Hh2.out).mono ?_
  rintro r2 w2 ⟨rfl, hb2⟩
  have HF2 := Lib.hid (HF1.out.below hb2)
  clear HF1 c0 c1 b0 b1 b2 b3 b4 b5 b6 b7 oc od
  obtain ⟨⟨c0, c1⟩, b0, b1, b2, b3, b4, b5, b6, b7⟩ := HF2.out.cells
  have oc := (HF2.out.sp.ob HB.out).1
  have od := (HF2.out.sp.ob HB.out).2
  clear hb2
  go_wp2_with fail
  refine (refuses_no ⟨kind, (t : Int), idx, act, (o : Int), oth, code, val⟩ (4) _ (by intro hh; dsimp only at hh; have h1 := Hh1.out; omega)).mono ?_
  rintro r3 w3 ⟨rfl, hb3⟩
  have HF3 := Lib.hid (HF2.out.below hb3)
  clear HF2 c0 c1 b0 b1 b2 b3 b4 b5 b6 b7 oc od
  obtain ⟨⟨c0, c1⟩, b0, b1, b2, b3, b4, b5, b6, b7⟩ := HF3.out.cells
  have oc := (HF3.out.sp.ob HB.out).1
  have od := (HF3.out.sp.ob HB.out).2
  clear hb3
  go_wp2_with fail
  go_ret
  exact HandPost.no HF3.out.sp HF3.out.kp
set_option maxHeartbeats 4000000 in
theorem exit_5 {w : World} {A : Nat → Prop} {p : Pl} {s : SS} (h : SpecAt w A p s) {t o : Nat} {x : Th} {b : Ob} (hx : s.T[t]? = some x) (hb : s.O[o]? = some b) (kind idx act oth code val : Int) (h1 : act = 8) (h2 : oth = 4) (ho : b.own = (t : Int)) :
    Calls Try.prog 47 #[spV p, evV ⟨kind, (t : Int), idx, act, (o : Int), oth, code, val⟩] w (HandPost w A p s none) := by
  have H := Lib.hid h
  have HX := Lib.hid hx
  have HB := Lib.hid hb
  have ix := idx_thrs p.T s.T.length p.cT t (thr_lt hx)
  have iy := idx_objs p.O s.O.length p.cO o (obj_lt hb)
  have Hh1 := Lib.hid h1
  have Hh2 := Lib.hid h2
  have Hho := Lib.hid ho
  have HF0 := Lib.hid (Fr.boxed h ⟨kind, (t : Int), idx, act, (o : Int), oth, code, val⟩)
  clear h hx hb h1 h2 ho
  go_enter Try.func47, Try.ntmps47
  go_upto_region 1 with fail
  generalize hW : w.alloc _ = W at HF0 ⊢
  obtain ⟨bx, hbx⟩ : ∃ bx, bx = w.heap.size := ⟨_, rfl⟩
  rw [← hbx] at HF0 ⊢
  clear hbx hW
  obtain ⟨⟨c0, c1⟩, b0, b1, b2, b3, b4, b5, b6, b7⟩ := HF0.out.cells
  have oc := (HF0.out.sp.ob HB.out).1
  rw [Hho.out] at oc
  have od := (HF0.out.sp.ob HB.out).2
  go_quiet (fail)
  go_upto_region 2 with fail
  go_quiet (fail)
  generalize hq : World.drewN _ _ = W2
  have HF1 := Lib.hid (show Fr w W2 A p s bx _ from by rw [← hq]; exact ((HF0.out.drewN _).drewN _))
  clear HF0 c0 c1 b0 b1 b2 b3 b4 b5 b6 b7 oc od
  obtain ⟨⟨c0, c1⟩, b0, b1, b2, b3, b4, b5, b6, b7⟩ := HF1.out.cells
  have oc := (HF1.out.sp.ob HB.out).1
  rw [Hho.out] at oc
  have od := (HF1.out.sp.ob HB.out).2
  clear hq
  go_wp2_with fail
  refine (is_no ⟨kind, (t : Int), idx, act, (o : Int), oth, code, val⟩ (1) (0) _ (by intro hh; dsimp only at hh; have h1 := Hh1.out; omega)).mono ?_
  rintro r2 w2 ⟨rfl, hb2⟩
  have HF2 := Lib.hid (HF1.out.below hb2)
  clear HF1 c0 c1 b0 b1 b2 b3 b4 b5 b6 b7 oc od
  obtain ⟨⟨c0, c1⟩, b0, b1, b2, b3, b4, b5, b6, b7⟩ := HF2.out.cells
  have oc := (HF2.out.sp.ob HB.out).1
  rw [Hho.out] at oc
  have od := (HF2.out.sp.ob HB.out).2
  clear hb2
  go_wp2_with fail
  refine (refuses_yes ⟨kind, (t : Int), idx, act, (o : Int), oth, code, val⟩ (4) _ Hh1.out Hh2.out).mono ?_
  rintro r3 w3 ⟨rfl, hb3⟩
  have HF3 := Lib.hid (HF2.out.below hb3)
  clear HF2 c0 c1 b0 b1 b2 b3 b4 b5 b6 b7 oc od
  obtain ⟨⟨c0, c1⟩, b0, b1, b2, b3, b4, b5, b6, b7⟩ := HF3.out.cells
  have oc := (HF3.out.sp.ob HB.out).1
  rw [Hho.out] at oc
  have od := (HF3.out.sp.ob HB.out).2
  clear hb3
  go_wp2_with fail
  go_ret
  exact HandPost.no HF3.out.sp HF3.out.kp
set_option maxHeartbeats 4000000 in
theorem exit_6 {w : World} {A : Nat → Prop} {p : Pl} {s : SS} (h : SpecAt w A p s) {t o : Nat} {x : Th} {b : Ob} (hx : s.T[t]? = some x) (hb : s.O[o]? = some b) (kind idx act oth code val : Int) (hn : ¬ (act = 1 ∧ oth = 0)) (hn4 : ¬ (act = 8 ∧ oth = 4)) :
    Calls Try.prog 47 #[spV p, evV ⟨kind, (t : Int), idx, act, (o : Int), oth, code, val⟩] w (HandPost w A p s none) := by
  have H := Lib.hid h
  have HX := Lib.hid hx
  have HB := Lib.hid hb
  have ix := idx_thrs p.T s.T.length p.cT t (thr_lt hx)
  have iy := idx_objs p.O s.O.length p.cO o (obj_lt hb)
  have Hhn := Lib.hid hn
  have Hhn4 := Lib.hid hn4
  have HF0 := Lib.hid (Fr.boxed h ⟨kind, (t : Int), idx, act, (o : Int), oth, code, val⟩)
  clear h hx hb hn hn4
  go_enter Try.func47, Try.ntmps47
  go_upto_region 1 with fail
  generalize hW : w.alloc _ = W at HF0 ⊢
  obtain ⟨bx, hbx⟩ : ∃ bx, bx = w.heap.size := ⟨_, rfl⟩
  rw [← hbx] at HF0 ⊢
  clear hbx hW
  obtain ⟨⟨c0, c1⟩, b0, b1, b2, b3, b4, b5, b6, b7⟩ := HF0.out.cells
  have oc := (HF0.out.sp.ob HB.out).1
  have od := (HF0.out.sp.ob HB.out).2
  go_quiet (fail)
  go_upto_region 2 with fail
  go_quiet (fail)
  generalize hq : World.drewN _ _ = W2
  have HF1 := Lib.hid (show Fr w W2 A p s bx _ from by rw [← hq]; exact ((HF0.out.drewN _).drewN _))
  clear HF0 c0 c1 b0 b1 b2 b3 b4 b5 b6 b7 oc od
  obtain ⟨⟨c0, c1⟩, b0, b1, b2, b3, b4, b5, b6, b7⟩ := HF1.out.cells
  have oc := (HF1.out.sp.ob HB.out).1
  have od := (HF1.out.sp.ob HB.out).2
  clear hq
  go_wp2_with fail
  refine (is_no ⟨kind, (t : Int), idx, act, (o : Int), oth, code, val⟩ (1) (0) _ Hhn.out).mono ?_
  rintro r2 w2 ⟨rfl, hb2⟩
  have HF2 := Lib.hid (HF1.out.below hb2)
  clear HF1 c0 c1 b0 b1 b2 b3 b4 b5 b6 b7 oc od
  obtain ⟨⟨c0, c1⟩, b0, b1, b2, b3, b4, b5, b6, b7⟩ := HF2.out.cells
  have oc := (HF2.out.sp.ob HB.out).1
  have od := (HF2.out.sp.ob HB.out).2
  clear hb2
  go_wp2_with fail
  refine (refuses_no ⟨kind, (t : Int), idx, act, (o : Int), oth, code, val⟩ (4) _ Hhn4.out).mono ?_
  rintro r3 w3 ⟨rfl, hb3⟩
  have HF3 := Lib.hid (HF2.out.below hb3)
  clear HF2 c0 c1 b0 b1 b2 b3 b4 b5 b6 b7 oc od
  obtain ⟨⟨c0, c1⟩, b0, b1, b2, b3, b4, b5, b6, b7⟩ := HF3.out.cells
  have oc := (HF3.out.sp.ob HB.out).1
  have od := (HF3.out.sp.ob HB.out).2
  clear hb3
  go_wp2_with fail
  go_ret
  exact HandPost.no HF3.out.sp HF3.out.kp
theorem exit_any {w : World} {A : Nat → Prop} {p : Pl} {s : SS} (h : SpecAt w A p s) {t o : Nat} {x : Th} {b : Ob} (hx : s.T[t]? = some x) (hb : s.O[o]? = some b) (kind idx act oth code val : Int) :
    Calls Try.prog 47 #[spV p, evV ⟨kind, (t : Int), idx, act, (o : Int), oth, code, val⟩] w (HandPost w A p s (exitS s t o b ⟨kind, (t : Int), idx, act, (o : Int), oth, code, val⟩)) := by
  unfold exitS
  dsimp only
  by_cases h1 : act = 1 ∧ oth = 0
  · by_cases ho : b.own = (t : Int)
    · rw [if_pos ⟨h1.1, h1.2, ho⟩]
      by_cases hz : wrap64 (b.dep - 1) = 0
      · rw [if_pos hz]
        exact exit_1 h hx hb kind idx act oth code val h1.1 h1.2 ho (beq_iff_eq.2 hz)
      · rw [if_neg hz]
        exact exit_2 h hx hb kind idx act oth code val h1.1 h1.2 ho (beq_eq_false_iff_ne.2 hz)
    rw [if_neg (fun k => by omega), if_neg (fun k => by omega)]
    exact exit_4 h hx hb kind idx act oth code val h1.1 h1.2 ho
  rw [if_neg (fun k => h1 ⟨k.1, k.2.1⟩)]
  by_cases h4 : act = 8 ∧ oth = 4
  · by_cases ho : b.own = (t : Int)
    · rw [if_neg (fun k => by omega)]
      exact exit_5 h hx hb kind idx act oth code val h4.1 h4.2 ho
    rw [if_pos ⟨h4.1, h4.2, ho⟩]
    exact exit_3 h hx hb kind idx act oth code val h4.1 h4.2 ho
  rw [if_neg (fun k => by omega)]
  exact exit_6 h hx hb kind idx act oth code val h1 h4
end Go.Proofs.Ytcgljmeppmdihaa
