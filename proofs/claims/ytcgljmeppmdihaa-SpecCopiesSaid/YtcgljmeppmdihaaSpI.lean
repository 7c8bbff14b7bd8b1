/- Package spec: notify (written by tools/gen_sp.py). -/
import Derived.Test.YtcgljmeppmdihaaSpF
import Derived.Test.YtcgljmeppmdihaaSpG
namespace Go.Proofs.Ytcgljmeppmdihaa
open Go.ChangeShapes Go.WideShapes Go.ChangeAt Go.RowKit
set_option linter.unusedVariables false
set_option maxRecDepth 100000
set_option linter.unusedSimpArgs false
theorem longest_u {w : World} {A : Nat → Prop} {p : Pl} {s : SS} (h : SpecAt w A p s) (hwf : WF s) {o : Nat} {b : Ob} (hb : s.O[o]? = some b) {u : Int} (hu : longestS s b.line = u) :
    Calls Try.prog 73 #[spV p, .int .i64 (o : Int)] w fun r w' => r = .returned (.int .i64 u) ∧ Below w.heap.size w w' := by
  rw [← hu]
  exact longest_any h hwf hb
set_option maxHeartbeats 4000000 in
theorem noti_1 {w : World} {A : Nat → Prop} {p : Pl} {s : SS} (h : SpecAt w A p s) {t o : Nat} {x : Th} {b : Ob} (hx : s.T[t]? = some x) (hb : s.O[o]? = some b) (kind idx act oth code val : Int) (h1 : act = 8) (h2 : oth = 4) (ho : b.own ≠ (t : Int)) :
    Calls Try.prog 49 #[spV p, evV ⟨kind, (t : Int), idx, act, (o : Int), oth, code, val⟩] w (HandPost w A p s (some (endS s t oth 0))) := by
  have H := Lib.hid h
  have HX := Lib.hid hx
  have HB := Lib.hid hb
  have ix := idx_thrs p.T s.T.length p.cT t (thr_lt hx)
  have iy := idx_objs p.O s.O.length p.cO o (obj_lt hb)
  have hne : (b.own == (t : Int)) = false := beq_eq_false_iff_ne.2 ho
  have Hh1 := Lib.hid h1
  have Hh2 := Lib.hid h2
  have Hho := Lib.hid ho
  have HF0 := Lib.hid (Fr.boxed h ⟨kind, (t : Int), idx, act, (o : Int), oth, code, val⟩)
  clear h hx hb h1 h2 ho
  go_enter Try.func49, Try.ntmps49
  go_upto_region 1 with fail
  generalize hW : w.alloc _ = W at HF0 ⊢
  obtain ⟨bx, hbx⟩ : ∃ bx, bx = w.heap.size := ⟨_, rfl⟩
  rw [← hbx] at HF0 ⊢
  clear hbx hW
  obtain ⟨⟨c0, c1⟩, b0, b1, b2, b3, b4, b5, b6, b7⟩ := HF0.out.cells
  have oc := (HF0.out.sp.ob HB.out).1
  go_quiet (fail)
  go_upto_region 2 with fail
  go_quiet (fail)
  generalize hq : World.drewN _ _ = W2
  have HF1 := Lib.hid (show Fr w W2 A p s bx _ from by rw [← hq]; exact ((HF0.out.drewN _).drewN _))
  clear HF0 c0 c1 b0 b1 b2 b3 b4 b5 b6 b7 oc
  obtain ⟨⟨c0, c1⟩, b0, b1, b2, b3, b4, b5, b6, b7⟩ := HF1.out.cells
  have oc := (HF1.out.sp.ob HB.out).1
  clear hq
  go_wp2_with fail
  refine (refuses_yes ⟨kind, (t : Int), idx, act, (o : Int), oth, code, val⟩ (4) _ Hh1.out Hh2.out).mono ?_
  rintro r2 w2 ⟨rfl, hb2⟩
  have HF2 := Lib.hid (HF1.out.below hb2)
  clear HF1 c0 c1 b0 b1 b2 b3 b4 b5 b6 b7 oc
  obtain ⟨⟨c0, c1⟩, b0, b1, b2, b3, b4, b5, b6, b7⟩ := HF2.out.cells
  have oc := (HF2.out.sp.ob HB.out).1
  clear hb2
  go_wp2_with fail
  refine (refuse_any HF2.out.sp HX.out ⟨kind, (t : Int), idx, act, (o : Int), oth, code, val⟩).mono ?_
  rintro r9 w9 ⟨rfl, hs9, hk9⟩
  go_wp2_with fail
  go_ret
  exact HandPost.yes hs9 (HF2.out.kp.trans hk9)
set_option maxHeartbeats 4000000 in
theorem noti_2 {w : World} {A : Nat → Prop} {p : Pl} {s : SS} (h : SpecAt w A p s) {t o : Nat} {x : Th} {b : Ob} (hx : s.T[t]? = some x) (hb : s.O[o]? = some b) (kind idx act oth code val : Int) (u : Int) (hwf : WF s) (hu : longestS s b.line = u) (hn : ¬ (act = 8 ∧ oth = 4)) (ho : b.own ≠ (t : Int)) :
    Calls Try.prog 49 #[spV p, evV ⟨kind, (t : Int), idx, act, (o : Int), oth, code, val⟩] w (HandPost w A p s none) := by
  have H := Lib.hid h
  have HX := Lib.hid hx
  have HB := Lib.hid hb
  have ix := idx_thrs p.T s.T.length p.cT t (thr_lt hx)
  have iy := idx_objs p.O s.O.length p.cO o (obj_lt hb)
  have hne : (b.own == (t : Int)) = false := beq_eq_false_iff_ne.2 ho
  have Hhwf := Lib.hid hwf
  have Hhu := Lib.hid hu
  have Hhn := Lib.hid hn
  have Hho := Lib.hid ho
  have HF0 := Lib.hid (Fr.boxed h ⟨kind, (t : Int), idx, act, (o : Int), oth, code, val⟩)
  clear h hx hb hwf hu hn ho
  go_enter Try.func49, Try.ntmps49
  go_upto_region 1 with fail
  generalize hW : w.alloc _ = W at HF0 ⊢
  obtain ⟨bx, hbx⟩ : ∃ bx, bx = w.heap.size := ⟨_, rfl⟩
  rw [← hbx] at HF0 ⊢
  clear hbx hW
  obtain ⟨⟨c0, c1⟩, b0, b1, b2, b3, b4, b5, b6, b7⟩ := HF0.out.cells
  have oc := (HF0.out.sp.ob HB.out).1
  go_quiet (fail)
  go_upto_region 2 with fail
  go_quiet (fail)
  generalize hq : World.drewN _ _ = W2
  have HF1 := Lib.hid (show Fr w W2 A p s bx _ from by rw [← hq]; exact ((HF0.out.drewN _).drewN _))
  clear HF0 c0 c1 b0 b1 b2 b3 b4 b5 b6 b7 oc
  obtain ⟨⟨c0, c1⟩, b0, b1, b2, b3, b4, b5, b6, b7⟩ := HF1.out.cells
  have oc := (HF1.out.sp.ob HB.out).1
  clear hq
  go_wp2_with fail
  refine (refuses_no ⟨kind, (t : Int), idx, act, (o : Int), oth, code, val⟩ (4) _ Hhn.out).mono ?_
  rintro r2 w2 ⟨rfl, hb2⟩
  have HF2 := Lib.hid (HF1.out.below hb2)
  clear HF1 c0 c1 b0 b1 b2 b3 b4 b5 b6 b7 oc
  obtain ⟨⟨c0, c1⟩, b0, b1, b2, b3, b4, b5, b6, b7⟩ := HF2.out.cells
  have oc := (HF2.out.sp.ob HB.out).1
  clear hb2
  go_wp2_with fail
  refine (longest_u HF2.out.sp Hhwf.out HB.out Hhu.out).mono ?_
  rintro rl wl ⟨rfl, hbl⟩
  have HGl := Lib.hid (HF2.out.below hbl)
  clear hbl HF2 c0 c1 b0 b1 b2 b3 b4 b5 b6 b7 oc
  obtain ⟨⟨c0, c1⟩, b0, b1, b2, b3, b4, b5, b6, b7⟩ := HGl.out.cells
  go_wp2_with fail
  go_ret
  exact HandPost.no HGl.out.sp HGl.out.kp
set_option maxHeartbeats 4000000 in
theorem noti_3 {w : World} {A : Nat → Prop} {p : Pl} {s : SS} (h : SpecAt w A p s) {t o : Nat} {x : Th} {b : Ob} (hx : s.T[t]? = some x) (hb : s.O[o]? = some b) (kind idx act oth code val : Int) (u : Int) (hwf : WF s) (hu : longestS s b.line = u) (h1 : act = 8) (h2 : oth = 4) (ho : b.own = (t : Int)) :
    Calls Try.prog 49 #[spV p, evV ⟨kind, (t : Int), idx, act, (o : Int), oth, code, val⟩] w (HandPost w A p s none) := by
  have H := Lib.hid h
  have HX := Lib.hid hx
  have HB := Lib.hid hb
  have ix := idx_thrs p.T s.T.length p.cT t (thr_lt hx)
  have iy := idx_objs p.O s.O.length p.cO o (obj_lt hb)
  have Hhwf := Lib.hid hwf
  have Hhu := Lib.hid hu
  have Hh1 := Lib.hid h1
  have Hh2 := Lib.hid h2
  have Hho := Lib.hid ho
  have HF0 := Lib.hid (Fr.boxed h ⟨kind, (t : Int), idx, act, (o : Int), oth, code, val⟩)
  clear h hx hb hwf hu h1 h2 ho
  go_enter Try.func49, Try.ntmps49
  go_upto_region 1 with fail
  generalize hW : w.alloc _ = W at HF0 ⊢
  obtain ⟨bx, hbx⟩ : ∃ bx, bx = w.heap.size := ⟨_, rfl⟩
  rw [← hbx] at HF0 ⊢
  clear hbx hW
  obtain ⟨⟨c0, c1⟩, b0, b1, b2, b3, b4, b5, b6, b7⟩ := HF0.out.cells
  have oc := (HF0.out.sp.ob HB.out).1
  rw [Hho.out] at oc
  go_quiet (fail)
  go_upto_region 2 with fail
  go_quiet (fail)
  generalize hq : World.drewN _ _ = W2
  have HF1 := Lib.hid (show Fr w W2 A p s bx _ from by rw [← hq]; exact ((HF0.out.drewN _).drewN _))
  clear HF0 c0 c1 b0 b1 b2 b3 b4 b5 b6 b7 oc
  obtain ⟨⟨c0, c1⟩, b0, b1, b2, b3, b4, b5, b6, b7⟩ := HF1.out.cells
  have oc := (HF1.out.sp.ob HB.out).1
  rw [Hho.out] at oc
  clear hq
  go_wp2_with fail
  refine (refuses_yes ⟨kind, (t : Int), idx, act, (o : Int), oth, code, val⟩ (4) _ Hh1.out Hh2.out).mono ?_
  rintro r2 w2 ⟨rfl, hb2⟩
  have HF2 := Lib.hid (HF1.out.below hb2)
  clear HF1 c0 c1 b0 b1 b2 b3 b4 b5 b6 b7 oc
  obtain ⟨⟨c0, c1⟩, b0, b1, b2, b3, b4, b5, b6, b7⟩ := HF2.out.cells
  have oc := (HF2.out.sp.ob HB.out).1
  rw [Hho.out] at oc
  clear hb2
  go_wp2_with fail
  refine (longest_u HF2.out.sp Hhwf.out HB.out Hhu.out).mono ?_
  rintro rl wl ⟨rfl, hbl⟩
  have HGl := Lib.hid (HF2.out.below hbl)
  clear hbl HF2 c0 c1 b0 b1 b2 b3 b4 b5 b6 b7 oc
  obtain ⟨⟨c0, c1⟩, b0, b1, b2, b3, b4, b5, b6, b7⟩ := HGl.out.cells
  go_wp2_with fail
  refine (is_no ⟨kind, (t : Int), idx, act, (o : Int), oth, code, val⟩ (3) (u) _ (by intro hh; dsimp only at hh; have h1 := Hh1.out; omega)).mono ?_
  rintro ri wi ⟨rfl, hbi⟩
  have HGi := Lib.hid (HGl.out.below hbi)
  clear hbi HGl c0 c1 b0 b1 b2 b3 b4 b5 b6 b7
  obtain ⟨⟨c0, c1⟩, b0, b1, b2, b3, b4, b5, b6, b7⟩ := HGi.out.cells
  go_wp2_with fail
  go_ret
  exact HandPost.no HGi.out.sp HGi.out.kp
set_option maxHeartbeats 4000000 in
theorem noti_4 {w : World} {A : Nat → Prop} {p : Pl} {s : SS} (h : SpecAt w A p s) {t o : Nat} {x : Th} {b : Ob} (hx : s.T[t]? = some x) (hb : s.O[o]? = some b) (kind idx act oth code val : Int) (u : Int) (hwf : WF s) (hu : longestS s b.line = u) (hn : ¬ (act = 8 ∧ oth = 4)) (h3 : ¬ (act = 3 ∧ oth = u)) (ho : b.own = (t : Int)) :
    Calls Try.prog 49 #[spV p, evV ⟨kind, (t : Int), idx, act, (o : Int), oth, code, val⟩] w (HandPost w A p s none) := by
  have H := Lib.hid h
  have HX := Lib.hid hx
  have HB := Lib.hid hb
  have ix := idx_thrs p.T s.T.length p.cT t (thr_lt hx)
  have iy := idx_objs p.O s.O.length p.cO o (obj_lt hb)
  have Hhwf := Lib.hid hwf
  have Hhu := Lib.hid hu
  have Hhn := Lib.hid hn
  have Hh3 := Lib.hid h3
  have Hho := Lib.hid ho
  have HF0 := Lib.hid (Fr.boxed h ⟨kind, (t : Int), idx, act, (o : Int), oth, code, val⟩)
  clear h hx hb hwf hu hn h3 ho
  go_enter Try.func49, Try.ntmps49
  go_upto_region 1 with fail
  generalize hW : w.alloc _ = W at HF0 ⊢
  obtain ⟨bx, hbx⟩ : ∃ bx, bx = w.heap.size := ⟨_, rfl⟩
  rw [← hbx] at HF0 ⊢
  clear hbx hW
  obtain ⟨⟨c0, c1⟩, b0, b1, b2, b3, b4, b5, b6, b7⟩ := HF0.out.cells
  have oc := (HF0.out.sp.ob HB.out).1
  rw [Hho.out] at oc
  go_quiet (fail)
  go_upto_region 2 with fail
  go_quiet (fail)
  generalize hq : World.drewN _ _ = W2
  have HF1 := Lib.hid (show Fr w W2 A p s bx _ from by rw [← hq]; exact ((HF0.out.drewN _).drewN _))
  clear HF0 c0 c1 b0 b1 b2 b3 b4 b5 b6 b7 oc
  obtain ⟨⟨c0, c1⟩, b0, b1, b2, b3, b4, b5, b6, b7⟩ := HF1.out.cells
  have oc := (HF1.out.sp.ob HB.out).1
  rw [Hho.out] at oc
  clear hq
  go_wp2_with fail
  refine (refuses_no ⟨kind, (t : Int), idx, act, (o : Int), oth, code, val⟩ (4) _ Hhn.out).mono ?_
  rintro r2 w2 ⟨rfl, hb2⟩
  have HF2 := Lib.hid (HF1.out.below hb2)
  clear HF1 c0 c1 b0 b1 b2 b3 b4 b5 b6 b7 oc
  obtain ⟨⟨c0, c1⟩, b0, b1, b2, b3, b4, b5, b6, b7⟩ := HF2.out.cells
  have oc := (HF2.out.sp.ob HB.out).1
  rw [Hho.out] at oc
  clear hb2
  go_wp2_with fail
  refine (longest_u HF2.out.sp Hhwf.out HB.out Hhu.out).mono ?_
  rintro rl wl ⟨rfl, hbl⟩
  have HGl := Lib.hid (HF2.out.below hbl)
  clear hbl HF2 c0 c1 b0 b1 b2 b3 b4 b5 b6 b7 oc
  obtain ⟨⟨c0, c1⟩, b0, b1, b2, b3, b4, b5, b6, b7⟩ := HGl.out.cells
  go_wp2_with fail
  refine (is_no ⟨kind, (t : Int), idx, act, (o : Int), oth, code, val⟩ (3) (u) _ Hh3.out).mono ?_
  rintro ri wi ⟨rfl, hbi⟩
  have HGi := Lib.hid (HGl.out.below hbi)
  clear hbi HGl c0 c1 b0 b1 b2 b3 b4 b5 b6 b7
  obtain ⟨⟨c0, c1⟩, b0, b1, b2, b3, b4, b5, b6, b7⟩ := HGi.out.cells
  go_wp2_with fail
  go_ret
  exact HandPost.no HGi.out.sp HGi.out.kp
set_option maxHeartbeats 4000000 in
theorem noti_5 {w : World} {A : Nat → Prop} {p : Pl} {s : SS} (h : SpecAt w A p s) {t o : Nat} {x : Th} {b : Ob} (hx : s.T[t]? = some x) (hb : s.O[o]? = some b) (kind idx act oth code val : Int) (hwf : WF s) (hu : longestS s b.line = -1) (h1 : act = 3) (h2 : oth = -1) (ho : b.own = (t : Int)) :
    Calls Try.prog 49 #[spV p, evV ⟨kind, (t : Int), idx, act, (o : Int), oth, code, val⟩] w (HandPost w A p s (some (endS s t 0 0))) := by
  have H := Lib.hid h
  have HX := Lib.hid hx
  have HB := Lib.hid hb
  have ix := idx_thrs p.T s.T.length p.cT t (thr_lt hx)
  have iy := idx_objs p.O s.O.length p.cO o (obj_lt hb)
  have Hhwf := Lib.hid hwf
  have Hhu := Lib.hid hu
  have Hh1 := Lib.hid h1
  have Hh2 := Lib.hid h2
  have Hho := Lib.hid ho
  have HF0 := Lib.hid (Fr.boxed h ⟨kind, (t : Int), idx, act, (o : Int), oth, code, val⟩)
  clear h hx hb hwf hu h1 h2 ho
  go_enter Try.func49, Try.ntmps49
  go_upto_region 1 with fail
  generalize hW : w.alloc _ = W at HF0 ⊢
  obtain ⟨bx, hbx⟩ : ∃ bx, bx = w.heap.size := ⟨_, rfl⟩
  rw [← hbx] at HF0 ⊢
  clear hbx hW
  obtain ⟨⟨c0, c1⟩, b0, b1, b2, b3, b4, b5, b6, b7⟩ := HF0.out.cells
  have oc := (HF0.out.sp.ob HB.out).1
  rw [Hho.out] at oc
  go_quiet (fail)
  go_upto_region 2 with fail
  go_quiet (fail)
  generalize hq : World.drewN _ _ = W2
  have HF1 := Lib.hid (show Fr w W2 A p s bx _ from by rw [← hq]; exact ((HF0.out.drewN _).drewN _))
  clear HF0 c0 c1 b0 b1 b2 b3 b4 b5 b6 b7 oc
  obtain ⟨⟨c0, c1⟩, b0, b1, b2, b3, b4, b5, b6, b7⟩ := HF1.out.cells
  have oc := (HF1.out.sp.ob HB.out).1
  rw [Hho.out] at oc
  clear hq
  go_wp2_with fail
  refine (refuses_no ⟨kind, (t : Int), idx, act, (o : Int), oth, code, val⟩ (4) _ (by intro hh; dsimp only at hh; have h1 := Hh1.out; omega)).mono ?_
  rintro r2 w2 ⟨rfl, hb2⟩
  have HF2 := Lib.hid (HF1.out.below hb2)
  clear HF1 c0 c1 b0 b1 b2 b3 b4 b5 b6 b7 oc
  obtain ⟨⟨c0, c1⟩, b0, b1, b2, b3, b4, b5, b6, b7⟩ := HF2.out.cells
  have oc := (HF2.out.sp.ob HB.out).1
  rw [Hho.out] at oc
  clear hb2
  go_wp2_with fail
  refine (longest_u HF2.out.sp Hhwf.out HB.out Hhu.out).mono ?_
  rintro rl wl ⟨rfl, hbl⟩
  have HGl := Lib.hid (HF2.out.below hbl)
  clear hbl HF2 c0 c1 b0 b1 b2 b3 b4 b5 b6 b7 oc
  obtain ⟨⟨c0, c1⟩, b0, b1, b2, b3, b4, b5, b6, b7⟩ := HGl.out.cells
  go_wp2_with fail
  refine (is_yes ⟨kind, (t : Int), idx, act, (o : Int), oth, code, val⟩ (3) (-1) _ Hh1.out Hh2.out).mono ?_
  rintro ri wi ⟨rfl, hbi⟩
  have HGi := Lib.hid (HGl.out.below hbi)
  clear hbi HGl c0 c1 b0 b1 b2 b3 b4 b5 b6 b7
  obtain ⟨⟨c0, c1⟩, b0, b1, b2, b3, b4, b5, b6, b7⟩ := HGi.out.cells
  go_wp2_with fail
  refine (end_any HGi.out.sp HX.out 0 0).mono ?_
  rintro r9 w9 ⟨rfl, hs9, hk9⟩
  go_wp2_with fail
  go_ret
  exact HandPost.yes hs9 (HGi.out.kp.trans hk9)
set_option maxHeartbeats 4000000 in
theorem noti_6 {w : World} {A : Nat → Prop} {p : Pl} {s : SS} (h : SpecAt w A p s) {t o : Nat} {x : Th} {b : Ob} (hx : s.T[t]? = some x) (hb : s.O[o]? = some b) (kind idx act oth code val : Int) (k : Nat) (y : Th) (hwf : WF s) (hu : longestS s b.line = (k : Int)) (hy : s.T[k]? = some y) (hyo : y.obj = (o : Int)) (hm : (k : Int) ∈ b.line) (hx1 : (awakeS s k 0).T[t]? = some x) (h1 : act = 3) (h2 : oth = (k : Int)) (ho : b.own = (t : Int)) (h4 : x.op = 4) :
    Calls Try.prog 49 #[spV p, evV ⟨kind, (t : Int), idx, act, (o : Int), oth, code, val⟩] w (HandPost w A p s (some (endS (awakeS s k 0) t 0 0))) := by
  have H := Lib.hid h
  have HX := Lib.hid hx
  have HB := Lib.hid hb
  have ix := idx_thrs p.T s.T.length p.cT t (thr_lt hx)
  have iy := idx_objs p.O s.O.length p.cO o (obj_lt hb)
  have hk1 : ((k : Int) == -1) = false := beq_eq_false_iff_ne.2 (by omega)
  have hk2 : ((k : Int) != -1) = true := by rw [bne, hk1]; rfl
  have Hhwf := Lib.hid hwf
  have Hhu := Lib.hid hu
  have Hhy := Lib.hid hy
  have Hhyo := Lib.hid hyo
  have Hhm := Lib.hid hm
  have Hhx1 := Lib.hid hx1
  have Hh1 := Lib.hid h1
  have Hh2 := Lib.hid h2
  have Hho := Lib.hid ho
  have Hh4 := Lib.hid h4
  have HF0 := Lib.hid (Fr.boxed h ⟨kind, (t : Int), idx, act, (o : Int), oth, code, val⟩)
  clear h hx hb hwf hu hy hyo hm hx1 h1 h2 ho h4
  go_enter Try.func49, Try.ntmps49
  go_upto_region 1 with fail
  generalize hW : w.alloc _ = W at HF0 ⊢
  obtain ⟨bx, hbx⟩ : ∃ bx, bx = w.heap.size := ⟨_, rfl⟩
  rw [← hbx] at HF0 ⊢
  clear hbx hW
  obtain ⟨⟨c0, c1⟩, b0, b1, b2, b3, b4, b5, b6, b7⟩ := HF0.out.cells
  have oc := (HF0.out.sp.ob HB.out).1
  rw [Hho.out] at oc
  go_quiet (fail)
  go_upto_region 2 with fail
  go_quiet (fail)
  generalize hq : World.drewN _ _ = W2
  have HF1 := Lib.hid (show Fr w W2 A p s bx _ from by rw [← hq]; exact ((HF0.out.drewN _).drewN _))
  clear HF0 c0 c1 b0 b1 b2 b3 b4 b5 b6 b7 oc
  obtain ⟨⟨c0, c1⟩, b0, b1, b2, b3, b4, b5, b6, b7⟩ := HF1.out.cells
  have oc := (HF1.out.sp.ob HB.out).1
  rw [Hho.out] at oc
  clear hq
  go_wp2_with fail
  refine (refuses_no ⟨kind, (t : Int), idx, act, (o : Int), oth, code, val⟩ (4) _ (by intro hh; dsimp only at hh; have h1 := Hh1.out; omega)).mono ?_
  rintro r2 w2 ⟨rfl, hb2⟩
  have HF2 := Lib.hid (HF1.out.below hb2)
  clear HF1 c0 c1 b0 b1 b2 b3 b4 b5 b6 b7 oc
  obtain ⟨⟨c0, c1⟩, b0, b1, b2, b3, b4, b5, b6, b7⟩ := HF2.out.cells
  have oc := (HF2.out.sp.ob HB.out).1
  rw [Hho.out] at oc
  clear hb2
  go_wp2_with fail
  refine (longest_u HF2.out.sp Hhwf.out HB.out Hhu.out).mono ?_
  rintro rl wl ⟨rfl, hbl⟩
  have HGl := Lib.hid (HF2.out.below hbl)
  clear hbl HF2 c0 c1 b0 b1 b2 b3 b4 b5 b6 b7 oc
  obtain ⟨⟨c0, c1⟩, b0, b1, b2, b3, b4, b5, b6, b7⟩ := HGl.out.cells
  go_wp2_with fail
  refine (is_yes ⟨kind, (t : Int), idx, act, (o : Int), oth, code, val⟩ (3) ((k : Int)) _ Hh1.out Hh2.out).mono ?_
  rintro ri wi ⟨rfl, hbi⟩
  have HGi := Lib.hid (HGl.out.below hbi)
  clear hbi HGl c0 c1 b0 b1 b2 b3 b4 b5 b6 b7
  obtain ⟨⟨c0, c1⟩, b0, b1, b2, b3, b4, b5, b6, b7⟩ := HGi.out.cells
  go_wp2_with fail
  refine (awake_any HGi.out.sp Hhy.out Hhyo.out HB.out Hhm.out 0).mono ?_
  rintro ra wa ⟨rfl, hsa, hka⟩
  have HGa := Lib.hid (HGi.out.step hsa hka)
  clear hsa hka HGi c0 c1 b0 b1 b2 b3 b4 b5 b6 b7
  have xo := (HGa.out.sp.th Hhx1.out).op
  rw [Hh4.out] at xo
  go_wp2_with fail
  refine (end_any HGa.out.sp Hhx1.out 0 0).mono ?_
  rintro r9 w9 ⟨rfl, hs9, hk9⟩
  go_wp2_with fail
  go_ret
  exact HandPost.yes hs9 (HGa.out.kp.trans hk9)
set_option maxHeartbeats 4000000 in
theorem noti_7 {w : World} {A : Nat → Prop} {p : Pl} {s : SS} (h : SpecAt w A p s) {t o : Nat} {x : Th} {b : Ob} (hx : s.T[t]? = some x) (hb : s.O[o]? = some b) (kind idx act oth code val : Int) (k : Nat) (y : Th) (hwf : WF s) (hu : longestS s b.line = (k : Int)) (hy : s.T[k]? = some y) (hyo : y.obj = (o : Int)) (hm : (k : Int) ∈ b.line) (hx1 : (awakeS s k 0).T[t]? = some x) (h1 : act = 3) (h2 : oth = (k : Int)) (ho : b.own = (t : Int)) (h4 : x.op ≠ 4) :
    Calls Try.prog 49 #[spV p, evV ⟨kind, (t : Int), idx, act, (o : Int), oth, code, val⟩] w (HandPost w A p s (some (awakeS s k 0))) := by
  have H := Lib.hid h
  have HX := Lib.hid hx
  have HB := Lib.hid hb
  have ix := idx_thrs p.T s.T.length p.cT t (thr_lt hx)
  have iy := idx_objs p.O s.O.length p.cO o (obj_lt hb)
  have hk1 : ((k : Int) == -1) = false := beq_eq_false_iff_ne.2 (by omega)
  have hk2 : ((k : Int) != -1) = true := by rw [bne, hk1]; rfl
  have ho4 : (x.op == 4) = false := beq_eq_false_iff_ne.2 h4
  have Hhwf := Lib.hid hwf
  have Hhu := Lib.hid hu
  have Hhy := Lib.hid hy
  have Hhyo := Lib.hid hyo
  have Hhm := Lib.hid hm
  have Hhx1 := Lib.hid hx1
  have Hh1 := Lib.hid h1
  have Hh2 := Lib.hid h2
  have Hho := Lib.hid ho
  have Hh4 := Lib.hid h4
  have HF0 := Lib.hid (Fr.boxed h ⟨kind, (t : Int), idx, act, (o : Int), oth, code, val⟩)
  clear h hx hb hwf hu hy hyo hm hx1 h1 h2 ho h4
  go_enter Try.func49, Try.ntmps49
  go_upto_region 1 with fail
  generalize hW : w.alloc _ = W at HF0 ⊢
  obtain ⟨bx, hbx⟩ : ∃ bx, bx = w.heap.size := ⟨_, rfl⟩
  rw [← hbx] at HF0 ⊢
  clear hbx hW
  obtain ⟨⟨c0, c1⟩, b0, b1, b2, b3, b4, b5, b6, b7⟩ := HF0.out.cells
  have oc := (HF0.out.sp.ob HB.out).1
  rw [Hho.out] at oc
  go_quiet (fail)
  go_upto_region 2 with fail
  go_quiet (fail)
  generalize hq : World.drewN _ _ = W2
  have HF1 := Lib.hid (show Fr w W2 A p s bx _ from by rw [← hq]; exact ((HF0.out.drewN _).drewN _))
  clear HF0 c0 c1 b0 b1 b2 b3 b4 b5 b6 b7 oc
  obtain ⟨⟨c0, c1⟩, b0, b1, b2, b3, b4, b5, b6, b7⟩ := HF1.out.cells
  have oc := (HF1.out.sp.ob HB.out).1
  rw [Hho.out] at oc
  clear hq
  go_wp2_with fail
  refine (refuses_no ⟨kind, (t : Int), idx, act, (o : Int), oth, code, val⟩ (4) _ (by intro hh; dsimp only at hh; have h1 := Hh1.out; omega)).mono ?_
  rintro r2 w2 ⟨rfl, hb2⟩
  have HF2 := Lib.hid (HF1.out.below hb2)
  clear HF1 c0 c1 b0 b1 b2 b3 b4 b5 b6 b7 oc
  obtain ⟨⟨c0, c1⟩, b0, b1, b2, b3, b4, b5, b6, b7⟩ := HF2.out.cells
  have oc := (HF2.out.sp.ob HB.out).1
  rw [Hho.out] at oc
  clear hb2
  go_wp2_with fail
  refine (longest_u HF2.out.sp Hhwf.out HB.out Hhu.out).mono ?_
  rintro rl wl ⟨rfl, hbl⟩
  have HGl := Lib.hid (HF2.out.below hbl)
  clear hbl HF2 c0 c1 b0 b1 b2 b3 b4 b5 b6 b7 oc
  obtain ⟨⟨c0, c1⟩, b0, b1, b2, b3, b4, b5, b6, b7⟩ := HGl.out.cells
  go_wp2_with fail
  refine (is_yes ⟨kind, (t : Int), idx, act, (o : Int), oth, code, val⟩ (3) ((k : Int)) _ Hh1.out Hh2.out).mono ?_
  rintro ri wi ⟨rfl, hbi⟩
  have HGi := Lib.hid (HGl.out.below hbi)
  clear hbi HGl c0 c1 b0 b1 b2 b3 b4 b5 b6 b7
  obtain ⟨⟨c0, c1⟩, b0, b1, b2, b3, b4, b5, b6, b7⟩ := HGi.out.cells
  go_wp2_with fail
  refine (awake_any HGi.out.sp Hhy.out Hhyo.out HB.out Hhm.out 0).mono ?_
  rintro ra wa ⟨rfl, hsa, hka⟩
  have HGa := Lib.hid (HGi.out.step hsa hka)
  clear hsa hka HGi c0 c1 b0 b1 b2 b3 b4 b5 b6 b7
  have xo := (HGa.out.sp.th Hhx1.out).op
  go_wp2_with fail
  go_ret
  exact HandPost.yes HGa.out.sp HGa.out.kp
theorem notify_any {w : World} {A : Nat → Prop} {p : Pl} {s : SS} (h : SpecAt w A p s) (hwf : WF s) {t o : Nat} {x : Th} {b : Ob} (hx : s.T[t]? = some x) (hb : s.O[o]? = some b) (kind idx act oth code val : Int) (hp : x.pr ≠ 2) :
    Calls Try.prog 49 #[spV p, evV ⟨kind, (t : Int), idx, act, (o : Int), oth, code, val⟩] w (HandPost w A p s (notifyS s t x b ⟨kind, (t : Int), idx, act, (o : Int), oth, code, val⟩)) := by
  unfold notifyS
  dsimp only
  by_cases h84 : act = 8 ∧ oth = 4
  · by_cases ho : b.own = (t : Int)
    · rw [if_neg (fun k => k.2.2 ho), if_neg (fun k => by omega)]
      exact noti_3 h hx hb kind idx act oth code val _ hwf rfl h84.1 h84.2 ho
    · rw [if_pos ⟨h84.1, h84.2, ho⟩]
      exact noti_1 h hx hb kind idx act oth code val h84.1 h84.2 ho
  rw [if_neg (fun k => h84 ⟨k.1, k.2.1⟩)]
  by_cases ho : b.own = (t : Int)
  rotate_left
  · rw [if_neg (fun k => ho k.1)]
    exact noti_2 h hx hb kind idx act oth code val _ hwf rfl h84 ho
  by_cases h3 : act = 3 ∧ oth = longestS s b.line
  rotate_left
  · rw [if_neg (fun k => h3 k.2)]
    exact noti_4 h hx hb kind idx act oth code val _ hwf rfl h84 h3 ho
  rw [if_pos ⟨ho, h3⟩]
  obtain ⟨h1, h2⟩ := h3
  by_cases hz : longestS s b.line = -1
  · rw [hz] at h2
    rw [if_pos h2, if_pos (.inl h2)]
    exact noti_5 h hx hb kind idx act oth code val hwf hz h1 h2 ho
  · obtain ⟨k, y, e1, hy, hpy, hoy⟩ := hwf.longest hb hz
    have hm := (longest_mem hz).1
    rw [e1] at h2 hm
    have htk : t ≠ k := by rintro rfl; rw [hx] at hy; obtain rfl := Option.some.inj hy; exact hp hpy
    have hx1 : (awakeS s k 0).T[t]? = some x := by
      rw [awakeS_at hy (by rw [hoy, Int.toNat_natCast]; exact hb)]
      exact (set_other htk).trans hx
    have hz1 : ¬ oth = -1 := by omega
    have e3 : oth.toNat = k := by omega
    simp only [hz1, if_false, false_or, e3]
    by_cases h4 : x.op = 4
    · rw [if_pos h4]
      exact noti_6 h hx hb kind idx act oth code val k y hwf e1 hy hoy hm hx1 h1 h2 ho h4
    · rw [if_neg h4]
      exact noti_7 h hx hb kind idx act oth code val k y hwf e1 hy hoy hm hx1 h1 h2 ho h4
end Go.Proofs.Ytcgljmeppmdihaa
