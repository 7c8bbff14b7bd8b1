/- Package spec: act refuses (written by tools/gensp9.py). -/
import Derived.Test.YtcgljmeppmdihaaSpM
namespace Go.Proofs.Ytcgljmeppmdihaa
open Go.ChangeShapes Go.WideShapes Go.ChangeAt Go.RowKit
set_option linter.unusedVariables false
set_option maxRecDepth 100000
set_option linter.unusedSimpArgs false
set_option maxHeartbeats 4000000 in
theorem act_1 {w : World} {A : Nat → Prop} {p : Pl} {s : SS} (h : SpecAt w A p s) {t : Nat} {x : Th} (hx : s.T[t]? = some x) (kind idx act obj oth code val : Int) (hp : x.pr = 0) :
    Calls Try.prog 22 #[spV p, evV ⟨kind, (t : Int), idx, act, obj, oth, code, val⟩] w (HandPost w A p s none) := by
  have H := Lib.hid h
  have HX := Lib.hid hx
  have ix := idx_thrs p.T s.T.length p.cT t (thr_lt hx)
  have Hhp := Lib.hid hp
  have HF0 := Lib.hid (Fr.boxed h ⟨kind, (t : Int), idx, act, obj, oth, code, val⟩)
  clear h hx hp
  go_enter Try.func22, Try.ntmps22
  go_upto_region 1 with fail
  generalize hW : w.alloc _ = W at HF0 ⊢
  obtain ⟨bx, hbx⟩ : ∃ bx, bx = w.heap.size := ⟨_, rfl⟩
  rw [← hbx] at HF0 ⊢
  clear hbx hW
  obtain ⟨⟨c0, c1⟩, b0, b1, b2, b3, b4, b5, b6, b7⟩ := HF0.out.cells
  dsimp only at b0 b1 b2 b3 b4 b5 b6 b7
  have xp := (HF0.out.sp.th HX.out).pr
  rw [Hhp.out] at xp
  go_quiet (fail)
  generalize hq : World.drewN _ _ = W2
  have HF1 := Lib.hid (show Fr w W2 A p s bx _ from by rw [← hq]; exact HF0.out.drewN _)
  clear hq HF0 c0 c1 b0 b1 b2 b3 b4 b5 b6 b7 xp
  obtain ⟨⟨c0, c1⟩, b0, b1, b2, b3, b4, b5, b6, b7⟩ := HF1.out.cells
  dsimp only at b0 b1 b2 b3 b4 b5 b6 b7
  have xp := (HF1.out.sp.th HX.out).pr
  rw [Hhp.out] at xp
  go_upto_region 2 with fail
  go_quiet (fail)
  generalize hq : World.drewN _ _ = W3
  have HF2 := Lib.hid (show Fr w W3 A p s bx _ from by rw [← hq]; exact HF1.out.drewN _)
  clear hq HF1 c0 c1 b0 b1 b2 b3 b4 b5 b6 b7 xp
  obtain ⟨⟨c0, c1⟩, b0, b1, b2, b3, b4, b5, b6, b7⟩ := HF2.out.cells
  dsimp only at b0 b1 b2 b3 b4 b5 b6 b7
  have xp := (HF2.out.sp.th HX.out).pr
  rw [Hhp.out] at xp
  go_wp2_with fail
  go_ret
  exact HandPost.no HF2.out.sp HF2.out.kp
set_option maxHeartbeats 4000000 in
theorem act_2 {w : World} {A : Nat → Prop} {p : Pl} {s : SS} (h : SpecAt w A p s) {t : Nat} {x : Th} (hx : s.T[t]? = some x) (kind idx act obj oth code val : Int) (hp : x.pr = 5) :
    Calls Try.prog 22 #[spV p, evV ⟨kind, (t : Int), idx, act, obj, oth, code, val⟩] w (HandPost w A p s none) := by
  have H := Lib.hid h
  have HX := Lib.hid hx
  have ix := idx_thrs p.T s.T.length p.cT t (thr_lt hx)
  have Hhp := Lib.hid hp
  have HF0 := Lib.hid (Fr.boxed h ⟨kind, (t : Int), idx, act, obj, oth, code, val⟩)
  clear h hx hp
  go_enter Try.func22, Try.ntmps22
  go_upto_region 1 with fail
  generalize hW : w.alloc _ = W at HF0 ⊢
  obtain ⟨bx, hbx⟩ : ∃ bx, bx = w.heap.size := ⟨_, rfl⟩
  rw [← hbx] at HF0 ⊢
  clear hbx hW
  obtain ⟨⟨c0, c1⟩, b0, b1, b2, b3, b4, b5, b6, b7⟩ := HF0.out.cells
  dsimp only at b0 b1 b2 b3 b4 b5 b6 b7
  have xp := (HF0.out.sp.th HX.out).pr
  rw [Hhp.out] at xp
  go_quiet (fail)
  generalize hq : World.drewN _ _ = W2
  have HF1 := Lib.hid (show Fr w W2 A p s bx _ from by rw [← hq]; exact HF0.out.drewN _)
  clear hq HF0 c0 c1 b0 b1 b2 b3 b4 b5 b6 b7 xp
  obtain ⟨⟨c0, c1⟩, b0, b1, b2, b3, b4, b5, b6, b7⟩ := HF1.out.cells
  dsimp only at b0 b1 b2 b3 b4 b5 b6 b7
  have xp := (HF1.out.sp.th HX.out).pr
  rw [Hhp.out] at xp
  go_upto_region 2 with fail
  go_quiet (fail)
  generalize hq : World.drewN _ _ = W3
  have HF2 := Lib.hid (show Fr w W3 A p s bx _ from by rw [← hq]; exact HF1.out.drewN _)
  clear hq HF1 c0 c1 b0 b1 b2 b3 b4 b5 b6 b7 xp
  obtain ⟨⟨c0, c1⟩, b0, b1, b2, b3, b4, b5, b6, b7⟩ := HF2.out.cells
  dsimp only at b0 b1 b2 b3 b4 b5 b6 b7
  have xp := (HF2.out.sp.th HX.out).pr
  rw [Hhp.out] at xp
  go_wp2_with fail
  go_ret
  exact HandPost.no HF2.out.sp HF2.out.kp
set_option maxHeartbeats 4000000 in
theorem act_3 {w : World} {A : Nat → Prop} {p : Pl} {s : SS} (h : SpecAt w A p s) {t : Nat} {x : Th} (hx : s.T[t]? = some x) (kind idx act obj oth code val : Int) (h0 : x.pr ≠ 0) (h5 : x.pr ≠ 5) (ho : obj ≠ x.obj) :
    Calls Try.prog 22 #[spV p, evV ⟨kind, (t : Int), idx, act, obj, oth, code, val⟩] w (HandPost w A p s none) := by
  have H := Lib.hid h
  have HX := Lib.hid hx
  have ix := idx_thrs p.T s.T.length p.cT t (thr_lt hx)
  have e0 : (x.pr == 0) = false := beq_eq_false_iff_ne.2 h0
  have e5 : (x.pr == 5) = false := beq_eq_false_iff_ne.2 h5
  have eo : (obj == x.obj) = false := beq_eq_false_iff_ne.2 ho
  have eo2 : (obj != x.obj) = true := by rw [bne, eo]; rfl
  have Hh0 := Lib.hid h0
  have Hh5 := Lib.hid h5
  have Hho := Lib.hid ho
  have HF0 := Lib.hid (Fr.boxed h ⟨kind, (t : Int), idx, act, obj, oth, code, val⟩)
  clear h hx h0 h5 ho
  go_enter Try.func22, Try.ntmps22
  go_upto_region 1 with fail
  generalize hW : w.alloc _ = W at HF0 ⊢
  obtain ⟨bx, hbx⟩ : ∃ bx, bx = w.heap.size := ⟨_, rfl⟩
  rw [← hbx] at HF0 ⊢
  clear hbx hW
  obtain ⟨⟨c0, c1⟩, b0, b1, b2, b3, b4, b5, b6, b7⟩ := HF0.out.cells
  dsimp only at b0 b1 b2 b3 b4 b5 b6 b7
  have xp := (HF0.out.sp.th HX.out).pr
  have xo := (HF0.out.sp.th HX.out).obj
  go_quiet (fail)
  generalize hq : World.drewN _ _ = W2
  have HF1 := Lib.hid (show Fr w W2 A p s bx _ from by rw [← hq]; exact HF0.out.drewN _)
  clear hq HF0 c0 c1 b0 b1 b2 b3 b4 b5 b6 b7 xp xo
  obtain ⟨⟨c0, c1⟩, b0, b1, b2, b3, b4, b5, b6, b7⟩ := HF1.out.cells
  dsimp only at b0 b1 b2 b3 b4 b5 b6 b7
  have xp := (HF1.out.sp.th HX.out).pr
  have xo := (HF1.out.sp.th HX.out).obj
  go_upto_region 2 with fail
  go_quiet (fail)
  generalize hq : World.drewN _ _ = W3
  have HF2 := Lib.hid (show Fr w W3 A p s bx _ from by rw [← hq]; exact HF1.out.drewN _)
  clear hq HF1 c0 c1 b0 b1 b2 b3 b4 b5 b6 b7 xp xo
  obtain ⟨⟨c0, c1⟩, b0, b1, b2, b3, b4, b5, b6, b7⟩ := HF2.out.cells
  dsimp only at b0 b1 b2 b3 b4 b5 b6 b7
  have xp := (HF2.out.sp.th HX.out).pr
  have xo := (HF2.out.sp.th HX.out).obj
  go_wp2_with fail
  go_ret
  exact HandPost.no HF2.out.sp HF2.out.kp
set_option maxHeartbeats 4000000 in
theorem act_4 {w : World} {A : Nat → Prop} {p : Pl} {s : SS} (h : SpecAt w A p s) {t : Nat} {x : Th} (hx : s.T[t]? = some x) (kind idx act obj oth code val : Int) (h0 : x.pr ≠ 0) (h5 : x.pr ≠ 5) (ho : x.obj = obj) (hi : idx ≠ 0) :
    Calls Try.prog 22 #[spV p, evV ⟨kind, (t : Int), idx, act, obj, oth, code, val⟩] w (HandPost w A p s none) := by
  have H := Lib.hid h
  have HX := Lib.hid hx
  have ix := idx_thrs p.T s.T.length p.cT t (thr_lt hx)
  have e0 : (x.pr == 0) = false := beq_eq_false_iff_ne.2 h0
  have e5 : (x.pr == 5) = false := beq_eq_false_iff_ne.2 h5
  have ei : (idx == 0) = false := beq_eq_false_iff_ne.2 hi
  have ei2 : (idx != 0) = true := by rw [bne, ei]; rfl
  have Hh0 := Lib.hid h0
  have Hh5 := Lib.hid h5
  have Hho := Lib.hid ho
  have Hhi := Lib.hid hi
  have HF0 := Lib.hid (Fr.boxed h ⟨kind, (t : Int), idx, act, obj, oth, code, val⟩)
  clear h hx h0 h5 ho hi
  go_enter Try.func22, Try.ntmps22
  go_upto_region 1 with fail
  generalize hW : w.alloc _ = W at HF0 ⊢
  obtain ⟨bx, hbx⟩ : ∃ bx, bx = w.heap.size := ⟨_, rfl⟩
  rw [← hbx] at HF0 ⊢
  clear hbx hW
  obtain ⟨⟨c0, c1⟩, b0, b1, b2, b3, b4, b5, b6, b7⟩ := HF0.out.cells
  dsimp only at b0 b1 b2 b3 b4 b5 b6 b7
  have xp := (HF0.out.sp.th HX.out).pr
  have xo := (HF0.out.sp.th HX.out).obj
  rw [Hho.out] at xo
  go_quiet (fail)
  generalize hq : World.drewN _ _ = W2
  have HF1 := Lib.hid (show Fr w W2 A p s bx _ from by rw [← hq]; exact HF0.out.drewN _)
  clear hq HF0 c0 c1 b0 b1 b2 b3 b4 b5 b6 b7 xp xo
  obtain ⟨⟨c0, c1⟩, b0, b1, b2, b3, b4, b5, b6, b7⟩ := HF1.out.cells
  dsimp only at b0 b1 b2 b3 b4 b5 b6 b7
  have xp := (HF1.out.sp.th HX.out).pr
  have xo := (HF1.out.sp.th HX.out).obj
  rw [Hho.out] at xo
  go_upto_region 2 with fail
  go_quiet (fail)
  generalize hq : World.drewN _ _ = W3
  have HF2 := Lib.hid (show Fr w W3 A p s bx _ from by rw [← hq]; exact HF1.out.drewN _)
  clear hq HF1 c0 c1 b0 b1 b2 b3 b4 b5 b6 b7 xp xo
  obtain ⟨⟨c0, c1⟩, b0, b1, b2, b3, b4, b5, b6, b7⟩ := HF2.out.cells
  dsimp only at b0 b1 b2 b3 b4 b5 b6 b7
  have xp := (HF2.out.sp.th HX.out).pr
  have xo := (HF2.out.sp.th HX.out).obj
  rw [Hho.out] at xo
  go_wp2_with fail
  go_ret
  exact HandPost.no HF2.out.sp HF2.out.kp
set_option maxHeartbeats 4000000 in
theorem act_5 {w : World} {A : Nat → Prop} {p : Pl} {s : SS} (h : SpecAt w A p s) {t : Nat} {x : Th} (hx : s.T[t]? = some x) (kind idx act obj oth code val : Int) (h0 : x.pr ≠ 0) (h5 : x.pr ≠ 5) (ho : x.obj = obj) (hi : idx = 0) (hc : code ≠ 0) :
    Calls Try.prog 22 #[spV p, evV ⟨kind, (t : Int), idx, act, obj, oth, code, val⟩] w (HandPost w A p s none) := by
  have H := Lib.hid h
  have HX := Lib.hid hx
  have ix := idx_thrs p.T s.T.length p.cT t (thr_lt hx)
  have e0 : (x.pr == 0) = false := beq_eq_false_iff_ne.2 h0
  have e5 : (x.pr == 5) = false := beq_eq_false_iff_ne.2 h5
  have ec : (code == 0) = false := beq_eq_false_iff_ne.2 hc
  have Hh0 := Lib.hid h0
  have Hh5 := Lib.hid h5
  have Hho := Lib.hid ho
  have Hhi := Lib.hid hi
  have Hhc := Lib.hid hc
  have HF0 := Lib.hid (Fr.boxed h ⟨kind, (t : Int), idx, act, obj, oth, code, val⟩)
  clear h hx h0 h5 ho hi hc
  go_enter Try.func22, Try.ntmps22
  go_upto_region 1 with fail
  generalize hW : w.alloc _ = W at HF0 ⊢
  obtain ⟨bx, hbx⟩ : ∃ bx, bx = w.heap.size := ⟨_, rfl⟩
  rw [← hbx] at HF0 ⊢
  clear hbx hW
  obtain ⟨⟨c0, c1⟩, b0, b1, b2, b3, b4, b5, b6, b7⟩ := HF0.out.cells
  dsimp only at b0 b1 b2 b3 b4 b5 b6 b7
  rw [Hhi.out] at b2
  have xp := (HF0.out.sp.th HX.out).pr
  have xo := (HF0.out.sp.th HX.out).obj
  rw [Hho.out] at xo
  go_quiet (fail)
  generalize hq : World.drewN _ _ = W2
  have HF1 := Lib.hid (show Fr w W2 A p s bx _ from by rw [← hq]; exact HF0.out.drewN _)
  clear hq HF0 c0 c1 b0 b1 b2 b3 b4 b5 b6 b7 xp xo
  obtain ⟨⟨c0, c1⟩, b0, b1, b2, b3, b4, b5, b6, b7⟩ := HF1.out.cells
  dsimp only at b0 b1 b2 b3 b4 b5 b6 b7
  rw [Hhi.out] at b2
  have xp := (HF1.out.sp.th HX.out).pr
  have xo := (HF1.out.sp.th HX.out).obj
  rw [Hho.out] at xo
  go_upto_region 2 with fail
  go_quiet (fail)
  generalize hq : World.drewN _ _ = W3
  have HF2 := Lib.hid (show Fr w W3 A p s bx _ from by rw [← hq]; exact HF1.out.drewN _)
  clear hq HF1 c0 c1 b0 b1 b2 b3 b4 b5 b6 b7 xp xo
  obtain ⟨⟨c0, c1⟩, b0, b1, b2, b3, b4, b5, b6, b7⟩ := HF2.out.cells
  dsimp only at b0 b1 b2 b3 b4 b5 b6 b7
  rw [Hhi.out] at b2
  have xp := (HF2.out.sp.th HX.out).pr
  have xo := (HF2.out.sp.th HX.out).obj
  rw [Hho.out] at xo
  go_wp2_with fail
  go_ret
  exact HandPost.no HF2.out.sp HF2.out.kp
set_option maxHeartbeats 4000000 in
theorem act_5b {w : World} {A : Nat → Prop} {p : Pl} {s : SS} (h : SpecAt w A p s) {t : Nat} {x : Th} (hx : s.T[t]? = some x) (kind idx act obj oth code val : Int) (h0 : x.pr ≠ 0) (h5 : x.pr ≠ 5) (ho : x.obj = obj) (hi : idx = 0) (hc : code = 0) (hv : val ≠ 0) :
    Calls Try.prog 22 #[spV p, evV ⟨kind, (t : Int), idx, act, obj, oth, code, val⟩] w (HandPost w A p s none) := by
  have H := Lib.hid h
  have HX := Lib.hid hx
  have ix := idx_thrs p.T s.T.length p.cT t (thr_lt hx)
  have e0 : (x.pr == 0) = false := beq_eq_false_iff_ne.2 h0
  have e5 : (x.pr == 5) = false := beq_eq_false_iff_ne.2 h5
  have ec : (val == 0) = false := beq_eq_false_iff_ne.2 hv
  have Hh0 := Lib.hid h0
  have Hh5 := Lib.hid h5
  have Hho := Lib.hid ho
  have Hhi := Lib.hid hi
  have Hhc := Lib.hid hc
  have Hhv := Lib.hid hv
  have HF0 := Lib.hid (Fr.boxed h ⟨kind, (t : Int), idx, act, obj, oth, code, val⟩)
  clear h hx h0 h5 ho hi hc hv
  go_enter Try.func22, Try.ntmps22
  go_upto_region 1 with fail
  generalize hW : w.alloc _ = W at HF0 ⊢
  obtain ⟨bx, hbx⟩ : ∃ bx, bx = w.heap.size := ⟨_, rfl⟩
  rw [← hbx] at HF0 ⊢
  clear hbx hW
  obtain ⟨⟨c0, c1⟩, b0, b1, b2, b3, b4, b5, b6, b7⟩ := HF0.out.cells
  dsimp only at b0 b1 b2 b3 b4 b5 b6 b7
  rw [Hhi.out] at b2
  rw [Hhc.out] at b6
  have xp := (HF0.out.sp.th HX.out).pr
  have xo := (HF0.out.sp.th HX.out).obj
  rw [Hho.out] at xo
  go_quiet (fail)
  generalize hq : World.drewN _ _ = W2
  have HF1 := Lib.hid (show Fr w W2 A p s bx _ from by rw [← hq]; exact HF0.out.drewN _)
  clear hq HF0 c0 c1 b0 b1 b2 b3 b4 b5 b6 b7 xp xo
  obtain ⟨⟨c0, c1⟩, b0, b1, b2, b3, b4, b5, b6, b7⟩ := HF1.out.cells
  dsimp only at b0 b1 b2 b3 b4 b5 b6 b7
  rw [Hhi.out] at b2
  rw [Hhc.out] at b6
  have xp := (HF1.out.sp.th HX.out).pr
  have xo := (HF1.out.sp.th HX.out).obj
  rw [Hho.out] at xo
  go_upto_region 2 with fail
  go_quiet (fail)
  generalize hq : World.drewN _ _ = W3
  have HF2 := Lib.hid (show Fr w W3 A p s bx _ from by rw [← hq]; exact HF1.out.drewN _)
  clear hq HF1 c0 c1 b0 b1 b2 b3 b4 b5 b6 b7 xp xo
  obtain ⟨⟨c0, c1⟩, b0, b1, b2, b3, b4, b5, b6, b7⟩ := HF2.out.cells
  dsimp only at b0 b1 b2 b3 b4 b5 b6 b7
  rw [Hhi.out] at b2
  rw [Hhc.out] at b6
  have xp := (HF2.out.sp.th HX.out).pr
  have xo := (HF2.out.sp.th HX.out).obj
  rw [Hho.out] at xo
  go_wp2_with fail
  go_ret
  exact HandPost.no HF2.out.sp HF2.out.kp
end Go.Proofs.Ytcgljmeppmdihaa
