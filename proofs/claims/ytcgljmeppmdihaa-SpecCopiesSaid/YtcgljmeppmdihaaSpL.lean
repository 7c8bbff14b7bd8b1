/- Package spec: beginWait, wait (written by tools/gen_sp.py). -/
import Derived.Test.YtcgljmeppmdihaaSpE
import Derived.Test.YtcgljmeppmdihaaSpJ
import Derived.Test.YtcgljmeppmdihaaSpK
namespace Go.Proofs.Ytcgljmeppmdihaa
open Go.ChangeShapes Go.WideShapes Go.ChangeAt Go.RowKit
set_option linter.unusedVariables false
set_option maxRecDepth 100000
set_option linter.unusedSimpArgs false
theorem Fr.post {w W w' : World} {A : Nat → Prop} {p : Pl} {s : SS} {bx : Nat} {e : Ev} {r : Option SS} {v : Ending} (h : Fr w W A p s bx e) (hp : HandPost W A p s r v w') : HandPost w A p s r v w' := by
  obtain ⟨h1, A', h2, h3, h4, h5⟩ := hp
  exact ⟨h1, A', h2, h.kp.trans h3, fun b hb => (h4 b hb).imp id (fun h6 => Nat.le_trans h.kp.size h6), h5⟩
theorem beginWait_any {w : World} {A : Nat → Prop} {p : Pl} {s : SS} (h : SpecAt w A p s) (hwf : WF s) {t o : Nat} {x : Th} {b : Ob} (hx : s.T[t]? = some x) (hb : s.O[o]? = some b) (kind idx act oth code val : Int) :
    Calls Try.prog 70 #[spV p, evV ⟨kind, (t : Int), idx, act, (o : Int), oth, code, val⟩] w (HandPost w A p s (beginS s t x o b ⟨kind, (t : Int), idx, act, (o : Int), oth, code, val⟩)) := by
  unfold beginS
  dsimp only
  by_cases ho : b.own = (t : Int)
  · by_cases h84 : act = 8 ∧ oth = 4
    · rw [if_neg (fun k => by omega), if_neg (fun k => by omega), if_neg (fun k => by omega)]
      exact begi_5 h hx hb kind idx act oth code val h84.1 h84.2 ho
    by_cases h83 : act = 8 ∧ oth = 3
    · rw [if_pos ⟨h83.1, .inr h83.2⟩]
      exact begi_2 h hx hb kind idx act oth code val h83.1 h83.2
    rw [if_neg (fun k => by omega)]
    by_cases h70 : act = 7 ∧ oth = 0
    · cases hf : x.flag with
      | true =>
        rw [if_pos ⟨h70.1, h70.2, ho, rfl⟩]
        exact begi_3 h hx hb kind idx act oth code val h70.1 h70.2 ho hf
      | false =>
        rw [if_neg (fun k => by cases k.2.2.2), if_neg (fun k => by omega)]
        exact begi_7 h hx hb kind idx act oth code val h70.1 h70.2 ho hf
    rw [if_neg (fun k => h70 ⟨k.1, k.2.1⟩)]
    by_cases h20 : act = 2 ∧ oth = 0
    · rw [if_pos ⟨h20.1, h20.2, ho⟩]
      exact begi_4 h hx hb kind idx act oth code val hwf h20.1 h20.2 ho
    rw [if_neg (fun k => h20 ⟨k.1, k.2.1⟩)]
    exact begi_9 h hx hb kind idx act oth code val h84 h83 h70 h20
  · by_cases h84 : act = 8 ∧ oth = 4
    · rw [if_pos ⟨h84.1, .inl ⟨h84.2, ho⟩⟩]
      exact begi_1 h hx hb kind idx act oth code val h84.1 h84.2 ho
    by_cases h83 : act = 8 ∧ oth = 3
    · rw [if_pos ⟨h83.1, .inr h83.2⟩]
      exact begi_2 h hx hb kind idx act oth code val h83.1 h83.2
    rw [if_neg (fun k => by omega), if_neg (fun k => ho k.2.2.1), if_neg (fun k => ho k.2.2)]
    by_cases h70 : act = 7 ∧ oth = 0
    · exact begi_6 h hx hb kind idx act oth code val h70.1 h70.2 ho
    by_cases h20 : act = 2 ∧ oth = 0
    · exact begi_8 h hx hb kind idx act oth code val h20.1 h20.2 ho
    exact begi_9 h hx hb kind idx act oth code val h84 h83 h70 h20
set_option maxHeartbeats 4000000 in
theorem wait_1 {w : World} {A : Nat → Prop} {p : Pl} {s : SS} (h : SpecAt w A p s) {t o : Nat} {x : Th} {b : Ob} (hx : s.T[t]? = some x) (hb : s.O[o]? = some b) (kind idx act oth code val : Int) (hwf : WF s) (hp : x.pr = 1) :
    Calls Try.prog 48 #[spV p, evV ⟨kind, (t : Int), idx, act, (o : Int), oth, code, val⟩] w (HandPost w A p s (beginS s t x o b ⟨kind, (t : Int), idx, act, (o : Int), oth, code, val⟩)) := by
  have H := Lib.hid h
  have HX := Lib.hid hx
  have HB := Lib.hid hb
  have ix := idx_thrs p.T s.T.length p.cT t (thr_lt hx)
  have iy := idx_objs p.O s.O.length p.cO o (obj_lt hb)
  have Hhwf := Lib.hid hwf
  have Hhp := Lib.hid hp
  have HF0 := Lib.hid (Fr.boxed h ⟨kind, (t : Int), idx, act, (o : Int), oth, code, val⟩)
  clear h hx hb hwf hp
  go_enter Try.func48, Try.ntmps48
  go_upto_region 1 with fail
  generalize hW : w.alloc _ = W at HF0 ⊢
  obtain ⟨bx, hbx⟩ : ∃ bx, bx = w.heap.size := ⟨_, rfl⟩
  rw [← hbx] at HF0 ⊢
  clear hbx hW
  obtain ⟨⟨c0, c1⟩, b0, b1, b2, b3, b4, b5, b6, b7⟩ := HF0.out.cells
  have xp := (HF0.out.sp.th HX.out).pr
  rw [Hhp.out] at xp
  go_quiet (fail)
  generalize hq : World.drewN _ _ = W2
  have HF1 := Lib.hid (show Fr w W2 A p s bx _ from by rw [← hq]; exact (HF0.out.drewN _))
  clear HF0 c0 c1 b0 b1 b2 b3 b4 b5 b6 b7 xp
  obtain ⟨⟨c0, c1⟩, b0, b1, b2, b3, b4, b5, b6, b7⟩ := HF1.out.cells
  have xp := (HF1.out.sp.th HX.out).pr
  rw [Hhp.out] at xp
  clear hq
  go_wp2_with fail
  refine (beginWait_any HF1.out.sp Hhwf.out HX.out HB.out kind idx act oth code val).mono ?_
  rintro r9 w9 hp9
  have HP9 := Lib.hid (HF1.out.post hp9)
  obtain ⟨rfl, _⟩ := hp9
  go_wp2_with fail
  go_ret
  exact HP9.out
set_option maxHeartbeats 4000000 in
theorem wait_2 {w : World} {A : Nat → Prop} {p : Pl} {s : SS} (h : SpecAt w A p s) {t o : Nat} {x : Th} {b : Ob} (hx : s.T[t]? = some x) (hb : s.O[o]? = some b) (kind idx act oth code val : Int) (hp : x.pr = 4) :
    Calls Try.prog 48 #[spV p, evV ⟨kind, (t : Int), idx, act, (o : Int), oth, code, val⟩] w (HandPost w A p s (grantS s t x o b ⟨kind, (t : Int), idx, act, (o : Int), oth, code, val⟩)) := by
  have H := Lib.hid h
  have HX := Lib.hid hx
  have HB := Lib.hid hb
  have ix := idx_thrs p.T s.T.length p.cT t (thr_lt hx)
  have iy := idx_objs p.O s.O.length p.cO o (obj_lt hb)
  have Hhp := Lib.hid hp
  have HF0 := Lib.hid (Fr.boxed h ⟨kind, (t : Int), idx, act, (o : Int), oth, code, val⟩)
  clear h hx hb hp
  go_enter Try.func48, Try.ntmps48
  go_upto_region 1 with fail
  generalize hW : w.alloc _ = W at HF0 ⊢
  obtain ⟨bx, hbx⟩ : ∃ bx, bx = w.heap.size := ⟨_, rfl⟩
  rw [← hbx] at HF0 ⊢
  clear hbx hW
  obtain ⟨⟨c0, c1⟩, b0, b1, b2, b3, b4, b5, b6, b7⟩ := HF0.out.cells
  have xp := (HF0.out.sp.th HX.out).pr
  rw [Hhp.out] at xp
  go_quiet (fail)
  generalize hq : World.drewN _ _ = W2
  have HF1 := Lib.hid (show Fr w W2 A p s bx _ from by rw [← hq]; exact (HF0.out.drewN _))
  clear HF0 c0 c1 b0 b1 b2 b3 b4 b5 b6 b7 xp
  obtain ⟨⟨c0, c1⟩, b0, b1, b2, b3, b4, b5, b6, b7⟩ := HF1.out.cells
  have xp := (HF1.out.sp.th HX.out).pr
  rw [Hhp.out] at xp
  clear hq
  go_wp2_with fail
  refine (grant_any HF1.out.sp HX.out HB.out kind idx act oth code val).mono ?_
  rintro r9 w9 hp9
  have HP9 := Lib.hid (HF1.out.post hp9)
  obtain ⟨rfl, _⟩ := hp9
  go_wp2_with fail
  go_ret
  exact HP9.out
set_option maxHeartbeats 4000000 in
theorem wait_3 {w : World} {A : Nat → Prop} {p : Pl} {s : SS} (h : SpecAt w A p s) {t o : Nat} {x : Th} {b : Ob} (hx : s.T[t]? = some x) (hb : s.O[o]? = some b) (kind idx act oth code val : Int) (h1 : x.pr ≠ 1) (h4 : x.pr ≠ 4) (hxo : x.obj = (o : Int)) (hm : (t : Int) ∈ b.line) :
    Calls Try.prog 48 #[spV p, evV ⟨kind, (t : Int), idx, act, (o : Int), oth, code, val⟩] w (HandPost w A p s (endWaitS s t x ⟨kind, (t : Int), idx, act, (o : Int), oth, code, val⟩)) := by
  have H := Lib.hid h
  have HX := Lib.hid hx
  have HB := Lib.hid hb
  have ix := idx_thrs p.T s.T.length p.cT t (thr_lt hx)
  have iy := idx_objs p.O s.O.length p.cO o (obj_lt hb)
  have hp1 : (x.pr == 1) = false := beq_eq_false_iff_ne.2 h1
  have hp4 : (x.pr == 4) = false := beq_eq_false_iff_ne.2 h4
  have Hh1 := Lib.hid h1
  have Hh4 := Lib.hid h4
  have Hhxo := Lib.hid hxo
  have Hhm := Lib.hid hm
  have HF0 := Lib.hid (Fr.boxed h ⟨kind, (t : Int), idx, act, (o : Int), oth, code, val⟩)
  clear h hx hb h1 h4 hxo hm
  go_enter Try.func48, Try.ntmps48
  go_upto_region 1 with fail
  generalize hW : w.alloc _ = W at HF0 ⊢
  obtain ⟨bx, hbx⟩ : ∃ bx, bx = w.heap.size := ⟨_, rfl⟩
  rw [← hbx] at HF0 ⊢
  clear hbx hW
  obtain ⟨⟨c0, c1⟩, b0, b1, b2, b3, b4, b5, b6, b7⟩ := HF0.out.cells
  have xp := (HF0.out.sp.th HX.out).pr
  go_quiet (fail)
  generalize hq : World.drewN _ _ = W2
  have HF1 := Lib.hid (show Fr w W2 A p s bx _ from by rw [← hq]; exact (HF0.out.drewN _))
  clear HF0 c0 c1 b0 b1 b2 b3 b4 b5 b6 b7 xp
  obtain ⟨⟨c0, c1⟩, b0, b1, b2, b3, b4, b5, b6, b7⟩ := HF1.out.cells
  have xp := (HF1.out.sp.th HX.out).pr
  clear hq
  go_wp2_with fail
  refine (endWait_any HF1.out.sp HX.out HB.out kind idx act oth code val Hhxo.out Hhm.out).mono ?_
  rintro r9 w9 hp9
  have HP9 := Lib.hid (HF1.out.post hp9)
  obtain ⟨rfl, _⟩ := hp9
  go_wp2_with fail
  go_ret
  exact HP9.out
theorem wait_any {w : World} {A : Nat → Prop} {p : Pl} {s : SS} (h : SpecAt w A p s) (hwf : WF s) {t o : Nat} {x : Th} {b : Ob} (hx : s.T[t]? = some x) (hb : s.O[o]? = some b) (kind idx act oth code val : Int) (hxo : x.obj = (o : Int)) (hm : x.pr ≠ 1 → x.pr ≠ 4 → (t : Int) ∈ b.line) :
    Calls Try.prog 48 #[spV p, evV ⟨kind, (t : Int), idx, act, (o : Int), oth, code, val⟩] w (HandPost w A p s (waitS s t x o b ⟨kind, (t : Int), idx, act, (o : Int), oth, code, val⟩)) := by
  unfold waitS
  by_cases h1 : x.pr = 1
  · rw [if_pos h1]
    exact wait_1 h hx hb kind idx act oth code val hwf h1
  rw [if_neg h1]
  by_cases h4 : x.pr = 4
  · rw [if_pos h4]
    exact wait_2 h hx hb kind idx act oth code val h4
  rw [if_neg h4]
  exact wait_3 h hx hb kind idx act oth code val h1 h4 hxo (hm h1 h4)
end Go.Proofs.Ytcgljmeppmdihaa
