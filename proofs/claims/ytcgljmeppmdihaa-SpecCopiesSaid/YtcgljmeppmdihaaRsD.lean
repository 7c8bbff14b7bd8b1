/- The document's automaton: notify (written by tools/gen_rsD.py). -/
import Derived.Test.YtcgljmeppmdihaaRsC1
namespace Go.Proofs.Ytcgljmeppmdihaa
open Go.ChangeShapes Go.WideShapes Go.ChangeAt Go.RowKit
set_option linter.unusedVariables false
set_option maxRecDepth 100000
set_option linter.unusedSimpArgs false
set_option maxHeartbeats 4000000 in
theorem notify_8a {w : World} {p : RPl} {s : RS} (h : RsAt w p s) {t o : Nat} (xcalls : Int) (xopn : Bool) (xop xobj xarg xfar xcode xval : Int) (xflag : Bool) (xsaved xsince : Int) (hx : s.T[t]? = some ⟨xcalls, xopn, xop, xobj, xarg, xfar, xcode, xval, xflag, xsaved, xsince⟩) {own dep : Int} (hW : s.W[o]? = some own) (hD : s.D[o]? = some dep) (bo : Bool) (kind idx oth code val : Int) (hop : xop = 4 ∨ xop = 5) (hb : bo = true) :
    Calls Try.prog 65 #[rspV p, .pointer (some ⟨p.T, t * 11, none⟩), .bool bo, evV ⟨kind, (t : Int), idx, 8, (o : Int), oth, code, val⟩] w (RHand w p s (ActR s t ⟨xcalls, xopn, xop, xobj, xarg, xfar, xcode, xval, xflag, xsaved, xsince⟩ o own dep ⟨kind, (t : Int), idx, 8, (o : Int), oth, code, val⟩)) := by
  have HX := Lib.hid hx
  have HW := Lib.hid hW
  have HD := Lib.hid hD
  have it := idx_rthrs p.T s.T.length p.cT t (List.getElem?_eq_some_iff.1 hx).1
  have iw := idx_rints p.W s.W.length p.cW o (List.getElem?_eq_some_iff.1 hW).1
  have id' := idx_rints p.D s.D.length p.cD o (List.getElem?_eq_some_iff.1 hD).1
  have HF0 := Lib.hid (RFr.boxed h ⟨kind, (t : Int), idx, 8, (o : Int), oth, code, val⟩)
  have HH := Lib.hid h
  have Hhop := Lib.hid hop
  clear h hx hW hD
  go_enter Try.func65, Try.ntmps65
  go_upto_region 1 with fail
  generalize hWW : w.alloc _ = W at HF0 ⊢
  obtain ⟨bx, hbx⟩ : ∃ bx, bx = w.heap.size := ⟨_, rfl⟩
  rw [← hbx] at HF0 ⊢
  clear hbx hWW
  obtain ⟨⟨c0, c1, c2, c3⟩, ⟨b0, b1, b2, b3, b4, b5, b6, b7⟩⟩ := HF0.out.cells
  obtain ⟨t0, t1, t2, t3, t4, t5, t6, t7, t8, t9, t10⟩ := HF0.out.rs.t HX.out
  have ow := HF0.out.rs.ow.cell HW.out
  have od := HF0.out.rs.dp.cell HD.out
  have nbT : ¬ bx = p.T := fun e => HF0.out.out (.inr (.inr (.inr e)))
  have nbT' : ¬ p.T = bx := fun e => nbT e.symm
  dsimp only at b0 b1 b2 b3 b4 b5 b6 b7 t0 t1 t2 t3 t4 t5 t6 t7 t8 t9 t10
  subst hb
  go_wp2_with fail
  go_ret
  exact RHand.no HF0.out.rs HF0.out.kp
set_option maxHeartbeats 4000000 in
theorem notify_8b {w : World} {p : RPl} {s : RS} (h : RsAt w p s) {t o : Nat} (xcalls : Int) (xopn : Bool) (xop xobj xarg xfar xcode xval : Int) (xflag : Bool) (xsaved xsince : Int) (hx : s.T[t]? = some ⟨xcalls, xopn, xop, xobj, xarg, xfar, xcode, xval, xflag, xsaved, xsince⟩) {own dep : Int} (hW : s.W[o]? = some own) (hD : s.D[o]? = some dep) (bo : Bool) (kind idx oth code val : Int) (hop : xop = 4 ∨ xop = 5) (hb : bo = false) (hf : (xfar == 0) = false) :
    Calls Try.prog 65 #[rspV p, .pointer (some ⟨p.T, t * 11, none⟩), .bool bo, evV ⟨kind, (t : Int), idx, 8, (o : Int), oth, code, val⟩] w (RHand w p s (ActR s t ⟨xcalls, xopn, xop, xobj, xarg, xfar, xcode, xval, xflag, xsaved, xsince⟩ o own dep ⟨kind, (t : Int), idx, 8, (o : Int), oth, code, val⟩)) := by
  have HX := Lib.hid hx
  have HW := Lib.hid hW
  have HD := Lib.hid hD
  have it := idx_rthrs p.T s.T.length p.cT t (List.getElem?_eq_some_iff.1 hx).1
  have iw := idx_rints p.W s.W.length p.cW o (List.getElem?_eq_some_iff.1 hW).1
  have id' := idx_rints p.D s.D.length p.cD o (List.getElem?_eq_some_iff.1 hD).1
  have HF0 := Lib.hid (RFr.boxed h ⟨kind, (t : Int), idx, 8, (o : Int), oth, code, val⟩)
  have HH := Lib.hid h
  have Hhop := Lib.hid hop
  clear h hx hW hD
  go_enter Try.func65, Try.ntmps65
  go_upto_region 1 with fail
  generalize hWW : w.alloc _ = W at HF0 ⊢
  obtain ⟨bx, hbx⟩ : ∃ bx, bx = w.heap.size := ⟨_, rfl⟩
  rw [← hbx] at HF0 ⊢
  clear hbx hWW
  obtain ⟨⟨c0, c1, c2, c3⟩, ⟨b0, b1, b2, b3, b4, b5, b6, b7⟩⟩ := HF0.out.cells
  obtain ⟨t0, t1, t2, t3, t4, t5, t6, t7, t8, t9, t10⟩ := HF0.out.rs.t HX.out
  have ow := HF0.out.rs.ow.cell HW.out
  have od := HF0.out.rs.dp.cell HD.out
  have nbT : ¬ bx = p.T := fun e => HF0.out.out (.inr (.inr (.inr e)))
  have nbT' : ¬ p.T = bx := fun e => nbT e.symm
  dsimp only at b0 b1 b2 b3 b4 b5 b6 b7 t0 t1 t2 t3 t4 t5 t6 t7 t8 t9 t10
  subst hb
  go_wp2_with fail
  go_ret
  exact RHand.no HF0.out.rs HF0.out.kp
set_option maxHeartbeats 4000000 in
theorem notify_8c {w : World} {p : RPl} {s : RS} (h : RsAt w p s) {t o : Nat} (xcalls : Int) (xopn : Bool) (xop xobj xarg xfar xcode xval : Int) (xflag : Bool) (xsaved xsince : Int) (hx : s.T[t]? = some ⟨xcalls, xopn, xop, xobj, xarg, xfar, xcode, xval, xflag, xsaved, xsince⟩) {own dep : Int} (hW : s.W[o]? = some own) (hD : s.D[o]? = some dep) (bo : Bool) (kind idx oth code val : Int) (hop : xop = 4 ∨ xop = 5) (hb : bo = false) (hf : xfar = 0) (ho : (oth == 4) = false) :
    Calls Try.prog 65 #[rspV p, .pointer (some ⟨p.T, t * 11, none⟩), .bool bo, evV ⟨kind, (t : Int), idx, 8, (o : Int), oth, code, val⟩] w (RHand w p s (ActR s t ⟨xcalls, xopn, xop, xobj, xarg, xfar, xcode, xval, xflag, xsaved, xsince⟩ o own dep ⟨kind, (t : Int), idx, 8, (o : Int), oth, code, val⟩)) := by
  have HX := Lib.hid hx
  have HW := Lib.hid hW
  have HD := Lib.hid hD
  have it := idx_rthrs p.T s.T.length p.cT t (List.getElem?_eq_some_iff.1 hx).1
  have iw := idx_rints p.W s.W.length p.cW o (List.getElem?_eq_some_iff.1 hW).1
  have id' := idx_rints p.D s.D.length p.cD o (List.getElem?_eq_some_iff.1 hD).1
  have HF0 := Lib.hid (RFr.boxed h ⟨kind, (t : Int), idx, 8, (o : Int), oth, code, val⟩)
  have HH := Lib.hid h
  have Hhop := Lib.hid hop
  clear h hx hW hD
  go_enter Try.func65, Try.ntmps65
  go_upto_region 1 with fail
  generalize hWW : w.alloc _ = W at HF0 ⊢
  obtain ⟨bx, hbx⟩ : ∃ bx, bx = w.heap.size := ⟨_, rfl⟩
  rw [← hbx] at HF0 ⊢
  clear hbx hWW
  obtain ⟨⟨c0, c1, c2, c3⟩, ⟨b0, b1, b2, b3, b4, b5, b6, b7⟩⟩ := HF0.out.cells
  obtain ⟨t0, t1, t2, t3, t4, t5, t6, t7, t8, t9, t10⟩ := HF0.out.rs.t HX.out
  have ow := HF0.out.rs.ow.cell HW.out
  have od := HF0.out.rs.dp.cell HD.out
  have nbT : ¬ bx = p.T := fun e => HF0.out.out (.inr (.inr (.inr e)))
  have nbT' : ¬ p.T = bx := fun e => nbT e.symm
  dsimp only at b0 b1 b2 b3 b4 b5 b6 b7 t0 t1 t2 t3 t4 t5 t6 t7 t8 t9 t10
  subst hb
  subst hf
  go_wp2_with fail
  go_ret
  exact RHand.no HF0.out.rs HF0.out.kp
set_option maxHeartbeats 4000000 in
theorem notify_8d {w : World} {p : RPl} {s : RS} (h : RsAt w p s) {t o : Nat} (xcalls : Int) (xopn : Bool) (xop xobj xarg xfar xcode xval : Int) (xflag : Bool) (xsaved xsince : Int) (hx : s.T[t]? = some ⟨xcalls, xopn, xop, xobj, xarg, xfar, xcode, xval, xflag, xsaved, xsince⟩) {own dep : Int} (hW : s.W[o]? = some own) (hD : s.D[o]? = some dep) (bo : Bool) (kind idx code val : Int) (hop : xop = 4 ∨ xop = 5) (hb : bo = false) (hf : xfar = 0) (hn : own ≠ t) :
    Calls Try.prog 65 #[rspV p, .pointer (some ⟨p.T, t * 11, none⟩), .bool bo, evV ⟨kind, (t : Int), idx, 8, (o : Int), 4, code, val⟩] w (RHand w p s (ActR s t ⟨xcalls, xopn, xop, xobj, xarg, xfar, xcode, xval, xflag, xsaved, xsince⟩ o own dep ⟨kind, (t : Int), idx, 8, (o : Int), 4, code, val⟩)) := by
  have HX := Lib.hid hx
  have HW := Lib.hid hW
  have HD := Lib.hid hD
  have it := idx_rthrs p.T s.T.length p.cT t (List.getElem?_eq_some_iff.1 hx).1
  have iw := idx_rints p.W s.W.length p.cW o (List.getElem?_eq_some_iff.1 hW).1
  have id' := idx_rints p.D s.D.length p.cD o (List.getElem?_eq_some_iff.1 hD).1
  have HF0 := Lib.hid (RFr.boxed h ⟨kind, (t : Int), idx, 8, (o : Int), 4, code, val⟩)
  have HH := Lib.hid h
  have Hhop := Lib.hid hop
  have Hhn := Lib.hid hn
  clear h hx hW hD
  go_enter Try.func65, Try.ntmps65
  go_upto_region 1 with fail
  generalize hWW : w.alloc _ = W at HF0 ⊢
  obtain ⟨bx, hbx⟩ : ∃ bx, bx = w.heap.size := ⟨_, rfl⟩
  rw [← hbx] at HF0 ⊢
  clear hbx hWW
  obtain ⟨⟨c0, c1, c2, c3⟩, ⟨b0, b1, b2, b3, b4, b5, b6, b7⟩⟩ := HF0.out.cells
  obtain ⟨t0, t1, t2, t3, t4, t5, t6, t7, t8, t9, t10⟩ := HF0.out.rs.t HX.out
  have ow := HF0.out.rs.ow.cell HW.out
  have od := HF0.out.rs.dp.cell HD.out
  have nbT : ¬ bx = p.T := fun e => HF0.out.out (.inr (.inr (.inr e)))
  have nbT' : ¬ p.T = bx := fun e => nbT e.symm
  dsimp only at b0 b1 b2 b3 b4 b5 b6 b7 t0 t1 t2 t3 t4 t5 t6 t7 t8 t9 t10
  subst hb
  subst hf
  go_wp2_with (go_at_call 64; (with_reducible refine (finish_any HF0.out.rs HX.out (4) (0)).mono ?_); rintro e9 w9 ⟨rfl, h9, k9⟩)
  go_ret
  exact RHand.yes h9 (HF0.out.kp.trans k9) (ActR.nonotify Hhop.out rfl Hhn.out rfl rfl)
set_option maxHeartbeats 4000000 in
theorem notify_x {w : World} {p : RPl} {s : RS} (h : RsAt w p s) {t o : Nat} (xcalls : Int) (xopn : Bool) (xop xobj xarg xfar xcode xval : Int) (xflag : Bool) (xsaved xsince : Int) (hx : s.T[t]? = some ⟨xcalls, xopn, xop, xobj, xarg, xfar, xcode, xval, xflag, xsaved, xsince⟩) {own dep : Int} (hW : s.W[o]? = some own) (hD : s.D[o]? = some dep) (bo : Bool) (kind idx act oth code val : Int) (hop : xop = 4 ∨ xop = 5) (a8 : (act == 8) = false) (a3 : (act == 3) = false) (a3n : (act != 3) = true) :
    Calls Try.prog 65 #[rspV p, .pointer (some ⟨p.T, t * 11, none⟩), .bool bo, evV ⟨kind, (t : Int), idx, act, (o : Int), oth, code, val⟩] w (RHand w p s (ActR s t ⟨xcalls, xopn, xop, xobj, xarg, xfar, xcode, xval, xflag, xsaved, xsince⟩ o own dep ⟨kind, (t : Int), idx, act, (o : Int), oth, code, val⟩)) := by
  have HX := Lib.hid hx
  have HW := Lib.hid hW
  have HD := Lib.hid hD
  have it := idx_rthrs p.T s.T.length p.cT t (List.getElem?_eq_some_iff.1 hx).1
  have iw := idx_rints p.W s.W.length p.cW o (List.getElem?_eq_some_iff.1 hW).1
  have id' := idx_rints p.D s.D.length p.cD o (List.getElem?_eq_some_iff.1 hD).1
  have HF0 := Lib.hid (RFr.boxed h ⟨kind, (t : Int), idx, act, (o : Int), oth, code, val⟩)
  have HH := Lib.hid h
  have Hhop := Lib.hid hop
  clear h hx hW hD
  go_enter Try.func65, Try.ntmps65
  go_upto_region 1 with fail
  generalize hWW : w.alloc _ = W at HF0 ⊢
  obtain ⟨bx, hbx⟩ : ∃ bx, bx = w.heap.size := ⟨_, rfl⟩
  rw [← hbx] at HF0 ⊢
  clear hbx hWW
  obtain ⟨⟨c0, c1, c2, c3⟩, ⟨b0, b1, b2, b3, b4, b5, b6, b7⟩⟩ := HF0.out.cells
  obtain ⟨t0, t1, t2, t3, t4, t5, t6, t7, t8, t9, t10⟩ := HF0.out.rs.t HX.out
  have ow := HF0.out.rs.ow.cell HW.out
  have od := HF0.out.rs.dp.cell HD.out
  have nbT : ¬ bx = p.T := fun e => HF0.out.out (.inr (.inr (.inr e)))
  have nbT' : ¬ p.T = bx := fun e => nbT e.symm
  dsimp only at b0 b1 b2 b3 b4 b5 b6 b7 t0 t1 t2 t3 t4 t5 t6 t7 t8 t9 t10
  go_upto_region 3 with fail
  go_quiet (fail)
  go_wp2_with fail
  go_ret
  exact RHand.no (HF0.out.drewN _).rs (HF0.out.drewN _).kp
set_option maxHeartbeats 4000000 in
theorem notify_3a {w : World} {p : RPl} {s : RS} (h : RsAt w p s) {t o : Nat} (xcalls : Int) (xopn : Bool) (xop xobj xarg xfar xcode xval : Int) (xflag : Bool) (xsaved xsince : Int) (hx : s.T[t]? = some ⟨xcalls, xopn, xop, xobj, xarg, xfar, xcode, xval, xflag, xsaved, xsince⟩) {own dep : Int} (hW : s.W[o]? = some own) (hD : s.D[o]? = some dep) (bo : Bool) (kind idx oth code val : Int) (hop : xop = 4 ∨ xop = 5) (hb : bo = false) :
    Calls Try.prog 65 #[rspV p, .pointer (some ⟨p.T, t * 11, none⟩), .bool bo, evV ⟨kind, (t : Int), idx, 3, (o : Int), oth, code, val⟩] w (RHand w p s (ActR s t ⟨xcalls, xopn, xop, xobj, xarg, xfar, xcode, xval, xflag, xsaved, xsince⟩ o own dep ⟨kind, (t : Int), idx, 3, (o : Int), oth, code, val⟩)) := by
  have HX := Lib.hid hx
  have HW := Lib.hid hW
  have HD := Lib.hid hD
  have it := idx_rthrs p.T s.T.length p.cT t (List.getElem?_eq_some_iff.1 hx).1
  have iw := idx_rints p.W s.W.length p.cW o (List.getElem?_eq_some_iff.1 hW).1
  have id' := idx_rints p.D s.D.length p.cD o (List.getElem?_eq_some_iff.1 hD).1
  have HF0 := Lib.hid (RFr.boxed h ⟨kind, (t : Int), idx, 3, (o : Int), oth, code, val⟩)
  have HH := Lib.hid h
  have Hhop := Lib.hid hop
  clear h hx hW hD
  go_enter Try.func65, Try.ntmps65
  go_upto_region 1 with fail
  generalize hWW : w.alloc _ = W at HF0 ⊢
  obtain ⟨bx, hbx⟩ : ∃ bx, bx = w.heap.size := ⟨_, rfl⟩
  rw [← hbx] at HF0 ⊢
  clear hbx hWW
  obtain ⟨⟨c0, c1, c2, c3⟩, ⟨b0, b1, b2, b3, b4, b5, b6, b7⟩⟩ := HF0.out.cells
  obtain ⟨t0, t1, t2, t3, t4, t5, t6, t7, t8, t9, t10⟩ := HF0.out.rs.t HX.out
  have ow := HF0.out.rs.ow.cell HW.out
  have od := HF0.out.rs.dp.cell HD.out
  have nbT : ¬ bx = p.T := fun e => HF0.out.out (.inr (.inr (.inr e)))
  have nbT' : ¬ p.T = bx := fun e => nbT e.symm
  dsimp only at b0 b1 b2 b3 b4 b5 b6 b7 t0 t1 t2 t3 t4 t5 t6 t7 t8 t9 t10
  subst hb
  go_upto_region 3 with fail
  go_quiet (fail)
  go_wp2_with fail
  go_ret
  exact RHand.no (HF0.out.drewN _).rs (HF0.out.drewN _).kp
set_option maxHeartbeats 4000000 in
theorem notify_3b {w : World} {p : RPl} {s : RS} (h : RsAt w p s) {t o : Nat} (xcalls : Int) (xopn : Bool) (xop xobj xarg xfar xcode xval : Int) (xflag : Bool) (xsaved xsince : Int) (hx : s.T[t]? = some ⟨xcalls, xopn, xop, xobj, xarg, xfar, xcode, xval, xflag, xsaved, xsince⟩) {own dep : Int} (hW : s.W[o]? = some own) (hD : s.D[o]? = some dep) (bo : Bool) (kind idx oth code val : Int) (hop : xop = 4 ∨ xop = 5) (hll : s.T.length ≤ 100000) (hb : bo = true) (hn : own = t) :
    Calls Try.prog 65 #[rspV p, .pointer (some ⟨p.T, t * 11, none⟩), .bool bo, evV ⟨kind, (t : Int), idx, 3, (o : Int), oth, code, val⟩] w (RHand w p s (ActR s t ⟨xcalls, xopn, xop, xobj, xarg, xfar, xcode, xval, xflag, xsaved, xsince⟩ o own dep ⟨kind, (t : Int), idx, 3, (o : Int), oth, code, val⟩)) := by
  have HX := Lib.hid hx
  have HW := Lib.hid hW
  have HD := Lib.hid hD
  have it := idx_rthrs p.T s.T.length p.cT t (List.getElem?_eq_some_iff.1 hx).1
  have iw := idx_rints p.W s.W.length p.cW o (List.getElem?_eq_some_iff.1 hW).1
  have id' := idx_rints p.D s.D.length p.cD o (List.getElem?_eq_some_iff.1 hD).1
  have HF0 := Lib.hid (RFr.boxed h ⟨kind, (t : Int), idx, 3, (o : Int), oth, code, val⟩)
  have HH := Lib.hid h
  have Hhop := Lib.hid hop
  have Hhll := Lib.hid hll
  have Hhn := Lib.hid hn
  clear hn
  clear h hx hW hD
  go_enter Try.func65, Try.ntmps65
  go_upto_region 1 with fail
  generalize hWW : w.alloc _ = W at HF0 ⊢
  obtain ⟨bx, hbx⟩ : ∃ bx, bx = w.heap.size := ⟨_, rfl⟩
  rw [← hbx] at HF0 ⊢
  clear hbx hWW
  obtain ⟨⟨c0, c1, c2, c3⟩, ⟨b0, b1, b2, b3, b4, b5, b6, b7⟩⟩ := HF0.out.cells
  obtain ⟨t0, t1, t2, t3, t4, t5, t6, t7, t8, t9, t10⟩ := HF0.out.rs.t HX.out
  have ow := HF0.out.rs.ow.cell HW.out
  have od := HF0.out.rs.dp.cell HD.out
  have nbT : ¬ bx = p.T := fun e => HF0.out.out (.inr (.inr (.inr e)))
  have nbT' : ¬ p.T = bx := fun e => nbT e.symm
  dsimp only at b0 b1 b2 b3 b4 b5 b6 b7 t0 t1 t2 t3 t4 t5 t6 t7 t8 t9 t10
  have HLL := Hhll
  subst hb
  have HL := Lib.hid fun V (hV : Below W.heap.size W V) => rlongest_any (HF0.out.below hV).rs (o : Int) (by have := HLL.out; exact this)
  have bd := rdrew W
  have SK := Lib.hid (show ∀ V, Below W.heap.size W V → V.cell? ⟨bx, 3, none⟩ = some (.int .i64 3) ∧ V.cell? ⟨bx, 4, none⟩ = some (.int .i64 (o : Int)) ∧ V.cell? ⟨bx, 5, none⟩ = some (.int .i64 oth) from fun V hV => by have z := evAt (HF0.out.below hV).ev; exact ⟨z.b3, z.b4, z.b5⟩)
  go_upto_region 3 with fail
  have bc := bd
  go_region_held3 (fun (V : World) => V.cell? ⟨bx, 3, none⟩ = some (.int .i64 3) ∧ V.cell? ⟨bx, 4, none⟩ = some (.int .i64 (o : Int)) ∧ V.cell? ⟨bx, 5, none⟩ = some (.int .i64 oth)) (exact SK.out _ bc) ((go_at_call 81; (with_reducible refine (HL.out _ bc).mono ?_); rintro e9 w9 ⟨best, rfl, hlong, b9⟩; replace bc := Below.trans bc (Below.mono b9 bc.size)))
  have HF1 := Lib.hid (HF0.out.below bc)
  have HLO := Lib.hid hlong
  clear c0 c1 c2 c3 b0 b1 b2 b3 b4 b5 b6 b7 t0 t1 t2 t3 t4 t5 t6 t7 t8 t9 t10 ow od
  clear SK HL bd b9 bc hlong nbT nbT'
  by_cases hbb : oth = best
  · subst hbb
    obtain ⟨⟨c0, c1, c2, c3⟩, ⟨b0, b1, b2, b3, b4, b5, b6, b7⟩⟩ := HF1.out.cells
    obtain ⟨t0, t1, t2, t3, t4, t5, t6, t7, t8, t9, t10⟩ := HF1.out.rs.t HX.out
    dsimp only at b0 b1 b2 b3 b4 b5 b6 b7 t0 t1 t2 t3 t4 t5 t6 t7 t8 t9 t10
    rcases HLO.out with ⟨hm, _⟩ | ⟨u, z, hu, hq, _⟩
    · subst hm
      have HOth := Lib.hid (show (-1 : Int) < 0 by omega)
      rcases Hhop.out with e | e
      all_goals
        subst e
        go_wp2_with (go_at_call 64; (with_reducible refine (finish_any HF1.out.rs HX.out 0 0).mono ?_); rintro e9 w9' ⟨rfl, h9, k9⟩)
        go_ret
        exact RHand.yes h9 (HF1.out.kp.trans k9) (ActR.notifyNone (by first | exact Hhop.out | exact .inl rfl | exact .inr rfl) rfl Hhn.out HLO.out HOth.out)
    · subst hu
      have HQ := Lib.hid hq.1
      have iu := idx_rthrs p.T s.T.length p.cT u (List.getElem?_eq_some_iff.1 hq.1).1
      have hu0 : (0 : Int) ≤ (u : Int) := by omega
      have hun : ¬ (u : Int) < 0 := by omega
      clear hq
      clear t0 t1 t2 t3 t4 t5 t6 t7 t8 t9 t10
      go_upto_region 6 with fail
      have HG1 := Lib.hid HF1.out.drew
      go_still_tail 8, (by kernel_rfl)
      change wpList _ _ _ _ _ w9.drew
      clear c0 c1 c2 c3 b0 b1 b2 b3 b4 b5 b6 b7
      generalize w9.drew = W3 at HG1 ⊢
      have f5 := HG1.out.rs.fr (u * 11 + 5)
      have q5 := (HG1.out.rs.t HQ.out).far
      have HG2 := Lib.hid (HG1.out.mod HQ.out 5 (.int .i64 4) (fun y => { y with far := 4 }) (by omega) rfl)
      go_upto_region 7 with fail
      clear f5 q5
      generalize hW4 : World.setCell _ _ _ = W4 at HG2 ⊢
      clear hW4
      obtain ⟨⟨c0, c1, c2, c3⟩, ⟨b0, b1, b2, b3, b4, b5, b6, b7⟩⟩ := HG2.out.cells
      dsimp only at b0 b1 b2 b3 b4 b5 b6 b7
      have el : (s.mod u fun y => { y with far := 4 }).T.length = s.T.length := by simp [RS.mod]
      rw [el] at c2
      have HG3 := Lib.hid HG2.out.drew
      go_still_tail 9, (by kernel_rfl)
      change wpList _ _ _ _ _ W4.drew
      clear c0 c1 c2 c3 b0 b1 b2 b3 b4 b5 b6 b7 el
      generalize W4.drew = W5 at HG3 ⊢
      have f6 := HG3.out.rs.fr (u * 11 + 6)
      have f7 := HG3.out.rs.fr (u * 11 + 7)
      have q6 := (HG3.out.rs.t (mod_same HQ.out)).code
      have q7 := (HG3.out.rs.t (mod_same HQ.out)).val
      dsimp only at q6 q7
      have HG4 := Lib.hid ((HG3.out.mod (mod_same HQ.out) 6 (.int .i64 0) (fun y => { y with code := 0 }) (by omega) rfl).mod (mod_same (mod_same HQ.out)) 7 (.int .i64 0) (fun y => { y with val := 0 }) (by omega) rfl)
      go_upto_region 8 with fail
      clear f6 f7 q6 q7
      generalize hW6 : World.setCell _ _ _ = W6 at HG4 ⊢
      clear hW6
      replace HG4 := HG4.out
      rw [mod_mod, mod_mod] at HG4
      have HG5 := Lib.hid (show RFr w W6 p (s.mod u fun y => { y with far := 4, code := 0, val := 0 }) bx _ from HG4)
      clear HG4
      obtain ⟨x1, hx1, ho1⟩ := mod_op HX.out HQ.out (fun y => { y with far := 4, code := 0, val := 0 }) (fun _ => rfl)
      dsimp only at ho1
      have HX1 := Lib.hid hx1
      have b5 := (evAt HG5.out.ev).b5
      dsimp only at b5
      have q2 := (HG5.out.rs.t hx1).op
      rw [ho1] at q2
      have f5 := HG5.out.rs.fr (t * 11 + 5)
      have q5 := (HG5.out.rs.t hx1).far
      clear hx1 ho1
      rcases Hhop.out with e | e
      · subst e
        go_wp2_with (go_at_call 64; (with_reducible refine (finish_any HG5.out.rs HX1.out 0 0).mono ?_); rintro e9 w9' ⟨rfl, h9, k9⟩)
        go_ret
        exact RHand.yes h9 (HG5.out.kp.trans k9) (ActR.notifyOne u rfl rfl Hhn.out HLO.out rfl)
      · subst e
        have HG6 := Lib.hid (HG5.out.mod HX1.out 5 (.int .i64 1) (fun y => { y with far := 1 }) (by omega) rfl)
        go_wp2_with fail
        go_ret
        exact RHand.yes HG6.out.rs HG6.out.kp (ActR.notifyMore u rfl rfl Hhn.out HLO.out rfl)
  · have hbe : (oth == best) = false := beq_eq_false_iff_ne.2 hbb
    have hbn : (oth != best) = true := by simp [bne, hbe]
    clear hbb
    go_wp2_with fail
    go_ret
    exact RHand.no HF1.out.rs HF1.out.kp
end Go.Proofs.Ytcgljmeppmdihaa
