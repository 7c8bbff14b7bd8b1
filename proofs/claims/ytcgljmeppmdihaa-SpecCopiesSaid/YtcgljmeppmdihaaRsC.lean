/- The document's automaton: wait (written by tools/gen_rsC.py). -/
import Derived.Test.YtcgljmeppmdihaaRsC0
namespace Go.Proofs.Ytcgljmeppmdihaa
open Go.ChangeShapes Go.WideShapes Go.ChangeAt Go.RowKit
set_option linter.unusedVariables false
set_option maxRecDepth 100000
set_option linter.unusedSimpArgs false
set_option maxHeartbeats 4000000 in
theorem wait_8a {w : World} {p : RPl} {s : RS} (h : RsAt w p s) {t o : Nat} (xcalls : Int) (xopn : Bool) (xop xobj xarg xfar xcode xval : Int) (xflag : Bool) (xsaved xsince : Int) (hx : s.T[t]? = some ⟨xcalls, xopn, xop, xobj, xarg, xfar, xcode, xval, xflag, xsaved, xsince⟩) {own dep : Int} (hW : s.W[o]? = some own) (hD : s.D[o]? = some dep) (bo : Bool) (kind idx oth code val : Int) (hop : xop = 2 ∨ xop = 3) (hf : (xfar == 0) = false) :
    Calls Try.prog 66 #[rspV p, .pointer (some ⟨p.T, t * 11, none⟩), .bool bo, evV ⟨kind, (t : Int), idx, 8, (o : Int), oth, code, val⟩] w (RHand w p s (ActR s t ⟨xcalls, xopn, xop, xobj, xarg, xfar, xcode, xval, xflag, xsaved, xsince⟩ o own dep ⟨kind, (t : Int), idx, 8, (o : Int), oth, code, val⟩)) := by
  have HX := Lib.hid hx
  have HW := Lib.hid hW
  have HD := Lib.hid hD
  have it := idx_rthrs p.T s.T.length p.cT t (List.getElem?_eq_some_iff.1 hx).1
  have iw := idx_rints p.W s.W.length p.cW o (List.getElem?_eq_some_iff.1 hW).1
  have id' := idx_rints p.D s.D.length p.cD o (List.getElem?_eq_some_iff.1 hD).1
  have HF0 := Lib.hid (RFr.boxed h ⟨kind, (t : Int), idx, 8, (o : Int), oth, code, val⟩)
  have HH := Lib.hid h
  have Hhop := Lib.hid hop
  clear h hx hW hD
  go_enter Try.func66, Try.ntmps66
  go_upto_region 1 with fail
  generalize hWW : w.alloc _ = W at HF0 ⊢
  obtain ⟨bx, hbx⟩ : ∃ bx, bx = w.heap.size := ⟨_, rfl⟩
  rw [← hbx] at HF0 ⊢
  clear hbx hWW
  obtain ⟨⟨c0, c1, c2, c3⟩, ⟨b0, b1, b2, b3, b4, b5, b6, b7⟩⟩ := HF0.out.cells
  obtain ⟨t0, t1, t2, t3, t4, t5, t6, t7, t8, t9, t10⟩ := HF0.out.rs.t HX.out
  have ow := HF0.out.rs.ow.cell HW.out
  have od := HF0.out.rs.dp.cell HD.out
  have nbT : ¬ bx = p.T := fun e => HF0.out.out (.inr (.inr (.inr e)))
  have nbT' : ¬ p.T = bx := fun e => nbT e.symm
  dsimp only at b0 b1 b2 b3 b4 b5 b6 b7 t0 t1 t2 t3 t4 t5 t6 t7 t8 t9 t10
  go_wp2_with fail
  go_ret
  exact RHand.no HF0.out.rs HF0.out.kp
set_option maxHeartbeats 4000000 in
theorem wait_8b {w : World} {p : RPl} {s : RS} (h : RsAt w p s) {t o : Nat} (xcalls : Int) (xopn : Bool) (xop xobj xarg xfar xcode xval : Int) (xflag : Bool) (xsaved xsince : Int) (hx : s.T[t]? = some ⟨xcalls, xopn, xop, xobj, xarg, xfar, xcode, xval, xflag, xsaved, xsince⟩) {own dep : Int} (hW : s.W[o]? = some own) (hD : s.D[o]? = some dep) (bo : Bool) (kind idx oth code val : Int) (hop : xop = 2 ∨ xop = 3) (hf : xfar = 0) (ho : (oth == 4) = false) (ho3 : (oth == 3) = false) :
    Calls Try.prog 66 #[rspV p, .pointer (some ⟨p.T, t * 11, none⟩), .bool bo, evV ⟨kind, (t : Int), idx, 8, (o : Int), oth, code, val⟩] w (RHand w p s (ActR s t ⟨xcalls, xopn, xop, xobj, xarg, xfar, xcode, xval, xflag, xsaved, xsince⟩ o own dep ⟨kind, (t : Int), idx, 8, (o : Int), oth, code, val⟩)) := by
  have HX := Lib.hid hx
  have HW := Lib.hid hW
  have HD := Lib.hid hD
  have it := idx_rthrs p.T s.T.length p.cT t (List.getElem?_eq_some_iff.1 hx).1
  have iw := idx_rints p.W s.W.length p.cW o (List.getElem?_eq_some_iff.1 hW).1
  have id' := idx_rints p.D s.D.length p.cD o (List.getElem?_eq_some_iff.1 hD).1
  have HF0 := Lib.hid (RFr.boxed h ⟨kind, (t : Int), idx, 8, (o : Int), oth, code, val⟩)
  have HH := Lib.hid h
  have Hhop := Lib.hid hop
  clear h hx hW hD
  go_enter Try.func66, Try.ntmps66
  go_upto_region 1 with fail
  generalize hWW : w.alloc _ = W at HF0 ⊢
  obtain ⟨bx, hbx⟩ : ∃ bx, bx = w.heap.size := ⟨_, rfl⟩
  rw [← hbx] at HF0 ⊢
  clear hbx hWW
  obtain ⟨⟨c0, c1, c2, c3⟩, ⟨b0, b1, b2, b3, b4, b5, b6, b7⟩⟩ := HF0.out.cells
  obtain ⟨t0, t1, t2, t3, t4, t5, t6, t7, t8, t9, t10⟩ := HF0.out.rs.t HX.out
  have ow := HF0.out.rs.ow.cell HW.out
  have od := HF0.out.rs.dp.cell HD.out
  have nbT : ¬ bx = p.T := fun e => HF0.out.out (.inr (.inr (.inr e)))
  have nbT' : ¬ p.T = bx := fun e => nbT e.symm
  dsimp only at b0 b1 b2 b3 b4 b5 b6 b7 t0 t1 t2 t3 t4 t5 t6 t7 t8 t9 t10
  subst hf
  go_wp2_with fail
  go_ret
  exact RHand.no HF0.out.rs HF0.out.kp
set_option maxHeartbeats 4000000 in
theorem wait_8c {w : World} {p : RPl} {s : RS} (h : RsAt w p s) {t o : Nat} (xcalls : Int) (xopn : Bool) (xop xobj xarg xfar xcode xval : Int) (xflag : Bool) (xsaved xsince : Int) (hx : s.T[t]? = some ⟨xcalls, xopn, xop, xobj, xarg, xfar, xcode, xval, xflag, xsaved, xsince⟩) {own dep : Int} (hW : s.W[o]? = some own) (hD : s.D[o]? = some dep) (bo : Bool) (kind idx code val : Int) (hop : xop = 2 ∨ xop = 3) (hf : xfar = 0) (hb : bo = true) :
    Calls Try.prog 66 #[rspV p, .pointer (some ⟨p.T, t * 11, none⟩), .bool bo, evV ⟨kind, (t : Int), idx, 8, (o : Int), 4, code, val⟩] w (RHand w p s (ActR s t ⟨xcalls, xopn, xop, xobj, xarg, xfar, xcode, xval, xflag, xsaved, xsince⟩ o own dep ⟨kind, (t : Int), idx, 8, (o : Int), 4, code, val⟩)) := by
  have HX := Lib.hid hx
  have HW := Lib.hid hW
  have HD := Lib.hid hD
  have it := idx_rthrs p.T s.T.length p.cT t (List.getElem?_eq_some_iff.1 hx).1
  have iw := idx_rints p.W s.W.length p.cW o (List.getElem?_eq_some_iff.1 hW).1
  have id' := idx_rints p.D s.D.length p.cD o (List.getElem?_eq_some_iff.1 hD).1
  have HF0 := Lib.hid (RFr.boxed h ⟨kind, (t : Int), idx, 8, (o : Int), 4, code, val⟩)
  have HH := Lib.hid h
  have Hhop := Lib.hid hop
  clear h hx hW hD
  go_enter Try.func66, Try.ntmps66
  go_upto_region 1 with fail
  generalize hWW : w.alloc _ = W at HF0 ⊢
  obtain ⟨bx, hbx⟩ : ∃ bx, bx = w.heap.size := ⟨_, rfl⟩
  rw [← hbx] at HF0 ⊢
  clear hbx hWW
  obtain ⟨⟨c0, c1, c2, c3⟩, ⟨b0, b1, b2, b3, b4, b5, b6, b7⟩⟩ := HF0.out.cells
  obtain ⟨t0, t1, t2, t3, t4, t5, t6, t7, t8, t9, t10⟩ := HF0.out.rs.t HX.out
  have ow := HF0.out.rs.ow.cell HW.out
  have od := HF0.out.rs.dp.cell HD.out
  have nbT : ¬ bx = p.T := fun e => HF0.out.out (.inr (.inr (.inr e)))
  have nbT' : ¬ p.T = bx := fun e => nbT e.symm
  dsimp only at b0 b1 b2 b3 b4 b5 b6 b7 t0 t1 t2 t3 t4 t5 t6 t7 t8 t9 t10
  subst hf
  subst hb
  go_wp2_with fail
  go_ret
  exact RHand.no HF0.out.rs HF0.out.kp
set_option maxHeartbeats 4000000 in
theorem wait_8d {w : World} {p : RPl} {s : RS} (h : RsAt w p s) {t o : Nat} (xcalls : Int) (xopn : Bool) (xop xobj xarg xfar xcode xval : Int) (xflag : Bool) (xsaved xsince : Int) (hx : s.T[t]? = some ⟨xcalls, xopn, xop, xobj, xarg, xfar, xcode, xval, xflag, xsaved, xsince⟩) {own dep : Int} (hW : s.W[o]? = some own) (hD : s.D[o]? = some dep) (bo : Bool) (kind idx code val : Int) (hop : xop = 2 ∨ xop = 3) (hf : xfar = 0) (hb : bo = false) (hn : own ≠ t) :
    Calls Try.prog 66 #[rspV p, .pointer (some ⟨p.T, t * 11, none⟩), .bool bo, evV ⟨kind, (t : Int), idx, 8, (o : Int), 4, code, val⟩] w (RHand w p s (ActR s t ⟨xcalls, xopn, xop, xobj, xarg, xfar, xcode, xval, xflag, xsaved, xsince⟩ o own dep ⟨kind, (t : Int), idx, 8, (o : Int), 4, code, val⟩)) := by
  have HX := Lib.hid hx
  have HW := Lib.hid hW
  have HD := Lib.hid hD
  have it := idx_rthrs p.T s.T.length p.cT t (List.getElem?_eq_some_iff.1 hx).1
  have iw := idx_rints p.W s.W.length p.cW o (List.getElem?_eq_some_iff.1 hW).1
  have id' := idx_rints p.D s.D.length p.cD o (List.getElem?_eq_some_iff.1 hD).1
  have HF0 := Lib.hid (RFr.boxed h ⟨kind, (t : Int), idx, 8, (o : Int), 4, code, val⟩)
  have HH := Lib.hid h
  have Hhop := Lib.hid hop
  have Hhn := Lib.hid hn
  clear h hx hW hD
  go_enter Try.func66, Try.ntmps66
  go_upto_region 1 with fail
  generalize hWW : w.alloc _ = W at HF0 ⊢
  obtain ⟨bx, hbx⟩ : ∃ bx, bx = w.heap.size := ⟨_, rfl⟩
  rw [← hbx] at HF0 ⊢
  clear hbx hWW
  obtain ⟨⟨c0, c1, c2, c3⟩, ⟨b0, b1, b2, b3, b4, b5, b6, b7⟩⟩ := HF0.out.cells
  obtain ⟨t0, t1, t2, t3, t4, t5, t6, t7, t8, t9, t10⟩ := HF0.out.rs.t HX.out
  have ow := HF0.out.rs.ow.cell HW.out
  have od := HF0.out.rs.dp.cell HD.out
  have nbT : ¬ bx = p.T := fun e => HF0.out.out (.inr (.inr (.inr e)))
  have nbT' : ¬ p.T = bx := fun e => nbT e.symm
  dsimp only at b0 b1 b2 b3 b4 b5 b6 b7 t0 t1 t2 t3 t4 t5 t6 t7 t8 t9 t10
  subst hf
  subst hb
  go_wp2_with (go_at_call 64; (with_reducible refine (finish_any HF0.out.rs HX.out (4) (0)).mono ?_); rintro e9 w9 ⟨rfl, h9, k9⟩)
  go_ret
  exact RHand.yes h9 (HF0.out.kp.trans k9) (ActR.nowait Hhop.out rfl rfl (.inl ⟨rfl, Hhn.out⟩))
set_option maxHeartbeats 4000000 in
theorem wait_8e {w : World} {p : RPl} {s : RS} (h : RsAt w p s) {t o : Nat} (xcalls : Int) (xopn : Bool) (xop xobj xarg xfar xcode xval : Int) (xflag : Bool) (xsaved xsince : Int) (hx : s.T[t]? = some ⟨xcalls, xopn, xop, xobj, xarg, xfar, xcode, xval, xflag, xsaved, xsince⟩) {own dep : Int} (hW : s.W[o]? = some own) (hD : s.D[o]? = some dep) (bo : Bool) (kind idx code val : Int) (hop : xop = 2 ∨ xop = 3) (hf : xfar = 0) :
    Calls Try.prog 66 #[rspV p, .pointer (some ⟨p.T, t * 11, none⟩), .bool bo, evV ⟨kind, (t : Int), idx, 8, (o : Int), 3, code, val⟩] w (RHand w p s (ActR s t ⟨xcalls, xopn, xop, xobj, xarg, xfar, xcode, xval, xflag, xsaved, xsince⟩ o own dep ⟨kind, (t : Int), idx, 8, (o : Int), 3, code, val⟩)) := by
  have HX := Lib.hid hx
  have HW := Lib.hid hW
  have HD := Lib.hid hD
  have it := idx_rthrs p.T s.T.length p.cT t (List.getElem?_eq_some_iff.1 hx).1
  have iw := idx_rints p.W s.W.length p.cW o (List.getElem?_eq_some_iff.1 hW).1
  have id' := idx_rints p.D s.D.length p.cD o (List.getElem?_eq_some_iff.1 hD).1
  have HF0 := Lib.hid (RFr.boxed h ⟨kind, (t : Int), idx, 8, (o : Int), 3, code, val⟩)
  have HH := Lib.hid h
  have Hhop := Lib.hid hop
  clear h hx hW hD
  go_enter Try.func66, Try.ntmps66
  go_upto_region 1 with fail
  generalize hWW : w.alloc _ = W at HF0 ⊢
  obtain ⟨bx, hbx⟩ : ∃ bx, bx = w.heap.size := ⟨_, rfl⟩
  rw [← hbx] at HF0 ⊢
  clear hbx hWW
  obtain ⟨⟨c0, c1, c2, c3⟩, ⟨b0, b1, b2, b3, b4, b5, b6, b7⟩⟩ := HF0.out.cells
  obtain ⟨t0, t1, t2, t3, t4, t5, t6, t7, t8, t9, t10⟩ := HF0.out.rs.t HX.out
  have ow := HF0.out.rs.ow.cell HW.out
  have od := HF0.out.rs.dp.cell HD.out
  have nbT : ¬ bx = p.T := fun e => HF0.out.out (.inr (.inr (.inr e)))
  have nbT' : ¬ p.T = bx := fun e => nbT e.symm
  dsimp only at b0 b1 b2 b3 b4 b5 b6 b7 t0 t1 t2 t3 t4 t5 t6 t7 t8 t9 t10
  subst hf
  go_wp2_with (go_at_call 64; (with_reducible refine (finish_any HF0.out.rs HX.out (3) (0)).mono ?_); rintro e9 w9 ⟨rfl, h9, k9⟩)
  go_ret
  exact RHand.yes h9 (HF0.out.kp.trans k9) (ActR.nowait Hhop.out rfl rfl (.inr rfl))
set_option maxHeartbeats 4000000 in
theorem wait_7a {w : World} {p : RPl} {s : RS} (h : RsAt w p s) {t o : Nat} (xcalls : Int) (xopn : Bool) (xop xobj xarg xfar xcode xval : Int) (xflag : Bool) (xsaved xsince : Int) (hx : s.T[t]? = some ⟨xcalls, xopn, xop, xobj, xarg, xfar, xcode, xval, xflag, xsaved, xsince⟩) {own dep : Int} (hW : s.W[o]? = some own) (hD : s.D[o]? = some dep) (bo : Bool) (kind idx oth code val : Int) (hop : xop = 2 ∨ xop = 3) (ho : (oth == 0) = false) :
    Calls Try.prog 66 #[rspV p, .pointer (some ⟨p.T, t * 11, none⟩), .bool bo, evV ⟨kind, (t : Int), idx, 7, (o : Int), oth, code, val⟩] w (RHand w p s (ActR s t ⟨xcalls, xopn, xop, xobj, xarg, xfar, xcode, xval, xflag, xsaved, xsince⟩ o own dep ⟨kind, (t : Int), idx, 7, (o : Int), oth, code, val⟩)) := by
  have HX := Lib.hid hx
  have HW := Lib.hid hW
  have HD := Lib.hid hD
  have it := idx_rthrs p.T s.T.length p.cT t (List.getElem?_eq_some_iff.1 hx).1
  have iw := idx_rints p.W s.W.length p.cW o (List.getElem?_eq_some_iff.1 hW).1
  have id' := idx_rints p.D s.D.length p.cD o (List.getElem?_eq_some_iff.1 hD).1
  have HF0 := Lib.hid (RFr.boxed h ⟨kind, (t : Int), idx, 7, (o : Int), oth, code, val⟩)
  have HH := Lib.hid h
  have Hhop := Lib.hid hop
  clear h hx hW hD
  go_enter Try.func66, Try.ntmps66
  go_upto_region 1 with fail
  generalize hWW : w.alloc _ = W at HF0 ⊢
  obtain ⟨bx, hbx⟩ : ∃ bx, bx = w.heap.size := ⟨_, rfl⟩
  rw [← hbx] at HF0 ⊢
  clear hbx hWW
  obtain ⟨⟨c0, c1, c2, c3⟩, ⟨b0, b1, b2, b3, b4, b5, b6, b7⟩⟩ := HF0.out.cells
  obtain ⟨t0, t1, t2, t3, t4, t5, t6, t7, t8, t9, t10⟩ := HF0.out.rs.t HX.out
  have ow := HF0.out.rs.ow.cell HW.out
  have od := HF0.out.rs.dp.cell HD.out
  have nbT : ¬ bx = p.T := fun e => HF0.out.out (.inr (.inr (.inr e)))
  have nbT' : ¬ p.T = bx := fun e => nbT e.symm
  dsimp only at b0 b1 b2 b3 b4 b5 b6 b7 t0 t1 t2 t3 t4 t5 t6 t7 t8 t9 t10
  go_wp2_with fail
  go_ret
  exact RHand.no HF0.out.rs HF0.out.kp
set_option maxHeartbeats 4000000 in
theorem wait_7b {w : World} {p : RPl} {s : RS} (h : RsAt w p s) {t o : Nat} (xcalls : Int) (xopn : Bool) (xop xobj xarg xfar xcode xval : Int) (xflag : Bool) (xsaved xsince : Int) (hx : s.T[t]? = some ⟨xcalls, xopn, xop, xobj, xarg, xfar, xcode, xval, xflag, xsaved, xsince⟩) {own dep : Int} (hW : s.W[o]? = some own) (hD : s.D[o]? = some dep) (bo : Bool) (kind idx code val : Int) (hop : xop = 2 ∨ xop = 3) (hf : (xfar == 0) = false) (hf2 : (xfar == 2) = false) :
    Calls Try.prog 66 #[rspV p, .pointer (some ⟨p.T, t * 11, none⟩), .bool bo, evV ⟨kind, (t : Int), idx, 7, (o : Int), 0, code, val⟩] w (RHand w p s (ActR s t ⟨xcalls, xopn, xop, xobj, xarg, xfar, xcode, xval, xflag, xsaved, xsince⟩ o own dep ⟨kind, (t : Int), idx, 7, (o : Int), 0, code, val⟩)) := by
  have HX := Lib.hid hx
  have HW := Lib.hid hW
  have HD := Lib.hid hD
  have it := idx_rthrs p.T s.T.length p.cT t (List.getElem?_eq_some_iff.1 hx).1
  have iw := idx_rints p.W s.W.length p.cW o (List.getElem?_eq_some_iff.1 hW).1
  have id' := idx_rints p.D s.D.length p.cD o (List.getElem?_eq_some_iff.1 hD).1
  have HF0 := Lib.hid (RFr.boxed h ⟨kind, (t : Int), idx, 7, (o : Int), 0, code, val⟩)
  have HH := Lib.hid h
  have Hhop := Lib.hid hop
  clear h hx hW hD
  go_enter Try.func66, Try.ntmps66
  go_upto_region 1 with fail
  generalize hWW : w.alloc _ = W at HF0 ⊢
  obtain ⟨bx, hbx⟩ : ∃ bx, bx = w.heap.size := ⟨_, rfl⟩
  rw [← hbx] at HF0 ⊢
  clear hbx hWW
  obtain ⟨⟨c0, c1, c2, c3⟩, ⟨b0, b1, b2, b3, b4, b5, b6, b7⟩⟩ := HF0.out.cells
  obtain ⟨t0, t1, t2, t3, t4, t5, t6, t7, t8, t9, t10⟩ := HF0.out.rs.t HX.out
  have ow := HF0.out.rs.ow.cell HW.out
  have od := HF0.out.rs.dp.cell HD.out
  have nbT : ¬ bx = p.T := fun e => HF0.out.out (.inr (.inr (.inr e)))
  have nbT' : ¬ p.T = bx := fun e => nbT e.symm
  dsimp only at b0 b1 b2 b3 b4 b5 b6 b7 t0 t1 t2 t3 t4 t5 t6 t7 t8 t9 t10
  go_wp2_with fail
  go_ret
  exact RHand.no HF0.out.rs HF0.out.kp
set_option maxHeartbeats 4000000 in
theorem wait_7c {w : World} {p : RPl} {s : RS} (h : RsAt w p s) {t o : Nat} (xcalls : Int) (xopn : Bool) (xop xobj xarg xfar xcode xval : Int) (xflag : Bool) (xsaved xsince : Int) (hx : s.T[t]? = some ⟨xcalls, xopn, xop, xobj, xarg, xfar, xcode, xval, xflag, xsaved, xsince⟩) {own dep : Int} (hW : s.W[o]? = some own) (hD : s.D[o]? = some dep) (bo : Bool) (kind idx code val : Int) (hop : xop = 2 ∨ xop = 3) (hf : xfar = 0) (hb : bo = false) :
    Calls Try.prog 66 #[rspV p, .pointer (some ⟨p.T, t * 11, none⟩), .bool bo, evV ⟨kind, (t : Int), idx, 7, (o : Int), 0, code, val⟩] w (RHand w p s (ActR s t ⟨xcalls, xopn, xop, xobj, xarg, xfar, xcode, xval, xflag, xsaved, xsince⟩ o own dep ⟨kind, (t : Int), idx, 7, (o : Int), 0, code, val⟩)) := by
  have HX := Lib.hid hx
  have HW := Lib.hid hW
  have HD := Lib.hid hD
  have it := idx_rthrs p.T s.T.length p.cT t (List.getElem?_eq_some_iff.1 hx).1
  have iw := idx_rints p.W s.W.length p.cW o (List.getElem?_eq_some_iff.1 hW).1
  have id' := idx_rints p.D s.D.length p.cD o (List.getElem?_eq_some_iff.1 hD).1
  have HF0 := Lib.hid (RFr.boxed h ⟨kind, (t : Int), idx, 7, (o : Int), 0, code, val⟩)
  have HH := Lib.hid h
  have Hhop := Lib.hid hop
  clear h hx hW hD
  go_enter Try.func66, Try.ntmps66
  go_upto_region 1 with fail
  generalize hWW : w.alloc _ = W at HF0 ⊢
  obtain ⟨bx, hbx⟩ : ∃ bx, bx = w.heap.size := ⟨_, rfl⟩
  rw [← hbx] at HF0 ⊢
  clear hbx hWW
  obtain ⟨⟨c0, c1, c2, c3⟩, ⟨b0, b1, b2, b3, b4, b5, b6, b7⟩⟩ := HF0.out.cells
  obtain ⟨t0, t1, t2, t3, t4, t5, t6, t7, t8, t9, t10⟩ := HF0.out.rs.t HX.out
  have ow := HF0.out.rs.ow.cell HW.out
  have od := HF0.out.rs.dp.cell HD.out
  have nbT : ¬ bx = p.T := fun e => HF0.out.out (.inr (.inr (.inr e)))
  have nbT' : ¬ p.T = bx := fun e => nbT e.symm
  dsimp only at b0 b1 b2 b3 b4 b5 b6 b7 t0 t1 t2 t3 t4 t5 t6 t7 t8 t9 t10
  subst hf
  subst hb
  go_wp2_with fail
  go_ret
  exact RHand.no HF0.out.rs HF0.out.kp
set_option maxHeartbeats 4000000 in
theorem wait_7d {w : World} {p : RPl} {s : RS} (h : RsAt w p s) {t o : Nat} (xcalls : Int) (xopn : Bool) (xop xobj xarg xfar xcode xval : Int) (xflag : Bool) (xsaved xsince : Int) (hx : s.T[t]? = some ⟨xcalls, xopn, xop, xobj, xarg, xfar, xcode, xval, xflag, xsaved, xsince⟩) {own dep : Int} (hW : s.W[o]? = some own) (hD : s.D[o]? = some dep) (bo : Bool) (kind idx code val : Int) (hop : xop = 2 ∨ xop = 3) (hf : xfar = 0) (hb : bo = true) (hg : xflag = false) :
    Calls Try.prog 66 #[rspV p, .pointer (some ⟨p.T, t * 11, none⟩), .bool bo, evV ⟨kind, (t : Int), idx, 7, (o : Int), 0, code, val⟩] w (RHand w p s (ActR s t ⟨xcalls, xopn, xop, xobj, xarg, xfar, xcode, xval, xflag, xsaved, xsince⟩ o own dep ⟨kind, (t : Int), idx, 7, (o : Int), 0, code, val⟩)) := by
  have HX := Lib.hid hx
  have HW := Lib.hid hW
  have HD := Lib.hid hD
  have it := idx_rthrs p.T s.T.length p.cT t (List.getElem?_eq_some_iff.1 hx).1
  have iw := idx_rints p.W s.W.length p.cW o (List.getElem?_eq_some_iff.1 hW).1
  have id' := idx_rints p.D s.D.length p.cD o (List.getElem?_eq_some_iff.1 hD).1
  have HF0 := Lib.hid (RFr.boxed h ⟨kind, (t : Int), idx, 7, (o : Int), 0, code, val⟩)
  have HH := Lib.hid h
  have Hhop := Lib.hid hop
  clear h hx hW hD
  go_enter Try.func66, Try.ntmps66
  go_upto_region 1 with fail
  generalize hWW : w.alloc _ = W at HF0 ⊢
  obtain ⟨bx, hbx⟩ : ∃ bx, bx = w.heap.size := ⟨_, rfl⟩
  rw [← hbx] at HF0 ⊢
  clear hbx hWW
  obtain ⟨⟨c0, c1, c2, c3⟩, ⟨b0, b1, b2, b3, b4, b5, b6, b7⟩⟩ := HF0.out.cells
  obtain ⟨t0, t1, t2, t3, t4, t5, t6, t7, t8, t9, t10⟩ := HF0.out.rs.t HX.out
  have ow := HF0.out.rs.ow.cell HW.out
  have od := HF0.out.rs.dp.cell HD.out
  have nbT : ¬ bx = p.T := fun e => HF0.out.out (.inr (.inr (.inr e)))
  have nbT' : ¬ p.T = bx := fun e => nbT e.symm
  dsimp only at b0 b1 b2 b3 b4 b5 b6 b7 t0 t1 t2 t3 t4 t5 t6 t7 t8 t9 t10
  subst hf
  subst hb
  subst hg
  go_wp2_with fail
  go_ret
  exact RHand.no HF0.out.rs HF0.out.kp
set_option maxHeartbeats 4000000 in
theorem wait_7e {w : World} {p : RPl} {s : RS} (h : RsAt w p s) {t o : Nat} (xcalls : Int) (xopn : Bool) (xop xobj xarg xfar xcode xval : Int) (xflag : Bool) (xsaved xsince : Int) (hx : s.T[t]? = some ⟨xcalls, xopn, xop, xobj, xarg, xfar, xcode, xval, xflag, xsaved, xsince⟩) {own dep : Int} (hW : s.W[o]? = some own) (hD : s.D[o]? = some dep) (bo : Bool) (kind idx code val : Int) (hop : xop = 2 ∨ xop = 3) (hf : xfar = 0) (hb : bo = true) (hg : xflag = true) (hn : own = t) :
    Calls Try.prog 66 #[rspV p, .pointer (some ⟨p.T, t * 11, none⟩), .bool bo, evV ⟨kind, (t : Int), idx, 7, (o : Int), 0, code, val⟩] w (RHand w p s (ActR s t ⟨xcalls, xopn, xop, xobj, xarg, xfar, xcode, xval, xflag, xsaved, xsince⟩ o own dep ⟨kind, (t : Int), idx, 7, (o : Int), 0, code, val⟩)) := by
  have HX := Lib.hid hx
  have HW := Lib.hid hW
  have HD := Lib.hid hD
  have it := idx_rthrs p.T s.T.length p.cT t (List.getElem?_eq_some_iff.1 hx).1
  have iw := idx_rints p.W s.W.length p.cW o (List.getElem?_eq_some_iff.1 hW).1
  have id' := idx_rints p.D s.D.length p.cD o (List.getElem?_eq_some_iff.1 hD).1
  have HF0 := Lib.hid (RFr.boxed h ⟨kind, (t : Int), idx, 7, (o : Int), 0, code, val⟩)
  have HH := Lib.hid h
  have Hhop := Lib.hid hop
  have Hhn := Lib.hid hn
  clear h hx hW hD
  go_enter Try.func66, Try.ntmps66
  go_upto_region 1 with fail
  generalize hWW : w.alloc _ = W at HF0 ⊢
  obtain ⟨bx, hbx⟩ : ∃ bx, bx = w.heap.size := ⟨_, rfl⟩
  rw [← hbx] at HF0 ⊢
  clear hbx hWW
  obtain ⟨⟨c0, c1, c2, c3⟩, ⟨b0, b1, b2, b3, b4, b5, b6, b7⟩⟩ := HF0.out.cells
  obtain ⟨t0, t1, t2, t3, t4, t5, t6, t7, t8, t9, t10⟩ := HF0.out.rs.t HX.out
  have ow := HF0.out.rs.ow.cell HW.out
  have od := HF0.out.rs.dp.cell HD.out
  have nbT : ¬ bx = p.T := fun e => HF0.out.out (.inr (.inr (.inr e)))
  have nbT' : ¬ p.T = bx := fun e => nbT e.symm
  dsimp only at b0 b1 b2 b3 b4 b5 b6 b7 t0 t1 t2 t3 t4 t5 t6 t7 t8 t9 t10
  subst hf
  subst hb
  subst hg
  have fz := HF0.out.rs.fr
  have f5 := fz (t * 11 + 5)
  have f6 := fz (t * 11 + 6)
  have f7 := fz (t * 11 + 7)
  have f8 := fz (t * 11 + 8)
  have f9 := fz (t * 11 + 9)
  have f10 := fz (t * 11 + 10)
  have HF1 := Lib.hid (HF0.out.mod HX.out 8 (.bool false) (fun y => { y with flag := false }) (by omega) rfl)
  go_wp2_with (go_at_call 64; (with_reducible refine (finish_any HF1.out.rs (mod_same HX.out) 0 2).mono ?_); rintro e9 w9 ⟨rfl, h9, k9⟩)
  go_ret
  exact RHand.yes h9 (HF1.out.kp.trans k9) (ActR.clear0 Hhop.out rfl rfl rfl Hhn.out rfl)
set_option maxHeartbeats 4000000 in
theorem wait_7f {w : World} {p : RPl} {s : RS} (h : RsAt w p s) {t o : Nat} (xcalls : Int) (xopn : Bool) (xop xobj xarg xfar xcode xval : Int) (xflag : Bool) (xsaved xsince : Int) (hx : s.T[t]? = some ⟨xcalls, xopn, xop, xobj, xarg, xfar, xcode, xval, xflag, xsaved, xsince⟩) {own dep : Int} (hW : s.W[o]? = some own) (hD : s.D[o]? = some dep) (bo : Bool) (kind idx code val : Int) (hop : xop = 2 ∨ xop = 3) (hf : xfar = 2) (hg : xflag = false) :
    Calls Try.prog 66 #[rspV p, .pointer (some ⟨p.T, t * 11, none⟩), .bool bo, evV ⟨kind, (t : Int), idx, 7, (o : Int), 0, code, val⟩] w (RHand w p s (ActR s t ⟨xcalls, xopn, xop, xobj, xarg, xfar, xcode, xval, xflag, xsaved, xsince⟩ o own dep ⟨kind, (t : Int), idx, 7, (o : Int), 0, code, val⟩)) := by
  have HX := Lib.hid hx
  have HW := Lib.hid hW
  have HD := Lib.hid hD
  have it := idx_rthrs p.T s.T.length p.cT t (List.getElem?_eq_some_iff.1 hx).1
  have iw := idx_rints p.W s.W.length p.cW o (List.getElem?_eq_some_iff.1 hW).1
  have id' := idx_rints p.D s.D.length p.cD o (List.getElem?_eq_some_iff.1 hD).1
  have HF0 := Lib.hid (RFr.boxed h ⟨kind, (t : Int), idx, 7, (o : Int), 0, code, val⟩)
  have HH := Lib.hid h
  have Hhop := Lib.hid hop
  clear h hx hW hD
  go_enter Try.func66, Try.ntmps66
  go_upto_region 1 with fail
  generalize hWW : w.alloc _ = W at HF0 ⊢
  obtain ⟨bx, hbx⟩ : ∃ bx, bx = w.heap.size := ⟨_, rfl⟩
  rw [← hbx] at HF0 ⊢
  clear hbx hWW
  obtain ⟨⟨c0, c1, c2, c3⟩, ⟨b0, b1, b2, b3, b4, b5, b6, b7⟩⟩ := HF0.out.cells
  obtain ⟨t0, t1, t2, t3, t4, t5, t6, t7, t8, t9, t10⟩ := HF0.out.rs.t HX.out
  have ow := HF0.out.rs.ow.cell HW.out
  have od := HF0.out.rs.dp.cell HD.out
  have nbT : ¬ bx = p.T := fun e => HF0.out.out (.inr (.inr (.inr e)))
  have nbT' : ¬ p.T = bx := fun e => nbT e.symm
  dsimp only at b0 b1 b2 b3 b4 b5 b6 b7 t0 t1 t2 t3 t4 t5 t6 t7 t8 t9 t10
  subst hf
  subst hg
  go_wp2_with fail
  go_ret
  exact RHand.no HF0.out.rs HF0.out.kp
set_option maxHeartbeats 4000000 in
theorem wait_7g {w : World} {p : RPl} {s : RS} (h : RsAt w p s) {t o : Nat} (xcalls : Int) (xopn : Bool) (xop xobj xarg xfar xcode xval : Int) (xflag : Bool) (xsaved xsince : Int) (hx : s.T[t]? = some ⟨xcalls, xopn, xop, xobj, xarg, xfar, xcode, xval, xflag, xsaved, xsince⟩) {own dep : Int} (hW : s.W[o]? = some own) (hD : s.D[o]? = some dep) (bo : Bool) (kind idx code val : Int) (hop : xop = 2 ∨ xop = 3) (hf : xfar = 2) (hg : xflag = true) :
    Calls Try.prog 66 #[rspV p, .pointer (some ⟨p.T, t * 11, none⟩), .bool bo, evV ⟨kind, (t : Int), idx, 7, (o : Int), 0, code, val⟩] w (RHand w p s (ActR s t ⟨xcalls, xopn, xop, xobj, xarg, xfar, xcode, xval, xflag, xsaved, xsince⟩ o own dep ⟨kind, (t : Int), idx, 7, (o : Int), 0, code, val⟩)) := by
  have HX := Lib.hid hx
  have HW := Lib.hid hW
  have HD := Lib.hid hD
  have it := idx_rthrs p.T s.T.length p.cT t (List.getElem?_eq_some_iff.1 hx).1
  have iw := idx_rints p.W s.W.length p.cW o (List.getElem?_eq_some_iff.1 hW).1
  have id' := idx_rints p.D s.D.length p.cD o (List.getElem?_eq_some_iff.1 hD).1
  have HF0 := Lib.hid (RFr.boxed h ⟨kind, (t : Int), idx, 7, (o : Int), 0, code, val⟩)
  have HH := Lib.hid h
  have Hhop := Lib.hid hop
  clear h hx hW hD
  go_enter Try.func66, Try.ntmps66
  go_upto_region 1 with fail
  generalize hWW : w.alloc _ = W at HF0 ⊢
  obtain ⟨bx, hbx⟩ : ∃ bx, bx = w.heap.size := ⟨_, rfl⟩
  rw [← hbx] at HF0 ⊢
  clear hbx hWW
  obtain ⟨⟨c0, c1, c2, c3⟩, ⟨b0, b1, b2, b3, b4, b5, b6, b7⟩⟩ := HF0.out.cells
  obtain ⟨t0, t1, t2, t3, t4, t5, t6, t7, t8, t9, t10⟩ := HF0.out.rs.t HX.out
  have ow := HF0.out.rs.ow.cell HW.out
  have od := HF0.out.rs.dp.cell HD.out
  have nbT : ¬ bx = p.T := fun e => HF0.out.out (.inr (.inr (.inr e)))
  have nbT' : ¬ p.T = bx := fun e => nbT e.symm
  dsimp only at b0 b1 b2 b3 b4 b5 b6 b7 t0 t1 t2 t3 t4 t5 t6 t7 t8 t9 t10
  subst hf
  subst hg
  have fz := HF0.out.rs.fr
  have f5 := fz (t * 11 + 5)
  have f6 := fz (t * 11 + 6)
  have f7 := fz (t * 11 + 7)
  have f8 := fz (t * 11 + 8)
  have f9 := fz (t * 11 + 9)
  have f10 := fz (t * 11 + 10)
  have HF1 := Lib.hid ((HF0.out.mod HX.out 8 (.bool false) (fun y => { y with flag := false }) (by omega) rfl).mod (mod_same HX.out) 5 (.int .i64 3) (fun y => { y with far := 3 }) (by omega) rfl)
  go_wp2_with fail
  go_ret
  have h9 := HF1.out.rs
  rw [mod_mod] at h9
  exact RHand.yes h9 HF1.out.kp (ActR.clear2 Hhop.out rfl rfl rfl rfl)
set_option maxHeartbeats 4000000 in
theorem wait_2a {w : World} {p : RPl} {s : RS} (h : RsAt w p s) {t o : Nat} (xcalls : Int) (xopn : Bool) (xop xobj xarg xfar xcode xval : Int) (xflag : Bool) (xsaved xsince : Int) (hx : s.T[t]? = some ⟨xcalls, xopn, xop, xobj, xarg, xfar, xcode, xval, xflag, xsaved, xsince⟩) {own dep : Int} (hW : s.W[o]? = some own) (hD : s.D[o]? = some dep) (bo : Bool) (kind idx oth code val : Int) (hop : xop = 2 ∨ xop = 3) (hc : (oth == 0) = false) :
    Calls Try.prog 66 #[rspV p, .pointer (some ⟨p.T, t * 11, none⟩), .bool bo, evV ⟨kind, (t : Int), idx, 2, (o : Int), oth, code, val⟩] w (RHand w p s (ActR s t ⟨xcalls, xopn, xop, xobj, xarg, xfar, xcode, xval, xflag, xsaved, xsince⟩ o own dep ⟨kind, (t : Int), idx, 2, (o : Int), oth, code, val⟩)) := by
  have HX := Lib.hid hx
  have HW := Lib.hid hW
  have HD := Lib.hid hD
  have it := idx_rthrs p.T s.T.length p.cT t (List.getElem?_eq_some_iff.1 hx).1
  have iw := idx_rints p.W s.W.length p.cW o (List.getElem?_eq_some_iff.1 hW).1
  have id' := idx_rints p.D s.D.length p.cD o (List.getElem?_eq_some_iff.1 hD).1
  have HF0 := Lib.hid (RFr.boxed h ⟨kind, (t : Int), idx, 2, (o : Int), oth, code, val⟩)
  have HH := Lib.hid h
  have Hhop := Lib.hid hop
  clear h hx hW hD
  go_enter Try.func66, Try.ntmps66
  go_upto_region 1 with fail
  generalize hWW : w.alloc _ = W at HF0 ⊢
  obtain ⟨bx, hbx⟩ : ∃ bx, bx = w.heap.size := ⟨_, rfl⟩
  rw [← hbx] at HF0 ⊢
  clear hbx hWW
  obtain ⟨⟨c0, c1, c2, c3⟩, ⟨b0, b1, b2, b3, b4, b5, b6, b7⟩⟩ := HF0.out.cells
  obtain ⟨t0, t1, t2, t3, t4, t5, t6, t7, t8, t9, t10⟩ := HF0.out.rs.t HX.out
  have ow := HF0.out.rs.ow.cell HW.out
  have od := HF0.out.rs.dp.cell HD.out
  have nbT : ¬ bx = p.T := fun e => HF0.out.out (.inr (.inr (.inr e)))
  have nbT' : ¬ p.T = bx := fun e => nbT e.symm
  dsimp only at b0 b1 b2 b3 b4 b5 b6 b7 t0 t1 t2 t3 t4 t5 t6 t7 t8 t9 t10
  go_wp2_with fail
  go_ret
  exact RHand.no HF0.out.rs HF0.out.kp
set_option maxHeartbeats 4000000 in
theorem wait_2b {w : World} {p : RPl} {s : RS} (h : RsAt w p s) {t o : Nat} (xcalls : Int) (xopn : Bool) (xop xobj xarg xfar xcode xval : Int) (xflag : Bool) (xsaved xsince : Int) (hx : s.T[t]? = some ⟨xcalls, xopn, xop, xobj, xarg, xfar, xcode, xval, xflag, xsaved, xsince⟩) {own dep : Int} (hW : s.W[o]? = some own) (hD : s.D[o]? = some dep) (bo : Bool) (kind idx code val : Int) (hop : xop = 2 ∨ xop = 3) (hc : (xfar == 0) = false) :
    Calls Try.prog 66 #[rspV p, .pointer (some ⟨p.T, t * 11, none⟩), .bool bo, evV ⟨kind, (t : Int), idx, 2, (o : Int), 0, code, val⟩] w (RHand w p s (ActR s t ⟨xcalls, xopn, xop, xobj, xarg, xfar, xcode, xval, xflag, xsaved, xsince⟩ o own dep ⟨kind, (t : Int), idx, 2, (o : Int), 0, code, val⟩)) := by
  have HX := Lib.hid hx
  have HW := Lib.hid hW
  have HD := Lib.hid hD
  have it := idx_rthrs p.T s.T.length p.cT t (List.getElem?_eq_some_iff.1 hx).1
  have iw := idx_rints p.W s.W.length p.cW o (List.getElem?_eq_some_iff.1 hW).1
  have id' := idx_rints p.D s.D.length p.cD o (List.getElem?_eq_some_iff.1 hD).1
  have HF0 := Lib.hid (RFr.boxed h ⟨kind, (t : Int), idx, 2, (o : Int), 0, code, val⟩)
  have HH := Lib.hid h
  have Hhop := Lib.hid hop
  clear h hx hW hD
  go_enter Try.func66, Try.ntmps66
  go_upto_region 1 with fail
  generalize hWW : w.alloc _ = W at HF0 ⊢
  obtain ⟨bx, hbx⟩ : ∃ bx, bx = w.heap.size := ⟨_, rfl⟩
  rw [← hbx] at HF0 ⊢
  clear hbx hWW
  obtain ⟨⟨c0, c1, c2, c3⟩, ⟨b0, b1, b2, b3, b4, b5, b6, b7⟩⟩ := HF0.out.cells
  obtain ⟨t0, t1, t2, t3, t4, t5, t6, t7, t8, t9, t10⟩ := HF0.out.rs.t HX.out
  have ow := HF0.out.rs.ow.cell HW.out
  have od := HF0.out.rs.dp.cell HD.out
  have nbT : ¬ bx = p.T := fun e => HF0.out.out (.inr (.inr (.inr e)))
  have nbT' : ¬ p.T = bx := fun e => nbT e.symm
  dsimp only at b0 b1 b2 b3 b4 b5 b6 b7 t0 t1 t2 t3 t4 t5 t6 t7 t8 t9 t10
  go_wp2_with fail
  go_ret
  exact RHand.no HF0.out.rs HF0.out.kp
set_option maxHeartbeats 4000000 in
theorem wait_2c {w : World} {p : RPl} {s : RS} (h : RsAt w p s) {t o : Nat} (xcalls : Int) (xopn : Bool) (xop xobj xarg xfar xcode xval : Int) (xflag : Bool) (xsaved xsince : Int) (hx : s.T[t]? = some ⟨xcalls, xopn, xop, xobj, xarg, xfar, xcode, xval, xflag, xsaved, xsince⟩) {own dep : Int} (hW : s.W[o]? = some own) (hD : s.D[o]? = some dep) (bo : Bool) (kind idx code val : Int) (hop : xop = 2 ∨ xop = 3) (hf : xfar = 0) (hb : bo = false) :
    Calls Try.prog 66 #[rspV p, .pointer (some ⟨p.T, t * 11, none⟩), .bool bo, evV ⟨kind, (t : Int), idx, 2, (o : Int), 0, code, val⟩] w (RHand w p s (ActR s t ⟨xcalls, xopn, xop, xobj, xarg, xfar, xcode, xval, xflag, xsaved, xsince⟩ o own dep ⟨kind, (t : Int), idx, 2, (o : Int), 0, code, val⟩)) := by
  have HX := Lib.hid hx
  have HW := Lib.hid hW
  have HD := Lib.hid hD
  have it := idx_rthrs p.T s.T.length p.cT t (List.getElem?_eq_some_iff.1 hx).1
  have iw := idx_rints p.W s.W.length p.cW o (List.getElem?_eq_some_iff.1 hW).1
  have id' := idx_rints p.D s.D.length p.cD o (List.getElem?_eq_some_iff.1 hD).1
  have HF0 := Lib.hid (RFr.boxed h ⟨kind, (t : Int), idx, 2, (o : Int), 0, code, val⟩)
  have HH := Lib.hid h
  have Hhop := Lib.hid hop
  clear h hx hW hD
  go_enter Try.func66, Try.ntmps66
  go_upto_region 1 with fail
  generalize hWW : w.alloc _ = W at HF0 ⊢
  obtain ⟨bx, hbx⟩ : ∃ bx, bx = w.heap.size := ⟨_, rfl⟩
  rw [← hbx] at HF0 ⊢
  clear hbx hWW
  obtain ⟨⟨c0, c1, c2, c3⟩, ⟨b0, b1, b2, b3, b4, b5, b6, b7⟩⟩ := HF0.out.cells
  obtain ⟨t0, t1, t2, t3, t4, t5, t6, t7, t8, t9, t10⟩ := HF0.out.rs.t HX.out
  have ow := HF0.out.rs.ow.cell HW.out
  have od := HF0.out.rs.dp.cell HD.out
  have nbT : ¬ bx = p.T := fun e => HF0.out.out (.inr (.inr (.inr e)))
  have nbT' : ¬ p.T = bx := fun e => nbT e.symm
  dsimp only at b0 b1 b2 b3 b4 b5 b6 b7 t0 t1 t2 t3 t4 t5 t6 t7 t8 t9 t10
  subst hf
  subst hb
  go_wp2_with fail
  go_ret
  exact RHand.no HF0.out.rs HF0.out.kp
set_option maxHeartbeats 4000000 in
theorem wait_2d {w : World} {p : RPl} {s : RS} (h : RsAt w p s) {t o : Nat} (xcalls : Int) (xopn : Bool) (xop xobj xarg xfar xcode xval : Int) (xflag : Bool) (xsaved xsince : Int) (hx : s.T[t]? = some ⟨xcalls, xopn, xop, xobj, xarg, xfar, xcode, xval, xflag, xsaved, xsince⟩) {own dep : Int} (hW : s.W[o]? = some own) (hD : s.D[o]? = some dep) (bo : Bool) (kind idx code val : Int) (hop : xop = 2 ∨ xop = 3) (hf : xfar = 0) (hb : bo = true) (hn : own = t) :
    Calls Try.prog 66 #[rspV p, .pointer (some ⟨p.T, t * 11, none⟩), .bool bo, evV ⟨kind, (t : Int), idx, 2, (o : Int), 0, code, val⟩] w (RHand w p s (ActR s t ⟨xcalls, xopn, xop, xobj, xarg, xfar, xcode, xval, xflag, xsaved, xsince⟩ o own dep ⟨kind, (t : Int), idx, 2, (o : Int), 0, code, val⟩)) := by
  have HX := Lib.hid hx
  have HW := Lib.hid hW
  have HD := Lib.hid hD
  have it := idx_rthrs p.T s.T.length p.cT t (List.getElem?_eq_some_iff.1 hx).1
  have iw := idx_rints p.W s.W.length p.cW o (List.getElem?_eq_some_iff.1 hW).1
  have id' := idx_rints p.D s.D.length p.cD o (List.getElem?_eq_some_iff.1 hD).1
  have HF0 := Lib.hid (RFr.boxed h ⟨kind, (t : Int), idx, 2, (o : Int), 0, code, val⟩)
  have HH := Lib.hid h
  have Hhop := Lib.hid hop
  have Hhn := Lib.hid hn
  clear h hx hW hD
  go_enter Try.func66, Try.ntmps66
  go_upto_region 1 with fail
  generalize hWW : w.alloc _ = W at HF0 ⊢
  obtain ⟨bx, hbx⟩ : ∃ bx, bx = w.heap.size := ⟨_, rfl⟩
  rw [← hbx] at HF0 ⊢
  clear hbx hWW
  obtain ⟨⟨c0, c1, c2, c3⟩, ⟨b0, b1, b2, b3, b4, b5, b6, b7⟩⟩ := HF0.out.cells
  obtain ⟨t0, t1, t2, t3, t4, t5, t6, t7, t8, t9, t10⟩ := HF0.out.rs.t HX.out
  have ow := HF0.out.rs.ow.cell HW.out
  have od := HF0.out.rs.dp.cell HD.out
  have nbT : ¬ bx = p.T := fun e => HF0.out.out (.inr (.inr (.inr e)))
  have nbT' : ¬ p.T = bx := fun e => nbT e.symm
  dsimp only at b0 b1 b2 b3 b4 b5 b6 b7 t0 t1 t2 t3 t4 t5 t6 t7 t8 t9 t10
  subst hf
  subst hb
  have fz := HF0.out.rs.fr
  have f5 := fz (t * 11 + 5)
  have f6 := fz (t * 11 + 6)
  have f7 := fz (t * 11 + 7)
  have f8 := fz (t * 11 + 8)
  have f9 := fz (t * 11 + 9)
  have f10 := fz (t * 11 + 10)
  have HF1 := Lib.hid (HF0.out.mod HX.out 9 (.int .i64 dep) (fun y => { y with saved := dep }) (by omega) rfl)
  go_upto_region 9 with fail
  clear c0 c1 c2 c3 b0 b1 b2 b3 b4 b5 b6 b7 t0 t1 t2 t3 t4 t5 t6 t7 t8 t9 t10 ow od
  clear f5 f6 f7 f8 f9 f10 fz
  generalize hW2 : W.setCell _ _ = W2 at HF1 ⊢
  clear hW2
  have HF2 := Lib.hid HF1.out.drew
  refine wp_region_held_drew (S := (fun (V : World) => V.cell? ⟨p.P, 0, none⟩ = some (.slice (some ⟨p.W, 0, none⟩) s.W.length p.cW) ∧ V.cell? ⟨p.P, 1, none⟩ = some (.slice (some ⟨p.D, 0, none⟩) s.D.length p.cD))) (by kernel_rfl) (⟨HF2.out.rs.c.c0, HF2.out.rs.c.c1⟩) (fun hHeld => ?_)
  generalize hW3 : W2.drew = W3 at HF2 hHeld ⊢
  clear hW3
  have HS2 := Lib.hid (HF2.out.setW (o := o) HW.out (-1))
  have HF3 := Lib.hid (HS2.out.setD (o := o) HD.out 0)
  have ow := HF2.out.rs.ow.cell (i := o) HW.out
  have od := HS2.out.rs.dp.cell (i := o) HD.out
  have fw := HF2.out.rs.ow.free o
  have fd := HS2.out.rs.dp.free o
  have SH2 : (fun (V : World) => V.cell? ⟨p.P, 0, none⟩ = some (.slice (some ⟨p.W, 0, none⟩) s.W.length p.cW) ∧ V.cell? ⟨p.P, 1, none⟩ = some (.slice (some ⟨p.D, 0, none⟩) s.D.length p.cD)) _ := (by have z := HS2.out.rs.c; simpa [RS.setW, RS.setD, RS.mod] using And.intro z.c0 z.c1)
  have SH3 : (fun (V : World) => V.cell? ⟨p.P, 0, none⟩ = some (.slice (some ⟨p.W, 0, none⟩) s.W.length p.cW) ∧ V.cell? ⟨p.P, 1, none⟩ = some (.slice (some ⟨p.D, 0, none⟩) s.D.length p.cD)) _ := (by have z := HF3.out.rs.c; simpa [RS.setW, RS.setD, RS.mod] using And.intro z.c0 z.c1)
  refine wpAnyH_take (i := 0) (oi := { dst := some 101, op := Op.move (Operand.tmp 0), type := 75, pos := "ref.go:97", after := #[], guard := none }) (v := ?_) rfl (by kernel_rfl) (by kernel_rfl) (by kernel_rfl) (fun _ _ _ h => h) (Or.inl ⟨by rfl, ?_⟩) (by assumption) ?_
  rotate_left
  · intro w hSw; (try dsimp only at hSw); go_simp; try with_reducible rfl
  (try simp only [Act.put, List.setIfInBounds_toArray, List.set_cons_zero, List.set_cons_succ])
  refine wpAnyH_take (i := 1) (oi := { dst := some 102, op := Op.nilCheck (Operand.tmp 101), type := 0, pos := "ref.go:97", after := #[{ on := 0, ground := Ground.data }], guard := none }) (v := ?_) rfl (by kernel_rfl) (by kernel_rfl) (by kernel_rfl) (fun _ _ _ h => h) (Or.inl ⟨by rfl, ?_⟩) (by assumption) ?_
  rotate_left
  · intro w hSw; (try dsimp only at hSw); go_simp; try with_reducible rfl
  (try simp only [Act.put, List.setIfInBounds_toArray, List.set_cons_zero, List.set_cons_succ])
  refine wpAnyH_take (i := 2) (oi := { dst := some 103, op := Op.fieldAddr 89 (Operand.tmp 102) 0, type := 0, pos := "ref.go:97", after := #[{ on := 1, ground := Ground.data }], guard := none }) (v := ?_) rfl (by kernel_rfl) (by kernel_rfl) (by kernel_rfl) (fun _ _ _ h => h) (Or.inl ⟨by rfl, ?_⟩) (by assumption) ?_
  rotate_left
  · intro w hSw; (try dsimp only at hSw); go_simp; try with_reducible rfl
  (try simp only [Act.put, List.setIfInBounds_toArray, List.set_cons_zero, List.set_cons_succ])
  refine wpAnyH_take (i := 3) (oi := { dst := some 104, op := Op.load 30 (Operand.tmp 103), type := 30, pos := "ref.go:97", after := #[{ on := 2, ground := Ground.data }], guard := none }) (v := ?_) rfl (by kernel_rfl) (by kernel_rfl) (by kernel_rfl) (fun _ _ _ h => h) (Or.inl ⟨by rfl, ?_⟩) (by assumption) ?_
  rotate_left
  · intro w hSw; (try dsimp only at hSw); go_simp; try with_reducible rfl
  (try simp only [Act.put, List.setIfInBounds_toArray, List.set_cons_zero, List.set_cons_succ])
  refine wpAnyH_take (i := 4) (oi := { dst := some 105, op := Op.move (Operand.tmp 9), type := 3, pos := "ref.go:97", after := #[], guard := none }) (v := ?_) rfl (by kernel_rfl) (by kernel_rfl) (by kernel_rfl) (fun _ _ _ h => h) (Or.inl ⟨by rfl, ?_⟩) (by assumption) ?_
  rotate_left
  · intro w hSw; (try dsimp only at hSw); go_simp; try with_reducible rfl
  (try simp only [Act.put, List.setIfInBounds_toArray, List.set_cons_zero, List.set_cons_succ])
  refine wpAnyH_take (i := 5) (oi := { dst := some 106, op := Op.move (Operand.tmp 0), type := 75, pos := "ref.go:97", after := #[], guard := none }) (v := ?_) rfl (by kernel_rfl) (by kernel_rfl) (by kernel_rfl) (fun _ _ _ h => h) (Or.inl ⟨by rfl, ?_⟩) (by assumption) ?_
  rotate_left
  · intro w hSw; (try dsimp only at hSw); go_simp; try with_reducible rfl
  (try simp only [Act.put, List.setIfInBounds_toArray, List.set_cons_zero, List.set_cons_succ])
  refine wpAnyH_take (i := 6) (oi := { dst := some 107, op := Op.nilCheck (Operand.tmp 106), type := 0, pos := "ref.go:97", after := #[{ on := 5, ground := Ground.data }], guard := none }) (v := ?_) rfl (by kernel_rfl) (by kernel_rfl) (by kernel_rfl) (fun _ _ _ h => h) (Or.inl ⟨by rfl, ?_⟩) (by assumption) ?_
  rotate_left
  · intro w hSw; (try dsimp only at hSw); go_simp; try with_reducible rfl
  (try simp only [Act.put, List.setIfInBounds_toArray, List.set_cons_zero, List.set_cons_succ])
  refine wpAnyH_take (i := 7) (oi := { dst := some 108, op := Op.fieldAddr 89 (Operand.tmp 107) 1, type := 0, pos := "ref.go:97", after := #[{ on := 6, ground := Ground.data }], guard := none }) (v := ?_) rfl (by kernel_rfl) (by kernel_rfl) (by kernel_rfl) (fun _ _ _ h => h) (Or.inl ⟨by rfl, ?_⟩) (by assumption) ?_
  rotate_left
  · intro w hSw; (try dsimp only at hSw); go_simp; try with_reducible rfl
  (try simp only [Act.put, List.setIfInBounds_toArray, List.set_cons_zero, List.set_cons_succ])
  refine wpAnyH_take (i := 8) (oi := { dst := some 109, op := Op.load 30 (Operand.tmp 108), type := 30, pos := "ref.go:97", after := #[{ on := 7, ground := Ground.data }], guard := none }) (v := ?_) rfl (by kernel_rfl) (by kernel_rfl) (by kernel_rfl) (fun _ _ _ h => h) (Or.inl ⟨by rfl, ?_⟩) (by assumption) ?_
  rotate_left
  · intro w hSw; (try dsimp only at hSw); go_simp; try with_reducible rfl
  (try simp only [Act.put, List.setIfInBounds_toArray, List.set_cons_zero, List.set_cons_succ])
  refine wpAnyH_take (i := 9) (oi := { dst := some 110, op := Op.move (Operand.tmp 9), type := 3, pos := "ref.go:97", after := #[{ on := 11, ground := Ground.gcOnly Departure.lateStores }], guard := none }) (v := ?_) rfl (by kernel_rfl) (by kernel_rfl) (by kernel_rfl) (fun _ _ _ h => h) (Or.inl ⟨by rfl, ?_⟩) (by assumption) ?_
  rotate_left
  · intro w hSw; (try dsimp only at hSw); go_simp; try with_reducible rfl
  (try simp only [Act.put, List.setIfInBounds_toArray, List.set_cons_zero, List.set_cons_succ])
  refine wpAnyH_take (i := 10) (oi := { dst := some 111, op := Op.indexAddr 30 (Operand.tmp 104) (Operand.tmp 105), type := 0, pos := "ref.go:97", after := #[{ on := 3, ground := Ground.data }, { on := 4, ground := Ground.data }, { on := 0, ground := Ground.phase }, { on := 1, ground := Ground.phase }, { on := 2, ground := Ground.phase }, { on := 3, ground := Ground.phase }, { on := 4, ground := Ground.phase }, { on := 5, ground := Ground.textOnly Departure.lateStores }, { on := 6, ground := Ground.textOnly Departure.lateStoresUnsure }, { on := 7, ground := Ground.textOnly Departure.lateStoresUnsure }, { on := 8, ground := Ground.phase }, { on := 9, ground := Ground.textOnly Departure.lateStores }], guard := none }) (v := ?_) rfl (by kernel_rfl) (by kernel_rfl) (by kernel_rfl) (fun _ _ _ h => h) (Or.inl ⟨by rfl, ?_⟩) (by assumption) ?_
  rotate_left
  · intro w hSw; (try dsimp only at hSw); go_simp; try with_reducible rfl
  (try simp only [Act.put, List.setIfInBounds_toArray, List.set_cons_zero, List.set_cons_succ])
  refine wpAnyH_ready (rs := [11]) (by kernel_rfl) (by simp) ?_
  refine AllReadyH.cons rfl (fun K hK => ?_) AllReadyH.nil
  go_simp
  go_wp2_with fail
  refine hK.out _ _ (SH2) (fun hHeld => ?_)
  clear hK K
  (try dsimp only [Act.put]); (try simp only [Act.put, List.setIfInBounds_toArray, List.set_cons_zero, List.set_cons_succ])
  refine wpAnyH_take (i := 12) (oi := { dst := some 112, op := Op.indexAddr 30 (Operand.tmp 109) (Operand.tmp 110), type := 0, pos := "ref.go:97", after := #[{ on := 8, ground := Ground.data }, { on := 9, ground := Ground.data }, { on := 0, ground := Ground.phase }, { on := 1, ground := Ground.phase }, { on := 2, ground := Ground.phase }, { on := 3, ground := Ground.phase }, { on := 4, ground := Ground.phase }, { on := 5, ground := Ground.phase }, { on := 6, ground := Ground.phase }, { on := 7, ground := Ground.phase }, { on := 8, ground := Ground.phase }, { on := 9, ground := Ground.phase }, { on := 10, ground := Ground.phase }, { on := 11, ground := Ground.phase }], guard := none }) (v := ?_) rfl (by kernel_rfl) (by kernel_rfl) (by kernel_rfl) (fun _ _ _ h => h) (Or.inl ⟨by rfl, ?_⟩) (by assumption) ?_
  rotate_left
  · intro w hSw; (try dsimp only at hSw); go_simp; try with_reducible rfl
  (try simp only [Act.put, List.setIfInBounds_toArray, List.set_cons_zero, List.set_cons_succ])
  refine wpAnyH_ready (rs := [13]) (by kernel_rfl) (by simp) ?_
  refine AllReadyH.cons rfl (fun K hK => ?_) AllReadyH.nil
  go_simp
  go_wp2_with fail
  refine hK.out _ _ (SH3) (fun hHeld => ?_)
  clear hK K
  (try dsimp only [Act.put]); (try simp only [Act.put, List.setIfInBounds_toArray, List.set_cons_zero, List.set_cons_succ])
  refine wpAnyH_done (by kernel_rfl) ?_ _
  generalize hW4 : World.setCell _ _ _ = W4 at HF3 ⊢
  clear hW4 hHeld
  clear ow od fw fd
  have HF4 := Lib.hid (HF3.out.setRel (wrap64 (s.rel + 1)))
  have c3 := HF3.out.rs.c.c3
  have f3 := HF3.out.rs.own.free 3
  dsimp only [RS.setD, RS.setW, RS.mod] at c3
  go_upto_region 11 with fail
  clear c3 f3
  generalize hW5 : World.setCell _ _ _ = W5 at HF4 ⊢
  clear hW5
  have c3 := HF4.out.rs.c.c3
  dsimp only at c3
  have f5 := HF4.out.rs.fr (t * 11 + 5)
  have f10 := HF4.out.rs.fr (t * 11 + 10)
  have q := HF4.out.rs.t (mod_same HX.out)
  have q5 := q.far
  have q10 := q.since
  dsimp only at q5 q10
  have HF5 := Lib.hid ((HF4.out.mod (mod_same HX.out) 10 (.int .i64 (wrap64 (s.rel + 1))) (fun y => { y with since := wrap64 (s.rel + 1) }) (by omega) rfl).mod (mod_same (mod_same HX.out)) 5 (.int .i64 2) (fun y => { y with far := 2 }) (by omega) rfl)
  go_wp2_with fail
  go_ret
  have h9 := HF5.out.rs
  rw [mod_mod] at h9
  exact RHand.yes h9 HF5.out.kp (ActR.release Hhop.out rfl rfl rfl (by first | exact Hhn.out | rfl))
set_option maxHeartbeats 4000000 in
theorem wait_4a {w : World} {p : RPl} {s : RS} (h : RsAt w p s) {t o : Nat} (xcalls : Int) (xopn : Bool) (xop xobj xarg xfar xcode xval : Int) (xflag : Bool) (xsaved xsince : Int) (hx : s.T[t]? = some ⟨xcalls, xopn, xop, xobj, xarg, xfar, xcode, xval, xflag, xsaved, xsince⟩) {own dep : Int} (hW : s.W[o]? = some own) (hD : s.D[o]? = some dep) (bo : Bool) (kind idx oth code val : Int) (hop : xop = 2 ∨ xop = 3) (h1 : (xfar == 2) = false) (h2 : (xfar == 3) = false) (h3 : (xfar != 3) = true) :
    Calls Try.prog 66 #[rspV p, .pointer (some ⟨p.T, t * 11, none⟩), .bool bo, evV ⟨kind, (t : Int), idx, 4, (o : Int), oth, code, val⟩] w (RHand w p s (ActR s t ⟨xcalls, xopn, xop, xobj, xarg, xfar, xcode, xval, xflag, xsaved, xsince⟩ o own dep ⟨kind, (t : Int), idx, 4, (o : Int), oth, code, val⟩)) := by
  have HX := Lib.hid hx
  have HW := Lib.hid hW
  have HD := Lib.hid hD
  have it := idx_rthrs p.T s.T.length p.cT t (List.getElem?_eq_some_iff.1 hx).1
  have iw := idx_rints p.W s.W.length p.cW o (List.getElem?_eq_some_iff.1 hW).1
  have id' := idx_rints p.D s.D.length p.cD o (List.getElem?_eq_some_iff.1 hD).1
  have HF0 := Lib.hid (RFr.boxed h ⟨kind, (t : Int), idx, 4, (o : Int), oth, code, val⟩)
  have HH := Lib.hid h
  have Hhop := Lib.hid hop
  clear h hx hW hD
  go_enter Try.func66, Try.ntmps66
  go_upto_region 1 with fail
  generalize hWW : w.alloc _ = W at HF0 ⊢
  obtain ⟨bx, hbx⟩ : ∃ bx, bx = w.heap.size := ⟨_, rfl⟩
  rw [← hbx] at HF0 ⊢
  clear hbx hWW
  obtain ⟨⟨c0, c1, c2, c3⟩, ⟨b0, b1, b2, b3, b4, b5, b6, b7⟩⟩ := HF0.out.cells
  obtain ⟨t0, t1, t2, t3, t4, t5, t6, t7, t8, t9, t10⟩ := HF0.out.rs.t HX.out
  have ow := HF0.out.rs.ow.cell HW.out
  have od := HF0.out.rs.dp.cell HD.out
  have nbT : ¬ bx = p.T := fun e => HF0.out.out (.inr (.inr (.inr e)))
  have nbT' : ¬ p.T = bx := fun e => nbT e.symm
  dsimp only at b0 b1 b2 b3 b4 b5 b6 b7 t0 t1 t2 t3 t4 t5 t6 t7 t8 t9 t10
  go_wp2_with fail
  go_ret
  exact RHand.no HF0.out.rs HF0.out.kp
set_option maxHeartbeats 4000000 in
theorem wait_4b {w : World} {p : RPl} {s : RS} (h : RsAt w p s) {t o : Nat} (xcalls : Int) (xopn : Bool) (xop xobj xarg xfar xcode xval : Int) (xflag : Bool) (xsaved xsince : Int) (hx : s.T[t]? = some ⟨xcalls, xopn, xop, xobj, xarg, xfar, xcode, xval, xflag, xsaved, xsince⟩) {own dep : Int} (hW : s.W[o]? = some own) (hD : s.D[o]? = some dep) (bo : Bool) (kind idx oth code val : Int) (hop : xop = 2 ∨ xop = 3) (hf : xfar = 2) (h2 : (oth == 3) = false) (h3 : (oth == 1) = false) :
    Calls Try.prog 66 #[rspV p, .pointer (some ⟨p.T, t * 11, none⟩), .bool bo, evV ⟨kind, (t : Int), idx, 4, (o : Int), oth, code, val⟩] w (RHand w p s (ActR s t ⟨xcalls, xopn, xop, xobj, xarg, xfar, xcode, xval, xflag, xsaved, xsince⟩ o own dep ⟨kind, (t : Int), idx, 4, (o : Int), oth, code, val⟩)) := by
  have HX := Lib.hid hx
  have HW := Lib.hid hW
  have HD := Lib.hid hD
  have it := idx_rthrs p.T s.T.length p.cT t (List.getElem?_eq_some_iff.1 hx).1
  have iw := idx_rints p.W s.W.length p.cW o (List.getElem?_eq_some_iff.1 hW).1
  have id' := idx_rints p.D s.D.length p.cD o (List.getElem?_eq_some_iff.1 hD).1
  have HF0 := Lib.hid (RFr.boxed h ⟨kind, (t : Int), idx, 4, (o : Int), oth, code, val⟩)
  have HH := Lib.hid h
  have Hhop := Lib.hid hop
  clear h hx hW hD
  go_enter Try.func66, Try.ntmps66
  go_upto_region 1 with fail
  generalize hWW : w.alloc _ = W at HF0 ⊢
  obtain ⟨bx, hbx⟩ : ∃ bx, bx = w.heap.size := ⟨_, rfl⟩
  rw [← hbx] at HF0 ⊢
  clear hbx hWW
  obtain ⟨⟨c0, c1, c2, c3⟩, ⟨b0, b1, b2, b3, b4, b5, b6, b7⟩⟩ := HF0.out.cells
  obtain ⟨t0, t1, t2, t3, t4, t5, t6, t7, t8, t9, t10⟩ := HF0.out.rs.t HX.out
  have ow := HF0.out.rs.ow.cell HW.out
  have od := HF0.out.rs.dp.cell HD.out
  have nbT : ¬ bx = p.T := fun e => HF0.out.out (.inr (.inr (.inr e)))
  have nbT' : ¬ p.T = bx := fun e => nbT e.symm
  dsimp only at b0 b1 b2 b3 b4 b5 b6 b7 t0 t1 t2 t3 t4 t5 t6 t7 t8 t9 t10
  subst hf
  go_wp2_with fail
  go_ret
  exact RHand.no HF0.out.rs HF0.out.kp
set_option maxHeartbeats 4000000 in
theorem wait_4c {w : World} {p : RPl} {s : RS} (h : RsAt w p s) {t o : Nat} (xcalls : Int) (xopn : Bool) (xop xobj xarg xfar xcode xval : Int) (xflag : Bool) (xsaved xsince : Int) (hx : s.T[t]? = some ⟨xcalls, xopn, xop, xobj, xarg, xfar, xcode, xval, xflag, xsaved, xsince⟩) {own dep : Int} (hW : s.W[o]? = some own) (hD : s.D[o]? = some dep) (bo : Bool) (kind idx code val : Int) (hop : xop = 2 ∨ xop = 3) (hf : xfar = 2) (h3 : (xop == 3) = false) :
    Calls Try.prog 66 #[rspV p, .pointer (some ⟨p.T, t * 11, none⟩), .bool bo, evV ⟨kind, (t : Int), idx, 4, (o : Int), 1, code, val⟩] w (RHand w p s (ActR s t ⟨xcalls, xopn, xop, xobj, xarg, xfar, xcode, xval, xflag, xsaved, xsince⟩ o own dep ⟨kind, (t : Int), idx, 4, (o : Int), 1, code, val⟩)) := by
  have HX := Lib.hid hx
  have HW := Lib.hid hW
  have HD := Lib.hid hD
  have it := idx_rthrs p.T s.T.length p.cT t (List.getElem?_eq_some_iff.1 hx).1
  have iw := idx_rints p.W s.W.length p.cW o (List.getElem?_eq_some_iff.1 hW).1
  have id' := idx_rints p.D s.D.length p.cD o (List.getElem?_eq_some_iff.1 hD).1
  have HF0 := Lib.hid (RFr.boxed h ⟨kind, (t : Int), idx, 4, (o : Int), 1, code, val⟩)
  have HH := Lib.hid h
  have Hhop := Lib.hid hop
  clear h hx hW hD
  go_enter Try.func66, Try.ntmps66
  go_upto_region 1 with fail
  generalize hWW : w.alloc _ = W at HF0 ⊢
  obtain ⟨bx, hbx⟩ : ∃ bx, bx = w.heap.size := ⟨_, rfl⟩
  rw [← hbx] at HF0 ⊢
  clear hbx hWW
  obtain ⟨⟨c0, c1, c2, c3⟩, ⟨b0, b1, b2, b3, b4, b5, b6, b7⟩⟩ := HF0.out.cells
  obtain ⟨t0, t1, t2, t3, t4, t5, t6, t7, t8, t9, t10⟩ := HF0.out.rs.t HX.out
  have ow := HF0.out.rs.ow.cell HW.out
  have od := HF0.out.rs.dp.cell HD.out
  have nbT : ¬ bx = p.T := fun e => HF0.out.out (.inr (.inr (.inr e)))
  have nbT' : ¬ p.T = bx := fun e => nbT e.symm
  dsimp only at b0 b1 b2 b3 b4 b5 b6 b7 t0 t1 t2 t3 t4 t5 t6 t7 t8 t9 t10
  subst hf
  go_wp2_with fail
  go_ret
  exact RHand.no HF0.out.rs HF0.out.kp
set_option maxHeartbeats 4000000 in
theorem wait_4d {w : World} {p : RPl} {s : RS} (h : RsAt w p s) {t o : Nat} (xcalls : Int) (xopn : Bool) (xop xobj xarg xfar xcode xval : Int) (xflag : Bool) (xsaved xsince : Int) (hx : s.T[t]? = some ⟨xcalls, xopn, xop, xobj, xarg, xfar, xcode, xval, xflag, xsaved, xsince⟩) {own dep : Int} (hW : s.W[o]? = some own) (hD : s.D[o]? = some dep) (bo : Bool) (kind idx code val : Int) (hop : xop = 2 ∨ xop = 3) (hf : xfar = 2) (h3 : xop = 3) :
    Calls Try.prog 66 #[rspV p, .pointer (some ⟨p.T, t * 11, none⟩), .bool bo, evV ⟨kind, (t : Int), idx, 4, (o : Int), 1, code, val⟩] w (RHand w p s (ActR s t ⟨xcalls, xopn, xop, xobj, xarg, xfar, xcode, xval, xflag, xsaved, xsince⟩ o own dep ⟨kind, (t : Int), idx, 4, (o : Int), 1, code, val⟩)) := by
  have HX := Lib.hid hx
  have HW := Lib.hid hW
  have HD := Lib.hid hD
  have it := idx_rthrs p.T s.T.length p.cT t (List.getElem?_eq_some_iff.1 hx).1
  have iw := idx_rints p.W s.W.length p.cW o (List.getElem?_eq_some_iff.1 hW).1
  have id' := idx_rints p.D s.D.length p.cD o (List.getElem?_eq_some_iff.1 hD).1
  have HF0 := Lib.hid (RFr.boxed h ⟨kind, (t : Int), idx, 4, (o : Int), 1, code, val⟩)
  have HH := Lib.hid h
  have Hhop := Lib.hid hop
  clear h hx hW hD
  go_enter Try.func66, Try.ntmps66
  go_upto_region 1 with fail
  generalize hWW : w.alloc _ = W at HF0 ⊢
  obtain ⟨bx, hbx⟩ : ∃ bx, bx = w.heap.size := ⟨_, rfl⟩
  rw [← hbx] at HF0 ⊢
  clear hbx hWW
  obtain ⟨⟨c0, c1, c2, c3⟩, ⟨b0, b1, b2, b3, b4, b5, b6, b7⟩⟩ := HF0.out.cells
  obtain ⟨t0, t1, t2, t3, t4, t5, t6, t7, t8, t9, t10⟩ := HF0.out.rs.t HX.out
  have ow := HF0.out.rs.ow.cell HW.out
  have od := HF0.out.rs.dp.cell HD.out
  have nbT : ¬ bx = p.T := fun e => HF0.out.out (.inr (.inr (.inr e)))
  have nbT' : ¬ p.T = bx := fun e => nbT e.symm
  dsimp only at b0 b1 b2 b3 b4 b5 b6 b7 t0 t1 t2 t3 t4 t5 t6 t7 t8 t9 t10
  subst hf
  subst h3
  have fz := HF0.out.rs.fr
  have f5 := fz (t * 11 + 5)
  have f6 := fz (t * 11 + 6)
  have f7 := fz (t * 11 + 7)
  have f8 := fz (t * 11 + 8)
  have f9 := fz (t * 11 + 9)
  have f10 := fz (t * 11 + 10)
  have HF1 := Lib.hid (((HF0.out.mod HX.out 5 (.int .i64 4) (fun y => { y with far := 4 }) (by omega) rfl).mod (mod_same HX.out) 6 (.int .i64 0) (fun y => { y with code := 0 }) (by omega) rfl).mod (mod_same (mod_same HX.out)) 7 (.int .i64 1) (fun y => { y with val := 1 }) (by omega) rfl)
  go_wp2_with fail
  go_ret
  have h9 := HF1.out.rs
  rw [mod_mod, mod_mod] at h9
  exact RHand.yes h9 HF1.out.kp (ActR.leave (.inr rfl) rfl (.inl ⟨rfl, .inr ⟨rfl, rfl⟩⟩))
set_option maxHeartbeats 4000000 in
theorem wait_4e {w : World} {p : RPl} {s : RS} (h : RsAt w p s) {t o : Nat} (xcalls : Int) (xopn : Bool) (xop xobj xarg xfar xcode xval : Int) (xflag : Bool) (xsaved xsince : Int) (hx : s.T[t]? = some ⟨xcalls, xopn, xop, xobj, xarg, xfar, xcode, xval, xflag, xsaved, xsince⟩) {own dep : Int} (hW : s.W[o]? = some own) (hD : s.D[o]? = some dep) (bo : Bool) (kind idx code val : Int) (hop : xop = 2 ∨ xop = 3) (hf : xfar = 2) :
    Calls Try.prog 66 #[rspV p, .pointer (some ⟨p.T, t * 11, none⟩), .bool bo, evV ⟨kind, (t : Int), idx, 4, (o : Int), 3, code, val⟩] w (RHand w p s (ActR s t ⟨xcalls, xopn, xop, xobj, xarg, xfar, xcode, xval, xflag, xsaved, xsince⟩ o own dep ⟨kind, (t : Int), idx, 4, (o : Int), 3, code, val⟩)) := by
  have HX := Lib.hid hx
  have HW := Lib.hid hW
  have HD := Lib.hid hD
  have it := idx_rthrs p.T s.T.length p.cT t (List.getElem?_eq_some_iff.1 hx).1
  have iw := idx_rints p.W s.W.length p.cW o (List.getElem?_eq_some_iff.1 hW).1
  have id' := idx_rints p.D s.D.length p.cD o (List.getElem?_eq_some_iff.1 hD).1
  have HF0 := Lib.hid (RFr.boxed h ⟨kind, (t : Int), idx, 4, (o : Int), 3, code, val⟩)
  have HH := Lib.hid h
  have Hhop := Lib.hid hop
  clear h hx hW hD
  go_enter Try.func66, Try.ntmps66
  go_upto_region 1 with fail
  generalize hWW : w.alloc _ = W at HF0 ⊢
  obtain ⟨bx, hbx⟩ : ∃ bx, bx = w.heap.size := ⟨_, rfl⟩
  rw [← hbx] at HF0 ⊢
  clear hbx hWW
  obtain ⟨⟨c0, c1, c2, c3⟩, ⟨b0, b1, b2, b3, b4, b5, b6, b7⟩⟩ := HF0.out.cells
  obtain ⟨t0, t1, t2, t3, t4, t5, t6, t7, t8, t9, t10⟩ := HF0.out.rs.t HX.out
  have ow := HF0.out.rs.ow.cell HW.out
  have od := HF0.out.rs.dp.cell HD.out
  have nbT : ¬ bx = p.T := fun e => HF0.out.out (.inr (.inr (.inr e)))
  have nbT' : ¬ p.T = bx := fun e => nbT e.symm
  dsimp only at b0 b1 b2 b3 b4 b5 b6 b7 t0 t1 t2 t3 t4 t5 t6 t7 t8 t9 t10
  subst hf
  have fz := HF0.out.rs.fr
  have f5 := fz (t * 11 + 5)
  have f6 := fz (t * 11 + 6)
  have f7 := fz (t * 11 + 7)
  have f8 := fz (t * 11 + 8)
  have f9 := fz (t * 11 + 9)
  have f10 := fz (t * 11 + 10)
  have HF1 := Lib.hid (((HF0.out.mod HX.out 5 (.int .i64 4) (fun y => { y with far := 4 }) (by omega) rfl).mod (mod_same HX.out) 6 (.int .i64 0) (fun y => { y with code := 0 }) (by omega) rfl).mod (mod_same (mod_same HX.out)) 7 (.int .i64 3) (fun y => { y with val := 3 }) (by omega) rfl)
  go_wp2_with fail
  go_ret
  have h9 := HF1.out.rs
  rw [mod_mod, mod_mod] at h9
  exact RHand.yes h9 HF1.out.kp (ActR.leave Hhop.out rfl (.inl ⟨rfl, .inl rfl⟩))
set_option maxHeartbeats 4000000 in
theorem wait_4f {w : World} {p : RPl} {s : RS} (h : RsAt w p s) {t o : Nat} (xcalls : Int) (xopn : Bool) (xop xobj xarg xfar xcode xval : Int) (xflag : Bool) (xsaved xsince : Int) (hx : s.T[t]? = some ⟨xcalls, xopn, xop, xobj, xarg, xfar, xcode, xval, xflag, xsaved, xsince⟩) {own dep : Int} (hW : s.W[o]? = some own) (hD : s.D[o]? = some dep) (bo : Bool) (kind idx oth code val : Int) (hop : xop = 2 ∨ xop = 3) (hf : xfar = 3) (h3 : (oth == 2) = false) (h4 : (oth != 2) = true) :
    Calls Try.prog 66 #[rspV p, .pointer (some ⟨p.T, t * 11, none⟩), .bool bo, evV ⟨kind, (t : Int), idx, 4, (o : Int), oth, code, val⟩] w (RHand w p s (ActR s t ⟨xcalls, xopn, xop, xobj, xarg, xfar, xcode, xval, xflag, xsaved, xsince⟩ o own dep ⟨kind, (t : Int), idx, 4, (o : Int), oth, code, val⟩)) := by
  have HX := Lib.hid hx
  have HW := Lib.hid hW
  have HD := Lib.hid hD
  have it := idx_rthrs p.T s.T.length p.cT t (List.getElem?_eq_some_iff.1 hx).1
  have iw := idx_rints p.W s.W.length p.cW o (List.getElem?_eq_some_iff.1 hW).1
  have id' := idx_rints p.D s.D.length p.cD o (List.getElem?_eq_some_iff.1 hD).1
  have HF0 := Lib.hid (RFr.boxed h ⟨kind, (t : Int), idx, 4, (o : Int), oth, code, val⟩)
  have HH := Lib.hid h
  have Hhop := Lib.hid hop
  clear h hx hW hD
  go_enter Try.func66, Try.ntmps66
  go_upto_region 1 with fail
  generalize hWW : w.alloc _ = W at HF0 ⊢
  obtain ⟨bx, hbx⟩ : ∃ bx, bx = w.heap.size := ⟨_, rfl⟩
  rw [← hbx] at HF0 ⊢
  clear hbx hWW
  obtain ⟨⟨c0, c1, c2, c3⟩, ⟨b0, b1, b2, b3, b4, b5, b6, b7⟩⟩ := HF0.out.cells
  obtain ⟨t0, t1, t2, t3, t4, t5, t6, t7, t8, t9, t10⟩ := HF0.out.rs.t HX.out
  have ow := HF0.out.rs.ow.cell HW.out
  have od := HF0.out.rs.dp.cell HD.out
  have nbT : ¬ bx = p.T := fun e => HF0.out.out (.inr (.inr (.inr e)))
  have nbT' : ¬ p.T = bx := fun e => nbT e.symm
  dsimp only at b0 b1 b2 b3 b4 b5 b6 b7 t0 t1 t2 t3 t4 t5 t6 t7 t8 t9 t10
  subst hf
  go_wp2_with fail
  go_ret
  exact RHand.no HF0.out.rs HF0.out.kp
set_option maxHeartbeats 4000000 in
theorem wait_4g {w : World} {p : RPl} {s : RS} (h : RsAt w p s) {t o : Nat} (xcalls : Int) (xopn : Bool) (xop xobj xarg xfar xcode xval : Int) (xflag : Bool) (xsaved xsince : Int) (hx : s.T[t]? = some ⟨xcalls, xopn, xop, xobj, xarg, xfar, xcode, xval, xflag, xsaved, xsince⟩) {own dep : Int} (hW : s.W[o]? = some own) (hD : s.D[o]? = some dep) (bo : Bool) (kind idx code val : Int) (hop : xop = 2 ∨ xop = 3) (hf : xfar = 3) :
    Calls Try.prog 66 #[rspV p, .pointer (some ⟨p.T, t * 11, none⟩), .bool bo, evV ⟨kind, (t : Int), idx, 4, (o : Int), 2, code, val⟩] w (RHand w p s (ActR s t ⟨xcalls, xopn, xop, xobj, xarg, xfar, xcode, xval, xflag, xsaved, xsince⟩ o own dep ⟨kind, (t : Int), idx, 4, (o : Int), 2, code, val⟩)) := by
  have HX := Lib.hid hx
  have HW := Lib.hid hW
  have HD := Lib.hid hD
  have it := idx_rthrs p.T s.T.length p.cT t (List.getElem?_eq_some_iff.1 hx).1
  have iw := idx_rints p.W s.W.length p.cW o (List.getElem?_eq_some_iff.1 hW).1
  have id' := idx_rints p.D s.D.length p.cD o (List.getElem?_eq_some_iff.1 hD).1
  have HF0 := Lib.hid (RFr.boxed h ⟨kind, (t : Int), idx, 4, (o : Int), 2, code, val⟩)
  have HH := Lib.hid h
  have Hhop := Lib.hid hop
  clear h hx hW hD
  go_enter Try.func66, Try.ntmps66
  go_upto_region 1 with fail
  generalize hWW : w.alloc _ = W at HF0 ⊢
  obtain ⟨bx, hbx⟩ : ∃ bx, bx = w.heap.size := ⟨_, rfl⟩
  rw [← hbx] at HF0 ⊢
  clear hbx hWW
  obtain ⟨⟨c0, c1, c2, c3⟩, ⟨b0, b1, b2, b3, b4, b5, b6, b7⟩⟩ := HF0.out.cells
  obtain ⟨t0, t1, t2, t3, t4, t5, t6, t7, t8, t9, t10⟩ := HF0.out.rs.t HX.out
  have ow := HF0.out.rs.ow.cell HW.out
  have od := HF0.out.rs.dp.cell HD.out
  have nbT : ¬ bx = p.T := fun e => HF0.out.out (.inr (.inr (.inr e)))
  have nbT' : ¬ p.T = bx := fun e => nbT e.symm
  dsimp only at b0 b1 b2 b3 b4 b5 b6 b7 t0 t1 t2 t3 t4 t5 t6 t7 t8 t9 t10
  subst hf
  have fz := HF0.out.rs.fr
  have f5 := fz (t * 11 + 5)
  have f6 := fz (t * 11 + 6)
  have f7 := fz (t * 11 + 7)
  have f8 := fz (t * 11 + 8)
  have f9 := fz (t * 11 + 9)
  have f10 := fz (t * 11 + 10)
  have HF1 := Lib.hid (((HF0.out.mod HX.out 5 (.int .i64 4) (fun y => { y with far := 4 }) (by omega) rfl).mod (mod_same HX.out) 6 (.int .i64 0) (fun y => { y with code := 0 }) (by omega) rfl).mod (mod_same (mod_same HX.out)) 7 (.int .i64 2) (fun y => { y with val := 2 }) (by omega) rfl)
  go_wp2_with fail
  go_ret
  have h9 := HF1.out.rs
  rw [mod_mod, mod_mod] at h9
  exact RHand.yes h9 HF1.out.kp (ActR.leave Hhop.out rfl (.inr ⟨rfl, rfl⟩))
set_option maxHeartbeats 4000000 in
theorem wait_5a {w : World} {p : RPl} {s : RS} (h : RsAt w p s) {t o : Nat} (xcalls : Int) (xopn : Bool) (xop xobj xarg xfar xcode xval : Int) (xflag : Bool) (xsaved xsince : Int) (hx : s.T[t]? = some ⟨xcalls, xopn, xop, xobj, xarg, xfar, xcode, xval, xflag, xsaved, xsince⟩) {own dep : Int} (hW : s.W[o]? = some own) (hD : s.D[o]? = some dep) (bo : Bool) (kind idx oth code val : Int) (hop : xop = 2 ∨ xop = 3) (hc : (oth == 0) = false) :
    Calls Try.prog 66 #[rspV p, .pointer (some ⟨p.T, t * 11, none⟩), .bool bo, evV ⟨kind, (t : Int), idx, 5, (o : Int), oth, code, val⟩] w (RHand w p s (ActR s t ⟨xcalls, xopn, xop, xobj, xarg, xfar, xcode, xval, xflag, xsaved, xsince⟩ o own dep ⟨kind, (t : Int), idx, 5, (o : Int), oth, code, val⟩)) := by
  have HX := Lib.hid hx
  have HW := Lib.hid hW
  have HD := Lib.hid hD
  have it := idx_rthrs p.T s.T.length p.cT t (List.getElem?_eq_some_iff.1 hx).1
  have iw := idx_rints p.W s.W.length p.cW o (List.getElem?_eq_some_iff.1 hW).1
  have id' := idx_rints p.D s.D.length p.cD o (List.getElem?_eq_some_iff.1 hD).1
  have HF0 := Lib.hid (RFr.boxed h ⟨kind, (t : Int), idx, 5, (o : Int), oth, code, val⟩)
  have HH := Lib.hid h
  have Hhop := Lib.hid hop
  clear h hx hW hD
  go_enter Try.func66, Try.ntmps66
  go_upto_region 1 with fail
  generalize hWW : w.alloc _ = W at HF0 ⊢
  obtain ⟨bx, hbx⟩ : ∃ bx, bx = w.heap.size := ⟨_, rfl⟩
  rw [← hbx] at HF0 ⊢
  clear hbx hWW
  obtain ⟨⟨c0, c1, c2, c3⟩, ⟨b0, b1, b2, b3, b4, b5, b6, b7⟩⟩ := HF0.out.cells
  obtain ⟨t0, t1, t2, t3, t4, t5, t6, t7, t8, t9, t10⟩ := HF0.out.rs.t HX.out
  have ow := HF0.out.rs.ow.cell HW.out
  have od := HF0.out.rs.dp.cell HD.out
  have nbT : ¬ bx = p.T := fun e => HF0.out.out (.inr (.inr (.inr e)))
  have nbT' : ¬ p.T = bx := fun e => nbT e.symm
  dsimp only at b0 b1 b2 b3 b4 b5 b6 b7 t0 t1 t2 t3 t4 t5 t6 t7 t8 t9 t10
  go_wp2_with fail
  go_ret
  exact RHand.no HF0.out.rs HF0.out.kp
set_option maxHeartbeats 4000000 in
theorem wait_5b {w : World} {p : RPl} {s : RS} (h : RsAt w p s) {t o : Nat} (xcalls : Int) (xopn : Bool) (xop xobj xarg xfar xcode xval : Int) (xflag : Bool) (xsaved xsince : Int) (hx : s.T[t]? = some ⟨xcalls, xopn, xop, xobj, xarg, xfar, xcode, xval, xflag, xsaved, xsince⟩) {own dep : Int} (hW : s.W[o]? = some own) (hD : s.D[o]? = some dep) (bo : Bool) (kind idx code val : Int) (hop : xop = 2 ∨ xop = 3) (hc : (xfar == 4) = false) :
    Calls Try.prog 66 #[rspV p, .pointer (some ⟨p.T, t * 11, none⟩), .bool bo, evV ⟨kind, (t : Int), idx, 5, (o : Int), 0, code, val⟩] w (RHand w p s (ActR s t ⟨xcalls, xopn, xop, xobj, xarg, xfar, xcode, xval, xflag, xsaved, xsince⟩ o own dep ⟨kind, (t : Int), idx, 5, (o : Int), 0, code, val⟩)) := by
  have HX := Lib.hid hx
  have HW := Lib.hid hW
  have HD := Lib.hid hD
  have it := idx_rthrs p.T s.T.length p.cT t (List.getElem?_eq_some_iff.1 hx).1
  have iw := idx_rints p.W s.W.length p.cW o (List.getElem?_eq_some_iff.1 hW).1
  have id' := idx_rints p.D s.D.length p.cD o (List.getElem?_eq_some_iff.1 hD).1
  have HF0 := Lib.hid (RFr.boxed h ⟨kind, (t : Int), idx, 5, (o : Int), 0, code, val⟩)
  have HH := Lib.hid h
  have Hhop := Lib.hid hop
  clear h hx hW hD
  go_enter Try.func66, Try.ntmps66
  go_upto_region 1 with fail
  generalize hWW : w.alloc _ = W at HF0 ⊢
  obtain ⟨bx, hbx⟩ : ∃ bx, bx = w.heap.size := ⟨_, rfl⟩
  rw [← hbx] at HF0 ⊢
  clear hbx hWW
  obtain ⟨⟨c0, c1, c2, c3⟩, ⟨b0, b1, b2, b3, b4, b5, b6, b7⟩⟩ := HF0.out.cells
  obtain ⟨t0, t1, t2, t3, t4, t5, t6, t7, t8, t9, t10⟩ := HF0.out.rs.t HX.out
  have ow := HF0.out.rs.ow.cell HW.out
  have od := HF0.out.rs.dp.cell HD.out
  have nbT : ¬ bx = p.T := fun e => HF0.out.out (.inr (.inr (.inr e)))
  have nbT' : ¬ p.T = bx := fun e => nbT e.symm
  dsimp only at b0 b1 b2 b3 b4 b5 b6 b7 t0 t1 t2 t3 t4 t5 t6 t7 t8 t9 t10
  go_wp2_with fail
  go_ret
  exact RHand.no HF0.out.rs HF0.out.kp
set_option maxHeartbeats 4000000 in
theorem wait_5c {w : World} {p : RPl} {s : RS} (h : RsAt w p s) {t o : Nat} (xcalls : Int) (xopn : Bool) (xop xobj xarg xfar xcode xval : Int) (xflag : Bool) (xsaved xsince : Int) (hx : s.T[t]? = some ⟨xcalls, xopn, xop, xobj, xarg, xfar, xcode, xval, xflag, xsaved, xsince⟩) {own dep : Int} (hW : s.W[o]? = some own) (hD : s.D[o]? = some dep) (bo : Bool) (kind idx code val : Int) (hop : xop = 2 ∨ xop = 3) (hf : xfar = 4) (hn : ¬ own < 0) :
    Calls Try.prog 66 #[rspV p, .pointer (some ⟨p.T, t * 11, none⟩), .bool bo, evV ⟨kind, (t : Int), idx, 5, (o : Int), 0, code, val⟩] w (RHand w p s (ActR s t ⟨xcalls, xopn, xop, xobj, xarg, xfar, xcode, xval, xflag, xsaved, xsince⟩ o own dep ⟨kind, (t : Int), idx, 5, (o : Int), 0, code, val⟩)) := by
  have HX := Lib.hid hx
  have HW := Lib.hid hW
  have HD := Lib.hid hD
  have it := idx_rthrs p.T s.T.length p.cT t (List.getElem?_eq_some_iff.1 hx).1
  have iw := idx_rints p.W s.W.length p.cW o (List.getElem?_eq_some_iff.1 hW).1
  have id' := idx_rints p.D s.D.length p.cD o (List.getElem?_eq_some_iff.1 hD).1
  have HF0 := Lib.hid (RFr.boxed h ⟨kind, (t : Int), idx, 5, (o : Int), 0, code, val⟩)
  have HH := Lib.hid h
  have Hhop := Lib.hid hop
  clear h hx hW hD
  go_enter Try.func66, Try.ntmps66
  go_upto_region 1 with fail
  generalize hWW : w.alloc _ = W at HF0 ⊢
  obtain ⟨bx, hbx⟩ : ∃ bx, bx = w.heap.size := ⟨_, rfl⟩
  rw [← hbx] at HF0 ⊢
  clear hbx hWW
  obtain ⟨⟨c0, c1, c2, c3⟩, ⟨b0, b1, b2, b3, b4, b5, b6, b7⟩⟩ := HF0.out.cells
  obtain ⟨t0, t1, t2, t3, t4, t5, t6, t7, t8, t9, t10⟩ := HF0.out.rs.t HX.out
  have ow := HF0.out.rs.ow.cell HW.out
  have od := HF0.out.rs.dp.cell HD.out
  have nbT : ¬ bx = p.T := fun e => HF0.out.out (.inr (.inr (.inr e)))
  have nbT' : ¬ p.T = bx := fun e => nbT e.symm
  dsimp only at b0 b1 b2 b3 b4 b5 b6 b7 t0 t1 t2 t3 t4 t5 t6 t7 t8 t9 t10
  subst hf
  go_wp2_with fail
  go_ret
  exact RHand.no HF0.out.rs HF0.out.kp
set_option maxHeartbeats 4000000 in
theorem wait_5d {w : World} {p : RPl} {s : RS} (h : RsAt w p s) {t o : Nat} (xcalls : Int) (xopn : Bool) (xop xobj xarg xfar xcode xval : Int) (xflag : Bool) (xsaved xsince : Int) (hx : s.T[t]? = some ⟨xcalls, xopn, xop, xobj, xarg, xfar, xcode, xval, xflag, xsaved, xsince⟩) {own dep : Int} (hW : s.W[o]? = some own) (hD : s.D[o]? = some dep) (bo : Bool) (kind idx code val : Int) (hop : xop = 2 ∨ xop = 3) (hf : xfar = 4) (hn : own < 0) :
    Calls Try.prog 66 #[rspV p, .pointer (some ⟨p.T, t * 11, none⟩), .bool bo, evV ⟨kind, (t : Int), idx, 5, (o : Int), 0, code, val⟩] w (RHand w p s (ActR s t ⟨xcalls, xopn, xop, xobj, xarg, xfar, xcode, xval, xflag, xsaved, xsince⟩ o own dep ⟨kind, (t : Int), idx, 5, (o : Int), 0, code, val⟩)) := by
  have HX := Lib.hid hx
  have HW := Lib.hid hW
  have HD := Lib.hid hD
  have it := idx_rthrs p.T s.T.length p.cT t (List.getElem?_eq_some_iff.1 hx).1
  have iw := idx_rints p.W s.W.length p.cW o (List.getElem?_eq_some_iff.1 hW).1
  have id' := idx_rints p.D s.D.length p.cD o (List.getElem?_eq_some_iff.1 hD).1
  have HF0 := Lib.hid (RFr.boxed h ⟨kind, (t : Int), idx, 5, (o : Int), 0, code, val⟩)
  have HH := Lib.hid h
  have Hhop := Lib.hid hop
  have Hhn := Lib.hid hn
  clear h hx hW hD
  go_enter Try.func66, Try.ntmps66
  go_upto_region 1 with fail
  generalize hWW : w.alloc _ = W at HF0 ⊢
  obtain ⟨bx, hbx⟩ : ∃ bx, bx = w.heap.size := ⟨_, rfl⟩
  rw [← hbx] at HF0 ⊢
  clear hbx hWW
  obtain ⟨⟨c0, c1, c2, c3⟩, ⟨b0, b1, b2, b3, b4, b5, b6, b7⟩⟩ := HF0.out.cells
  obtain ⟨t0, t1, t2, t3, t4, t5, t6, t7, t8, t9, t10⟩ := HF0.out.rs.t HX.out
  have ow := HF0.out.rs.ow.cell HW.out
  have od := HF0.out.rs.dp.cell HD.out
  have nbT : ¬ bx = p.T := fun e => HF0.out.out (.inr (.inr (.inr e)))
  have nbT' : ¬ p.T = bx := fun e => nbT e.symm
  dsimp only at b0 b1 b2 b3 b4 b5 b6 b7 t0 t1 t2 t3 t4 t5 t6 t7 t8 t9 t10
  subst hf
  go_upto_region 26 with fail
  clear c0 c1 c2 c3 b0 b1 b2 b3 b4 b5 b6 b7 t0 t1 t2 t3 t4 t5 t6 t7 t8 t9 t10 ow od
  have HF2 := Lib.hid HF0.out.drew
  refine wp_region_held_drew (S := (fun (V : World) => V.cell? ⟨p.P, 0, none⟩ = some (.slice (some ⟨p.W, 0, none⟩) s.W.length p.cW) ∧ V.cell? ⟨p.P, 1, none⟩ = some (.slice (some ⟨p.D, 0, none⟩) s.D.length p.cD) ∧ V.cell? ⟨bx, 1, none⟩ = some (.int .i64 (t : Int)) ∧ V.cell? ⟨p.T, t * 11 + 9, none⟩ = some (.int .i64 xsaved))) (by kernel_rfl) (⟨HF2.out.rs.c.c0, HF2.out.rs.c.c1, (evAt HF2.out.ev).b1, (HF2.out.rs.t HX.out).saved⟩) (fun hHeld => ?_)
  generalize hW3 : W.drew = W3 at HF2 hHeld ⊢
  clear hW3
  have HS2 := Lib.hid (HF2.out.setW (o := o) HW.out ((t : Int)))
  have HF3 := Lib.hid (HS2.out.setD (o := o) HD.out xsaved)
  have ow := HF2.out.rs.ow.cell (i := o) HW.out
  have od := HS2.out.rs.dp.cell (i := o) HD.out
  have fw := HF2.out.rs.ow.free o
  have fd := HS2.out.rs.dp.free o
  have SH2 : (fun (V : World) => V.cell? ⟨p.P, 0, none⟩ = some (.slice (some ⟨p.W, 0, none⟩) s.W.length p.cW) ∧ V.cell? ⟨p.P, 1, none⟩ = some (.slice (some ⟨p.D, 0, none⟩) s.D.length p.cD) ∧ V.cell? ⟨bx, 1, none⟩ = some (.int .i64 (t : Int)) ∧ V.cell? ⟨p.T, t * 11 + 9, none⟩ = some (.int .i64 xsaved)) _ := (by have z := HS2.out.rs.c; have y := (HS2.out.rs.t HX.out).saved; have v := (evAt HS2.out.ev).b1; simpa [RS.setW, RS.setD, RS.mod] using And.intro z.c0 (And.intro z.c1 (And.intro v y)))
  have SH3 : (fun (V : World) => V.cell? ⟨p.P, 0, none⟩ = some (.slice (some ⟨p.W, 0, none⟩) s.W.length p.cW) ∧ V.cell? ⟨p.P, 1, none⟩ = some (.slice (some ⟨p.D, 0, none⟩) s.D.length p.cD) ∧ V.cell? ⟨bx, 1, none⟩ = some (.int .i64 (t : Int)) ∧ V.cell? ⟨p.T, t * 11 + 9, none⟩ = some (.int .i64 xsaved)) _ := (by have z := HF3.out.rs.c; have y := (HF3.out.rs.t HX.out).saved; have v := (evAt HF3.out.ev).b1; simpa [RS.setW, RS.setD, RS.mod] using And.intro z.c0 (And.intro z.c1 (And.intro v y)))
  refine wpAnyH_take (i := 0) (oi := { dst := some 234, op := Op.move (Operand.tmp 0), type := 75, pos := "ref.go:115", after := #[], guard := none }) (v := ?_) rfl (by kernel_rfl) (by kernel_rfl) (by kernel_rfl) (fun _ _ _ h => h) (Or.inl ⟨by rfl, ?_⟩) (by assumption) ?_
  rotate_left
  · intro w hSw; (try dsimp only at hSw); go_simp; try with_reducible rfl
  (try simp only [Act.put, List.setIfInBounds_toArray, List.set_cons_zero, List.set_cons_succ])
  refine wpAnyH_take (i := 1) (oi := { dst := some 235, op := Op.nilCheck (Operand.tmp 234), type := 0, pos := "ref.go:115", after := #[{ on := 0, ground := Ground.data }], guard := none }) (v := ?_) rfl (by kernel_rfl) (by kernel_rfl) (by kernel_rfl) (fun _ _ _ h => h) (Or.inl ⟨by rfl, ?_⟩) (by assumption) ?_
  rotate_left
  · intro w hSw; (try dsimp only at hSw); go_simp; try with_reducible rfl
  (try simp only [Act.put, List.setIfInBounds_toArray, List.set_cons_zero, List.set_cons_succ])
  refine wpAnyH_take (i := 2) (oi := { dst := some 236, op := Op.fieldAddr 89 (Operand.tmp 235) 0, type := 0, pos := "ref.go:115", after := #[{ on := 1, ground := Ground.data }], guard := none }) (v := ?_) rfl (by kernel_rfl) (by kernel_rfl) (by kernel_rfl) (fun _ _ _ h => h) (Or.inl ⟨by rfl, ?_⟩) (by assumption) ?_
  rotate_left
  · intro w hSw; (try dsimp only at hSw); go_simp; try with_reducible rfl
  (try simp only [Act.put, List.setIfInBounds_toArray, List.set_cons_zero, List.set_cons_succ])
  refine wpAnyH_take (i := 3) (oi := { dst := some 237, op := Op.load 30 (Operand.tmp 236), type := 30, pos := "ref.go:115", after := #[{ on := 2, ground := Ground.data }], guard := none }) (v := ?_) rfl (by kernel_rfl) (by kernel_rfl) (by kernel_rfl) (fun _ _ _ h => h) (Or.inl ⟨by rfl, ?_⟩) (by assumption) ?_
  rotate_left
  · intro w hSw; (try dsimp only at hSw); go_simp; try with_reducible rfl
  (try simp only [Act.put, List.setIfInBounds_toArray, List.set_cons_zero, List.set_cons_succ])
  refine wpAnyH_take (i := 4) (oi := { dst := some 238, op := Op.move (Operand.tmp 9), type := 3, pos := "ref.go:115", after := #[], guard := none }) (v := ?_) rfl (by kernel_rfl) (by kernel_rfl) (by kernel_rfl) (fun _ _ _ h => h) (Or.inl ⟨by rfl, ?_⟩) (by assumption) ?_
  rotate_left
  · intro w hSw; (try dsimp only at hSw); go_simp; try with_reducible rfl
  (try simp only [Act.put, List.setIfInBounds_toArray, List.set_cons_zero, List.set_cons_succ])
  refine wpAnyH_take (i := 5) (oi := { dst := some 239, op := Op.move (Operand.tmp 0), type := 75, pos := "ref.go:115", after := #[], guard := none }) (v := ?_) rfl (by kernel_rfl) (by kernel_rfl) (by kernel_rfl) (fun _ _ _ h => h) (Or.inl ⟨by rfl, ?_⟩) (by assumption) ?_
  rotate_left
  · intro w hSw; (try dsimp only at hSw); go_simp; try with_reducible rfl
  (try simp only [Act.put, List.setIfInBounds_toArray, List.set_cons_zero, List.set_cons_succ])
  refine wpAnyH_take (i := 6) (oi := { dst := some 240, op := Op.nilCheck (Operand.tmp 239), type := 0, pos := "ref.go:115", after := #[{ on := 5, ground := Ground.data }], guard := none }) (v := ?_) rfl (by kernel_rfl) (by kernel_rfl) (by kernel_rfl) (fun _ _ _ h => h) (Or.inl ⟨by rfl, ?_⟩) (by assumption) ?_
  rotate_left
  · intro w hSw; (try dsimp only at hSw); go_simp; try with_reducible rfl
  (try simp only [Act.put, List.setIfInBounds_toArray, List.set_cons_zero, List.set_cons_succ])
  refine wpAnyH_take (i := 7) (oi := { dst := some 241, op := Op.fieldAddr 89 (Operand.tmp 240) 1, type := 0, pos := "ref.go:115", after := #[{ on := 6, ground := Ground.data }], guard := none }) (v := ?_) rfl (by kernel_rfl) (by kernel_rfl) (by kernel_rfl) (fun _ _ _ h => h) (Or.inl ⟨by rfl, ?_⟩) (by assumption) ?_
  rotate_left
  · intro w hSw; (try dsimp only at hSw); go_simp; try with_reducible rfl
  (try simp only [Act.put, List.setIfInBounds_toArray, List.set_cons_zero, List.set_cons_succ])
  refine wpAnyH_take (i := 8) (oi := { dst := some 242, op := Op.load 30 (Operand.tmp 241), type := 30, pos := "ref.go:115", after := #[{ on := 7, ground := Ground.data }], guard := none }) (v := ?_) rfl (by kernel_rfl) (by kernel_rfl) (by kernel_rfl) (fun _ _ _ h => h) (Or.inl ⟨by rfl, ?_⟩) (by assumption) ?_
  rotate_left
  · intro w hSw; (try dsimp only at hSw); go_simp; try with_reducible rfl
  (try simp only [Act.put, List.setIfInBounds_toArray, List.set_cons_zero, List.set_cons_succ])
  refine wpAnyH_take (i := 9) (oi := { dst := some 243, op := Op.move (Operand.tmp 9), type := 3, pos := "ref.go:115", after := #[{ on := 17, ground := Ground.gcOnly Departure.lateStores }], guard := none }) (v := ?_) rfl (by kernel_rfl) (by kernel_rfl) (by kernel_rfl) (fun _ _ _ h => h) (Or.inl ⟨by rfl, ?_⟩) (by assumption) ?_
  rotate_left
  · intro w hSw; (try dsimp only at hSw); go_simp; try with_reducible rfl
  (try simp only [Act.put, List.setIfInBounds_toArray, List.set_cons_zero, List.set_cons_succ])
  refine wpAnyH_take (i := 10) (oi := { dst := some 244, op := Op.fieldAddr 37 (Operand.tmp 7) 1, type := 0, pos := "ref.go:115", after := #[], guard := none }) (v := ?_) rfl (by kernel_rfl) (by kernel_rfl) (by kernel_rfl) (fun _ _ _ h => h) (Or.inl ⟨by rfl, ?_⟩) (by assumption) ?_
  rotate_left
  · intro w hSw; (try dsimp only at hSw); go_simp; try with_reducible rfl
  (try simp only [Act.put, List.setIfInBounds_toArray, List.set_cons_zero, List.set_cons_succ])
  refine wpAnyH_take (i := 11) (oi := { dst := some 245, op := Op.load 3 (Operand.tmp 244), type := 3, pos := "ref.go:115", after := #[{ on := 10, ground := Ground.data }], guard := none }) (v := ?_) rfl (by kernel_rfl) (by kernel_rfl) (by kernel_rfl) (fun _ _ _ h => h) (Or.inl ⟨by rfl, ?_⟩) (by assumption) ?_
  rotate_left
  · intro w hSw; (try dsimp only at hSw); go_simp; try with_reducible rfl
  (try simp only [Act.put, List.setIfInBounds_toArray, List.set_cons_zero, List.set_cons_succ])
  refine wpAnyH_take (i := 12) (oi := { dst := some 246, op := Op.move (Operand.tmp 1), type := 94, pos := "ref.go:115", after := #[], guard := none }) (v := ?_) rfl (by kernel_rfl) (by kernel_rfl) (by kernel_rfl) (fun _ _ _ h => h) (Or.inl ⟨by rfl, ?_⟩) (by assumption) ?_
  rotate_left
  · intro w hSw; (try dsimp only at hSw); go_simp; try with_reducible rfl
  (try simp only [Act.put, List.setIfInBounds_toArray, List.set_cons_zero, List.set_cons_succ])
  refine wpAnyH_take (i := 13) (oi := { dst := some 247, op := Op.nilCheck (Operand.tmp 246), type := 0, pos := "ref.go:115", after := #[{ on := 12, ground := Ground.data }], guard := none }) (v := ?_) rfl (by kernel_rfl) (by kernel_rfl) (by kernel_rfl) (fun _ _ _ h => h) (Or.inl ⟨by rfl, ?_⟩) (by assumption) ?_
  rotate_left
  · intro w hSw; (try dsimp only at hSw); go_simp; try with_reducible rfl
  (try simp only [Act.put, List.setIfInBounds_toArray, List.set_cons_zero, List.set_cons_succ])
  refine wpAnyH_take (i := 14) (oi := { dst := some 248, op := Op.fieldAddr 91 (Operand.tmp 247) 6, type := 0, pos := "ref.go:115", after := #[{ on := 13, ground := Ground.data }], guard := none }) (v := ?_) rfl (by kernel_rfl) (by kernel_rfl) (by kernel_rfl) (fun _ _ _ h => h) (Or.inl ⟨by rfl, ?_⟩) (by assumption) ?_
  rotate_left
  · intro w hSw; (try dsimp only at hSw); go_simp; try with_reducible rfl
  (try simp only [Act.put, List.setIfInBounds_toArray, List.set_cons_zero, List.set_cons_succ])
  refine wpAnyH_take (i := 15) (oi := { dst := some 249, op := Op.load 3 (Operand.tmp 248), type := 3, pos := "ref.go:115", after := #[{ on := 14, ground := Ground.data }], guard := none }) (v := ?_) rfl (by kernel_rfl) (by kernel_rfl) (by kernel_rfl) (fun _ _ _ h => h) (Or.inl ⟨by rfl, ?_⟩) (by assumption) ?_
  rotate_left
  · intro w hSw; (try dsimp only at hSw); go_simp; try with_reducible rfl
  (try simp only [Act.put, List.setIfInBounds_toArray, List.set_cons_zero, List.set_cons_succ])
  refine wpAnyH_take (i := 16) (oi := { dst := some 250, op := Op.indexAddr 30 (Operand.tmp 237) (Operand.tmp 238), type := 0, pos := "ref.go:115", after := #[{ on := 3, ground := Ground.data }, { on := 4, ground := Ground.data }, { on := 0, ground := Ground.phase }, { on := 1, ground := Ground.phase }, { on := 2, ground := Ground.phase }, { on := 3, ground := Ground.phase }, { on := 4, ground := Ground.phase }, { on := 5, ground := Ground.textOnly Departure.lateStores }, { on := 6, ground := Ground.textOnly Departure.lateStoresUnsure }, { on := 7, ground := Ground.textOnly Departure.lateStoresUnsure }, { on := 8, ground := Ground.phase }, { on := 9, ground := Ground.textOnly Departure.lateStores }, { on := 10, ground := Ground.phase }, { on := 11, ground := Ground.phase }, { on := 12, ground := Ground.textOnly Departure.lateStores }, { on := 13, ground := Ground.textOnly Departure.lateStoresUnsure }, { on := 14, ground := Ground.textOnly Departure.lateStoresUnsure }, { on := 15, ground := Ground.phase }], guard := none }) (v := ?_) rfl (by kernel_rfl) (by kernel_rfl) (by kernel_rfl) (fun _ _ _ h => h) (Or.inl ⟨by rfl, ?_⟩) (by assumption) ?_
  rotate_left
  · intro w hSw; (try dsimp only at hSw); go_simp; try with_reducible rfl
  (try simp only [Act.put, List.setIfInBounds_toArray, List.set_cons_zero, List.set_cons_succ])
  refine wpAnyH_ready (rs := [17]) (by kernel_rfl) (by simp) ?_
  refine AllReadyH.cons rfl (fun K hK => ?_) AllReadyH.nil
  go_simp
  go_wp2_with fail
  refine hK.out _ _ (SH2) (fun hHeld => ?_)
  clear hK K
  (try dsimp only [Act.put]); (try simp only [Act.put, List.setIfInBounds_toArray, List.set_cons_zero, List.set_cons_succ])
  refine wpAnyH_take (i := 18) (oi := { dst := some 251, op := Op.indexAddr 30 (Operand.tmp 242) (Operand.tmp 243), type := 0, pos := "ref.go:115", after := #[{ on := 8, ground := Ground.data }, { on := 9, ground := Ground.data }, { on := 0, ground := Ground.phase }, { on := 1, ground := Ground.phase }, { on := 2, ground := Ground.phase }, { on := 3, ground := Ground.phase }, { on := 4, ground := Ground.phase }, { on := 5, ground := Ground.phase }, { on := 6, ground := Ground.phase }, { on := 7, ground := Ground.phase }, { on := 8, ground := Ground.phase }, { on := 9, ground := Ground.phase }, { on := 10, ground := Ground.phase }, { on := 11, ground := Ground.phase }, { on := 12, ground := Ground.phase }, { on := 13, ground := Ground.phase }, { on := 14, ground := Ground.phase }, { on := 15, ground := Ground.phase }, { on := 16, ground := Ground.phase }, { on := 17, ground := Ground.phase }], guard := none }) (v := ?_) rfl (by kernel_rfl) (by kernel_rfl) (by kernel_rfl) (fun _ _ _ h => h) (Or.inl ⟨by rfl, ?_⟩) (by assumption) ?_
  rotate_left
  · intro w hSw; (try dsimp only at hSw); go_simp; try with_reducible rfl
  (try simp only [Act.put, List.setIfInBounds_toArray, List.set_cons_zero, List.set_cons_succ])
  refine wpAnyH_ready (rs := [19]) (by kernel_rfl) (by simp) ?_
  refine AllReadyH.cons rfl (fun K hK => ?_) AllReadyH.nil
  go_simp
  go_wp2_with fail
  refine hK.out _ _ (SH3) (fun hHeld => ?_)
  clear hK K
  (try dsimp only [Act.put]); (try simp only [Act.put, List.setIfInBounds_toArray, List.set_cons_zero, List.set_cons_succ])
  refine wpAnyH_done (by kernel_rfl) ?_ _
  generalize hW4 : World.setCell _ _ _ = W4 at HF3 ⊢
  clear hW4 hHeld
  clear ow od fw fd
  have f5 := HF3.out.rs.fr (t * 11 + 5)
  have q5 := (HF3.out.rs.t HX.out).far
  dsimp only at q5
  have HF4 := Lib.hid (HF3.out.mod HX.out 5 (.int .i64 5) (fun y => { y with far := 5 }) (by omega) rfl)
  go_wp2_with fail
  go_ret
  exact RHand.yes HF4.out.rs HF4.out.kp (ActR.grant Hhop.out rfl rfl rfl Hhn.out)
set_option maxHeartbeats 4000000 in
theorem wait_x {w : World} {p : RPl} {s : RS} (h : RsAt w p s) {t o : Nat} (xcalls : Int) (xopn : Bool) (xop xobj xarg xfar xcode xval : Int) (xflag : Bool) (xsaved xsince : Int) (hx : s.T[t]? = some ⟨xcalls, xopn, xop, xobj, xarg, xfar, xcode, xval, xflag, xsaved, xsince⟩) {own dep : Int} (hW : s.W[o]? = some own) (hD : s.D[o]? = some dep) (bo : Bool) (kind idx act oth code val : Int) (hop : xop = 2 ∨ xop = 3) (a8 : (act == 8) = false) (a7 : (act == 7) = false) (a2 : (act == 2) = false) (a4 : (act == 4) = false) (a5 : (act == 5) = false) :
    Calls Try.prog 66 #[rspV p, .pointer (some ⟨p.T, t * 11, none⟩), .bool bo, evV ⟨kind, (t : Int), idx, act, (o : Int), oth, code, val⟩] w (RHand w p s (ActR s t ⟨xcalls, xopn, xop, xobj, xarg, xfar, xcode, xval, xflag, xsaved, xsince⟩ o own dep ⟨kind, (t : Int), idx, act, (o : Int), oth, code, val⟩)) := by
  have HX := Lib.hid hx
  have HW := Lib.hid hW
  have HD := Lib.hid hD
  have it := idx_rthrs p.T s.T.length p.cT t (List.getElem?_eq_some_iff.1 hx).1
  have iw := idx_rints p.W s.W.length p.cW o (List.getElem?_eq_some_iff.1 hW).1
  have id' := idx_rints p.D s.D.length p.cD o (List.getElem?_eq_some_iff.1 hD).1
  have HF0 := Lib.hid (RFr.boxed h ⟨kind, (t : Int), idx, act, (o : Int), oth, code, val⟩)
  have HH := Lib.hid h
  have Hhop := Lib.hid hop
  clear h hx hW hD
  go_enter Try.func66, Try.ntmps66
  go_upto_region 1 with fail
  generalize hWW : w.alloc _ = W at HF0 ⊢
  obtain ⟨bx, hbx⟩ : ∃ bx, bx = w.heap.size := ⟨_, rfl⟩
  rw [← hbx] at HF0 ⊢
  clear hbx hWW
  obtain ⟨⟨c0, c1, c2, c3⟩, ⟨b0, b1, b2, b3, b4, b5, b6, b7⟩⟩ := HF0.out.cells
  obtain ⟨t0, t1, t2, t3, t4, t5, t6, t7, t8, t9, t10⟩ := HF0.out.rs.t HX.out
  have ow := HF0.out.rs.ow.cell HW.out
  have od := HF0.out.rs.dp.cell HD.out
  have nbT : ¬ bx = p.T := fun e => HF0.out.out (.inr (.inr (.inr e)))
  have nbT' : ¬ p.T = bx := fun e => nbT e.symm
  dsimp only at b0 b1 b2 b3 b4 b5 b6 b7 t0 t1 t2 t3 t4 t5 t6 t7 t8 t9 t10
  go_wp2_with fail
  go_ret
  exact RHand.no HF0.out.rs HF0.out.kp
end Go.Proofs.Ytcgljmeppmdihaa
