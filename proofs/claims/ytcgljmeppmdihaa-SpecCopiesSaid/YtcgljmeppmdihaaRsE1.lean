/- The document's automaton: act, look, deflate, interrupt (written by tools/gen_rsE.py). -/
import Derived.Test.YtcgljmeppmdihaaRsE0
namespace Go.Proofs.Ytcgljmeppmdihaa
open Go.ChangeShapes Go.WideShapes Go.ChangeAt Go.RowKit
set_option linter.unusedVariables false
set_option maxRecDepth 100000
set_option linter.unusedSimpArgs false
set_option maxHeartbeats 8000000 in
theorem act_look_y {w : World} {p : RPl} {s : RS} (h : RsAt w p s) {t o : Nat} (xcalls : Int) (xarg xfar xcode xval : Int) (xflag : Bool) (xsaved xsince : Int) (hx : s.T[t]? = some ⟨xcalls, true, 7, (o : Int), xarg, xfar, xcode, xval, xflag, xsaved, xsince⟩) (hW : s.W[o]? = some (t : Int)) {dep : Int} (hD : s.D[o]? = some dep) (hva : validR s 7 (o : Int) xarg) (hf5 : (xfar == 5) = false) (kind idx act oth code val : Int)  :
    Calls Try.prog 44 #[rspV p, evV ⟨kind, (t : Int), idx, act, (o : Int), oth, code, val⟩] w (RHand w p s (ActR s t ⟨xcalls, true, 7, (o : Int), xarg, xfar, xcode, xval, xflag, xsaved, xsince⟩ o (t : Int) dep ⟨kind, (t : Int), idx, act, (o : Int), oth, code, val⟩)) := by
  have HX := Lib.hid hx
  have HW := Lib.hid hW
  have HD := Lib.hid hD
  have HVA := Lib.hid hva
  have it := idx_rthrs p.T s.T.length p.cT t (List.getElem?_eq_some_iff.1 hx).1
  have iw := idx_rints p.W s.W.length p.cW o (List.getElem?_eq_some_iff.1 hW).1
  have id' := idx_rints p.D s.D.length p.cD o (List.getElem?_eq_some_iff.1 hD).1
  have HF0 := Lib.hid (RFr.boxed h ⟨kind, (t : Int), idx, act, (o : Int), oth, code, val⟩)
  clear h hx hW hD hva
  go_enter Try.func44, Try.ntmps44
  go_upto_region 1 with fail
  generalize hWW : w.alloc _ = W at HF0 ⊢
  obtain ⟨bx, hbx⟩ : ∃ bx, bx = w.heap.size := ⟨_, rfl⟩
  rw [← hbx] at HF0 ⊢
  clear hbx hWW
  obtain ⟨⟨c0, c1, c2, c3⟩, ⟨b0, b1, b2, b3, b4, b5, b6, b7⟩⟩ := HF0.out.cells
  obtain ⟨t0, t1, t2, t3, t4, t5, t6, t7, t8, t9, t10⟩ := HF0.out.rs.t HX.out
  have ow := HF0.out.rs.ow.cell HW.out
  have od := HF0.out.rs.dp.cell HD.out
  dsimp only at b0 b1 b2 b3 b4 b5 b6 b7 t0 t1 t2 t3 t4 t5 t6 t7 t8 t9 t10
  have nbT : ¬ bx = p.T := fun e => HF0.out.out (.inr (.inr (.inr e)))
  have nbT' : ¬ p.T = bx := fun e => nbT e.symm
  go_quiet (fail)
  generalize hq : World.drewN _ _ = W2
  have HF1 := Lib.hid (show RFr w W2 p s bx _ from by rw [← hq]; exact HF0.out.drewN _)
  clear hq HF0
  clear c0 c1 c2 c3 b0 b1 b2 b3 b4 b5 b6 b7 t0 t1 t2 t3 t4 t5 t6 t7 t8 t9 t10 ow od
  obtain ⟨⟨c0, c1, c2, c3⟩, ⟨b0, b1, b2, b3, b4, b5, b6, b7⟩⟩ := HF1.out.cells
  obtain ⟨t0, t1, t2, t3, t4, t5, t6, t7, t8, t9, t10⟩ := HF1.out.rs.t HX.out
  have ow := HF1.out.rs.ow.cell HW.out
  have od := HF1.out.rs.dp.cell HD.out
  dsimp only at b0 b1 b2 b3 b4 b5 b6 b7 t0 t1 t2 t3 t4 t5 t6 t7 t8 t9 t10
  have HWr := Lib.hid (fun V (hV : Below W2.heap.size W2 V) => wrong_no (HF1.out.below hV).rs HVA.out)
  have SK := Lib.hid (show ∀ V, Below W2.heap.size W2 V → V.cell? ⟨bx, 4, none⟩ = some (.int .i64 (o : Int)) ∧ V.cell? ⟨p.T, t * 11 + 1, none⟩ = some (.bool true) ∧ V.cell? ⟨p.T, t * 11 + 2, none⟩ = some (.int .i64 7) ∧ V.cell? ⟨p.T, t * 11 + 3, none⟩ = some (.int .i64 (o : Int)) ∧ V.cell? ⟨p.T, t * 11 + 4, none⟩ = some (.int .i64 xarg) ∧ V.cell? ⟨p.T, t * 11 + 5, none⟩ = some (.int .i64 xfar) from fun V hV => by have z := HF1.out.below hV; have q := z.rs.t HX.out; exact ⟨(evAt z.ev).b4, q.opn, q.op, q.obj, q.arg, q.far⟩)
  go_upto_region 2 with fail
  have bc := rdrew W2
  go_region_held3 (fun (V : World) => V.cell? ⟨bx, 4, none⟩ = some (.int .i64 (o : Int)) ∧ V.cell? ⟨p.T, t * 11 + 1, none⟩ = some (.bool true) ∧ V.cell? ⟨p.T, t * 11 + 2, none⟩ = some (.int .i64 7) ∧ V.cell? ⟨p.T, t * 11 + 3, none⟩ = some (.int .i64 (o : Int)) ∧ V.cell? ⟨p.T, t * 11 + 4, none⟩ = some (.int .i64 xarg) ∧ V.cell? ⟨p.T, t * 11 + 5, none⟩ = some (.int .i64 xfar)) (exact SK.out _ bc) ((go_at_call 45; (with_reducible refine (HWr.out _ bc).mono ?_); rintro e3 w3 ⟨rfl, b3'⟩; replace bc := Below.trans bc (Below.mono b3' bc.size)))
  have HF2 := Lib.hid (HF1.out.below bc)
  clear c0 c1 c2 c3 b0 b1 b2 b3 b4 b5 b6 b7 t0 t1 t2 t3 t4 t5 t6 t7 t8 t9 t10 ow od
  clear SK HWr bc b3' HF1
  obtain ⟨⟨c0, c1, c2, c3⟩, ⟨b0, b1, b2, b3, b4, b5, b6, b7⟩⟩ := HF2.out.cells
  obtain ⟨t0, t1, t2, t3, t4, t5, t6, t7, t8, t9, t10⟩ := HF2.out.rs.t HX.out
  have ow := HF2.out.rs.ow.cell HW.out
  have od := HF2.out.rs.dp.cell HD.out
  dsimp only at b0 b1 b2 b3 b4 b5 b6 b7 t0 t1 t2 t3 t4 t5 t6 t7 t8 t9 t10
  go_upto_region 5 with fail
  go_quiet (fail)
  generalize hq : World.drewN _ _ = W4
  have HF4 := Lib.hid (show RFr w W4 p s bx _ from by rw [← hq]; exact HF2.out.drewN _)
  clear hq HF2
  clear c0 c1 c2 c3 b0 b1 b2 b3 b4 b5 b6 b7 t0 t1 t2 t3 t4 t5 t6 t7 t8 t9 t10 ow od
  obtain ⟨⟨c0, c1, c2, c3⟩, ⟨b0, b1, b2, b3, b4, b5, b6, b7⟩⟩ := HF4.out.cells
  obtain ⟨t0, t1, t2, t3, t4, t5, t6, t7, t8, t9, t10⟩ := HF4.out.rs.t HX.out
  have ow := HF4.out.rs.ow.cell HW.out
  have od := HF4.out.rs.dp.cell HD.out
  dsimp only at b0 b1 b2 b3 b4 b5 b6 b7 t0 t1 t2 t3 t4 t5 t6 t7 t8 t9 t10
  by_cases hact9 : act = 9
  · subst hact9
    by_cases hoth1 : oth = 1
    · subst hoth1
      go_wp2_with (go_at_call 64; (with_reducible refine (finish_any HF4.out.rs HX.out (0) (1)).mono ?_); rintro e9 w9 ⟨rfl, h9, k9⟩)
      go_ret
      exact RHand.yes h9 (HF4.out.kp.trans k9) (ActR.look rfl rfl (.inl ⟨rfl, rfl⟩))
    · have hoth1b : (oth == 1) = false := beq_eq_false_iff_ne.2 hoth1
      have hoth1n : (oth != 1) = true := by simp [bne, hoth1b]
      clear hoth1
      by_cases hoth0 : oth = 0
      · subst hoth0
        go_wp2_with fail
        go_ret
        exact RHand.no HF4.out.rs HF4.out.kp
      · have hoth0b : (oth == 0) = false := beq_eq_false_iff_ne.2 hoth0
        have hoth0n : (oth != 0) = true := by simp [bne, hoth0b]
        clear hoth0
        go_wp2_with fail
        go_ret
        exact RHand.no HF4.out.rs HF4.out.kp
  · have hact9b : (act == 9) = false := beq_eq_false_iff_ne.2 hact9
    have hact9n : (act != 9) = true := by simp [bne, hact9b]
    clear hact9
    go_wp2_with fail
    go_ret
    exact RHand.no HF4.out.rs HF4.out.kp
set_option maxHeartbeats 8000000 in
theorem act_defl_y {w : World} {p : RPl} {s : RS} (h : RsAt w p s) {t o : Nat} (xcalls : Int) (xarg xfar xcode xval : Int) (xflag : Bool) (xsaved xsince : Int) (hx : s.T[t]? = some ⟨xcalls, true, 8, (o : Int), xarg, xfar, xcode, xval, xflag, xsaved, xsince⟩) (hW : s.W[o]? = some (t : Int)) {dep : Int} (hD : s.D[o]? = some dep) (hva : validR s 8 (o : Int) xarg) (hf5 : (xfar == 5) = false) (kind idx act oth code val : Int)  :
    Calls Try.prog 44 #[rspV p, evV ⟨kind, (t : Int), idx, act, (o : Int), oth, code, val⟩] w (RHand w p s (ActR s t ⟨xcalls, true, 8, (o : Int), xarg, xfar, xcode, xval, xflag, xsaved, xsince⟩ o (t : Int) dep ⟨kind, (t : Int), idx, act, (o : Int), oth, code, val⟩)) := by
  have HX := Lib.hid hx
  have HW := Lib.hid hW
  have HD := Lib.hid hD
  have HVA := Lib.hid hva
  have it := idx_rthrs p.T s.T.length p.cT t (List.getElem?_eq_some_iff.1 hx).1
  have iw := idx_rints p.W s.W.length p.cW o (List.getElem?_eq_some_iff.1 hW).1
  have id' := idx_rints p.D s.D.length p.cD o (List.getElem?_eq_some_iff.1 hD).1
  have HF0 := Lib.hid (RFr.boxed h ⟨kind, (t : Int), idx, act, (o : Int), oth, code, val⟩)
  clear h hx hW hD hva
  go_enter Try.func44, Try.ntmps44
  go_upto_region 1 with fail
  generalize hWW : w.alloc _ = W at HF0 ⊢
  obtain ⟨bx, hbx⟩ : ∃ bx, bx = w.heap.size := ⟨_, rfl⟩
  rw [← hbx] at HF0 ⊢
  clear hbx hWW
  obtain ⟨⟨c0, c1, c2, c3⟩, ⟨b0, b1, b2, b3, b4, b5, b6, b7⟩⟩ := HF0.out.cells
  obtain ⟨t0, t1, t2, t3, t4, t5, t6, t7, t8, t9, t10⟩ := HF0.out.rs.t HX.out
  have ow := HF0.out.rs.ow.cell HW.out
  have od := HF0.out.rs.dp.cell HD.out
  dsimp only at b0 b1 b2 b3 b4 b5 b6 b7 t0 t1 t2 t3 t4 t5 t6 t7 t8 t9 t10
  have nbT : ¬ bx = p.T := fun e => HF0.out.out (.inr (.inr (.inr e)))
  have nbT' : ¬ p.T = bx := fun e => nbT e.symm
  go_quiet (fail)
  generalize hq : World.drewN _ _ = W2
  have HF1 := Lib.hid (show RFr w W2 p s bx _ from by rw [← hq]; exact HF0.out.drewN _)
  clear hq HF0
  clear c0 c1 c2 c3 b0 b1 b2 b3 b4 b5 b6 b7 t0 t1 t2 t3 t4 t5 t6 t7 t8 t9 t10 ow od
  obtain ⟨⟨c0, c1, c2, c3⟩, ⟨b0, b1, b2, b3, b4, b5, b6, b7⟩⟩ := HF1.out.cells
  obtain ⟨t0, t1, t2, t3, t4, t5, t6, t7, t8, t9, t10⟩ := HF1.out.rs.t HX.out
  have ow := HF1.out.rs.ow.cell HW.out
  have od := HF1.out.rs.dp.cell HD.out
  dsimp only at b0 b1 b2 b3 b4 b5 b6 b7 t0 t1 t2 t3 t4 t5 t6 t7 t8 t9 t10
  have HWr := Lib.hid (fun V (hV : Below W2.heap.size W2 V) => wrong_no (HF1.out.below hV).rs HVA.out)
  have SK := Lib.hid (show ∀ V, Below W2.heap.size W2 V → V.cell? ⟨bx, 4, none⟩ = some (.int .i64 (o : Int)) ∧ V.cell? ⟨p.T, t * 11 + 1, none⟩ = some (.bool true) ∧ V.cell? ⟨p.T, t * 11 + 2, none⟩ = some (.int .i64 8) ∧ V.cell? ⟨p.T, t * 11 + 3, none⟩ = some (.int .i64 (o : Int)) ∧ V.cell? ⟨p.T, t * 11 + 4, none⟩ = some (.int .i64 xarg) ∧ V.cell? ⟨p.T, t * 11 + 5, none⟩ = some (.int .i64 xfar) from fun V hV => by have z := HF1.out.below hV; have q := z.rs.t HX.out; exact ⟨(evAt z.ev).b4, q.opn, q.op, q.obj, q.arg, q.far⟩)
  go_upto_region 2 with fail
  have bc := rdrew W2
  go_region_held3 (fun (V : World) => V.cell? ⟨bx, 4, none⟩ = some (.int .i64 (o : Int)) ∧ V.cell? ⟨p.T, t * 11 + 1, none⟩ = some (.bool true) ∧ V.cell? ⟨p.T, t * 11 + 2, none⟩ = some (.int .i64 8) ∧ V.cell? ⟨p.T, t * 11 + 3, none⟩ = some (.int .i64 (o : Int)) ∧ V.cell? ⟨p.T, t * 11 + 4, none⟩ = some (.int .i64 xarg) ∧ V.cell? ⟨p.T, t * 11 + 5, none⟩ = some (.int .i64 xfar)) (exact SK.out _ bc) ((go_at_call 45; (with_reducible refine (HWr.out _ bc).mono ?_); rintro e3 w3 ⟨rfl, b3'⟩; replace bc := Below.trans bc (Below.mono b3' bc.size)))
  have HF2 := Lib.hid (HF1.out.below bc)
  clear c0 c1 c2 c3 b0 b1 b2 b3 b4 b5 b6 b7 t0 t1 t2 t3 t4 t5 t6 t7 t8 t9 t10 ow od
  clear SK HWr bc b3' HF1
  obtain ⟨⟨c0, c1, c2, c3⟩, ⟨b0, b1, b2, b3, b4, b5, b6, b7⟩⟩ := HF2.out.cells
  obtain ⟨t0, t1, t2, t3, t4, t5, t6, t7, t8, t9, t10⟩ := HF2.out.rs.t HX.out
  have ow := HF2.out.rs.ow.cell HW.out
  have od := HF2.out.rs.dp.cell HD.out
  dsimp only at b0 b1 b2 b3 b4 b5 b6 b7 t0 t1 t2 t3 t4 t5 t6 t7 t8 t9 t10
  go_upto_region 5 with fail
  go_quiet (fail)
  generalize hq : World.drewN _ _ = W4
  have HF4 := Lib.hid (show RFr w W4 p s bx _ from by rw [← hq]; exact HF2.out.drewN _)
  clear hq HF2
  clear c0 c1 c2 c3 b0 b1 b2 b3 b4 b5 b6 b7 t0 t1 t2 t3 t4 t5 t6 t7 t8 t9 t10 ow od
  obtain ⟨⟨c0, c1, c2, c3⟩, ⟨b0, b1, b2, b3, b4, b5, b6, b7⟩⟩ := HF4.out.cells
  obtain ⟨t0, t1, t2, t3, t4, t5, t6, t7, t8, t9, t10⟩ := HF4.out.rs.t HX.out
  have ow := HF4.out.rs.ow.cell HW.out
  have od := HF4.out.rs.dp.cell HD.out
  dsimp only at b0 b1 b2 b3 b4 b5 b6 b7 t0 t1 t2 t3 t4 t5 t6 t7 t8 t9 t10
  by_cases hact10 : act = 10
  · subst hact10
    by_cases hoth0 : oth = 0
    · subst hoth0
      go_wp2_with (go_at_call 64; (with_reducible refine (finish_any HF4.out.rs HX.out (0) (0)).mono ?_); rintro e9 w9 ⟨rfl, h9, k9⟩)
      go_ret
      exact RHand.yes h9 (HF4.out.kp.trans k9) (ActR.deflate rfl rfl rfl)
    · have hoth0b : (oth == 0) = false := beq_eq_false_iff_ne.2 hoth0
      have hoth0n : (oth != 0) = true := by simp [bne, hoth0b]
      clear hoth0
      go_wp2_with fail
      go_ret
      exact RHand.no HF4.out.rs HF4.out.kp
  · have hact10b : (act == 10) = false := beq_eq_false_iff_ne.2 hact10
    have hact10n : (act != 10) = true := by simp [bne, hact10b]
    clear hact10
    go_wp2_with fail
    go_ret
    exact RHand.no HF4.out.rs HF4.out.kp
set_option maxHeartbeats 8000000 in
theorem act_look_n {w : World} {p : RPl} {s : RS} (h : RsAt w p s) {t o : Nat} (xcalls : Int) (xarg xfar xcode xval : Int) (xflag : Bool) (xsaved xsince : Int) (hx : s.T[t]? = some ⟨xcalls, true, 7, (o : Int), xarg, xfar, xcode, xval, xflag, xsaved, xsince⟩) {own : Int} (hW : s.W[o]? = some own) {dep : Int} (hD : s.D[o]? = some dep) (hva : validR s 7 (o : Int) xarg) (hf5 : (xfar == 5) = false) (kind idx act oth code val : Int)  (hwb : (own == (t : Int)) = false) :
    Calls Try.prog 44 #[rspV p, evV ⟨kind, (t : Int), idx, act, (o : Int), oth, code, val⟩] w (RHand w p s (ActR s t ⟨xcalls, true, 7, (o : Int), xarg, xfar, xcode, xval, xflag, xsaved, xsince⟩ o own dep ⟨kind, (t : Int), idx, act, (o : Int), oth, code, val⟩)) := by
  have HX := Lib.hid hx
  have HW := Lib.hid hW
  have HD := Lib.hid hD
  have HVA := Lib.hid hva
  have it := idx_rthrs p.T s.T.length p.cT t (List.getElem?_eq_some_iff.1 hx).1
  have iw := idx_rints p.W s.W.length p.cW o (List.getElem?_eq_some_iff.1 hW).1
  have id' := idx_rints p.D s.D.length p.cD o (List.getElem?_eq_some_iff.1 hD).1
  have HF0 := Lib.hid (RFr.boxed h ⟨kind, (t : Int), idx, act, (o : Int), oth, code, val⟩)
  clear h hx hW hD hva
  go_enter Try.func44, Try.ntmps44
  go_upto_region 1 with fail
  generalize hWW : w.alloc _ = W at HF0 ⊢
  obtain ⟨bx, hbx⟩ : ∃ bx, bx = w.heap.size := ⟨_, rfl⟩
  rw [← hbx] at HF0 ⊢
  clear hbx hWW
  obtain ⟨⟨c0, c1, c2, c3⟩, ⟨b0, b1, b2, b3, b4, b5, b6, b7⟩⟩ := HF0.out.cells
  obtain ⟨t0, t1, t2, t3, t4, t5, t6, t7, t8, t9, t10⟩ := HF0.out.rs.t HX.out
  have ow := HF0.out.rs.ow.cell HW.out
  have od := HF0.out.rs.dp.cell HD.out
  dsimp only at b0 b1 b2 b3 b4 b5 b6 b7 t0 t1 t2 t3 t4 t5 t6 t7 t8 t9 t10
  have nbT : ¬ bx = p.T := fun e => HF0.out.out (.inr (.inr (.inr e)))
  have nbT' : ¬ p.T = bx := fun e => nbT e.symm
  go_quiet (fail)
  generalize hq : World.drewN _ _ = W2
  have HF1 := Lib.hid (show RFr w W2 p s bx _ from by rw [← hq]; exact HF0.out.drewN _)
  clear hq HF0
  clear c0 c1 c2 c3 b0 b1 b2 b3 b4 b5 b6 b7 t0 t1 t2 t3 t4 t5 t6 t7 t8 t9 t10 ow od
  obtain ⟨⟨c0, c1, c2, c3⟩, ⟨b0, b1, b2, b3, b4, b5, b6, b7⟩⟩ := HF1.out.cells
  obtain ⟨t0, t1, t2, t3, t4, t5, t6, t7, t8, t9, t10⟩ := HF1.out.rs.t HX.out
  have ow := HF1.out.rs.ow.cell HW.out
  have od := HF1.out.rs.dp.cell HD.out
  dsimp only at b0 b1 b2 b3 b4 b5 b6 b7 t0 t1 t2 t3 t4 t5 t6 t7 t8 t9 t10
  have HWr := Lib.hid (fun V (hV : Below W2.heap.size W2 V) => wrong_no (HF1.out.below hV).rs HVA.out)
  have SK := Lib.hid (show ∀ V, Below W2.heap.size W2 V → V.cell? ⟨bx, 4, none⟩ = some (.int .i64 (o : Int)) ∧ V.cell? ⟨p.T, t * 11 + 1, none⟩ = some (.bool true) ∧ V.cell? ⟨p.T, t * 11 + 2, none⟩ = some (.int .i64 7) ∧ V.cell? ⟨p.T, t * 11 + 3, none⟩ = some (.int .i64 (o : Int)) ∧ V.cell? ⟨p.T, t * 11 + 4, none⟩ = some (.int .i64 xarg) ∧ V.cell? ⟨p.T, t * 11 + 5, none⟩ = some (.int .i64 xfar) from fun V hV => by have z := HF1.out.below hV; have q := z.rs.t HX.out; exact ⟨(evAt z.ev).b4, q.opn, q.op, q.obj, q.arg, q.far⟩)
  go_upto_region 2 with fail
  have bc := rdrew W2
  go_region_held3 (fun (V : World) => V.cell? ⟨bx, 4, none⟩ = some (.int .i64 (o : Int)) ∧ V.cell? ⟨p.T, t * 11 + 1, none⟩ = some (.bool true) ∧ V.cell? ⟨p.T, t * 11 + 2, none⟩ = some (.int .i64 7) ∧ V.cell? ⟨p.T, t * 11 + 3, none⟩ = some (.int .i64 (o : Int)) ∧ V.cell? ⟨p.T, t * 11 + 4, none⟩ = some (.int .i64 xarg) ∧ V.cell? ⟨p.T, t * 11 + 5, none⟩ = some (.int .i64 xfar)) (exact SK.out _ bc) ((go_at_call 45; (with_reducible refine (HWr.out _ bc).mono ?_); rintro e3 w3 ⟨rfl, b3'⟩; replace bc := Below.trans bc (Below.mono b3' bc.size)))
  have HF2 := Lib.hid (HF1.out.below bc)
  clear c0 c1 c2 c3 b0 b1 b2 b3 b4 b5 b6 b7 t0 t1 t2 t3 t4 t5 t6 t7 t8 t9 t10 ow od
  clear SK HWr bc b3' HF1
  obtain ⟨⟨c0, c1, c2, c3⟩, ⟨b0, b1, b2, b3, b4, b5, b6, b7⟩⟩ := HF2.out.cells
  obtain ⟨t0, t1, t2, t3, t4, t5, t6, t7, t8, t9, t10⟩ := HF2.out.rs.t HX.out
  have ow := HF2.out.rs.ow.cell HW.out
  have od := HF2.out.rs.dp.cell HD.out
  dsimp only at b0 b1 b2 b3 b4 b5 b6 b7 t0 t1 t2 t3 t4 t5 t6 t7 t8 t9 t10
  go_upto_region 5 with fail
  go_quiet (fail)
  generalize hq : World.drewN _ _ = W4
  have HF4 := Lib.hid (show RFr w W4 p s bx _ from by rw [← hq]; exact HF2.out.drewN _)
  clear hq HF2
  clear c0 c1 c2 c3 b0 b1 b2 b3 b4 b5 b6 b7 t0 t1 t2 t3 t4 t5 t6 t7 t8 t9 t10 ow od
  obtain ⟨⟨c0, c1, c2, c3⟩, ⟨b0, b1, b2, b3, b4, b5, b6, b7⟩⟩ := HF4.out.cells
  obtain ⟨t0, t1, t2, t3, t4, t5, t6, t7, t8, t9, t10⟩ := HF4.out.rs.t HX.out
  have ow := HF4.out.rs.ow.cell HW.out
  have od := HF4.out.rs.dp.cell HD.out
  dsimp only at b0 b1 b2 b3 b4 b5 b6 b7 t0 t1 t2 t3 t4 t5 t6 t7 t8 t9 t10
  have hwn := Lib.hid (beq_eq_false_iff_ne.1 hwb)
  by_cases hact9 : act = 9
  · subst hact9
    by_cases hoth1 : oth = 1
    · subst hoth1
      go_wp2_with fail
      go_ret
      exact RHand.no HF4.out.rs HF4.out.kp
    · have hoth1b : (oth == 1) = false := beq_eq_false_iff_ne.2 hoth1
      have hoth1n : (oth != 1) = true := by simp [bne, hoth1b]
      clear hoth1
      by_cases hoth0 : oth = 0
      · subst hoth0
        go_wp2_with (go_at_call 64; (with_reducible refine (finish_any HF4.out.rs HX.out (0) (0)).mono ?_); rintro e9 w9 ⟨rfl, h9, k9⟩)
        go_ret
        exact RHand.yes h9 (HF4.out.kp.trans k9) (ActR.look rfl rfl (.inr ⟨rfl, hwn.out⟩))
      · have hoth0b : (oth == 0) = false := beq_eq_false_iff_ne.2 hoth0
        have hoth0n : (oth != 0) = true := by simp [bne, hoth0b]
        clear hoth0
        go_wp2_with fail
        go_ret
        exact RHand.no HF4.out.rs HF4.out.kp
  · have hact9b : (act == 9) = false := beq_eq_false_iff_ne.2 hact9
    have hact9n : (act != 9) = true := by simp [bne, hact9b]
    clear hact9
    go_wp2_with fail
    go_ret
    exact RHand.no HF4.out.rs HF4.out.kp
set_option maxHeartbeats 8000000 in
theorem act_defl_n {w : World} {p : RPl} {s : RS} (h : RsAt w p s) {t o : Nat} (xcalls : Int) (xarg xfar xcode xval : Int) (xflag : Bool) (xsaved xsince : Int) (hx : s.T[t]? = some ⟨xcalls, true, 8, (o : Int), xarg, xfar, xcode, xval, xflag, xsaved, xsince⟩) {own : Int} (hW : s.W[o]? = some own) {dep : Int} (hD : s.D[o]? = some dep) (hva : validR s 8 (o : Int) xarg) (hf5 : (xfar == 5) = false) (kind idx act oth code val : Int)  (hwb : (own == (t : Int)) = false) :
    Calls Try.prog 44 #[rspV p, evV ⟨kind, (t : Int), idx, act, (o : Int), oth, code, val⟩] w (RHand w p s (ActR s t ⟨xcalls, true, 8, (o : Int), xarg, xfar, xcode, xval, xflag, xsaved, xsince⟩ o own dep ⟨kind, (t : Int), idx, act, (o : Int), oth, code, val⟩)) := by
  have HX := Lib.hid hx
  have HW := Lib.hid hW
  have HD := Lib.hid hD
  have HVA := Lib.hid hva
  have it := idx_rthrs p.T s.T.length p.cT t (List.getElem?_eq_some_iff.1 hx).1
  have iw := idx_rints p.W s.W.length p.cW o (List.getElem?_eq_some_iff.1 hW).1
  have id' := idx_rints p.D s.D.length p.cD o (List.getElem?_eq_some_iff.1 hD).1
  have HF0 := Lib.hid (RFr.boxed h ⟨kind, (t : Int), idx, act, (o : Int), oth, code, val⟩)
  clear h hx hW hD hva
  go_enter Try.func44, Try.ntmps44
  go_upto_region 1 with fail
  generalize hWW : w.alloc _ = W at HF0 ⊢
  obtain ⟨bx, hbx⟩ : ∃ bx, bx = w.heap.size := ⟨_, rfl⟩
  rw [← hbx] at HF0 ⊢
  clear hbx hWW
  obtain ⟨⟨c0, c1, c2, c3⟩, ⟨b0, b1, b2, b3, b4, b5, b6, b7⟩⟩ := HF0.out.cells
  obtain ⟨t0, t1, t2, t3, t4, t5, t6, t7, t8, t9, t10⟩ := HF0.out.rs.t HX.out
  have ow := HF0.out.rs.ow.cell HW.out
  have od := HF0.out.rs.dp.cell HD.out
  dsimp only at b0 b1 b2 b3 b4 b5 b6 b7 t0 t1 t2 t3 t4 t5 t6 t7 t8 t9 t10
  have nbT : ¬ bx = p.T := fun e => HF0.out.out (.inr (.inr (.inr e)))
  have nbT' : ¬ p.T = bx := fun e => nbT e.symm
  go_quiet (fail)
  generalize hq : World.drewN _ _ = W2
  have HF1 := Lib.hid (show RFr w W2 p s bx _ from by rw [← hq]; exact HF0.out.drewN _)
  clear hq HF0
  clear c0 c1 c2 c3 b0 b1 b2 b3 b4 b5 b6 b7 t0 t1 t2 t3 t4 t5 t6 t7 t8 t9 t10 ow od
  obtain ⟨⟨c0, c1, c2, c3⟩, ⟨b0, b1, b2, b3, b4, b5, b6, b7⟩⟩ := HF1.out.cells
  obtain ⟨t0, t1, t2, t3, t4, t5, t6, t7, t8, t9, t10⟩ := HF1.out.rs.t HX.out
  have ow := HF1.out.rs.ow.cell HW.out
  have od := HF1.out.rs.dp.cell HD.out
  dsimp only at b0 b1 b2 b3 b4 b5 b6 b7 t0 t1 t2 t3 t4 t5 t6 t7 t8 t9 t10
  have HWr := Lib.hid (fun V (hV : Below W2.heap.size W2 V) => wrong_no (HF1.out.below hV).rs HVA.out)
  have SK := Lib.hid (show ∀ V, Below W2.heap.size W2 V → V.cell? ⟨bx, 4, none⟩ = some (.int .i64 (o : Int)) ∧ V.cell? ⟨p.T, t * 11 + 1, none⟩ = some (.bool true) ∧ V.cell? ⟨p.T, t * 11 + 2, none⟩ = some (.int .i64 8) ∧ V.cell? ⟨p.T, t * 11 + 3, none⟩ = some (.int .i64 (o : Int)) ∧ V.cell? ⟨p.T, t * 11 + 4, none⟩ = some (.int .i64 xarg) ∧ V.cell? ⟨p.T, t * 11 + 5, none⟩ = some (.int .i64 xfar) from fun V hV => by have z := HF1.out.below hV; have q := z.rs.t HX.out; exact ⟨(evAt z.ev).b4, q.opn, q.op, q.obj, q.arg, q.far⟩)
  go_upto_region 2 with fail
  have bc := rdrew W2
  go_region_held3 (fun (V : World) => V.cell? ⟨bx, 4, none⟩ = some (.int .i64 (o : Int)) ∧ V.cell? ⟨p.T, t * 11 + 1, none⟩ = some (.bool true) ∧ V.cell? ⟨p.T, t * 11 + 2, none⟩ = some (.int .i64 8) ∧ V.cell? ⟨p.T, t * 11 + 3, none⟩ = some (.int .i64 (o : Int)) ∧ V.cell? ⟨p.T, t * 11 + 4, none⟩ = some (.int .i64 xarg) ∧ V.cell? ⟨p.T, t * 11 + 5, none⟩ = some (.int .i64 xfar)) (exact SK.out _ bc) ((go_at_call 45; (with_reducible refine (HWr.out _ bc).mono ?_); rintro e3 w3 ⟨rfl, b3'⟩; replace bc := Below.trans bc (Below.mono b3' bc.size)))
  have HF2 := Lib.hid (HF1.out.below bc)
  clear c0 c1 c2 c3 b0 b1 b2 b3 b4 b5 b6 b7 t0 t1 t2 t3 t4 t5 t6 t7 t8 t9 t10 ow od
  clear SK HWr bc b3' HF1
  obtain ⟨⟨c0, c1, c2, c3⟩, ⟨b0, b1, b2, b3, b4, b5, b6, b7⟩⟩ := HF2.out.cells
  obtain ⟨t0, t1, t2, t3, t4, t5, t6, t7, t8, t9, t10⟩ := HF2.out.rs.t HX.out
  have ow := HF2.out.rs.ow.cell HW.out
  have od := HF2.out.rs.dp.cell HD.out
  dsimp only at b0 b1 b2 b3 b4 b5 b6 b7 t0 t1 t2 t3 t4 t5 t6 t7 t8 t9 t10
  go_upto_region 5 with fail
  go_quiet (fail)
  generalize hq : World.drewN _ _ = W4
  have HF4 := Lib.hid (show RFr w W4 p s bx _ from by rw [← hq]; exact HF2.out.drewN _)
  clear hq HF2
  clear c0 c1 c2 c3 b0 b1 b2 b3 b4 b5 b6 b7 t0 t1 t2 t3 t4 t5 t6 t7 t8 t9 t10 ow od
  obtain ⟨⟨c0, c1, c2, c3⟩, ⟨b0, b1, b2, b3, b4, b5, b6, b7⟩⟩ := HF4.out.cells
  obtain ⟨t0, t1, t2, t3, t4, t5, t6, t7, t8, t9, t10⟩ := HF4.out.rs.t HX.out
  have ow := HF4.out.rs.ow.cell HW.out
  have od := HF4.out.rs.dp.cell HD.out
  dsimp only at b0 b1 b2 b3 b4 b5 b6 b7 t0 t1 t2 t3 t4 t5 t6 t7 t8 t9 t10
  have hwn := Lib.hid (beq_eq_false_iff_ne.1 hwb)
  by_cases hact10 : act = 10
  · subst hact10
    by_cases hoth0 : oth = 0
    · subst hoth0
      go_wp2_with (go_at_call 64; (with_reducible refine (finish_any HF4.out.rs HX.out (0) (0)).mono ?_); rintro e9 w9 ⟨rfl, h9, k9⟩)
      go_ret
      exact RHand.yes h9 (HF4.out.kp.trans k9) (ActR.deflate rfl rfl rfl)
    · have hoth0b : (oth == 0) = false := beq_eq_false_iff_ne.2 hoth0
      have hoth0n : (oth != 0) = true := by simp [bne, hoth0b]
      clear hoth0
      go_wp2_with fail
      go_ret
      exact RHand.no HF4.out.rs HF4.out.kp
  · have hact10b : (act == 10) = false := beq_eq_false_iff_ne.2 hact10
    have hact10n : (act != 10) = true := by simp [bne, hact10b]
    clear hact10
    go_wp2_with fail
    go_ret
    exact RHand.no HF4.out.rs HF4.out.kp
set_option maxHeartbeats 8000000 in
theorem act_intr_y {w : World} {p : RPl} {s : RS} (h : RsAt w p s) {t o : Nat} (xcalls : Int) (xarg xfar xcode xval : Int) (xflag : Bool) (xsaved xsince : Int) (hx : s.T[t]? = some ⟨xcalls, true, 6, (o : Int), xarg, xfar, xcode, xval, xflag, xsaved, xsince⟩) (hW : s.W[o]? = some (t : Int)) {dep : Int} (hD : s.D[o]? = some dep) (hva : validR s 6 (o : Int) xarg) (hf5 : (xfar == 5) = false) (kind idx act oth code val : Int)  :
    Calls Try.prog 44 #[rspV p, evV ⟨kind, (t : Int), idx, act, (o : Int), oth, code, val⟩] w (RHand w p s (ActR s t ⟨xcalls, true, 6, (o : Int), xarg, xfar, xcode, xval, xflag, xsaved, xsince⟩ o (t : Int) dep ⟨kind, (t : Int), idx, act, (o : Int), oth, code, val⟩)) := by
  have HX := Lib.hid hx
  have HW := Lib.hid hW
  have HD := Lib.hid hD
  have HVA := Lib.hid hva
  have it := idx_rthrs p.T s.T.length p.cT t (List.getElem?_eq_some_iff.1 hx).1
  have iw := idx_rints p.W s.W.length p.cW o (List.getElem?_eq_some_iff.1 hW).1
  have id' := idx_rints p.D s.D.length p.cD o (List.getElem?_eq_some_iff.1 hD).1
  have HF0 := Lib.hid (RFr.boxed h ⟨kind, (t : Int), idx, act, (o : Int), oth, code, val⟩)
  clear h hx hW hD hva
  go_enter Try.func44, Try.ntmps44
  go_upto_region 1 with fail
  generalize hWW : w.alloc _ = W at HF0 ⊢
  obtain ⟨bx, hbx⟩ : ∃ bx, bx = w.heap.size := ⟨_, rfl⟩
  rw [← hbx] at HF0 ⊢
  clear hbx hWW
  obtain ⟨⟨c0, c1, c2, c3⟩, ⟨b0, b1, b2, b3, b4, b5, b6, b7⟩⟩ := HF0.out.cells
  obtain ⟨t0, t1, t2, t3, t4, t5, t6, t7, t8, t9, t10⟩ := HF0.out.rs.t HX.out
  have ow := HF0.out.rs.ow.cell HW.out
  have od := HF0.out.rs.dp.cell HD.out
  dsimp only at b0 b1 b2 b3 b4 b5 b6 b7 t0 t1 t2 t3 t4 t5 t6 t7 t8 t9 t10
  have nbT : ¬ bx = p.T := fun e => HF0.out.out (.inr (.inr (.inr e)))
  have nbT' : ¬ p.T = bx := fun e => nbT e.symm
  go_quiet (fail)
  generalize hq : World.drewN _ _ = W2
  have HF1 := Lib.hid (show RFr w W2 p s bx _ from by rw [← hq]; exact HF0.out.drewN _)
  clear hq HF0
  clear c0 c1 c2 c3 b0 b1 b2 b3 b4 b5 b6 b7 t0 t1 t2 t3 t4 t5 t6 t7 t8 t9 t10 ow od
  obtain ⟨⟨c0, c1, c2, c3⟩, ⟨b0, b1, b2, b3, b4, b5, b6, b7⟩⟩ := HF1.out.cells
  obtain ⟨t0, t1, t2, t3, t4, t5, t6, t7, t8, t9, t10⟩ := HF1.out.rs.t HX.out
  have ow := HF1.out.rs.ow.cell HW.out
  have od := HF1.out.rs.dp.cell HD.out
  dsimp only at b0 b1 b2 b3 b4 b5 b6 b7 t0 t1 t2 t3 t4 t5 t6 t7 t8 t9 t10
  have HWr := Lib.hid (fun V (hV : Below W2.heap.size W2 V) => wrong_no (HF1.out.below hV).rs HVA.out)
  have SK := Lib.hid (show ∀ V, Below W2.heap.size W2 V → V.cell? ⟨bx, 4, none⟩ = some (.int .i64 (o : Int)) ∧ V.cell? ⟨p.T, t * 11 + 1, none⟩ = some (.bool true) ∧ V.cell? ⟨p.T, t * 11 + 2, none⟩ = some (.int .i64 6) ∧ V.cell? ⟨p.T, t * 11 + 3, none⟩ = some (.int .i64 (o : Int)) ∧ V.cell? ⟨p.T, t * 11 + 4, none⟩ = some (.int .i64 xarg) ∧ V.cell? ⟨p.T, t * 11 + 5, none⟩ = some (.int .i64 xfar) from fun V hV => by have z := HF1.out.below hV; have q := z.rs.t HX.out; exact ⟨(evAt z.ev).b4, q.opn, q.op, q.obj, q.arg, q.far⟩)
  go_upto_region 2 with fail
  have bc := rdrew W2
  go_region_held3 (fun (V : World) => V.cell? ⟨bx, 4, none⟩ = some (.int .i64 (o : Int)) ∧ V.cell? ⟨p.T, t * 11 + 1, none⟩ = some (.bool true) ∧ V.cell? ⟨p.T, t * 11 + 2, none⟩ = some (.int .i64 6) ∧ V.cell? ⟨p.T, t * 11 + 3, none⟩ = some (.int .i64 (o : Int)) ∧ V.cell? ⟨p.T, t * 11 + 4, none⟩ = some (.int .i64 xarg) ∧ V.cell? ⟨p.T, t * 11 + 5, none⟩ = some (.int .i64 xfar)) (exact SK.out _ bc) ((go_at_call 45; (with_reducible refine (HWr.out _ bc).mono ?_); rintro e3 w3 ⟨rfl, b3'⟩; replace bc := Below.trans bc (Below.mono b3' bc.size)))
  have HF2 := Lib.hid (HF1.out.below bc)
  clear c0 c1 c2 c3 b0 b1 b2 b3 b4 b5 b6 b7 t0 t1 t2 t3 t4 t5 t6 t7 t8 t9 t10 ow od
  clear SK HWr bc b3' HF1
  obtain ⟨⟨c0, c1, c2, c3⟩, ⟨b0, b1, b2, b3, b4, b5, b6, b7⟩⟩ := HF2.out.cells
  obtain ⟨t0, t1, t2, t3, t4, t5, t6, t7, t8, t9, t10⟩ := HF2.out.rs.t HX.out
  have ow := HF2.out.rs.ow.cell HW.out
  have od := HF2.out.rs.dp.cell HD.out
  dsimp only at b0 b1 b2 b3 b4 b5 b6 b7 t0 t1 t2 t3 t4 t5 t6 t7 t8 t9 t10
  go_upto_region 5 with fail
  go_quiet (fail)
  generalize hq : World.drewN _ _ = W4
  have HF4 := Lib.hid (show RFr w W4 p s bx _ from by rw [← hq]; exact HF2.out.drewN _)
  clear hq HF2
  clear c0 c1 c2 c3 b0 b1 b2 b3 b4 b5 b6 b7 t0 t1 t2 t3 t4 t5 t6 t7 t8 t9 t10 ow od
  obtain ⟨⟨c0, c1, c2, c3⟩, ⟨b0, b1, b2, b3, b4, b5, b6, b7⟩⟩ := HF4.out.cells
  obtain ⟨t0, t1, t2, t3, t4, t5, t6, t7, t8, t9, t10⟩ := HF4.out.rs.t HX.out
  have ow := HF4.out.rs.ow.cell HW.out
  have od := HF4.out.rs.dp.cell HD.out
  dsimp only at b0 b1 b2 b3 b4 b5 b6 b7 t0 t1 t2 t3 t4 t5 t6 t7 t8 t9 t10
  obtain ⟨u, z, hau, hz⟩ : ∃ (u : Nat) (z : RTh), xarg = (u : Int) ∧ s.T[u]? = some z := by
    obtain ⟨_, _, _, h4⟩ := HVA.out
    exact ⟨xarg.toNat, _, by omega, List.getElem?_eq_getElem (by omega)⟩
  subst hau
  have HZ := Lib.hid hz
  have iu := idx_rthrs p.T s.T.length p.cT u (List.getElem?_eq_some_iff.1 hz).1
  clear hz
  by_cases hact6 : act = 6
  · subst hact6
    by_cases hou : oth = (u : Int)
    · subst hou
      go_upto_region 29 with fail
      go_quiet (fail)
      generalize hq : World.drewN _ _ = W4b
      have HF4b := Lib.hid (show RFr w W4b p s bx _ from by rw [← hq]; exact HF4.out.drewN _)
      clear hq
      clear c0 c1 c2 c3 b0 b1 b2 b3 b4 b5 b6 b7 t0 t1 t2 t3 t4 t5 t6 t7 t8 t9 t10 ow od
      obtain ⟨⟨c0, c1, c2, c3⟩, ⟨b0, b1, b2, b3, b4, b5, b6, b7⟩⟩ := HF4b.out.cells
      dsimp only at b0 b1 b2 b3 b4 b5 b6 b7
      have HF5 := Lib.hid HF4b.out.drew
      go_upto_region 31 with fail
      go_still_tail 8, (by kernel_rfl)
      change wpList _ _ _ _ _ W4b.drew
      clear c0 c1 c2 c3 b0 b1 b2 b3 b4 b5 b6 b7
      generalize W4b.drew = W5 at HF5 ⊢
      have HF6 := Lib.hid (HF5.out.mod HZ.out 8 (.bool true) (fun y => { y with flag := true }) (by omega) rfl)
      have q8 := (HF5.out.rs.t HZ.out).flag
      have f8 := HF5.out.rs.fr (u * 11 + 8)
      go_upto_region 32 with fail
      generalize hW6 : World.setCell _ _ _ = W6 at HF6 ⊢
      clear hW6
      clear q8 f8
      obtain ⟨x1, hx1, _⟩ := mod_op HX.out HZ.out (fun y => { y with flag := true }) (fun _ => rfl)
      have HX1 := Lib.hid hx1
      clear hx1
      go_wp2_with (go_at_call 64; (with_reducible refine (finish_any HF6.out.rs HX1.out 0 0).mono ?_); rintro e9 w9 ⟨rfl, h9, k9⟩)
      go_ret
      exact RHand.yes h9 (HF6.out.kp.trans k9) (ActR.interrupt u rfl rfl rfl rfl)
    · have houb : (oth == (u : Int)) = false := beq_eq_false_iff_ne.2 hou
      have houn : (oth != (u : Int)) = true := by simp [bne, houb]
      clear hou
      go_upto_region 29 with fail
      go_quiet (fail)
      go_wp2_with fail
      go_ret
      exact RHand.no (HF4.out.drewN _).rs (HF4.out.drewN _).kp
  · have hact6b : (act == 6) = false := beq_eq_false_iff_ne.2 hact6
    have hact6n : (act != 6) = true := by simp [bne, hact6b]
    clear hact6
    go_upto_region 29 with fail
    go_quiet (fail)
    go_wp2_with fail
    go_ret
    exact RHand.no (HF4.out.drewN _).rs (HF4.out.drewN _).kp
set_option maxHeartbeats 8000000 in
theorem act_intr_n {w : World} {p : RPl} {s : RS} (h : RsAt w p s) {t o : Nat} (xcalls : Int) (xarg xfar xcode xval : Int) (xflag : Bool) (xsaved xsince : Int) (hx : s.T[t]? = some ⟨xcalls, true, 6, (o : Int), xarg, xfar, xcode, xval, xflag, xsaved, xsince⟩) {own : Int} (hW : s.W[o]? = some own) {dep : Int} (hD : s.D[o]? = some dep) (hva : validR s 6 (o : Int) xarg) (hf5 : (xfar == 5) = false) (kind idx act oth code val : Int)  (hwb : (own == (t : Int)) = false) :
    Calls Try.prog 44 #[rspV p, evV ⟨kind, (t : Int), idx, act, (o : Int), oth, code, val⟩] w (RHand w p s (ActR s t ⟨xcalls, true, 6, (o : Int), xarg, xfar, xcode, xval, xflag, xsaved, xsince⟩ o own dep ⟨kind, (t : Int), idx, act, (o : Int), oth, code, val⟩)) := by
  have HX := Lib.hid hx
  have HW := Lib.hid hW
  have HD := Lib.hid hD
  have HVA := Lib.hid hva
  have it := idx_rthrs p.T s.T.length p.cT t (List.getElem?_eq_some_iff.1 hx).1
  have iw := idx_rints p.W s.W.length p.cW o (List.getElem?_eq_some_iff.1 hW).1
  have id' := idx_rints p.D s.D.length p.cD o (List.getElem?_eq_some_iff.1 hD).1
  have HF0 := Lib.hid (RFr.boxed h ⟨kind, (t : Int), idx, act, (o : Int), oth, code, val⟩)
  clear h hx hW hD hva
  go_enter Try.func44, Try.ntmps44
  go_upto_region 1 with fail
  generalize hWW : w.alloc _ = W at HF0 ⊢
  obtain ⟨bx, hbx⟩ : ∃ bx, bx = w.heap.size := ⟨_, rfl⟩
  rw [← hbx] at HF0 ⊢
  clear hbx hWW
  obtain ⟨⟨c0, c1, c2, c3⟩, ⟨b0, b1, b2, b3, b4, b5, b6, b7⟩⟩ := HF0.out.cells
  obtain ⟨t0, t1, t2, t3, t4, t5, t6, t7, t8, t9, t10⟩ := HF0.out.rs.t HX.out
  have ow := HF0.out.rs.ow.cell HW.out
  have od := HF0.out.rs.dp.cell HD.out
  dsimp only at b0 b1 b2 b3 b4 b5 b6 b7 t0 t1 t2 t3 t4 t5 t6 t7 t8 t9 t10
  have nbT : ¬ bx = p.T := fun e => HF0.out.out (.inr (.inr (.inr e)))
  have nbT' : ¬ p.T = bx := fun e => nbT e.symm
  go_quiet (fail)
  generalize hq : World.drewN _ _ = W2
  have HF1 := Lib.hid (show RFr w W2 p s bx _ from by rw [← hq]; exact HF0.out.drewN _)
  clear hq HF0
  clear c0 c1 c2 c3 b0 b1 b2 b3 b4 b5 b6 b7 t0 t1 t2 t3 t4 t5 t6 t7 t8 t9 t10 ow od
  obtain ⟨⟨c0, c1, c2, c3⟩, ⟨b0, b1, b2, b3, b4, b5, b6, b7⟩⟩ := HF1.out.cells
  obtain ⟨t0, t1, t2, t3, t4, t5, t6, t7, t8, t9, t10⟩ := HF1.out.rs.t HX.out
  have ow := HF1.out.rs.ow.cell HW.out
  have od := HF1.out.rs.dp.cell HD.out
  dsimp only at b0 b1 b2 b3 b4 b5 b6 b7 t0 t1 t2 t3 t4 t5 t6 t7 t8 t9 t10
  have HWr := Lib.hid (fun V (hV : Below W2.heap.size W2 V) => wrong_no (HF1.out.below hV).rs HVA.out)
  have SK := Lib.hid (show ∀ V, Below W2.heap.size W2 V → V.cell? ⟨bx, 4, none⟩ = some (.int .i64 (o : Int)) ∧ V.cell? ⟨p.T, t * 11 + 1, none⟩ = some (.bool true) ∧ V.cell? ⟨p.T, t * 11 + 2, none⟩ = some (.int .i64 6) ∧ V.cell? ⟨p.T, t * 11 + 3, none⟩ = some (.int .i64 (o : Int)) ∧ V.cell? ⟨p.T, t * 11 + 4, none⟩ = some (.int .i64 xarg) ∧ V.cell? ⟨p.T, t * 11 + 5, none⟩ = some (.int .i64 xfar) from fun V hV => by have z := HF1.out.below hV; have q := z.rs.t HX.out; exact ⟨(evAt z.ev).b4, q.opn, q.op, q.obj, q.arg, q.far⟩)
  go_upto_region 2 with fail
  have bc := rdrew W2
  go_region_held3 (fun (V : World) => V.cell? ⟨bx, 4, none⟩ = some (.int .i64 (o : Int)) ∧ V.cell? ⟨p.T, t * 11 + 1, none⟩ = some (.bool true) ∧ V.cell? ⟨p.T, t * 11 + 2, none⟩ = some (.int .i64 6) ∧ V.cell? ⟨p.T, t * 11 + 3, none⟩ = some (.int .i64 (o : Int)) ∧ V.cell? ⟨p.T, t * 11 + 4, none⟩ = some (.int .i64 xarg) ∧ V.cell? ⟨p.T, t * 11 + 5, none⟩ = some (.int .i64 xfar)) (exact SK.out _ bc) ((go_at_call 45; (with_reducible refine (HWr.out _ bc).mono ?_); rintro e3 w3 ⟨rfl, b3'⟩; replace bc := Below.trans bc (Below.mono b3' bc.size)))
  have HF2 := Lib.hid (HF1.out.below bc)
  clear c0 c1 c2 c3 b0 b1 b2 b3 b4 b5 b6 b7 t0 t1 t2 t3 t4 t5 t6 t7 t8 t9 t10 ow od
  clear SK HWr bc b3' HF1
  obtain ⟨⟨c0, c1, c2, c3⟩, ⟨b0, b1, b2, b3, b4, b5, b6, b7⟩⟩ := HF2.out.cells
  obtain ⟨t0, t1, t2, t3, t4, t5, t6, t7, t8, t9, t10⟩ := HF2.out.rs.t HX.out
  have ow := HF2.out.rs.ow.cell HW.out
  have od := HF2.out.rs.dp.cell HD.out
  dsimp only at b0 b1 b2 b3 b4 b5 b6 b7 t0 t1 t2 t3 t4 t5 t6 t7 t8 t9 t10
  go_upto_region 5 with fail
  go_quiet (fail)
  generalize hq : World.drewN _ _ = W4
  have HF4 := Lib.hid (show RFr w W4 p s bx _ from by rw [← hq]; exact HF2.out.drewN _)
  clear hq HF2
  clear c0 c1 c2 c3 b0 b1 b2 b3 b4 b5 b6 b7 t0 t1 t2 t3 t4 t5 t6 t7 t8 t9 t10 ow od
  obtain ⟨⟨c0, c1, c2, c3⟩, ⟨b0, b1, b2, b3, b4, b5, b6, b7⟩⟩ := HF4.out.cells
  obtain ⟨t0, t1, t2, t3, t4, t5, t6, t7, t8, t9, t10⟩ := HF4.out.rs.t HX.out
  have ow := HF4.out.rs.ow.cell HW.out
  have od := HF4.out.rs.dp.cell HD.out
  dsimp only at b0 b1 b2 b3 b4 b5 b6 b7 t0 t1 t2 t3 t4 t5 t6 t7 t8 t9 t10
  have hwn := Lib.hid (beq_eq_false_iff_ne.1 hwb)
  obtain ⟨u, z, hau, hz⟩ : ∃ (u : Nat) (z : RTh), xarg = (u : Int) ∧ s.T[u]? = some z := by
    obtain ⟨_, _, _, h4⟩ := HVA.out
    exact ⟨xarg.toNat, _, by omega, List.getElem?_eq_getElem (by omega)⟩
  subst hau
  have HZ := Lib.hid hz
  have iu := idx_rthrs p.T s.T.length p.cT u (List.getElem?_eq_some_iff.1 hz).1
  clear hz
  by_cases hact6 : act = 6
  · subst hact6
    by_cases hou : oth = (u : Int)
    · subst hou
      go_upto_region 29 with fail
      go_quiet (fail)
      generalize hq : World.drewN _ _ = W4b
      have HF4b := Lib.hid (show RFr w W4b p s bx _ from by rw [← hq]; exact HF4.out.drewN _)
      clear hq
      clear c0 c1 c2 c3 b0 b1 b2 b3 b4 b5 b6 b7 t0 t1 t2 t3 t4 t5 t6 t7 t8 t9 t10 ow od
      obtain ⟨⟨c0, c1, c2, c3⟩, ⟨b0, b1, b2, b3, b4, b5, b6, b7⟩⟩ := HF4b.out.cells
      dsimp only at b0 b1 b2 b3 b4 b5 b6 b7
      have HF5 := Lib.hid HF4b.out.drew
      go_upto_region 31 with fail
      go_still_tail 8, (by kernel_rfl)
      change wpList _ _ _ _ _ W4b.drew
      clear c0 c1 c2 c3 b0 b1 b2 b3 b4 b5 b6 b7
      generalize W4b.drew = W5 at HF5 ⊢
      have HF6 := Lib.hid (HF5.out.mod HZ.out 8 (.bool true) (fun y => { y with flag := true }) (by omega) rfl)
      have q8 := (HF5.out.rs.t HZ.out).flag
      have f8 := HF5.out.rs.fr (u * 11 + 8)
      go_upto_region 32 with fail
      generalize hW6 : World.setCell _ _ _ = W6 at HF6 ⊢
      clear hW6
      clear q8 f8
      obtain ⟨x1, hx1, _⟩ := mod_op HX.out HZ.out (fun y => { y with flag := true }) (fun _ => rfl)
      have HX1 := Lib.hid hx1
      clear hx1
      go_wp2_with (go_at_call 64; (with_reducible refine (finish_any HF6.out.rs HX1.out 0 0).mono ?_); rintro e9 w9 ⟨rfl, h9, k9⟩)
      go_ret
      exact RHand.yes h9 (HF6.out.kp.trans k9) (ActR.interrupt u rfl rfl rfl rfl)
    · have houb : (oth == (u : Int)) = false := beq_eq_false_iff_ne.2 hou
      have houn : (oth != (u : Int)) = true := by simp [bne, houb]
      clear hou
      go_upto_region 29 with fail
      go_quiet (fail)
      go_wp2_with fail
      go_ret
      exact RHand.no (HF4.out.drewN _).rs (HF4.out.drewN _).kp
  · have hact6b : (act == 6) = false := beq_eq_false_iff_ne.2 hact6
    have hact6n : (act != 6) = true := by simp [bne, hact6b]
    clear hact6
    go_upto_region 29 with fail
    go_quiet (fail)
    go_wp2_with fail
    go_ret
    exact RHand.no (HF4.out.drewN _).rs (HF4.out.drewN _).kp
end Go.Proofs.Ytcgljmeppmdihaa
