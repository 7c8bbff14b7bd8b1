/- The document's automaton: act, its beginning; enter, exit (written by tools/gen_rsE.py). -/
import Derived.Test.YtcgljmeppmdihaaRsC1
namespace Go.Proofs.Ytcgljmeppmdihaa
open Go.ChangeShapes Go.WideShapes Go.ChangeAt Go.RowKit
set_option linter.unusedVariables false
set_option maxRecDepth 100000
set_option linter.unusedSimpArgs false
theorem wrong_no {w : World} {p : RPl} {s : RS} (h : RsAt w p s) {op obj arg : Int} (hv : validR s op obj arg) :
    Calls Try.prog 45 #[rspV p, .agg #[.int .i64 op, .int .i64 obj, .int .i64 arg]] w fun e w' => e = .returned (.bool false) ∧ Below w.heap.size w w' := by
  have := wrong_any h op obj arg
  rw [decide_eq_true hv] at this
  exact this
set_option maxHeartbeats 8000000 in
theorem act_enter_y {w : World} {p : RPl} {s : RS} (h : RsAt w p s) {t o : Nat} (xcalls : Int) (xarg xfar xcode xval : Int) (xflag : Bool) (xsaved xsince : Int) (hx : s.T[t]? = some ⟨xcalls, true, 0, (o : Int), xarg, xfar, xcode, xval, xflag, xsaved, xsince⟩) (hW : s.W[o]? = some (t : Int)) {dep : Int} (hD : s.D[o]? = some dep) (hva : validR s 0 (o : Int) xarg) (hf5 : (xfar == 5) = false) (kind idx act oth code val : Int)  :
    Calls Try.prog 44 #[rspV p, evV ⟨kind, (t : Int), idx, act, (o : Int), oth, code, val⟩] w (RHand w p s (ActR s t ⟨xcalls, true, 0, (o : Int), xarg, xfar, xcode, xval, xflag, xsaved, xsince⟩ o (t : Int) dep ⟨kind, (t : Int), idx, act, (o : Int), oth, code, val⟩)) := by
  have HX := Lib.hid hx
  have HW := Lib.hid hW
  have HD := Lib.hid hD
  have HVA := Lib.hid hva
  have it := idx_rthrs p.T s.T.length p.cT t (List.getElem?_eq_some_iff.1 hx).1
  have iw := idx_rints p.W s.W.length p.cW o (List.getElem?_eq_some_iff.1 hW).1
  have id' := idx_rints p.D s.D.length p.cD o (List.getElem?_eq_some_iff.1 hD).1
  have HF0 := Lib.hid (RFr.boxed h ⟨kind, (t : Int), idx, act, (o : Int), oth, code, val⟩)
  clear h hx hW hD hva
  go_enter Try.func44, Try.ntmps44
  go_upto_region 1 with fail
  generalize hWW : w.alloc _ = W at HF0 ⊢
  obtain ⟨bx, hbx⟩ : ∃ bx, bx = w.heap.size := ⟨_, rfl⟩
  rw [← hbx] at HF0 ⊢
  clear hbx hWW
  obtain ⟨⟨c0, c1, c2, c3⟩, ⟨b0, b1, b2, b3, b4, b5, b6, b7⟩⟩ := HF0.out.cells
  obtain ⟨t0, t1, t2, t3, t4, t5, t6, t7, t8, t9, t10⟩ := HF0.out.rs.t HX.out
  have ow := HF0.out.rs.ow.cell HW.out
  have od := HF0.out.rs.dp.cell HD.out
  dsimp only at b0 b1 b2 b3 b4 b5 b6 b7 t0 t1 t2 t3 t4 t5 t6 t7 t8 t9 t10
  have nbT : ¬ bx = p.T := fun e => HF0.out.out (.inr (.inr (.inr e)))
  have nbT' : ¬ p.T = bx := fun e => nbT e.symm
  go_quiet (fail)
  generalize hq : World.drewN _ _ = W2
  have HF1 := Lib.hid (show RFr w W2 p s bx _ from by rw [← hq]; exact HF0.out.drewN _)
  clear hq HF0
  clear c0 c1 c2 c3 b0 b1 b2 b3 b4 b5 b6 b7 t0 t1 t2 t3 t4 t5 t6 t7 t8 t9 t10 ow od
  obtain ⟨⟨c0, c1, c2, c3⟩, ⟨b0, b1, b2, b3, b4, b5, b6, b7⟩⟩ := HF1.out.cells
  obtain ⟨t0, t1, t2, t3, t4, t5, t6, t7, t8, t9, t10⟩ := HF1.out.rs.t HX.out
  have ow := HF1.out.rs.ow.cell HW.out
  have od := HF1.out.rs.dp.cell HD.out
  dsimp only at b0 b1 b2 b3 b4 b5 b6 b7 t0 t1 t2 t3 t4 t5 t6 t7 t8 t9 t10
  have HWr := Lib.hid (fun V (hV : Below W2.heap.size W2 V) => wrong_no (HF1.out.below hV).rs HVA.out)
  have SK := Lib.hid (show ∀ V, Below W2.heap.size W2 V → V.cell? ⟨bx, 4, none⟩ = some (.int .i64 (o : Int)) ∧ V.cell? ⟨p.T, t * 11 + 1, none⟩ = some (.bool true) ∧ V.cell? ⟨p.T, t * 11 + 2, none⟩ = some (.int .i64 0) ∧ V.cell? ⟨p.T, t * 11 + 3, none⟩ = some (.int .i64 (o : Int)) ∧ V.cell? ⟨p.T, t * 11 + 4, none⟩ = some (.int .i64 xarg) ∧ V.cell? ⟨p.T, t * 11 + 5, none⟩ = some (.int .i64 xfar) from fun V hV => by have z := HF1.out.below hV; have q := z.rs.t HX.out; exact ⟨(evAt z.ev).b4, q.opn, q.op, q.obj, q.arg, q.far⟩)
  go_upto_region 2 with fail
  have bc := rdrew W2
  go_region_held3 (fun (V : World) => V.cell? ⟨bx, 4, none⟩ = some (.int .i64 (o : Int)) ∧ V.cell? ⟨p.T, t * 11 + 1, none⟩ = some (.bool true) ∧ V.cell? ⟨p.T, t * 11 + 2, none⟩ = some (.int .i64 0) ∧ V.cell? ⟨p.T, t * 11 + 3, none⟩ = some (.int .i64 (o : Int)) ∧ V.cell? ⟨p.T, t * 11 + 4, none⟩ = some (.int .i64 xarg) ∧ V.cell? ⟨p.T, t * 11 + 5, none⟩ = some (.int .i64 xfar)) (exact SK.out _ bc) ((go_at_call 45; (with_reducible refine (HWr.out _ bc).mono ?_); rintro e3 w3 ⟨rfl, b3'⟩; replace bc := Below.trans bc (Below.mono b3' bc.size)))
  have HF2 := Lib.hid (HF1.out.below bc)
  clear c0 c1 c2 c3 b0 b1 b2 b3 b4 b5 b6 b7 t0 t1 t2 t3 t4 t5 t6 t7 t8 t9 t10 ow od
  clear SK HWr bc b3' HF1
  obtain ⟨⟨c0, c1, c2, c3⟩, ⟨b0, b1, b2, b3, b4, b5, b6, b7⟩⟩ := HF2.out.cells
  obtain ⟨t0, t1, t2, t3, t4, t5, t6, t7, t8, t9, t10⟩ := HF2.out.rs.t HX.out
  have ow := HF2.out.rs.ow.cell HW.out
  have od := HF2.out.rs.dp.cell HD.out
  dsimp only at b0 b1 b2 b3 b4 b5 b6 b7 t0 t1 t2 t3 t4 t5 t6 t7 t8 t9 t10
  go_upto_region 5 with fail
  go_quiet (fail)
  generalize hq : World.drewN _ _ = W4
  have HF4 := Lib.hid (show RFr w W4 p s bx _ from by rw [← hq]; exact HF2.out.drewN _)
  clear hq HF2
  clear c0 c1 c2 c3 b0 b1 b2 b3 b4 b5 b6 b7 t0 t1 t2 t3 t4 t5 t6 t7 t8 t9 t10 ow od
  obtain ⟨⟨c0, c1, c2, c3⟩, ⟨b0, b1, b2, b3, b4, b5, b6, b7⟩⟩ := HF4.out.cells
  obtain ⟨t0, t1, t2, t3, t4, t5, t6, t7, t8, t9, t10⟩ := HF4.out.rs.t HX.out
  have ow := HF4.out.rs.ow.cell HW.out
  have od := HF4.out.rs.dp.cell HD.out
  dsimp only at b0 b1 b2 b3 b4 b5 b6 b7 t0 t1 t2 t3 t4 t5 t6 t7 t8 t9 t10
  by_cases hact0 : act = 0
  · subst hact0
    by_cases hoth0 : oth = 0
    · subst hoth0
      have HF5 := Lib.hid HF4.out.drew
      go_upto_region 9 with fail
      go_still_tail 8, (by kernel_rfl)
      change wpList _ _ _ _ _ W4.drew
      clear c0 c1 c2 c3 b0 b1 b2 b3 b4 b5 b6 b7 t0 t1 t2 t3 t4 t5 t6 t7 t8 t9 t10 ow od
      generalize W4.drew = W5 at HF5 ⊢
      have HF6 := Lib.hid (HF5.out.setW (o := o) HW.out (t : Int))
      have ow := HF5.out.rs.ow.cell (i := o) HW.out
      have fw := HF5.out.rs.ow.free o
      go_upto_region 10 with fail
      generalize hW6 : World.setCell _ _ _ = W6 at HF6 ⊢
      clear hW6
      clear ow fw
      have c1 : W6.cell? ⟨p.P, 1, none⟩ = some (.slice (some ⟨p.D, 0, none⟩) s.D.length p.cD) := HF6.out.rs.c.c1
      have od := HF6.out.rs.dp.cell (i := o) HD.out
      have fd := HF6.out.rs.dp.free o
      have HF7 := Lib.hid (HF6.out.setD (o := o) HD.out (wrap64 (dep + 1)))
      go_upto_region 11 with fail
      clear c1 od fd
      generalize hW7 : World.setCell _ _ _ = W7 at HF7 ⊢
      clear hW7
      go_wp2_with (go_at_call 64; (with_reducible refine (finish_any HF7.out.rs HX.out 0 0).mono ?_); rintro e9 w9 ⟨rfl, h9, k9⟩)
      go_ret
      exact RHand.yes h9 (HF7.out.kp.trans k9) (ActR.enter rfl rfl rfl (.inl rfl))
    · have hoth0b : (oth == 0) = false := beq_eq_false_iff_ne.2 hoth0
      have hoth0n : (oth != 0) = true := by simp [bne, hoth0b]
      clear hoth0
      go_wp2_with fail
      go_ret
      exact RHand.no HF4.out.rs HF4.out.kp
  · have hact0b : (act == 0) = false := beq_eq_false_iff_ne.2 hact0
    have hact0n : (act != 0) = true := by simp [bne, hact0b]
    clear hact0
    by_cases hact8 : act = 8
    · subst hact8
      by_cases hoth5 : oth = 5
      · subst hoth5
        go_wp2_with (go_at_call 64; (with_reducible refine (finish_any HF4.out.rs HX.out (5) (0)).mono ?_); rintro e9 w9 ⟨rfl, h9, k9⟩)
        go_ret
        exact RHand.yes h9 (HF4.out.kp.trans k9) (ActR.noenter rfl rfl (.inl ⟨rfl, rfl⟩))
      · have hoth5b : (oth == 5) = false := beq_eq_false_iff_ne.2 hoth5
        have hoth5n : (oth != 5) = true := by simp [bne, hoth5b]
        clear hoth5
        by_cases hoth3 : oth = 3
        · subst hoth3
          go_wp2_with (go_at_call 64; (with_reducible refine (finish_any HF4.out.rs HX.out (3) (0)).mono ?_); rintro e9 w9 ⟨rfl, h9, k9⟩)
          go_ret
          exact RHand.yes h9 (HF4.out.kp.trans k9) (ActR.noenter rfl rfl (.inr rfl))
        · have hoth3b : (oth == 3) = false := beq_eq_false_iff_ne.2 hoth3
          have hoth3n : (oth != 3) = true := by simp [bne, hoth3b]
          clear hoth3
          go_wp2_with fail
          go_ret
          exact RHand.no HF4.out.rs HF4.out.kp
    · have hact8b : (act == 8) = false := beq_eq_false_iff_ne.2 hact8
      have hact8n : (act != 8) = true := by simp [bne, hact8b]
      clear hact8
      go_wp2_with fail
      go_ret
      exact RHand.no HF4.out.rs HF4.out.kp
set_option maxHeartbeats 8000000 in
theorem act_enter_n {w : World} {p : RPl} {s : RS} (h : RsAt w p s) {t o : Nat} (xcalls : Int) (xarg xfar xcode xval : Int) (xflag : Bool) (xsaved xsince : Int) (hx : s.T[t]? = some ⟨xcalls, true, 0, (o : Int), xarg, xfar, xcode, xval, xflag, xsaved, xsince⟩) {own : Int} (hW : s.W[o]? = some own) {dep : Int} (hD : s.D[o]? = some dep) (hva : validR s 0 (o : Int) xarg) (hf5 : (xfar == 5) = false) (kind idx act oth code val : Int)  (hwb : (own == (t : Int)) = false) :
    Calls Try.prog 44 #[rspV p, evV ⟨kind, (t : Int), idx, act, (o : Int), oth, code, val⟩] w (RHand w p s (ActR s t ⟨xcalls, true, 0, (o : Int), xarg, xfar, xcode, xval, xflag, xsaved, xsince⟩ o own dep ⟨kind, (t : Int), idx, act, (o : Int), oth, code, val⟩)) := by
  have HX := Lib.hid hx
  have HW := Lib.hid hW
  have HD := Lib.hid hD
  have HVA := Lib.hid hva
  have it := idx_rthrs p.T s.T.length p.cT t (List.getElem?_eq_some_iff.1 hx).1
  have iw := idx_rints p.W s.W.length p.cW o (List.getElem?_eq_some_iff.1 hW).1
  have id' := idx_rints p.D s.D.length p.cD o (List.getElem?_eq_some_iff.1 hD).1
  have HF0 := Lib.hid (RFr.boxed h ⟨kind, (t : Int), idx, act, (o : Int), oth, code, val⟩)
  clear h hx hW hD hva
  go_enter Try.func44, Try.ntmps44
  go_upto_region 1 with fail
  generalize hWW : w.alloc _ = W at HF0 ⊢
  obtain ⟨bx, hbx⟩ : ∃ bx, bx = w.heap.size := ⟨_, rfl⟩
  rw [← hbx] at HF0 ⊢
  clear hbx hWW
  obtain ⟨⟨c0, c1, c2, c3⟩, ⟨b0, b1, b2, b3, b4, b5, b6, b7⟩⟩ := HF0.out.cells
  obtain ⟨t0, t1, t2, t3, t4, t5, t6, t7, t8, t9, t10⟩ := HF0.out.rs.t HX.out
  have ow := HF0.out.rs.ow.cell HW.out
  have od := HF0.out.rs.dp.cell HD.out
  dsimp only at b0 b1 b2 b3 b4 b5 b6 b7 t0 t1 t2 t3 t4 t5 t6 t7 t8 t9 t10
  have nbT : ¬ bx = p.T := fun e => HF0.out.out (.inr (.inr (.inr e)))
  have nbT' : ¬ p.T = bx := fun e => nbT e.symm
  go_quiet (fail)
  generalize hq : World.drewN _ _ = W2
  have HF1 := Lib.hid (show RFr w W2 p s bx _ from by rw [← hq]; exact HF0.out.drewN _)
  clear hq HF0
  clear c0 c1 c2 c3 b0 b1 b2 b3 b4 b5 b6 b7 t0 t1 t2 t3 t4 t5 t6 t7 t8 t9 t10 ow od
  obtain ⟨⟨c0, c1, c2, c3⟩, ⟨b0, b1, b2, b3, b4, b5, b6, b7⟩⟩ := HF1.out.cells
  obtain ⟨t0, t1, t2, t3, t4, t5, t6, t7, t8, t9, t10⟩ := HF1.out.rs.t HX.out
  have ow := HF1.out.rs.ow.cell HW.out
  have od := HF1.out.rs.dp.cell HD.out
  dsimp only at b0 b1 b2 b3 b4 b5 b6 b7 t0 t1 t2 t3 t4 t5 t6 t7 t8 t9 t10
  have HWr := Lib.hid (fun V (hV : Below W2.heap.size W2 V) => wrong_no (HF1.out.below hV).rs HVA.out)
  have SK := Lib.hid (show ∀ V, Below W2.heap.size W2 V → V.cell? ⟨bx, 4, none⟩ = some (.int .i64 (o : Int)) ∧ V.cell? ⟨p.T, t * 11 + 1, none⟩ = some (.bool true) ∧ V.cell? ⟨p.T, t * 11 + 2, none⟩ = some (.int .i64 0) ∧ V.cell? ⟨p.T, t * 11 + 3, none⟩ = some (.int .i64 (o : Int)) ∧ V.cell? ⟨p.T, t * 11 + 4, none⟩ = some (.int .i64 xarg) ∧ V.cell? ⟨p.T, t * 11 + 5, none⟩ = some (.int .i64 xfar) from fun V hV => by have z := HF1.out.below hV; have q := z.rs.t HX.out; exact ⟨(evAt z.ev).b4, q.opn, q.op, q.obj, q.arg, q.far⟩)
  go_upto_region 2 with fail
  have bc := rdrew W2
  go_region_held3 (fun (V : World) => V.cell? ⟨bx, 4, none⟩ = some (.int .i64 (o : Int)) ∧ V.cell? ⟨p.T, t * 11 + 1, none⟩ = some (.bool true) ∧ V.cell? ⟨p.T, t * 11 + 2, none⟩ = some (.int .i64 0) ∧ V.cell? ⟨p.T, t * 11 + 3, none⟩ = some (.int .i64 (o : Int)) ∧ V.cell? ⟨p.T, t * 11 + 4, none⟩ = some (.int .i64 xarg) ∧ V.cell? ⟨p.T, t * 11 + 5, none⟩ = some (.int .i64 xfar)) (exact SK.out _ bc) ((go_at_call 45; (with_reducible refine (HWr.out _ bc).mono ?_); rintro e3 w3 ⟨rfl, b3'⟩; replace bc := Below.trans bc (Below.mono b3' bc.size)))
  have HF2 := Lib.hid (HF1.out.below bc)
  clear c0 c1 c2 c3 b0 b1 b2 b3 b4 b5 b6 b7 t0 t1 t2 t3 t4 t5 t6 t7 t8 t9 t10 ow od
  clear SK HWr bc b3' HF1
  obtain ⟨⟨c0, c1, c2, c3⟩, ⟨b0, b1, b2, b3, b4, b5, b6, b7⟩⟩ := HF2.out.cells
  obtain ⟨t0, t1, t2, t3, t4, t5, t6, t7, t8, t9, t10⟩ := HF2.out.rs.t HX.out
  have ow := HF2.out.rs.ow.cell HW.out
  have od := HF2.out.rs.dp.cell HD.out
  dsimp only at b0 b1 b2 b3 b4 b5 b6 b7 t0 t1 t2 t3 t4 t5 t6 t7 t8 t9 t10
  go_upto_region 5 with fail
  go_quiet (fail)
  generalize hq : World.drewN _ _ = W4
  have HF4 := Lib.hid (show RFr w W4 p s bx _ from by rw [← hq]; exact HF2.out.drewN _)
  clear hq HF2
  clear c0 c1 c2 c3 b0 b1 b2 b3 b4 b5 b6 b7 t0 t1 t2 t3 t4 t5 t6 t7 t8 t9 t10 ow od
  obtain ⟨⟨c0, c1, c2, c3⟩, ⟨b0, b1, b2, b3, b4, b5, b6, b7⟩⟩ := HF4.out.cells
  obtain ⟨t0, t1, t2, t3, t4, t5, t6, t7, t8, t9, t10⟩ := HF4.out.rs.t HX.out
  have ow := HF4.out.rs.ow.cell HW.out
  have od := HF4.out.rs.dp.cell HD.out
  dsimp only at b0 b1 b2 b3 b4 b5 b6 b7 t0 t1 t2 t3 t4 t5 t6 t7 t8 t9 t10
  have hwn := Lib.hid (beq_eq_false_iff_ne.1 hwb)
  by_cases hact0 : act = 0
  · subst hact0
    by_cases hoth0 : oth = 0
    · subst hoth0
      by_cases hng : own < 0
      · have HNG := Lib.hid hng
        have HF5 := Lib.hid HF4.out.drew
        go_upto_region 9 with fail
        go_still_tail 8, (by kernel_rfl)
        change wpList _ _ _ _ _ W4.drew
        clear c0 c1 c2 c3 b0 b1 b2 b3 b4 b5 b6 b7 t0 t1 t2 t3 t4 t5 t6 t7 t8 t9 t10 ow od
        generalize W4.drew = W5 at HF5 ⊢
        have HF6 := Lib.hid (HF5.out.setW (o := o) HW.out (t : Int))
        have ow := HF5.out.rs.ow.cell (i := o) HW.out
        have fw := HF5.out.rs.ow.free o
        go_upto_region 10 with fail
        generalize hW6 : World.setCell _ _ _ = W6 at HF6 ⊢
        clear hW6
        clear ow fw
        have c1 : W6.cell? ⟨p.P, 1, none⟩ = some (.slice (some ⟨p.D, 0, none⟩) s.D.length p.cD) := HF6.out.rs.c.c1
        have od := HF6.out.rs.dp.cell (i := o) HD.out
        have fd := HF6.out.rs.dp.free o
        have HF7 := Lib.hid (HF6.out.setD (o := o) HD.out (wrap64 (dep + 1)))
        go_upto_region 11 with fail
        clear c1 od fd
        generalize hW7 : World.setCell _ _ _ = W7 at HF7 ⊢
        clear hW7
        go_wp2_with (go_at_call 64; (with_reducible refine (finish_any HF7.out.rs HX.out 0 0).mono ?_); rintro e9 w9 ⟨rfl, h9, k9⟩)
        go_ret
        exact RHand.yes h9 (HF7.out.kp.trans k9) (ActR.enter rfl rfl rfl (.inr HNG.out))
      · go_wp2_with fail
        go_ret
        exact RHand.no HF4.out.rs HF4.out.kp
    · have hoth0b : (oth == 0) = false := beq_eq_false_iff_ne.2 hoth0
      have hoth0n : (oth != 0) = true := by simp [bne, hoth0b]
      clear hoth0
      go_wp2_with fail
      go_ret
      exact RHand.no HF4.out.rs HF4.out.kp
  · have hact0b : (act == 0) = false := beq_eq_false_iff_ne.2 hact0
    have hact0n : (act != 0) = true := by simp [bne, hact0b]
    clear hact0
    by_cases hact8 : act = 8
    · subst hact8
      by_cases hoth5 : oth = 5
      · subst hoth5
        go_wp2_with fail
        go_ret
        exact RHand.no HF4.out.rs HF4.out.kp
      · have hoth5b : (oth == 5) = false := beq_eq_false_iff_ne.2 hoth5
        have hoth5n : (oth != 5) = true := by simp [bne, hoth5b]
        clear hoth5
        by_cases hoth3 : oth = 3
        · subst hoth3
          go_wp2_with (go_at_call 64; (with_reducible refine (finish_any HF4.out.rs HX.out (3) (0)).mono ?_); rintro e9 w9 ⟨rfl, h9, k9⟩)
          go_ret
          exact RHand.yes h9 (HF4.out.kp.trans k9) (ActR.noenter rfl rfl (.inr rfl))
        · have hoth3b : (oth == 3) = false := beq_eq_false_iff_ne.2 hoth3
          have hoth3n : (oth != 3) = true := by simp [bne, hoth3b]
          clear hoth3
          go_wp2_with fail
          go_ret
          exact RHand.no HF4.out.rs HF4.out.kp
    · have hact8b : (act == 8) = false := beq_eq_false_iff_ne.2 hact8
      have hact8n : (act != 8) = true := by simp [bne, hact8b]
      clear hact8
      go_wp2_with fail
      go_ret
      exact RHand.no HF4.out.rs HF4.out.kp
set_option maxHeartbeats 8000000 in
theorem act_exit_y {w : World} {p : RPl} {s : RS} (h : RsAt w p s) {t o : Nat} (xcalls : Int) (xarg xfar xcode xval : Int) (xflag : Bool) (xsaved xsince : Int) (hx : s.T[t]? = some ⟨xcalls, true, 1, (o : Int), xarg, xfar, xcode, xval, xflag, xsaved, xsince⟩) (hW : s.W[o]? = some (t : Int)) {dep : Int} (hD : s.D[o]? = some dep) (hva : validR s 1 (o : Int) xarg) (hf5 : (xfar == 5) = false) (kind idx act oth code val : Int)  :
    Calls Try.prog 44 #[rspV p, evV ⟨kind, (t : Int), idx, act, (o : Int), oth, code, val⟩] w (RHand w p s (ActR s t ⟨xcalls, true, 1, (o : Int), xarg, xfar, xcode, xval, xflag, xsaved, xsince⟩ o (t : Int) dep ⟨kind, (t : Int), idx, act, (o : Int), oth, code, val⟩)) := by
  have HX := Lib.hid hx
  have HW := Lib.hid hW
  have HD := Lib.hid hD
  have HVA := Lib.hid hva
  have it := idx_rthrs p.T s.T.length p.cT t (List.getElem?_eq_some_iff.1 hx).1
  have iw := idx_rints p.W s.W.length p.cW o (List.getElem?_eq_some_iff.1 hW).1
  have id' := idx_rints p.D s.D.length p.cD o (List.getElem?_eq_some_iff.1 hD).1
  have HF0 := Lib.hid (RFr.boxed h ⟨kind, (t : Int), idx, act, (o : Int), oth, code, val⟩)
  clear h hx hW hD hva
  go_enter Try.func44, Try.ntmps44
  go_upto_region 1 with fail
  generalize hWW : w.alloc _ = W at HF0 ⊢
  obtain ⟨bx, hbx⟩ : ∃ bx, bx = w.heap.size := ⟨_, rfl⟩
  rw [← hbx] at HF0 ⊢
  clear hbx hWW
  obtain ⟨⟨c0, c1, c2, c3⟩, ⟨b0, b1, b2, b3, b4, b5, b6, b7⟩⟩ := HF0.out.cells
  obtain ⟨t0, t1, t2, t3, t4, t5, t6, t7, t8, t9, t10⟩ := HF0.out.rs.t HX.out
  have ow := HF0.out.rs.ow.cell HW.out
  have od := HF0.out.rs.dp.cell HD.out
  dsimp only at b0 b1 b2 b3 b4 b5 b6 b7 t0 t1 t2 t3 t4 t5 t6 t7 t8 t9 t10
  have nbT : ¬ bx = p.T := fun e => HF0.out.out (.inr (.inr (.inr e)))
  have nbT' : ¬ p.T = bx := fun e => nbT e.symm
  go_quiet (fail)
  generalize hq : World.drewN _ _ = W2
  have HF1 := Lib.hid (show RFr w W2 p s bx _ from by rw [← hq]; exact HF0.out.drewN _)
  clear hq HF0
  clear c0 c1 c2 c3 b0 b1 b2 b3 b4 b5 b6 b7 t0 t1 t2 t3 t4 t5 t6 t7 t8 t9 t10 ow od
  obtain ⟨⟨c0, c1, c2, c3⟩, ⟨b0, b1, b2, b3, b4, b5, b6, b7⟩⟩ := HF1.out.cells
  obtain ⟨t0, t1, t2, t3, t4, t5, t6, t7, t8, t9, t10⟩ := HF1.out.rs.t HX.out
  have ow := HF1.out.rs.ow.cell HW.out
  have od := HF1.out.rs.dp.cell HD.out
  dsimp only at b0 b1 b2 b3 b4 b5 b6 b7 t0 t1 t2 t3 t4 t5 t6 t7 t8 t9 t10
  have HWr := Lib.hid (fun V (hV : Below W2.heap.size W2 V) => wrong_no (HF1.out.below hV).rs HVA.out)
  have SK := Lib.hid (show ∀ V, Below W2.heap.size W2 V → V.cell? ⟨bx, 4, none⟩ = some (.int .i64 (o : Int)) ∧ V.cell? ⟨p.T, t * 11 + 1, none⟩ = some (.bool true) ∧ V.cell? ⟨p.T, t * 11 + 2, none⟩ = some (.int .i64 1) ∧ V.cell? ⟨p.T, t * 11 + 3, none⟩ = some (.int .i64 (o : Int)) ∧ V.cell? ⟨p.T, t * 11 + 4, none⟩ = some (.int .i64 xarg) ∧ V.cell? ⟨p.T, t * 11 + 5, none⟩ = some (.int .i64 xfar) from fun V hV => by have z := HF1.out.below hV; have q := z.rs.t HX.out; exact ⟨(evAt z.ev).b4, q.opn, q.op, q.obj, q.arg, q.far⟩)
  go_upto_region 2 with fail
  have bc := rdrew W2
  go_region_held3 (fun (V : World) => V.cell? ⟨bx, 4, none⟩ = some (.int .i64 (o : Int)) ∧ V.cell? ⟨p.T, t * 11 + 1, none⟩ = some (.bool true) ∧ V.cell? ⟨p.T, t * 11 + 2, none⟩ = some (.int .i64 1) ∧ V.cell? ⟨p.T, t * 11 + 3, none⟩ = some (.int .i64 (o : Int)) ∧ V.cell? ⟨p.T, t * 11 + 4, none⟩ = some (.int .i64 xarg) ∧ V.cell? ⟨p.T, t * 11 + 5, none⟩ = some (.int .i64 xfar)) (exact SK.out _ bc) ((go_at_call 45; (with_reducible refine (HWr.out _ bc).mono ?_); rintro e3 w3 ⟨rfl, b3'⟩; replace bc := Below.trans bc (Below.mono b3' bc.size)))
  have HF2 := Lib.hid (HF1.out.below bc)
  clear c0 c1 c2 c3 b0 b1 b2 b3 b4 b5 b6 b7 t0 t1 t2 t3 t4 t5 t6 t7 t8 t9 t10 ow od
  clear SK HWr bc b3' HF1
  obtain ⟨⟨c0, c1, c2, c3⟩, ⟨b0, b1, b2, b3, b4, b5, b6, b7⟩⟩ := HF2.out.cells
  obtain ⟨t0, t1, t2, t3, t4, t5, t6, t7, t8, t9, t10⟩ := HF2.out.rs.t HX.out
  have ow := HF2.out.rs.ow.cell HW.out
  have od := HF2.out.rs.dp.cell HD.out
  dsimp only at b0 b1 b2 b3 b4 b5 b6 b7 t0 t1 t2 t3 t4 t5 t6 t7 t8 t9 t10
  go_upto_region 5 with fail
  go_quiet (fail)
  generalize hq : World.drewN _ _ = W4
  have HF4 := Lib.hid (show RFr w W4 p s bx _ from by rw [← hq]; exact HF2.out.drewN _)
  clear hq HF2
  clear c0 c1 c2 c3 b0 b1 b2 b3 b4 b5 b6 b7 t0 t1 t2 t3 t4 t5 t6 t7 t8 t9 t10 ow od
  obtain ⟨⟨c0, c1, c2, c3⟩, ⟨b0, b1, b2, b3, b4, b5, b6, b7⟩⟩ := HF4.out.cells
  obtain ⟨t0, t1, t2, t3, t4, t5, t6, t7, t8, t9, t10⟩ := HF4.out.rs.t HX.out
  have ow := HF4.out.rs.ow.cell HW.out
  have od := HF4.out.rs.dp.cell HD.out
  dsimp only at b0 b1 b2 b3 b4 b5 b6 b7 t0 t1 t2 t3 t4 t5 t6 t7 t8 t9 t10
  by_cases hact1 : act = 1
  · subst hact1
    by_cases hoth0 : oth = 0
    · subst hoth0
      have c1x := c1
      have fd := HF4.out.rs.dp.free o
      have HF5 := Lib.hid (HF4.out.setD (o := o) HD.out (wrap64 (dep - 1)))
      go_upto_region 16 with fail
      clear fd c1x
      clear c0 c1 c2 c3 b0 b1 b2 b3 b4 b5 b6 b7 t0 t1 t2 t3 t4 t5 t6 t7 t8 t9 t10 ow od
      generalize hW5 : World.setCell _ _ _ = W5 at HF5 ⊢
      clear hW5
      have el : (s.setD o (wrap64 (dep - 1))).D.length = s.D.length := by simp [RS.setD]
      have c0 : W5.cell? ⟨p.P, 0, none⟩ = some (.slice (some ⟨p.W, 0, none⟩) s.W.length p.cW) := HF5.out.rs.c.c0
      have c1 := HF5.out.rs.c.c1
      rw [el] at c1
      have od := HF5.out.rs.dp.cell (i := o) (set_same HD.out)
      have ow := HF5.out.rs.ow.cell (i := o) HW.out
      have fw := HF5.out.rs.ow.free o
      by_cases hz : wrap64 (dep - 1) = 0
      · have HZ := Lib.hid hz
        have hzb : (wrap64 (dep - 1) == 0) = true := beq_iff_eq.2 hz
        clear hz
        have HF6 := Lib.hid (HF5.out.setW (o := o) HW.out (-1))
        go_wp2_with (go_at_call 64; (with_reducible refine (finish_any HF6.out.rs HX.out 0 0).mono ?_); rintro e9 w9 ⟨rfl, h9, k9⟩)
        go_ret
        refine RHand.yes (r := (if wrap64 (dep - 1) = 0 then (s.setD o (wrap64 (dep - 1))).setW o (-1) else s.setD o (wrap64 (dep - 1))).mod t (finR 0 0)) ?_ (HF6.out.kp.trans k9) (ActR.exit rfl rfl rfl rfl)
        rw [if_pos HZ.out]
        exact h9
      · have HZ := Lib.hid hz
        have hzb : (wrap64 (dep - 1) == 0) = false := beq_eq_false_iff_ne.2 hz
        clear hz
        go_wp2_with (go_at_call 64; (with_reducible refine (finish_any HF5.out.rs HX.out 0 0).mono ?_); rintro e9 w9 ⟨rfl, h9, k9⟩)
        go_ret
        refine RHand.yes (r := (if wrap64 (dep - 1) = 0 then (s.setD o (wrap64 (dep - 1))).setW o (-1) else s.setD o (wrap64 (dep - 1))).mod t (finR 0 0)) ?_ (HF5.out.kp.trans k9) (ActR.exit rfl rfl rfl rfl)
        rw [if_neg HZ.out]
        exact h9
    · have hoth0b : (oth == 0) = false := beq_eq_false_iff_ne.2 hoth0
      have hoth0n : (oth != 0) = true := by simp [bne, hoth0b]
      clear hoth0
      go_wp2_with fail
      go_ret
      exact RHand.no HF4.out.rs HF4.out.kp
  · have hact1b : (act == 1) = false := beq_eq_false_iff_ne.2 hact1
    have hact1n : (act != 1) = true := by simp [bne, hact1b]
    clear hact1
    by_cases hact8 : act = 8
    · subst hact8
      by_cases hoth4 : oth = 4
      · subst hoth4
        go_wp2_with fail
        go_ret
        exact RHand.no HF4.out.rs HF4.out.kp
      · have hoth4b : (oth == 4) = false := beq_eq_false_iff_ne.2 hoth4
        have hoth4n : (oth != 4) = true := by simp [bne, hoth4b]
        clear hoth4
        go_wp2_with fail
        go_ret
        exact RHand.no HF4.out.rs HF4.out.kp
    · have hact8b : (act == 8) = false := beq_eq_false_iff_ne.2 hact8
      have hact8n : (act != 8) = true := by simp [bne, hact8b]
      clear hact8
      go_wp2_with fail
      go_ret
      exact RHand.no HF4.out.rs HF4.out.kp
set_option maxHeartbeats 8000000 in
theorem act_exit_n {w : World} {p : RPl} {s : RS} (h : RsAt w p s) {t o : Nat} (xcalls : Int) (xarg xfar xcode xval : Int) (xflag : Bool) (xsaved xsince : Int) (hx : s.T[t]? = some ⟨xcalls, true, 1, (o : Int), xarg, xfar, xcode, xval, xflag, xsaved, xsince⟩) {own : Int} (hW : s.W[o]? = some own) {dep : Int} (hD : s.D[o]? = some dep) (hva : validR s 1 (o : Int) xarg) (hf5 : (xfar == 5) = false) (kind idx act oth code val : Int)  (hwb : (own == (t : Int)) = false) :
    Calls Try.prog 44 #[rspV p, evV ⟨kind, (t : Int), idx, act, (o : Int), oth, code, val⟩] w (RHand w p s (ActR s t ⟨xcalls, true, 1, (o : Int), xarg, xfar, xcode, xval, xflag, xsaved, xsince⟩ o own dep ⟨kind, (t : Int), idx, act, (o : Int), oth, code, val⟩)) := by
  have HX := Lib.hid hx
  have HW := Lib.hid hW
  have HD := Lib.hid hD
  have HVA := Lib.hid hva
  have it := idx_rthrs p.T s.T.length p.cT t (List.getElem?_eq_some_iff.1 hx).1
  have iw := idx_rints p.W s.W.length p.cW o (List.getElem?_eq_some_iff.1 hW).1
  have id' := idx_rints p.D s.D.length p.cD o (List.getElem?_eq_some_iff.1 hD).1
  have HF0 := Lib.hid (RFr.boxed h ⟨kind, (t : Int), idx, act, (o : Int), oth, code, val⟩)
  clear h hx hW hD hva
  go_enter Try.func44, Try.ntmps44
  go_upto_region 1 with fail
  generalize hWW : w.alloc _ = W at HF0 ⊢
  obtain ⟨bx, hbx⟩ : ∃ bx, bx = w.heap.size := ⟨_, rfl⟩
  rw [← hbx] at HF0 ⊢
  clear hbx hWW
  obtain ⟨⟨c0, c1, c2, c3⟩, ⟨b0, b1, b2, b3, b4, b5, b6, b7⟩⟩ := HF0.out.cells
  obtain ⟨t0, t1, t2, t3, t4, t5, t6, t7, t8, t9, t10⟩ := HF0.out.rs.t HX.out
  have ow := HF0.out.rs.ow.cell HW.out
  have od := HF0.out.rs.dp.cell HD.out
  dsimp only at b0 b1 b2 b3 b4 b5 b6 b7 t0 t1 t2 t3 t4 t5 t6 t7 t8 t9 t10
  have nbT : ¬ bx = p.T := fun e => HF0.out.out (.inr (.inr (.inr e)))
  have nbT' : ¬ p.T = bx := fun e => nbT e.symm
  go_quiet (fail)
  generalize hq : World.drewN _ _ = W2
  have HF1 := Lib.hid (show RFr w W2 p s bx _ from by rw [← hq]; exact HF0.out.drewN _)
  clear hq HF0
  clear c0 c1 c2 c3 b0 b1 b2 b3 b4 b5 b6 b7 t0 t1 t2 t3 t4 t5 t6 t7 t8 t9 t10 ow od
  obtain ⟨⟨c0, c1, c2, c3⟩, ⟨b0, b1, b2, b3, b4, b5, b6, b7⟩⟩ := HF1.out.cells
  obtain ⟨t0, t1, t2, t3, t4, t5, t6, t7, t8, t9, t10⟩ := HF1.out.rs.t HX.out
  have ow := HF1.out.rs.ow.cell HW.out
  have od := HF1.out.rs.dp.cell HD.out
  dsimp only at b0 b1 b2 b3 b4 b5 b6 b7 t0 t1 t2 t3 t4 t5 t6 t7 t8 t9 t10
  have HWr := Lib.hid (fun V (hV : Below W2.heap.size W2 V) => wrong_no (HF1.out.below hV).rs HVA.out)
  have SK := Lib.hid (show ∀ V, Below W2.heap.size W2 V → V.cell? ⟨bx, 4, none⟩ = some (.int .i64 (o : Int)) ∧ V.cell? ⟨p.T, t * 11 + 1, none⟩ = some (.bool true) ∧ V.cell? ⟨p.T, t * 11 + 2, none⟩ = some (.int .i64 1) ∧ V.cell? ⟨p.T, t * 11 + 3, none⟩ = some (.int .i64 (o : Int)) ∧ V.cell? ⟨p.T, t * 11 + 4, none⟩ = some (.int .i64 xarg) ∧ V.cell? ⟨p.T, t * 11 + 5, none⟩ = some (.int .i64 xfar) from fun V hV => by have z := HF1.out.below hV; have q := z.rs.t HX.out; exact ⟨(evAt z.ev).b4, q.opn, q.op, q.obj, q.arg, q.far⟩)
  go_upto_region 2 with fail
  have bc := rdrew W2
  go_region_held3 (fun (V : World) => V.cell? ⟨bx, 4, none⟩ = some (.int .i64 (o : Int)) ∧ V.cell? ⟨p.T, t * 11 + 1, none⟩ = some (.bool true) ∧ V.cell? ⟨p.T, t * 11 + 2, none⟩ = some (.int .i64 1) ∧ V.cell? ⟨p.T, t * 11 + 3, none⟩ = some (.int .i64 (o : Int)) ∧ V.cell? ⟨p.T, t * 11 + 4, none⟩ = some (.int .i64 xarg) ∧ V.cell? ⟨p.T, t * 11 + 5, none⟩ = some (.int .i64 xfar)) (exact SK.out _ bc) ((go_at_call 45; (with_reducible refine (HWr.out _ bc).mono ?_); rintro e3 w3 ⟨rfl, b3'⟩; replace bc := Below.trans bc (Below.mono b3' bc.size)))
  have HF2 := Lib.hid (HF1.out.below bc)
  clear c0 c1 c2 c3 b0 b1 b2 b3 b4 b5 b6 b7 t0 t1 t2 t3 t4 t5 t6 t7 t8 t9 t10 ow od
  clear SK HWr bc b3' HF1
  obtain ⟨⟨c0, c1, c2, c3⟩, ⟨b0, b1, b2, b3, b4, b5, b6, b7⟩⟩ := HF2.out.cells
  obtain ⟨t0, t1, t2, t3, t4, t5, t6, t7, t8, t9, t10⟩ := HF2.out.rs.t HX.out
  have ow := HF2.out.rs.ow.cell HW.out
  have od := HF2.out.rs.dp.cell HD.out
  dsimp only at b0 b1 b2 b3 b4 b5 b6 b7 t0 t1 t2 t3 t4 t5 t6 t7 t8 t9 t10
  go_upto_region 5 with fail
  go_quiet (fail)
  generalize hq : World.drewN _ _ = W4
  have HF4 := Lib.hid (show RFr w W4 p s bx _ from by rw [← hq]; exact HF2.out.drewN _)
  clear hq HF2
  clear c0 c1 c2 c3 b0 b1 b2 b3 b4 b5 b6 b7 t0 t1 t2 t3 t4 t5 t6 t7 t8 t9 t10 ow od
  obtain ⟨⟨c0, c1, c2, c3⟩, ⟨b0, b1, b2, b3, b4, b5, b6, b7⟩⟩ := HF4.out.cells
  obtain ⟨t0, t1, t2, t3, t4, t5, t6, t7, t8, t9, t10⟩ := HF4.out.rs.t HX.out
  have ow := HF4.out.rs.ow.cell HW.out
  have od := HF4.out.rs.dp.cell HD.out
  dsimp only at b0 b1 b2 b3 b4 b5 b6 b7 t0 t1 t2 t3 t4 t5 t6 t7 t8 t9 t10
  have hwn := Lib.hid (beq_eq_false_iff_ne.1 hwb)
  by_cases hact1 : act = 1
  · subst hact1
    by_cases hoth0 : oth = 0
    · subst hoth0
      go_wp2_with fail
      go_ret
      exact RHand.no HF4.out.rs HF4.out.kp
    · have hoth0b : (oth == 0) = false := beq_eq_false_iff_ne.2 hoth0
      have hoth0n : (oth != 0) = true := by simp [bne, hoth0b]
      clear hoth0
      go_wp2_with fail
      go_ret
      exact RHand.no HF4.out.rs HF4.out.kp
  · have hact1b : (act == 1) = false := beq_eq_false_iff_ne.2 hact1
    have hact1n : (act != 1) = true := by simp [bne, hact1b]
    clear hact1
    by_cases hact8 : act = 8
    · subst hact8
      by_cases hoth4 : oth = 4
      · subst hoth4
        go_wp2_with (go_at_call 64; (with_reducible refine (finish_any HF4.out.rs HX.out (4) (0)).mono ?_); rintro e9 w9 ⟨rfl, h9, k9⟩)
        go_ret
        exact RHand.yes h9 (HF4.out.kp.trans k9) (ActR.noexit rfl rfl rfl hwn.out)
      · have hoth4b : (oth == 4) = false := beq_eq_false_iff_ne.2 hoth4
        have hoth4n : (oth != 4) = true := by simp [bne, hoth4b]
        clear hoth4
        go_wp2_with fail
        go_ret
        exact RHand.no HF4.out.rs HF4.out.kp
    · have hact8b : (act == 8) = false := beq_eq_false_iff_ne.2 hact8
      have hact8n : (act != 8) = true := by simp [bne, hact8b]
      clear hact8
      go_wp2_with fail
      go_ret
      exact RHand.no HF4.out.rs HF4.out.kp
end Go.Proofs.Ytcgljmeppmdihaa
