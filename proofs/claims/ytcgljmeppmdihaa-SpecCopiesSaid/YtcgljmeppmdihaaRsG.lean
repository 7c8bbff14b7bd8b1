/- The document's automaton: Take (written by tools/gen_rsE.py). -/
import Derived.Test.YtcgljmeppmdihaaRsE1
import Derived.Test.YtcgljmeppmdihaaRsE2
import Derived.Test.YtcgljmeppmdihaaRsE3
namespace Go.Proofs.Ytcgljmeppmdihaa
open Go.ChangeShapes Go.WideShapes Go.ChangeAt Go.RowKit
set_option linter.unusedVariables false
set_option maxRecDepth 100000
set_option linter.unusedSimpArgs false
theorem RHand.mono {w w' : World} {p : RPl} {s : RS} {Q Q' : RS → Prop} {e : Ending} (h : RHand w p s Q e w') (hq : ∀ r, Q r → Q' r) : RHand w p s Q' e w' :=
  ⟨h.1, h.2.imp (fun ⟨r, h1, h2, h3⟩ => ⟨r, h1, hq r h2, h3⟩) id⟩
theorem ract_any {w : World} {p : RPl} {s : RS} (h : RsAt w p s) {t : Nat} {x : RTh} (hx : s.T[t]? = some x) (hll : s.T.length ≤ 100000) (hld : s.D.length = s.W.length) (act obj oth : Int) :
    Calls Try.prog 44 #[rspV p, evV ⟨1, (t : Int), 0, act, obj, oth, 0, 0⟩] w (RHand w p s (StepR s ⟨1, (t : Int), 0, act, obj, oth, 0, 0⟩)) := by
  rcases x with ⟨xcalls, xopn, xop, xobj, xarg, xfar, xcode, xval, xflag, xsaved, xsince⟩
  cases xopn with
  | false => exact act_no1 h xcalls xop xobj xarg xfar xcode xval xflag xsaved xsince hx 1 0 act obj oth 0 0 _
  | true =>
    by_cases hva : validR s xop xobj xarg
    · by_cases hob : obj = xobj
      · by_cases hf5 : xfar = 5
        · subst hf5
          subst hob
          exact act_no4 h xcalls xop obj xarg xcode xval xflag xsaved xsince hx 1 0 act oth 0 0 hva _
        · have hf5b : (xfar == 5) = false := beq_eq_false_iff_ne.2 hf5
          subst hob
          obtain ⟨v0, v9, ⟨v1, v2⟩, v3⟩ := id hva
          obtain ⟨o, rfl⟩ := Int.eq_ofNat_of_zero_le v1
          obtain ⟨own, hW⟩ : ∃ own, s.W[o]? = some own := ⟨_, List.getElem?_eq_getElem (by omega)⟩
          obtain ⟨dep, hD⟩ : ∃ dep, s.D[o]? = some dep := ⟨_, List.getElem?_eq_getElem (by omega)⟩
          have conv : ∀ r, ActR s t ⟨xcalls, true, xop, (o : Int), xarg, xfar, xcode, xval, xflag, xsaved, xsince⟩ o own dep ⟨1, (t : Int), 0, act, (o : Int), oth, 0, 0⟩ r → StepR s ⟨1, (t : Int), 0, act, (o : Int), oth, 0, 0⟩ r := fun r hr =>
            StepR.act t _ o own dep r rfl hx rfl rfl rfl rfl rfl hva rfl hf5 rfl hW hD hr
          have h9 : xop = 0 ∨ xop = 1 ∨ xop = 2 ∨ xop = 3 ∨ xop = 4 ∨ xop = 5 ∨ xop = 6 ∨ xop = 7 ∨ xop = 8 := by omega
          by_cases hw : own = (t : Int)
          · subst hw
            rcases h9 with rfl | rfl | rfl | rfl | rfl | rfl | rfl | rfl | rfl
            · exact (act_enter_y h xcalls xarg xfar xcode xval xflag xsaved xsince hx hW hD hva hf5b 1 0 act oth 0 0).mono fun e w2 hr => hr.mono conv
            · exact (act_exit_y h xcalls xarg xfar xcode xval xflag xsaved xsince hx hW hD hva hf5b 1 0 act oth 0 0).mono fun e w2 hr => hr.mono conv
            · exact (act_op2_y h xcalls xarg xfar xcode xval xflag xsaved xsince hx hW hD hva hf5b 1 0 act oth 0 0).mono fun e w2 hr => hr.mono conv
            · exact (act_op3_y h xcalls xarg xfar xcode xval xflag xsaved xsince hx hW hD hva hf5b 1 0 act oth 0 0).mono fun e w2 hr => hr.mono conv
            · exact (act_op4_y h xcalls xarg xfar xcode xval xflag xsaved xsince hx hW hD hva hf5b 1 0 act oth 0 0 hll).mono fun e w2 hr => hr.mono conv
            · exact (act_op5_y h xcalls xarg xfar xcode xval xflag xsaved xsince hx hW hD hva hf5b 1 0 act oth 0 0 hll).mono fun e w2 hr => hr.mono conv
            · exact (act_intr_y h xcalls xarg xfar xcode xval xflag xsaved xsince hx hW hD hva hf5b 1 0 act oth 0 0).mono fun e w2 hr => hr.mono conv
            · exact (act_look_y h xcalls xarg xfar xcode xval xflag xsaved xsince hx hW hD hva hf5b 1 0 act oth 0 0).mono fun e w2 hr => hr.mono conv
            · exact (act_defl_y h xcalls xarg xfar xcode xval xflag xsaved xsince hx hW hD hva hf5b 1 0 act oth 0 0).mono fun e w2 hr => hr.mono conv
          · have hwb : (own == (t : Int)) = false := beq_eq_false_iff_ne.2 hw
            rcases h9 with rfl | rfl | rfl | rfl | rfl | rfl | rfl | rfl | rfl
            · exact (act_enter_n h xcalls xarg xfar xcode xval xflag xsaved xsince hx hW hD hva hf5b 1 0 act oth 0 0 hwb).mono fun e w2 hr => hr.mono conv
            · exact (act_exit_n h xcalls xarg xfar xcode xval xflag xsaved xsince hx hW hD hva hf5b 1 0 act oth 0 0 hwb).mono fun e w2 hr => hr.mono conv
            · exact (act_op2_n h xcalls xarg xfar xcode xval xflag xsaved xsince hx hW hD hva hf5b 1 0 act oth 0 0 hwb).mono fun e w2 hr => hr.mono conv
            · exact (act_op3_n h xcalls xarg xfar xcode xval xflag xsaved xsince hx hW hD hva hf5b 1 0 act oth 0 0 hwb).mono fun e w2 hr => hr.mono conv
            · exact (act_op4_n h xcalls xarg xfar xcode xval xflag xsaved xsince hx hW hD hva hf5b 1 0 act oth 0 0 hll hwb).mono fun e w2 hr => hr.mono conv
            · exact (act_op5_n h xcalls xarg xfar xcode xval xflag xsaved xsince hx hW hD hva hf5b 1 0 act oth 0 0 hll hwb).mono fun e w2 hr => hr.mono conv
            · exact (act_intr_n h xcalls xarg xfar xcode xval xflag xsaved xsince hx hW hD hva hf5b 1 0 act oth 0 0 hwb).mono fun e w2 hr => hr.mono conv
            · exact (act_look_n h xcalls xarg xfar xcode xval xflag xsaved xsince hx hW hD hva hf5b 1 0 act oth 0 0 hwb).mono fun e w2 hr => hr.mono conv
            · exact (act_defl_n h xcalls xarg xfar xcode xval xflag xsaved xsince hx hW hD hva hf5b 1 0 act oth 0 0 hwb).mono fun e w2 hr => hr.mono conv
      · have hobn : (obj != xobj) = true := by simp [bne, beq_eq_false_iff_ne.2 hob]
        exact act_no3 h xcalls xop xobj xarg xfar xcode xval xflag xsaved xsince hx 1 0 act obj oth 0 0 hva hobn _
    · exact act_no2 h xcalls xop xobj xarg xfar xcode xval xflag xsaved xsince hx 1 0 act obj oth 0 0 hva _
set_option maxHeartbeats 8000000 in
theorem rtake_1 {w : World} {p : RPl} {s : RS} (h : RsAt w p s) {t : Nat} (xcalls : Int) (xop xobj xarg xfar xcode xval : Int) (xflag : Bool) (xsaved xsince : Int) (xopn : Bool) (hx : s.T[t]? = some ⟨xcalls, xopn, xop, xobj, xarg, xfar, xcode, xval, xflag, xsaved, xsince⟩) (idx act obj oth code val : Int) (hll : s.T.length ≤ 100000) (hld : s.D.length = s.W.length) :
    Calls Try.prog 34 #[rspV p, evV ⟨1, (t : Int), idx, act, obj, oth, code, val⟩] w (RHand w p s (StepR s ⟨1, (t : Int), idx, act, obj, oth, code, val⟩)) := by
  have HX := Lib.hid hx
  have htl := (List.getElem?_eq_some_iff.1 hx).1
  have it := idx_rthrs p.T s.T.length p.cT t htl
  have htI : ¬ (s.T.length : Int) ≤ (t : Int) := by omega
  have ht0 : ¬ (t : Int) < 0 := by omega
  have HF0 := Lib.hid (RFr.boxed h ⟨1, (t : Int), idx, act, obj, oth, code, val⟩)
  clear h hx htl
  go_enter Try.func34, Try.ntmps34
  go_upto_region 1 with fail
  generalize hWW : w.alloc _ = W at HF0 ⊢
  obtain ⟨bx, hbx⟩ : ∃ bx, bx = w.heap.size := ⟨_, rfl⟩
  rw [← hbx] at HF0 ⊢
  clear hbx hWW
  obtain ⟨⟨c0, c1, c2, c3⟩, ⟨b0, b1, b2, b3, b4, b5, b6, b7⟩⟩ := HF0.out.cells
  obtain ⟨t0, t1, t2, t3, t4, t5, t6, t7, t8, t9, t10⟩ := HF0.out.rs.t HX.out
  dsimp only at b0 b1 b2 b3 b4 b5 b6 b7 t0 t1 t2 t3 t4 t5 t6 t7 t8 t9 t10
  go_quiet (fail)
  generalize hq : World.drewN _ _ = W2
  have HF1 := Lib.hid (show RFr w W2 p s bx _ from by rw [← hq]; exact HF0.out.drewN _)
  clear hq HF0
  clear c0 c1 c2 c3 b0 b1 b2 b3 b4 b5 b6 b7 t0 t1 t2 t3 t4 t5 t6 t7 t8 t9 t10
  obtain ⟨⟨c0, c1, c2, c3⟩, ⟨b0, b1, b2, b3, b4, b5, b6, b7⟩⟩ := HF1.out.cells
  obtain ⟨t0, t1, t2, t3, t4, t5, t6, t7, t8, t9, t10⟩ := HF1.out.rs.t HX.out
  dsimp only at b0 b1 b2 b3 b4 b5 b6 b7 t0 t1 t2 t3 t4 t5 t6 t7 t8 t9 t10
  go_upto_region 3 with fail
  go_quiet (fail)
  generalize hq : World.drewN _ _ = W3
  have HF2 := Lib.hid (show RFr w W3 p s bx _ from by rw [← hq]; exact HF1.out.drewN _)
  clear hq HF1
  clear c0 c1 c2 c3 b0 b1 b2 b3 b4 b5 b6 b7 t0 t1 t2 t3 t4 t5 t6 t7 t8 t9 t10
  obtain ⟨⟨c0, c1, c2, c3⟩, ⟨b0, b1, b2, b3, b4, b5, b6, b7⟩⟩ := HF2.out.cells
  obtain ⟨t0, t1, t2, t3, t4, t5, t6, t7, t8, t9, t10⟩ := HF2.out.rs.t HX.out
  dsimp only at b0 b1 b2 b3 b4 b5 b6 b7 t0 t1 t2 t3 t4 t5 t6 t7 t8 t9 t10
  clear htI ht0
  go_upto_region 5 with fail
  clear c0 c1 c2 c3 b0 b1 b2 b3 b4 b5 b6 b7 t0 t1 t2 t3 t4 t5 t6 t7 t8 t9 t10
  have nb : Blk (W3.alloc (.cells #[.int .i64 0, .int .i64 0] 35)) W3.heap.size 35 #[.int .i64 0, .int .i64 0] := Blk.new _ _ _
  have HF3 := Lib.hid (HF2.out.below ((Below.refl _ W3).alloc (Nat.le_refl _) (.cells #[.int .i64 0, .int .i64 0] 35)))
  have hbn : ¬ rB p W3.heap.size := fun hb => Nat.lt_irrefl _ (HF2.out.rs.lt hb)
  generalize hW4 : W3.alloc _ = W4 at HF3 nb ⊢
  obtain ⟨bn, hbn0⟩ : ∃ bn, bn = W3.heap.size := ⟨_, rfl⟩
  rw [← hbn0] at nb hbn ⊢
  clear hW4 hbn0 HF2
  obtain ⟨⟨c0, c1, c2, c3⟩, ⟨b0, b1, b2, b3, b4, b5, b6, b7⟩⟩ := HF3.out.cells
  obtain ⟨t0, t1, t2, t3, t4, t5, t6, t7, t8, t9, t10⟩ := HF3.out.rs.t HX.out
  dsimp only at b0 b1 b2 b3 b4 b5 b6 b7 t0 t1 t2 t3 t4 t5 t6 t7 t8 t9 t10
  have n0 := nb.cell 0 _ rfl
  have n1 := nb.cell 1 _ rfl
  have hbnT : ¬ bn = p.T := fun e => hbn (.inr (.inr (.inr e)))
  have hbnT' : ¬ p.T = bn := fun e => hbnT e.symm
  have nbT : ¬ bx = p.T := fun e => HF3.out.out (.inr (.inr (.inr e)))
  have nbT' : ¬ p.T = bx := fun e => nbT e.symm
  have HLL := Lib.hid hll
  have HLD := Lib.hid hld
  clear hll hld
  by_cases hi : idx = 0
  · subst hi
    by_cases hc : code = 0
    · subst hc
      by_cases hv : val = 0
      · subst hv
        have HC := Lib.hid (ract_any HF3.out.rs HX.out HLL.out HLD.out act obj oth)
        go_wp2_with (go_at_call 44; (with_reducible refine (HC.out).mono ?_); rintro e9 w9 hr9; obtain ⟨b9, rfl, hb9⟩ := hr9.b; clear hr9)
        go_ret
        exact hb9.hand HF3.out.kp
      · have hvb : (val == 0) = false := beq_eq_false_iff_ne.2 hv
        have hvn : (val != 0) = true := by simp [bne, hvb]
        go_wp2_with fail
        go_ret
        exact RHand.no HF3.out.rs HF3.out.kp
    · have hcb : (code == 0) = false := beq_eq_false_iff_ne.2 hc
      have hcn : (code != 0) = true := by simp [bne, hcb]
      go_wp2_with fail
      go_ret
      exact RHand.no HF3.out.rs HF3.out.kp
  · have hib : (idx == 0) = false := beq_eq_false_iff_ne.2 hi
    have hin : (idx != 0) = true := by simp [bne, hib]
    go_wp2_with fail
    go_ret
    exact RHand.no HF3.out.rs HF3.out.kp
set_option maxHeartbeats 4000000 in
theorem rtake_n {w : World} {p : RPl} {s : RS} (h : RsAt w p s) (e : Ev) (hn : e.thr < 0 ∨ (¬ e.thr < 0 ∧ (s.T.length : Int) ≤ e.thr)) (Q : RS → Prop) :
    Calls Try.prog 34 #[rspV p, evV e] w (RHand w p s Q) := by
  rcases e with ⟨kind, thr, idx, act, obj, oth, code, val⟩
  have HF0 := Lib.hid (RFr.boxed h ⟨kind, thr, idx, act, obj, oth, code, val⟩)
  dsimp only at hn
  clear h
  go_enter Try.func34, Try.ntmps34
  go_upto_region 1 with fail
  generalize hWW : w.alloc _ = W at HF0 ⊢
  obtain ⟨bx, hbx⟩ : ∃ bx, bx = w.heap.size := ⟨_, rfl⟩
  rw [← hbx] at HF0 ⊢
  clear hbx hWW
  obtain ⟨⟨c0, c1, c2, c3⟩, ⟨b0, b1, b2, b3, b4, b5, b6, b7⟩⟩ := HF0.out.cells
  dsimp only at b0 b1 b2 b3 b4 b5 b6 b7
  rcases hn with h1 | ⟨h1, h2⟩
  all_goals
    go_quiet (fail)
    generalize hq : World.drewN _ _ = W2
    have HF1 := Lib.hid (show RFr w W2 p s bx _ from by rw [← hq]; exact HF0.out.drewN _)
    clear hq
    go_wp2_with fail
    go_ret
    exact RHand.no HF1.out.rs HF1.out.kp
/-- Take, of any event -/
theorem rtake_any {w : World} {p : RPl} {s : RS} (h : RsAt w p s) (hll : s.T.length ≤ 100000) (hld : s.D.length = s.W.length) (e : Ev) :
    Calls Try.prog 34 #[rspV p, evV e] w (RHand w p s (StepR s e)) := by
  by_cases h0 : e.thr < 0
  · exact rtake_n h e (.inl h0) _
  · by_cases h1 : (s.T.length : Int) ≤ e.thr
    · exact rtake_n h e (.inr ⟨h0, h1⟩) _
    · rcases e with ⟨kind, thr, idx, act, obj, oth, code, val⟩
      dsimp only at h0 h1
      obtain ⟨t, rfl⟩ := Int.eq_ofNat_of_zero_le (show 0 ≤ thr by omega)
      obtain ⟨x, hx⟩ : ∃ x, s.T[t]? = some x := ⟨_, List.getElem?_eq_getElem (by omega)⟩
      rcases x with ⟨xcalls, xopn, xop, xobj, xarg, xfar, xcode, xval, xflag, xsaved, xsince⟩
      by_cases k0 : kind = 0
      · subst k0
        cases xopn with
        | true => exact rtake_0a h xcalls xop xobj xarg xfar xcode xval xflag xsaved xsince hx idx act obj oth code val
        | false => exact rtake_0b h xcalls xop xobj xarg xfar xcode xval xflag xsaved xsince hx idx act obj oth code val
      · by_cases k1 : kind = 1
        · subst k1
          exact rtake_1 h xcalls xop xobj xarg xfar xcode xval xflag xsaved xsince xopn hx idx act obj oth code val hll hld
        · by_cases k2 : kind = 2
          · subst k2
            cases xopn with
            | false => exact rtake_2a h xcalls xop xobj xarg xfar xcode xval xflag xsaved xsince hx idx act obj oth code val
            | true => exact rtake_2b h xcalls xop xobj xarg xfar xcode xval xflag xsaved xsince hx idx act obj oth code val
          · exact rtake_x h xcalls xop xobj xarg xfar xcode xval xflag xsaved xsince xopn hx kind idx act obj oth code val (beq_eq_false_iff_ne.2 k0) (beq_eq_false_iff_ne.2 k1) (beq_eq_false_iff_ne.2 k2)
end Go.Proofs.Ytcgljmeppmdihaa
