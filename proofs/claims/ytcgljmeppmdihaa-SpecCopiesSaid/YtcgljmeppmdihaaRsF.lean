/- The document's automaton: Take: calls and returns (written by tools/gen_rsE.py). -/
import Derived.Test.YtcgljmeppmdihaaRsE0
namespace Go.Proofs.Ytcgljmeppmdihaa
open Go.ChangeShapes Go.WideShapes Go.ChangeAt Go.RowKit
set_option linter.unusedVariables false
set_option maxRecDepth 100000
set_option linter.unusedSimpArgs false
theorem wrong_yes {w : World} {p : RPl} {s : RS} (h : RsAt w p s) {op obj arg : Int} (hv : ¬ validR s op obj arg) :
    Calls Try.prog 45 #[rspV p, .agg #[.int .i64 op, .int .i64 obj, .int .i64 arg]] w fun e w' => e = .returned (.bool true) ∧ Below w.heap.size w w' := by
  have := wrong_any h op obj arg
  rw [decide_eq_false hv] at this
  exact this
set_option maxHeartbeats 8000000 in
theorem rtake_0a {w : World} {p : RPl} {s : RS} (h : RsAt w p s) {t : Nat} (xcalls : Int) (xop xobj xarg xfar xcode xval : Int) (xflag : Bool) (xsaved xsince : Int) (hx : s.T[t]? = some ⟨xcalls, true, xop, xobj, xarg, xfar, xcode, xval, xflag, xsaved, xsince⟩) (idx act obj oth code val : Int)  :
    Calls Try.prog 34 #[rspV p, evV ⟨0, (t : Int), idx, act, obj, oth, code, val⟩] w (RHand w p s (StepR s ⟨0, (t : Int), idx, act, obj, oth, code, val⟩)) := by
  have HX := Lib.hid hx
  have htl := (List.getElem?_eq_some_iff.1 hx).1
  have it := idx_rthrs p.T s.T.length p.cT t htl
  have htI : ¬ (s.T.length : Int) ≤ (t : Int) := by omega
  have ht0 : ¬ (t : Int) < 0 := by omega
  have HF0 := Lib.hid (RFr.boxed h ⟨0, (t : Int), idx, act, obj, oth, code, val⟩)
  clear h hx htl
  go_enter Try.func34, Try.ntmps34
  go_upto_region 1 with fail
  generalize hWW : w.alloc _ = W at HF0 ⊢
  obtain ⟨bx, hbx⟩ : ∃ bx, bx = w.heap.size := ⟨_, rfl⟩
  rw [← hbx] at HF0 ⊢
  clear hbx hWW
  obtain ⟨⟨c0, c1, c2, c3⟩, ⟨b0, b1, b2, b3, b4, b5, b6, b7⟩⟩ := HF0.out.cells
  obtain ⟨t0, t1, t2, t3, t4, t5, t6, t7, t8, t9, t10⟩ := HF0.out.rs.t HX.out
  dsimp only at b0 b1 b2 b3 b4 b5 b6 b7 t0 t1 t2 t3 t4 t5 t6 t7 t8 t9 t10
  go_quiet (fail)
  generalize hq : World.drewN _ _ = W2
  have HF1 := Lib.hid (show RFr w W2 p s bx _ from by rw [← hq]; exact HF0.out.drewN _)
  clear hq HF0
  clear c0 c1 c2 c3 b0 b1 b2 b3 b4 b5 b6 b7 t0 t1 t2 t3 t4 t5 t6 t7 t8 t9 t10
  obtain ⟨⟨c0, c1, c2, c3⟩, ⟨b0, b1, b2, b3, b4, b5, b6, b7⟩⟩ := HF1.out.cells
  obtain ⟨t0, t1, t2, t3, t4, t5, t6, t7, t8, t9, t10⟩ := HF1.out.rs.t HX.out
  dsimp only at b0 b1 b2 b3 b4 b5 b6 b7 t0 t1 t2 t3 t4 t5 t6 t7 t8 t9 t10
  go_upto_region 3 with fail
  go_quiet (fail)
  generalize hq : World.drewN _ _ = W3
  have HF2 := Lib.hid (show RFr w W3 p s bx _ from by rw [← hq]; exact HF1.out.drewN _)
  clear hq HF1
  clear c0 c1 c2 c3 b0 b1 b2 b3 b4 b5 b6 b7 t0 t1 t2 t3 t4 t5 t6 t7 t8 t9 t10
  obtain ⟨⟨c0, c1, c2, c3⟩, ⟨b0, b1, b2, b3, b4, b5, b6, b7⟩⟩ := HF2.out.cells
  obtain ⟨t0, t1, t2, t3, t4, t5, t6, t7, t8, t9, t10⟩ := HF2.out.rs.t HX.out
  dsimp only at b0 b1 b2 b3 b4 b5 b6 b7 t0 t1 t2 t3 t4 t5 t6 t7 t8 t9 t10
  clear htI ht0
  go_upto_region 5 with fail
  clear c0 c1 c2 c3 b0 b1 b2 b3 b4 b5 b6 b7 t0 t1 t2 t3 t4 t5 t6 t7 t8 t9 t10
  have nb : Blk (W3.alloc (.cells #[.int .i64 0, .int .i64 0] 35)) W3.heap.size 35 #[.int .i64 0, .int .i64 0] := Blk.new _ _ _
  have HF3 := Lib.hid (HF2.out.below ((Below.refl _ W3).alloc (Nat.le_refl _) (.cells #[.int .i64 0, .int .i64 0] 35)))
  have hbn : ¬ rB p W3.heap.size := fun hb => Nat.lt_irrefl _ (HF2.out.rs.lt hb)
  generalize hW4 : W3.alloc _ = W4 at HF3 nb ⊢
  obtain ⟨bn, hbn0⟩ : ∃ bn, bn = W3.heap.size := ⟨_, rfl⟩
  rw [← hbn0] at nb hbn ⊢
  clear hW4 hbn0 HF2
  obtain ⟨⟨c0, c1, c2, c3⟩, ⟨b0, b1, b2, b3, b4, b5, b6, b7⟩⟩ := HF3.out.cells
  obtain ⟨t0, t1, t2, t3, t4, t5, t6, t7, t8, t9, t10⟩ := HF3.out.rs.t HX.out
  dsimp only at b0 b1 b2 b3 b4 b5 b6 b7 t0 t1 t2 t3 t4 t5 t6 t7 t8 t9 t10
  have n0 := nb.cell 0 _ rfl
  have n1 := nb.cell 1 _ rfl
  have hbnT : ¬ bn = p.T := fun e => hbn (.inr (.inr (.inr e)))
  have hbnT' : ¬ p.T = bn := fun e => hbnT e.symm
  have nbT : ¬ bx = p.T := fun e => HF3.out.out (.inr (.inr (.inr e)))
  have nbT' : ¬ p.T = bx := fun e => nbT e.symm
  go_upto_region 7 with fail
  go_quiet (fail)
  generalize hq : World.drewN _ _ = W9
  have HF9 := Lib.hid (show RFr w W9 p s bx _ from by rw [← hq]; exact HF3.out.drewN _)
  clear hq HF3
  clear c0 c1 c2 c3 b0 b1 b2 b3 b4 b5 b6 b7 t0 t1 t2 t3 t4 t5 t6 t7 t8 t9 t10
  obtain ⟨⟨c0, c1, c2, c3⟩, ⟨b0, b1, b2, b3, b4, b5, b6, b7⟩⟩ := HF9.out.cells
  obtain ⟨t0, t1, t2, t3, t4, t5, t6, t7, t8, t9, t10⟩ := HF9.out.rs.t HX.out
  dsimp only at b0 b1 b2 b3 b4 b5 b6 b7 t0 t1 t2 t3 t4 t5 t6 t7 t8 t9 t10
  go_wp2_with fail
  go_ret
  exact RHand.no HF9.out.rs HF9.out.kp
set_option maxHeartbeats 8000000 in
theorem rtake_0b {w : World} {p : RPl} {s : RS} (h : RsAt w p s) {t : Nat} (xcalls : Int) (xop xobj xarg xfar xcode xval : Int) (xflag : Bool) (xsaved xsince : Int) (hx : s.T[t]? = some ⟨xcalls, false, xop, xobj, xarg, xfar, xcode, xval, xflag, xsaved, xsince⟩) (idx act obj oth code val : Int)  :
    Calls Try.prog 34 #[rspV p, evV ⟨0, (t : Int), idx, act, obj, oth, code, val⟩] w (RHand w p s (StepR s ⟨0, (t : Int), idx, act, obj, oth, code, val⟩)) := by
  have HX := Lib.hid hx
  have htl := (List.getElem?_eq_some_iff.1 hx).1
  have it := idx_rthrs p.T s.T.length p.cT t htl
  have htI : ¬ (s.T.length : Int) ≤ (t : Int) := by omega
  have ht0 : ¬ (t : Int) < 0 := by omega
  have HF0 := Lib.hid (RFr.boxed h ⟨0, (t : Int), idx, act, obj, oth, code, val⟩)
  clear h hx htl
  go_enter Try.func34, Try.ntmps34
  go_upto_region 1 with fail
  generalize hWW : w.alloc _ = W at HF0 ⊢
  obtain ⟨bx, hbx⟩ : ∃ bx, bx = w.heap.size := ⟨_, rfl⟩
  rw [← hbx] at HF0 ⊢
  clear hbx hWW
  obtain ⟨⟨c0, c1, c2, c3⟩, ⟨b0, b1, b2, b3, b4, b5, b6, b7⟩⟩ := HF0.out.cells
  obtain ⟨t0, t1, t2, t3, t4, t5, t6, t7, t8, t9, t10⟩ := HF0.out.rs.t HX.out
  dsimp only at b0 b1 b2 b3 b4 b5 b6 b7 t0 t1 t2 t3 t4 t5 t6 t7 t8 t9 t10
  go_quiet (fail)
  generalize hq : World.drewN _ _ = W2
  have HF1 := Lib.hid (show RFr w W2 p s bx _ from by rw [← hq]; exact HF0.out.drewN _)
  clear hq HF0
  clear c0 c1 c2 c3 b0 b1 b2 b3 b4 b5 b6 b7 t0 t1 t2 t3 t4 t5 t6 t7 t8 t9 t10
  obtain ⟨⟨c0, c1, c2, c3⟩, ⟨b0, b1, b2, b3, b4, b5, b6, b7⟩⟩ := HF1.out.cells
  obtain ⟨t0, t1, t2, t3, t4, t5, t6, t7, t8, t9, t10⟩ := HF1.out.rs.t HX.out
  dsimp only at b0 b1 b2 b3 b4 b5 b6 b7 t0 t1 t2 t3 t4 t5 t6 t7 t8 t9 t10
  go_upto_region 3 with fail
  go_quiet (fail)
  generalize hq : World.drewN _ _ = W3
  have HF2 := Lib.hid (show RFr w W3 p s bx _ from by rw [← hq]; exact HF1.out.drewN _)
  clear hq HF1
  clear c0 c1 c2 c3 b0 b1 b2 b3 b4 b5 b6 b7 t0 t1 t2 t3 t4 t5 t6 t7 t8 t9 t10
  obtain ⟨⟨c0, c1, c2, c3⟩, ⟨b0, b1, b2, b3, b4, b5, b6, b7⟩⟩ := HF2.out.cells
  obtain ⟨t0, t1, t2, t3, t4, t5, t6, t7, t8, t9, t10⟩ := HF2.out.rs.t HX.out
  dsimp only at b0 b1 b2 b3 b4 b5 b6 b7 t0 t1 t2 t3 t4 t5 t6 t7 t8 t9 t10
  clear htI ht0
  go_upto_region 5 with fail
  clear c0 c1 c2 c3 b0 b1 b2 b3 b4 b5 b6 b7 t0 t1 t2 t3 t4 t5 t6 t7 t8 t9 t10
  have nb : Blk (W3.alloc (.cells #[.int .i64 0, .int .i64 0] 35)) W3.heap.size 35 #[.int .i64 0, .int .i64 0] := Blk.new _ _ _
  have HF3 := Lib.hid (HF2.out.below ((Below.refl _ W3).alloc (Nat.le_refl _) (.cells #[.int .i64 0, .int .i64 0] 35)))
  have hbn : ¬ rB p W3.heap.size := fun hb => Nat.lt_irrefl _ (HF2.out.rs.lt hb)
  generalize hW4 : W3.alloc _ = W4 at HF3 nb ⊢
  obtain ⟨bn, hbn0⟩ : ∃ bn, bn = W3.heap.size := ⟨_, rfl⟩
  rw [← hbn0] at nb hbn ⊢
  clear hW4 hbn0 HF2
  obtain ⟨⟨c0, c1, c2, c3⟩, ⟨b0, b1, b2, b3, b4, b5, b6, b7⟩⟩ := HF3.out.cells
  obtain ⟨t0, t1, t2, t3, t4, t5, t6, t7, t8, t9, t10⟩ := HF3.out.rs.t HX.out
  dsimp only at b0 b1 b2 b3 b4 b5 b6 b7 t0 t1 t2 t3 t4 t5 t6 t7 t8 t9 t10
  have n0 := nb.cell 0 _ rfl
  have n1 := nb.cell 1 _ rfl
  have hbnT : ¬ bn = p.T := fun e => hbn (.inr (.inr (.inr e)))
  have hbnT' : ¬ p.T = bn := fun e => hbnT e.symm
  have nbT : ¬ bx = p.T := fun e => HF3.out.out (.inr (.inr (.inr e)))
  have nbT' : ¬ p.T = bx := fun e => nbT e.symm
  by_cases hi : idx = xcalls
  · subst hi
    by_cases hc : code = 0
    · subst hc
      by_cases hv : val = 0
      · subst hv
        go_upto_region 7 with fail
        go_quiet (fail)
        generalize hq : World.drewN _ _ = W9
        have HF9 := Lib.hid (show RFr w W9 p s bx _ from by rw [← hq]; exact HF3.out.drewN _)
        replace nb := nb.below (show Below W4.heap.size W4 W9 from by rw [← hq]; exact ⟨rfl, rfl, rfl, Nat.le_refl _, fun _ _ => rfl⟩) nb.lt
        clear hq HF3 n0 n1
        clear c0 c1 c2 c3 b0 b1 b2 b3 b4 b5 b6 b7 t0 t1 t2 t3 t4 t5 t6 t7 t8 t9 t10
        obtain ⟨⟨c0, c1, c2, c3⟩, ⟨b0, b1, b2, b3, b4, b5, b6, b7⟩⟩ := HF9.out.cells
        obtain ⟨t0, t1, t2, t3, t4, t5, t6, t7, t8, t9, t10⟩ := HF9.out.rs.t HX.out
        dsimp only at b0 b1 b2 b3 b4 b5 b6 b7 t0 t1 t2 t3 t4 t5 t6 t7 t8 t9 t10
        have n0 := nb.cell 0 _ rfl
        have n1 := nb.cell 1 _ rfl
        have fz := HF9.out.rs.fr
        have f0 := fz (t * 11)
        have f1 := fz (t * 11 + 1)
        have f2 := fz (t * 11 + 2)
        have f3 := fz (t * 11 + 3)
        have f4 := fz (t * 11 + 4)
        have f5 := fz (t * 11 + 5)
        have f6 := fz (t * 11 + 6)
        have f7 := fz (t * 11 + 7)
        have K1 := HF9.out.mod HX.out 1 (.bool true) (fun y => { y with opn := true }) (by omega) rfl
        have K2 := K1.mod (mod_same HX.out) 0 (.int .i64 (wrap64 (idx + 1))) (fun y => { y with calls := wrap64 (y.calls + 1) }) (by omega) rfl
        have K3 := K2.mod (mod_same (mod_same HX.out)) 2 (.int .i64 act) (fun y => { y with op := act }) (by omega) rfl
        have K4 := K3.mod (mod_same (mod_same (mod_same HX.out))) 3 (.int .i64 obj) (fun y => { y with obj := obj }) (by omega) rfl
        have K5 := K4.mod (mod_same (mod_same (mod_same (mod_same HX.out)))) 4 (.int .i64 oth) (fun y => { y with arg := oth }) (by omega) rfl
        have K6 := K5.mod (mod_same (mod_same (mod_same (mod_same (mod_same HX.out))))) 5 (.int .i64 0) (fun y => { y with far := 0 }) (by omega) rfl
        have K7 := K6.mod (mod_same (mod_same (mod_same (mod_same (mod_same (mod_same HX.out)))))) 6 (.int .i64 0) (fun y => { y with code := 0 }) (by omega) rfl
        have K8 := K7.mod (mod_same (mod_same (mod_same (mod_same (mod_same (mod_same (mod_same HX.out))))))) 7 (.int .i64 0) (fun y => { y with val := 0 }) (by omega) rfl
        rw [mod_mod, mod_mod, mod_mod, mod_mod, mod_mod, mod_mod, mod_mod] at K8
        have HK := Lib.hid (And.intro K8.rs K8.kp)
        clear K1 K2 K3 K4 K5 K6 K7 K8 fz
        rw [Nat.add_zero] at HK
        go_wp2_with fail
        go_ret
        exact RHand.yes HK.out.1 HK.out.2 (StepR.call t _ rfl HX.out rfl rfl rfl rfl rfl)
      · have hvb : (val == 0) = false := beq_eq_false_iff_ne.2 hv
        have hvn : (val != 0) = true := by simp [bne, hvb]
        go_upto_region 7 with fail
        go_quiet (fail)
        generalize hq : World.drewN _ _ = W9
        have HF9 := Lib.hid (show RFr w W9 p s bx _ from by rw [← hq]; exact HF3.out.drewN _)
        clear hq HF3
        clear c0 c1 c2 c3 b0 b1 b2 b3 b4 b5 b6 b7 t0 t1 t2 t3 t4 t5 t6 t7 t8 t9 t10
        obtain ⟨⟨c0, c1, c2, c3⟩, ⟨b0, b1, b2, b3, b4, b5, b6, b7⟩⟩ := HF9.out.cells
        obtain ⟨t0, t1, t2, t3, t4, t5, t6, t7, t8, t9, t10⟩ := HF9.out.rs.t HX.out
        dsimp only at b0 b1 b2 b3 b4 b5 b6 b7 t0 t1 t2 t3 t4 t5 t6 t7 t8 t9 t10
        go_wp2_with fail
        go_ret
        exact RHand.no HF9.out.rs HF9.out.kp
    · have hcb : (code == 0) = false := beq_eq_false_iff_ne.2 hc
      have hcn : (code != 0) = true := by simp [bne, hcb]
      go_upto_region 7 with fail
      go_quiet (fail)
      generalize hq : World.drewN _ _ = W9
      have HF9 := Lib.hid (show RFr w W9 p s bx _ from by rw [← hq]; exact HF3.out.drewN _)
      clear hq HF3
      clear c0 c1 c2 c3 b0 b1 b2 b3 b4 b5 b6 b7 t0 t1 t2 t3 t4 t5 t6 t7 t8 t9 t10
      obtain ⟨⟨c0, c1, c2, c3⟩, ⟨b0, b1, b2, b3, b4, b5, b6, b7⟩⟩ := HF9.out.cells
      obtain ⟨t0, t1, t2, t3, t4, t5, t6, t7, t8, t9, t10⟩ := HF9.out.rs.t HX.out
      dsimp only at b0 b1 b2 b3 b4 b5 b6 b7 t0 t1 t2 t3 t4 t5 t6 t7 t8 t9 t10
      go_wp2_with fail
      go_ret
      exact RHand.no HF9.out.rs HF9.out.kp
  · have hib : (idx == xcalls) = false := beq_eq_false_iff_ne.2 hi
    have hin : (idx != xcalls) = true := by simp [bne, hib]
    go_upto_region 7 with fail
    go_quiet (fail)
    generalize hq : World.drewN _ _ = W9
    have HF9 := Lib.hid (show RFr w W9 p s bx _ from by rw [← hq]; exact HF3.out.drewN _)
    clear hq HF3
    clear c0 c1 c2 c3 b0 b1 b2 b3 b4 b5 b6 b7 t0 t1 t2 t3 t4 t5 t6 t7 t8 t9 t10
    obtain ⟨⟨c0, c1, c2, c3⟩, ⟨b0, b1, b2, b3, b4, b5, b6, b7⟩⟩ := HF9.out.cells
    obtain ⟨t0, t1, t2, t3, t4, t5, t6, t7, t8, t9, t10⟩ := HF9.out.rs.t HX.out
    dsimp only at b0 b1 b2 b3 b4 b5 b6 b7 t0 t1 t2 t3 t4 t5 t6 t7 t8 t9 t10
    go_wp2_with fail
    go_ret
    exact RHand.no HF9.out.rs HF9.out.kp
set_option maxHeartbeats 8000000 in
theorem rtake_2a {w : World} {p : RPl} {s : RS} (h : RsAt w p s) {t : Nat} (xcalls : Int) (xop xobj xarg xfar xcode xval : Int) (xflag : Bool) (xsaved xsince : Int) (hx : s.T[t]? = some ⟨xcalls, false, xop, xobj, xarg, xfar, xcode, xval, xflag, xsaved, xsince⟩) (idx act obj oth code val : Int)  :
    Calls Try.prog 34 #[rspV p, evV ⟨2, (t : Int), idx, act, obj, oth, code, val⟩] w (RHand w p s (StepR s ⟨2, (t : Int), idx, act, obj, oth, code, val⟩)) := by
  have HX := Lib.hid hx
  have htl := (List.getElem?_eq_some_iff.1 hx).1
  have it := idx_rthrs p.T s.T.length p.cT t htl
  have htI : ¬ (s.T.length : Int) ≤ (t : Int) := by omega
  have ht0 : ¬ (t : Int) < 0 := by omega
  have HF0 := Lib.hid (RFr.boxed h ⟨2, (t : Int), idx, act, obj, oth, code, val⟩)
  clear h hx htl
  go_enter Try.func34, Try.ntmps34
  go_upto_region 1 with fail
  generalize hWW : w.alloc _ = W at HF0 ⊢
  obtain ⟨bx, hbx⟩ : ∃ bx, bx = w.heap.size := ⟨_, rfl⟩
  rw [← hbx] at HF0 ⊢
  clear hbx hWW
  obtain ⟨⟨c0, c1, c2, c3⟩, ⟨b0, b1, b2, b3, b4, b5, b6, b7⟩⟩ := HF0.out.cells
  obtain ⟨t0, t1, t2, t3, t4, t5, t6, t7, t8, t9, t10⟩ := HF0.out.rs.t HX.out
  dsimp only at b0 b1 b2 b3 b4 b5 b6 b7 t0 t1 t2 t3 t4 t5 t6 t7 t8 t9 t10
  go_quiet (fail)
  generalize hq : World.drewN _ _ = W2
  have HF1 := Lib.hid (show RFr w W2 p s bx _ from by rw [← hq]; exact HF0.out.drewN _)
  clear hq HF0
  clear c0 c1 c2 c3 b0 b1 b2 b3 b4 b5 b6 b7 t0 t1 t2 t3 t4 t5 t6 t7 t8 t9 t10
  obtain ⟨⟨c0, c1, c2, c3⟩, ⟨b0, b1, b2, b3, b4, b5, b6, b7⟩⟩ := HF1.out.cells
  obtain ⟨t0, t1, t2, t3, t4, t5, t6, t7, t8, t9, t10⟩ := HF1.out.rs.t HX.out
  dsimp only at b0 b1 b2 b3 b4 b5 b6 b7 t0 t1 t2 t3 t4 t5 t6 t7 t8 t9 t10
  go_upto_region 3 with fail
  go_quiet (fail)
  generalize hq : World.drewN _ _ = W3
  have HF2 := Lib.hid (show RFr w W3 p s bx _ from by rw [← hq]; exact HF1.out.drewN _)
  clear hq HF1
  clear c0 c1 c2 c3 b0 b1 b2 b3 b4 b5 b6 b7 t0 t1 t2 t3 t4 t5 t6 t7 t8 t9 t10
  obtain ⟨⟨c0, c1, c2, c3⟩, ⟨b0, b1, b2, b3, b4, b5, b6, b7⟩⟩ := HF2.out.cells
  obtain ⟨t0, t1, t2, t3, t4, t5, t6, t7, t8, t9, t10⟩ := HF2.out.rs.t HX.out
  dsimp only at b0 b1 b2 b3 b4 b5 b6 b7 t0 t1 t2 t3 t4 t5 t6 t7 t8 t9 t10
  clear htI ht0
  go_upto_region 5 with fail
  clear c0 c1 c2 c3 b0 b1 b2 b3 b4 b5 b6 b7 t0 t1 t2 t3 t4 t5 t6 t7 t8 t9 t10
  have nb : Blk (W3.alloc (.cells #[.int .i64 0, .int .i64 0] 35)) W3.heap.size 35 #[.int .i64 0, .int .i64 0] := Blk.new _ _ _
  have HF3 := Lib.hid (HF2.out.below ((Below.refl _ W3).alloc (Nat.le_refl _) (.cells #[.int .i64 0, .int .i64 0] 35)))
  have hbn : ¬ rB p W3.heap.size := fun hb => Nat.lt_irrefl _ (HF2.out.rs.lt hb)
  generalize hW4 : W3.alloc _ = W4 at HF3 nb ⊢
  obtain ⟨bn, hbn0⟩ : ∃ bn, bn = W3.heap.size := ⟨_, rfl⟩
  rw [← hbn0] at nb hbn ⊢
  clear hW4 hbn0 HF2
  obtain ⟨⟨c0, c1, c2, c3⟩, ⟨b0, b1, b2, b3, b4, b5, b6, b7⟩⟩ := HF3.out.cells
  obtain ⟨t0, t1, t2, t3, t4, t5, t6, t7, t8, t9, t10⟩ := HF3.out.rs.t HX.out
  dsimp only at b0 b1 b2 b3 b4 b5 b6 b7 t0 t1 t2 t3 t4 t5 t6 t7 t8 t9 t10
  have n0 := nb.cell 0 _ rfl
  have n1 := nb.cell 1 _ rfl
  have hbnT : ¬ bn = p.T := fun e => hbn (.inr (.inr (.inr e)))
  have hbnT' : ¬ p.T = bn := fun e => hbnT e.symm
  have nbT : ¬ bx = p.T := fun e => HF3.out.out (.inr (.inr (.inr e)))
  have nbT' : ¬ p.T = bx := fun e => nbT e.symm
  go_upto_region 18 with fail
  go_quiet (fail)
  generalize hq : World.drewN _ _ = W9
  have HF9 := Lib.hid (show RFr w W9 p s bx _ from by rw [← hq]; exact HF3.out.drewN _)
  clear hq HF3
  clear c0 c1 c2 c3 b0 b1 b2 b3 b4 b5 b6 b7 t0 t1 t2 t3 t4 t5 t6 t7 t8 t9 t10
  obtain ⟨⟨c0, c1, c2, c3⟩, ⟨b0, b1, b2, b3, b4, b5, b6, b7⟩⟩ := HF9.out.cells
  obtain ⟨t0, t1, t2, t3, t4, t5, t6, t7, t8, t9, t10⟩ := HF9.out.rs.t HX.out
  dsimp only at b0 b1 b2 b3 b4 b5 b6 b7 t0 t1 t2 t3 t4 t5 t6 t7 t8 t9 t10
  go_wp2_with fail
  go_ret
  exact RHand.no HF9.out.rs HF9.out.kp
/-- a block of the call's own is stored to -/
theorem RFr.offR {w W : World} {p : RPl} {s : RS} {bx : Nat} {e : Ev} (h : RFr w W p s bx e) {b : Nat} (hb : ¬ rB p b) (i j : Nat) (u v : Value) (hbx : bx ≠ b) (hw : w.heap.size ≤ b) : RFr w ((W.setCell ⟨b, i, none⟩ u).setCell ⟨b, j, none⟩ v) p s bx e := by
  have k : Keep (fun c => c = b) W ((W.setCell ⟨b, i, none⟩ u).setCell ⟨b, j, none⟩ v) := ((Keep.refl (fun c => c = b) W).set (p := ⟨b, i, none⟩) (fun _ => rfl) u).set (p := ⟨b, j, none⟩) (fun _ => rfl) v
  exact ⟨h.rs.keep k (fun c hc e => hb (e ▸ hc)), h.ev.keep k (fun e => hbx e), h.kp.step k (fun i hi hq => by exfalso; have e : i = b := hq; omega), h.out⟩
set_option maxHeartbeats 8000000 in
theorem rtake_2b {w : World} {p : RPl} {s : RS} (h : RsAt w p s) {t : Nat} (xcalls : Int) (xop xobj xarg xfar xcode xval : Int) (xflag : Bool) (xsaved xsince : Int) (hx : s.T[t]? = some ⟨xcalls, true, xop, xobj, xarg, xfar, xcode, xval, xflag, xsaved, xsince⟩) (idx act obj oth code val : Int)  :
    Calls Try.prog 34 #[rspV p, evV ⟨2, (t : Int), idx, act, obj, oth, code, val⟩] w (RHand w p s (StepR s ⟨2, (t : Int), idx, act, obj, oth, code, val⟩)) := by
  have HX := Lib.hid hx
  have htl := (List.getElem?_eq_some_iff.1 hx).1
  have it := idx_rthrs p.T s.T.length p.cT t htl
  have htI : ¬ (s.T.length : Int) ≤ (t : Int) := by omega
  have ht0 : ¬ (t : Int) < 0 := by omega
  have HF0 := Lib.hid (RFr.boxed h ⟨2, (t : Int), idx, act, obj, oth, code, val⟩)
  clear h hx htl
  go_enter Try.func34, Try.ntmps34
  go_upto_region 1 with fail
  generalize hWW : w.alloc _ = W at HF0 ⊢
  obtain ⟨bx, hbx⟩ : ∃ bx, bx = w.heap.size := ⟨_, rfl⟩
  rw [← hbx] at HF0 ⊢
  clear hbx hWW
  obtain ⟨⟨c0, c1, c2, c3⟩, ⟨b0, b1, b2, b3, b4, b5, b6, b7⟩⟩ := HF0.out.cells
  obtain ⟨t0, t1, t2, t3, t4, t5, t6, t7, t8, t9, t10⟩ := HF0.out.rs.t HX.out
  dsimp only at b0 b1 b2 b3 b4 b5 b6 b7 t0 t1 t2 t3 t4 t5 t6 t7 t8 t9 t10
  go_quiet (fail)
  generalize hq : World.drewN _ _ = W2
  have HF1 := Lib.hid (show RFr w W2 p s bx _ from by rw [← hq]; exact HF0.out.drewN _)
  clear hq HF0
  clear c0 c1 c2 c3 b0 b1 b2 b3 b4 b5 b6 b7 t0 t1 t2 t3 t4 t5 t6 t7 t8 t9 t10
  obtain ⟨⟨c0, c1, c2, c3⟩, ⟨b0, b1, b2, b3, b4, b5, b6, b7⟩⟩ := HF1.out.cells
  obtain ⟨t0, t1, t2, t3, t4, t5, t6, t7, t8, t9, t10⟩ := HF1.out.rs.t HX.out
  dsimp only at b0 b1 b2 b3 b4 b5 b6 b7 t0 t1 t2 t3 t4 t5 t6 t7 t8 t9 t10
  go_upto_region 3 with fail
  go_quiet (fail)
  generalize hq : World.drewN _ _ = W3
  have HF2 := Lib.hid (show RFr w W3 p s bx _ from by rw [← hq]; exact HF1.out.drewN _)
  clear hq HF1
  clear c0 c1 c2 c3 b0 b1 b2 b3 b4 b5 b6 b7 t0 t1 t2 t3 t4 t5 t6 t7 t8 t9 t10
  obtain ⟨⟨c0, c1, c2, c3⟩, ⟨b0, b1, b2, b3, b4, b5, b6, b7⟩⟩ := HF2.out.cells
  obtain ⟨t0, t1, t2, t3, t4, t5, t6, t7, t8, t9, t10⟩ := HF2.out.rs.t HX.out
  dsimp only at b0 b1 b2 b3 b4 b5 b6 b7 t0 t1 t2 t3 t4 t5 t6 t7 t8 t9 t10
  clear htI ht0
  go_upto_region 5 with fail
  clear c0 c1 c2 c3 b0 b1 b2 b3 b4 b5 b6 b7 t0 t1 t2 t3 t4 t5 t6 t7 t8 t9 t10
  have nb : Blk (W3.alloc (.cells #[.int .i64 0, .int .i64 0] 35)) W3.heap.size 35 #[.int .i64 0, .int .i64 0] := Blk.new _ _ _
  have HF3 := Lib.hid (HF2.out.below ((Below.refl _ W3).alloc (Nat.le_refl _) (.cells #[.int .i64 0, .int .i64 0] 35)))
  have hbn : ¬ rB p W3.heap.size := fun hb => Nat.lt_irrefl _ (HF2.out.rs.lt hb)
  generalize hW4 : W3.alloc _ = W4 at HF3 nb ⊢
  obtain ⟨bn, hbn0⟩ : ∃ bn, bn = W3.heap.size := ⟨_, rfl⟩
  rw [← hbn0] at nb hbn ⊢
  clear hW4 hbn0 HF2
  obtain ⟨⟨c0, c1, c2, c3⟩, ⟨b0, b1, b2, b3, b4, b5, b6, b7⟩⟩ := HF3.out.cells
  obtain ⟨t0, t1, t2, t3, t4, t5, t6, t7, t8, t9, t10⟩ := HF3.out.rs.t HX.out
  dsimp only at b0 b1 b2 b3 b4 b5 b6 b7 t0 t1 t2 t3 t4 t5 t6 t7 t8 t9 t10
  have n0 := nb.cell 0 _ rfl
  have n1 := nb.cell 1 _ rfl
  have hbnT : ¬ bn = p.T := fun e => hbn (.inr (.inr (.inr e)))
  have hbnT' : ¬ p.T = bn := fun e => hbnT e.symm
  have nbT : ¬ bx = p.T := fun e => HF3.out.out (.inr (.inr (.inr e)))
  have nbT' : ¬ p.T = bx := fun e => nbT e.symm
  by_cases hi : idx = wrap64 (xcalls - 1)
  · subst hi
    by_cases ha : act = 0
    · subst ha
      by_cases hob : obj = 0
      · subst hob
        by_cases hot : oth = 0
        · subst hot
          go_upto_region 18 with fail
          go_quiet (fail)
          generalize hq : World.drewN _ _ = W9
          have HF9 := Lib.hid (show RFr w W9 p s bx _ from by rw [← hq]; exact HF3.out.drewN _)
          clear hq HF3 n0 n1
          clear c0 c1 c2 c3 b0 b1 b2 b3 b4 b5 b6 b7 t0 t1 t2 t3 t4 t5 t6 t7 t8 t9 t10
          obtain ⟨⟨c0, c1, c2, c3⟩, ⟨b0, b1, b2, b3, b4, b5, b6, b7⟩⟩ := HF9.out.cells
          obtain ⟨t0, t1, t2, t3, t4, t5, t6, t7, t8, t9, t10⟩ := HF9.out.rs.t HX.out
          dsimp only at b0 b1 b2 b3 b4 b5 b6 b7 t0 t1 t2 t3 t4 t5 t6 t7 t8 t9 t10
          go_upto_region 21 with fail
          clear c0 c1 c2 c3 b0 b1 b2 b3 b4 b5 b6 b7 t0 t1 t2 t3 t4 t5 t6 t7 t8 t9 t10
          have wb : Blk (W9.alloc (.cells #[.int .i64 xcode, .int .i64 xval] 35)) W9.heap.size 35 #[.int .i64 xcode, .int .i64 xval] := Blk.new _ _ _
          have HFa := Lib.hid (HF9.out.below ((Below.refl _ W9).alloc (Nat.le_refl _) (.cells #[.int .i64 xcode, .int .i64 xval] 35)))
          have hbw : ¬ rB p W9.heap.size := fun hb => Nat.lt_irrefl _ (HF9.out.rs.lt hb)
          have hbwle : w.heap.size ≤ W9.heap.size := HF9.out.kp.size
          have hbx9 : bx ≠ W9.heap.size := fun e => Nat.lt_irrefl _ (e ▸ HF9.out.ev.lt)
          generalize hWa : W9.alloc _ = Wa at HFa wb ⊢
          obtain ⟨bw, hbw0⟩ : ∃ bw, bw = W9.heap.size := ⟨_, rfl⟩
          rw [← hbw0] at wb hbw hbx9 hbwle ⊢
          have HBX := Lib.hid hbx9
          clear hbx9
          clear hWa hbw0 HF9
          obtain ⟨⟨c0, c1, c2, c3⟩, ⟨b0, b1, b2, b3, b4, b5, b6, b7⟩⟩ := HFa.out.cells
          obtain ⟨t0, t1, t2, t3, t4, t5, t6, t7, t8, t9, t10⟩ := HFa.out.rs.t HX.out
          dsimp only at b0 b1 b2 b3 b4 b5 b6 b7 t0 t1 t2 t3 t4 t5 t6 t7 t8 t9 t10
          by_cases hva : validR s xop xobj xarg
          · have HWr := Lib.hid (wrong_no HFa.out.rs hva)
            have HVA := Lib.hid hva
            clear hva
            go_upto_region 23 with (go_at_call 45; (with_reducible refine HWr.out.mono ?_); rintro e5 w5 ⟨rfl, b5'⟩)
            have HFZ := Lib.hid (HFa.out.below b5')
            have wz := wb.below b5' wb.lt
            clear c0 c1 c2 c3 b0 b1 b2 b3 b4 b5 b6 b7 t0 t1 t2 t3 t4 t5 t6 t7 t8 t9 t10
            obtain ⟨⟨c0, c1, c2, c3⟩, ⟨b0, b1, b2, b3, b4, b5, b6, b7⟩⟩ := HFZ.out.cells
            obtain ⟨t0, t1, t2, t3, t4, t5, t6, t7, t8, t9, t10⟩ := HFZ.out.rs.t HX.out
            dsimp only at b0 b1 b2 b3 b4 b5 b6 b7 t0 t1 t2 t3 t4 t5 t6 t7 t8 t9 t10
            have w0 := wz.cell 0 _ rfl
            have w1 := wz.cell 1 _ rfl
            by_cases hf5 : xfar = 5
            · subst hf5
              by_cases hc : code = xcode
              · subst hc
                by_cases hv : val = xval
                · subst hv
                  have f1 := HFZ.out.rs.fr (t * 11 + 1)
                  have HFY := Lib.hid (HFZ.out.mod HX.out 1 (.bool false) (fun y => { y with opn := false }) (by omega) rfl)
                  go_wp2_with fail
                  go_ret
                  exact RHand.yes HFY.out.rs HFY.out.kp (StepR.ret t _ rfl HX.out rfl rfl rfl rfl rfl rfl (.inr ⟨HVA.out, .inl rfl, rfl, rfl⟩))
                · have hvb : (val == xval) = false := beq_eq_false_iff_ne.2 hv
                  have hvn : (val != xval) = true := by simp [bne, hvb]
                  go_wp2_with fail
                  go_ret
                  exact RHand.no HFZ.out.rs HFZ.out.kp
              · have hcb : (code == xcode) = false := beq_eq_false_iff_ne.2 hc
                have hcn : (code != xcode) = true := by simp [bne, hcb]
                go_wp2_with fail
                go_ret
                exact RHand.no HFZ.out.rs HFZ.out.kp
            · have hf5b : (xfar == 5) = false := beq_eq_false_iff_ne.2 hf5
              have hf5n : (xfar != 5) = true := by simp [bne, hf5b]
              by_cases hp8 : xop = 8
              · subst hp8
                by_cases hf0 : xfar = 0
                · subst hf0
                  by_cases hc : code = xcode
                  · subst hc
                    by_cases hv : val = xval
                    · subst hv
                      have f1 := HFZ.out.rs.fr (t * 11 + 1)
                      have HFY := Lib.hid (HFZ.out.mod HX.out 1 (.bool false) (fun y => { y with opn := false }) (by omega) rfl)
                      go_wp2_with fail
                      go_ret
                      exact RHand.yes HFY.out.rs HFY.out.kp (StepR.ret t _ rfl HX.out rfl rfl rfl rfl rfl rfl (.inr ⟨HVA.out, .inr ⟨rfl, rfl⟩, rfl, rfl⟩))
                    · have hvb : (val == xval) = false := beq_eq_false_iff_ne.2 hv
                      have hvn : (val != xval) = true := by simp [bne, hvb]
                      go_wp2_with fail
                      go_ret
                      exact RHand.no HFZ.out.rs HFZ.out.kp
                  · have hcb : (code == xcode) = false := beq_eq_false_iff_ne.2 hc
                    have hcn : (code != xcode) = true := by simp [bne, hcb]
                    go_wp2_with fail
                    go_ret
                    exact RHand.no HFZ.out.rs HFZ.out.kp
                · have hf0b : (xfar == 0) = false := beq_eq_false_iff_ne.2 hf0
                  have hf0n : (xfar != 0) = true := by simp [bne, hf0b]
                  go_wp2_with fail
                  go_ret
                  exact RHand.no HFZ.out.rs HFZ.out.kp
              · have hp8b : (xop == 8) = false := beq_eq_false_iff_ne.2 hp8
                have hp8n : (xop != 8) = true := by simp [bne, hp8b]
                go_wp2_with fail
                go_ret
                exact RHand.no HFZ.out.rs HFZ.out.kp
          · have HWr := Lib.hid (wrong_yes HFa.out.rs hva)
            have HVA := Lib.hid hva
            clear hva
            go_upto_region 22 with (go_at_call 45; (with_reducible refine HWr.out.mono ?_); rintro e5 w5 ⟨rfl, b5'⟩)
            have HFb := Lib.hid (HFa.out.below b5')
            have wz := wb.below b5' wb.lt
            clear c0 c1 c2 c3 b0 b1 b2 b3 b4 b5 b6 b7 t0 t1 t2 t3 t4 t5 t6 t7 t8 t9 t10
            have w0 := wz.cell 0 _ rfl
            have w1 := wz.cell 1 _ rfl
            have g0 := wz.free 0
            have g1 := wz.free 1
            have wy := (wz.set 0 (.int .i64 2)).set 1 (.int .i64 0)
            have HFZ := Lib.hid (HFb.out.offR hbw 0 1 (.int .i64 2) (.int .i64 0) HBX.out hbwle)
            go_upto_region 25 with fail
            clear w0 w1 g0 g1
            generalize hWc : World.setCell _ _ _ = Wc at HFZ wy ⊢
            clear hWc
            obtain ⟨⟨c0, c1, c2, c3⟩, ⟨b0, b1, b2, b3, b4, b5, b6, b7⟩⟩ := HFZ.out.cells
            obtain ⟨t0, t1, t2, t3, t4, t5, t6, t7, t8, t9, t10⟩ := HFZ.out.rs.t HX.out
            dsimp only at b0 b1 b2 b3 b4 b5 b6 b7 t0 t1 t2 t3 t4 t5 t6 t7 t8 t9 t10
            have w0 : Wc.cell? ⟨bw, 0, none⟩ = some (.int .i64 2) := wy.cell 0 _ rfl
            have w1 : Wc.cell? ⟨bw, 1, none⟩ = some (.int .i64 0) := wy.cell 1 _ rfl
            by_cases hc : code = 2
            · subst hc
              by_cases hv : val = 0
              · subst hv
                have f1 := HFZ.out.rs.fr (t * 11 + 1)
                have HFY := Lib.hid (HFZ.out.mod HX.out 1 (.bool false) (fun y => { y with opn := false }) (by omega) rfl)
                go_wp2_with fail
                go_ret
                exact RHand.yes HFY.out.rs HFY.out.kp (StepR.ret t _ rfl HX.out rfl rfl rfl rfl rfl rfl (.inl ⟨HVA.out, rfl, rfl⟩))
              · have hvb : (val == 0) = false := beq_eq_false_iff_ne.2 hv
                have hvn : (val != 0) = true := by simp [bne, hvb]
                go_wp2_with fail
                go_ret
                exact RHand.no HFZ.out.rs HFZ.out.kp
            · have hcb : (code == 2) = false := beq_eq_false_iff_ne.2 hc
              have hcn : (code != 2) = true := by simp [bne, hcb]
              go_wp2_with fail
              go_ret
              exact RHand.no HFZ.out.rs HFZ.out.kp
        · have hotb : (oth == 0) = false := beq_eq_false_iff_ne.2 hot
          have hotn : (oth != 0) = true := by simp [bne, hotb]
          go_upto_region 18 with fail
          go_quiet (fail)
          generalize hq : World.drewN _ _ = W9
          have HF9 := Lib.hid (show RFr w W9 p s bx _ from by rw [← hq]; exact HF3.out.drewN _)
          clear hq HF3
          clear c0 c1 c2 c3 b0 b1 b2 b3 b4 b5 b6 b7 t0 t1 t2 t3 t4 t5 t6 t7 t8 t9 t10
          obtain ⟨⟨c0, c1, c2, c3⟩, ⟨b0, b1, b2, b3, b4, b5, b6, b7⟩⟩ := HF9.out.cells
          obtain ⟨t0, t1, t2, t3, t4, t5, t6, t7, t8, t9, t10⟩ := HF9.out.rs.t HX.out
          dsimp only at b0 b1 b2 b3 b4 b5 b6 b7 t0 t1 t2 t3 t4 t5 t6 t7 t8 t9 t10
          go_wp2_with fail
          go_ret
          exact RHand.no HF9.out.rs HF9.out.kp
      · have hobb : (obj == 0) = false := beq_eq_false_iff_ne.2 hob
        have hobn : (obj != 0) = true := by simp [bne, hobb]
        go_upto_region 18 with fail
        go_quiet (fail)
        generalize hq : World.drewN _ _ = W9
        have HF9 := Lib.hid (show RFr w W9 p s bx _ from by rw [← hq]; exact HF3.out.drewN _)
        clear hq HF3
        clear c0 c1 c2 c3 b0 b1 b2 b3 b4 b5 b6 b7 t0 t1 t2 t3 t4 t5 t6 t7 t8 t9 t10
        obtain ⟨⟨c0, c1, c2, c3⟩, ⟨b0, b1, b2, b3, b4, b5, b6, b7⟩⟩ := HF9.out.cells
        obtain ⟨t0, t1, t2, t3, t4, t5, t6, t7, t8, t9, t10⟩ := HF9.out.rs.t HX.out
        dsimp only at b0 b1 b2 b3 b4 b5 b6 b7 t0 t1 t2 t3 t4 t5 t6 t7 t8 t9 t10
        go_wp2_with fail
        go_ret
        exact RHand.no HF9.out.rs HF9.out.kp
    · have hab : (act == 0) = false := beq_eq_false_iff_ne.2 ha
      have han : (act != 0) = true := by simp [bne, hab]
      go_upto_region 18 with fail
      go_quiet (fail)
      generalize hq : World.drewN _ _ = W9
      have HF9 := Lib.hid (show RFr w W9 p s bx _ from by rw [← hq]; exact HF3.out.drewN _)
      clear hq HF3
      clear c0 c1 c2 c3 b0 b1 b2 b3 b4 b5 b6 b7 t0 t1 t2 t3 t4 t5 t6 t7 t8 t9 t10
      obtain ⟨⟨c0, c1, c2, c3⟩, ⟨b0, b1, b2, b3, b4, b5, b6, b7⟩⟩ := HF9.out.cells
      obtain ⟨t0, t1, t2, t3, t4, t5, t6, t7, t8, t9, t10⟩ := HF9.out.rs.t HX.out
      dsimp only at b0 b1 b2 b3 b4 b5 b6 b7 t0 t1 t2 t3 t4 t5 t6 t7 t8 t9 t10
      go_wp2_with fail
      go_ret
      exact RHand.no HF9.out.rs HF9.out.kp
  · have hib : (idx == wrap64 (xcalls - 1)) = false := beq_eq_false_iff_ne.2 hi
    have hin : (idx != wrap64 (xcalls - 1)) = true := by simp [bne, hib]
    go_upto_region 18 with fail
    go_quiet (fail)
    generalize hq : World.drewN _ _ = W9
    have HF9 := Lib.hid (show RFr w W9 p s bx _ from by rw [← hq]; exact HF3.out.drewN _)
    clear hq HF3
    clear c0 c1 c2 c3 b0 b1 b2 b3 b4 b5 b6 b7 t0 t1 t2 t3 t4 t5 t6 t7 t8 t9 t10
    obtain ⟨⟨c0, c1, c2, c3⟩, ⟨b0, b1, b2, b3, b4, b5, b6, b7⟩⟩ := HF9.out.cells
    obtain ⟨t0, t1, t2, t3, t4, t5, t6, t7, t8, t9, t10⟩ := HF9.out.rs.t HX.out
    dsimp only at b0 b1 b2 b3 b4 b5 b6 b7 t0 t1 t2 t3 t4 t5 t6 t7 t8 t9 t10
    go_wp2_with fail
    go_ret
    exact RHand.no HF9.out.rs HF9.out.kp
set_option maxHeartbeats 8000000 in
theorem rtake_x {w : World} {p : RPl} {s : RS} (h : RsAt w p s) {t : Nat} (xcalls : Int) (xop xobj xarg xfar xcode xval : Int) (xflag : Bool) (xsaved xsince : Int) (xopn : Bool) (hx : s.T[t]? = some ⟨xcalls, xopn, xop, xobj, xarg, xfar, xcode, xval, xflag, xsaved, xsince⟩) (kind idx act obj oth code val : Int) (k0 : (kind == 0) = false) (k1 : (kind == 1) = false) (k2 : (kind == 2) = false) :
    Calls Try.prog 34 #[rspV p, evV ⟨kind, (t : Int), idx, act, obj, oth, code, val⟩] w (RHand w p s (StepR s ⟨kind, (t : Int), idx, act, obj, oth, code, val⟩)) := by
  have HX := Lib.hid hx
  have htl := (List.getElem?_eq_some_iff.1 hx).1
  have it := idx_rthrs p.T s.T.length p.cT t htl
  have htI : ¬ (s.T.length : Int) ≤ (t : Int) := by omega
  have ht0 : ¬ (t : Int) < 0 := by omega
  have HF0 := Lib.hid (RFr.boxed h ⟨kind, (t : Int), idx, act, obj, oth, code, val⟩)
  clear h hx htl
  go_enter Try.func34, Try.ntmps34
  go_upto_region 1 with fail
  generalize hWW : w.alloc _ = W at HF0 ⊢
  obtain ⟨bx, hbx⟩ : ∃ bx, bx = w.heap.size := ⟨_, rfl⟩
  rw [← hbx] at HF0 ⊢
  clear hbx hWW
  obtain ⟨⟨c0, c1, c2, c3⟩, ⟨b0, b1, b2, b3, b4, b5, b6, b7⟩⟩ := HF0.out.cells
  obtain ⟨t0, t1, t2, t3, t4, t5, t6, t7, t8, t9, t10⟩ := HF0.out.rs.t HX.out
  dsimp only at b0 b1 b2 b3 b4 b5 b6 b7 t0 t1 t2 t3 t4 t5 t6 t7 t8 t9 t10
  go_quiet (fail)
  generalize hq : World.drewN _ _ = W2
  have HF1 := Lib.hid (show RFr w W2 p s bx _ from by rw [← hq]; exact HF0.out.drewN _)
  clear hq HF0
  clear c0 c1 c2 c3 b0 b1 b2 b3 b4 b5 b6 b7 t0 t1 t2 t3 t4 t5 t6 t7 t8 t9 t10
  obtain ⟨⟨c0, c1, c2, c3⟩, ⟨b0, b1, b2, b3, b4, b5, b6, b7⟩⟩ := HF1.out.cells
  obtain ⟨t0, t1, t2, t3, t4, t5, t6, t7, t8, t9, t10⟩ := HF1.out.rs.t HX.out
  dsimp only at b0 b1 b2 b3 b4 b5 b6 b7 t0 t1 t2 t3 t4 t5 t6 t7 t8 t9 t10
  go_upto_region 3 with fail
  go_quiet (fail)
  generalize hq : World.drewN _ _ = W3
  have HF2 := Lib.hid (show RFr w W3 p s bx _ from by rw [← hq]; exact HF1.out.drewN _)
  clear hq HF1
  clear c0 c1 c2 c3 b0 b1 b2 b3 b4 b5 b6 b7 t0 t1 t2 t3 t4 t5 t6 t7 t8 t9 t10
  obtain ⟨⟨c0, c1, c2, c3⟩, ⟨b0, b1, b2, b3, b4, b5, b6, b7⟩⟩ := HF2.out.cells
  obtain ⟨t0, t1, t2, t3, t4, t5, t6, t7, t8, t9, t10⟩ := HF2.out.rs.t HX.out
  dsimp only at b0 b1 b2 b3 b4 b5 b6 b7 t0 t1 t2 t3 t4 t5 t6 t7 t8 t9 t10
  clear htI ht0
  go_upto_region 5 with fail
  clear c0 c1 c2 c3 b0 b1 b2 b3 b4 b5 b6 b7 t0 t1 t2 t3 t4 t5 t6 t7 t8 t9 t10
  have nb : Blk (W3.alloc (.cells #[.int .i64 0, .int .i64 0] 35)) W3.heap.size 35 #[.int .i64 0, .int .i64 0] := Blk.new _ _ _
  have HF3 := Lib.hid (HF2.out.below ((Below.refl _ W3).alloc (Nat.le_refl _) (.cells #[.int .i64 0, .int .i64 0] 35)))
  have hbn : ¬ rB p W3.heap.size := fun hb => Nat.lt_irrefl _ (HF2.out.rs.lt hb)
  generalize hW4 : W3.alloc _ = W4 at HF3 nb ⊢
  obtain ⟨bn, hbn0⟩ : ∃ bn, bn = W3.heap.size := ⟨_, rfl⟩
  rw [← hbn0] at nb hbn ⊢
  clear hW4 hbn0 HF2
  obtain ⟨⟨c0, c1, c2, c3⟩, ⟨b0, b1, b2, b3, b4, b5, b6, b7⟩⟩ := HF3.out.cells
  obtain ⟨t0, t1, t2, t3, t4, t5, t6, t7, t8, t9, t10⟩ := HF3.out.rs.t HX.out
  dsimp only at b0 b1 b2 b3 b4 b5 b6 b7 t0 t1 t2 t3 t4 t5 t6 t7 t8 t9 t10
  have n0 := nb.cell 0 _ rfl
  have n1 := nb.cell 1 _ rfl
  have hbnT : ¬ bn = p.T := fun e => hbn (.inr (.inr (.inr e)))
  have hbnT' : ¬ p.T = bn := fun e => hbnT e.symm
  have nbT : ¬ bx = p.T := fun e => HF3.out.out (.inr (.inr (.inr e)))
  have nbT' : ¬ p.T = bx := fun e => nbT e.symm
  go_wp2_with fail
  go_ret
  exact RHand.no HF3.out.rs HF3.out.kp
end Go.Proofs.Ytcgljmeppmdihaa
