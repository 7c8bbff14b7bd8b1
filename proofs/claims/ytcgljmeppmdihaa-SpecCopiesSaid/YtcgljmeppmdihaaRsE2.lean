/- The document's automaton: act, OpNotify, OpAll, OpWait, OpTimed (written by tools/gen_rsE.py). -/
import Derived.Test.YtcgljmeppmdihaaRsC
import Derived.Test.YtcgljmeppmdihaaRsD
import Derived.Test.YtcgljmeppmdihaaRsE0
namespace Go.Proofs.Ytcgljmeppmdihaa
open Go.ChangeShapes Go.WideShapes Go.ChangeAt Go.RowKit
set_option linter.unusedVariables false
set_option maxRecDepth 100000
set_option linter.unusedSimpArgs false
/-- a handler's answer as a Boolean -/
def RHB (w : World) (p : RPl) (s : RS) (Q : RS → Prop) (b : Bool) (w' : World) : Prop :=
  Keep (rB p) w w' ∧ (b = true → ∃ r, Q r ∧ RsAt w' p r) ∧ (b = false → RsAt w' p s)
theorem RHand.b {w w' : World} {p : RPl} {s : RS} {Q : RS → Prop} {e : Ending} (h : RHand w p s Q e w') : ∃ b, e = .returned (.bool b) ∧ RHB w p s Q b w' := by
  rcases h with ⟨hk, ⟨r, rfl, hq, hr⟩ | ⟨rfl, hs⟩⟩
  · exact ⟨true, rfl, hk, fun _ => ⟨r, hq, hr⟩, fun h => by cases h⟩
  · exact ⟨false, rfl, hk, (fun h => by cases h), fun _ => hs⟩
theorem RHB.hand {w W w' : World} {p : RPl} {s : RS} {Q : RS → Prop} {b : Bool} (h : RHB W p s Q b w') (hk : Keep (rB p) w W) : RHand w p s Q (.returned (.bool b)) w' := by
  obtain ⟨h1, h2, h3⟩ := h
  cases b with
  | true =>
    obtain ⟨r, hq, hr⟩ := h2 rfl
    exact RHand.yes hr (hk.trans h1) hq
  | false => exact RHand.no (h3 rfl) (hk.trans h1)
theorem rwait_any {w : World} {p : RPl} {s : RS} (h : RsAt w p s) {t o : Nat} (xcalls : Int) (xopn : Bool) (xop xobj xarg xfar xcode xval : Int) (xflag : Bool) (xsaved xsince : Int) (hx : s.T[t]? = some ⟨xcalls, xopn, xop, xobj, xarg, xfar, xcode, xval, xflag, xsaved, xsince⟩) {own dep : Int} (hW : s.W[o]? = some own) (hD : s.D[o]? = some dep) (bo : Bool) (hb1 : bo = true → own = t) (hb0 : bo = false → own ≠ t) (hop : xop = 2 ∨ xop = 3) (kind idx act oth code val : Int) :
    Calls Try.prog 66 #[rspV p, .pointer (some ⟨p.T, t * 11, none⟩), .bool bo, evV ⟨kind, (t : Int), idx, act, (o : Int), oth, code, val⟩] w (RHand w p s (ActR s t ⟨xcalls, xopn, xop, xobj, xarg, xfar, xcode, xval, xflag, xsaved, xsince⟩ o own dep ⟨kind, (t : Int), idx, act, (o : Int), oth, code, val⟩)) := by
  have ne : ∀ {a b : Int}, a ≠ b → (a == b) = false := fun h => beq_eq_false_iff_ne.2 h
  have nn : ∀ {a b : Int}, a ≠ b → (a != b) = true := fun h => by simp [bne, ne h]
  by_cases a8 : act = 8
  · subst a8
    by_cases f0 : xfar = 0
    · by_cases o4 : oth = 4
      · subst o4
        cases bo with
        | true => exact wait_8c h xcalls xopn xop xobj xarg xfar xcode xval xflag xsaved xsince hx hW hD true kind idx code val hop f0 rfl
        | false => exact wait_8d h xcalls xopn xop xobj xarg xfar xcode xval xflag xsaved xsince hx hW hD false kind idx code val hop f0 rfl (hb0 rfl)
      · by_cases o3 : oth = 3
        · subst o3
          exact wait_8e h xcalls xopn xop xobj xarg xfar xcode xval xflag xsaved xsince hx hW hD bo kind idx code val hop f0
        · exact wait_8b h xcalls xopn xop xobj xarg xfar xcode xval xflag xsaved xsince hx hW hD bo kind idx oth code val hop f0 (ne o4) (ne o3)
    · exact wait_8a h xcalls xopn xop xobj xarg xfar xcode xval xflag xsaved xsince hx hW hD bo kind idx oth code val hop (ne f0)
  by_cases a7 : act = 7
  · subst a7
    by_cases o0 : oth = 0
    · subst o0
      by_cases f0 : xfar = 0
      · cases bo with
        | false => exact wait_7c h xcalls xopn xop xobj xarg xfar xcode xval xflag xsaved xsince hx hW hD false kind idx code val hop f0 rfl
        | true =>
          cases hg : xflag with
          | false => exact wait_7d h xcalls xopn xop xobj xarg xfar xcode xval false xsaved xsince (hg ▸ hx) hW hD true kind idx code val hop f0 rfl rfl
          | true => exact wait_7e h xcalls xopn xop xobj xarg xfar xcode xval true xsaved xsince (hg ▸ hx) hW hD true kind idx code val hop f0 rfl rfl (hb1 rfl)
      · by_cases f2 : xfar = 2
        · cases hg : xflag with
          | false => exact wait_7f h xcalls xopn xop xobj xarg xfar xcode xval false xsaved xsince (hg ▸ hx) hW hD bo kind idx code val hop f2 rfl
          | true => exact wait_7g h xcalls xopn xop xobj xarg xfar xcode xval true xsaved xsince (hg ▸ hx) hW hD bo kind idx code val hop f2 rfl
        · exact wait_7b h xcalls xopn xop xobj xarg xfar xcode xval xflag xsaved xsince hx hW hD bo kind idx code val hop (ne f0) (ne f2)
    · exact wait_7a h xcalls xopn xop xobj xarg xfar xcode xval xflag xsaved xsince hx hW hD bo kind idx oth code val hop (ne o0)
  by_cases a2 : act = 2
  · subst a2
    by_cases o0 : oth = 0
    · subst o0
      by_cases f0 : xfar = 0
      · cases bo with
        | false => exact wait_2c h xcalls xopn xop xobj xarg xfar xcode xval xflag xsaved xsince hx hW hD false kind idx code val hop f0 rfl
        | true => exact wait_2d h xcalls xopn xop xobj xarg xfar xcode xval xflag xsaved xsince hx hW hD true kind idx code val hop f0 rfl (hb1 rfl)
      · exact wait_2b h xcalls xopn xop xobj xarg xfar xcode xval xflag xsaved xsince hx hW hD bo kind idx code val hop (ne f0)
    · exact wait_2a h xcalls xopn xop xobj xarg xfar xcode xval xflag xsaved xsince hx hW hD bo kind idx oth code val hop (ne o0)
  by_cases a4 : act = 4
  · subst a4
    by_cases f2 : xfar = 2
    · by_cases o3 : oth = 3
      · subst o3
        exact wait_4e h xcalls xopn xop xobj xarg xfar xcode xval xflag xsaved xsince hx hW hD bo kind idx code val hop f2
      · by_cases o1 : oth = 1
        · subst o1
          by_cases p3 : xop = 3
          · exact wait_4d h xcalls xopn xop xobj xarg xfar xcode xval xflag xsaved xsince hx hW hD bo kind idx code val hop f2 p3
          · exact wait_4c h xcalls xopn xop xobj xarg xfar xcode xval xflag xsaved xsince hx hW hD bo kind idx code val hop f2 (ne p3)
        · exact wait_4b h xcalls xopn xop xobj xarg xfar xcode xval xflag xsaved xsince hx hW hD bo kind idx oth code val hop f2 (ne o3) (ne o1)
    · by_cases f3 : xfar = 3
      · by_cases o2 : oth = 2
        · subst o2
          exact wait_4g h xcalls xopn xop xobj xarg xfar xcode xval xflag xsaved xsince hx hW hD bo kind idx code val hop f3
        · exact wait_4f h xcalls xopn xop xobj xarg xfar xcode xval xflag xsaved xsince hx hW hD bo kind idx oth code val hop f3 (ne o2) (nn o2)
      · exact wait_4a h xcalls xopn xop xobj xarg xfar xcode xval xflag xsaved xsince hx hW hD bo kind idx oth code val hop (ne f2) (ne f3) (nn f3)
  by_cases a5 : act = 5
  · subst a5
    by_cases o0 : oth = 0
    · subst o0
      by_cases f4 : xfar = 4
      · by_cases hn : own < 0
        · exact wait_5d h xcalls xopn xop xobj xarg xfar xcode xval xflag xsaved xsince hx hW hD bo kind idx code val hop f4 hn
        · exact wait_5c h xcalls xopn xop xobj xarg xfar xcode xval xflag xsaved xsince hx hW hD bo kind idx code val hop f4 hn
      · exact wait_5b h xcalls xopn xop xobj xarg xfar xcode xval xflag xsaved xsince hx hW hD bo kind idx code val hop (ne f4)
    · exact wait_5a h xcalls xopn xop xobj xarg xfar xcode xval xflag xsaved xsince hx hW hD bo kind idx oth code val hop (ne o0)
  exact wait_x h xcalls xopn xop xobj xarg xfar xcode xval xflag xsaved xsince hx hW hD bo kind idx act oth code val hop (ne a8) (ne a7) (ne a2) (ne a4) (ne a5)
theorem rnotify_any {w : World} {p : RPl} {s : RS} (h : RsAt w p s) {t o : Nat} (xcalls : Int) (xopn : Bool) (xop xobj xarg xfar xcode xval : Int) (xflag : Bool) (xsaved xsince : Int) (hx : s.T[t]? = some ⟨xcalls, xopn, xop, xobj, xarg, xfar, xcode, xval, xflag, xsaved, xsince⟩) {own dep : Int} (hW : s.W[o]? = some own) (hD : s.D[o]? = some dep) (bo : Bool) (hb1 : bo = true → own = t) (hb0 : bo = false → own ≠ t) (hop : xop = 4 ∨ xop = 5) (hll : s.T.length ≤ 100000) (kind idx act oth code val : Int) :
    Calls Try.prog 65 #[rspV p, .pointer (some ⟨p.T, t * 11, none⟩), .bool bo, evV ⟨kind, (t : Int), idx, act, (o : Int), oth, code, val⟩] w (RHand w p s (ActR s t ⟨xcalls, xopn, xop, xobj, xarg, xfar, xcode, xval, xflag, xsaved, xsince⟩ o own dep ⟨kind, (t : Int), idx, act, (o : Int), oth, code, val⟩)) := by
  have ne : ∀ {a b : Int}, a ≠ b → (a == b) = false := fun h => beq_eq_false_iff_ne.2 h
  have nn : ∀ {a b : Int}, a ≠ b → (a != b) = true := fun h => by simp [bne, ne h]
  by_cases a8 : act = 8
  · subst a8
    cases bo with
    | true => exact notify_8a h xcalls xopn xop xobj xarg xfar xcode xval xflag xsaved xsince hx hW hD true kind idx oth code val hop rfl
    | false =>
      by_cases f0 : xfar = 0
      · by_cases o4 : oth = 4
        · subst o4
          exact notify_8d h xcalls xopn xop xobj xarg xfar xcode xval xflag xsaved xsince hx hW hD false kind idx code val hop rfl f0 (hb0 rfl)
        · exact notify_8c h xcalls xopn xop xobj xarg xfar xcode xval xflag xsaved xsince hx hW hD false kind idx oth code val hop rfl f0 (ne o4)
      · exact notify_8b h xcalls xopn xop xobj xarg xfar xcode xval xflag xsaved xsince hx hW hD false kind idx oth code val hop rfl (ne f0)
  by_cases a3 : act = 3
  · subst a3
    cases bo with
    | false => exact notify_3a h xcalls xopn xop xobj xarg xfar xcode xval xflag xsaved xsince hx hW hD false kind idx oth code val hop rfl
    | true => exact notify_3b h xcalls xopn xop xobj xarg xfar xcode xval xflag xsaved xsince hx hW hD true kind idx oth code val hop hll rfl (hb1 rfl)
  exact notify_x h xcalls xopn xop xobj xarg xfar xcode xval xflag xsaved xsince hx hW hD bo kind idx act oth code val hop (ne a8) (ne a3) (nn a3)
set_option maxHeartbeats 8000000 in
theorem act_op2_y {w : World} {p : RPl} {s : RS} (h : RsAt w p s) {t o : Nat} (xcalls : Int) (xarg xfar xcode xval : Int) (xflag : Bool) (xsaved xsince : Int) (hx : s.T[t]? = some ⟨xcalls, true, 2, (o : Int), xarg, xfar, xcode, xval, xflag, xsaved, xsince⟩) (hW : s.W[o]? = some (t : Int)) {dep : Int} (hD : s.D[o]? = some dep) (hva : validR s 2 (o : Int) xarg) (hf5 : (xfar == 5) = false) (kind idx act oth code val : Int)  :
    Calls Try.prog 44 #[rspV p, evV ⟨kind, (t : Int), idx, act, (o : Int), oth, code, val⟩] w (RHand w p s (ActR s t ⟨xcalls, true, 2, (o : Int), xarg, xfar, xcode, xval, xflag, xsaved, xsince⟩ o (t : Int) dep ⟨kind, (t : Int), idx, act, (o : Int), oth, code, val⟩)) := by
  have HX := Lib.hid hx
  have HW := Lib.hid hW
  have HD := Lib.hid hD
  have HVA := Lib.hid hva
  have it := idx_rthrs p.T s.T.length p.cT t (List.getElem?_eq_some_iff.1 hx).1
  have iw := idx_rints p.W s.W.length p.cW o (List.getElem?_eq_some_iff.1 hW).1
  have id' := idx_rints p.D s.D.length p.cD o (List.getElem?_eq_some_iff.1 hD).1
  have HF0 := Lib.hid (RFr.boxed h ⟨kind, (t : Int), idx, act, (o : Int), oth, code, val⟩)
  clear h hx hW hD hva
  go_enter Try.func44, Try.ntmps44
  go_upto_region 1 with fail
  generalize hWW : w.alloc _ = W at HF0 ⊢
  obtain ⟨bx, hbx⟩ : ∃ bx, bx = w.heap.size := ⟨_, rfl⟩
  rw [← hbx] at HF0 ⊢
  clear hbx hWW
  obtain ⟨⟨c0, c1, c2, c3⟩, ⟨b0, b1, b2, b3, b4, b5, b6, b7⟩⟩ := HF0.out.cells
  obtain ⟨t0, t1, t2, t3, t4, t5, t6, t7, t8, t9, t10⟩ := HF0.out.rs.t HX.out
  have ow := HF0.out.rs.ow.cell HW.out
  have od := HF0.out.rs.dp.cell HD.out
  dsimp only at b0 b1 b2 b3 b4 b5 b6 b7 t0 t1 t2 t3 t4 t5 t6 t7 t8 t9 t10
  have nbT : ¬ bx = p.T := fun e => HF0.out.out (.inr (.inr (.inr e)))
  have nbT' : ¬ p.T = bx := fun e => nbT e.symm
  go_quiet (fail)
  generalize hq : World.drewN _ _ = W2
  have HF1 := Lib.hid (show RFr w W2 p s bx _ from by rw [← hq]; exact HF0.out.drewN _)
  clear hq HF0
  clear c0 c1 c2 c3 b0 b1 b2 b3 b4 b5 b6 b7 t0 t1 t2 t3 t4 t5 t6 t7 t8 t9 t10 ow od
  obtain ⟨⟨c0, c1, c2, c3⟩, ⟨b0, b1, b2, b3, b4, b5, b6, b7⟩⟩ := HF1.out.cells
  obtain ⟨t0, t1, t2, t3, t4, t5, t6, t7, t8, t9, t10⟩ := HF1.out.rs.t HX.out
  have ow := HF1.out.rs.ow.cell HW.out
  have od := HF1.out.rs.dp.cell HD.out
  dsimp only at b0 b1 b2 b3 b4 b5 b6 b7 t0 t1 t2 t3 t4 t5 t6 t7 t8 t9 t10
  have HWr := Lib.hid (fun V (hV : Below W2.heap.size W2 V) => wrong_no (HF1.out.below hV).rs HVA.out)
  have SK := Lib.hid (show ∀ V, Below W2.heap.size W2 V → V.cell? ⟨bx, 4, none⟩ = some (.int .i64 (o : Int)) ∧ V.cell? ⟨p.T, t * 11 + 1, none⟩ = some (.bool true) ∧ V.cell? ⟨p.T, t * 11 + 2, none⟩ = some (.int .i64 2) ∧ V.cell? ⟨p.T, t * 11 + 3, none⟩ = some (.int .i64 (o : Int)) ∧ V.cell? ⟨p.T, t * 11 + 4, none⟩ = some (.int .i64 xarg) ∧ V.cell? ⟨p.T, t * 11 + 5, none⟩ = some (.int .i64 xfar) from fun V hV => by have z := HF1.out.below hV; have q := z.rs.t HX.out; exact ⟨(evAt z.ev).b4, q.opn, q.op, q.obj, q.arg, q.far⟩)
  go_upto_region 2 with fail
  have bc := rdrew W2
  go_region_held3 (fun (V : World) => V.cell? ⟨bx, 4, none⟩ = some (.int .i64 (o : Int)) ∧ V.cell? ⟨p.T, t * 11 + 1, none⟩ = some (.bool true) ∧ V.cell? ⟨p.T, t * 11 + 2, none⟩ = some (.int .i64 2) ∧ V.cell? ⟨p.T, t * 11 + 3, none⟩ = some (.int .i64 (o : Int)) ∧ V.cell? ⟨p.T, t * 11 + 4, none⟩ = some (.int .i64 xarg) ∧ V.cell? ⟨p.T, t * 11 + 5, none⟩ = some (.int .i64 xfar)) (exact SK.out _ bc) ((go_at_call 45; (with_reducible refine (HWr.out _ bc).mono ?_); rintro e3 w3 ⟨rfl, b3'⟩; replace bc := Below.trans bc (Below.mono b3' bc.size)))
  have HF2 := Lib.hid (HF1.out.below bc)
  clear c0 c1 c2 c3 b0 b1 b2 b3 b4 b5 b6 b7 t0 t1 t2 t3 t4 t5 t6 t7 t8 t9 t10 ow od
  clear SK HWr bc b3' HF1
  obtain ⟨⟨c0, c1, c2, c3⟩, ⟨b0, b1, b2, b3, b4, b5, b6, b7⟩⟩ := HF2.out.cells
  obtain ⟨t0, t1, t2, t3, t4, t5, t6, t7, t8, t9, t10⟩ := HF2.out.rs.t HX.out
  have ow := HF2.out.rs.ow.cell HW.out
  have od := HF2.out.rs.dp.cell HD.out
  dsimp only at b0 b1 b2 b3 b4 b5 b6 b7 t0 t1 t2 t3 t4 t5 t6 t7 t8 t9 t10
  go_upto_region 5 with fail
  go_quiet (fail)
  generalize hq : World.drewN _ _ = W4
  have HF4 := Lib.hid (show RFr w W4 p s bx _ from by rw [← hq]; exact HF2.out.drewN _)
  clear hq HF2
  clear c0 c1 c2 c3 b0 b1 b2 b3 b4 b5 b6 b7 t0 t1 t2 t3 t4 t5 t6 t7 t8 t9 t10 ow od
  obtain ⟨⟨c0, c1, c2, c3⟩, ⟨b0, b1, b2, b3, b4, b5, b6, b7⟩⟩ := HF4.out.cells
  obtain ⟨t0, t1, t2, t3, t4, t5, t6, t7, t8, t9, t10⟩ := HF4.out.rs.t HX.out
  have ow := HF4.out.rs.ow.cell HW.out
  have od := HF4.out.rs.dp.cell HD.out
  dsimp only at b0 b1 b2 b3 b4 b5 b6 b7 t0 t1 t2 t3 t4 t5 t6 t7 t8 t9 t10
  have HC := Lib.hid (rwait_any HF4.out.rs xcalls true 2 (o : Int) xarg xfar xcode xval xflag xsaved xsince HX.out HW.out HD.out true (fun _ => rfl) (fun h => by cases h) (.inl rfl) kind idx act oth code val)
  go_wp2_with (go_at_call 66; (with_reducible refine (HC.out).mono ?_); rintro e9 w9 hr9; obtain ⟨b9, rfl, hb9⟩ := hr9.b; clear hr9)
  go_ret
  exact hb9.hand HF4.out.kp
set_option maxHeartbeats 8000000 in
theorem act_op2_n {w : World} {p : RPl} {s : RS} (h : RsAt w p s) {t o : Nat} (xcalls : Int) (xarg xfar xcode xval : Int) (xflag : Bool) (xsaved xsince : Int) (hx : s.T[t]? = some ⟨xcalls, true, 2, (o : Int), xarg, xfar, xcode, xval, xflag, xsaved, xsince⟩) {own : Int} (hW : s.W[o]? = some own) {dep : Int} (hD : s.D[o]? = some dep) (hva : validR s 2 (o : Int) xarg) (hf5 : (xfar == 5) = false) (kind idx act oth code val : Int)  (hwb : (own == (t : Int)) = false) :
    Calls Try.prog 44 #[rspV p, evV ⟨kind, (t : Int), idx, act, (o : Int), oth, code, val⟩] w (RHand w p s (ActR s t ⟨xcalls, true, 2, (o : Int), xarg, xfar, xcode, xval, xflag, xsaved, xsince⟩ o own dep ⟨kind, (t : Int), idx, act, (o : Int), oth, code, val⟩)) := by
  have HX := Lib.hid hx
  have HW := Lib.hid hW
  have HD := Lib.hid hD
  have HVA := Lib.hid hva
  have it := idx_rthrs p.T s.T.length p.cT t (List.getElem?_eq_some_iff.1 hx).1
  have iw := idx_rints p.W s.W.length p.cW o (List.getElem?_eq_some_iff.1 hW).1
  have id' := idx_rints p.D s.D.length p.cD o (List.getElem?_eq_some_iff.1 hD).1
  have HF0 := Lib.hid (RFr.boxed h ⟨kind, (t : Int), idx, act, (o : Int), oth, code, val⟩)
  clear h hx hW hD hva
  go_enter Try.func44, Try.ntmps44
  go_upto_region 1 with fail
  generalize hWW : w.alloc _ = W at HF0 ⊢
  obtain ⟨bx, hbx⟩ : ∃ bx, bx = w.heap.size := ⟨_, rfl⟩
  rw [← hbx] at HF0 ⊢
  clear hbx hWW
  obtain ⟨⟨c0, c1, c2, c3⟩, ⟨b0, b1, b2, b3, b4, b5, b6, b7⟩⟩ := HF0.out.cells
  obtain ⟨t0, t1, t2, t3, t4, t5, t6, t7, t8, t9, t10⟩ := HF0.out.rs.t HX.out
  have ow := HF0.out.rs.ow.cell HW.out
  have od := HF0.out.rs.dp.cell HD.out
  dsimp only at b0 b1 b2 b3 b4 b5 b6 b7 t0 t1 t2 t3 t4 t5 t6 t7 t8 t9 t10
  have nbT : ¬ bx = p.T := fun e => HF0.out.out (.inr (.inr (.inr e)))
  have nbT' : ¬ p.T = bx := fun e => nbT e.symm
  go_quiet (fail)
  generalize hq : World.drewN _ _ = W2
  have HF1 := Lib.hid (show RFr w W2 p s bx _ from by rw [← hq]; exact HF0.out.drewN _)
  clear hq HF0
  clear c0 c1 c2 c3 b0 b1 b2 b3 b4 b5 b6 b7 t0 t1 t2 t3 t4 t5 t6 t7 t8 t9 t10 ow od
  obtain ⟨⟨c0, c1, c2, c3⟩, ⟨b0, b1, b2, b3, b4, b5, b6, b7⟩⟩ := HF1.out.cells
  obtain ⟨t0, t1, t2, t3, t4, t5, t6, t7, t8, t9, t10⟩ := HF1.out.rs.t HX.out
  have ow := HF1.out.rs.ow.cell HW.out
  have od := HF1.out.rs.dp.cell HD.out
  dsimp only at b0 b1 b2 b3 b4 b5 b6 b7 t0 t1 t2 t3 t4 t5 t6 t7 t8 t9 t10
  have HWr := Lib.hid (fun V (hV : Below W2.heap.size W2 V) => wrong_no (HF1.out.below hV).rs HVA.out)
  have SK := Lib.hid (show ∀ V, Below W2.heap.size W2 V → V.cell? ⟨bx, 4, none⟩ = some (.int .i64 (o : Int)) ∧ V.cell? ⟨p.T, t * 11 + 1, none⟩ = some (.bool true) ∧ V.cell? ⟨p.T, t * 11 + 2, none⟩ = some (.int .i64 2) ∧ V.cell? ⟨p.T, t * 11 + 3, none⟩ = some (.int .i64 (o : Int)) ∧ V.cell? ⟨p.T, t * 11 + 4, none⟩ = some (.int .i64 xarg) ∧ V.cell? ⟨p.T, t * 11 + 5, none⟩ = some (.int .i64 xfar) from fun V hV => by have z := HF1.out.below hV; have q := z.rs.t HX.out; exact ⟨(evAt z.ev).b4, q.opn, q.op, q.obj, q.arg, q.far⟩)
  go_upto_region 2 with fail
  have bc := rdrew W2
  go_region_held3 (fun (V : World) => V.cell? ⟨bx, 4, none⟩ = some (.int .i64 (o : Int)) ∧ V.cell? ⟨p.T, t * 11 + 1, none⟩ = some (.bool true) ∧ V.cell? ⟨p.T, t * 11 + 2, none⟩ = some (.int .i64 2) ∧ V.cell? ⟨p.T, t * 11 + 3, none⟩ = some (.int .i64 (o : Int)) ∧ V.cell? ⟨p.T, t * 11 + 4, none⟩ = some (.int .i64 xarg) ∧ V.cell? ⟨p.T, t * 11 + 5, none⟩ = some (.int .i64 xfar)) (exact SK.out _ bc) ((go_at_call 45; (with_reducible refine (HWr.out _ bc).mono ?_); rintro e3 w3 ⟨rfl, b3'⟩; replace bc := Below.trans bc (Below.mono b3' bc.size)))
  have HF2 := Lib.hid (HF1.out.below bc)
  clear c0 c1 c2 c3 b0 b1 b2 b3 b4 b5 b6 b7 t0 t1 t2 t3 t4 t5 t6 t7 t8 t9 t10 ow od
  clear SK HWr bc b3' HF1
  obtain ⟨⟨c0, c1, c2, c3⟩, ⟨b0, b1, b2, b3, b4, b5, b6, b7⟩⟩ := HF2.out.cells
  obtain ⟨t0, t1, t2, t3, t4, t5, t6, t7, t8, t9, t10⟩ := HF2.out.rs.t HX.out
  have ow := HF2.out.rs.ow.cell HW.out
  have od := HF2.out.rs.dp.cell HD.out
  dsimp only at b0 b1 b2 b3 b4 b5 b6 b7 t0 t1 t2 t3 t4 t5 t6 t7 t8 t9 t10
  go_upto_region 5 with fail
  go_quiet (fail)
  generalize hq : World.drewN _ _ = W4
  have HF4 := Lib.hid (show RFr w W4 p s bx _ from by rw [← hq]; exact HF2.out.drewN _)
  clear hq HF2
  clear c0 c1 c2 c3 b0 b1 b2 b3 b4 b5 b6 b7 t0 t1 t2 t3 t4 t5 t6 t7 t8 t9 t10 ow od
  obtain ⟨⟨c0, c1, c2, c3⟩, ⟨b0, b1, b2, b3, b4, b5, b6, b7⟩⟩ := HF4.out.cells
  obtain ⟨t0, t1, t2, t3, t4, t5, t6, t7, t8, t9, t10⟩ := HF4.out.rs.t HX.out
  have ow := HF4.out.rs.ow.cell HW.out
  have od := HF4.out.rs.dp.cell HD.out
  dsimp only at b0 b1 b2 b3 b4 b5 b6 b7 t0 t1 t2 t3 t4 t5 t6 t7 t8 t9 t10
  have hwn := Lib.hid (beq_eq_false_iff_ne.1 hwb)
  have HC := Lib.hid (rwait_any HF4.out.rs xcalls true 2 (o : Int) xarg xfar xcode xval xflag xsaved xsince HX.out HW.out HD.out false (fun h => by cases h) (fun _ => hwn.out) (.inl rfl) kind idx act oth code val)
  go_wp2_with (go_at_call 66; (with_reducible refine (HC.out).mono ?_); rintro e9 w9 hr9; obtain ⟨b9, rfl, hb9⟩ := hr9.b; clear hr9)
  go_ret
  exact hb9.hand HF4.out.kp
set_option maxHeartbeats 8000000 in
theorem act_op3_y {w : World} {p : RPl} {s : RS} (h : RsAt w p s) {t o : Nat} (xcalls : Int) (xarg xfar xcode xval : Int) (xflag : Bool) (xsaved xsince : Int) (hx : s.T[t]? = some ⟨xcalls, true, 3, (o : Int), xarg, xfar, xcode, xval, xflag, xsaved, xsince⟩) (hW : s.W[o]? = some (t : Int)) {dep : Int} (hD : s.D[o]? = some dep) (hva : validR s 3 (o : Int) xarg) (hf5 : (xfar == 5) = false) (kind idx act oth code val : Int)  :
    Calls Try.prog 44 #[rspV p, evV ⟨kind, (t : Int), idx, act, (o : Int), oth, code, val⟩] w (RHand w p s (ActR s t ⟨xcalls, true, 3, (o : Int), xarg, xfar, xcode, xval, xflag, xsaved, xsince⟩ o (t : Int) dep ⟨kind, (t : Int), idx, act, (o : Int), oth, code, val⟩)) := by
  have HX := Lib.hid hx
  have HW := Lib.hid hW
  have HD := Lib.hid hD
  have HVA := Lib.hid hva
  have it := idx_rthrs p.T s.T.length p.cT t (List.getElem?_eq_some_iff.1 hx).1
  have iw := idx_rints p.W s.W.length p.cW o (List.getElem?_eq_some_iff.1 hW).1
  have id' := idx_rints p.D s.D.length p.cD o (List.getElem?_eq_some_iff.1 hD).1
  have HF0 := Lib.hid (RFr.boxed h ⟨kind, (t : Int), idx, act, (o : Int), oth, code, val⟩)
  clear h hx hW hD hva
  go_enter Try.func44, Try.ntmps44
  go_upto_region 1 with fail
  generalize hWW : w.alloc _ = W at HF0 ⊢
  obtain ⟨bx, hbx⟩ : ∃ bx, bx = w.heap.size := ⟨_, rfl⟩
  rw [← hbx] at HF0 ⊢
  clear hbx hWW
  obtain ⟨⟨c0, c1, c2, c3⟩, ⟨b0, b1, b2, b3, b4, b5, b6, b7⟩⟩ := HF0.out.cells
  obtain ⟨t0, t1, t2, t3, t4, t5, t6, t7, t8, t9, t10⟩ := HF0.out.rs.t HX.out
  have ow := HF0.out.rs.ow.cell HW.out
  have od := HF0.out.rs.dp.cell HD.out
  dsimp only at b0 b1 b2 b3 b4 b5 b6 b7 t0 t1 t2 t3 t4 t5 t6 t7 t8 t9 t10
  have nbT : ¬ bx = p.T := fun e => HF0.out.out (.inr (.inr (.inr e)))
  have nbT' : ¬ p.T = bx := fun e => nbT e.symm
  go_quiet (fail)
  generalize hq : World.drewN _ _ = W2
  have HF1 := Lib.hid (show RFr w W2 p s bx _ from by rw [← hq]; exact HF0.out.drewN _)
  clear hq HF0
  clear c0 c1 c2 c3 b0 b1 b2 b3 b4 b5 b6 b7 t0 t1 t2 t3 t4 t5 t6 t7 t8 t9 t10 ow od
  obtain ⟨⟨c0, c1, c2, c3⟩, ⟨b0, b1, b2, b3, b4, b5, b6, b7⟩⟩ := HF1.out.cells
  obtain ⟨t0, t1, t2, t3, t4, t5, t6, t7, t8, t9, t10⟩ := HF1.out.rs.t HX.out
  have ow := HF1.out.rs.ow.cell HW.out
  have od := HF1.out.rs.dp.cell HD.out
  dsimp only at b0 b1 b2 b3 b4 b5 b6 b7 t0 t1 t2 t3 t4 t5 t6 t7 t8 t9 t10
  have HWr := Lib.hid (fun V (hV : Below W2.heap.size W2 V) => wrong_no (HF1.out.below hV).rs HVA.out)
  have SK := Lib.hid (show ∀ V, Below W2.heap.size W2 V → V.cell? ⟨bx, 4, none⟩ = some (.int .i64 (o : Int)) ∧ V.cell? ⟨p.T, t * 11 + 1, none⟩ = some (.bool true) ∧ V.cell? ⟨p.T, t * 11 + 2, none⟩ = some (.int .i64 3) ∧ V.cell? ⟨p.T, t * 11 + 3, none⟩ = some (.int .i64 (o : Int)) ∧ V.cell? ⟨p.T, t * 11 + 4, none⟩ = some (.int .i64 xarg) ∧ V.cell? ⟨p.T, t * 11 + 5, none⟩ = some (.int .i64 xfar) from fun V hV => by have z := HF1.out.below hV; have q := z.rs.t HX.out; exact ⟨(evAt z.ev).b4, q.opn, q.op, q.obj, q.arg, q.far⟩)
  go_upto_region 2 with fail
  have bc := rdrew W2
  go_region_held3 (fun (V : World) => V.cell? ⟨bx, 4, none⟩ = some (.int .i64 (o : Int)) ∧ V.cell? ⟨p.T, t * 11 + 1, none⟩ = some (.bool true) ∧ V.cell? ⟨p.T, t * 11 + 2, none⟩ = some (.int .i64 3) ∧ V.cell? ⟨p.T, t * 11 + 3, none⟩ = some (.int .i64 (o : Int)) ∧ V.cell? ⟨p.T, t * 11 + 4, none⟩ = some (.int .i64 xarg) ∧ V.cell? ⟨p.T, t * 11 + 5, none⟩ = some (.int .i64 xfar)) (exact SK.out _ bc) ((go_at_call 45; (with_reducible refine (HWr.out _ bc).mono ?_); rintro e3 w3 ⟨rfl, b3'⟩; replace bc := Below.trans bc (Below.mono b3' bc.size)))
  have HF2 := Lib.hid (HF1.out.below bc)
  clear c0 c1 c2 c3 b0 b1 b2 b3 b4 b5 b6 b7 t0 t1 t2 t3 t4 t5 t6 t7 t8 t9 t10 ow od
  clear SK HWr bc b3' HF1
  obtain ⟨⟨c0, c1, c2, c3⟩, ⟨b0, b1, b2, b3, b4, b5, b6, b7⟩⟩ := HF2.out.cells
  obtain ⟨t0, t1, t2, t3, t4, t5, t6, t7, t8, t9, t10⟩ := HF2.out.rs.t HX.out
  have ow := HF2.out.rs.ow.cell HW.out
  have od := HF2.out.rs.dp.cell HD.out
  dsimp only at b0 b1 b2 b3 b4 b5 b6 b7 t0 t1 t2 t3 t4 t5 t6 t7 t8 t9 t10
  go_upto_region 5 with fail
  go_quiet (fail)
  generalize hq : World.drewN _ _ = W4
  have HF4 := Lib.hid (show RFr w W4 p s bx _ from by rw [← hq]; exact HF2.out.drewN _)
  clear hq HF2
  clear c0 c1 c2 c3 b0 b1 b2 b3 b4 b5 b6 b7 t0 t1 t2 t3 t4 t5 t6 t7 t8 t9 t10 ow od
  obtain ⟨⟨c0, c1, c2, c3⟩, ⟨b0, b1, b2, b3, b4, b5, b6, b7⟩⟩ := HF4.out.cells
  obtain ⟨t0, t1, t2, t3, t4, t5, t6, t7, t8, t9, t10⟩ := HF4.out.rs.t HX.out
  have ow := HF4.out.rs.ow.cell HW.out
  have od := HF4.out.rs.dp.cell HD.out
  dsimp only at b0 b1 b2 b3 b4 b5 b6 b7 t0 t1 t2 t3 t4 t5 t6 t7 t8 t9 t10
  have HC := Lib.hid (rwait_any HF4.out.rs xcalls true 3 (o : Int) xarg xfar xcode xval xflag xsaved xsince HX.out HW.out HD.out true (fun _ => rfl) (fun h => by cases h) (.inr rfl) kind idx act oth code val)
  go_wp2_with (go_at_call 66; (with_reducible refine (HC.out).mono ?_); rintro e9 w9 hr9; obtain ⟨b9, rfl, hb9⟩ := hr9.b; clear hr9)
  go_ret
  exact hb9.hand HF4.out.kp
set_option maxHeartbeats 8000000 in
theorem act_op3_n {w : World} {p : RPl} {s : RS} (h : RsAt w p s) {t o : Nat} (xcalls : Int) (xarg xfar xcode xval : Int) (xflag : Bool) (xsaved xsince : Int) (hx : s.T[t]? = some ⟨xcalls, true, 3, (o : Int), xarg, xfar, xcode, xval, xflag, xsaved, xsince⟩) {own : Int} (hW : s.W[o]? = some own) {dep : Int} (hD : s.D[o]? = some dep) (hva : validR s 3 (o : Int) xarg) (hf5 : (xfar == 5) = false) (kind idx act oth code val : Int)  (hwb : (own == (t : Int)) = false) :
    Calls Try.prog 44 #[rspV p, evV ⟨kind, (t : Int), idx, act, (o : Int), oth, code, val⟩] w (RHand w p s (ActR s t ⟨xcalls, true, 3, (o : Int), xarg, xfar, xcode, xval, xflag, xsaved, xsince⟩ o own dep ⟨kind, (t : Int), idx, act, (o : Int), oth, code, val⟩)) := by
  have HX := Lib.hid hx
  have HW := Lib.hid hW
  have HD := Lib.hid hD
  have HVA := Lib.hid hva
  have it := idx_rthrs p.T s.T.length p.cT t (List.getElem?_eq_some_iff.1 hx).1
  have iw := idx_rints p.W s.W.length p.cW o (List.getElem?_eq_some_iff.1 hW).1
  have id' := idx_rints p.D s.D.length p.cD o (List.getElem?_eq_some_iff.1 hD).1
  have HF0 := Lib.hid (RFr.boxed h ⟨kind, (t : Int), idx, act, (o : Int), oth, code, val⟩)
  clear h hx hW hD hva
  go_enter Try.func44, Try.ntmps44
  go_upto_region 1 with fail
  generalize hWW : w.alloc _ = W at HF0 ⊢
  obtain ⟨bx, hbx⟩ : ∃ bx, bx = w.heap.size := ⟨_, rfl⟩
  rw [← hbx] at HF0 ⊢
  clear hbx hWW
  obtain ⟨⟨c0, c1, c2, c3⟩, ⟨b0, b1, b2, b3, b4, b5, b6, b7⟩⟩ := HF0.out.cells
  obtain ⟨t0, t1, t2, t3, t4, t5, t6, t7, t8, t9, t10⟩ := HF0.out.rs.t HX.out
  have ow := HF0.out.rs.ow.cell HW.out
  have od := HF0.out.rs.dp.cell HD.out
  dsimp only at b0 b1 b2 b3 b4 b5 b6 b7 t0 t1 t2 t3 t4 t5 t6 t7 t8 t9 t10
  have nbT : ¬ bx = p.T := fun e => HF0.out.out (.inr (.inr (.inr e)))
  have nbT' : ¬ p.T = bx := fun e => nbT e.symm
  go_quiet (fail)
  generalize hq : World.drewN _ _ = W2
  have HF1 := Lib.hid (show RFr w W2 p s bx _ from by rw [← hq]; exact HF0.out.drewN _)
  clear hq HF0
  clear c0 c1 c2 c3 b0 b1 b2 b3 b4 b5 b6 b7 t0 t1 t2 t3 t4 t5 t6 t7 t8 t9 t10 ow od
  obtain ⟨⟨c0, c1, c2, c3⟩, ⟨b0, b1, b2, b3, b4, b5, b6, b7⟩⟩ := HF1.out.cells
  obtain ⟨t0, t1, t2, t3, t4, t5, t6, t7, t8, t9, t10⟩ := HF1.out.rs.t HX.out
  have ow := HF1.out.rs.ow.cell HW.out
  have od := HF1.out.rs.dp.cell HD.out
  dsimp only at b0 b1 b2 b3 b4 b5 b6 b7 t0 t1 t2 t3 t4 t5 t6 t7 t8 t9 t10
  have HWr := Lib.hid (fun V (hV : Below W2.heap.size W2 V) => wrong_no (HF1.out.below hV).rs HVA.out)
  have SK := Lib.hid (show ∀ V, Below W2.heap.size W2 V → V.cell? ⟨bx, 4, none⟩ = some (.int .i64 (o : Int)) ∧ V.cell? ⟨p.T, t * 11 + 1, none⟩ = some (.bool true) ∧ V.cell? ⟨p.T, t * 11 + 2, none⟩ = some (.int .i64 3) ∧ V.cell? ⟨p.T, t * 11 + 3, none⟩ = some (.int .i64 (o : Int)) ∧ V.cell? ⟨p.T, t * 11 + 4, none⟩ = some (.int .i64 xarg) ∧ V.cell? ⟨p.T, t * 11 + 5, none⟩ = some (.int .i64 xfar) from fun V hV => by have z := HF1.out.below hV; have q := z.rs.t HX.out; exact ⟨(evAt z.ev).b4, q.opn, q.op, q.obj, q.arg, q.far⟩)
  go_upto_region 2 with fail
  have bc := rdrew W2
  go_region_held3 (fun (V : World) => V.cell? ⟨bx, 4, none⟩ = some (.int .i64 (o : Int)) ∧ V.cell? ⟨p.T, t * 11 + 1, none⟩ = some (.bool true) ∧ V.cell? ⟨p.T, t * 11 + 2, none⟩ = some (.int .i64 3) ∧ V.cell? ⟨p.T, t * 11 + 3, none⟩ = some (.int .i64 (o : Int)) ∧ V.cell? ⟨p.T, t * 11 + 4, none⟩ = some (.int .i64 xarg) ∧ V.cell? ⟨p.T, t * 11 + 5, none⟩ = some (.int .i64 xfar)) (exact SK.out _ bc) ((go_at_call 45; (with_reducible refine (HWr.out _ bc).mono ?_); rintro e3 w3 ⟨rfl, b3'⟩; replace bc := Below.trans bc (Below.mono b3' bc.size)))
  have HF2 := Lib.hid (HF1.out.below bc)
  clear c0 c1 c2 c3 b0 b1 b2 b3 b4 b5 b6 b7 t0 t1 t2 t3 t4 t5 t6 t7 t8 t9 t10 ow od
  clear SK HWr bc b3' HF1
  obtain ⟨⟨c0, c1, c2, c3⟩, ⟨b0, b1, b2, b3, b4, b5, b6, b7⟩⟩ := HF2.out.cells
  obtain ⟨t0, t1, t2, t3, t4, t5, t6, t7, t8, t9, t10⟩ := HF2.out.rs.t HX.out
  have ow := HF2.out.rs.ow.cell HW.out
  have od := HF2.out.rs.dp.cell HD.out
  dsimp only at b0 b1 b2 b3 b4 b5 b6 b7 t0 t1 t2 t3 t4 t5 t6 t7 t8 t9 t10
  go_upto_region 5 with fail
  go_quiet (fail)
  generalize hq : World.drewN _ _ = W4
  have HF4 := Lib.hid (show RFr w W4 p s bx _ from by rw [← hq]; exact HF2.out.drewN _)
  clear hq HF2
  clear c0 c1 c2 c3 b0 b1 b2 b3 b4 b5 b6 b7 t0 t1 t2 t3 t4 t5 t6 t7 t8 t9 t10 ow od
  obtain ⟨⟨c0, c1, c2, c3⟩, ⟨b0, b1, b2, b3, b4, b5, b6, b7⟩⟩ := HF4.out.cells
  obtain ⟨t0, t1, t2, t3, t4, t5, t6, t7, t8, t9, t10⟩ := HF4.out.rs.t HX.out
  have ow := HF4.out.rs.ow.cell HW.out
  have od := HF4.out.rs.dp.cell HD.out
  dsimp only at b0 b1 b2 b3 b4 b5 b6 b7 t0 t1 t2 t3 t4 t5 t6 t7 t8 t9 t10
  have hwn := Lib.hid (beq_eq_false_iff_ne.1 hwb)
  have HC := Lib.hid (rwait_any HF4.out.rs xcalls true 3 (o : Int) xarg xfar xcode xval xflag xsaved xsince HX.out HW.out HD.out false (fun h => by cases h) (fun _ => hwn.out) (.inr rfl) kind idx act oth code val)
  go_wp2_with (go_at_call 66; (with_reducible refine (HC.out).mono ?_); rintro e9 w9 hr9; obtain ⟨b9, rfl, hb9⟩ := hr9.b; clear hr9)
  go_ret
  exact hb9.hand HF4.out.kp
set_option maxHeartbeats 8000000 in
theorem act_op4_y {w : World} {p : RPl} {s : RS} (h : RsAt w p s) {t o : Nat} (xcalls : Int) (xarg xfar xcode xval : Int) (xflag : Bool) (xsaved xsince : Int) (hx : s.T[t]? = some ⟨xcalls, true, 4, (o : Int), xarg, xfar, xcode, xval, xflag, xsaved, xsince⟩) (hW : s.W[o]? = some (t : Int)) {dep : Int} (hD : s.D[o]? = some dep) (hva : validR s 4 (o : Int) xarg) (hf5 : (xfar == 5) = false) (kind idx act oth code val : Int) (hll : s.T.length ≤ 100000) :
    Calls Try.prog 44 #[rspV p, evV ⟨kind, (t : Int), idx, act, (o : Int), oth, code, val⟩] w (RHand w p s (ActR s t ⟨xcalls, true, 4, (o : Int), xarg, xfar, xcode, xval, xflag, xsaved, xsince⟩ o (t : Int) dep ⟨kind, (t : Int), idx, act, (o : Int), oth, code, val⟩)) := by
  have HX := Lib.hid hx
  have HW := Lib.hid hW
  have HD := Lib.hid hD
  have HVA := Lib.hid hva
  have it := idx_rthrs p.T s.T.length p.cT t (List.getElem?_eq_some_iff.1 hx).1
  have iw := idx_rints p.W s.W.length p.cW o (List.getElem?_eq_some_iff.1 hW).1
  have id' := idx_rints p.D s.D.length p.cD o (List.getElem?_eq_some_iff.1 hD).1
  have HF0 := Lib.hid (RFr.boxed h ⟨kind, (t : Int), idx, act, (o : Int), oth, code, val⟩)
  clear h hx hW hD hva
  go_enter Try.func44, Try.ntmps44
  go_upto_region 1 with fail
  generalize hWW : w.alloc _ = W at HF0 ⊢
  obtain ⟨bx, hbx⟩ : ∃ bx, bx = w.heap.size := ⟨_, rfl⟩
  rw [← hbx] at HF0 ⊢
  clear hbx hWW
  obtain ⟨⟨c0, c1, c2, c3⟩, ⟨b0, b1, b2, b3, b4, b5, b6, b7⟩⟩ := HF0.out.cells
  obtain ⟨t0, t1, t2, t3, t4, t5, t6, t7, t8, t9, t10⟩ := HF0.out.rs.t HX.out
  have ow := HF0.out.rs.ow.cell HW.out
  have od := HF0.out.rs.dp.cell HD.out
  dsimp only at b0 b1 b2 b3 b4 b5 b6 b7 t0 t1 t2 t3 t4 t5 t6 t7 t8 t9 t10
  have nbT : ¬ bx = p.T := fun e => HF0.out.out (.inr (.inr (.inr e)))
  have nbT' : ¬ p.T = bx := fun e => nbT e.symm
  go_quiet (fail)
  generalize hq : World.drewN _ _ = W2
  have HF1 := Lib.hid (show RFr w W2 p s bx _ from by rw [← hq]; exact HF0.out.drewN _)
  clear hq HF0
  clear c0 c1 c2 c3 b0 b1 b2 b3 b4 b5 b6 b7 t0 t1 t2 t3 t4 t5 t6 t7 t8 t9 t10 ow od
  obtain ⟨⟨c0, c1, c2, c3⟩, ⟨b0, b1, b2, b3, b4, b5, b6, b7⟩⟩ := HF1.out.cells
  obtain ⟨t0, t1, t2, t3, t4, t5, t6, t7, t8, t9, t10⟩ := HF1.out.rs.t HX.out
  have ow := HF1.out.rs.ow.cell HW.out
  have od := HF1.out.rs.dp.cell HD.out
  dsimp only at b0 b1 b2 b3 b4 b5 b6 b7 t0 t1 t2 t3 t4 t5 t6 t7 t8 t9 t10
  have HWr := Lib.hid (fun V (hV : Below W2.heap.size W2 V) => wrong_no (HF1.out.below hV).rs HVA.out)
  have SK := Lib.hid (show ∀ V, Below W2.heap.size W2 V → V.cell? ⟨bx, 4, none⟩ = some (.int .i64 (o : Int)) ∧ V.cell? ⟨p.T, t * 11 + 1, none⟩ = some (.bool true) ∧ V.cell? ⟨p.T, t * 11 + 2, none⟩ = some (.int .i64 4) ∧ V.cell? ⟨p.T, t * 11 + 3, none⟩ = some (.int .i64 (o : Int)) ∧ V.cell? ⟨p.T, t * 11 + 4, none⟩ = some (.int .i64 xarg) ∧ V.cell? ⟨p.T, t * 11 + 5, none⟩ = some (.int .i64 xfar) from fun V hV => by have z := HF1.out.below hV; have q := z.rs.t HX.out; exact ⟨(evAt z.ev).b4, q.opn, q.op, q.obj, q.arg, q.far⟩)
  go_upto_region 2 with fail
  have bc := rdrew W2
  go_region_held3 (fun (V : World) => V.cell? ⟨bx, 4, none⟩ = some (.int .i64 (o : Int)) ∧ V.cell? ⟨p.T, t * 11 + 1, none⟩ = some (.bool true) ∧ V.cell? ⟨p.T, t * 11 + 2, none⟩ = some (.int .i64 4) ∧ V.cell? ⟨p.T, t * 11 + 3, none⟩ = some (.int .i64 (o : Int)) ∧ V.cell? ⟨p.T, t * 11 + 4, none⟩ = some (.int .i64 xarg) ∧ V.cell? ⟨p.T, t * 11 + 5, none⟩ = some (.int .i64 xfar)) (exact SK.out _ bc) ((go_at_call 45; (with_reducible refine (HWr.out _ bc).mono ?_); rintro e3 w3 ⟨rfl, b3'⟩; replace bc := Below.trans bc (Below.mono b3' bc.size)))
  have HF2 := Lib.hid (HF1.out.below bc)
  clear c0 c1 c2 c3 b0 b1 b2 b3 b4 b5 b6 b7 t0 t1 t2 t3 t4 t5 t6 t7 t8 t9 t10 ow od
  clear SK HWr bc b3' HF1
  obtain ⟨⟨c0, c1, c2, c3⟩, ⟨b0, b1, b2, b3, b4, b5, b6, b7⟩⟩ := HF2.out.cells
  obtain ⟨t0, t1, t2, t3, t4, t5, t6, t7, t8, t9, t10⟩ := HF2.out.rs.t HX.out
  have ow := HF2.out.rs.ow.cell HW.out
  have od := HF2.out.rs.dp.cell HD.out
  dsimp only at b0 b1 b2 b3 b4 b5 b6 b7 t0 t1 t2 t3 t4 t5 t6 t7 t8 t9 t10
  go_upto_region 5 with fail
  go_quiet (fail)
  generalize hq : World.drewN _ _ = W4
  have HF4 := Lib.hid (show RFr w W4 p s bx _ from by rw [← hq]; exact HF2.out.drewN _)
  clear hq HF2
  clear c0 c1 c2 c3 b0 b1 b2 b3 b4 b5 b6 b7 t0 t1 t2 t3 t4 t5 t6 t7 t8 t9 t10 ow od
  obtain ⟨⟨c0, c1, c2, c3⟩, ⟨b0, b1, b2, b3, b4, b5, b6, b7⟩⟩ := HF4.out.cells
  obtain ⟨t0, t1, t2, t3, t4, t5, t6, t7, t8, t9, t10⟩ := HF4.out.rs.t HX.out
  have ow := HF4.out.rs.ow.cell HW.out
  have od := HF4.out.rs.dp.cell HD.out
  dsimp only at b0 b1 b2 b3 b4 b5 b6 b7 t0 t1 t2 t3 t4 t5 t6 t7 t8 t9 t10
  have HLL := Lib.hid hll
  have HC := Lib.hid (rnotify_any HF4.out.rs xcalls true 4 (o : Int) xarg xfar xcode xval xflag xsaved xsince HX.out HW.out HD.out true (fun _ => rfl) (fun h => by cases h) (.inl rfl) HLL.out kind idx act oth code val)
  go_wp2_with (go_at_call 65; (with_reducible refine (HC.out).mono ?_); rintro e9 w9 hr9; obtain ⟨b9, rfl, hb9⟩ := hr9.b; clear hr9)
  go_ret
  exact hb9.hand HF4.out.kp
set_option maxHeartbeats 8000000 in
theorem act_op4_n {w : World} {p : RPl} {s : RS} (h : RsAt w p s) {t o : Nat} (xcalls : Int) (xarg xfar xcode xval : Int) (xflag : Bool) (xsaved xsince : Int) (hx : s.T[t]? = some ⟨xcalls, true, 4, (o : Int), xarg, xfar, xcode, xval, xflag, xsaved, xsince⟩) {own : Int} (hW : s.W[o]? = some own) {dep : Int} (hD : s.D[o]? = some dep) (hva : validR s 4 (o : Int) xarg) (hf5 : (xfar == 5) = false) (kind idx act oth code val : Int) (hll : s.T.length ≤ 100000) (hwb : (own == (t : Int)) = false) :
    Calls Try.prog 44 #[rspV p, evV ⟨kind, (t : Int), idx, act, (o : Int), oth, code, val⟩] w (RHand w p s (ActR s t ⟨xcalls, true, 4, (o : Int), xarg, xfar, xcode, xval, xflag, xsaved, xsince⟩ o own dep ⟨kind, (t : Int), idx, act, (o : Int), oth, code, val⟩)) := by
  have HX := Lib.hid hx
  have HW := Lib.hid hW
  have HD := Lib.hid hD
  have HVA := Lib.hid hva
  have it := idx_rthrs p.T s.T.length p.cT t (List.getElem?_eq_some_iff.1 hx).1
  have iw := idx_rints p.W s.W.length p.cW o (List.getElem?_eq_some_iff.1 hW).1
  have id' := idx_rints p.D s.D.length p.cD o (List.getElem?_eq_some_iff.1 hD).1
  have HF0 := Lib.hid (RFr.boxed h ⟨kind, (t : Int), idx, act, (o : Int), oth, code, val⟩)
  clear h hx hW hD hva
  go_enter Try.func44, Try.ntmps44
  go_upto_region 1 with fail
  generalize hWW : w.alloc _ = W at HF0 ⊢
  obtain ⟨bx, hbx⟩ : ∃ bx, bx = w.heap.size := ⟨_, rfl⟩
  rw [← hbx] at HF0 ⊢
  clear hbx hWW
  obtain ⟨⟨c0, c1, c2, c3⟩, ⟨b0, b1, b2, b3, b4, b5, b6, b7⟩⟩ := HF0.out.cells
  obtain ⟨t0, t1, t2, t3, t4, t5, t6, t7, t8, t9, t10⟩ := HF0.out.rs.t HX.out
  have ow := HF0.out.rs.ow.cell HW.out
  have od := HF0.out.rs.dp.cell HD.out
  dsimp only at b0 b1 b2 b3 b4 b5 b6 b7 t0 t1 t2 t3 t4 t5 t6 t7 t8 t9 t10
  have nbT : ¬ bx = p.T := fun e => HF0.out.out (.inr (.inr (.inr e)))
  have nbT' : ¬ p.T = bx := fun e => nbT e.symm
  go_quiet (fail)
  generalize hq : World.drewN _ _ = W2
  have HF1 := Lib.hid (show RFr w W2 p s bx _ from by rw [← hq]; exact HF0.out.drewN _)
  clear hq HF0
  clear c0 c1 c2 c3 b0 b1 b2 b3 b4 b5 b6 b7 t0 t1 t2 t3 t4 t5 t6 t7 t8 t9 t10 ow od
  obtain ⟨⟨c0, c1, c2, c3⟩, ⟨b0, b1, b2, b3, b4, b5, b6, b7⟩⟩ := HF1.out.cells
  obtain ⟨t0, t1, t2, t3, t4, t5, t6, t7, t8, t9, t10⟩ := HF1.out.rs.t HX.out
  have ow := HF1.out.rs.ow.cell HW.out
  have od := HF1.out.rs.dp.cell HD.out
  dsimp only at b0 b1 b2 b3 b4 b5 b6 b7 t0 t1 t2 t3 t4 t5 t6 t7 t8 t9 t10
  have HWr := Lib.hid (fun V (hV : Below W2.heap.size W2 V) => wrong_no (HF1.out.below hV).rs HVA.out)
  have SK := Lib.hid (show ∀ V, Below W2.heap.size W2 V → V.cell? ⟨bx, 4, none⟩ = some (.int .i64 (o : Int)) ∧ V.cell? ⟨p.T, t * 11 + 1, none⟩ = some (.bool true) ∧ V.cell? ⟨p.T, t * 11 + 2, none⟩ = some (.int .i64 4) ∧ V.cell? ⟨p.T, t * 11 + 3, none⟩ = some (.int .i64 (o : Int)) ∧ V.cell? ⟨p.T, t * 11 + 4, none⟩ = some (.int .i64 xarg) ∧ V.cell? ⟨p.T, t * 11 + 5, none⟩ = some (.int .i64 xfar) from fun V hV => by have z := HF1.out.below hV; have q := z.rs.t HX.out; exact ⟨(evAt z.ev).b4, q.opn, q.op, q.obj, q.arg, q.far⟩)
  go_upto_region 2 with fail
  have bc := rdrew W2
  go_region_held3 (fun (V : World) => V.cell? ⟨bx, 4, none⟩ = some (.int .i64 (o : Int)) ∧ V.cell? ⟨p.T, t * 11 + 1, none⟩ = some (.bool true) ∧ V.cell? ⟨p.T, t * 11 + 2, none⟩ = some (.int .i64 4) ∧ V.cell? ⟨p.T, t * 11 + 3, none⟩ = some (.int .i64 (o : Int)) ∧ V.cell? ⟨p.T, t * 11 + 4, none⟩ = some (.int .i64 xarg) ∧ V.cell? ⟨p.T, t * 11 + 5, none⟩ = some (.int .i64 xfar)) (exact SK.out _ bc) ((go_at_call 45; (with_reducible refine (HWr.out _ bc).mono ?_); rintro e3 w3 ⟨rfl, b3'⟩; replace bc := Below.trans bc (Below.mono b3' bc.size)))
  have HF2 := Lib.hid (HF1.out.below bc)
  clear c0 c1 c2 c3 b0 b1 b2 b3 b4 b5 b6 b7 t0 t1 t2 t3 t4 t5 t6 t7 t8 t9 t10 ow od
  clear SK HWr bc b3' HF1
  obtain ⟨⟨c0, c1, c2, c3⟩, ⟨b0, b1, b2, b3, b4, b5, b6, b7⟩⟩ := HF2.out.cells
  obtain ⟨t0, t1, t2, t3, t4, t5, t6, t7, t8, t9, t10⟩ := HF2.out.rs.t HX.out
  have ow := HF2.out.rs.ow.cell HW.out
  have od := HF2.out.rs.dp.cell HD.out
  dsimp only at b0 b1 b2 b3 b4 b5 b6 b7 t0 t1 t2 t3 t4 t5 t6 t7 t8 t9 t10
  go_upto_region 5 with fail
  go_quiet (fail)
  generalize hq : World.drewN _ _ = W4
  have HF4 := Lib.hid (show RFr w W4 p s bx _ from by rw [← hq]; exact HF2.out.drewN _)
  clear hq HF2
  clear c0 c1 c2 c3 b0 b1 b2 b3 b4 b5 b6 b7 t0 t1 t2 t3 t4 t5 t6 t7 t8 t9 t10 ow od
  obtain ⟨⟨c0, c1, c2, c3⟩, ⟨b0, b1, b2, b3, b4, b5, b6, b7⟩⟩ := HF4.out.cells
  obtain ⟨t0, t1, t2, t3, t4, t5, t6, t7, t8, t9, t10⟩ := HF4.out.rs.t HX.out
  have ow := HF4.out.rs.ow.cell HW.out
  have od := HF4.out.rs.dp.cell HD.out
  dsimp only at b0 b1 b2 b3 b4 b5 b6 b7 t0 t1 t2 t3 t4 t5 t6 t7 t8 t9 t10
  have hwn := Lib.hid (beq_eq_false_iff_ne.1 hwb)
  have HLL := Lib.hid hll
  have HC := Lib.hid (rnotify_any HF4.out.rs xcalls true 4 (o : Int) xarg xfar xcode xval xflag xsaved xsince HX.out HW.out HD.out false (fun h => by cases h) (fun _ => hwn.out) (.inl rfl) HLL.out kind idx act oth code val)
  go_wp2_with (go_at_call 65; (with_reducible refine (HC.out).mono ?_); rintro e9 w9 hr9; obtain ⟨b9, rfl, hb9⟩ := hr9.b; clear hr9)
  go_ret
  exact hb9.hand HF4.out.kp
set_option maxHeartbeats 8000000 in
theorem act_op5_y {w : World} {p : RPl} {s : RS} (h : RsAt w p s) {t o : Nat} (xcalls : Int) (xarg xfar xcode xval : Int) (xflag : Bool) (xsaved xsince : Int) (hx : s.T[t]? = some ⟨xcalls, true, 5, (o : Int), xarg, xfar, xcode, xval, xflag, xsaved, xsince⟩) (hW : s.W[o]? = some (t : Int)) {dep : Int} (hD : s.D[o]? = some dep) (hva : validR s 5 (o : Int) xarg) (hf5 : (xfar == 5) = false) (kind idx act oth code val : Int) (hll : s.T.length ≤ 100000) :
    Calls Try.prog 44 #[rspV p, evV ⟨kind, (t : Int), idx, act, (o : Int), oth, code, val⟩] w (RHand w p s (ActR s t ⟨xcalls, true, 5, (o : Int), xarg, xfar, xcode, xval, xflag, xsaved, xsince⟩ o (t : Int) dep ⟨kind, (t : Int), idx, act, (o : Int), oth, code, val⟩)) := by
  have HX := Lib.hid hx
  have HW := Lib.hid hW
  have HD := Lib.hid hD
  have HVA := Lib.hid hva
  have it := idx_rthrs p.T s.T.length p.cT t (List.getElem?_eq_some_iff.1 hx).1
  have iw := idx_rints p.W s.W.length p.cW o (List.getElem?_eq_some_iff.1 hW).1
  have id' := idx_rints p.D s.D.length p.cD o (List.getElem?_eq_some_iff.1 hD).1
  have HF0 := Lib.hid (RFr.boxed h ⟨kind, (t : Int), idx, act, (o : Int), oth, code, val⟩)
  clear h hx hW hD hva
  go_enter Try.func44, Try.ntmps44
  go_upto_region 1 with fail
  generalize hWW : w.alloc _ = W at HF0 ⊢
  obtain ⟨bx, hbx⟩ : ∃ bx, bx = w.heap.size := ⟨_, rfl⟩
  rw [← hbx] at HF0 ⊢
  clear hbx hWW
  obtain ⟨⟨c0, c1, c2, c3⟩, ⟨b0, b1, b2, b3, b4, b5, b6, b7⟩⟩ := HF0.out.cells
  obtain ⟨t0, t1, t2, t3, t4, t5, t6, t7, t8, t9, t10⟩ := HF0.out.rs.t HX.out
  have ow := HF0.out.rs.ow.cell HW.out
  have od := HF0.out.rs.dp.cell HD.out
  dsimp only at b0 b1 b2 b3 b4 b5 b6 b7 t0 t1 t2 t3 t4 t5 t6 t7 t8 t9 t10
  have nbT : ¬ bx = p.T := fun e => HF0.out.out (.inr (.inr (.inr e)))
  have nbT' : ¬ p.T = bx := fun e => nbT e.symm
  go_quiet (fail)
  generalize hq : World.drewN _ _ = W2
  have HF1 := Lib.hid (show RFr w W2 p s bx _ from by rw [← hq]; exact HF0.out.drewN _)
  clear hq HF0
  clear c0 c1 c2 c3 b0 b1 b2 b3 b4 b5 b6 b7 t0 t1 t2 t3 t4 t5 t6 t7 t8 t9 t10 ow od
  obtain ⟨⟨c0, c1, c2, c3⟩, ⟨b0, b1, b2, b3, b4, b5, b6, b7⟩⟩ := HF1.out.cells
  obtain ⟨t0, t1, t2, t3, t4, t5, t6, t7, t8, t9, t10⟩ := HF1.out.rs.t HX.out
  have ow := HF1.out.rs.ow.cell HW.out
  have od := HF1.out.rs.dp.cell HD.out
  dsimp only at b0 b1 b2 b3 b4 b5 b6 b7 t0 t1 t2 t3 t4 t5 t6 t7 t8 t9 t10
  have HWr := Lib.hid (fun V (hV : Below W2.heap.size W2 V) => wrong_no (HF1.out.below hV).rs HVA.out)
  have SK := Lib.hid (show ∀ V, Below W2.heap.size W2 V → V.cell? ⟨bx, 4, none⟩ = some (.int .i64 (o : Int)) ∧ V.cell? ⟨p.T, t * 11 + 1, none⟩ = some (.bool true) ∧ V.cell? ⟨p.T, t * 11 + 2, none⟩ = some (.int .i64 5) ∧ V.cell? ⟨p.T, t * 11 + 3, none⟩ = some (.int .i64 (o : Int)) ∧ V.cell? ⟨p.T, t * 11 + 4, none⟩ = some (.int .i64 xarg) ∧ V.cell? ⟨p.T, t * 11 + 5, none⟩ = some (.int .i64 xfar) from fun V hV => by have z := HF1.out.below hV; have q := z.rs.t HX.out; exact ⟨(evAt z.ev).b4, q.opn, q.op, q.obj, q.arg, q.far⟩)
  go_upto_region 2 with fail
  have bc := rdrew W2
  go_region_held3 (fun (V : World) => V.cell? ⟨bx, 4, none⟩ = some (.int .i64 (o : Int)) ∧ V.cell? ⟨p.T, t * 11 + 1, none⟩ = some (.bool true) ∧ V.cell? ⟨p.T, t * 11 + 2, none⟩ = some (.int .i64 5) ∧ V.cell? ⟨p.T, t * 11 + 3, none⟩ = some (.int .i64 (o : Int)) ∧ V.cell? ⟨p.T, t * 11 + 4, none⟩ = some (.int .i64 xarg) ∧ V.cell? ⟨p.T, t * 11 + 5, none⟩ = some (.int .i64 xfar)) (exact SK.out _ bc) ((go_at_call 45; (with_reducible refine (HWr.out _ bc).mono ?_); rintro e3 w3 ⟨rfl, b3'⟩; replace bc := Below.trans bc (Below.mono b3' bc.size)))
  have HF2 := Lib.hid (HF1.out.below bc)
  clear c0 c1 c2 c3 b0 b1 b2 b3 b4 b5 b6 b7 t0 t1 t2 t3 t4 t5 t6 t7 t8 t9 t10 ow od
  clear SK HWr bc b3' HF1
  obtain ⟨⟨c0, c1, c2, c3⟩, ⟨b0, b1, b2, b3, b4, b5, b6, b7⟩⟩ := HF2.out.cells
  obtain ⟨t0, t1, t2, t3, t4, t5, t6, t7, t8, t9, t10⟩ := HF2.out.rs.t HX.out
  have ow := HF2.out.rs.ow.cell HW.out
  have od := HF2.out.rs.dp.cell HD.out
  dsimp only at b0 b1 b2 b3 b4 b5 b6 b7 t0 t1 t2 t3 t4 t5 t6 t7 t8 t9 t10
  go_upto_region 5 with fail
  go_quiet (fail)
  generalize hq : World.drewN _ _ = W4
  have HF4 := Lib.hid (show RFr w W4 p s bx _ from by rw [← hq]; exact HF2.out.drewN _)
  clear hq HF2
  clear c0 c1 c2 c3 b0 b1 b2 b3 b4 b5 b6 b7 t0 t1 t2 t3 t4 t5 t6 t7 t8 t9 t10 ow od
  obtain ⟨⟨c0, c1, c2, c3⟩, ⟨b0, b1, b2, b3, b4, b5, b6, b7⟩⟩ := HF4.out.cells
  obtain ⟨t0, t1, t2, t3, t4, t5, t6, t7, t8, t9, t10⟩ := HF4.out.rs.t HX.out
  have ow := HF4.out.rs.ow.cell HW.out
  have od := HF4.out.rs.dp.cell HD.out
  dsimp only at b0 b1 b2 b3 b4 b5 b6 b7 t0 t1 t2 t3 t4 t5 t6 t7 t8 t9 t10
  have HLL := Lib.hid hll
  have HC := Lib.hid (rnotify_any HF4.out.rs xcalls true 5 (o : Int) xarg xfar xcode xval xflag xsaved xsince HX.out HW.out HD.out true (fun _ => rfl) (fun h => by cases h) (.inr rfl) HLL.out kind idx act oth code val)
  go_wp2_with (go_at_call 65; (with_reducible refine (HC.out).mono ?_); rintro e9 w9 hr9; obtain ⟨b9, rfl, hb9⟩ := hr9.b; clear hr9)
  go_ret
  exact hb9.hand HF4.out.kp
set_option maxHeartbeats 8000000 in
theorem act_op5_n {w : World} {p : RPl} {s : RS} (h : RsAt w p s) {t o : Nat} (xcalls : Int) (xarg xfar xcode xval : Int) (xflag : Bool) (xsaved xsince : Int) (hx : s.T[t]? = some ⟨xcalls, true, 5, (o : Int), xarg, xfar, xcode, xval, xflag, xsaved, xsince⟩) {own : Int} (hW : s.W[o]? = some own) {dep : Int} (hD : s.D[o]? = some dep) (hva : validR s 5 (o : Int) xarg) (hf5 : (xfar == 5) = false) (kind idx act oth code val : Int) (hll : s.T.length ≤ 100000) (hwb : (own == (t : Int)) = false) :
    Calls Try.prog 44 #[rspV p, evV ⟨kind, (t : Int), idx, act, (o : Int), oth, code, val⟩] w (RHand w p s (ActR s t ⟨xcalls, true, 5, (o : Int), xarg, xfar, xcode, xval, xflag, xsaved, xsince⟩ o own dep ⟨kind, (t : Int), idx, act, (o : Int), oth, code, val⟩)) := by
  have HX := Lib.hid hx
  have HW := Lib.hid hW
  have HD := Lib.hid hD
  have HVA := Lib.hid hva
  have it := idx_rthrs p.T s.T.length p.cT t (List.getElem?_eq_some_iff.1 hx).1
  have iw := idx_rints p.W s.W.length p.cW o (List.getElem?_eq_some_iff.1 hW).1
  have id' := idx_rints p.D s.D.length p.cD o (List.getElem?_eq_some_iff.1 hD).1
  have HF0 := Lib.hid (RFr.boxed h ⟨kind, (t : Int), idx, act, (o : Int), oth, code, val⟩)
  clear h hx hW hD hva
  go_enter Try.func44, Try.ntmps44
  go_upto_region 1 with fail
  generalize hWW : w.alloc _ = W at HF0 ⊢
  obtain ⟨bx, hbx⟩ : ∃ bx, bx = w.heap.size := ⟨_, rfl⟩
  rw [← hbx] at HF0 ⊢
  clear hbx hWW
  obtain ⟨⟨c0, c1, c2, c3⟩, ⟨b0, b1, b2, b3, b4, b5, b6, b7⟩⟩ := HF0.out.cells
  obtain ⟨t0, t1, t2, t3, t4, t5, t6, t7, t8, t9, t10⟩ := HF0.out.rs.t HX.out
  have ow := HF0.out.rs.ow.cell HW.out
  have od := HF0.out.rs.dp.cell HD.out
  dsimp only at b0 b1 b2 b3 b4 b5 b6 b7 t0 t1 t2 t3 t4 t5 t6 t7 t8 t9 t10
  have nbT : ¬ bx = p.T := fun e => HF0.out.out (.inr (.inr (.inr e)))
  have nbT' : ¬ p.T = bx := fun e => nbT e.symm
  go_quiet (fail)
  generalize hq : World.drewN _ _ = W2
  have HF1 := Lib.hid (show RFr w W2 p s bx _ from by rw [← hq]; exact HF0.out.drewN _)
  clear hq HF0
  clear c0 c1 c2 c3 b0 b1 b2 b3 b4 b5 b6 b7 t0 t1 t2 t3 t4 t5 t6 t7 t8 t9 t10 ow od
  obtain ⟨⟨c0, c1, c2, c3⟩, ⟨b0, b1, b2, b3, b4, b5, b6, b7⟩⟩ := HF1.out.cells
  obtain ⟨t0, t1, t2, t3, t4, t5, t6, t7, t8, t9, t10⟩ := HF1.out.rs.t HX.out
  have ow := HF1.out.rs.ow.cell HW.out
  have od := HF1.out.rs.dp.cell HD.out
  dsimp only at b0 b1 b2 b3 b4 b5 b6 b7 t0 t1 t2 t3 t4 t5 t6 t7 t8 t9 t10
  have HWr := Lib.hid (fun V (hV : Below W2.heap.size W2 V) => wrong_no (HF1.out.below hV).rs HVA.out)
  have SK := Lib.hid (show ∀ V, Below W2.heap.size W2 V → V.cell? ⟨bx, 4, none⟩ = some (.int .i64 (o : Int)) ∧ V.cell? ⟨p.T, t * 11 + 1, none⟩ = some (.bool true) ∧ V.cell? ⟨p.T, t * 11 + 2, none⟩ = some (.int .i64 5) ∧ V.cell? ⟨p.T, t * 11 + 3, none⟩ = some (.int .i64 (o : Int)) ∧ V.cell? ⟨p.T, t * 11 + 4, none⟩ = some (.int .i64 xarg) ∧ V.cell? ⟨p.T, t * 11 + 5, none⟩ = some (.int .i64 xfar) from fun V hV => by have z := HF1.out.below hV; have q := z.rs.t HX.out; exact ⟨(evAt z.ev).b4, q.opn, q.op, q.obj, q.arg, q.far⟩)
  go_upto_region 2 with fail
  have bc := rdrew W2
  go_region_held3 (fun (V : World) => V.cell? ⟨bx, 4, none⟩ = some (.int .i64 (o : Int)) ∧ V.cell? ⟨p.T, t * 11 + 1, none⟩ = some (.bool true) ∧ V.cell? ⟨p.T, t * 11 + 2, none⟩ = some (.int .i64 5) ∧ V.cell? ⟨p.T, t * 11 + 3, none⟩ = some (.int .i64 (o : Int)) ∧ V.cell? ⟨p.T, t * 11 + 4, none⟩ = some (.int .i64 xarg) ∧ V.cell? ⟨p.T, t * 11 + 5, none⟩ = some (.int .i64 xfar)) (exact SK.out _ bc) ((go_at_call 45; (with_reducible refine (HWr.out _ bc).mono ?_); rintro e3 w3 ⟨rfl, b3'⟩; replace bc := Below.trans bc (Below.mono b3' bc.size)))
  have HF2 := Lib.hid (HF1.out.below bc)
  clear c0 c1 c2 c3 b0 b1 b2 b3 b4 b5 b6 b7 t0 t1 t2 t3 t4 t5 t6 t7 t8 t9 t10 ow od
  clear SK HWr bc b3' HF1
  obtain ⟨⟨c0, c1, c2, c3⟩, ⟨b0, b1, b2, b3, b4, b5, b6, b7⟩⟩ := HF2.out.cells
  obtain ⟨t0, t1, t2, t3, t4, t5, t6, t7, t8, t9, t10⟩ := HF2.out.rs.t HX.out
  have ow := HF2.out.rs.ow.cell HW.out
  have od := HF2.out.rs.dp.cell HD.out
  dsimp only at b0 b1 b2 b3 b4 b5 b6 b7 t0 t1 t2 t3 t4 t5 t6 t7 t8 t9 t10
  go_upto_region 5 with fail
  go_quiet (fail)
  generalize hq : World.drewN _ _ = W4
  have HF4 := Lib.hid (show RFr w W4 p s bx _ from by rw [← hq]; exact HF2.out.drewN _)
  clear hq HF2
  clear c0 c1 c2 c3 b0 b1 b2 b3 b4 b5 b6 b7 t0 t1 t2 t3 t4 t5 t6 t7 t8 t9 t10 ow od
  obtain ⟨⟨c0, c1, c2, c3⟩, ⟨b0, b1, b2, b3, b4, b5, b6, b7⟩⟩ := HF4.out.cells
  obtain ⟨t0, t1, t2, t3, t4, t5, t6, t7, t8, t9, t10⟩ := HF4.out.rs.t HX.out
  have ow := HF4.out.rs.ow.cell HW.out
  have od := HF4.out.rs.dp.cell HD.out
  dsimp only at b0 b1 b2 b3 b4 b5 b6 b7 t0 t1 t2 t3 t4 t5 t6 t7 t8 t9 t10
  have hwn := Lib.hid (beq_eq_false_iff_ne.1 hwb)
  have HLL := Lib.hid hll
  have HC := Lib.hid (rnotify_any HF4.out.rs xcalls true 5 (o : Int) xarg xfar xcode xval xflag xsaved xsince HX.out HW.out HD.out false (fun h => by cases h) (fun _ => hwn.out) (.inr rfl) HLL.out kind idx act oth code val)
  go_wp2_with (go_at_call 65; (with_reducible refine (HC.out).mono ?_); rintro e9 w9 hr9; obtain ⟨b9, rfl, hb9⟩ := hr9.b; clear hr9)
  go_ret
  exact hb9.hand HF4.out.kp
end Go.Proofs.Ytcgljmeppmdihaa
