/- QueueTells returns true: the walk. -/
import Derived.Test.YtldofbkjjmnooaaGreatMgQTLL
import Derived.Deep.QuietTactic
import Derived.BigQuiet
import Derived.Deep.RegionWith
namespace Go.Proofs.YtldofbkjjmnooaaGreat
open Go.ChangeShapes Go.WideShapes Go.ChangeAt Go.RowKit
set_option linter.unusedVariables false
set_option maxRecDepth 100000
set_option linter.unusedSimpArgs false
theorem idx_acts (len c b o i : Nat) (h : i < len) : ∀ W, (Instr.indexAt 22 (.slice (some ⟨b, o, none⟩) len c) (.int .i64 (i : Int))).run Tryz.prog W = .ok (.pointer (some ⟨b, o + i * 3, none⟩)) W := by
  intro W
  rw [Nat.mul_comm]
  go_simp
/-- the law's state between its rounds -/
structure QL (n0 bm : Nat) (w : World) (C S Q B : Nat) (O : Nat → Prop) (mm : List Int) (n : Int) (L : Nat → List Int) : Prop where
  q : QT n0 (fun b => b = bm) w C S Q B O mm n (rowsL L)
  s : QS mm L
  m : Blk w bm 24 hereCs
  lo : n0 ≤ bm
theorem QL.below {n0 bm : Nat} {w w1 : World} {C S Q B : Nat} {O : Nat → Prop} {mm : List Int} {n : Int} {L : Nat → List Int} (h : QL n0 bm w C S Q B O mm n L) (hb : Below w.heap.size w w1) : QL n0 bm w1 C S Q B O mm n L :=
  ⟨h.q.below hb, h.s, h.m.below hb h.m.lt, h.lo⟩
theorem QT.wq {n0 : Nat} {X : Nat → Prop} {w : World} {C S Q B : Nat} {O : Nat → Prop} {mm : List Int} {n : Int} {L : Nat → List Int} (h : QT n0 X w C S Q B O mm n (rowsL L)) (hs : QS mm L) : WQ w C S mm n L := ⟨h.cells, hs⟩
/-- what was done, and a task that is on its way -/
def QC (n0 bm g C S Q B k : Nat) (mm : List Int) (n : Int) (w wx : World) (v13 v14 v15 : Value) : Prop :=
  ∃ (O : Nat → Prop) (T : Tre Itm) (t' c most : Nat) (mm' : List Int) (v : Int) (L' : Nat → List Int) (own : List Int), v13 = pV t' ∧ v14 = .int .i64 v ∧ v15 = .int .i64 (most : Int) ∧ QM n0 (fun b => b = bm ∨ b = g) wx C S Q B O mm n (rowsL L') t' T ∧ Goes mm T c mm' v ∧ c ≤ most ∧ most ≤ 22 ∧ QS mm' L' ∧ Left hereM mm mm' (placeN k) own ∧ (∀ u ∈ own, 0 ≤ u ∧ u < (8 : Int)) ∧ Blk wx bm 24 hereCs ∧ RowC wx g mm ∧ Below n0 w wx
theorem qc_of {n0 bm g C S Q B k t' c most : Nat} {O O' : Nat → Prop} {mm mm' own : List Int} {n v : Int} {w w2 wA wB : World} {L L' : Nat → List Int} {T : Tre Itm} {v15 : Value} (hq : QT n0 (fun b => b = bm ∨ b = g) w2 C S Q B O mm n (rowsL L)) (hg : g < w2.heap.size) (hM : MadeM (cellOps C 0) w2 (fun b => w2.heap.size ≤ b) T t' wA) (hm : Blk w2 bm 24 hereCs) (hr : RowC w2 g mm) (hb : Below n0 w w2) (hs0 : QS mm L)
    (hR : RQ wB Q B O' (rowsL L')) (hO : ∀ b, O' b → O b ∨ (wA.heap.size ≤ b ∧ b < wB.heap.size)) (hk : Keep (fun b => b = B) wA wB) (hG : Goes mm T c mm' v) (hc : c ≤ most) (hmo : most ≤ 22) (hs : QS mm' L') (hL : Left hereM mm mm' (placeN k) own) (how : ∀ u ∈ own, 0 ≤ u ∧ u < (8 : Int)) (h15 : v15 = .int .i64 (most : Int)) : QC n0 bm g C S Q B k mm n w wB (pV t') (.int .i64 v) v15 := by
  have hX : ∀ b, b = bm ∨ b = g → b < w2.heap.size := fun b hb => by
    rcases hb with rfl | rfl
    · exact hm.lt
    · exact hg
  have s1 := hM.2.2.size
  have h1 := (hq.made hX hM).turn (fun b hb => Nat.lt_of_lt_of_le (hX b hb) s1) hR hO hk
  have hB := hq.ob B hq.rq.mine.2
  have k2 : Keep (fun b => b = B) w2 wB := (Keep.ofBelow hM.2.2).trans hk
  refine ⟨O', T, t', c, most, mm', v, L', own, rfl, rfl, h15, h1.1, hG, hc, hmo, hs, hL, how, hm.keep k2 (fun e => hB.2.2.2 (.inl e.symm)), hr.keep k2 (fun e => hB.2.2.2 (.inr e.symm)), hb.trans (k2.below hq.lo (fun b h e => ?_))⟩
  have : b = B := e
  have := hB.1
  omega
theorem RowC.below {w w1 : World} {g : Nat} {mm : List Int} (h : RowC w g mm) (hb : Below w.heap.size w w1) : RowC w1 g mm := h.keep (F := fun _ => False) (Keep.ofBelow hb) (fun h => h)
/-- what was done, and the task is done too -/
structure QD (n0 bm g C S Q B : Nat) (O : Nat → Prop) (mm mm' : List Int) (n : Int) (L : Nat → List Int) (w wr : World) : Prop where
  q : QT n0 (fun b => b = bm ∨ b = g) wr C S Q B O mm' n (rowsL L)
  m : Blk wr bm 24 hereCs
  r : RowC wr g mm
  b : Below n0 w wr
theorem QD.below {n0 bm g C S Q B : Nat} {O : Nat → Prop} {mm mm' : List Int} {n : Int} {L : Nat → List Int} {w wr w1 : World} (h : QD n0 bm g C S Q B O mm mm' n L w wr) (hb : Below wr.heap.size wr w1) : QD n0 bm g C S Q B O mm mm' n L w w1 :=
  ⟨h.q.below hb, h.m.below hb h.m.lt, RowC.below h.r hb, h.b.trans (hb.mono h.q.lo)⟩
theorem RQ.rowN {w : World} {Q B : Nat} {O : Nat → Prop} {L : List (List Int)} (h : RQ w Q B O L) {i : Nat} {l : List Int} (hi : L[i]? = some l) : ∃ cq ra rc, ∀ V, Below w.heap.size w V → V.cell? ⟨Q, 0, none⟩ = some (.slice (some ⟨B, 0, none⟩) L.length cq) ∧ V.cell? ⟨B, i, none⟩ = some (.slice ra l.length rc) ∧ RowN V (fun _ => True) (.slice ra l.length rc) l := by
  obtain ⟨c, h1⟩ := h.own
  obtain ⟨vs, h2, h3, h4⟩ := h.rows
  obtain ⟨v, hv, hr⟩ := h4 i l hi
  obtain ⟨a, c', e, h5, h6⟩ := id hr
  subst e
  exact ⟨c, a, c', fun V hV => ⟨(h1.below hV h1.lt).cell 0 _ rfl, (h2.below hV h2.lt).cell i _ (by simpa using hv), (hr.keep (Keep.ofBelow (Q := fun _ => False) hV) (fun _ _ h => h)).mono fun _ _ => trivial⟩⟩
/-- the bytes of an act, in later worlds -/
theorem ActsQ.at' {w : World} {n0 : Nat} {a : Option Addr} {len : Nat} (h : ActsQ w n0 a len) {i : Nat} (hi : i < len) : ∃ b off, a = some ⟨b, off, none⟩ ∧ ∃ X Y Z : Int, (0 ≤ X ∧ X ≤ 255) ∧ (0 ≤ Y ∧ Y ≤ 255) ∧ (0 ≤ Z ∧ Z ≤ 255) ∧ ∀ V, Below n0 w V →
    V.cell? ⟨b, off + i * 3, none⟩ = some (.int .u8 X) ∧ V.cell? ⟨b, off + i * 3 + 1, none⟩ = some (.int .u8 Y) ∧ V.cell? ⟨b, off + i * 3 + 2, none⟩ = some (.int .u8 Z) := by
  obtain ⟨b, off, e, hb, X, Y, Z, h1, h2, h3, c1, c2, c3⟩ := h i hi
  exact ⟨b, off, e, X, Y, Z, h1, h2, h3, fun V hV => ⟨(hV.cell (p := ⟨b, off + i * 3, none⟩) hb).trans c1, (hV.cell (p := ⟨b, off + i * 3 + 1, none⟩) hb).trans c2, (hV.cell (p := ⟨b, off + i * 3 + 2, none⟩) hb).trans c3⟩⟩
theorem mod_nat (Y : Int) (k : Nat) (h : 0 ≤ Y ∧ Y ≤ 255) (hk : 0 < k) : ∃ j : Nat, Y.tmod k = (j : Int) ∧ j < k := by
  have e : Y.tmod k = Y % k := Int.tmod_eq_emod_of_nonneg h.1
  have h1 := Int.emod_nonneg Y (show (k : Int) ≠ 0 by omega)
  have h2 := Int.emod_lt_of_pos Y (show (0 : Int) < k by omega)
  exact ⟨(Y % k).toNat, by omega, by omega⟩
set_option maxHeartbeats 16000000 in
theorem tells_law (a : Option Addr) (len cap : Nat) (w : World) (hA : ActsQ w w.heap.size a len) (hcm : len ≤ 9223372036854775807) : Calls Tryz.prog 3 #[.slice a len cap] w fun e w' => e = .returned (.bool true) ∧ Below w.heap.size w w' := by
  have HA := Lib.hid hA
  have hmk := make_4q
  have HWK := Lib.hid works_any
  clear hA
  go_enter Tryz.func3, Tryz.ntmps3
  go_upto_region 2 with (go_at_call 12; refine (here_any _).mono ?_; rintro e w1 ⟨rfl, b1'⟩)
  have n1 : Blk (w1.alloc (.cells hereCs 24)) w1.heap.size 24 hereCs := Blk.new w1 _ _
  have bV : Below w.heap.size w (w1.alloc (.cells hereCs 24)) := b1'.alloc b1'.size _
  have hlo := b1'.size
  generalize hV : (w1.alloc _) = V at *
  clear hV b1'
  generalize w1.heap.size = bm at *
  obtain ⟨d0, d1, d2⟩ := hereC n1
  have HSz := Lib.hid (size_any hereM V here_ok)
  have HB := Lib.hid bV
  have HN := Lib.hid n1
  have HL := Lib.hid hlo
  clear bV n1 hlo
  go_upto_region 3 with (first
    | (go_at_call 14; (with_reducible refine HSz.out.mono ?_); rintro e w2 ⟨rfl, b2'⟩; have HNw := Lib.hid (vnew w2 rfl))
    | (go_at_call 13; (with_reducible refine HNw.out.mono ?_); rintro e w3 ⟨C, S, mm, rfl, hq, b3', hC, hS⟩))
  have b23 : Below V.heap.size V w3 := b2'.trans (b3'.mono b2'.size)
  have l1 := HN.out.lt
  have l2 := HB.out.size
  have l3 := b2'.size
  have HQ := Lib.hid hq
  have HM3 := Lib.hid (HN.out.below b23 l1)
  have HB3 := Lib.hid (HB.out.trans (b23.mono HB.out.size))
  have HC := Lib.hid (show w.heap.size ≤ C ∧ w.heap.size ≤ S ∧ C ≠ bm ∧ S ≠ bm from by omega)
  clear d0 d1 d2 hq hC hS b2' b3' b23 HB HN HSz HNw l1 l2 l3
  go_upto_region 5 with (go_at_call 15; (with_reducible refine (HWK.out _).mono ?_); rintro e w4 ⟨rfl, b4⟩)
  have HQ4 := Lib.hid (HQ.out.below b4)
  have HM4 := Lib.hid (HM3.out.below b4 HM3.out.lt)
  have HB4 := Lib.hid (HB3.out.trans (b4.mono HB3.out.size))
  clear HQ HM3 HB3 b4 HWK
  go_upto_region 6 with fail
  have hR := RQ.start w4
  have b6 : Below w4.heap.size w4 ((w4.alloc (.cells #[.slice none 0 0, .slice none 0 0, .slice none 0 0, .slice none 0 0] 37)).alloc (.cells #[.slice (some ⟨w4.heap.size, 0, none⟩) 4 4] 33)) := ((Below.refl _ w4).alloc (Nat.le_refl _) _).alloc (by rw [World.size_alloc]; omega) _
  generalize ((w4.alloc _).alloc _) = w6 at *
  have HI := Lib.hid (show QL w.heap.size bm w6 C S (w4.heap.size + 1) w4.heap.size (fun b => w4.heap.size ≤ b ∧ b < w4.heap.size + 2) mm 0 (fun _ => []) from by
    have e1 := HC.out
    have e2 := HM4.out.lt
    have e3 := HB4.out.size
    have e4 := HL.out
    have hc := HQ4.out.cells
    have e5 := hc.own.lt
    have e6 := hc.row.lt
    have e7 := b6.size
    exact ⟨⟨hc.keep (Keep.ofBelow (Q := fun _ => False) b6) (fun h => h) (fun h => h), hR, fun b hb => by omega, by omega, by omega⟩, HQ4.out.qs.ext fun j hj => by rcases four hj with rfl | rfl | rfl | rfl <;> rfl, HM4.out.below b6 e2, e4⟩)
  have HB6 := Lib.hid (HB4.out.trans (b6.mono HB4.out.size))
  clear hR b6 HQ4 HM4 HB4 HC hmk
  generalize (fun b => w4.heap.size ≤ b ∧ b < w4.heap.size + 2) = O0 at *
  generalize hQe : w4.heap.size + 1 = Q at *
  generalize w4.heap.size = B at *
  clear hQe
  go_wp2_with fail
  go_loopw [6] (fun v6 wr => ∃ (i : Nat) (O : Nat → Prop) (mm : List Int) (n : Int) (L : Nat → List Int), i ≤ 80 ∧ i ≤ len ∧ v6 = .int .i64 (i : Int) ∧ QL w.heap.size bm wr C S Q B O mm n L ∧ (0 ≤ n ∧ n ≤ 22 * (i : Int)) ∧ Below w.heap.size w wr)
    (fun v6 _ => 80 - (intOf v6).toNat)
  case atStart => exact ⟨0, O0, mm, 0, _, by omega, by omega, rfl, HI.out, by omega, HB6.out⟩
  case round =>
    clear HI HB6
    obtain ⟨i, O, mm, n, L, hi80, hil, rfl, hq, hn, hb⟩ := hrel
    by_cases hlt : i < len ∧ i < 80
    · obtain ⟨ab, ao, rfl, X, Y, Z, hX, hY, hZ, hc⟩ := HA.out.at' hlt.1
      obtain ⟨k, (hk : Y.tmod 4 = _), hk4⟩ := mod_nat Y 4 hY (by omega)
      obtain ⟨t, (ht : Z.tmod 8 = _), ht8⟩ := mod_nat Z 8 hZ (by omega)
      obtain ⟨r, (hr : X.tmod 4 = _), hr4⟩ := mod_nat X 4 hX (by omega)
      have hc0 := hc wr hb
      obtain ⟨c1, c2, c3⟩ := hc0
      have hix := idx_acts len cap ab ao i hlt.1
      have x1 : (i : Int) < (len : Int) := by omega
      have x2 : (i : Int) < 80 := by omega
      have HQ := Lib.hid hq
      have HN := Lib.hid hn
      have HBr := Lib.hid hb
      have HCa := Lib.hid hc
      have HI := Lib.hid hlt
      have HR := Lib.hid hr
      have HXb := Lib.hid hX
      clear hq hn hb hlt hc hr hX hi80 hil
      go_upto_region 9 with fail
      have hYm : (0 : Int) ≤ Y.tmod 4 ∧ Y.tmod 4 ≤ 3 := by omega
      have hZm : (0 : Int) ≤ Z.tmod 8 ∧ Z.tmod 8 ≤ 7 := by omega
      go_quiet (fail)
      have bd := bdrewN (Below.refl wr.heap.size wr) nq
      have hqd := HQ.out.below bd
      have hbd := HBr.out.trans (bd.mono HBr.out.size)
      generalize wr.drewN nq = wd at *
      clear bd HQ HBr c1 c2 c3 hYm hZm
      have HQ := Lib.hid hqd
      have HBr := Lib.hid hbd
      have HPl := Lib.hid fun W => place_any k W hk4 (kI := (k : Int)) rfl
      clear hqd hbd
      go_upto_region 11 with (go_at_call 16; (with_reducible refine (HPl.out _).mono ?_); rintro e w1 ⟨rfl, b1⟩)
      have HQ1 := Lib.hid (HQ.out.below b1)
      have HB1 := Lib.hid (HBr.out.trans (b1.mono HBr.out.size))
      clear b1 HQ HBr HPl
      obtain ⟨cq, hcq⟩ := HQ1.out.q.rq.own
      have cQ := hcq.cell 0 _ rfl
      obtain ⟨ra, rc, cB, hrc, hrr⟩ := HQ1.out.q.rq.at (rowsL_at L hk4)
      have hx4 := idx_qintss 4 cq B 0 k hk4
      simp only [Nat.zero_add] at hx4
      have cQ' : w1.cell? ⟨Q, 0, none⟩ = some (.slice (some ⟨B, 0, none⟩) 4 cq) := cQ
      clear hcq cQ hrr
      obtain ⟨lk, hlk⟩ : ∃ lk, lk = (L k).length := ⟨_, rfl⟩
      rw [← hlk] at cB hrc
      have hlk8 : lk ≤ 8 := by rw [hlk]; exact HQ1.out.s.few hk4
      have HLk := Lib.hid hlk
      clear hlk
      go_upto_region 12 with fail
      have HAll := Lib.hid (allR_any C S mm n w1 HQ1.out.q.cells (by intro e; have := HQ1.out.s.len; rw [e] at this; simp at this))
      clear cQ' cB hrc hx4
      go_upto_region 13 with (go_at_call 17; (with_reducible refine HAll.out.mono ?_); rintro e w2 ⟨g, gc, rfl, hrow, hg1, hg2, b2⟩)
      have HQ2 := Lib.hid (HQ1.out.q.more (X' := fun b => b = bm ∨ b = g) (fun b hb => hb.imp id (fun e => by omega)) b2)
      have HM2 := Lib.hid (HQ1.out.m.below b2 HQ1.out.m.lt)
      have HS2 := Lib.hid HQ1.out.s
      have HB2 := Lib.hid (HB1.out.trans (b2.mono HB1.out.size))
      have HG2 := Lib.hid (show w.heap.size ≤ g from Nat.le_trans HB1.out.size hg1)
      have HBmG := Lib.hid (show bm ≠ g from by have := HQ1.out.m.lt; omega)
      have HGl := Lib.hid hg2
      have HRow := Lib.hid hrow
      have HSt := Lib.hid (steps_any C S mm n w2 HQ2.out.cells)
      have hrow67 : mm.length = 67 := HS2.out.len
      clear hrow hg1 hg2 b2 HQ1 HB1 HAll
      rw [hrow67]
      go_upto_region 16 with (go_at_call 18; (with_reducible refine HSt.out.mono ?_); rintro e w3 ⟨rfl, rfl⟩)
      obtain ⟨c1, _, _⟩ := HCa.out _ HB2.out
      have hX := HXb.out
      have hr := HR.out
      have hXm : (0 : Int) ≤ X.tmod 4 ∧ X.tmod 4 ≤ 3 := by omega
      clear HSt hk ht
      go_upto_block 2 with fail
      clear c1 hX hXm hix x1
      go_cut [13, 14, 15] from 79 to 115 (fun v13 v14 v15 wx => ∃ w9, w9 = wx ∧ QC w.heap.size bm g C S Q B k mm n w w9 v13 v14 v15)
      case first =>
        obtain ⟨d0, d1, d2⟩ := hereC HM2.out
        have htI : (0 : Int) ≤ (t : Int) ∧ (t : Int) < 8 := by omega
        have HHow := Lib.hid (show ∀ u ∈ L k, 0 ≤ u ∧ u < (8 : Int) from fun u hu => (HS2.out.thr k hk4).2 u hu)
        have HFew := Lib.hid (show (L k).length + 1 ≤ 1000 from by have := HS2.out.few hk4; omega)
        rcases four hr4 with rfl | rfl | rfl | rfl
        · have HRi := Lib.hid (rqin_any Q B O (rowsL L) (t : Int) w2 HQ2.out.rq)
          have HPu := Lib.hid (qpush_any (HQ2.out.wq HS2.out) k (t : Int) htI)
          go_upto_if 97 with (go_at_call 19; (with_reducible refine HRi.out.mono ?_); rintro e wi ⟨kk, rfl, hkk, rfl⟩; have HKK := Lib.hid hkk; clear hkk)
          by_cases hk0 : (0 : Int) ≤ kk
          · clear d0 d1 d2
            go_wp2_with fail
            go_roundw
            case rel => exact ⟨i + 1, O, mm, n, L, by have := HI.out; omega, by have := HI.out; omega, by go_num, ⟨HQ2.out.fewer (fun b h => .inl h), HS2.out, HM2.out, HL.out⟩, by have := HN.out; omega, HB2.out⟩
            case measure => have := HI.out; simp [intOf]; omega
          · obtain ⟨c, mm', hc, G, hs', hL⟩ := HS2.out.push hk4 htI (fun j hj hin => hk0 (HKK.out.2 ((rowsL_in L t).2 ⟨j, hj, hin⟩)))
            have HG := Lib.hid (And.intro hc (And.intro G (And.intro hs' hL)))
            clear hc G hs' hL HRi
            go_wp2_with (first
              | (go_at_call 20; (with_reducible refine HPu.out.mono ?_); rintro e wA ⟨t', rfl, hM⟩; have HM := Lib.hid hM; have HRp := Lib.hid (rpush_any Q B O (rowsL L) k (L k) (t : Int) wA (HQ2.out.rq.keep (Keep.ofBelow (Q := fun _ => False) hM.2.2) (fun _ _ h => h)) (rowsL_at L hk4) HFew.out); clear hM)
              | (go_at_call 21; (with_reducible refine HRp.out.mono ?_); rintro e wB ⟨rfl, hR, hkp⟩))
            go_meet
            rw [rowsL_set L hk4] at hR
            obtain ⟨hc, G, hs', hL⟩ := HG.out
            refine ⟨_, rfl, ?_⟩
            exact qc_of HQ2.out HGl.out HM.out HM2.out HRow.out HB2.out HS2.out hR (fun b h => h) hkp G hc (by omega) hs' hL (fun u hu => by rcases List.mem_cons.1 hu with rfl | hu; exact htI; exact HHow.out u hu) rfl
        · have HRi := Lib.hid (rqin_any Q B O (rowsL L) (t : Int) w2 HQ2.out.rq)
          have HPu := Lib.hid (qpush_any (HQ2.out.wq HS2.out) k (t : Int) htI)
          go_upto_if 97 with (go_at_call 19; (with_reducible refine HRi.out.mono ?_); rintro e wi ⟨kk, rfl, hkk, rfl⟩; have HKK := Lib.hid hkk; clear hkk)
          by_cases hk0 : (0 : Int) ≤ kk
          · clear d0 d1 d2
            go_wp2_with fail
            go_roundw
            case rel => exact ⟨i + 1, O, mm, n, L, by have := HI.out; omega, by have := HI.out; omega, by go_num, ⟨HQ2.out.fewer (fun b h => .inl h), HS2.out, HM2.out, HL.out⟩, by have := HN.out; omega, HB2.out⟩
            case measure => have := HI.out; simp [intOf]; omega
          · obtain ⟨c, mm', hc, G, hs', hL⟩ := HS2.out.push hk4 htI (fun j hj hin => hk0 (HKK.out.2 ((rowsL_in L t).2 ⟨j, hj, hin⟩)))
            have HG := Lib.hid (And.intro hc (And.intro G (And.intro hs' hL)))
            clear hc G hs' hL HRi
            go_wp2_with (first
              | (go_at_call 20; (with_reducible refine HPu.out.mono ?_); rintro e wA ⟨t', rfl, hM⟩; have HM := Lib.hid hM; have HRp := Lib.hid (rpush_any Q B O (rowsL L) k (L k) (t : Int) wA (HQ2.out.rq.keep (Keep.ofBelow (Q := fun _ => False) hM.2.2) (fun _ _ h => h)) (rowsL_at L hk4) HFew.out); clear hM)
              | (go_at_call 21; (with_reducible refine HRp.out.mono ?_); rintro e wB ⟨rfl, hR, hkp⟩))
            go_meet
            rw [rowsL_set L hk4] at hR
            obtain ⟨hc, G, hs', hL⟩ := HG.out
            refine ⟨_, rfl, ?_⟩
            exact qc_of HQ2.out HGl.out HM.out HM2.out HRow.out HB2.out HS2.out hR (fun b h => h) hkp G hc (by omega) hs' hL (fun u hu => by rcases List.mem_cons.1 hu with rfl | hu; exact htI; exact HHow.out u hu) rfl
        · obtain ⟨c, mm', hc, G, hs', hL⟩ := HS2.out.pop hk4
          obtain ⟨vv, hvv⟩ : ∃ vv : Int, (if L k = [] then (-1 : Int) else (L k).headD 0) = vv := ⟨_, rfl⟩
          rw [hvv] at G
          have HVv := Lib.hid hvv
          clear hvv
          have HG := Lib.hid (And.intro hc (And.intro G (And.intro hs' hL)))
          have HPo := Lib.hid (qpop_any (HQ2.out.wq HS2.out) k)
          clear hc G hs' hL
          go_wp2_with (first
            | (go_at_call 22; (with_reducible refine HPo.out.mono ?_); rintro e wA ⟨t', rfl, hM⟩; have HM := Lib.hid hM; have h0 := rpop_one Q B O (rowsL L) k (L k) wA (HQ2.out.rq.keep (Keep.ofBelow (Q := fun _ => False) hM.2.2) (fun _ _ h => h)) (rowsL_at L hk4) HFew.out; rw [HVv.out] at h0; have HRp := Lib.hid h0; clear hM h0)
            | (go_at_call 23; (with_reducible refine HRp.out.mono ?_); rintro e wB ⟨rfl, O', hR, hO, hkp⟩))
          go_meet
          rw [rowsL_set L hk4] at hR
          obtain ⟨hc, G, hs', hL⟩ := HG.out
          refine ⟨_, rfl, ?_⟩
          exact qc_of HQ2.out HGl.out HM.out HM2.out HRow.out HB2.out HS2.out hR hO hkp G hc (by omega) hs' hL HHow.out rfl
        · obtain ⟨c, mm', hc, G, hs', hL⟩ := HS2.out.rem hk4 htI
          obtain ⟨vv, hvv⟩ : ∃ vv : Int, (if (t : Int) ∈ L k then (1 : Int) else 0) = vv := ⟨_, rfl⟩
          rw [hvv] at G
          have HVv := Lib.hid hvv
          clear hvv
          have HG := Lib.hid (And.intro hc (And.intro G (And.intro hs' hL)))
          have HRe := Lib.hid (qrem_any (HQ2.out.wq HS2.out) k (t : Int) htI)
          have HNd := Lib.hid (HS2.out.thr k hk4).1
          clear hc G hs' hL
          go_wp2_with (first
            | (go_at_call 24; (with_reducible refine HRe.out.mono ?_); rintro e wA ⟨t', rfl, hM⟩; have HM := Lib.hid hM; have h0 := rrem_one Q B O (rowsL L) k (L k) (t : Int) wA (HQ2.out.rq.keep (Keep.ofBelow (Q := fun _ => False) hM.2.2) (fun _ _ h => h)) (rowsL_at L hk4) (by have := HFew.out; omega) HNd.out; rw [HVv.out] at h0; have HRp := Lib.hid h0; clear hM h0)
            | (go_at_call 25; (with_reducible refine HRp.out.mono ?_); rintro e wB ⟨rfl, O', hR, hO, hkp⟩))
          go_meet
          rw [rowsL_set L hk4] at hR
          obtain ⟨hc, G, hs', hL⟩ := HG.out
          have e5 := HLk.out
          refine ⟨_, rfl, ?_⟩
          refine qc_of (most := 6 + 2 * lk) HQ2.out HGl.out HM.out HM2.out HRow.out HB2.out HS2.out hR hO hkp G (by omega) (by omega) hs' hL HHow.out ?_
          go_num
      case rest =>
        obtain ⟨wx, rfl, O2, T, t', c, most, mm', v, L', own, rfl, rfl, rfl, hQM, hG, hc, hmo, hs', hL', how, hm2, hrow2, hb2⟩ := hcut
        have hgl : g < wx.heap.size := cell_lt6 (hrow2 0 _ (rdL_some (by omega)))
        have hX2 : ∀ b, b = bm ∨ b = g → b < wx.heap.size := fun b hb => by
          rcases hb with rfl | rfl
          · exact hm2.lt
          · exact hgl
        have hn8 := HN.out
        have hi8 := HI.out
        have HRun := Lib.hid (hQM.run hX2 hG hc (by omega) (by omega) (mI := (most : Int)) rfl)
        have hlo2 := hQM.1.lo
        have HAf := Lib.hid (show ∀ W, Keep (fun b => w.heap.size ≤ b ∧ ¬ (b = bm ∨ b = g)) wx W → Blk W bm 24 hereCs ∧ RowC W g mm ∧ Below w.heap.size w W from fun W hW => ⟨hm2.keep hW (fun e => e.2 (.inl rfl)), hrow2.keep hW (fun e => e.2 (.inr rfl)), hb2.trans (hW.below hlo2 (fun b h e => by have := e.1; omega))⟩)
        have HL2 := Lib.hid (And.intro hL' (And.intro how (And.intro hs' (And.intro hc hmo))))
        obtain ⟨n5, hn5⟩ : ∃ n5 : Int, n5 = n + c := ⟨_, rfl⟩
        rw [← hn5] at HRun
        have hc0 : ¬ (c : Int) < 0 := by omega
        have hsub : n5 - n = (c : Int) := by omega
        have hb5 : 0 ≤ n5 ∧ n5 ≤ 3000 := by omega
        have hb6 : 0 ≤ n ∧ n ≤ 3000 := by omega
        have HN5 := Lib.hid (show 0 ≤ n5 ∧ n5 ≤ 22 * (i : Int) + 22 from by omega)
        clear hn5 hX2 hn8 hi8 hQM hG hc hmo hs' hL' how hm2 hrow2 hb2 hgl hlo2 HQ2 HM2 HRow HB2
        go_upto_region 25 with (go_at_call 26; (with_reducible refine HRun.out.mono ?_); rintro e w5 ⟨rfl, hQM5, hk5⟩)
        obtain ⟨hQT5, TB, hT5, _⟩ := hQM5
        have HV := Lib.hid (tvalueM_ret t' TB v w5 hT5)
        have HSt := Lib.hid (steps_any C S mm' n5 w5 hQT5.cells)
        obtain ⟨a1, a2, a3⟩ := HAf.out w5 hk5
        have HD := Lib.hid (show QD w.heap.size bm g C S Q B O2 mm mm' n5 L' w w5 from ⟨hQT5, a1, a2, a3⟩)
        clear hQT5 hT5 a1 a2 a3 hk5 HAf HRun
        go_upto_region 27 with (first
          | (go_at_call 27; (with_reducible refine HV.out.mono ?_); rintro e w6 ⟨rfl, rfl⟩)
          | (go_at_call 18; (with_reducible refine HSt.out.mono ?_); rintro e w7 ⟨rfl, rfl⟩))
        clear hc0 hsub HV HSt
        have hlen' : mm'.length = 67 := HL2.out.1.len.trans hrow67
        go_wp2_with fail
        go_loopw [17] (fun v17 wr => ∃ j : Nat, j ≤ 4 ∧ v17 = .int .i64 (j : Int) ∧ QD w.heap.size bm g C S Q B O2 mm mm' n5 L' w wr)
          (fun v17 _ => 4 - (intOf v17).toNat)
        case atStart => exact ⟨0, by omega, rfl, HD.out⟩
        case round =>
          clear HD
          obtain ⟨j, hj, rfl, hd⟩ := hrel
          have HDy := Lib.hid hd
          by_cases hj4 : j < 4
          · have hjI : (j : Int) < 4 := by omega
            obtain ⟨cq2, ra2, rc2, hrw⟩ := hd.q.rq.rowN (rowsL_at L' hj4)
            have hlj := HL2.out.2.2.1.few hj4
            obtain ⟨lj, hlj2⟩ : ∃ lj, lj = (L' j).length := ⟨_, rfl⟩
            rw [← hlj2] at hrw
            have HRw := Lib.hid (show ∀ V, Below wr.heap.size wr V → RowN V (fun _ => True) (.slice ra2 lj rc2) (L' j) from fun V hV => (hrw V hV).2.2)
            have SK := Lib.hid (show ∀ A, Below wr.heap.size wr A → ((A.cell? ⟨bm, 0, none⟩ = some (.int .i64 (hereM.t : Int)) ∧ A.cell? ⟨bm, 1, none⟩ = some (.int .i64 (hereM.o : Int)) ∧ A.cell? ⟨bm, 2, none⟩ = some (.int .i64 (hereM.n : Int))) ∧ A.cell? ⟨Q, 0, none⟩ = some (.slice (some ⟨B, 0, none⟩) 4 cq2) ∧ A.cell? ⟨B, j, none⟩ = some (.slice ra2 lj rc2)) from fun A hA => ⟨hereC (hd.m.below hA hd.m.lt), (hrw A hA).1, (hrw A hA).2.1⟩)
            have HLj := Lib.hid hlj
            have HPj := Lib.hid fun W => place_any j W hj4 (kI := (j : Int)) rfl
            have hx4 := idx_qintss 4 cq2 B 0 j hj4
            simp only [Nat.zero_add] at hx4
            have HY0 := Lib.hid (bdrewP wr)
            clear hd hrw hlj hlj2
            go_upto_region 30 with fail
            go_region_held3 (fun A : World => ((A.cell? ⟨bm, 0, none⟩ = some (.int .i64 (hereM.t : Int)) ∧ A.cell? ⟨bm, 1, none⟩ = some (.int .i64 (hereM.o : Int)) ∧ A.cell? ⟨bm, 2, none⟩ = some (.int .i64 (hereM.n : Int))) ∧ A.cell? ⟨Q, 0, none⟩ = some (.slice (some ⟨B, 0, none⟩) 4 cq2) ∧ A.cell? ⟨B, j, none⟩ = some (.slice ra2 lj rc2))) (first | exact SK.out _ HY0.out | exact SK.out _ HY1.out | exact SK.out _ HY2.out | exact SK.out _ HY3.out) (first
              | (go_at_call 16; (with_reducible refine (HPj.out _).mono ?_); rintro e wa ⟨rfl, b1⟩; have HY1 := Lib.hid (HY0.out.trans (b1.mono HY0.out.size)); have HLo := Lib.hid (qlook_any ((HDy.out.below HY1.out).q.wq HL2.out.2.2.1) j hj4); clear b1)
              | (go_at_call 29; (with_reducible refine HLo.out.mono ?_); rintro e wb ⟨lv, rfl, hlv, b2⟩; have HY2 := Lib.hid (HY1.out.trans (b2.mono HY1.out.size)); have HIn := Lib.hid (qints_same lv (.slice ra2 lj rc2) _ _ (L' j) wb hlv (HRw.out wb HY2.out) (by have := HLj.out; omega)); clear b2 hlv)
              | (go_at_call 28; (with_reducible refine HIn.out.mono ?_); rintro e wc ⟨rfl, b3⟩; have HY3 := Lib.hid (HY2.out.trans (b3.mono HY2.out.size)); clear b3))
            have hd' := HDy.out.below HY3.out
            go_wp2_with fail
            go_roundw
            case rel => exact ⟨j + 1, by omega, by go_num, hd'⟩
            case measure => simp [intOf]; omega
          · have hjn : ¬ (j : Int) < 4 := by omega
            have HAl := Lib.hid (allR_any C S mm' n5 wr hd.q.cells (by intro e; rw [e] at hlen'; simp at hlen'))
            clear hd
            go_upto_region 33 with (go_at_call 17; (with_reducible refine HAl.out.mono ?_); rintro e wz ⟨g2, gc2, rfl, hrw2, _, _, bz⟩)
            have HDz := Lib.hid (HDy.out.below bz)
            have HRz := Lib.hid hrw2
            have hpk : (0 : Int) ≤ (placeN k : Int) ∧ (placeN k : Int) ≤ 63 := by have := place_cases k; omega
            clear HAl hrw2 bz HDy hjn
            go_wp2_with fail
            go_loopw [19] (fun v19 wr => ∃ j : Nat, j ≤ 67 ∧ v19 = .int .i64 (j : Int) ∧ QD w.heap.size bm g C S Q B O2 mm mm' n5 L' w wr ∧ RowC wr g2 mm')
              (fun v19 _ => 67 - (intOf v19).toNat)
            case atStart => exact ⟨0, by omega, rfl, HDz.out, HRz.out⟩
            case round =>
              clear HDz HRz
              obtain ⟨j, hj67, rfl, hd, hr2⟩ := hrel
              have HDj := Lib.hid hd
              have HRj := Lib.hid hr2
              clear hd hr2
              by_cases hjl : j < 67
              · have hjI : (j : Int) < 67 := by omega
                go_upto_region 36 with fail
                go_cut [20] from 161 to 169 (fun v20 w9 => ∃ b0 : Bool, v20 = .bool b0 ∧ (b0 = false → (j : Int) ≠ (placeN k : Int) ∧ (j : Int) ≠ (placeN k : Int) + 1) ∧ w9 = wr)
                case first =>
                  by_cases e1 : (j : Int) = (placeN k : Int)
                  · have e1b : ((j : Int) == (placeN k : Int)) = true := by simpa using e1
                    have E1 := Lib.hid e1
                    clear e1
                    go_wp2_with fail
                    go_meet
                    exact ⟨true, rfl, (fun h => by cases h), rfl⟩
                  · have e1b : ((j : Int) == (placeN k : Int)) = false := by simpa using e1
                    have E1 := Lib.hid e1
                    clear e1
                    by_cases e2 : (j : Int) = (placeN k : Int) + 1
                    · have e2b : ((j : Int) == (placeN k : Int) + 1) = true := by simpa using e2
                      clear e2
                      go_wp2_with fail
                      go_meet
                      exact ⟨true, rfl, (fun h => by cases h), rfl⟩
                    · have e2b : ((j : Int) == (placeN k : Int) + 1) = false := by simpa using e2
                      have E2 := Lib.hid e2
                      clear e2
                      go_wp2_with fail
                      go_meet
                      exact ⟨false, rfl, fun _ => ⟨E1.out, E2.out⟩, rfl⟩
                case rest =>
                  obtain ⟨b0, rfl, hb0, rfl⟩ := hcut
                  have HB0 := Lib.hid hb0
                  clear hb0
                  go_wp2_with fail
                  go_loopw [20, 21] (fun v20 v21 wr => ∃ (u : Nat) (bb : Bool), u ≤ 8 ∧ v20 = .bool bb ∧ v21 = .int .i64 (u : Int) ∧ (bb = false → ((j : Int) ≠ (placeN k : Int) ∧ (j : Int) ≠ (placeN k : Int) + 1) ∧ ∀ u' : Nat, u' < u → (j : Int) ≠ (nxN hereM (u' : Int) : Int)) ∧ QD w.heap.size bm g C S Q B O2 mm mm' n5 L' w wr ∧ RowC wr g2 mm')
                    (fun _ v21 _ => 8 - (intOf v21).toNat)
                  case atStart => exact ⟨0, b0, by omega, rfl, rfl, fun h => ⟨HB0.out h, fun u' h => by omega⟩, HDj.out, HRj.out⟩
                  case round =>
                    clear HDj HRj HB0
                    obtain ⟨u, bb, hu, rfl, rfl, hbb, hd, hr2⟩ := hrel
                    have HBB := Lib.hid hbb
                    have HRu := Lib.hid hr2
                    have HDu := Lib.hid hd
                    clear hbb hr2 hd
                    by_cases hul : u < 8
                    · have huI : (u : Int) < 8 := by omega
                      cases bb with
                      | true =>
                        go_wp2_with fail
                        go_roundw
                        case rel => exact ⟨u + 1, true, by omega, rfl, by go_num, (fun h => by cases h), HDu.out, HRu.out⟩
                        case measure => simp [intOf]; omega
                      | false =>
                        have HF := Lib.hid (HBB.out rfl)
                        obtain ⟨d0, d1, d2⟩ := hereC HDu.out.m
                        have HNx := Lib.hid (next_any hereM (u : Int) wr here_ok ⟨by omega, by show (u : Int) < ((8 : Nat) : Int); omega⟩)
                        obtain ⟨nx, hnx⟩ : ∃ nx : Nat, nx = nxN hereM (u : Int) := ⟨_, rfl⟩
                        rw [← hnx] at HNx
                        by_cases e1 : (j : Int) = (nx : Int)
                        · have e1b : ((j : Int) == (nx : Int)) = true := by simpa using e1
                          clear e1 hnx
                          go_wp2_with (go_at_call 30; (with_reducible refine HNx.out.mono ?_); rintro e wn ⟨rfl, bn⟩; have HDn := Lib.hid (HDu.out.below bn); have HRn := Lib.hid (RowC.below HRu.out bn); clear bn)
                          go_roundw
                          case rel => exact ⟨u + 1, true, by omega, rfl, by go_num, (fun h => by cases h), HDn.out, HRn.out⟩
                          case measure => simp [intOf]; omega
                        · have e1b : ((j : Int) == (nx : Int)) = false := by simpa using e1
                          have HNe := Lib.hid (show ∀ u' : Nat, u' < u + 1 → (j : Int) ≠ (nxN hereM (u' : Int) : Int) from fun u' h => by
                            by_cases e : u' = u
                            · rw [e, ← hnx]; exact e1
                            · exact HF.out.2 u' (by omega))
                          clear e1 hnx
                          go_wp2_with (go_at_call 30; (with_reducible refine HNx.out.mono ?_); rintro e wn ⟨rfl, bn⟩; have HDn := Lib.hid (HDu.out.below bn); have HRn := Lib.hid (RowC.below HRu.out bn); clear bn)
                          go_roundw
                          case rel => exact ⟨u + 1, false, by omega, rfl, by go_num, fun _ => ⟨HF.out.1, HNe.out⟩, HDn.out, HRn.out⟩
                          case measure => simp [intOf]; omega
                    · have hun : ¬ (u : Int) < 8 := by omega
                      have HU8 := Lib.hid (show u = 8 from by omega)
                      cases bb with
                      | true =>
                        go_upto_region 41 with fail
                        go_quiet (fail)
                        have HDq := Lib.hid (HDu.out.below (bdrewN (Below.refl wr.heap.size wr) nq))
                        have HRq := Lib.hid (RowC.below HRu.out (bdrewN (Below.refl wr.heap.size wr) nq))
                        go_wp2_with fail
                        go_roundw
                        case rel => exact ⟨j + 1, by omega, by go_num, HDq.out, HRq.out⟩
                        case measure => simp [intOf]; omega
                      | false =>
                        obtain ⟨xv, hxv⟩ : ∃ xv, xv = rdL mm' j := ⟨_, rfl⟩
                        have hfar : rdL mm' j = rdL mm j := by
                          obtain ⟨hL5, how5, _⟩ := HL2.out
                          obtain ⟨⟨f1, f2⟩, f3⟩ := HBB.out rfl
                          refine hL5.far j (by omega) (by omega) (fun z hz => ?_)
                          obtain ⟨z0, z8⟩ := how5 z hz
                          have := f3 z.toNat (by have := HU8.out; omega)
                          rw [show ((z.toNat : Nat) : Int) = z from by omega] at this
                          exact fun e => this (by omega)
                        have c1 : wr.cell? ⟨g2, j, none⟩ = some (.int .u64 xv) := HRu.out j _ (by rw [hxv]; exact rdL_some (by omega))
                        have c2 : wr.cell? ⟨g, j, none⟩ = some (.int .u64 xv) := HDu.out.r j _ (by rw [hxv, hfar]; exact rdL_some (by omega))
                        have ix1 := idx_u64 67 gc2 g2 j hjl
                        have ix2 := idx_u64 67 gc g j hjl
                        clear hxv hfar
                        go_upto_region 41 with fail
                        go_quiet (fail)
                        have HDq := Lib.hid (HDu.out.below (bdrewN (Below.refl wr.heap.size wr) nq))
                        have HRq := Lib.hid (RowC.below HRu.out (bdrewN (Below.refl wr.heap.size wr) nq))
                        clear c1 c2
                        go_wp2_with fail
                        go_roundw
                        case rel => exact ⟨j + 1, by omega, by go_num, HDq.out, HRq.out⟩
                        case measure => simp [intOf]; omega
              · have hjn : ¬ (j : Int) < 67 := by omega
                have hi2 := HI.out
                have hi8 : (i : Int) < 80 := by omega
                go_wp2_with fail
                go_roundw
                case rel => exact ⟨i + 1, O2, mm', n5, L', by omega, by omega, by go_num, ⟨HDj.out.q.fewer (fun b h => .inl h), HL2.out.2.2.1, HDj.out.m, HL.out⟩, by have := HN5.out; omega, HDj.out.b⟩
                case measure => simp [intOf]; omega
    · have hend : ¬ (i : Int) < (len : Int) ∨ ((i : Int) < (len : Int) ∧ ¬ (i : Int) < 80) := by omega
      rcases hend with h1 | ⟨h1, h2⟩
      · go_wp2_with fail
        go_ret
        exact ⟨rfl, hb⟩
      · go_wp2_with fail
        go_ret
        exact ⟨rfl, hb⟩
end Go.Proofs.YtldofbkjjmnooaaGreat
