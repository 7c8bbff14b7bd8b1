/- Layer 10's laws: QueueRefused. Written by tools/gen_qref.py. -/
import Derived.Test.YtlmjlnlnbjfhnaaGreatQuU
namespace Go.Proofs.YtlmjlnlnbjfhnaaGreat
open Go.ChangeShapes Go.WideShapes Go.ChangeAt Go.RowKit
set_option linter.unusedVariables false
set_option maxRecDepth 100000
set_option linter.unusedSimpArgs false
/-- are a map and a place right, of 67 cells? -/
def Rq (T O K a : Int) : Bool := rightS T O K && (decide (2 + O + 6 * T + 8 * K ≤ 67) && decide (0 ≤ a) && decide (a < 66))
theorem rq_fit (m : Mp) (a : Int) (hm : m.ok) : Rq m.t m.o m.n a = fitS m 67 a := by
  unfold Rq fitS
  rw [right_ok hm, show ((sizeN m : Nat) : Int) = 2 + (m.o : Int) + 6 * (m.t : Int) + 8 * (m.n : Int) by unfold sizeN; omega, show (67 : Int) - 1 = 66 by decide]
  simp
theorem bad_one (T O K a t : Int) (h : Rq T O K a = false ∨ ¬ (0 ≤ t ∧ t < T)) (W : World) (B : Nat) (hB : B < W.heap.size) (hc : W.cell? ⟨B, 0, none⟩ = some (.int .i64 t)) :
    Calls Tryz.prog 40 #[.int .i64 67, .agg #[.int .i64 T, .int .i64 O, .int .i64 K], .int .i64 a, .slice (some ⟨B, 0, none⟩) 1 1] W fun e w' => e = .returned (.bool false) ∧ Below W.heap.size W w' := by
  by_cases ht : 0 ≤ t ∧ t < T
  · cases hr : rightS T O K with
    | false => exact qright_one_wrong T O K 67 a t B W hr hB hc
    | true =>
      obtain ⟨m, hm, rfl, rfl, rfl⟩ := right_mp hr
      have h1 := h.resolve_right (fun h => h ht)
      rw [rq_fit m a hm] at h1
      have := qright_one m 67 a t B W hm ⟨by omega, by omega⟩ ht hB hc
      rw [h1] at this
      exact this
  · exact qright_one_out T O K 67 a t B W ht hB hc
theorem bad_none (T O K a : Int) (h : Rq T O K a = false) (W : World) :
    Calls Tryz.prog 40 #[.int .i64 67, .agg #[.int .i64 T, .int .i64 O, .int .i64 K], .int .i64 a, .slice none 0 0] W fun e w' => e = .returned (.bool false) ∧ Below W.heap.size W w' := by
  cases hr : rightS T O K with
  | false => exact qright_none_wrong T O K 67 a W hr
  | true =>
    obtain ⟨m, hm, rfl, rfl, rfl⟩ := right_mp hr
    rw [rq_fit m a hm] at h
    have := qright_none m 67 a W hm ⟨by omega, by omega⟩
    rw [h] at this
    exact this
theorem good_none (T O K a : Int) (h : Rq T O K a = true) : ∃ m : Mp, m.ok ∧ T = m.t ∧ O = m.o ∧ K = m.n ∧ 0 ≤ a ∧ a < 66 ∧ ∀ W, Calls Tryz.prog 40 #[.int .i64 67, mapV m, .int .i64 a, .slice none 0 0] W fun e w' => e = .returned (.bool true) ∧ Below W.heap.size W w' := by
  have hr : rightS T O K = true := by unfold Rq at h; simp at h; exact h.1
  obtain ⟨m, hm, rfl, rfl, rfl⟩ := right_mp hr
  have h2 := h
  unfold Rq at h2
  simp at h2
  refine ⟨m, hm, rfl, rfl, rfl, h2.2.1.2, h2.2.2, fun W => ?_⟩
  have := qright_none m 67 a W hm ⟨by omega, by omega⟩
  rw [rq_fit m a hm] at h
  rw [h] at this
  exact this
theorem look_no (cp : Option Addr) (t o k a : Int) (N : Nat) (w : World) (hall : ∀ W, Below w.heap.size w W → Calls Tryz.prog 12 #[.pointer cp] W fun e w' => ∃ u c, e = .returned (.slice u N c) ∧ Below W.heap.size W w')
    (hright : ∀ W, Calls Tryz.prog 40 #[.int .i64 (N : Int), .agg #[.int .i64 t, .int .i64 o, .int .i64 k], .int .i64 a, .slice none 0 0] W fun e w' => e = .returned (.bool false) ∧ Below W.heap.size W w') :
    Calls Tryz.prog 24 #[.pointer cp, .agg #[.int .i64 t, .int .i64 o, .int .i64 k], .int .i64 a] w fun e w' => e = .returned (.slice none 0 0) ∧ Below w.heap.size w w' := by
  have HA := Lib.hid hall
  have HR := Lib.hid hright
  clear hall hright
  go_enter Tryz.func24, Tryz.ntmps24
  go_upto_region 1 with fail
  generalize hW : (w.alloc _) = W
  have bW : Below w.heap.size w W := by rw [← hW]; go_grown
  have q0 : Blk W w.heap.size 24 #[.int .i64 t, .int .i64 o, .int .i64 k] := by rw [← hW]; exact Blk.new w _ _
  clear hW
  have HA2 := Lib.hid (HA.out W bW)
  go_wp2_with (first
    | (go_at_call 12; (with_reducible refine HA2.out.mono ?_); rintro e w2 ⟨u, c, rfl, hb2⟩; have q2 := q0.below hb2 q0.lt; have c0 := q2.cell 0 _ rfl; have c1 := q2.cell 1 _ rfl; have c2 := q2.cell 2 _ rfl)
    | (go_at_call 40; (with_reducible refine (HR.out _).mono ?_); rintro e w3 ⟨rfl, hb3⟩))
  go_ret
  exact ⟨rfl, (bW.trans (hb2.mono bW.size)).trans (hb3.mono (by have := bW.size; have := hb2.size; omega))⟩
/-- a task that is refused: done, with -1 -/
def NoTask (w : World) (t : Nat) : Prop := DoneV w (some ⟨t, 0, none⟩) (-1)
theorem madeM_no {w w' : World} {t : Nat} (h : MadeM (cellOps 0 0) w (fun b => w.heap.size ≤ b) (retT (-1)) t w') : NoTask w' t := by
  obtain ⟨M, hJ⟩ := h.2.1
  exact (TkM.new (Q := fun b => w.heap.size ≤ b) hJ h.1).done
theorem NoTask.below {w w1 : World} {t : Nat} (h : NoTask w t) (hb : Below w.heap.size w w1) : NoTask w1 t := h.keep (F := fun _ => False) (Keep.ofBelow hb) (fun _ _ h => h)
section
variable {w : World} {C S : Nat} {mm : List Int} {L : Nat → List Int}
theorem rlen (h : WQ w C S mm 0 L) : ∀ W, Below w.heap.size w W → Calls Tryz.prog 30 #[cellsV C] W fun e w' => e = .returned (.int .i64 67) ∧ Below W.heap.size W w' := fun W hW => by
  have := len_any C S mm 0 W (h.cells.keep (Q := fun _ => False) (Keep.ofBelow hW) (fun h => h) (fun h => h))
  rwa [show ((mm.length : Nat) : Int) = 67 by rw [h.qs.len]; rfl] at this
theorem rpush (h : WQ w C S mm 0 L) (T O K a t : Int) (hb : Rq T O K a = false ∨ ¬ (0 ≤ t ∧ t < T)) :
    Calls Tryz.prog 15 #[cellsV C, .agg #[.int .i64 T, .int .i64 O, .int .i64 K], .int .i64 a, .int .i64 t] w fun e w' => ∃ t', e = .returned (pV t') ∧ NoTask w' t' ∧ Below w.heap.size w w' :=
  (push_no 0 0 (cellsV C) T O K a 67 t (fun b => w.heap.size ≤ b) w (.inr ⟨C, rfl⟩) (rlen h) (fun W B hB hc => bad_one T O K a t hb W B hB hc) (fun _ h => h)).mono (by rintro e w' ⟨t', rfl, hM⟩; exact ⟨t', rfl, madeM_no hM, hM.2.2⟩)
theorem rrem (h : WQ w C S mm 0 L) (T O K a t : Int) (hb : Rq T O K a = false ∨ ¬ (0 ≤ t ∧ t < T)) :
    Calls Tryz.prog 19 #[cellsV C, .agg #[.int .i64 T, .int .i64 O, .int .i64 K], .int .i64 a, .int .i64 t] w fun e w' => ∃ t', e = .returned (pV t') ∧ NoTask w' t' ∧ Below w.heap.size w w' :=
  (rem_no 0 0 (cellsV C) T O K a 67 t (fun b => w.heap.size ≤ b) w (.inr ⟨C, rfl⟩) (rlen h) (fun W B hB hc => bad_one T O K a t hb W B hB hc) (fun _ h => h)).mono (by rintro e w' ⟨t', rfl, hM⟩; exact ⟨t', rfl, madeM_no hM, hM.2.2⟩)
theorem rpop (h : WQ w C S mm 0 L) (T O K a : Int) (hb : Rq T O K a = false) :
    Calls Tryz.prog 17 #[cellsV C, .agg #[.int .i64 T, .int .i64 O, .int .i64 K], .int .i64 a] w fun e w' => ∃ t', e = .returned (pV t') ∧ NoTask w' t' ∧ Below w.heap.size w w' :=
  (pop_no 0 0 (cellsV C) T O K a 67 (fun b => w.heap.size ≤ b) w (.inr ⟨C, rfl⟩) (rlen h) (bad_none T O K a hb) (fun _ h => h)).mono (by rintro e w' ⟨t', rfl, hM⟩; exact ⟨t', rfl, madeM_no hM, hM.2.2⟩)
theorem rpop_on (h : WQ w C S mm 0 L) (T O K a : Int) (hb : Rq T O K a = true) :
    Calls Tryz.prog 17 #[cellsV C, .agg #[.int .i64 T, .int .i64 O, .int .i64 K], .int .i64 a] w fun e w' => ∃ t', e = .returned (pV t') ∧ Below w.heap.size w w' := by
  obtain ⟨m, hm, rfl, rfl, rfl, h0, h1, hr⟩ := good_none T O K a hb
  obtain ⟨n, rfl⟩ : ∃ n : Nat, a = n := ⟨a.toNat, by omega⟩
  exact (pop_yes C 0 n m 67 (fun b => w.heap.size ≤ b) w hm (by omega) (rlen h) hr (fun _ h => h)).mono (by rintro e w' ⟨t', rfl, hM⟩; exact ⟨t', rfl, hM.2.2⟩)
theorem rlook (h : WQ w C S mm 0 L) (T O K a : Int) (hb : Rq T O K a = false) :
    Calls Tryz.prog 24 #[cellsV C, .agg #[.int .i64 T, .int .i64 O, .int .i64 K], .int .i64 a] w fun e w' => e = .returned (.slice none 0 0) ∧ Below w.heap.size w w' :=
  look_no _ T O K a 67 w (fun W hW => (allR_any C S mm 0 W (h.cells.keep (Q := fun _ => False) (Keep.ofBelow hW) (fun h => h) (fun h => h)) (by intro e; have := h.qs.len; rw [e] at this; simp at this)).mono (by rintro e w' ⟨g, cap, rfl, _, _, _, hb⟩; exact ⟨_, _, by rw [h.qs.len], hb⟩)) (fun W => bad_none T O K a hb W)
end
theorem nil_right (a : Nat) (W : World) : Calls Tryz.prog 40 #[.int .i64 0, mapV hereM, .int .i64 (a : Int), .slice none 0 0] W fun e w' => e = .returned (.bool false) ∧ Below W.heap.size W w' := by
  have := qright_none hereM 0 a W here_ok ⟨by omega, by omega⟩
  rw [show fitS hereM 0 a = false by unfold fitS; rw [show decide ((sizeN hereM : Int) ≤ 0) = false by decide]; rfl] at this
  exact this
theorem npop (a : Nat) (w : World) : Calls Tryz.prog 17 #[.pointer none, mapV hereM, .int .i64 (a : Int)] w fun e w' => ∃ t', e = .returned (pV t') ∧ NoTask w' t' ∧ Below w.heap.size w w' :=
  (pop_no 0 0 (.pointer none) _ _ _ (a : Int) 0 (fun b => w.heap.size ≤ b) w (.inl rfl) (fun W _ => len_nil W) (nil_right a) (fun _ h => h)).mono (by rintro e w' ⟨t', rfl, hM⟩; exact ⟨t', rfl, madeM_no hM, hM.2.2⟩)
theorem nlook (a : Nat) (w : World) : Calls Tryz.prog 24 #[.pointer none, mapV hereM, .int .i64 (a : Int)] w fun e w' => e = .returned (.slice none 0 0) ∧ Below w.heap.size w w' :=
  look_no none _ _ _ (a : Int) 0 w (fun W _ => (all_nil W).mono (by rintro e w' ⟨rfl, hb⟩; exact ⟨_, _, rfl, hb⟩)) (nil_right a)
theorem next_of (a : Int) (ha : -9223372036854775808 ≤ a ∧ a ≤ 9223372036854775807) (h : ¬ a < 66) (hb : wrap64 (a + 1) < 67) : ¬ a < 1099511627776 := by
  unfold wrap64 at hb
  omega
theorem size_right (T O K : Int) (h : rightS T O K = true) : ∃ z : Int, z = 2 + O + 6 * T + 8 * K ∧ ∀ W, Calls Tryz.prog 9 #[.agg #[.int .i64 T, .int .i64 O, .int .i64 K]] W fun e w' => e = .returned (.int .i64 z) ∧ Below W.heap.size W w' := by
  obtain ⟨m, hm, rfl, rfl, rfl⟩ := right_mp h
  exact ⟨(sizeN m : Int), by unfold sizeN; omega, fun W => size_any m W hm⟩
theorem rq_no {T O K z a : Int} (hz : z = 2 + O + 6 * T + 8 * K) (h : ¬ (z ≤ 67 ∧ 0 ≤ a ∧ a < 66)) : Rq T O K a = false := by
  subst hz
  unfold Rq
  simp
  intro _ h1 h2
  omega
theorem rq_yes {T O K z a : Int} (hr : rightS T O K = true) (hz : z = 2 + O + 6 * T + 8 * K) (h : z ≤ 67 ∧ 0 ≤ a ∧ a < 66) : Rq T O K a = true := by
  subst hz
  unfold Rq
  rw [hr]
  simp
  omega
set_option maxHeartbeats 8000000 in
theorem refused_law (T0 O0 K0 a t : Int) (w : World) (ha : -9223372036854775808 ≤ a ∧ a ≤ 9223372036854775807) : Calls Tryz.prog 5 #[.agg #[.int .i64 T0, .int .i64 O0, .int .i64 K0], .int .i64 a, .int .i64 t] w fun e w' => e = .returned (.bool true) ∧ Below w.heap.size w w' := by
  have HWK := Lib.hid works_any
  have HAr := Lib.hid ha
  clear ha
  go_enter Tryz.func5, Tryz.ntmps5
  go_upto_region 3 with (go_at_call 10; (with_reducible refine (HWK.out _).mono ?_); rintro e w0 ⟨rfl, b0⟩)
  have hb00 : Below w.heap.size w (w.alloc (.cells #[.int .i64 T0, .int .i64 O0, .int .i64 K0] 24)) := (Below.refl _ w).alloc (Nat.le_refl _) _
  have m0 : Blk w0 w.heap.size 24 #[.int .i64 T0, .int .i64 O0, .int .i64 K0] := (Blk.new w 24 _).below b0 (by rw [World.size_alloc]; omega)
  have bb0 : Below w.heap.size w w0 := hb00.trans (b0.mono hb00.size)
  clear hb00 b0
  go_upto_region 4 with (go_at_call 7; refine (here_any _).mono ?_; rintro e w1 ⟨rfl, b1⟩)
  have n1 : Blk (w1.alloc (.cells hereCs 24)) w1.heap.size 24 hereCs := Blk.new w1 _ _
  have b1V : Below w0.heap.size w0 (w1.alloc (.cells hereCs 24)) := b1.alloc b1.size _
  generalize hV : (w1.alloc _) = V at *
  have mV := m0.below b1V m0.lt
  have bV : Below w.heap.size w V := bb0.trans (b1V.mono bb0.size)
  have hbm : w.heap.size ≤ w1.heap.size := Nat.le_trans bb0.size b1.size
  clear hV m0 bb0 b1V b1
  generalize w1.heap.size = bm at *
  obtain ⟨d0, d1, d2⟩ := hereC n1
  have HSz := Lib.hid (size_any hereM V here_ok)
  go_upto_region 5 with (first
    | (go_at_call 9; (with_reducible refine HSz.out.mono ?_); rintro e w2 ⟨rfl, b2⟩; have HNw := Lib.hid (vnew w2 rfl))
    | (go_at_call 8; (with_reducible refine HNw.out.mono ?_); rintro e w3 ⟨C, S, mm, rfl, hq, b3, hC, hS⟩))
  have b23 : Below V.heap.size V w3 := b2.trans (b3.mono b2.size)
  have n3 := n1.below b23 n1.lt
  have m3 := mV.below b23 mV.lt
  have B3 : Below w.heap.size w w3 := bV.trans (b23.mono bV.size)
  clear d0 d1 d2 n1 mV bV b2 b3 b23 hC hS
  obtain ⟨d0, d1, d2⟩ := hereC n3
  have f0 := m3.cell 0 _ rfl
  have f1 := m3.cell 1 _ rfl
  have f2 := m3.cell 2 _ rfl
  go_wp2_with fail
  go_loopw [24] (fun v wr => ∃ i : Nat, i ≤ 2 ∧ v = .int .i64 (i : Int) ∧ WQ wr C S mm 0 (L4 [] [] [] []) ∧ Blk wr bm 24 hereCs ∧ Below w.heap.size w wr)
    (fun v _ => 2 - (intOf v).toNat)
  case atStart => exact ⟨0, by omega, rfl, hq, n3, B3⟩
  case round =>
    clear hq n3 m3 B3 d0 d1 d2 f0 f1 f2
    obtain ⟨i, hi, rfl, hq, hn, hb⟩ := hrel
    by_cases hi2 : i < 2
    · obtain ⟨T, O, K, hidx⟩ : ∃ T O K : Int, ∀ W, (Instr.index 54 (.agg #[.int .i64 T0, .int .i64 O0, .int .i64 K0, .int .i64 (hereM.t : Int), .int .i64 (hereM.o : Int), .int .i64 (hereM.n : Int)]) (.int .i64 (i : Int))).run Tryz.prog W = .ok (.agg #[.int .i64 T, .int .i64 O, .int .i64 K]) W := by
        have hc : i = 0 ∨ i = 1 := by omega
        rcases hc with rfl | rfl
        · exact ⟨T0, O0, K0, fun W => by kernel_rfl⟩
        · exact ⟨(hereM.t : Int), (hereM.o : Int), (hereM.n : Int), fun W => by kernel_rfl⟩
      have hlt : (i : Int) < 2 := by omega
      have HI := Lib.hid (And.intro hi2 hi)
      clear hi2 hi
      go_upto_region 8 with fail
      have x0 : Blk (wr.alloc (.cells #[.int .i64 T, .int .i64 O, .int .i64 K] 24)) wr.heap.size 24 #[.int .i64 T, .int .i64 O, .int .i64 K] := Blk.new wr _ _
      have bX : Below wr.heap.size wr (wr.alloc (.cells #[.int .i64 T, .int .i64 O, .int .i64 K] 24)) := (Below.refl _ wr).alloc (Nat.le_refl _) _
      generalize hX : (wr.alloc _) = X at *
      have hqX := hq.below bX
      have hnX := hn.below bX hn.lt
      have hbX : Below w.heap.size w X := hb.trans (bX.mono hb.size)
      clear hX hq hn hb bX
      generalize wr.heap.size = bx at *
      have e0 := x0.cell 0 _ rfl
      have e1 := x0.cell 1 _ rfl
      have e2 := x0.cell 2 _ rfl
      have HQ := Lib.hid hqX
      have HN := Lib.hid hnX
      have HB := Lib.hid hbX
      have HX := Lib.hid x0
      clear hqX hnX hbX x0 hidx
      have HRt := Lib.hid (right_any T O K X)
      cases hr : rightS T O K with
      | false =>
        rw [hr] at HRt
        have HR := Lib.hid (show Rq T O K a = false by unfold Rq; rw [hr]; rfl)
        have HP := Lib.hid fun W (h : WQ W C S mm 0 (L4 [] [] [] [])) => rpush h T O K a t (.inl HR.out)
        have HV := Lib.hid fun W (h : WQ W C S mm 0 (L4 [] [] [] [])) => rrem h T O K a t (.inl HR.out)
        have HO := Lib.hid fun W (h : WQ W C S mm 0 (L4 [] [] [] [])) => rpop h T O K a HR.out
        have HK := Lib.hid fun W (h : WQ W C S mm 0 (L4 [] [] [] [])) => rlook h T O K a HR.out
        go_upto_region 10 with (first
          | (go_at_call 29; (with_reducible refine HRt.out.mono ?_); rintro e wa ⟨rfl, hb⟩; have HQ := Lib.hid (HQ.out.below hb); have HN := Lib.hid (HN.out.below hb HN.out.lt); have HX := Lib.hid (HX.out.below hb HX.out.lt); have HB := Lib.hid (HB.out.trans (hb.mono HB.out.size)); clear e0 e1 e2; have e0 := HX.out.cell 0 _ rfl; have e1 := HX.out.cell 1 _ rfl; have e2 := HX.out.cell 2 _ rfl; clear hb HRt))
        have SK := Lib.hid fun A (hA : Below wa.heap.size wa A) => And.intro ((HX.out.below hA HX.out.lt).cell 0 _ rfl) (And.intro ((HX.out.below hA HX.out.lt).cell 1 _ rfl) ((HX.out.below hA HX.out.lt).cell 2 _ rfl))
        have bd := bdrewE wa
        have HP2 := Lib.hid (HP.out wa.drew (HQ.out.below bd))
        go_region_held3 (fun A => A.cell? ⟨bx, 0, none⟩ = some (.int .i64 T) ∧ A.cell? ⟨bx, 1, none⟩ = some (.int .i64 O) ∧ A.cell? ⟨bx, 2, none⟩ = some (.int .i64 K)) (first | exact SK.out _ b3 | exact SK.out _ b2 | exact SK.out _ bd) (first
          | (go_at_call 15; (with_reducible refine HP2.out.mono ?_); rintro e wb ⟨ta, rfl, ha, hb⟩; have b2 : Below wa.heap.size wa wb := bd.trans hb; have HV2 := Lib.hid (HV.out wb (HQ.out.below b2)); have HTa := Lib.hid ha)
          | (go_at_call 19; (with_reducible refine HV2.out.mono ?_); rintro e wc ⟨tb, rfl, ha, hb'⟩; have b3 : Below wa.heap.size wa wc := b2.trans (hb'.mono b2.size); have HTa := Lib.hid (HTa.out.below hb'); have HTb := Lib.hid ha))
        have hb := b3
        have HQ := Lib.hid (HQ.out.below hb); have HN := Lib.hid (HN.out.below hb HN.out.lt); have HX := Lib.hid (HX.out.below hb HX.out.lt); have HB := Lib.hid (HB.out.trans (hb.mono HB.out.size)); clear e0 e1 e2; have e0 := HX.out.cell 0 _ rfl; have e1 := HX.out.cell 1 _ rfl; have e2 := HX.out.cell 2 _ rfl
        clear hb b2 b3 bd SK
        go_wp2_with (first
          | (go_at_call 17; (with_reducible refine (HO.out _ HQ.out).mono ?_); rintro e wd ⟨td, rfl, hd, hb⟩; have HQ := Lib.hid (HQ.out.below hb); have HN := Lib.hid (HN.out.below hb HN.out.lt); have HX := Lib.hid (HX.out.below hb HX.out.lt); have HB := Lib.hid (HB.out.trans (hb.mono HB.out.size)); clear e0 e1 e2; have e0 := HX.out.cell 0 _ rfl; have e1 := HX.out.cell 1 _ rfl; have e2 := HX.out.cell 2 _ rfl; have HTa := Lib.hid (HTa.out.below hb); have HTb := Lib.hid (HTb.out.below hb); have HTd := Lib.hid hd; clear hb hd; have HDa := Lib.hid (doneV_done _ _ wd HTa.out); have HVa := Lib.hid (doneV_value _ _ wd HTa.out); have HDb := Lib.hid (doneV_done _ _ wd HTb.out); have HVb := Lib.hid (doneV_value _ _ wd HTb.out); have HDd := Lib.hid (doneV_done _ _ wd HTd.out); have HVd := Lib.hid (doneV_value _ _ wd HTd.out); have HK2 := Lib.hid (HK.out wd HQ.out))
          | (go_at_call 31; (with_reducible refine HDa.out.mono ?_); rintro e we ⟨rfl, rfl⟩)
          | (go_at_call 31; (with_reducible refine HDb.out.mono ?_); rintro e we ⟨rfl, rfl⟩)
          | (go_at_call 31; (with_reducible refine HDd.out.mono ?_); rintro e we ⟨rfl, rfl⟩)
          | (go_at_call 22; (with_reducible refine HVa.out.mono ?_); rintro e we ⟨rfl, rfl⟩)
          | (go_at_call 22; (with_reducible refine HVb.out.mono ?_); rintro e we ⟨rfl, rfl⟩)
          | (go_at_call 22; (with_reducible refine HVd.out.mono ?_); rintro e we ⟨rfl, rfl⟩)
          | (go_at_call 24; (with_reducible refine HK2.out.mono ?_); rintro e wf ⟨rfl, hb⟩; have HQ := Lib.hid (HQ.out.below hb); have HN := Lib.hid (HN.out.below hb HN.out.lt); have HX := Lib.hid (HX.out.below hb HX.out.lt); have HB := Lib.hid (HB.out.trans (hb.mono HB.out.size)); clear e0 e1 e2; have e0 := HX.out.cell 0 _ rfl; have e1 := HX.out.cell 1 _ rfl; have e2 := HX.out.cell 2 _ rfl))
        have hI1 := HI.out
        go_roundw
        case rel => exact ⟨i + 1, by omega, by go_num, HQ.out, HN.out, HB.out⟩
        case measure => simp [intOf]; omega

      | true =>
        rw [hr] at HRt
        obtain ⟨z, hz, hZ⟩ := size_right T O K hr
        have HZ := Lib.hid hZ
        clear hZ
        by_cases h1 : z ≤ 67
        · by_cases h2 : 0 ≤ a
          · by_cases h3 : a < 66
            · have HR := Lib.hid (rq_yes hr hz ⟨h1, h2, h3⟩)
              have h4 : a + 1 < 67 := by omega
              have h5 : a < 1099511627776 := by omega
              clear hr hz
              by_cases h6 : 0 ≤ t
              · by_cases h7 : t < T
                · skip
                  go_wp2_with (first
                    | (go_at_call 29; (with_reducible refine HRt.out.mono ?_); rintro e wa ⟨rfl, hb⟩; have HQ := Lib.hid (HQ.out.below hb); have HN := Lib.hid (HN.out.below hb HN.out.lt); have HX := Lib.hid (HX.out.below hb HX.out.lt); have HB := Lib.hid (HB.out.trans (hb.mono HB.out.size)); clear e0 e1 e2; have e0 := HX.out.cell 0 _ rfl; have e1 := HX.out.cell 1 _ rfl; have e2 := HX.out.cell 2 _ rfl; have HZ2 := Lib.hid (HZ.out wa); clear hb HRt)
                    | (go_at_call 9; (with_reducible refine HZ2.out.mono ?_); rintro e wa ⟨rfl, hb⟩; have HQ := Lib.hid (HQ.out.below hb); have HN := Lib.hid (HN.out.below hb HN.out.lt); have HX := Lib.hid (HX.out.below hb HX.out.lt); have HB := Lib.hid (HB.out.trans (hb.mono HB.out.size)); clear e0 e1 e2; have e0 := HX.out.cell 0 _ rfl; have e1 := HX.out.cell 1 _ rfl; have e2 := HX.out.cell 2 _ rfl; have HL2 := Lib.hid (rlen HQ.out wa (Below.refl _ wa)); clear hb HZ2)
                    | (go_at_call 30; (with_reducible refine HL2.out.mono ?_); rintro e wa ⟨rfl, hb⟩; have HQ := Lib.hid (HQ.out.below hb); have HN := Lib.hid (HN.out.below hb HN.out.lt); have HX := Lib.hid (HX.out.below hb HX.out.lt); have HB := Lib.hid (HB.out.trans (hb.mono HB.out.size)); clear e0 e1 e2; have e0 := HX.out.cell 0 _ rfl; have e1 := HX.out.cell 1 _ rfl; have e2 := HX.out.cell 2 _ rfl; clear HL2; have HL2 := Lib.hid (rlen HQ.out wa (Below.refl _ wa)); clear hb))
                  have hI1 := HI.out
                  go_roundw
                  case rel => exact ⟨i + 1, by omega, by go_num, HQ.out, HN.out, HB.out⟩
                  case measure => simp [intOf]; omega

                · have HT := Lib.hid (show ¬ (0 ≤ t ∧ t < T) from fun h => h7 h.2)
                  have HP := Lib.hid fun W (h : WQ W C S mm 0 (L4 [] [] [] [])) => rpush h T O K a t (.inr HT.out)
                  have HV := Lib.hid fun W (h : WQ W C S mm 0 (L4 [] [] [] [])) => rrem h T O K a t (.inr HT.out)
                  have HO := Lib.hid fun W (h : WQ W C S mm 0 (L4 [] [] [] [])) => rpop_on h T O K a HR.out
                  go_upto_region 10 with (first
                    | (go_at_call 29; (with_reducible refine HRt.out.mono ?_); rintro e wa ⟨rfl, hb⟩; have HQ := Lib.hid (HQ.out.below hb); have HN := Lib.hid (HN.out.below hb HN.out.lt); have HX := Lib.hid (HX.out.below hb HX.out.lt); have HB := Lib.hid (HB.out.trans (hb.mono HB.out.size)); clear e0 e1 e2; have e0 := HX.out.cell 0 _ rfl; have e1 := HX.out.cell 1 _ rfl; have e2 := HX.out.cell 2 _ rfl; have HZ2 := Lib.hid (HZ.out wa); clear hb HRt)
                    | (go_at_call 9; (with_reducible refine HZ2.out.mono ?_); rintro e wa ⟨rfl, hb⟩; have HQ := Lib.hid (HQ.out.below hb); have HN := Lib.hid (HN.out.below hb HN.out.lt); have HX := Lib.hid (HX.out.below hb HX.out.lt); have HB := Lib.hid (HB.out.trans (hb.mono HB.out.size)); clear e0 e1 e2; have e0 := HX.out.cell 0 _ rfl; have e1 := HX.out.cell 1 _ rfl; have e2 := HX.out.cell 2 _ rfl; have HL2 := Lib.hid (rlen HQ.out wa (Below.refl _ wa)); clear hb HZ2)
                    | (go_at_call 30; (with_reducible refine HL2.out.mono ?_); rintro e wa ⟨rfl, hb⟩; have HQ := Lib.hid (HQ.out.below hb); have HN := Lib.hid (HN.out.below hb HN.out.lt); have HX := Lib.hid (HX.out.below hb HX.out.lt); have HB := Lib.hid (HB.out.trans (hb.mono HB.out.size)); clear e0 e1 e2; have e0 := HX.out.cell 0 _ rfl; have e1 := HX.out.cell 1 _ rfl; have e2 := HX.out.cell 2 _ rfl; clear HL2; have HL2 := Lib.hid (rlen HQ.out wa (Below.refl _ wa)); clear hb))
                  have SK := Lib.hid fun A (hA : Below wa.heap.size wa A) => And.intro ((HX.out.below hA HX.out.lt).cell 0 _ rfl) (And.intro ((HX.out.below hA HX.out.lt).cell 1 _ rfl) ((HX.out.below hA HX.out.lt).cell 2 _ rfl))
                  have bd := bdrewE wa
                  have HP2 := Lib.hid (HP.out wa.drew (HQ.out.below bd))
                  go_region_held3 (fun A => A.cell? ⟨bx, 0, none⟩ = some (.int .i64 T) ∧ A.cell? ⟨bx, 1, none⟩ = some (.int .i64 O) ∧ A.cell? ⟨bx, 2, none⟩ = some (.int .i64 K)) (first | exact SK.out _ b3 | exact SK.out _ b2 | exact SK.out _ bd) (first
                    | (go_at_call 15; (with_reducible refine HP2.out.mono ?_); rintro e wb ⟨ta, rfl, ha, hb⟩; have b2 : Below wa.heap.size wa wb := bd.trans hb; have HV2 := Lib.hid (HV.out wb (HQ.out.below b2)); have HTa := Lib.hid ha)
                    | (go_at_call 19; (with_reducible refine HV2.out.mono ?_); rintro e wc ⟨tb, rfl, ha, hb'⟩; have b3 : Below wa.heap.size wa wc := b2.trans (hb'.mono b2.size); have HTa := Lib.hid (HTa.out.below hb'); have HTb := Lib.hid ha))
                  have hb := b3
                  have HQ := Lib.hid (HQ.out.below hb); have HN := Lib.hid (HN.out.below hb HN.out.lt); have HX := Lib.hid (HX.out.below hb HX.out.lt); have HB := Lib.hid (HB.out.trans (hb.mono HB.out.size)); clear e0 e1 e2; have e0 := HX.out.cell 0 _ rfl; have e1 := HX.out.cell 1 _ rfl; have e2 := HX.out.cell 2 _ rfl
                  clear hb b2 b3 bd SK
                  go_wp2_with (first
                    | (go_at_call 17; (with_reducible refine (HO.out _ HQ.out).mono ?_); rintro e wd ⟨td, rfl, hb⟩; have HQ := Lib.hid (HQ.out.below hb); have HN := Lib.hid (HN.out.below hb HN.out.lt); have HX := Lib.hid (HX.out.below hb HX.out.lt); have HB := Lib.hid (HB.out.trans (hb.mono HB.out.size)); clear e0 e1 e2; have e0 := HX.out.cell 0 _ rfl; have e1 := HX.out.cell 1 _ rfl; have e2 := HX.out.cell 2 _ rfl; have HTa := Lib.hid (HTa.out.below hb); have HTb := Lib.hid (HTb.out.below hb); clear hb; have HDa := Lib.hid (doneV_done _ _ wd HTa.out); have HVa := Lib.hid (doneV_value _ _ wd HTa.out); have HDb := Lib.hid (doneV_done _ _ wd HTb.out); have HVb := Lib.hid (doneV_value _ _ wd HTb.out))
                    | (go_at_call 31; (with_reducible refine HDa.out.mono ?_); rintro e we ⟨rfl, rfl⟩)
                    | (go_at_call 31; (with_reducible refine HDb.out.mono ?_); rintro e we ⟨rfl, rfl⟩)
                    | (go_at_call 22; (with_reducible refine HVa.out.mono ?_); rintro e we ⟨rfl, rfl⟩)
                    | (go_at_call 22; (with_reducible refine HVb.out.mono ?_); rintro e we ⟨rfl, rfl⟩))
                  have hI1 := HI.out
                  go_roundw
                  case rel => exact ⟨i + 1, by omega, by go_num, HQ.out, HN.out, HB.out⟩
                  case measure => simp [intOf]; omega

              · have HT := Lib.hid (show ¬ (0 ≤ t ∧ t < T) from fun h => h6 h.1)
                have HP := Lib.hid fun W (h : WQ W C S mm 0 (L4 [] [] [] [])) => rpush h T O K a t (.inr HT.out)
                have HV := Lib.hid fun W (h : WQ W C S mm 0 (L4 [] [] [] [])) => rrem h T O K a t (.inr HT.out)
                have HO := Lib.hid fun W (h : WQ W C S mm 0 (L4 [] [] [] [])) => rpop_on h T O K a HR.out
                go_upto_region 10 with (first
                  | (go_at_call 29; (with_reducible refine HRt.out.mono ?_); rintro e wa ⟨rfl, hb⟩; have HQ := Lib.hid (HQ.out.below hb); have HN := Lib.hid (HN.out.below hb HN.out.lt); have HX := Lib.hid (HX.out.below hb HX.out.lt); have HB := Lib.hid (HB.out.trans (hb.mono HB.out.size)); clear e0 e1 e2; have e0 := HX.out.cell 0 _ rfl; have e1 := HX.out.cell 1 _ rfl; have e2 := HX.out.cell 2 _ rfl; have HZ2 := Lib.hid (HZ.out wa); clear hb HRt)
                  | (go_at_call 9; (with_reducible refine HZ2.out.mono ?_); rintro e wa ⟨rfl, hb⟩; have HQ := Lib.hid (HQ.out.below hb); have HN := Lib.hid (HN.out.below hb HN.out.lt); have HX := Lib.hid (HX.out.below hb HX.out.lt); have HB := Lib.hid (HB.out.trans (hb.mono HB.out.size)); clear e0 e1 e2; have e0 := HX.out.cell 0 _ rfl; have e1 := HX.out.cell 1 _ rfl; have e2 := HX.out.cell 2 _ rfl; have HL2 := Lib.hid (rlen HQ.out wa (Below.refl _ wa)); clear hb HZ2)
                  | (go_at_call 30; (with_reducible refine HL2.out.mono ?_); rintro e wa ⟨rfl, hb⟩; have HQ := Lib.hid (HQ.out.below hb); have HN := Lib.hid (HN.out.below hb HN.out.lt); have HX := Lib.hid (HX.out.below hb HX.out.lt); have HB := Lib.hid (HB.out.trans (hb.mono HB.out.size)); clear e0 e1 e2; have e0 := HX.out.cell 0 _ rfl; have e1 := HX.out.cell 1 _ rfl; have e2 := HX.out.cell 2 _ rfl; clear HL2; have HL2 := Lib.hid (rlen HQ.out wa (Below.refl _ wa)); clear hb))
                have SK := Lib.hid fun A (hA : Below wa.heap.size wa A) => And.intro ((HX.out.below hA HX.out.lt).cell 0 _ rfl) (And.intro ((HX.out.below hA HX.out.lt).cell 1 _ rfl) ((HX.out.below hA HX.out.lt).cell 2 _ rfl))
                have bd := bdrewE wa
                have HP2 := Lib.hid (HP.out wa.drew (HQ.out.below bd))
                go_region_held3 (fun A => A.cell? ⟨bx, 0, none⟩ = some (.int .i64 T) ∧ A.cell? ⟨bx, 1, none⟩ = some (.int .i64 O) ∧ A.cell? ⟨bx, 2, none⟩ = some (.int .i64 K)) (first | exact SK.out _ b3 | exact SK.out _ b2 | exact SK.out _ bd) (first
                  | (go_at_call 15; (with_reducible refine HP2.out.mono ?_); rintro e wb ⟨ta, rfl, ha, hb⟩; have b2 : Below wa.heap.size wa wb := bd.trans hb; have HV2 := Lib.hid (HV.out wb (HQ.out.below b2)); have HTa := Lib.hid ha)
                  | (go_at_call 19; (with_reducible refine HV2.out.mono ?_); rintro e wc ⟨tb, rfl, ha, hb'⟩; have b3 : Below wa.heap.size wa wc := b2.trans (hb'.mono b2.size); have HTa := Lib.hid (HTa.out.below hb'); have HTb := Lib.hid ha))
                have hb := b3
                have HQ := Lib.hid (HQ.out.below hb); have HN := Lib.hid (HN.out.below hb HN.out.lt); have HX := Lib.hid (HX.out.below hb HX.out.lt); have HB := Lib.hid (HB.out.trans (hb.mono HB.out.size)); clear e0 e1 e2; have e0 := HX.out.cell 0 _ rfl; have e1 := HX.out.cell 1 _ rfl; have e2 := HX.out.cell 2 _ rfl
                clear hb b2 b3 bd SK
                go_wp2_with (first
                  | (go_at_call 17; (with_reducible refine (HO.out _ HQ.out).mono ?_); rintro e wd ⟨td, rfl, hb⟩; have HQ := Lib.hid (HQ.out.below hb); have HN := Lib.hid (HN.out.below hb HN.out.lt); have HX := Lib.hid (HX.out.below hb HX.out.lt); have HB := Lib.hid (HB.out.trans (hb.mono HB.out.size)); clear e0 e1 e2; have e0 := HX.out.cell 0 _ rfl; have e1 := HX.out.cell 1 _ rfl; have e2 := HX.out.cell 2 _ rfl; have HTa := Lib.hid (HTa.out.below hb); have HTb := Lib.hid (HTb.out.below hb); clear hb; have HDa := Lib.hid (doneV_done _ _ wd HTa.out); have HVa := Lib.hid (doneV_value _ _ wd HTa.out); have HDb := Lib.hid (doneV_done _ _ wd HTb.out); have HVb := Lib.hid (doneV_value _ _ wd HTb.out))
                  | (go_at_call 31; (with_reducible refine HDa.out.mono ?_); rintro e we ⟨rfl, rfl⟩)
                  | (go_at_call 31; (with_reducible refine HDb.out.mono ?_); rintro e we ⟨rfl, rfl⟩)
                  | (go_at_call 22; (with_reducible refine HVa.out.mono ?_); rintro e we ⟨rfl, rfl⟩)
                  | (go_at_call 22; (with_reducible refine HVb.out.mono ?_); rintro e we ⟨rfl, rfl⟩))
                have hI1 := HI.out
                go_roundw
                case rel => exact ⟨i + 1, by omega, by go_num, HQ.out, HN.out, HB.out⟩
                case measure => simp [intOf]; omega

            · have HR := Lib.hid (rq_no (a := a) hz (fun h => h3 h.2.2))
              clear hr hz
              have hbn := next_of a HAr.out h3
              by_cases h4 : wrap64 (a + 1) < 67
              · have h5 : ¬ a < 1099511627776 := hbn h4
                clear hbn h3
                have HP := Lib.hid fun W (h : WQ W C S mm 0 (L4 [] [] [] [])) => rpush h T O K a t (.inl HR.out)
                have HV := Lib.hid fun W (h : WQ W C S mm 0 (L4 [] [] [] [])) => rrem h T O K a t (.inl HR.out)
                have HO := Lib.hid fun W (h : WQ W C S mm 0 (L4 [] [] [] [])) => rpop h T O K a HR.out
                have HK := Lib.hid fun W (h : WQ W C S mm 0 (L4 [] [] [] [])) => rlook h T O K a HR.out
                go_upto_region 10 with (first
                  | (go_at_call 29; (with_reducible refine HRt.out.mono ?_); rintro e wa ⟨rfl, hb⟩; have HQ := Lib.hid (HQ.out.below hb); have HN := Lib.hid (HN.out.below hb HN.out.lt); have HX := Lib.hid (HX.out.below hb HX.out.lt); have HB := Lib.hid (HB.out.trans (hb.mono HB.out.size)); clear e0 e1 e2; have e0 := HX.out.cell 0 _ rfl; have e1 := HX.out.cell 1 _ rfl; have e2 := HX.out.cell 2 _ rfl; have HZ2 := Lib.hid (HZ.out wa); clear hb HRt)
                  | (go_at_call 9; (with_reducible refine HZ2.out.mono ?_); rintro e wa ⟨rfl, hb⟩; have HQ := Lib.hid (HQ.out.below hb); have HN := Lib.hid (HN.out.below hb HN.out.lt); have HX := Lib.hid (HX.out.below hb HX.out.lt); have HB := Lib.hid (HB.out.trans (hb.mono HB.out.size)); clear e0 e1 e2; have e0 := HX.out.cell 0 _ rfl; have e1 := HX.out.cell 1 _ rfl; have e2 := HX.out.cell 2 _ rfl; have HL2 := Lib.hid (rlen HQ.out wa (Below.refl _ wa)); clear hb HZ2)
                  | (go_at_call 30; (with_reducible refine HL2.out.mono ?_); rintro e wa ⟨rfl, hb⟩; have HQ := Lib.hid (HQ.out.below hb); have HN := Lib.hid (HN.out.below hb HN.out.lt); have HX := Lib.hid (HX.out.below hb HX.out.lt); have HB := Lib.hid (HB.out.trans (hb.mono HB.out.size)); clear e0 e1 e2; have e0 := HX.out.cell 0 _ rfl; have e1 := HX.out.cell 1 _ rfl; have e2 := HX.out.cell 2 _ rfl; clear HL2; have HL2 := Lib.hid (rlen HQ.out wa (Below.refl _ wa)); clear hb))
                have SK := Lib.hid fun A (hA : Below wa.heap.size wa A) => And.intro ((HX.out.below hA HX.out.lt).cell 0 _ rfl) (And.intro ((HX.out.below hA HX.out.lt).cell 1 _ rfl) ((HX.out.below hA HX.out.lt).cell 2 _ rfl))
                have bd := bdrewE wa
                have HP2 := Lib.hid (HP.out wa.drew (HQ.out.below bd))
                go_region_held3 (fun A => A.cell? ⟨bx, 0, none⟩ = some (.int .i64 T) ∧ A.cell? ⟨bx, 1, none⟩ = some (.int .i64 O) ∧ A.cell? ⟨bx, 2, none⟩ = some (.int .i64 K)) (first | exact SK.out _ b3 | exact SK.out _ b2 | exact SK.out _ bd) (first
                  | (go_at_call 15; (with_reducible refine HP2.out.mono ?_); rintro e wb ⟨ta, rfl, ha, hb⟩; have b2 : Below wa.heap.size wa wb := bd.trans hb; have HV2 := Lib.hid (HV.out wb (HQ.out.below b2)); have HTa := Lib.hid ha)
                  | (go_at_call 19; (with_reducible refine HV2.out.mono ?_); rintro e wc ⟨tb, rfl, ha, hb'⟩; have b3 : Below wa.heap.size wa wc := b2.trans (hb'.mono b2.size); have HTa := Lib.hid (HTa.out.below hb'); have HTb := Lib.hid ha))
                have hb := b3
                have HQ := Lib.hid (HQ.out.below hb); have HN := Lib.hid (HN.out.below hb HN.out.lt); have HX := Lib.hid (HX.out.below hb HX.out.lt); have HB := Lib.hid (HB.out.trans (hb.mono HB.out.size)); clear e0 e1 e2; have e0 := HX.out.cell 0 _ rfl; have e1 := HX.out.cell 1 _ rfl; have e2 := HX.out.cell 2 _ rfl
                clear hb b2 b3 bd SK
                go_wp2_with (first
                  | (go_at_call 17; (with_reducible refine (HO.out _ HQ.out).mono ?_); rintro e wd ⟨td, rfl, hd, hb⟩; have HQ := Lib.hid (HQ.out.below hb); have HN := Lib.hid (HN.out.below hb HN.out.lt); have HX := Lib.hid (HX.out.below hb HX.out.lt); have HB := Lib.hid (HB.out.trans (hb.mono HB.out.size)); clear e0 e1 e2; have e0 := HX.out.cell 0 _ rfl; have e1 := HX.out.cell 1 _ rfl; have e2 := HX.out.cell 2 _ rfl; have HTa := Lib.hid (HTa.out.below hb); have HTb := Lib.hid (HTb.out.below hb); have HTd := Lib.hid hd; clear hb hd; have HDa := Lib.hid (doneV_done _ _ wd HTa.out); have HVa := Lib.hid (doneV_value _ _ wd HTa.out); have HDb := Lib.hid (doneV_done _ _ wd HTb.out); have HVb := Lib.hid (doneV_value _ _ wd HTb.out); have HDd := Lib.hid (doneV_done _ _ wd HTd.out); have HVd := Lib.hid (doneV_value _ _ wd HTd.out); have HK2 := Lib.hid (HK.out wd HQ.out))
                  | (go_at_call 31; (with_reducible refine HDa.out.mono ?_); rintro e we ⟨rfl, rfl⟩)
                  | (go_at_call 31; (with_reducible refine HDb.out.mono ?_); rintro e we ⟨rfl, rfl⟩)
                  | (go_at_call 31; (with_reducible refine HDd.out.mono ?_); rintro e we ⟨rfl, rfl⟩)
                  | (go_at_call 22; (with_reducible refine HVa.out.mono ?_); rintro e we ⟨rfl, rfl⟩)
                  | (go_at_call 22; (with_reducible refine HVb.out.mono ?_); rintro e we ⟨rfl, rfl⟩)
                  | (go_at_call 22; (with_reducible refine HVd.out.mono ?_); rintro e we ⟨rfl, rfl⟩)
                  | (go_at_call 24; (with_reducible refine HK2.out.mono ?_); rintro e wf ⟨rfl, hb⟩; have HQ := Lib.hid (HQ.out.below hb); have HN := Lib.hid (HN.out.below hb HN.out.lt); have HX := Lib.hid (HX.out.below hb HX.out.lt); have HB := Lib.hid (HB.out.trans (hb.mono HB.out.size)); clear e0 e1 e2; have e0 := HX.out.cell 0 _ rfl; have e1 := HX.out.cell 1 _ rfl; have e2 := HX.out.cell 2 _ rfl))
                have hI1 := HI.out
                go_roundw
                case rel => exact ⟨i + 1, by omega, by go_num, HQ.out, HN.out, HB.out⟩
                case measure => simp [intOf]; omega

              · clear hbn h3
                have HP := Lib.hid fun W (h : WQ W C S mm 0 (L4 [] [] [] [])) => rpush h T O K a t (.inl HR.out)
                have HV := Lib.hid fun W (h : WQ W C S mm 0 (L4 [] [] [] [])) => rrem h T O K a t (.inl HR.out)
                have HO := Lib.hid fun W (h : WQ W C S mm 0 (L4 [] [] [] [])) => rpop h T O K a HR.out
                have HK := Lib.hid fun W (h : WQ W C S mm 0 (L4 [] [] [] [])) => rlook h T O K a HR.out
                go_upto_region 10 with (first
                  | (go_at_call 29; (with_reducible refine HRt.out.mono ?_); rintro e wa ⟨rfl, hb⟩; have HQ := Lib.hid (HQ.out.below hb); have HN := Lib.hid (HN.out.below hb HN.out.lt); have HX := Lib.hid (HX.out.below hb HX.out.lt); have HB := Lib.hid (HB.out.trans (hb.mono HB.out.size)); clear e0 e1 e2; have e0 := HX.out.cell 0 _ rfl; have e1 := HX.out.cell 1 _ rfl; have e2 := HX.out.cell 2 _ rfl; have HZ2 := Lib.hid (HZ.out wa); clear hb HRt)
                  | (go_at_call 9; (with_reducible refine HZ2.out.mono ?_); rintro e wa ⟨rfl, hb⟩; have HQ := Lib.hid (HQ.out.below hb); have HN := Lib.hid (HN.out.below hb HN.out.lt); have HX := Lib.hid (HX.out.below hb HX.out.lt); have HB := Lib.hid (HB.out.trans (hb.mono HB.out.size)); clear e0 e1 e2; have e0 := HX.out.cell 0 _ rfl; have e1 := HX.out.cell 1 _ rfl; have e2 := HX.out.cell 2 _ rfl; have HL2 := Lib.hid (rlen HQ.out wa (Below.refl _ wa)); clear hb HZ2)
                  | (go_at_call 30; (with_reducible refine HL2.out.mono ?_); rintro e wa ⟨rfl, hb⟩; have HQ := Lib.hid (HQ.out.below hb); have HN := Lib.hid (HN.out.below hb HN.out.lt); have HX := Lib.hid (HX.out.below hb HX.out.lt); have HB := Lib.hid (HB.out.trans (hb.mono HB.out.size)); clear e0 e1 e2; have e0 := HX.out.cell 0 _ rfl; have e1 := HX.out.cell 1 _ rfl; have e2 := HX.out.cell 2 _ rfl; clear HL2; have HL2 := Lib.hid (rlen HQ.out wa (Below.refl _ wa)); clear hb))
                have SK := Lib.hid fun A (hA : Below wa.heap.size wa A) => And.intro ((HX.out.below hA HX.out.lt).cell 0 _ rfl) (And.intro ((HX.out.below hA HX.out.lt).cell 1 _ rfl) ((HX.out.below hA HX.out.lt).cell 2 _ rfl))
                have bd := bdrewE wa
                have HP2 := Lib.hid (HP.out wa.drew (HQ.out.below bd))
                go_region_held3 (fun A => A.cell? ⟨bx, 0, none⟩ = some (.int .i64 T) ∧ A.cell? ⟨bx, 1, none⟩ = some (.int .i64 O) ∧ A.cell? ⟨bx, 2, none⟩ = some (.int .i64 K)) (first | exact SK.out _ b3 | exact SK.out _ b2 | exact SK.out _ bd) (first
                  | (go_at_call 15; (with_reducible refine HP2.out.mono ?_); rintro e wb ⟨ta, rfl, ha, hb⟩; have b2 : Below wa.heap.size wa wb := bd.trans hb; have HV2 := Lib.hid (HV.out wb (HQ.out.below b2)); have HTa := Lib.hid ha)
                  | (go_at_call 19; (with_reducible refine HV2.out.mono ?_); rintro e wc ⟨tb, rfl, ha, hb'⟩; have b3 : Below wa.heap.size wa wc := b2.trans (hb'.mono b2.size); have HTa := Lib.hid (HTa.out.below hb'); have HTb := Lib.hid ha))
                have hb := b3
                have HQ := Lib.hid (HQ.out.below hb); have HN := Lib.hid (HN.out.below hb HN.out.lt); have HX := Lib.hid (HX.out.below hb HX.out.lt); have HB := Lib.hid (HB.out.trans (hb.mono HB.out.size)); clear e0 e1 e2; have e0 := HX.out.cell 0 _ rfl; have e1 := HX.out.cell 1 _ rfl; have e2 := HX.out.cell 2 _ rfl
                clear hb b2 b3 bd SK
                go_wp2_with (first
                  | (go_at_call 17; (with_reducible refine (HO.out _ HQ.out).mono ?_); rintro e wd ⟨td, rfl, hd, hb⟩; have HQ := Lib.hid (HQ.out.below hb); have HN := Lib.hid (HN.out.below hb HN.out.lt); have HX := Lib.hid (HX.out.below hb HX.out.lt); have HB := Lib.hid (HB.out.trans (hb.mono HB.out.size)); clear e0 e1 e2; have e0 := HX.out.cell 0 _ rfl; have e1 := HX.out.cell 1 _ rfl; have e2 := HX.out.cell 2 _ rfl; have HTa := Lib.hid (HTa.out.below hb); have HTb := Lib.hid (HTb.out.below hb); have HTd := Lib.hid hd; clear hb hd; have HDa := Lib.hid (doneV_done _ _ wd HTa.out); have HVa := Lib.hid (doneV_value _ _ wd HTa.out); have HDb := Lib.hid (doneV_done _ _ wd HTb.out); have HVb := Lib.hid (doneV_value _ _ wd HTb.out); have HDd := Lib.hid (doneV_done _ _ wd HTd.out); have HVd := Lib.hid (doneV_value _ _ wd HTd.out); have HK2 := Lib.hid (HK.out wd HQ.out))
                  | (go_at_call 31; (with_reducible refine HDa.out.mono ?_); rintro e we ⟨rfl, rfl⟩)
                  | (go_at_call 31; (with_reducible refine HDb.out.mono ?_); rintro e we ⟨rfl, rfl⟩)
                  | (go_at_call 31; (with_reducible refine HDd.out.mono ?_); rintro e we ⟨rfl, rfl⟩)
                  | (go_at_call 22; (with_reducible refine HVa.out.mono ?_); rintro e we ⟨rfl, rfl⟩)
                  | (go_at_call 22; (with_reducible refine HVb.out.mono ?_); rintro e we ⟨rfl, rfl⟩)
                  | (go_at_call 22; (with_reducible refine HVd.out.mono ?_); rintro e we ⟨rfl, rfl⟩)
                  | (go_at_call 24; (with_reducible refine HK2.out.mono ?_); rintro e wf ⟨rfl, hb⟩; have HQ := Lib.hid (HQ.out.below hb); have HN := Lib.hid (HN.out.below hb HN.out.lt); have HX := Lib.hid (HX.out.below hb HX.out.lt); have HB := Lib.hid (HB.out.trans (hb.mono HB.out.size)); clear e0 e1 e2; have e0 := HX.out.cell 0 _ rfl; have e1 := HX.out.cell 1 _ rfl; have e2 := HX.out.cell 2 _ rfl))
                have hI1 := HI.out
                go_roundw
                case rel => exact ⟨i + 1, by omega, by go_num, HQ.out, HN.out, HB.out⟩
                case measure => simp [intOf]; omega

          · have HR := Lib.hid (rq_no (a := a) hz (fun h => h2 h.2.1))
            clear hr hz
            have HP := Lib.hid fun W (h : WQ W C S mm 0 (L4 [] [] [] [])) => rpush h T O K a t (.inl HR.out)
            have HV := Lib.hid fun W (h : WQ W C S mm 0 (L4 [] [] [] [])) => rrem h T O K a t (.inl HR.out)
            have HO := Lib.hid fun W (h : WQ W C S mm 0 (L4 [] [] [] [])) => rpop h T O K a HR.out
            have HK := Lib.hid fun W (h : WQ W C S mm 0 (L4 [] [] [] [])) => rlook h T O K a HR.out
            go_upto_region 10 with (first
              | (go_at_call 29; (with_reducible refine HRt.out.mono ?_); rintro e wa ⟨rfl, hb⟩; have HQ := Lib.hid (HQ.out.below hb); have HN := Lib.hid (HN.out.below hb HN.out.lt); have HX := Lib.hid (HX.out.below hb HX.out.lt); have HB := Lib.hid (HB.out.trans (hb.mono HB.out.size)); clear e0 e1 e2; have e0 := HX.out.cell 0 _ rfl; have e1 := HX.out.cell 1 _ rfl; have e2 := HX.out.cell 2 _ rfl; have HZ2 := Lib.hid (HZ.out wa); clear hb HRt)
              | (go_at_call 9; (with_reducible refine HZ2.out.mono ?_); rintro e wa ⟨rfl, hb⟩; have HQ := Lib.hid (HQ.out.below hb); have HN := Lib.hid (HN.out.below hb HN.out.lt); have HX := Lib.hid (HX.out.below hb HX.out.lt); have HB := Lib.hid (HB.out.trans (hb.mono HB.out.size)); clear e0 e1 e2; have e0 := HX.out.cell 0 _ rfl; have e1 := HX.out.cell 1 _ rfl; have e2 := HX.out.cell 2 _ rfl; have HL2 := Lib.hid (rlen HQ.out wa (Below.refl _ wa)); clear hb HZ2)
              | (go_at_call 30; (with_reducible refine HL2.out.mono ?_); rintro e wa ⟨rfl, hb⟩; have HQ := Lib.hid (HQ.out.below hb); have HN := Lib.hid (HN.out.below hb HN.out.lt); have HX := Lib.hid (HX.out.below hb HX.out.lt); have HB := Lib.hid (HB.out.trans (hb.mono HB.out.size)); clear e0 e1 e2; have e0 := HX.out.cell 0 _ rfl; have e1 := HX.out.cell 1 _ rfl; have e2 := HX.out.cell 2 _ rfl; clear HL2; have HL2 := Lib.hid (rlen HQ.out wa (Below.refl _ wa)); clear hb))
            have SK := Lib.hid fun A (hA : Below wa.heap.size wa A) => And.intro ((HX.out.below hA HX.out.lt).cell 0 _ rfl) (And.intro ((HX.out.below hA HX.out.lt).cell 1 _ rfl) ((HX.out.below hA HX.out.lt).cell 2 _ rfl))
            have bd := bdrewE wa
            have HP2 := Lib.hid (HP.out wa.drew (HQ.out.below bd))
            go_region_held3 (fun A => A.cell? ⟨bx, 0, none⟩ = some (.int .i64 T) ∧ A.cell? ⟨bx, 1, none⟩ = some (.int .i64 O) ∧ A.cell? ⟨bx, 2, none⟩ = some (.int .i64 K)) (first | exact SK.out _ b3 | exact SK.out _ b2 | exact SK.out _ bd) (first
              | (go_at_call 15; (with_reducible refine HP2.out.mono ?_); rintro e wb ⟨ta, rfl, ha, hb⟩; have b2 : Below wa.heap.size wa wb := bd.trans hb; have HV2 := Lib.hid (HV.out wb (HQ.out.below b2)); have HTa := Lib.hid ha)
              | (go_at_call 19; (with_reducible refine HV2.out.mono ?_); rintro e wc ⟨tb, rfl, ha, hb'⟩; have b3 : Below wa.heap.size wa wc := b2.trans (hb'.mono b2.size); have HTa := Lib.hid (HTa.out.below hb'); have HTb := Lib.hid ha))
            have hb := b3
            have HQ := Lib.hid (HQ.out.below hb); have HN := Lib.hid (HN.out.below hb HN.out.lt); have HX := Lib.hid (HX.out.below hb HX.out.lt); have HB := Lib.hid (HB.out.trans (hb.mono HB.out.size)); clear e0 e1 e2; have e0 := HX.out.cell 0 _ rfl; have e1 := HX.out.cell 1 _ rfl; have e2 := HX.out.cell 2 _ rfl
            clear hb b2 b3 bd SK
            go_wp2_with (first
              | (go_at_call 17; (with_reducible refine (HO.out _ HQ.out).mono ?_); rintro e wd ⟨td, rfl, hd, hb⟩; have HQ := Lib.hid (HQ.out.below hb); have HN := Lib.hid (HN.out.below hb HN.out.lt); have HX := Lib.hid (HX.out.below hb HX.out.lt); have HB := Lib.hid (HB.out.trans (hb.mono HB.out.size)); clear e0 e1 e2; have e0 := HX.out.cell 0 _ rfl; have e1 := HX.out.cell 1 _ rfl; have e2 := HX.out.cell 2 _ rfl; have HTa := Lib.hid (HTa.out.below hb); have HTb := Lib.hid (HTb.out.below hb); have HTd := Lib.hid hd; clear hb hd; have HDa := Lib.hid (doneV_done _ _ wd HTa.out); have HVa := Lib.hid (doneV_value _ _ wd HTa.out); have HDb := Lib.hid (doneV_done _ _ wd HTb.out); have HVb := Lib.hid (doneV_value _ _ wd HTb.out); have HDd := Lib.hid (doneV_done _ _ wd HTd.out); have HVd := Lib.hid (doneV_value _ _ wd HTd.out); have HK2 := Lib.hid (HK.out wd HQ.out))
              | (go_at_call 31; (with_reducible refine HDa.out.mono ?_); rintro e we ⟨rfl, rfl⟩)
              | (go_at_call 31; (with_reducible refine HDb.out.mono ?_); rintro e we ⟨rfl, rfl⟩)
              | (go_at_call 31; (with_reducible refine HDd.out.mono ?_); rintro e we ⟨rfl, rfl⟩)
              | (go_at_call 22; (with_reducible refine HVa.out.mono ?_); rintro e we ⟨rfl, rfl⟩)
              | (go_at_call 22; (with_reducible refine HVb.out.mono ?_); rintro e we ⟨rfl, rfl⟩)
              | (go_at_call 22; (with_reducible refine HVd.out.mono ?_); rintro e we ⟨rfl, rfl⟩)
              | (go_at_call 24; (with_reducible refine HK2.out.mono ?_); rintro e wf ⟨rfl, hb⟩; have HQ := Lib.hid (HQ.out.below hb); have HN := Lib.hid (HN.out.below hb HN.out.lt); have HX := Lib.hid (HX.out.below hb HX.out.lt); have HB := Lib.hid (HB.out.trans (hb.mono HB.out.size)); clear e0 e1 e2; have e0 := HX.out.cell 0 _ rfl; have e1 := HX.out.cell 1 _ rfl; have e2 := HX.out.cell 2 _ rfl))
            have hI1 := HI.out
            go_roundw
            case rel => exact ⟨i + 1, by omega, by go_num, HQ.out, HN.out, HB.out⟩
            case measure => simp [intOf]; omega

        · have HR := Lib.hid (rq_no (a := a) hz (fun h => h1 h.1))
          clear hr hz
          have HP := Lib.hid fun W (h : WQ W C S mm 0 (L4 [] [] [] [])) => rpush h T O K a t (.inl HR.out)
          have HV := Lib.hid fun W (h : WQ W C S mm 0 (L4 [] [] [] [])) => rrem h T O K a t (.inl HR.out)
          have HO := Lib.hid fun W (h : WQ W C S mm 0 (L4 [] [] [] [])) => rpop h T O K a HR.out
          have HK := Lib.hid fun W (h : WQ W C S mm 0 (L4 [] [] [] [])) => rlook h T O K a HR.out
          go_upto_region 10 with (first
            | (go_at_call 29; (with_reducible refine HRt.out.mono ?_); rintro e wa ⟨rfl, hb⟩; have HQ := Lib.hid (HQ.out.below hb); have HN := Lib.hid (HN.out.below hb HN.out.lt); have HX := Lib.hid (HX.out.below hb HX.out.lt); have HB := Lib.hid (HB.out.trans (hb.mono HB.out.size)); clear e0 e1 e2; have e0 := HX.out.cell 0 _ rfl; have e1 := HX.out.cell 1 _ rfl; have e2 := HX.out.cell 2 _ rfl; have HZ2 := Lib.hid (HZ.out wa); clear hb HRt)
            | (go_at_call 9; (with_reducible refine HZ2.out.mono ?_); rintro e wa ⟨rfl, hb⟩; have HQ := Lib.hid (HQ.out.below hb); have HN := Lib.hid (HN.out.below hb HN.out.lt); have HX := Lib.hid (HX.out.below hb HX.out.lt); have HB := Lib.hid (HB.out.trans (hb.mono HB.out.size)); clear e0 e1 e2; have e0 := HX.out.cell 0 _ rfl; have e1 := HX.out.cell 1 _ rfl; have e2 := HX.out.cell 2 _ rfl; have HL2 := Lib.hid (rlen HQ.out wa (Below.refl _ wa)); clear hb HZ2)
            | (go_at_call 30; (with_reducible refine HL2.out.mono ?_); rintro e wa ⟨rfl, hb⟩; have HQ := Lib.hid (HQ.out.below hb); have HN := Lib.hid (HN.out.below hb HN.out.lt); have HX := Lib.hid (HX.out.below hb HX.out.lt); have HB := Lib.hid (HB.out.trans (hb.mono HB.out.size)); clear e0 e1 e2; have e0 := HX.out.cell 0 _ rfl; have e1 := HX.out.cell 1 _ rfl; have e2 := HX.out.cell 2 _ rfl; clear HL2; have HL2 := Lib.hid (rlen HQ.out wa (Below.refl _ wa)); clear hb))
          have SK := Lib.hid fun A (hA : Below wa.heap.size wa A) => And.intro ((HX.out.below hA HX.out.lt).cell 0 _ rfl) (And.intro ((HX.out.below hA HX.out.lt).cell 1 _ rfl) ((HX.out.below hA HX.out.lt).cell 2 _ rfl))
          have bd := bdrewE wa
          have HP2 := Lib.hid (HP.out wa.drew (HQ.out.below bd))
          go_region_held3 (fun A => A.cell? ⟨bx, 0, none⟩ = some (.int .i64 T) ∧ A.cell? ⟨bx, 1, none⟩ = some (.int .i64 O) ∧ A.cell? ⟨bx, 2, none⟩ = some (.int .i64 K)) (first | exact SK.out _ b3 | exact SK.out _ b2 | exact SK.out _ bd) (first
            | (go_at_call 15; (with_reducible refine HP2.out.mono ?_); rintro e wb ⟨ta, rfl, ha, hb⟩; have b2 : Below wa.heap.size wa wb := bd.trans hb; have HV2 := Lib.hid (HV.out wb (HQ.out.below b2)); have HTa := Lib.hid ha)
            | (go_at_call 19; (with_reducible refine HV2.out.mono ?_); rintro e wc ⟨tb, rfl, ha, hb'⟩; have b3 : Below wa.heap.size wa wc := b2.trans (hb'.mono b2.size); have HTa := Lib.hid (HTa.out.below hb'); have HTb := Lib.hid ha))
          have hb := b3
          have HQ := Lib.hid (HQ.out.below hb); have HN := Lib.hid (HN.out.below hb HN.out.lt); have HX := Lib.hid (HX.out.below hb HX.out.lt); have HB := Lib.hid (HB.out.trans (hb.mono HB.out.size)); clear e0 e1 e2; have e0 := HX.out.cell 0 _ rfl; have e1 := HX.out.cell 1 _ rfl; have e2 := HX.out.cell 2 _ rfl
          clear hb b2 b3 bd SK
          go_wp2_with (first
            | (go_at_call 17; (with_reducible refine (HO.out _ HQ.out).mono ?_); rintro e wd ⟨td, rfl, hd, hb⟩; have HQ := Lib.hid (HQ.out.below hb); have HN := Lib.hid (HN.out.below hb HN.out.lt); have HX := Lib.hid (HX.out.below hb HX.out.lt); have HB := Lib.hid (HB.out.trans (hb.mono HB.out.size)); clear e0 e1 e2; have e0 := HX.out.cell 0 _ rfl; have e1 := HX.out.cell 1 _ rfl; have e2 := HX.out.cell 2 _ rfl; have HTa := Lib.hid (HTa.out.below hb); have HTb := Lib.hid (HTb.out.below hb); have HTd := Lib.hid hd; clear hb hd; have HDa := Lib.hid (doneV_done _ _ wd HTa.out); have HVa := Lib.hid (doneV_value _ _ wd HTa.out); have HDb := Lib.hid (doneV_done _ _ wd HTb.out); have HVb := Lib.hid (doneV_value _ _ wd HTb.out); have HDd := Lib.hid (doneV_done _ _ wd HTd.out); have HVd := Lib.hid (doneV_value _ _ wd HTd.out); have HK2 := Lib.hid (HK.out wd HQ.out))
            | (go_at_call 31; (with_reducible refine HDa.out.mono ?_); rintro e we ⟨rfl, rfl⟩)
            | (go_at_call 31; (with_reducible refine HDb.out.mono ?_); rintro e we ⟨rfl, rfl⟩)
            | (go_at_call 31; (with_reducible refine HDd.out.mono ?_); rintro e we ⟨rfl, rfl⟩)
            | (go_at_call 22; (with_reducible refine HVa.out.mono ?_); rintro e we ⟨rfl, rfl⟩)
            | (go_at_call 22; (with_reducible refine HVb.out.mono ?_); rintro e we ⟨rfl, rfl⟩)
            | (go_at_call 22; (with_reducible refine HVd.out.mono ?_); rintro e we ⟨rfl, rfl⟩)
            | (go_at_call 24; (with_reducible refine HK2.out.mono ?_); rintro e wf ⟨rfl, hb⟩; have HQ := Lib.hid (HQ.out.below hb); have HN := Lib.hid (HN.out.below hb HN.out.lt); have HX := Lib.hid (HX.out.below hb HX.out.lt); have HB := Lib.hid (HB.out.trans (hb.mono HB.out.size)); clear e0 e1 e2; have e0 := HX.out.cell 0 _ rfl; have e1 := HX.out.cell 1 _ rfl; have e2 := HX.out.cell 2 _ rfl))
          have hI1 := HI.out
          go_roundw
          case rel => exact ⟨i + 1, by omega, by go_num, HQ.out, HN.out, HB.out⟩
          case measure => simp [intOf]; omega

    · obtain rfl : i = 2 := by omega
      rw [show ((2 : Nat) : Int) = 2 from rfl]
      clear hi
      go_upto_region 15 with fail
      have bd := bdrewE wr
      have HS := Lib.hid (show Calls Tryz.prog 13 #[cellsV C] wr.drew fun e w' => e = .returned (.int .i64 0) ∧ Below wr.drew.heap.size wr.drew w' from (steps_any C S mm 0 wr.drew (hq.below bd).cells).mono (by rintro e w' ⟨rfl, rfl⟩; exact ⟨rfl, Below.refl _ _⟩))
      have HP := Lib.hid fun W => place_any 0 W (by decide) (kI := 0) rfl
      have HO := Lib.hid fun W => npop (placeN 0) W
      have HL := Lib.hid fun W => nlook (placeN 0) W
      have SK := Lib.hid fun A (hA : Below wr.heap.size wr A) => hereC (hn.below hA hn.lt)
      have HB := Lib.hid hb
      clear hq hb HAr HWK
      obtain ⟨d0, d1, d2⟩ := hereC hn
      clear hn
      go_region_held3 (fun A => A.cell? ⟨bm, 0, none⟩ = some (.int .i64 (hereM.t : Int)) ∧ A.cell? ⟨bm, 1, none⟩ = some (.int .i64 (hereM.o : Int)) ∧ A.cell? ⟨bm, 2, none⟩ = some (.int .i64 (hereM.n : Int))) (first | exact SK.out _ b0 | exact SK.out _ bd) (first
        | (go_at_call 13; (with_reducible refine HS.out.mono ?_); rintro e w1 ⟨rfl, hb⟩; have b0 : Below wr.heap.size wr w1 := bd.trans hb; clear hb)
        | (go_at_call 11; (with_reducible refine (HP.out _).mono ?_); rintro e w2 ⟨rfl, hb⟩; have b0 := b0.trans (hb.mono b0.size); clear hb)
        | (go_at_call 17; (with_reducible refine (HO.out _).mono ?_); rintro e w3 ⟨td, rfl, hd, hb⟩; have b0 := b0.trans (hb.mono b0.size); have HDd := Lib.hid (doneV_done _ _ w3 hd); have HVd := Lib.hid (doneV_value _ _ w3 hd); clear hb hd)
        | (go_at_call 31; (with_reducible refine HDd.out.mono ?_); rintro e we ⟨rfl, rfl⟩)
        | (go_at_call 22; (with_reducible refine HVd.out.mono ?_); rintro e we ⟨rfl, rfl⟩)
        | (go_at_call 24; (with_reducible refine (HL.out _).mono ?_); rintro e w4 ⟨rfl, hb⟩; have b0 := b0.trans (hb.mono b0.size); clear hb))
      go_wp2_with fail
      go_ret
      exact ⟨rfl, HB.out.trans (b0.mono HB.out.size)⟩
end Go.Proofs.YtlmjlnlnbjfhnaaGreat
