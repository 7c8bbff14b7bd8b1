/- ScriptWrites returns true. -/
import Derived.Test.YtkmadabpfialbaaGreatDoorScRefG
import Derived.Test.YtkmadabpfialbaaGreatDoorScRefE
namespace Go.Proofs.YtkmadabpfialbaaGreatDoor
open Go.ChangeShapes Go.WideShapes Go.ChangeAt Go.RowKit Go.Maps
set_option linter.unusedVariables false
set_option maxRecDepth 100000
set_option linter.unusedSimpArgs false
/-- picks that came in -/
def PickWs (w : World) (n0 : Nat) (a : Option Addr) (len : Nat) : Prop :=
  ∀ i, i < len → ∃ p : Pk, PkWf p ∧ ∃ b o, a = some ⟨b, o, none⟩ ∧ b < n0 ∧ w.cell? ⟨b, o + i * 2, none⟩ = some (.int .i64 p.1) ∧ w.cell? ⟨b, o + (i * 2 + 1), none⟩ = some (.int .i64 p.2)
theorem list_of7 {α : Type} (P : Nat → α → Prop) : ∀ (n : Nat), (∀ i, i < n → ∃ x, P i x) → ∃ l : List α, l.length = n ∧ ∀ i x, l[i]? = some x → P i x
  | 0, _ => ⟨[], rfl, fun i x h => by simp at h⟩
  | n + 1, h => by
    obtain ⟨l, h1, h2⟩ := list_of7 P n (fun i hi => h i (by omega))
    obtain ⟨x, hx⟩ := h n (by omega)
    refine ⟨l ++ [x], by simp [h1], fun i y hy => ?_⟩
    rcases Nat.lt_or_ge i l.length with hl | hl
    · rw [List.getElem?_append_left hl] at hy
      exact h2 i y hy
    · rw [List.getElem?_append_right hl] at hy
      obtain ⟨h3, h4⟩ := List.getElem?_eq_some_iff.1 hy
      simp at h3
      obtain rfl : i = n := by omega
      simp at h4; subst h4
      exact hx
/-- what stays while Told and picks are asked -/
structure HoldW (w W : World) (F : Nat) (u v : Value) (L : List Pk) (c0 c1 c2 : Int) : Prop where
  u' : PicksAt W W.heap.size u L
  v' : PicksAt W W.heap.size v L
  x : Blk W F 41 #[.int .i64 c0, .int .i64 c1, .int .i64 c2]
  t : TieW W
  b : Below w.heap.size w W
theorem HoldW.below {w W W' : World} {F : Nat} {u v : Value} {L : List Pk} {c0 c1 c2 : Int} (h : HoldW w W F u v L c0 c1 c2) (hb : Below W.heap.size W W') : HoldW w W' F u v L c0 c1 c2 :=
  ⟨(h.u'.below hb).mono hb.size, (h.v'.below hb).mono hb.size, h.x.below hb h.x.lt, h.t.on hb, h.b.trans (hb.mono h.b.size)⟩
theorem HoldW.drew {w W : World} {F : Nat} {u v : Value} {L : List Pk} {c0 c1 c2 : Int} (h : HoldW w W F u v L c0 c1 c2) : HoldW w W.drew F u v L c0 c1 c2 := h.below (Below.refl _ W).drew
theorem fault_ne (j : Int) : ∀ W, (binOp .neq 41 (.agg #[.int .i64 7, .int .i64 0, .int .i64 j]) (.agg #[.int .i64 7, .int .i64 0, .int .i64 j])).run Tryz.prog W = .ok (.bool false) W := by
  intro W
  go_simp
theorem fault_store {w W : World} {n F : Nat} {a b c : Value} (h : Blk W F 41 #[a, b, c]) (hB : Below n w W) (hw : n ≤ w.heap.size) (hF : n ≤ F) (x y z : Value) :
    Blk (((W.setCell ⟨F, 0, none⟩ x).setCell ⟨F, 1, none⟩ y).setCell ⟨F, 2, none⟩ z) F 41 #[x, y, z] ∧ Below n w (((W.setCell ⟨F, 0, none⟩ x).setCell ⟨F, 1, none⟩ y).setCell ⟨F, 2, none⟩ z) := by
  have h1 := ((h.set 0 x).set 1 y).set 2 z
  simp only [List.setIfInBounds_toArray, List.set_cons_zero, List.set_cons_succ] at h1
  have s1 := hB.size
  have b1 : Below n W (W.setCell ⟨F, 0, none⟩ x) := (keep_one7 W F 0 x).below (by omega) (fun i _ hi => by rw [hi]; exact hF)
  have s2 := b1.size
  have b2 : Below n (W.setCell ⟨F, 0, none⟩ x) ((W.setCell ⟨F, 0, none⟩ x).setCell ⟨F, 1, none⟩ y) := (keep_one7 _ F 1 y).below (by omega) (fun i _ hi => by rw [hi]; exact hF)
  have s3 := b2.size
  exact ⟨h1, ((hB.trans b1).trans b2).trans ((keep_one7 _ F 2 z).below (by omega) (fun i _ hi => by rw [hi]; exact hF))⟩
set_option maxHeartbeats 8000000 in
theorem writes_law (a : Option Addr) (n c : Nat) (s : ByteArray) (w : World) (ht : TieW w) (hn : n ≤ c) (hnm : n ≤ 9223372036854775807) (hP : PickWs w w.heap.size a n) :
    Calls Tryz.prog 4 #[.slice a n c, .string s] w fun e w' => e = .returned (.bool true) ∧ Below w.heap.size w w' := by
  have HT := Lib.hid ht
  have HPK := Lib.hid hP
  clear ht hP
  go_enter Tryz.func4, Tryz.ntmps4
  go_upto_region 1 with fail
  go_quiet (fail)
  go_upto_region 2 with fail
  have hB1 : Below w.heap.size w (w.drewN nq) := bdrewN (Below.refl _ w) nq
  generalize w.drewN nq = w1 at *
  have hm : (min (n : Int) 60).toNat ≤ 60 ∧ (min (n : Int) 60).toNat ≤ n := by omega
  have hs2 : (s.extract 0 (min (s.size : Int) 100).toNat).size ≤ 100 := by rw [ByteArray.size_extract]; omega
  generalize (min (n : Int) 60).toNat = m at *
  generalize s.extract 0 (min (s.size : Int) 100).toNat = s2 at *
  obtain ⟨L, hL, hLp⟩ := list_of7 _ m (fun i hi => HPK.out i (by omega))
  have hwf : ∀ p ∈ L, PkWf p := fun p hp => by
    obtain ⟨i, hi⟩ := List.mem_iff_getElem?.1 hp
    exact (hLp i p hi).1
  have hs1 := hB1.size
  have hPA : PicksAt w1 w1.heap.size (.slice a m c) L := ⟨a, c, by rw [hL], by omega, fun i p hi => by
    obtain ⟨_, b, o, e, hb, c0, c1⟩ := hLp i p hi
    exact ⟨b, o, e, by omega, by omega, (hB1.cell (p := ⟨b, _, none⟩) hb).trans c0, (hB1.cell (p := ⟨b, _, none⟩) hb).trans c1⟩⟩
  have ht1 : TieW w1 := HT.out.on hB1
  have HPR := Lib.hid (print_any (.slice a m c) L w1 ht1 hPA (by omega) hwf)
  have hTl := printL_len L
  have HR := Lib.hid (fun W (h : PicksAt W W.heap.size (.slice a m c) L) => rprint_any (.slice a m c) L W h (by omega))
  have HPA := Lib.hid hPA
  have HT1 := Lib.hid ht1
  have hTl2 : (printL L).length ≤ 480 := by omega
  clear hwf hLp HPK HT hPA ht1 hTl hnm hn
  generalize printL L = T at *
  go_upto_region 3 with (go_at_call 13; refine HPR.out.mono ?_; rintro e w2 ⟨rfl, b2⟩; have HR2 := Lib.hid (HR.out w2 ((HPA.out.below b2).mono b2.size)); have HT2 := Lib.hid (HT1.out.on b2))
  go_upto_region 5 with (go_at_call 14; refine HR2.out.mono ?_; rintro e w3 ⟨rfl, b3⟩)
  have ht3 := HT2.out.on b3
  have hB3 : Below w.heap.size w w3 := (hB1.trans (b2.mono hs1)).trans (b3.mono (by have := b2.size; omega))
  clear HR2 HT2 HR HPR HPA HT1 hB1 b2 b3 hL
  go_upto_region 6 with fail
  have hz1 : (({ data := T.toArray } : ByteArray)).size ≤ 700 := by show T.toArray.size ≤ 700; simp; omega
  have hz3 : (({ data := T.toArray } : ByteArray) ++ { data := #[32, 32] } ++ s2).size ≤ 700 := by
    rw [ByteArray.size_append, ByteArray.size_append]
    have e1 : (({ data := T.toArray } : ByteArray)).size = T.length := by show T.toArray.size = _; simp
    have e2 : (({ data := #[32, 32] } : ByteArray)).size = 2 := rfl
    omega
  generalize ({ data := T.toArray } : ByteArray) ++ { data := #[32, 32] } ++ s2 = X3 at *
  go_loopw [36] (fun i wr => ∃ k : Nat, k ≤ 3 ∧ i = .int .i64 (k : Int) ∧ TieW wr ∧ Below w.heap.size w wr)
    (fun i _ => 3 - (intOf i).toNat)
  case atStart => exact ⟨0, by omega, rfl, ht3, hB3⟩
  case round =>
    clear ht3 hB3
    obtain ⟨k, hk, rfl, htr, hb⟩ := hrel
    have hh := hb.size
    by_cases hk3 : k < 3
    · obtain ⟨X, hix, hX⟩ : ∃ X : ByteArray, (∀ W : World, (Instr.index 32 (.agg #[strV T, .string s2, .string X3]) (.int .i64 (k : Int))).run Tryz.prog W = .ok (.string X) W) ∧ X.size ≤ 700 := by
        have : k = 0 ∨ k = 1 ∨ k = 2 := by omega
        rcases this with rfl | rfl | rfl
        · exact ⟨⟨T.toArray⟩, fun W => by kernel_rfl, hz1⟩
        · exact ⟨s2, fun W => by kernel_rfl, by omega⟩
        · exact ⟨X3, fun W => by kernel_rfl, hz3⟩
      have HPa := Lib.hid (parse_any X wr (by omega) htr)
      have HRa := Lib.hid (fun W => rparse_any X W (by omega))
      have HTr := Lib.hid htr
      have g1 : (k : Int) < 3 := by omega
      clear htr hz1 hz3 hs2
      cases hbad : badAt (fieldsB X.data.toList) with
      | none =>
        unfold ParsePost at HPa
        unfold RParsePost at HRa
        simp only [hbad] at HPa HRa
        clear hbad
        go_upto_region 10 with (first
          | (go_at_call 15; refine HPa.out.mono ?_; rintro e w4 ⟨b4, v4, rfl, o4, _⟩)
          | (go_at_call 16; refine (HRa.out w4).mono ?_; rintro e w5 ⟨b5, v5, rfl, o5⟩))
        generalize hM : picksOf (fieldsB X.data.toList) = M at *
        have hMl : M.length ≤ 100000 := by
          rw [← hM]
          refine Nat.le_trans (List.length_filterMap_le _ _) ?_
          obtain ⟨h1, h2⟩ := fieldsGo_len X.data.toList []
          have e : X.data.toList.length = X.size := by simp
          unfold fieldsB; omega
        have e4 := b4.size
        have H5 : Hid (PicksAt w5 w5.heap.size v4 M ∧ PicksAt w5 w5.heap.size v5 M ∧ TieW w5 ∧ Below w.heap.size w w5) := Lib.hid ⟨((PicksAt.own o4).below b5).mono b5.size, PicksAt.own o5, (HTr.out.on b4).on b5, (hb.trans (b4.mono hh)).trans (b5.mono (by omega))⟩
        clear o4 o5 b4 b5 hb hM HPa HRa
        go_upto_region 13 with fail
        have ba : Below w5.heap.size w5 (w5.alloc (.cells #[.int .i64 0, .int .i64 0, .int .i64 0] 41)) := (Below.refl _ w5).alloc (Nat.le_refl _) _
        have H0 : HoldW w (w5.alloc (.cells #[.int .i64 0, .int .i64 0, .int .i64 0] 41)) w5.heap.size v4 v5 M 0 0 0 := ⟨(H5.out.1.below ba).mono ba.size, (H5.out.2.1.below ba).mono ba.size, Blk.new _ _ _, H5.out.2.2.1.on ba, H5.out.2.2.2.trans (ba.mono H5.out.2.2.2.size)⟩
        generalize w5.alloc (.cells #[.int .i64 0, .int .i64 0, .int .i64 0] 41) = W0 at *
        generalize w5.heap.size = F at *
        have f0 : W0.cell? ⟨F, 0, none⟩ = some (.int .i64 0) := H0.x.cell 0 _ rfl
        have f1 : W0.cell? ⟨F, 1, none⟩ = some (.int .i64 0) := H0.x.cell 1 _ rfl
        have f2 : W0.cell? ⟨F, 2, none⟩ = some (.int .i64 0) := H0.x.cell 2 _ rfl
        clear ba
        go_region_held3 (fun W => W.cell? ⟨F, 0, none⟩ = some (.int .i64 0) ∧ W.cell? ⟨F, 1, none⟩ = some (.int .i64 0) ∧ W.cell? ⟨F, 2, none⟩ = some (.int .i64 0)) (first | exact ⟨f0, f1, f2⟩ | go_keep) (first
          | (go_at_call 17; refine (told_nil _).mono ?_; rintro e w6 ⟨rfl, hb6⟩; replace H0 := H0.drew.below hb6; clear f0 f1 f2 hb6; have f0 := H0.x.cell 0 _ rfl; have f1 := H0.x.cell 1 _ rfl; have f2 := H0.x.cell 2 _ rfl)
          | (go_at_call 6; refine (picks_same v4 v5 M _ H0.u' H0.v' hMl).mono ?_; rintro e w7 ⟨rfl, hb7⟩; replace H0 := H0.below hb7; clear f0 f1 f2 hb7; have f0 := H0.x.cell 0 _ rfl; have f1 := H0.x.cell 1 _ rfl; have f2 := H0.x.cell 2 _ rfl))
        all_goals
          go_wp2
          go_roundw
          case rel => exact ⟨k + 1, by omega, by go_num, H0.t, H0.b⟩
          case measure => simp [intOf]; omega
      | some j =>
        unfold ParsePost at HPa
        unfold RParsePost at HRa
        simp only [hbad] at HPa HRa
        clear hbad
        have g7 : (0 : Int) ≤ (j : Int) := by omega
        go_upto_region 10 with (first
          | (go_at_call 15; refine HPa.out.mono ?_; rintro e w4 ⟨b4, p, rfl, hpg, hp4⟩)
          | (go_at_call 16; refine (HRa.out w4).mono ?_; rintro e w5 ⟨b5, rfl⟩))
        have e4 := b4.size
        have hp5 := hp4.below b5 hp4.lt
        have H5 : Hid (TieW w5 ∧ Below w.heap.size w w5) := Lib.hid ⟨(HTr.out.on b4).on b5, (hb.trans (b4.mono hh)).trans (b5.mono (by omega))⟩
        clear b4 b5 hb HPa HRa hp4
        go_upto_region 12 with fail
        have ba : Below w5.heap.size w5 (w5.alloc (.cells #[.int .i64 0, .int .i64 0, .int .i64 0] 41)) := (Below.refl _ w5).alloc (Nat.le_refl _) _
        have hF0 : Blk (w5.alloc (.cells #[.int .i64 0, .int .i64 0, .int .i64 0] 41)) w5.heap.size 41 #[.int .i64 0, .int .i64 0, .int .i64 0] := Blk.new _ _ _
        generalize w5.alloc (.cells #[.int .i64 0, .int .i64 0, .int .i64 0] 41) = Wa at *
        have c0 : Wa.cell? ⟨w5.heap.size, 0, none⟩ = some (.int .i64 0) := hF0.cell 0 _ rfl
        have c1 : Wa.cell? ⟨w5.heap.size, 1, none⟩ = some (.int .i64 0) := hF0.cell 1 _ rfl
        have c2 : Wa.cell? ⟨w5.heap.size, 2, none⟩ = some (.int .i64 0) := hF0.cell 2 _ rfl
        have z0 := hF0.free 0
        have z1 := hF0.free 1
        have z2 := hF0.free 2
        go_upto_region 13 with fail
        obtain ⟨hF, hBF⟩ := fault_store hF0 ba (Nat.le_refl _) (Nat.le_refl _) (.int .i64 7) (.int .i64 0) (.int .i64 (j : Int))
        have hp0 := hp5.below hBF hp5.lt
        have H0 : HoldW w (((Wa.setCell ⟨w5.heap.size, 0, none⟩ (.int .i64 7)).setCell ⟨w5.heap.size, 1, none⟩ (.int .i64 0)).setCell ⟨w5.heap.size, 2, none⟩ (.int .i64 (j : Int))) w5.heap.size (.slice none 0 0) (.slice none 0 0) [] 7 0 j := ⟨picksAt_nil _ _, picksAt_nil _ _, hF, H5.out.1.on hBF, H5.out.2.trans (hBF.mono H5.out.2.size)⟩
        clear hF hBF hF0 ba c0 c1 c2 z0 z1 z2 hp5
        generalize ((Wa.setCell ⟨w5.heap.size, 0, none⟩ (.int .i64 7)).setCell ⟨w5.heap.size, 1, none⟩ (.int .i64 0)).setCell ⟨w5.heap.size, 2, none⟩ (.int .i64 (j : Int)) = W0 at *
        generalize w5.heap.size = F at *
        have f0 : W0.cell? ⟨F, 0, none⟩ = some (.int .i64 7) := H0.x.cell 0 _ rfl
        have f1 : W0.cell? ⟨F, 1, none⟩ = some (.int .i64 0) := H0.x.cell 1 _ rfl
        have f2 : W0.cell? ⟨F, 2, none⟩ = some (.int .i64 (j : Int)) := H0.x.cell 2 _ rfl
        have hne := fault_ne (j : Int)
        go_region_held3 (fun W => W.cell? ⟨F, 0, none⟩ = some (.int .i64 7) ∧ W.cell? ⟨F, 1, none⟩ = some (.int .i64 0) ∧ W.cell? ⟨F, 2, none⟩ = some (.int .i64 (j : Int))) (first | exact ⟨f0, f1, f2⟩ | go_keep) (first
          | (go_at_call 17; refine (told_fault p 7 0 j _ H0.drew.t.typ hp0.drew).mono ?_; rintro e w6 ⟨rfl, hb6⟩; replace H0 := H0.drew.below hb6; replace hp0 := hp0.drew.below hb6 hp0.drew.lt; clear f0 f1 f2 hb6; have f0 := H0.x.cell 0 _ rfl; have f1 := H0.x.cell 1 _ rfl; have f2 := H0.x.cell 2 _ rfl)
          | (go_at_call 6; refine (picks_same (.slice none 0 0) (.slice none 0 0) [] _ H0.u' H0.v' (by simp)).mono ?_; rintro e w7 ⟨rfl, hb7⟩; replace H0 := H0.below hb7; clear f0 f1 f2 hb7; have f0 := H0.x.cell 0 _ rfl; have f1 := H0.x.cell 1 _ rfl; have f2 := H0.x.cell 2 _ rfl))
        all_goals
          go_wp2
          go_roundw
          case rel => exact ⟨k + 1, by omega, by go_num, H0.t, H0.b⟩
          case measure => simp [intOf]; omega
    · have hke : k = 3 := by omega
      subst hke
      have HW := Lib.hid (works_any wr htr)
      go_wp2_with (go_at_call 8; refine HW.out.mono ?_; rintro e w4 ⟨rfl, b4⟩)
      go_ret
      exact ⟨rfl, hb.trans (b4.mono hh)⟩
end Go.Proofs.YtkmadabpfialbaaGreatDoor
