/- Layer 6's law: works: the chapter's examples. -/
import Derived.Test.YtmkgbbbhmbejnaaTaskWorks
namespace Go.Proofs.Ytmkgbbbhmbejnaa
open Go.ChangeShapes Go.WideShapes Go.ChangeAt Go.RowKit
set_option linter.unusedVariables false
set_option maxRecDepth 100000
set_option linter.unusedSimpArgs false
def i1 : Itm := ⟨3, 0, 2, 0⟩
def i2 : Itm := ⟨1, 1, 9, 0⟩
def i3 : Itm := ⟨4, 1, 3, 4⟩
def i4 : Itm := ⟨5, 0, 0, 0⟩
theorem op_1 : operS [5, 0] i1 = ([7, 0], 7, true) := by
  have h1 : IntKind.u64.wrap 7 = 7 := by kernel_rfl
  have h2 : wrap64 7 = 7 := IntWalk.wrap64_in 7 ⟨by omega, by omega⟩
  simp [operS, i1, h1, h2]
theorem op_2 : operS [7, 0] i2 = ([7, 9], 1, true) := by decide
theorem op_3 : operS [5, 0] i3 = ([5, 0], 0, false) := by decide
theorem op_4 : operS [5, 3] i3 = ([5, 4], 1, true) := by decide
theorem done6 {n0 : Nat} {w : World} {C S P R t : Nat} {cs : List Nat} {r : List Itm} {v : Int} (h : T6 n0 w C S P R cs t r v) : Calls Try.prog 29 #[pV t] w fun e w' => e = .returned (.bool r.isEmpty) ∧ w = w' := by
  obtain ⟨Q, h1, h2⟩ := h
  exact isdone_any C P t Q r v w h1
theorem value6 {n0 : Nat} {w : World} {C S P R t : Nat} {cs : List Nat} {r : List Itm} {v : Int} (h : T6 n0 w C S P R cs t r v) : Calls Try.prog 32 #[pV t] w fun e w' => e = .returned (.int .i64 (valueS r v)) ∧ w = w' := by
  obtain ⟨Q, h1, h2⟩ := h
  exact isvalue_any C P t Q r v w h1
theorem park6_no {n0 : Nat} {w : World} {C S P R t : Nat} {cs : List Nat} {m : List Int} {ps : List Bool} {n : Int} {x : Itm} {r : List Itm} {v k : Int} {b : Bool} (h : Env6 n0 w C S P R cs m ps n) (hT : T6 n0 w C S P R cs t (x :: r) v) (hk : x.kind = 5 ∨ x.kind = 6) (hx : ps[x.at']? = some b) (he : endsS b (x.kind == 6) k = false) :
    Calls Try.prog 27 #[pV t, .int .i64 k] w fun e w' => e = .returned (.bool false) ∧ Keep (fun _ => False) w w' := by
  obtain ⟨Q, h1, h2⟩ := hT
  exact park_no C P R t cs ps Q x r v k b w h1 h.p hk hx he
theorem park6_yes {n0 : Nat} {w : World} {C S P R t : Nat} {cs : List Nat} {m : List Int} {ps : List Bool} {n : Int} {x : Itm} {r : List Itm} {v k : Int} {b : Bool} (h : Env6 n0 w C S P R cs m ps n) (hT : T6 n0 w C S P R cs t (x :: r) v) (hn0 : n0 ≤ w.heap.size) (hk : x.kind = 5 ∨ x.kind = 6) (hx : ps[x.at']? = some b) (he : endsS b (x.kind == 6) k = true) :
    Calls Try.prog 27 #[pV t, .int .i64 k] w fun e w' => e = .returned (.bool true) ∧ (∃ Q, TaskG w' C P t Q (onS r k).1 (onS r k).2 ∧ ∀ b, Q b → n0 ≤ b) ∧ PermitsAt w' P R cs (if k = 0 then ps.set x.at' false else ps) ∧ Below n0 w w' := by
  obtain ⟨Q, h1, h2⟩ := hT
  refine (park_yes C P R t cs ps Q x r v k b w h1 h.p hk hx he (fun b hb => (h2 b hb).2.2.2.2.2)).mono ?_
  rintro e w' ⟨rfl, ⟨Q', g1, g2⟩, g3, g4⟩
  refine ⟨rfl, ⟨Q', g1, fun b hb => ?_⟩, g3, g4.below hn0 (fun i _ hi => ?_)⟩
  · rcases g2 b hb with hb | hb
    · exact (h2 b hb).1
    · omega
  · rcases hi with rfl | hi
    · exact (h2 _ h1.own).1
    · exact h.lo.2.2.2.2 i hi
set_option maxHeartbeats 4000000 in
theorem works6_any (w : World) : Calls Try.prog 20 #[] w fun e w' => e = .returned (.bool true) ∧ Below w.heap.size w w' := by
  have hN := Lib.hid (new_some 2 w (by omega))
  have hPN := Lib.hid fun W => pnew_some 1 W (by omega) (by omega)
  go_enter Try.func20, Try.ntmps20
  go_upto_region 2 with (first
    | (go_at_call 35; refine hN.out.mono ?_; rintro e w1 ⟨rfl, hC1, b1⟩)
    | (go_at_call 39; refine (hPN.out _).mono ?_; rintro e w2 ⟨rfl, ⟨cs, hP2, hcs⟩, b2⟩))
  have s1 := b1.size
  have s2 := b2.size
  have E2 : Env6 w.heap.size w2 (w.heap.size + 1) w.heap.size (w1.heap.size + 1) w1.heap.size cs [0, 0] [false] 0 := ⟨hC1.keep (Keep.ofBelow (Q := fun _ => False) b2) (fun h => h) (fun h => h), hP2, by omega, by omega, by omega, by omega, fun c hc => by have := hcs c hc; omega⟩
  have B2 : Below w.heap.size w w2 := b1.trans (b2.mono s1)
  clear hC1 hP2 hcs b1 b2 hN hPN
  generalize w.heap.size + 1 = C at *
  generalize w1.heap.size + 1 = P at *
  generalize w1.heap.size = R at *
  have hSt := Lib.hid (store6 E2 0 0 5 rfl (by omega) (by omega))
  clear E2
  go_upto_region 3 with (go_at_call 36; refine hSt.out.mono ?_; rintro e w3 ⟨rfl, E3, k3⟩)
  have B3 : Below w.heap.size w w3 := B2.trans (k3.below (by omega) (fun i _ hi => by
    have := E3.lo
    rcases hi with rfl | rfl
    · exact this.1
    · exact this.2.1))
  have s3 := B3.size
  replace E3 : Env6 w.heap.size w3 C w.heap.size P R cs [5, 0] [false] 1 := E3
  have lo3 := E3.lo
  obtain ⟨Q3, hQ3⟩ : ∃ Q : Nat → Prop, Q = fun b => w3.heap.size ≤ b := ⟨_, rfl⟩
  have HQ3 : Hid (∀ b, w3.heap.size ≤ b ↔ Q3 b) := Lib.hid (fun b => by rw [hQ3])
  clear hQ3
  have HA : Hid (Calls Try.prog 47 #[cellsV C, .int .i64 0, .int .u64 2] w3 fun e w' => ∃ t, e = .returned (pV t) ∧ Made6 w3 C P Q3 [i1] 0 t w') := Lib.hid (tAdd_any C P Q3 i1 w3 rfl (fun k hk => (HQ3.out k).1 hk))
  have HSF : Hid (∀ (w4 w5 : World) (t1 t2 : Nat), Made6 w3 C P Q3 [i1] 0 t1 w4 → Made6 w4 C P Q3 [i2] 0 t2 w5 → Calls Try.prog 40 #[.slice (some ⟨w5.heap.size, 0, none⟩) 2 2] (w5.alloc (.cells #[pV t1, pV t2] 56)) fun e w' => ∃ t, e = .returned (pV t) ∧ Made6 (w5.alloc (.cells #[pV t1, pV t2] 56)) C P Q3 [i1, i2] 0 t w') := Lib.hid fun w4 w5 t1 t2 hM4 hM5 => seq2 (wa := w3) (x := i1) (y := i2) (by decide) (by decide) hM4 ((HQ3.out _).1 hM4.1) hM5 ((HQ3.out _).1 (Nat.le_trans hM4.2.2.size hM5.1)) (fun k hk => (HQ3.out k).1 (Nat.le_trans hM4.2.2.size (Nat.le_trans hM5.2.2.size hk)))
  go_upto_region 4 with (first
    | (go_at_call 47; refine HA.out.mono ?_; rintro e w4 ⟨t1, rfl, hM4⟩; have s4 := hM4.2.2.size; have HM4 := Lib.hid hM4; have HB : Hid (Calls Try.prog 45 #[cellsV C, .int .i64 1, .int .u64 9] w4 fun e w' => ∃ t, e = .returned (pV t) ∧ Made6 w4 C P Q3 [i2] 0 t w') := Lib.hid (tStore_any C P Q3 i2 w4 rfl (fun k hk => (HQ3.out k).1 (by omega))); clear hM4)
    | (go_at_call 45; refine HB.out.mono ?_; rintro e w5 ⟨t2, rfl, hM5⟩; have s5 := hM5.2.2.size; have HM5 := Lib.hid hM5; have HS := Lib.hid (HSF.out w4 w5 t1 t2 HM4.out hM5); clear hM5)
    | (go_at_call 40; refine HS.out.mono ?_; rintro e w6 ⟨t, rfl, hM6⟩))
  have ka : Keep (fun _ => False) w5 (w5.alloc (.cells #[pV t1, pV t2] 56)) := (Keep.refl _ _).alloc _
  have k36 : Keep (fun _ => False) w3 w6 := (Keep.ofBelow HM4.out.2.2).trans ((Keep.ofBelow HM5.out.2.2).trans (ka.trans (Keep.ofBelow hM6.2.2)))
  have E6 := E3.still k36
  have hsz5 : (w5.alloc (.cells #[pV t1, pV t2] 56)).heap.size = w5.heap.size + 1 := World.size_alloc _ _
  have T6a : T6 w.heap.size w6 C w.heap.size P R cs t [i1, i2] 0 := T6.new E3 s3 (fun b hb => (HQ3.out b).2 hb) hM6 ((HQ3.out t).1 (by have := hM6.1; omega))
  have B6 : Below w.heap.size w w6 := B3.trans (k36.below s3 (fun _ _ h => h.elim))
  have s6 := B6.size
  clear hM6 HM4 HM5 HA HB HS ka k36 hsz5 E3 B3
  have S1 := Lib.hid (step6 (x := i1) E6 T6a s6 (by decide) ⟨by omega, by omega⟩)
  rw [op_1] at S1
  have c1 : countS [5, 0] i1 = 1 := by decide
  rw [c1] at S1
  have o2 : onS [i2] 7 = ([i2], 7) := rfl
  simp only [if_true, o2] at S1
  clear E6 T6a
  have c2 : countS [7, 0] i2 = 1 := by decide
  have o3 : onS [] 1 = ([], 1) := rfl
  go_upto_region 5 with (first
    | (go_at_call 27; (with_reducible refine S1.out.mono ?_); rintro e w7 ⟨rfl, E7, T7, b7⟩; have B7 := B6.trans b7; have s7 := B7.size; have H1 := Lib.hid (has2 E7); have E7h := Lib.hid E7; have T7h := Lib.hid T7; clear E7 T7)
    | (go_at_call 33; (with_reducible refine H1.out.mono ?_); rintro e w8 ⟨rfl, k8⟩; have B8 := B7.trans (k8.below s7 (fun _ _ h => h.elim)); have s8 := B8.size; have E8 := Lib.hid (E7h.out.still k8); have T8 := Lib.hid (T7h.out.still k8); have D8 := Lib.hid (done6 T8.out); have S2 := Lib.hid (step6 (x := i2) E8.out T8.out s8 (by decide) ⟨by omega, by omega⟩); rw [op_2, c2] at S2; simp only [if_true, o3] at S2)
    | (go_at_call 29; (with_reducible refine D8.out.mono ?_); rintro e w9 ⟨rfl, rfl⟩)
    | (go_at_call 27; (with_reducible refine S2.out.mono ?_); rintro e w9 ⟨rfl, E9, T9, b9⟩; have B9 := B8.trans b9; have s9 := B9.size; have H2 := Lib.hid (has2 E9); have E9h := Lib.hid E9; have T9h := Lib.hid T9; clear E9 T9)
    | (go_at_call 33; (with_reducible refine H2.out.mono ?_); rintro e w10 ⟨rfl, k10⟩; have B10 := B9.trans (k10.below s9 (fun _ _ h => h.elim)); have s10 := B10.size; have E10 := Lib.hid (E9h.out.still k10); have T10 := Lib.hid (T9h.out.still k10); have D10 := Lib.hid (done6 T10.out); have V10 := Lib.hid (value6 T10.out); rw [show valueS [] 1 = 1 from rfl] at V10)
    | (go_at_call 29; (with_reducible refine D10.out.mono ?_); rintro e w11 ⟨rfl, rfl⟩)
    | (go_at_call 32; (with_reducible refine V10.out.mono ?_); rintro e w11 ⟨rfl, rfl⟩))
  clear S1 S2 H1 H2 D8 D10 V10 T8 T10 T7h T9h E7h E9h E8
  have E10' : Env6 w.heap.size w10 C w.heap.size P R cs [7, 9] [false] 3 := E10.out
  have A1 := Lib.hid (store6 E10' 0 7 5 rfl (by omega) (by omega))
  clear E10 E10'
  go_upto_region 6 with (go_at_call 36; refine A1.out.mono ?_; rintro e w11 ⟨rfl, E11, k11⟩)
  have B11 : Below w.heap.size w w11 := B10.trans (k11.below s10 (fun i _ hi => by
    have := E11.lo
    rcases hi with rfl | rfl
    · exact this.1
    · exact this.2.1))
  have s11 := B11.size
  replace E11 : Env6 w.heap.size w11 C w.heap.size P R cs [5, 9] [false] 4 := E11
  have A2 := Lib.hid (store6 E11 1 9 0 rfl (by omega) (by omega))
  clear A1 E11
  go_upto_region 7 with (go_at_call 36; refine A2.out.mono ?_; rintro e w12 ⟨rfl, E12, k12⟩)
  have B12 : Below w.heap.size w w12 := B11.trans (k12.below s11 (fun i _ hi => by
    have := E12.lo
    rcases hi with rfl | rfl
    · exact this.1
    · exact this.2.1))
  have s12 := B12.size
  replace E12 : Env6 w.heap.size w12 C w.heap.size P R cs [5, 0] [false] 5 := E12
  have A3 : Hid (Calls Try.prog 37 #[cellsV C, .int .i64 1, .int .u64 3, .int .u64 4] w12 fun e w' => ∃ t, e = .returned (pV t) ∧ Made6 w12 C P (fun b => w12.heap.size ≤ b) [i3] 0 t w') := Lib.hid (tspin_any C P (fun b => w12.heap.size ≤ b) i3 w12 rfl (fun k hk => hk))
  clear A2
  go_upto_region 8 with (go_at_call 37; refine A3.out.mono ?_; rintro e w13 ⟨s, rfl, hM13⟩)
  have T13 : T6 w.heap.size w13 C w.heap.size P R cs s [i3] 0 := T6.new E12 s12 (fun b hb => hb) hM13 hM13.1
  have E13 := E12.still (Keep.ofBelow (Q := fun _ => False) hM13.2.2)
  have B13 : Below w.heap.size w w13 := B12.trans (hM13.2.2.mono s12)
  have s13 := B13.size
  clear A3 hM13 E12
  have S3 := Lib.hid (step6 (x := i3) E13 T13 s13 (by decide) ⟨by omega, by omega⟩)
  have c3 : countS [5, 0] i3 = 1 := by decide
  rw [op_3, c3] at S3
  simp only [Bool.false_eq_true, if_false] at S3
  clear E13 T13
  go_upto_region 9 with (first
    | (go_at_call 27; (with_reducible refine S3.out.mono ?_); rintro e w14 ⟨rfl, E14, T14, b14⟩; have B14 := B13.trans b14; have s14 := B14.size; have E14h := Lib.hid E14; have T14h := Lib.hid T14; have D14 := Lib.hid (done6 T14); clear E14 T14)
    | (go_at_call 29; (with_reducible refine D14.out.mono ?_); rintro e w15 ⟨rfl, rfl⟩))
  have E14 : Env6 w.heap.size w14 C w.heap.size P R cs [5, 0] [false] 6 := E14h.out
  have A4 := Lib.hid (store6 E14 1 0 3 rfl (by omega) (by omega))
  clear S3 D14 E14 E14h
  go_upto_region 10 with (go_at_call 36; refine A4.out.mono ?_; rintro e w15 ⟨rfl, E15, k15⟩)
  have B15 : Below w.heap.size w w15 := B14.trans (k15.below s14 (fun i _ hi => by
    have := E15.lo
    rcases hi with rfl | rfl
    · exact this.1
    · exact this.2.1))
  have s15 := B15.size
  have T15 := T14h.out.cells k15
  replace E15 : Env6 w.heap.size w15 C w.heap.size P R cs [5, 3] [false] 7 := E15
  have S4 := Lib.hid (step6 (x := i3) E15 T15 s15 (by decide) ⟨by omega, by omega⟩)
  have c4 : countS [5, 3] i3 = 1 := by decide
  rw [op_4, c4] at S4
  simp only [if_true, o3] at S4
  clear A4 E15 T15 T14h
  go_upto_region 11 with (first
    | (go_at_call 27; (with_reducible refine S4.out.mono ?_); rintro e w16 ⟨rfl, E16, T16, b16⟩; have B16 := B15.trans b16; have s16 := B16.size; have H3 := Lib.hid (has2 E16); have E16h := Lib.hid E16; have T16h := Lib.hid T16; have D16 := Lib.hid (done6 T16); clear E16 T16)
    | (go_at_call 29; (with_reducible refine D16.out.mono ?_); rintro e w17 ⟨rfl, rfl⟩)
    | (go_at_call 33; (with_reducible refine H3.out.mono ?_); rintro e w17 ⟨rfl, k17⟩; have B17 := B16.trans (k17.below s16 (fun _ _ h => h.elim)); have s17 := B17.size; have E17 := Lib.hid (E16h.out.still k17)))
  clear S4 H3 D16 T16h E16h
  have A5 := Lib.hid (seq_none C P (fun b => w17.heap.size ≤ b) w17)
  go_upto_region 12 with (go_at_call 40; refine A5.out.mono ?_; rintro e w18 ⟨e0, rfl, hM18⟩)
  have E18 := E17.out.still (Keep.ofBelow (Q := fun _ => False) hM18.2.2)
  have T18 : T6 w.heap.size w18 C w.heap.size P R cs e0 [] 0 := T6.new E17.out s17 (fun b hb => hb) hM18 hM18.1
  have B18 : Below w.heap.size w w18 := B17.trans (hM18.2.2.mono s17)
  have s18 := B18.size
  clear A5 hM18 E17
  have A6 : Hid (Calls Try.prog 41 #[permitsV P, .int .i64 0, .bool false] w18 fun e w' => ∃ t, e = .returned (pV t) ∧ Made6 w18 C P (fun b => w18.heap.size ≤ b) [i4] 0 t w') := Lib.hid (tpark_any C P (fun b => w18.heap.size ≤ b) i4 w18 (.inl rfl) (fun k hk => hk))
  go_upto_region 13 with (go_at_call 41; refine A6.out.mono ?_; rintro e w19 ⟨k0, rfl, hM19⟩)
  have k19 : Keep (fun _ => False) w18 w19 := Keep.ofBelow hM19.2.2
  have E19 := Lib.hid (E18.still k19)
  have T19 := Lib.hid (T18.still k19)
  have K19 : Hid (T6 w.heap.size w19 C w.heap.size P R cs k0 [i4] 0) := Lib.hid (T6.new E18 s18 (fun b hb => hb) hM19 hM19.1)
  have B19 : Below w.heap.size w w19 := B18.trans (hM19.2.2.mono s18)
  have s19 := B19.size
  have F1 := Lib.hid (done6 T19.out)
  have F2 := Lib.hid (value6 T19.out)
  rw [show valueS [] 0 = 0 from rfl] at F2
  have F3 := Lib.hid (park6_no (k := 0) (b := false) E19.out K19.out (.inl rfl) rfl rfl)
  clear A6 hM19 E18 T18 k19
  go_wp2_with (first
    | (go_at_call 29; (with_reducible refine F1.out.mono ?_); rintro e w20 ⟨rfl, rfl⟩)
    | (go_at_call 32; (with_reducible refine F2.out.mono ?_); rintro e w20 ⟨rfl, rfl⟩)
    | (go_at_call 27; (with_reducible refine F3.out.mono ?_); rintro e w20 ⟨rfl, k20⟩; have E20 := Lib.hid (E19.out.still k20); have K20 := Lib.hid (K19.out.still k20); have B20 := B19.trans (k20.below s19 (fun _ _ h => h.elim)); have s20 := B20.size; have F4 := Lib.hid (park6_no (k := 1) (b := false) E20.out K20.out (.inl rfl) rfl rfl))
    | (go_at_call 27; (with_reducible refine F4.out.mono ?_); rintro e w21 ⟨rfl, k21⟩; have E21 := Lib.hid (E20.out.still k21); have K21 := Lib.hid (K20.out.still k21); have B21 := B20.trans (k21.below s20 (fun _ _ h => h.elim)); have s21 := B21.size; have F5 := Lib.hid (park6_yes (k := 2) (b := false) E21.out K21.out s21 (.inl rfl) rfl rfl); rw [show onS [] 2 = ([], 2) from rfl] at F5)
    | (go_at_call 27; (with_reducible refine F5.out.mono ?_); rintro e w22 ⟨rfl, ⟨Q22, g22, _⟩, _, b22⟩; have B22 := B21.trans b22; have G22 := Lib.hid g22; have F6 := Lib.hid (isdone_any C P k0 Q22 [] 2 w22 g22); have F7 := Lib.hid (isvalue_any C P k0 Q22 [] 2 w22 g22); rw [show valueS [] 2 = 2 from rfl] at F7; clear g22)
    | (go_at_call 29; (with_reducible refine F6.out.mono ?_); rintro e w23 ⟨rfl, rfl⟩)
    | (go_at_call 32; (with_reducible refine F7.out.mono ?_); rintro e w23 ⟨rfl, rfl⟩))
  go_ret
  exact ⟨rfl, B22⟩
end Go.Proofs.Ytmkgbbbhmbejnaa
