/- ScriptKnown returns true. -/
import Derived.Test.YtjoflgcggdfomaaGreatDoorScWorksB
namespace Go.Proofs.YtjoflgcggdfomaaGreatDoor
open Go.ChangeShapes Go.WideShapes Go.ChangeAt Go.RowKit Go.Maps
set_option linter.unusedVariables false
set_option maxRecDepth 100000
set_option linter.unusedSimpArgs false
theorem parse_lit (s : ByteArray) (l : List Pk) (w : World) (hs : s.size ≤ 100000) (ht : TieW w) (hb : badAt (fieldsB s.data.toList) = none) (hl : picksOf (fieldsB s.data.toList) = l) :
    Calls Tryz.prog 19 #[.string s] w fun e w' => ∃ a c, e = .returned (.tuple #[.slice a l.length c, .nilIface]) ∧ Left7 w (.slice a l.length c) l w' := by
  have HP := parse_any s w hs ht
  unfold ParsePost at HP
  rw [hb, hl] at HP
  refine HP.mono ?_
  rintro e w' ⟨b1, v, rfl, ho, hn⟩
  obtain ⟨a, c, rfl, hc, hp⟩ := id (PicksAt.own ho)
  exact ⟨a, c, rfl, b1, PicksAt.own ho⟩
theorem decode_nil (w : World) : Calls Tryz.prog 9 #[.string ⟨#[]⟩] w fun e w' => ∃ a c, e = .returned (.slice a 0 c) ∧ Below w.heap.size w w' :=
  (decode_lit ⟨#[]⟩ [] w (by decide) (by decide)).mono fun e w' ⟨v, h1, h2, h3⟩ => by
    obtain ⟨a, c, rfl, _⟩ := h3
    exact ⟨a, c, h1, h2⟩
theorem fair_p (v : Value) (l : List Pk) (t' : Int) (K : Nat) (K' : Int) (e2 : K' = (K : Int)) (b : Bool) (w : World) (hv : PicksAt w w.heap.size v l) (hl : l.length ≤ 1000) (ht1 : 1 ≤ t') (ht2 : t' ≤ 9223372036854775807) (hk1 : 1 ≤ K) (hk2 : K ≤ 1000) (hb : b = true ↔ FairP l t' K) :
    Calls Tryz.prog 13 #[v, .int .i64 t', .int .i64 K'] w fun e w' => e = .returned (.bool b) ∧ Below w.heap.size w w' := by
  subst e2
  refine (fair_yes v l t' K w hv (by omega) ht1 ht2 hk1 (by omega)).mono ?_
  rintro e w' ⟨h1, b', h2, h3⟩
  refine ⟨?_, h1⟩
  have : b' = b := by
    rw [Bool.eq_iff_iff]
    exact h3.trans hb.symm
  rw [h2, this]
theorem fair_bad (v : Value) (t k : Int) (w : World) (h : t < 1 ∨ k < 1) : Calls Tryz.prog 13 #[v, .int .i64 t, .int .i64 k] w fun e w' => e = .returned (.bool false) ∧ Below w.heap.size w w' :=
  (fair_no v [] t k w h).mono fun e w' ⟨h1, h2⟩ => ⟨h1, by rw [← h2]; exact Below.refl _ _⟩
theorem fair_none (t : Int) (K : Nat) (h1 : 1 ≤ t) (hK : 1 ≤ K) : (true = true) ↔ FairP [] t K :=
  ⟨fun _ => ⟨h1, by omega, fun a ha => by rw [Int.toNat_natCast] at ha; simp at ha; omega⟩, fun _ => rfl⟩
theorem fair_few (t : Int) (h : 2 ≤ t) : (false = true) ↔ FairP [(0, 0)] t (1 : Nat) := by
  refine ⟨fun e => (by cases e), fun hF => ?_⟩
  obtain ⟨i, h1, h2, h3⟩ := hF.2.2 0 (by decide) 1 (by omega) (by omega)
  have hi : i = 0 := by simp at h2; omega
  subst hi
  simp at h3
def oddW : List (List UInt8) := [[45], [116], [49, 116, 116], [49, 116, 115], [49, 48, 48, 48, 48, 48], [49, 84], [43, 49], [49, 44, 50], [48, 116, 48], [48, 48]]
theorem odd_bad : ∀ (k : Nat) (u : List UInt8), oddW[k]? = some u → badAt (fieldsB ([55, 32] ++ u ++ [32, 56])) = some 1 ∧ u.length ≤ 6 := by
  have h : (oddW.all fun u => decide (badAt (fieldsB ([55, 32] ++ u ++ [32, 56])) = some 1 ∧ u.length ≤ 6)) = true := by decide +kernel
  intro k u hu
  exact of_decide_eq_true (List.all_eq_true.1 h u (List.mem_of_getElem? hu))
theorem odd_wrong (k : Nat) (u : ByteArray) (hu : oddW[k]? = some u.data.toList) (w : World) (ht : TieW w) :
    Calls Tryz.prog 22 #[.string ((⟨#[55, 32]⟩ : ByteArray) ++ u ++ ⟨#[32, 56]⟩), .int .i64 1] w fun e w' => e = .returned (.bool true) ∧ Below w.heap.size w w' := by
  obtain ⟨h1, h2⟩ := odd_bad k _ hu
  have e : ((⟨#[55, 32]⟩ : ByteArray) ++ u ++ ⟨#[32, 56]⟩).data.toList = [55, 32] ++ u.data.toList ++ [32, 56] := by simp
  refine wrong_lit _ 1 1 rfl w ?_ ht (by rw [e]; exact h1)
  have h3 : ((⟨#[55, 32]⟩ : ByteArray) ++ u ++ ⟨#[32, 56]⟩).size = ((⟨#[55, 32]⟩ : ByteArray) ++ u ++ ⟨#[32, 56]⟩).data.toList.length := by rw [Array.length_toList]; rfl
  rw [h3, e]
  simp only [List.length_append, List.length_cons, List.length_nil]
  omega
def oddP : List Pk := [(-1, 0), (100000, 0), (0, 3), (0, -1), (99999, 2)]
theorem odd_print : printL oddP = [45, 32, 45, 32, 45, 32, 45, 32, 57, 57, 57, 57, 57, 115] := by
  have h5 : wordB (99999, 2) = [57, 57, 57, 57, 57, 115] := ((wordP_ok (w := [57, 57, 57, 57, 57, 115]) (p := (99999, 2)) (by decide +kernel)).2).symm
  have e : oddP.map wordB = [[45], [45], [45], [45], [57, 57, 57, 57, 57, 115]] := by
    simp only [oddP, List.map_cons, List.map_nil, h5]
    rfl
  unfold printL
  rw [e]
  decide +kernel
set_option maxHeartbeats 8000000 in
theorem known_law (w : World) (ht : TieW w) : Calls Tryz.prog 8 #[] w fun e w' => e = .returned (.bool true) ∧ Below w.heap.size w w' := by
  have HE := Lib.hid (fun w ht => parse_lit ⟨#[]⟩ [] w (by decide) ht (by decide +kernel) (by decide +kernel))
  have HO := Lib.hid odd_wrong
  go_enter Tryz.func8, Tryz.ntmps8
  go_upto_region 2 with (go_at_call 19; refine (HE.out _ ht).mono ?_; rintro e w1 ⟨ea, ec, rfl, b1, p1⟩)
  have t1 := ht.on b1
  go_upto_region 4 with fail
  generalize hW : (w1.alloc _).alloc _ = W
  have BW : Below w.heap.size w W := by rw [← hW]; exact b1.trans ((((Below.refl _ w1).alloc (Nat.le_refl _) _).alloc (by simp) _).mono b1.size)
  have OD : Blk W w1.heap.size 45 #[.int .i64 (-1), .int .i64 0, .int .i64 100000, .int .i64 0, .int .i64 0, .int .i64 3, .int .i64 0, .int .i64 (-1), .int .i64 99999, .int .i64 2] := by rw [← hW]; exact (Blk.new w1 _ _).alloc _
  have WD : Blk W (w1.heap.size + 1) 9 #[.string ⟨#[45]⟩, .string ⟨#[116]⟩, .string ⟨#[49, 116, 116]⟩, .string ⟨#[49, 116, 115]⟩, .string ⟨#[49, 48, 48, 48, 48, 48]⟩, .string ⟨#[49, 84]⟩, .string ⟨#[43, 49]⟩, .string ⟨#[49, 44, 50]⟩, .string ⟨#[48, 116, 48]⟩, .string ⟨#[48, 48]⟩] := by rw [← hW]; exact blk_two w1 _ _ _
  have tW := ht.on BW
  have sW : w1.heap.size + 1 < W.heap.size := WD.lt
  clear hW
  go_upto_region 5 with fail
  go_loopw [5] (fun i wr => ∃ k : Nat, k ≤ 10 ∧ i = .int .i64 (k : Int) ∧ Below W.heap.size W wr)
    (fun i _ => 10 - (intOf i).toNat)
  case atStart => exact ⟨0, by omega, rfl, Below.refl _ _⟩
  case round =>
    obtain ⟨k, hk, rfl, hb⟩ := hrel
    have twr := tW.on hb
    by_cases hlt : k < 10
    · obtain ⟨u, hu, huc⟩ : ∃ u : ByteArray, oddW[k]? = some u.data.toList ∧ wr.cell? ⟨w1.heap.size + 1, k, none⟩ = some (.string u) := by
        have WR := WD.below hb sW
        rcases k with _ | _ | _ | _ | _ | _ | _ | _ | _ | _ | k
        · exact ⟨⟨#[45]⟩, rfl, WR.cell 0 _ rfl⟩
        · exact ⟨⟨#[116]⟩, rfl, WR.cell 1 _ rfl⟩
        · exact ⟨⟨#[49, 116, 116]⟩, rfl, WR.cell 2 _ rfl⟩
        · exact ⟨⟨#[49, 116, 115]⟩, rfl, WR.cell 3 _ rfl⟩
        · exact ⟨⟨#[49, 48, 48, 48, 48, 48]⟩, rfl, WR.cell 4 _ rfl⟩
        · exact ⟨⟨#[49, 84]⟩, rfl, WR.cell 5 _ rfl⟩
        · exact ⟨⟨#[43, 49]⟩, rfl, WR.cell 6 _ rfl⟩
        · exact ⟨⟨#[49, 44, 50]⟩, rfl, WR.cell 7 _ rfl⟩
        · exact ⟨⟨#[48, 116, 48]⟩, rfl, WR.cell 8 _ rfl⟩
        · exact ⟨⟨#[48, 48]⟩, rfl, WR.cell 9 _ rfl⟩
        · omega
      have HOk := Lib.hid (HO.out k u hu wr twr)
      have hul : u.size ≤ 6 := by
        have h1 := (odd_bad k _ hu).2
        have h2 : u.data.toList.length = u.size := by rw [Array.length_toList]; rfl
        omega
      clear hu
      go_wp2_with (go_at_call 22; refine HOk.out.mono ?_; rintro e w2 ⟨rfl, b2⟩)
      exact ⟨⟨k + 1, by omega, by go_num, hb.trans (b2.mono hb.size)⟩, by simp [intOf]; omega⟩
    · have hke : k = 10 := by omega
      subst hke
      have HP1 := Lib.hid (fun (x1 : World) (hb1 : Below wr.heap.size wr x1) (ht : TieW x1) => (show Calls Tryz.prog 17 #[.slice (some ⟨w1.heap.size, 0, none⟩) 5 5] x1 (fun e w' => e = .returned (.string ⟨#[45, 32, 45, 32, 45, 32, 45, 32, 57, 57, 57, 57, 57, 115]⟩) ∧ Below x1.heap.size x1 w') from by
        have OX : Blk x1 w1.heap.size 45 _ := (OD.below hb (by omega)).below hb1 (by have := hb.size; omega)
        have hp : PicksAt x1 x1.heap.size (.slice (some ⟨w1.heap.size, 0, none⟩) 5 5) oddP := ⟨some ⟨w1.heap.size, 0, none⟩, 5, rfl, by decide, fun i p hi => by
          refine ⟨w1.heap.size, 0, rfl, OX.lt, OX.lt, ?_⟩
          rcases i with _ | _ | _ | _ | _ | i
          · simp [oddP] at hi; subst hi; exact ⟨OX.cell 0 _ rfl, OX.cell 1 _ rfl⟩
          · simp [oddP] at hi; subst hi; exact ⟨OX.cell 2 _ rfl, OX.cell 3 _ rfl⟩
          · simp [oddP] at hi; subst hi; exact ⟨OX.cell 4 _ rfl, OX.cell 5 _ rfl⟩
          · simp [oddP] at hi; subst hi; exact ⟨OX.cell 6 _ rfl, OX.cell 7 _ rfl⟩
          · simp [oddP] at hi; subst hi; exact ⟨OX.cell 8 _ rfl, OX.cell 9 _ rfl⟩
          · simp [oddP] at hi⟩
        have hw : ∀ p ∈ oddP, PkWf p := by
          have h : (oddP.all fun p => (Lit.int .i64 p.1).wf && (Lit.int .i64 p.2).wf) = true := by decide +kernel
          intro p hp
          have := List.all_eq_true.1 h p hp
          rw [Bool.and_eq_true] at this
          exact this
        have h := print_any _ oddP x1 ht hp (by decide) hw
        rw [odd_print] at h
        exact h))
      have HP2 := Lib.hid (fun w ht => print_lit [] [] [] (.slice none 0 0) w rfl rfl (picksAt_nil w _) ht (by decide))
      have HA1 := Lib.hid (fun w ht => parsed_ok ⟨#[48, 32, 48, 116, 32, 48, 115, 32, 57, 57, 57, 57, 57]⟩ [(0, 0), (0, 1), (0, 2), (99999, 0)] w (by decide) ht (by decide +kernel) (by decide +kernel))
      have HP3 := Lib.hid (fun v w hv ht => print_lit [[48], [48, 116], [48, 115], [57, 57, 57, 57, 57]] [(0, 0), (0, 1), (0, 2), (99999, 0)] [48, 32, 48, 116, 32, 48, 115, 32, 57, 57, 57, 57, 57] v w (by decide +kernel) (by decide +kernel) hv ht (by decide))
      have HF1 := Lib.hid (fun w => fair_p (.slice none 0 0) [] 1 1 1 rfl true w (picksAt_nil w _) (by decide) (by decide) (by decide) (by decide) (by decide) (fair_none 1 1 (by decide) (by decide)))
      have HF2 := Lib.hid (fun w => fair_p (.slice none 0 0) [] 4611686018427387904 1 1 rfl true w (picksAt_nil w _) (by decide) (by decide) (by decide) (by decide) (by decide) (fair_none _ 1 (by decide) (by decide)))
      have HA2 := Lib.hid (fun w ht => parsed_ok ⟨#[48]⟩ [(0, 0)] w (by decide) ht (by decide +kernel) (by decide +kernel))
      have HF3 := Lib.hid (fun v w hv => fair_p v [(0, 0)] 4611686018427387904 1 1 rfl false w hv (by decide) (by decide) (by decide) (by decide) (by decide) (fair_few _ (by decide)))
      have HB := Lib.hid (BW.trans (hb.mono BW.size))
      have HZ := HB.out.size
      clear OD WD p1 tW t1 b1 BW hb
      generalize wr = x0 at *
      have t0 := twr
      go_wp2_with (first
        | (go_at_call 12; (with_reducible refine (works_any x0 t0).mono ?_); rintro e x1 ⟨rfl, b1⟩; have t1 := t0.on b1)
        | (go_at_call 17; (with_reducible refine (HP1.out x1 b1 t1).mono ?_); rintro e x2 ⟨rfl, b2⟩; have t2 := t1.on b2)
        | (go_at_call 17; (with_reducible refine (HP2.out x2 t2).mono ?_); rintro e x3 ⟨rfl, b3⟩; have t3 := t2.on b3)
        | (go_at_call 23; (with_reducible refine (HA1.out x3 t3).mono ?_); rintro e x4 ⟨v1, rfl, b4, p1⟩; have t4 := t3.on b4)
        | (go_at_call 17; (with_reducible refine (HP3.out v1 x4 p1 t4).mono ?_); rintro e x5 ⟨rfl, b5⟩; have t5 := t4.on b5)
        | (go_at_call 9; (with_reducible refine (decode_nil x5).mono ?_); rintro e x6 ⟨da, dc, rfl, b6⟩; have t6 := t5.on b6)
        | (go_at_call 13; (with_reducible refine (fair_bad _ 0 1 x6 (by decide)).mono ?_); rintro e x7 ⟨rfl, b7⟩; have t7 := t6.on b7)
        | (go_at_call 13; (with_reducible refine (fair_bad _ 1 0 x7 (by decide)).mono ?_); rintro e x8 ⟨rfl, b8⟩; have t8 := t7.on b8)
        | (go_at_call 13; (with_reducible refine (HF1.out x8).mono ?_); rintro e x9 ⟨rfl, b9⟩; have t9 := t8.on b9)
        | (go_at_call 13; (with_reducible refine (HF2.out x9).mono ?_); rintro e x10 ⟨rfl, b10⟩; have t10 := t9.on b10)
        | (go_at_call 23; (with_reducible refine (HA2.out x10 t10).mono ?_); rintro e x11 ⟨v2, rfl, b11, p2⟩; have t11 := t10.on b11)
        | (go_at_call 13; (with_reducible refine (HF3.out v2 x11 p2).mono ?_); rintro e x12 ⟨rfl, b12⟩; have t12 := t11.on b12)
        | (go_at_call 23; (with_reducible refine (HA2.out x12 t12).mono ?_); rintro e x13 ⟨v3, rfl, b13, p3⟩; have t13 := t12.on b13)
        | (go_at_call 15; (with_reducible refine (fill_no v3 [] 2 2 x13 (by decide)).mono ?_); rintro e x14 ⟨rfl, b14⟩; have t14 := t13.on b14)
        | (go_at_call 15; (with_reducible refine (fill_no _ [] 0 5 x14 (by decide)).mono ?_); rintro e x15 ⟨rfl, b15⟩; have t15 := t14.on b15)
        | (go_at_call 15; (with_reducible refine (fill_no _ [] (-1) 5 x15 (by decide)).mono ?_); rintro e x16 ⟨rfl, b16⟩))
      go_ret
      have c2 := b1.trans (b2.mono b1.size)
      have c3 := c2.trans (b3.mono c2.size)
      have c4 := c3.trans (b4.mono c3.size)
      have c5 := c4.trans (b5.mono c4.size)
      have c6 := c5.trans (b6.mono c5.size)
      have c7 := c6.trans (b7.mono c6.size)
      have c8 := c7.trans (b8.mono c7.size)
      have c9 := c8.trans (b9.mono c8.size)
      have c10 := c9.trans (b10.mono c9.size)
      have c11 := c10.trans (b11.mono c10.size)
      have c12 := c11.trans (b12.mono c11.size)
      have c13 := c12.trans (b13.mono c12.size)
      have c14 := c13.trans (b14.mono c13.size)
      have c15 := c14.trans (b15.mono c14.size)
      have c16 := c15.trans (b16.mono c15.size)
      exact ⟨rfl, HB.out.trans (c16.mono HZ)⟩
end Go.Proofs.YtjoflgcggdfomaaGreatDoor
