/- ScriptTells returns true. -/
import Derived.Test.YtkmadabpfialbaaGreatDoorScRefC
namespace Go.Proofs.YtkmadabpfialbaaGreatDoor
open Go.ChangeShapes Go.WideShapes Go.ChangeAt Go.RowKit Go.Maps
set_option linter.unusedVariables false
set_option maxRecDepth 100000
set_option linter.unusedSimpArgs false
/-- what was decoded: these picks, in a row below -/
def Row7 (w w' : World) (v : Value) (l : List Pk) : Prop := Below w.heap.size w w' ∧ w'.ownsRow w.heap.size 46 2 v l.length (pkCells l)
theorem decode_row2 (s : ByteArray) (m : Nat) (hm : m ≤ 100) (w : World) :
    Calls Tryz.prog 5 #[.string (s.extract 0 m)] w fun e w' => ∃ v, e = .returned v ∧ Below w.heap.size w w' ∧ w'.ownsRow w.heap.size 46 2 v (decodeL (s.extract 0 m)).length (pkCells (decodeL (s.extract 0 m))) :=
  decode_any _ w (by rw [ByteArray.size_extract]; omega)
theorem rdecode_row2 (s : ByteArray) (m : Nat) (hm : m ≤ 100) (w : World) :
    Calls Tryz.prog 7 #[.string (s.extract 0 m)] w fun e w' => ∃ v, e = .returned v ∧ Below w.heap.size w w' ∧ w'.ownsRow w.heap.size 46 2 v (decodeL (s.extract 0 m)).length (pkCells (decodeL (s.extract 0 m))) :=
  rdecode_any _ w (by rw [ByteArray.size_extract]; omega)
theorem fairP_min (L : List Pk) (A B : Int) (hl : L.length ≤ 60) : FairP L A B ↔ FairP L (min A 100) B := by
  by_cases hA : A ≤ 100
  · rw [Int.min_eq_left hA]
  · rw [Int.min_eq_right (by omega)]
    have key : ∀ T : Int, 100 ≤ T → (FairP L T B ↔ (1 ≤ B ∧ L.length < B.toNat)) := fun T hT => by
      constructor
      · intro h
        refine ⟨h.2.1, ?_⟩
        rcases Nat.lt_or_ge L.length B.toNat with h2 | h2
        · exact h2
        · have := win_len L 0 B.toNat T (h.2.2 0 (by omega))
          omega
      · rintro ⟨h1, h2⟩
        exact ⟨by omega, h1, fun a ha => by omega⟩
    rw [key A (by omega), key 100 (by omega)]
theorem fair_prog (v : Value) (L : List Pk) (A B : Int) (W : World) (hv : PicksAt W W.heap.size v L) (hl : L.length ≤ 60) (hA : A ≤ 9223372036854775807) (hB : B ≤ 9223372036854775807) :
    Calls Tryz.prog 9 #[v, .int .i64 A, .int .i64 B] W (FairPost L A B W) := by
  by_cases h : A < 1 ∨ B < 1
  · refine (fair_no v L A B W h).mono ?_
    rintro e w' ⟨rfl, rfl⟩
    exact ⟨false, rfl, ⟨(fun e => by cases e), fun hF => by have := hF.1; have := hF.2.1; omega⟩, Below.refl _ _⟩
  · obtain ⟨K, rfl⟩ := Int.eq_ofNat_of_zero_le (show 0 ≤ B by omega)
    refine (fair_yes v L A K W hv (by omega) (by omega) hA (by omega) hB).mono ?_
    rintro e w' ⟨hb, b, rfl, h2⟩
    exact ⟨b, rfl, h2, hb⟩
theorem fair_ref (v : Value) (L : List Pk) (A B : Int) (W : World) (hv : PicksAt W W.heap.size v L) (hl : L.length ≤ 60) (hB : B ≤ 9223372036854775807) :
    Calls Tryz.prog 10 #[v, .int .i64 (min A 100), .int .i64 B] W (FairPost L A B W) := by
  have hm := fairP_min L A B hl
  by_cases h : min A 100 < 1 ∨ B < 1
  · refine (rfair_no v L (min A 100) B W h).mono ?_
    rintro e w' ⟨b, rfl, h2, h3⟩
    exact ⟨b, rfl, h2.trans hm.symm, h3⟩
  · obtain ⟨T, hT⟩ := Int.eq_ofNat_of_zero_le (show 0 ≤ min A 100 by omega)
    obtain ⟨K, rfl⟩ := Int.eq_ofNat_of_zero_le (show 0 ≤ B by omega)
    rw [hT] at hm ⊢
    refine (rfair_yes v L T K W hv (by omega) (by omega) (by omega) (by omega) hB).mono ?_
    rintro e w' ⟨b, rfl, h2, h3⟩
    exact ⟨b, rfl, h2.trans hm.symm, h3⟩
/-- both say the same -/
theorem fair_both (v : Value) (L : List Pk) (A B : Int) (hl : L.length ≤ 60) (hA : A ≤ 9223372036854775807) (hB : B ≤ 9223372036854775807) :
    ∃ b : Bool, (∀ W, PicksAt W W.heap.size v L → Calls Tryz.prog 9 #[v, .int .i64 A, .int .i64 B] W fun e w' => e = .returned (.bool b) ∧ Below W.heap.size W w') ∧
      ∀ W, PicksAt W W.heap.size v L → Calls Tryz.prog 10 #[v, .int .i64 (min A 100), .int .i64 B] W fun e w' => e = .returned (.bool b) ∧ Below W.heap.size W w' := by
  obtain ⟨b, hb⟩ : ∃ b : Bool, (b = true ↔ FairP L A B) := by
    by_cases h : FairP L A B
    · exact ⟨true, by simp [h]⟩
    · exact ⟨false, by simp [h]⟩
  refine ⟨b, fun W hv => (fair_prog v L A B W hv hl hA hB).mono ?_, fun W hv => (fair_ref v L A B W hv hl hB).mono ?_⟩
  all_goals
    rintro e w' ⟨b', rfl, h1, h2⟩
    have : b' = b := by rw [Bool.eq_iff_iff, h1, hb]
    rw [this]
    exact ⟨rfl, h2⟩
/-- what stays while both are asked -/
structure Hold7 (w W : World) (X : Nat) (v : Value) (L : List Pk) (A B : Int) : Prop where
  at' : PicksAt W W.heap.size v L
  x : Blk W X 26 #[.int .i64 A, .int .i64 B]
  b : Below w.heap.size w W
theorem Hold7.below {w W W' : World} {X : Nat} {v : Value} {L : List Pk} {A B : Int} (h : Hold7 w W X v L A B) (hb : Below W.heap.size W W') : Hold7 w W' X v L A B :=
  ⟨(h.at'.below hb).mono hb.size, h.x.below hb h.x.lt, h.b.trans (hb.mono h.b.size)⟩
theorem Hold7.drew {w W : World} {X : Nat} {v : Value} {L : List Pk} {A B : Int} (h : Hold7 w W X v L A B) : Hold7 w W.drew X v L A B :=
  h.below (Below.refl _ W).drew
set_option maxHeartbeats 8000000 in
theorem tells_law (s : ByteArray) (t k : Int) (w : World) (ht : TieW w) (t0 : -9223372036854775808 ≤ t) (t1 : t ≤ 9223372036854775807) (k0 : -9223372036854775808 ≤ k) (k1 : k ≤ 9223372036854775807) :
    Calls Tryz.prog 3 #[.string s, .int .i64 t, .int .i64 k] w fun e w' => e = .returned (.bool true) ∧ Below w.heap.size w w' := by
  have HW := Lib.hid (fun W hW => works_any W hW)
  have HD := Lib.hid (fun (m : Nat) (hm : m ≤ 100) (w1 : World) => decode_row2 s m hm w1)
  have HR := Lib.hid (fun (m : Nat) (hm : m ≤ 100) (w1 : World) => rdecode_row2 s m hm w1)
  have HT := Lib.hid ht
  clear ht
  go_enter Tryz.func3, Tryz.ntmps3
  go_upto_region 3 with (go_at_call 5; refine (HD.out _ (by omega) w).mono ?_; rintro e w1 ⟨v, rfl, b1, o1⟩)
  have hm60 : (min (s.size : Int) 60).toNat ≤ 60 := by omega
  generalize (min (s.size : Int) 60).toNat = m at *
  have hLl : (decodeL (s.extract 0 m)).length ≤ 60 := by
    rw [decodeL_len, ByteArray.size_extract]; omega
  have HR1 := Lib.hid (HR.out m (by omega) w1)
  clear HD HR
  generalize decodeL (s.extract 0 m) = L at *
  have hp1 := PicksAt.own o1
  have ht1 := HT.out.on b1
  go_upto_region 5 with (first
    | (go_at_call 7; refine HR1.out.mono ?_; rintro e w2 ⟨v2, rfl, b2, o2⟩; have hp2 : PicksAt w2 w2.heap.size v L := (hp1.below b2).mono b2.size; have HS := Lib.hid (picks_same v v2 L w2 hp2 (PicksAt.own o2) (by omega)))
    | (go_at_call 6; refine HS.out.mono ?_; rintro e w3 ⟨rfl, b3⟩; have HW3 := Lib.hid (HW.out w3 ((ht1.on b2).on b3)))
    | (go_at_call 8; refine HW3.out.mono ?_; rintro e w4 ⟨rfl, b4⟩))
  have e1 := b1.size
  have e2 := b2.size
  have e3 := b3.size
  have B4 : Below w.heap.size w w4 := ((b1.trans (b2.mono e1)).trans (b3.mono (by omega))).trans (b4.mono (by omega))
  have hp4 : PicksAt w4 w4.heap.size v L := (((hp2.below b3).mono b3.size).below b4).mono b4.size
  clear hp1 hp2 o1 o2 b1 b2 b3 b4 e1 e2 e3 HS HR1 HW3 ht1 HW HT
  go_upto_region 6 with fail
  have hx := Int.tmod_lt_of_pos t (show (0 : Int) < 9 by omega)
  have hy := Int.tmod_lt_of_pos k (show (0 : Int) < 20 by omega)
  generalize t.tmod 9 = x at *
  generalize k.tmod 20 = y at *
  obtain ⟨p1, hp1a, hp1b⟩ := fair_both v L x y hLl (by omega) (by omega)
  obtain ⟨p2, hp2a, hp2b⟩ := fair_both v L t k hLl t1 k1
  have P1A := Lib.hid hp1a
  have P1B := Lib.hid hp1b
  have P2A := Lib.hid hp2a
  have P2B := Lib.hid hp2b
  clear hp1a hp1b hp2a hp2b
  go_upto_region 7 with fail
  go_loopw [39] (fun i wr => ∃ n : Nat, n ≤ 2 ∧ i = .int .i64 (n : Int) ∧ PicksAt wr wr.heap.size v L ∧ Below w.heap.size w wr)
    (fun i _ => 2 - (intOf i).toNat)
  case atStart => exact ⟨0, by omega, rfl, hp4, B4⟩
  case round =>
    clear hp4 B4
    obtain ⟨n, hn, rfl, hp, hb⟩ := hrel
    have hn3 : n = 0 ∨ n = 1 ∨ n = 2 := by omega
    rcases hn3 with h | h | h
    · obtain rfl : n = 0 := by omega
      have hix : ∀ W : World, (Instr.index 27 (.agg #[.int .i64 x, .int .i64 y, .int .i64 t, .int .i64 k]) (.int .i64 0)).run Tryz.prog W = .ok (.agg #[.int .i64 x, .int .i64 y]) W := fun W => by kernel_rfl
      go_upto_region 9 with fail
      have H0 : Hold7 w (wr.alloc (.cells #[.int .i64 x, .int .i64 y] 26)) wr.heap.size v L x y := ⟨(hp.below ((Below.refl _ wr).alloc (Nat.le_refl _) _)).mono (by simp), Blk.new _ _ _, hb.alloc hb.size _⟩
      generalize wr.alloc (.cells #[.int .i64 x, .int .i64 y] 26) = W0 at *
      generalize wr.heap.size = X at *
      have f0 : W0.cell? ⟨X, 0, none⟩ = some (.int .i64 x) := H0.x.cell 0 _ rfl
      have f1 : W0.cell? ⟨X, 1, none⟩ = some (.int .i64 y) := H0.x.cell 1 _ rfl
      clear hp hb
      cases p1
      all_goals
        go_region_held3 (fun W => W.cell? ⟨X, 0, none⟩ = some (.int .i64 x) ∧ W.cell? ⟨X, 1, none⟩ = some (.int .i64 y)) (first | exact ⟨f0, f1⟩ | go_keep) (first
          | (go_at_call 9; refine (P1A.out _ H0.drew.at').mono ?_; rintro e w2 ⟨rfl, hb⟩; replace H0 := H0.drew.below hb; clear f0 f1 hb; have f0 := H0.x.cell 0 _ rfl; have f1 := H0.x.cell 1 _ rfl)
          | (go_at_call 10; refine (P1B.out _ H0.at').mono ?_; rintro e w3 ⟨rfl, hb⟩; replace H0 := H0.below hb; clear f0 f1 hb; have f0 := H0.x.cell 0 _ rfl; have f1 := H0.x.cell 1 _ rfl))
        all_goals
          go_wp2
          go_roundw
          case rel => exact ⟨1, by omega, rfl, H0.at', H0.b⟩
          case measure => simp [intOf]
    · obtain rfl : n = 1 := by omega
      have hix : ∀ W : World, (Instr.index 27 (.agg #[.int .i64 x, .int .i64 y, .int .i64 t, .int .i64 k]) (.int .i64 1)).run Tryz.prog W = .ok (.agg #[.int .i64 t, .int .i64 k]) W := fun W => by kernel_rfl
      go_upto_region 9 with fail
      have H0 : Hold7 w (wr.alloc (.cells #[.int .i64 t, .int .i64 k] 26)) wr.heap.size v L t k := ⟨(hp.below ((Below.refl _ wr).alloc (Nat.le_refl _) _)).mono (by simp), Blk.new _ _ _, hb.alloc hb.size _⟩
      generalize wr.alloc (.cells #[.int .i64 t, .int .i64 k] 26) = W0 at *
      generalize wr.heap.size = X at *
      have f0 : W0.cell? ⟨X, 0, none⟩ = some (.int .i64 t) := H0.x.cell 0 _ rfl
      have f1 : W0.cell? ⟨X, 1, none⟩ = some (.int .i64 k) := H0.x.cell 1 _ rfl
      clear hp hb
      cases p2
      all_goals
        go_region_held3 (fun W => W.cell? ⟨X, 0, none⟩ = some (.int .i64 t) ∧ W.cell? ⟨X, 1, none⟩ = some (.int .i64 k)) (first | exact ⟨f0, f1⟩ | go_keep) (first
          | (go_at_call 9; refine (P2A.out _ H0.drew.at').mono ?_; rintro e w2 ⟨rfl, hb⟩; replace H0 := H0.drew.below hb; clear f0 f1 hb; have f0 := H0.x.cell 0 _ rfl; have f1 := H0.x.cell 1 _ rfl)
          | (go_at_call 10; refine (P2B.out _ H0.at').mono ?_; rintro e w3 ⟨rfl, hb⟩; replace H0 := H0.below hb; clear f0 f1 hb; have f0 := H0.x.cell 0 _ rfl; have f1 := H0.x.cell 1 _ rfl))
        all_goals
          go_wp2
          go_roundw
          case rel => exact ⟨2, by omega, rfl, H0.at', H0.b⟩
          case measure => simp [intOf]
    · obtain rfl : n = 2 := by omega
      clear P1A P1B P2A P2B
      by_cases hno : x < 1 ∨ y ≤ x
      · have HN := Lib.hid hno
        clear hno
        go_wp2_with (first
          | (go_at_call 11; refine (fill_no v L x y wr HN.out).mono ?_; rintro e w2 ⟨rfl, b2⟩)
          | (go_at_call 12; refine (rfill_no v x y w2 HN.out).mono ?_; rintro e w3 ⟨rfl, b3⟩; have HS := Lib.hid (picks_same (.slice none 0 0) (.slice none 0 0) [] w3 (picksAt_nil _ _) (picksAt_nil _ _) (by simp)))
          | (go_at_call 6; refine HS.out.mono ?_; rintro e w4 ⟨rfl, b4⟩))
        go_ret
        have e1 := hb.size
        have e2 := b2.size
        have e3 := b3.size
        exact ⟨rfl, ((hb.trans (b2.mono e1)).trans (b3.mono (by omega))).trans (b4.mono (by omega))⟩
      · obtain ⟨T, rfl⟩ := Int.eq_ofNat_of_zero_le (show 0 ≤ x by omega)
        obtain ⟨D, hD⟩ := Int.eq_ofNat_of_zero_le (show 0 ≤ y - (T : Int) by omega)
        obtain rfl : y = (D : Int) + (T : Int) := by omega
        have hT1 : 1 ≤ T := by omega
        have hD1 : 1 ≤ D := by omega
        have hT2 : T ≤ 1000 := by omega
        have hD2 : D ≤ 1000 := by omega
        have HF := Lib.hid (fill_any v L T D wr hp (by omega) hT1 hT2 hD1 (by omega))
        have hfl : (fillL D T L).length ≤ 100000 := by
          rw [fillL_len]
          have h1 : L.length / D ≤ 60 := Nat.le_trans (Nat.div_le_self _ _) hLl
          have h2 : T * (L.length / D + 1) ≤ 8 * 61 := Nat.mul_le_mul (by omega) (by omega)
          omega
        have HFL := Lib.hid hfl
        clear hno hD hfl hx hy
        go_wp2_with (first
          | (go_at_call 11; refine HF.out.mono ?_; rintro e w2 ⟨v2', rfl, b2, o2⟩; have HG := Lib.hid (rfill_yes v L T D w2 ((hp.below b2).mono b2.size) (by omega) hT1 hT2 hD1 hD2))
          | (go_at_call 12; refine HG.out.mono ?_; rintro e w3 ⟨v3', rfl, b3, o3⟩; have HS := Lib.hid (picks_same v2' v3' (fillL D T L) w3 (((PicksAt.own o2).below b3).mono b3.size) (PicksAt.own o3) HFL.out))
          | (go_at_call 6; refine HS.out.mono ?_; rintro e w4 ⟨rfl, b4⟩))
        go_ret
        have e1 := hb.size
        have e2 := b2.size
        have e3 := b3.size
        exact ⟨rfl, ((hb.trans (b2.mono e1)).trans (b3.mono (by omega))).trans (b4.mono (by omega))⟩
end Go.Proofs.YtkmadabpfialbaaGreatDoor
