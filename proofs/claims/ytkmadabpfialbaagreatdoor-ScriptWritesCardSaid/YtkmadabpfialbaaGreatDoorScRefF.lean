/- The document's own answers of layer 7 (doorkeeperref07): word. -/
import Derived.Test.YtkmadabpfialbaaGreatDoorScRefD
namespace Go.Proofs.YtkmadabpfialbaaGreatDoor
open Go.ChangeShapes Go.WideShapes Go.ChangeAt Go.RowKit Go.Maps
set_option linter.unusedVariables false
set_option maxRecDepth 100000
set_option linter.unusedSimpArgs false
def WordPost (r : Option Pk) (w : World) (e : Ending) (w' : World) : Prop :=
  Below w.heap.size w w' ∧ match r with
    | some p => e = .returned (.tuple #[.agg #[.int .i64 p.1, .int .i64 p.2], .bool true])
    | none => ∃ a b : Int, e = .returned (.tuple #[.agg #[.int .i64 a, .int .i64 b], .bool false])
theorem results_word (tmps : Array Value) (n : Nat) (r0 r1 r : Value) (W : World) (h : Blk W n 46 #[r0, r1]) (h4 : tmps.getD 2 undef = .pointer (some ⟨n, 0, none⟩)) (h5 : tmps.getD 3 undef = r) :
    (results Tryz.f32 tmps).run Tryz.prog W = .ok (.tuple #[.agg #[r0, r1], r]) W := by
  rw [results_cell_tmp (u := 3) rfl tmps Tryz.prog W, h4, h5]
  simp [asAddr, run_loadVar_row W n 46 46 #[r0, r1] (0, 0) _ h Tryz.underlying46 rfl (by kernel_rfl), Result.andThen]
theorem word_no (w W : World) (a : Act) (n : Nat) (r0 r1 : Int) (h : Blk W n 46 #[.int .i64 r0, .int .i64 r1]) (hb : Below w.heap.size w W)
    (h4 : a.tmps.getD 2 undef = .pointer (some ⟨n, 0, none⟩)) (h5 : a.tmps.getD 3 undef = .bool false) (hd : a.defers = []) : bodyPost Tryz.prog Tryz.f32 (WordPost none w) .ret a W :=
  bodyPost_ret (results_word a.tmps _ _ _ _ W h h4 h5) hd ⟨hb, r0, r1, rfl⟩
theorem word_yes (w W : World) (a : Act) (n : Nat) (r0 r1 : Int) (h : Blk W n 46 #[.int .i64 r0, .int .i64 r1]) (hb : Below w.heap.size w W)
    (h4 : a.tmps.getD 2 undef = .pointer (some ⟨n, 0, none⟩)) (h5 : a.tmps.getD 3 undef = .bool true) (hd : a.defers = []) : bodyPost Tryz.prog Tryz.f32 (WordPost (some (r0, r1)) w) .ret a W :=
  bodyPost_ret (results_word a.tmps _ _ _ _ W h h4 h5) hd ⟨hb, rfl⟩
/-- the last byte says the kind -/
theorem split_last (w : List UInt8) (hne : w ≠ []) (lb : Nat) (hlb : (w.getD (w.length - 1) 0).toNat = lb) :
    (lb = 116 → splitK w = 1 ∧ splitD w = w.dropLast) ∧ (lb = 115 → splitK w = 2 ∧ splitD w = w.dropLast) ∧ (lb ≠ 116 → lb ≠ 115 → splitK w = 0 ∧ splitD w = w) := by
  have hl : w.getLast? = some (w.getD (w.length - 1) 0) := by
    have : 0 < w.length := List.length_pos_iff.2 hne
    rw [List.getLast?_eq_getElem?, List.getD_eq_getElem?_getD, List.getElem?_eq_getElem (by omega)]; rfl
  generalize w.getD (w.length - 1) 0 = b at *
  subst hlb
  refine ⟨fun h => ?_, fun h => ?_, fun h1 h2 => ?_⟩
  · obtain rfl := u8_back b 116 h
    unfold splitD splitK; rw [hl]; simp
  · obtain rfl := u8_back b 115 h
    unfold splitD splitK; rw [hl]; simp
  · have e1 : ¬ some b = some (116 : UInt8) := fun e => h1 (by rw [Option.some.inj e]; rfl)
    have e2 : ¬ some b = some (115 : UInt8) := fun e => h2 (by rw [Option.some.inj e]; rfl)
    unfold splitD splitK; rw [hl, if_neg e1, if_neg e2]; simp
theorem keep_one7 (w : World) (X i : Nat) (v : Value) : Keep (fun b => b = X) w (w.setCell ⟨X, i, none⟩ v) := (Keep.refl (fun b => b = X) w).set (p := ⟨X, i, none⟩) (fun _ => rfl) v
theorem word_store {w W : World} {n R : Nat} {a b : Value} (h : Blk W R 46 #[a, b]) (hB : Below n w W) (hw : n ≤ w.heap.size) (hR : n ≤ R) (x y : Value) :
    Blk ((W.setCell ⟨R, 0, none⟩ x).setCell ⟨R, 1, none⟩ y) R 46 #[x, y] ∧ Below n w ((W.setCell ⟨R, 0, none⟩ x).setCell ⟨R, 1, none⟩ y) := by
  have h1 := (h.set 0 x).set 1 y
  simp only [List.setIfInBounds_toArray, List.set_cons_zero, List.set_cons_succ] at h1
  have s1 := hB.size
  have b1 : Below n W (W.setCell ⟨R, 0, none⟩ x) := (keep_one7 W R 0 x).below (by omega) (fun i _ hi => by rw [hi]; exact hR)
  have s2 := b1.size
  exact ⟨h1, (hB.trans b1).trans ((keep_one7 _ R 1 y).below (by omega) (fun i _ hi => by rw [hi]; exact hR))⟩
theorem extract_drop (s : ByteArray) (h : 1 ≤ s.size) : (s.extract 0 (s.size - 1)).data.toList = s.data.toList.dropLast ∧ (s.extract 0 (s.size - 1)).size = s.size - 1 := by
  constructor
  · simp [ByteArray.data_extract]
  · rw [ByteArray.size_extract]; omega
set_option maxHeartbeats 8000000 in
theorem rword_any (s : ByteArray) (w : World) (hne : 1 ≤ s.size) (hl : s.size ≤ 1000) : Calls Tryz.prog 32 #[.string s] w (WordPost (wordP s.data.toList) w) := by
  obtain ⟨lb, hlb⟩ : ∃ lb : Nat, (s.data.toList.getD (s.data.toList.length - 1) 0).toNat = lb := ⟨_, rfl⟩
  have hlen : s.data.toList.length = s.size := by simp
  have hsl := split_last s.data.toList (by intro e; rw [e] at hlen; simp at hlen; omega) lb hlb
  have hix : ∀ W, (Instr.index 9 (.string s) (.int .i64 ((s.size : Int) - 1))).run Tryz.prog W = .ok (.int .u8 (lb : Int)) W := fun W => by
    have := str_at s (s.size - 1) W (by omega)
    rw [show ((s.size - 1 : Nat) : Int) = (s.size : Int) - 1 by omega] at this
    rw [this, ← hlb, hlen]
  have hlb8 : lb ≤ 255 := by have := (s.data.toList.getD (s.data.toList.length - 1) 0).toNat_lt; omega
  have HSL := Lib.hid hsl
  have HLB := Lib.hid hlb
  have hn1 : (1 : Int) ≤ (s.size : Int) := by omega
  clear hsl hlb hlen
  go_enter Tryz.func32, Tryz.ntmps32
  go_upto_region 2 with fail
  have hR : Blk ((w.alloc (.cells #[.int .i64 0, .int .i64 0] 46)).alloc (.cells #[.int .i64 0, .int .i64 0] 46)) w.heap.size 46 #[.int .i64 0, .int .i64 0] := (Blk.new w _ _).alloc _
  have hP : Blk ((w.alloc (.cells #[.int .i64 0, .int .i64 0] 46)).alloc (.cells #[.int .i64 0, .int .i64 0] 46)) (w.heap.size + 1) 46 #[.int .i64 0, .int .i64 0] := blk_two w _ _ _
  have hB : Below w.heap.size w ((w.alloc (.cells #[.int .i64 0, .int .i64 0] 46)).alloc (.cells #[.int .i64 0, .int .i64 0] 46)) := ((Below.refl _ w).alloc (Nat.le_refl _) _).alloc (by simp) _
  generalize (w.alloc (.cells #[.int .i64 0, .int .i64 0] 46)).alloc (.cells #[.int .i64 0, .int .i64 0] 46) = W2 at *
  obtain ⟨R, hRe⟩ : ∃ R, w.heap.size = R := ⟨_, rfl⟩
  rw [hRe] at hR hP
  simp only [hRe]
  have hRP : R + 1 ≠ R := by omega
  have HRE := Lib.hid hRe
  have HRP := Lib.hid hRP
  clear hRe hRP
  generalize hPe : R + 1 = P at *
  obtain ⟨c12, hc12⟩ : ∃ c12 : Bool, ((lb : Int) == 116) = c12 := ⟨_, rfl⟩
  have HC12 : Hid (c12 = true ↔ lb = 116) := Lib.hid (by rw [← hc12, beq_iff_eq]; omega)
  obtain ⟨c19, hc19⟩ : ∃ c19 : Bool, ((lb : Int) == 115) = c19 := ⟨_, rfl⟩
  have HC19 : Hid (c19 = true ↔ lb = 115) := Lib.hid (by rw [← hc19, beq_iff_eq]; omega)
  go_upto_if 12 with fail
  clear hc12
  go_cut [] from 13 to 13 (fun wx => ∃ κ : Int, (κ = if c12 then 1 else 0) ∧ Blk wx P 46 #[.int .i64 0, .int .i64 κ] ∧ Blk wx R 46 #[.int .i64 0, .int .i64 0] ∧ Below w.heap.size w wx)
  case first =>
    have x1 : W2.cell? ⟨P, 1, none⟩ = some (.int .i64 0) := hP.cell 1 _ rfl
    have z1 := hP.free 1
    cases c12 with
    | true =>
      go_wp2_with fail
      go_meet
      have hP3 := hP.set 1 (.int .i64 1)
      simp only [List.setIfInBounds_toArray, List.set_cons_zero, List.set_cons_succ] at hP3
      exact ⟨1, rfl, hP3, hR.keep (keep_one7 W2 P 1 _) (fun e => HRP.out e.symm), hB.trans ((keep_one7 W2 P 1 _).below hB.size (fun i _ hi => by rw [hi]; have := HRE.out; omega))⟩
    | false =>
      go_wp2_with fail
      go_meet
      exact ⟨0, rfl, hP, hR, hB⟩
  case rest =>
    obtain ⟨κ1, hκ1, hP1, hR1, hB1⟩ := hcut
    have HK1 := Lib.hid hκ1
    clear hP hR hB hκ1
    go_upto_if 19 with fail
    clear hc19
    go_cut [] from 20 to 20 (fun wx => ∃ κ : Int, (κ = if c19 then 2 else κ1) ∧ Blk wx P 46 #[.int .i64 0, .int .i64 κ] ∧ Blk wx R 46 #[.int .i64 0, .int .i64 0] ∧ Below w.heap.size w wx)
    case first =>
      have x1 : wc.cell? ⟨P, 1, none⟩ = some (.int .i64 κ1) := hP1.cell 1 _ rfl
      have z1 := hP1.free 1
      cases c19 with
      | true =>
        go_wp2_with fail
        go_meet
        have hP3 := hP1.set 1 (.int .i64 2)
        simp only [List.setIfInBounds_toArray, List.set_cons_zero, List.set_cons_succ] at hP3
        exact ⟨2, rfl, hP3, hR1.keep (keep_one7 wc P 1 _) (fun e => HRP.out e.symm), hB1.trans ((keep_one7 wc P 1 _).below hB1.size (fun i _ hi => by rw [hi]; have := HRE.out; omega))⟩
      | false =>
        go_wp2_with fail
        go_meet
        exact ⟨κ1, rfl, hP1, hR1, hB1⟩
    case rest =>
      clear hP1 hR1 hB1
      obtain ⟨κ, hκ, hP3, hR3, hB3⟩ := hcut
      have HSP : Hid (splitK s.data.toList = κ ∧ (κ ≠ 0 → splitD s.data.toList = s.data.toList.dropLast) ∧ (κ = 0 → splitD s.data.toList = s.data.toList)) := Lib.hid (by
        have h1 := HK1.out
        have h2 := HC12.out
        have h3 := HC19.out
        by_cases a : lb = 116
        · have e12 := h2.2 a
          have e19 : c19 = false := by cases c19 <;> simp_all
          rw [e12] at h1; rw [e19] at hκ
          simp at h1 hκ
          subst h1 hκ
          exact ⟨(HSL.out.1 a).1, fun _ => (HSL.out.1 a).2, fun h => absurd h (by decide)⟩
        · have e12 : c12 = false := by cases c12 <;> simp_all
          by_cases b : lb = 115
          · have e19 := h3.2 b
            rw [e19] at hκ
            simp at hκ
            subst hκ
            exact ⟨(HSL.out.2.1 b).1, fun _ => (HSL.out.2.1 b).2, fun h => absurd h (by decide)⟩
          · have e19 : c19 = false := by cases c19 <;> simp_all
            rw [e12] at h1; rw [e19] at hκ
            simp at h1 hκ
            subst h1 hκ
            exact ⟨(HSL.out.2.2 a b).1, fun h => absurd rfl h, fun _ => (HSL.out.2.2 a b).2⟩)
      clear hκ HK1 HC12 HC19
      generalize wc = W3 at *
      have x1 : W3.cell? ⟨P, 1, none⟩ = some (.int .i64 κ) := hP3.cell 1 _ rfl
      obtain ⟨c23, hc23⟩ : ∃ c23 : Bool, (κ != 0) = c23 := ⟨_, rfl⟩
      have HC23 : Hid (c23 = true ↔ κ ≠ 0) := Lib.hid (by rw [← hc23, bne_iff_ne])
      go_upto_if 23 with fail
      clear hc23
      go_cut [0] from 24 to 28 (fun s0 wx => ∃ sd : ByteArray, s0 = .string sd ∧ sd.data.toList = splitD s.data.toList ∧ sd.size ≤ 1000 ∧ wx = W3)
      case first =>
        have hex := extract_drop s hne
        cases c23 with
        | true =>
          have hs1 := HSP.out.2.1 (HC23.out.1 rfl)
          go_wp2_with fail
          go_meet
          exact ⟨_, rfl, by rw [hs1]; exact hex.1, by omega, rfl⟩
        | false =>
          have hs1 := HSP.out.2.2 (by have := HC23.out; simp at this; exact this)
          go_wp2_with fail
          go_meet
          exact ⟨s, rfl, by rw [hs1], hl, rfl⟩
      case rest =>
        obtain ⟨sd, rfl, hsd1, hsd, hwc⟩ := hcut
        obtain rfl : W3 = wc := hwc.symm
        have HWP : Hid (wordP s.data.toList = if canon sd.data.toList then some ((valOf sd.data.toList : Int), κ) else none) := Lib.hid (by unfold wordP; rw [HSP.out.1, ← hsd1])
        clear hsd1 hix
        have p0 : W3.cell? ⟨P, 0, none⟩ = some (.int .i64 0) := hP3.cell 0 _ rfl
        have r0 : W3.cell? ⟨R, 0, none⟩ = some (.int .i64 0) := hR3.cell 0 _ rfl
        have r1 : W3.cell? ⟨R, 1, none⟩ = some (.int .i64 0) := hR3.cell 1 _ rfl
        have zr0 := hR3.free 0
        have zr1 := hR3.free 1
        have HRn : Hid (w.heap.size ≤ R) := Lib.hid (by have := HRE.out; omega)
        have HPn : Hid (w.heap.size ≤ P) := Lib.hid (by have := HRE.out; omega)
        have HNO : Hid (¬ canon sd.data.toList = true → wordP s.data.toList = none) := Lib.hid (fun h => by rw [HWP.out, if_neg h])
        have hdl : sd.data.toList.length = sd.size := by simp
        by_cases c1 : sd.size < 1
        · have c1' : (sd.size : Int) < 1 := by omega
          have hno := Lib.hid (HNO.out (by unfold canon; simp; omega))
          go_wp2
          rw [hno.out]
          obtain ⟨g1, g2⟩ := word_store hR3 hB3 (Nat.le_refl _) HRn.out (.int .i64 0) (.int .i64 κ)
          exact word_no w _ _ R _ _ g1 g2 rfl rfl rfl
        by_cases c2 : 5 < sd.size
        · have c1' : ¬ (sd.size : Int) < 1 := by omega
          have c2' : (5 : Int) < (sd.size : Int) := by omega
          have hno := Lib.hid (HNO.out (by unfold canon; simp; omega))
          go_wp2
          rw [hno.out]
          obtain ⟨g1, g2⟩ := word_store hR3 hB3 (Nat.le_refl _) HRn.out (.int .i64 0) (.int .i64 κ)
          exact word_no w _ _ R _ _ g1 g2 rfl rfl rfl
        have c1' : ¬ (sd.size : Int) < 1 := by omega
        have c2' : ¬ (5 : Int) < (sd.size : Int) := by omega
        obtain ⟨hb, hhb⟩ : ∃ hb : Nat, (sd.data.toList.getD 0 0).toNat = hb := ⟨_, rfl⟩
        have hix0 : ∀ W, (Instr.index 9 (.string sd) (.int .i64 0)).run Tryz.prog W = .ok (.int .u8 (hb : Int)) W := fun W => by
          have := str_at sd 0 W (by omega)
          rw [hhb] at this
          exact this
        have hhead : Hid (sd.data.toList.head? = some 48 ↔ hb = 48) := Lib.hid (by
          have : sd.data.toList.head? = some (sd.data.toList.getD 0 0) := by
            rw [List.head?_eq_getElem?, List.getD_eq_getElem?_getD, List.getElem?_eq_getElem (by omega)]; rfl
          rw [this, ← hhb]
          constructor
          · intro e; rw [Option.some.inj e]; rfl
          · intro e; rw [u8_back _ 48 e]; rfl)
        clear hhb
        by_cases c3 : hb = 48 ∧ 1 < sd.size
        · obtain ⟨rfl, c4⟩ := c3
          have c4' : (1 : Int) < (sd.size : Int) := by omega
          have hno := Lib.hid (HNO.out (by unfold canon; simp [hhead.out]; omega))
          have hix1 : ∀ W, (Instr.index 9 (.string sd) (.int .i64 0)).run Tryz.prog W = .ok (.int .u8 48) W := hix0
          clear hix0
          go_wp2
          rw [hno.out]
          obtain ⟨g1, g2⟩ := word_store hR3 hB3 (Nat.le_refl _) HRn.out (.int .i64 0) (.int .i64 κ)
          exact word_no w _ _ R _ _ g1 g2 rfl rfl rfl
        have HCN : Hid (canon sd.data.toList = sd.data.toList.all isDig) := Lib.hid (by
          unfold canon
          have : (decide (1 ≤ sd.data.toList.length ∧ sd.data.toList.length ≤ 5) && (decide (sd.data.toList.length = 1) || decide (sd.data.toList.head? ≠ some 48))) = true := by
            rw [Bool.and_eq_true, Bool.or_eq_true, decide_eq_true_iff, decide_eq_true_iff, decide_eq_true_iff, Ne, hhead.out]
            omega
          rw [this, Bool.true_and])
        have hor : (((hb : Int) == 48) = false) ∨ (hb = 48 ∧ ¬ (1 : Int) < (sd.size : Int)) := by
          by_cases h : hb = 48
          · exact .inr ⟨h, by omega⟩
          · exact .inl (by rw [beq_eq_false_iff_ne]; omega)
        have hix48 : hb = 48 → ∀ W, (Instr.index 9 (.string sd) (.int .i64 0)).run Tryz.prog W = .ok (.int .u8 48) W := fun e W => by rw [hix0 W, e]; rfl
        rcases hor with hz | ⟨hz, hz2⟩
        rotate_left
        replace hix0 := hix48 hz
        clear hix48 hz
        rotate_left
        clear hix48
        all_goals
          go_wp2
          go_loopw [5] (fun v5 wr => ∃ i V : Nat, i ≤ sd.size ∧ v5 = .int .i64 (i : Int) ∧ V ≤ 99999 ∧ Hid ((sd.data.toList.take i).all isDig = true ∧ V = valOf (sd.data.toList.take i)) ∧ Blk wr P 46 #[.int .i64 (V : Int), .int .i64 κ] ∧ Blk wr R 46 #[.int .i64 0, .int .i64 0] ∧ Below w.heap.size w wr)
            (fun v5 _ => sd.size - (intOf v5).toNat)
          case atStart => exact ⟨0, 0, by omega, rfl, by omega, Lib.hid ⟨by simp, rfl⟩, hP3, hR3, hB3⟩
          case round =>
            clear hP3 hR3 hB3 p0 r0 r1 zr0 zr1 x1 hix0
            obtain ⟨i, V, hi, rfl, hV, hAV, hPr, hRr, hBr⟩ := hrel
            have p0 : wr.cell? ⟨P, 0, none⟩ = some (.int .i64 (V : Int)) := hPr.cell 0 _ rfl
            have p1 : wr.cell? ⟨P, 1, none⟩ = some (.int .i64 κ) := hPr.cell 1 _ rfl
            have r0 : wr.cell? ⟨R, 0, none⟩ = some (.int .i64 0) := hRr.cell 0 _ rfl
            have r1 : wr.cell? ⟨R, 1, none⟩ = some (.int .i64 0) := hRr.cell 1 _ rfl
            have zr0 := hRr.free 0
            have zr1 := hRr.free 1
            obtain ⟨g1, g2⟩ := word_store hRr hBr (Nat.le_refl _) HRn.out (.int .i64 (V : Int)) (.int .i64 κ)
            have G1 := Lib.hid g1
            have G2 := Lib.hid g2
            clear g1 g2
            by_cases hlt : i < sd.size
            · obtain ⟨b, hb⟩ : ∃ b : UInt8, sd.data.toList[i]? = some b := ⟨_, List.getElem?_eq_getElem (by omega)⟩
              obtain ⟨x, hx⟩ : ∃ x : Nat, b.toNat = x := ⟨_, rfl⟩
              have hixi : ∀ W, (Instr.index 9 (.string sd) (.int .i64 (i : Int))).run Tryz.prog W = .ok (.int .u8 (x : Int)) W := fun W => by
                have := str_at sd i W hlt
                rw [List.getD_eq_getElem?_getD, hb, Option.getD_some, hx] at this
                exact this
              have htk : Hid (sd.data.toList.take (i + 1) = sd.data.toList.take i ++ [b]) := Lib.hid (by rw [List.take_add_one, hb]; rfl)
              have hxd : Hid (isDig b = true ↔ 48 ≤ x ∧ x ≤ 57) := Lib.hid (by rw [isDig_iff, hx])
              have hmem : Hid (b ∈ sd.data.toList) := Lib.hid (List.mem_of_getElem? hb)
              have hno : Hid (¬ (48 ≤ x ∧ x ≤ 57) → wordP s.data.toList = none) := Lib.hid (fun h => HNO.out (by
                rw [HCN.out]
                intro hall
                exact h (hxd.out.1 (List.all_eq_true.1 hall b hmem.out))))
              have g1 : (i : Int) < (sd.size : Int) := by omega
              have HBX := Lib.hid hx
              clear hb hx
              have hx3 : x < 48 ∨ (¬ x < 48 ∧ 57 < x) ∨ (¬ x < 48 ∧ ¬ 57 < x) := by omega
              rcases hx3 with h | ⟨h, h'⟩ | ⟨h, h'⟩
              · have k1 : (x : Int) < 48 := by omega
                have hno2 := Lib.hid (hno.out (by omega))
                go_wp2
                rw [hno2.out]
                exact word_no w _ _ R _ _ G1.out G2.out rfl rfl rfl
              · have k1 : ¬ (x : Int) < 48 := by omega
                have k2 : (57 : Int) < (x : Int) := by omega
                have hno2 := Lib.hid (hno.out (by omega))
                go_wp2
                rw [hno2.out]
                exact word_no w _ _ R _ _ G1.out G2.out rfl rfl rfl
              · have k1 : ¬ (x : Int) < 48 := by omega
                have k2 : ¬ (57 : Int) < (x : Int) := by omega
                have e1 : IntKind.u8.wrap ((x : Int) - 48) = (x : Int) - 48 := by rw [IntKind.wrap_u8]; omega
                have e2 : wrap64 (10 * (V : Int)) = 10 * (V : Int) := IntWalk.wrap64_in _ ⟨by omega, by omega⟩
                have e3 : wrap64 (10 * (V : Int) + ((x : Int) - 48)) = 10 * (V : Int) + ((x : Int) - 48) := IntWalk.wrap64_in _ ⟨by omega, by omega⟩
                have hnx : Hid ((sd.data.toList.take (i + 1)).all isDig = true ∧ 10 * V + (x - 48) = valOf (sd.data.toList.take (i + 1)) ∧ 10 * V + (x - 48) ≤ 99999) := Lib.hid (by
                  have h1 : (sd.data.toList.take (i + 1)).all isDig = true := by
                    rw [htk.out, List.all_append, hAV.out.1]
                    simp [hxd.out]
                    omega
                  have h2 : 10 * V + (x - 48) = valOf (sd.data.toList.take (i + 1)) := by
                    rw [htk.out, hAV.out.2]
                    unfold valOf
                    rw [valFrom_snoc, HBX.out]
                  refine ⟨h1, h2, ?_⟩
                  have h3 := valOf_lt _ h1
                  have h4 : (sd.data.toList.take (i + 1)).length ≤ 5 := by rw [List.length_take]; omega
                  have h5 : 10 ^ (sd.data.toList.take (i + 1)).length ≤ 10 ^ 5 := Nat.pow_le_pow_right (by omega) h4
                  rw [h2]
                  have : (10 : Nat) ^ 5 = 100000 := rfl
                  omega)
                have hcast : (10 * (V : Int) + ((x - 48 : Nat) : Int)) = ((10 * V + (x - 48) : Nat) : Int) := by omega
                have HCA := Lib.hid hcast
                have HCB : Hid ((10 * (V : Int) + ((x : Int) - 48)) = ((10 * V + (x - 48) : Nat) : Int)) := Lib.hid (by omega)
                clear hcast
                have zp0 := hPr.free 0
                clear h h' hno hxd hmem r0 r1 zr0 zr1 p1 G1 G2
                go_upto_region 15 with fail
                go_still_tail 10, (by kernel_rfl)
                change wpList _ _ _ _ _ wr.drew
                have hPd := hPr.drew
                have hRd := hRr.drew
                have hBd := hBr.drew
                clear p0 zp0 hPr hRr hBr
                generalize wr.drew = W at *
                have p0 : W.cell? ⟨P, 0, none⟩ = some (.int .i64 (V : Int)) := hPd.cell 0 _ rfl
                have zp0 := hPd.free 0
                go_wp2
                go_roundw
                case rel =>
                  have hP4 := hPd.set 0 (.int .i64 (10 * (V : Int) + ((x - 48 : Nat) : Int)))
                  have hP5 := hPd.set 0 (.int .i64 (10 * (V : Int) + ((x : Int) - 48)))
                  simp only [List.setIfInBounds_toArray, List.set_cons_zero] at hP4 hP5
                  refine ⟨i + 1, 10 * V + (x - 48), by omega, by go_num, hnx.out.2.2, Lib.hid ⟨hnx.out.1, hnx.out.2.1⟩, by first | (rw [← HCA.out]; exact hP4) | (rw [← HCB.out]; exact hP5), hRd.keep (keep_one7 W P 0 _) (fun e => HRP.out e.symm), hBd.trans ((keep_one7 W P 0 _).below hBd.size (fun i _ hi => by rw [hi]; exact HPn.out))⟩
                case measure => simp [intOf]; omega
            · have hie : i = sd.size := by omega
              have hyes : Hid (wordP s.data.toList = some ((V : Int), κ)) := Lib.hid (by
                have e : sd.data.toList.take i = sd.data.toList := List.take_of_length_le (by omega)
                have h1 := hAV.out
                rw [e] at h1
                rw [HWP.out, HCN.out, if_pos h1.1, ← h1.2])
              have g1 : ¬ (i : Int) < (sd.size : Int) := by omega
              clear hlt hie
              go_wp2
              rw [hyes.out]
              exact word_yes w _ _ R _ _ G1.out G2.out rfl rfl rfl
end Go.Proofs.YtkmadabpfialbaaGreatDoor
