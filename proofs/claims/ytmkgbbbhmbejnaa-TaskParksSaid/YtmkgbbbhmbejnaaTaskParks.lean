/- Layer 6's law: TaskParks. -/
import Derived.Test.YtmkgbbbhmbejnaaTaskWorksB
namespace Go.Proofs.Ytmkgbbbhmbejnaa
open Go.ChangeShapes Go.WideShapes Go.ChangeAt Go.RowKit
set_option linter.unusedVariables false
set_option maxRecDepth 100000
set_option linter.unusedSimpArgs false
def rdy : Itm := ⟨7, 0, 0, 0⟩
def prk (timed : Bool) (o : Nat) : Itm := ⟨if timed then 6 else 5, o, 0, 0⟩
theorem prk_kind (timed : Bool) (o : Nat) : (prk timed o).kind = 5 ∨ (prk timed o).kind = 6 := by cases timed <;> simp [prk]
theorem prk_timed (timed : Bool) (o : Nat) : ((prk timed o).kind == 6) = timed := by cases timed <;> rfl
theorem prk_new (P : Nat) (Q : Nat → Prop) (timed : Bool) (o : Nat) (w : World) (hQ : ∀ k, w.heap.size ≤ k → Q k) :
    Calls Try.prog 41 #[permitsV P, .int .i64 o, .bool timed] w fun e w' => ∃ t, e = .returned (pV t) ∧ Made6 w P P Q [prk timed o] 0 t w' := by
  have h := tpark_any P P Q (prk timed o) w (prk_kind timed o) hQ
  rw [prk_timed] at h
  exact h
/-- a task of one parking, and a value behind it -/
theorem seq_prk {w2 w4 wa : World} {P t1 t2 : Nat} {x : Itm} {Q : Nat → Prop} (hx : x.kind ≠ 7) (h1 : Made6 wa P P Q [x] 0 t1 w2) (hq1 : Q t1) (h2 : Made6 w2 P P Q [] 0 t2 w4) (hq2 : Q t2) (hQ : ∀ k, w4.heap.size ≤ k → Q k) :
    Calls Try.prog 40 #[.slice (some ⟨w4.heap.size, 0, none⟩) 2 2] (w4.alloc (.cells #[pV t1, pV t2] 56)) fun e w' => ∃ t, e = .returned (pV t) ∧ Made6 (w4.alloc (.cells #[pV t1, pV t2] 56)) P P Q [x, rdy] 0 t w' := by
  have hB := Blk.new w4 56 #[pV t1, pV t2]
  have k2 : Keep (fun _ => False) w2 w4 := Keep.ofBelow h2.2.2
  have k4 : Keep (fun _ => False) w4 (w4.alloc (.cells #[pV t1, pV t2] 56)) := (Keep.refl _ _).alloc _
  have e1 : TaskC (w4.alloc (.cells #[pV t1, pV t2] 56)) P P Q t1 [x] 0 := h1.task.keep (k2.trans k4) (fun _ _ h => h) (fun h => h) (fun _ _ h => h)
  have e2 : TaskC (w4.alloc (.cells #[pV t1, pV t2] 56)) P P Q t2 [] 0 := h2.task.keep k4 (fun _ _ h => h) (fun h => h) (fun _ _ h => h)
  refine (seq_any P P Q [(some ⟨t1, 0, none⟩, [x]), (some ⟨t2, 0, none⟩, [rdy])] w4.heap.size 0 2 _ (by simp) (by simp) (fun i z hz => ?_) (fun k hk => hQ k (by rw [World.size_alloc] at hk; omega))).mono ?_
  · match i, hz with
    | 0, hz =>
      obtain rfl : z = (some ⟨t1, 0, none⟩, [x]) := by simpa using hz.symm
      exact ⟨hB.cell 0 _ rfl, .inr ⟨t1, [x], 0, rfl, hq1, e1, equiv_one hx⟩⟩
    | 1, hz =>
      obtain rfl : z = (some ⟨t2, 0, none⟩, [rdy]) := by simpa using hz.symm
      exact ⟨hB.cell 1 _ rfl, .inr ⟨t2, [], 0, rfl, hq2, e2, equiv_ready rfl⟩⟩
    | (i + 2), hz => simp at hz
  · rintro e w' ⟨t, r, v, rfl, hM, hR⟩
    refine ⟨t, rfl, ?_⟩
    rcases hR with ⟨h, _⟩ | ⟨_, hR⟩
    · cases h
    · have e0 := (hR.on 0).1
      have ef : flat [((some ⟨t1, 0, none⟩ : Option Addr), [x]), (some ⟨t2, 0, none⟩, [rdy])] = [x, rdy] := by simp [flat]
      rw [ef, onS_other hx] at e0
      subst e0
      exact ⟨hM.1, TaskIn.value hM.2.1 0 (fun h => by cases h), hM.2.2⟩
def bitP (ps : Int) (i : Nat) : Bool := bits BinOp.and IntKind.u8 (ps / 2 ^ i) 1 == 1
set_option maxHeartbeats 8000000 in
theorem parks_law (t ps : Int) (timed : Bool) (w : World) (ht : 0 ≤ t ∧ t ≤ 255) (hp : 0 ≤ ps ∧ ps ≤ 255) :
    Calls Try.prog 7 #[.int .u8 t, .int .u8 ps, .bool timed] w fun e w' => e = .returned (.bool true) ∧ Below w.heap.size w w' := by
  have HWk := Lib.hid fun W => works6_any W
  have HN := Lib.hid fun W => pnew_some 8 W (by decide) (by decide)
  go_enter Try.func7, Try.ntmps7
  go_upto_region 3 with (go_at_call 20; refine (HWk.out _).mono ?_; rintro e w2 ⟨rfl, kb2⟩)
  have B2 := kb2
  go_wp2
  go_loopw [7] (fun i wr => ∃ k : Nat, k ≤ 3 ∧ i = .int .i64 k ∧ Below w.heap.size w wr) (fun i wr => 3 - (intOf i).toNat)
  case atStart => exact ⟨0, by omega, rfl, B2⟩
  case round =>
    clear B2 kb2
    obtain ⟨k, hk, rfl, hB⟩ := hrel
    by_cases hlt : k < 3
    · have hki : (k : Int) < 3 := by omega
      have hBs := hB.size
      have HBB := Lib.hid hB
      go_upto_region 9 with (go_at_call 39; refine (HN.out _).mono ?_; rintro e w3 ⟨rfl, ⟨cs, hP, hcs⟩, kb3⟩)
      have nS := kb3.size
      obtain ⟨R, hR⟩ : ∃ R, wr.heap.size = R := ⟨_, rfl⟩
      rw [hR] at hP hcs kb3
      simp only [hR]
      have B3 : Below w.heap.size w w3 := HBB.out.trans (kb3.mono (by omega))
      have HB3 := Lib.hid B3
      have HCS : Hid (∀ c ∈ cs, w.heap.size ≤ c) := Lib.hid (fun c hc => by have := hcs c hc; omega)
      go_wp2
      go_loopw [9] (fun i wr => ∃ (u : Nat) (l : List Bool), u ≤ 8 ∧ i = .int .i64 u ∧ PermitsAt wr (R + 1) R cs l ∧ l.length = 8 ∧ (∀ j, j < 8 → l[j]? = some (decide (j < u) && bitP ps j)) ∧ Keep (fun b => b ∈ cs) w3 wr) (fun i wr => 8 - (intOf i).toNat)
      case atStart => exact ⟨0, List.replicate 8 false, by omega, rfl, hP, rfl, fun j hj => by rw [List.getElem?_replicate]; simp [hj], Keep.refl _ _⟩
      case round =>
        clear hP hcs kb3 nS B3 hB
        obtain ⟨u, l, hu, rfl, hP, hl8, hlu, kj⟩ := hrel
        by_cases hlt2 : u < 8
        · have ui : 0 ≤ (u : Int) ∧ (u : Int) < 8 := by omega
          by_cases hb : (bits BinOp.and IntKind.u8 (ps / 2 ^ u) 1 == 1) = true
          · have GV := Lib.hid (give_any (R + 1) R cs l u _ wr hP (hlu u hlt2))
            go_wp2_with (go_at_call 26; refine GV.out.mono ?_; rintro e w4 ⟨rfl, hP', k4⟩)
            refine ⟨⟨u + 1, l.set u true, by omega, by go_num, hP', by simpa using hl8, fun j hj => ?_, kj.trans k4⟩, by simp [intOf]; omega⟩
            by_cases e : j = u
            · subst e
              rw [List.getElem?_set_self (by omega)]
              have : bitP ps j = true := hb
              simp [this]
            · rw [List.getElem?_set_ne (fun h => e h.symm), hlu j hj]
              congr 2
              rw [decide_eq_decide]; omega
          · have hb2 : (bits BinOp.and IntKind.u8 (ps / 2 ^ u) 1 == 1) = false := by simpa using hb
            go_wp2
            refine ⟨⟨u + 1, l, by omega, by go_num, hP, hl8, fun j hj => ?_, kj⟩, by simp [intOf]; omega⟩
            rw [hlu j hj]
            by_cases e : j = u
            · subst e
              have : bitP ps j = false := hb2
              simp [this]
            · congr 2
              rw [decide_eq_decide]; omega
        · obtain rfl : u = 8 := by omega
          obtain ⟨o, ho8, hto⟩ : ∃ o : Nat, o < 8 ∧ t % 8 = o := ⟨(t % 8).toNat, by omega, by omega⟩
          have HLU : Hid (∀ j, j < 8 → l[j]? = some (bitP ps j)) := Lib.hid (fun j hj => by rw [hlu j hj]; simp [hj])
          have HP := Lib.hid hP
          have B4 : Below w.heap.size w wr := HB3.out.trans (kj.below HB3.out.size (fun i _ hi => HCS.out i hi))
          have s4 := B4.size
          have HB4 := Lib.hid B4
          have HCL : Hid (∀ c ∈ cs, c < wr.heap.size) := Lib.hid (fun c hc => by
            obtain ⟨i, hi⟩ := List.mem_iff_getElem?.1 hc
            have hlt := (List.getElem?_eq_some_iff.1 hi).1
            obtain ⟨s, r, hx⟩ := hP.chan i c (l[i]'(by rw [← hP.len]; exact hlt)) hi (by simp)
            exact (Array.getElem?_eq_some_iff.1 hx).1)
          have HL8 := Lib.hid hl8
          have PN := Lib.hid fun W (hw : wr.heap.size ≤ W.heap.size) => prk_new (R + 1) (fun b => wr.heap.size ≤ b) timed o W (fun k hk => by omega)
          have PN2 := Lib.hid fun W => prk_new (R + 1) (fun b => W.heap.size ≤ b) timed o W (fun k hk => hk)
          have RN := Lib.hid fun W => tready_any (R + 1) (R + 1) (fun b => wr.heap.size ≤ b) 0 W
          have SN := Lib.hid fun wa w2 w4 t1 t2 (hw : wr.heap.size ≤ wa.heap.size) (h1 : Made6 wa (R + 1) (R + 1) (fun b => wr.heap.size ≤ b) [prk timed o] 0 t1 w2) (h2 : Made6 w2 (R + 1) (R + 1) (fun b => wr.heap.size ≤ b) [] 0 t2 w4) =>
            seq_prk (x := prk timed o) (by have := prk_kind timed o; omega) h1 (Nat.le_trans hw h1.1) h2 (Nat.le_trans hw (Nat.le_trans h1.2.2.size h2.1)) (fun k hk => Nat.le_trans hw (Nat.le_trans h1.2.2.size (Nat.le_trans h2.2.2.size hk)))
          clear hP HN HWk kj hlu hl8 HB3 HBB B4 s4
          go_upto_region 17 with (first
            | (go_at_call 41; refine (PN.out _ (Nat.le_refl _)).mono ?_; rintro e wa ⟨t1, rfl, hM1⟩; have HM1 := Lib.hid hM1; clear hM1)
            | (go_at_call 42; refine (RN.out _).mono ?_; rintro e wb ⟨t2, rfl, hM2⟩; have HM2 := Lib.hid hM2; have HS := Lib.hid (SN.out wr wa wb t1 t2 (Nat.le_refl _) HM1.out hM2); clear hM2)
            | (go_at_call 40; refine HS.out.mono ?_; rintro e wc ⟨t3, rfl, hM3⟩; have HM3 := Lib.hid hM3; clear hM3))
          go_upto_region 18 with (go_at_call 41; refine (PN2.out _).mono ?_; rintro e wd ⟨t4, rfl, hM4⟩; have HM4 := Lib.hid hM4; clear hM4)
          have kA : Keep (fun _ => False) wb (wb.alloc (.cells #[pV t1, pV t2] 56)) := (Keep.refl _ _).alloc _
          have kC : Keep (fun _ => False) wr wc := (Keep.ofBelow HM1.out.2.2).trans ((Keep.ofBelow HM2.out.2.2).trans (kA.trans (Keep.ofBelow HM3.out.2.2)))
          have kD : Keep (fun _ => False) wc wd := Keep.ofBelow HM4.out.2.2
          have sC := kC.size
          have sD := kD.size
          have sA := kA.size
          have hX0 := HM3.out.taskG (show wr.heap.size ≤ t3 from Nat.le_trans HM1.out.2.2.size (Nat.le_trans HM2.out.2.2.size (Nat.le_trans sA HM3.out.1)))
          have hX := Lib.hid (hX0.keep kD (fun _ _ h => h))
          have hY := Lib.hid (HM4.out.taskG HM4.out.1)
          have hPd := Lib.hid (HP.out.keep (kC.trans kD) (fun h => h) (fun h => h) (fun _ _ h => h))
          have BD : Below w.heap.size w wd := HB4.out.trans ((kC.trans kD).below HB4.out.size (fun _ _ h => h.elim))
          have HBD := Lib.hid BD
          have hs4 := HB4.out.size
          have HSD := Lib.hid sD
          have HSC := Lib.hid sC
          clear HM1 HM2 HM3 HM4 HS SN RN PN PN2 HP kA kC kD hX0 BD sC sD sA
          have h3c := Nat.le_refl wc.heap.size
          have X1 := Lib.hid (isparked_any _ _ _ _ _ _ wd hX.out)
          have X2 := Lib.hid (isdone_any _ _ _ _ _ _ wd hX.out)
          have X3 := Lib.hid (isvalue_any _ _ _ _ _ _ wd hX.out)
          rw [show parkedS [prk timed o, rdy] = true by cases timed <;> rfl] at X1
          rw [show valueS [prk timed o, rdy] 0 = 0 from rfl] at X3
          rw [show ([prk timed o, rdy] : List Itm).isEmpty = false from rfl] at X2
          go_upto_region 20 with (first
            | (go_at_call 30; (with_reducible refine X1.out.mono ?_); rintro e w5 ⟨rfl, rfl⟩)
            | (go_at_call 29; (with_reducible refine X2.out.mono ?_); rintro e w5 ⟨rfl, rfl⟩)
            | (go_at_call 32; (with_reducible refine X3.out.mono ?_); rintro e w5 ⟨rfl, rfl⟩))
          obtain ⟨bo, hbo⟩ : ∃ bo, (bits BinOp.and IntKind.u8 (ps / 2 ^ o) 1 == 1) = bo := ⟨_, rfl⟩
          simp only [hbo]
          have HBO : Hid (bitP ps o = bo) := Lib.hid hbo
          clear hbo X1 X3
          have hk3 : k = 0 ∨ k = 1 ∨ k = 2 := by omega
          rcases hk3 with rfl | rfl | rfl
          · rw [show ((0 : Nat) : Int) = 0 from rfl]
            clear hki hlt hk
            cases bo
            · skip
              have XC := Lib.hid (can_park (R + 1) (R + 1) R t3 cs l _ (prk timed o) [rdy] 0 0 (bitP ps o) wd hX.out hPd.out (prk_kind timed o) (HLU.out o ho8))
              rw [prk_timed, HBO.out, show endsS false timed 0 = false by simp [endsS]] at XC
              have XS := Lib.hid fun W (hk : Keep (fun _ => False) wd W) => park_no (R + 1) (R + 1) R t3 cs l _ (prk timed o) [rdy] 0 0 (bitP ps o) W (hX.out.keep hk (fun _ _ h => h)) (hPd.out.keep hk (fun h => h) (fun h => h) (fun _ _ h => h)) (prk_kind timed o) (HLU.out o ho8) (by rw [prk_timed, HBO.out]; simp [endsS])
              go_upto_region 23 with (first
                | (go_at_call 38; (with_reducible refine XC.out.mono ?_); rintro e w6 ⟨rfl, k6⟩; have HK6 := Lib.hid k6; have XS6 := Lib.hid (XS.out w6 k6); clear k6)
                | (go_at_call 27; (with_reducible refine XS6.out.mono ?_); rintro e w7 ⟨rfl, k7⟩; have HK7 := Lib.hid k7; have X7 := Lib.hid (isdone_any _ _ _ _ _ _ w7 ((hX.out.keep HK6.out (fun _ _ h => h)).keep k7 (fun _ _ h => h))); rw [show ([prk timed o, rdy] : List Itm).isEmpty = false from rfl] at X7; clear k7)
                | (go_at_call 29; (with_reducible refine X7.out.mono ?_); rintro e w8 ⟨rfl, rfl⟩))
              have h3lt : t3 < wc.heap.size := hX.out.own.2
              have k67 : Keep (fun _ => False) wd w7 := HK6.out.trans HK7.out
              have hP8 : Hid (PermitsAt w7 (R + 1) R cs l) := Lib.hid (hPd.out.keep k67 (fun h => h) (fun h => h) (fun _ _ h => h))
              have B7 : Below w.heap.size w w7 := HBD.out.trans (k67.below HBD.out.size (fun _ _ h => h.elim))
              have HB7 := Lib.hid B7
              clear XC XS XS6 X7 HK6 HK7 k67 B7 h3lt
              go_wp2
              go_loopw [15] (fun i wz => ∃ u : Nat, u ≤ 8 ∧ i = .int .i64 u ∧ Keep (fun _ => False) w7 wz) (fun i _ => 8 - (intOf i).toNat)
              case atStart => exact ⟨0, by omega, rfl, Keep.refl _ _⟩
              case round =>
                obtain ⟨u, hu, rfl, kz⟩ := hrel
                by_cases hu8 : u < 8
                · have ui : 0 ≤ (u : Int) ∧ (u : Int) < 8 := by omega
                  by_cases hbu : (bits BinOp.and IntKind.u8 (ps / 2 ^ u) 1 == 1) = true
                  · have huo2 : u ≠ o := fun e => by rw [e] at hbu; have h9 : bitP ps o = true := hbu; rw [HBO.out] at h9; cases h9
                    have huo : ¬ (u : Int) = (o : Int) := by omega
                    have HH := Lib.hid fun W (hk : Keep (fun _ => False) w7 W) => has_any (R + 1) R cs l u true W (hP8.out.keep hk (fun h => h) (fun h => h) (fun _ _ h => h)) (by rw [HLU.out u hu8, show bitP ps u = true from hbu])
                    have HKZ := Lib.hid kz
                    clear kz
                    go_upto_region 26 with fail
                    go_quiet (first | (go_at_call 43; exact Calls.quiet_of_same ((HH.out _ (HKZ.out.drewN _)).mono (by rintro e w1 ⟨rfl, rfl⟩; exact ⟨rfl, rfl⟩))))
                    go_wp2
                    go_roundw
                    case rel => exact ⟨u + 1, by omega, by go_num, HKZ.out.drewN _⟩
                    case measure => simp [intOf]; omega
                  · have hbu2 : (bits BinOp.and IntKind.u8 (ps / 2 ^ u) 1 == 1) = false := by simpa using hbu
                    have HH := Lib.hid fun W (hk : Keep (fun _ => False) w7 W) => has_any (R + 1) R cs l u false W (hP8.out.keep hk (fun h => h) (fun h => h) (fun _ _ h => h)) (by rw [HLU.out u hu8, show bitP ps u = false from hbu2])
                    have HKZ := Lib.hid kz
                    clear kz
                    go_upto_region 26 with fail
                    go_quiet (first | (go_at_call 43; exact Calls.quiet_of_same ((HH.out _ (HKZ.out.drewN _)).mono (by rintro e w1 ⟨rfl, rfl⟩; exact ⟨rfl, rfl⟩))))
                    go_wp2
                    go_roundw
                    case rel => exact ⟨u + 1, by omega, by go_num, HKZ.out.drewN _⟩
                    case measure => simp [intOf]; omega
                · obtain rfl : u = 8 := by omega
                  go_wp2
                  go_roundw
                  case rel => exact ⟨1, by omega, rfl, HB7.out.trans (kz.below HB7.out.size (fun _ _ h => h.elim))⟩
                  case measure => simp [intOf]
            · skip
              have XC := Lib.hid (can_park (R + 1) (R + 1) R t3 cs l _ (prk timed o) [rdy] 0 0 (bitP ps o) wd hX.out hPd.out (prk_kind timed o) (HLU.out o ho8))
              rw [prk_timed, HBO.out, show endsS true timed 0 = true by simp [endsS]] at XC
              have XS := Lib.hid fun W (hk : Keep (fun _ => False) wd W) => park_yes (R + 1) (R + 1) R t3 cs l _ (prk timed o) [rdy] 0 0 (bitP ps o) W (hX.out.keep hk (fun _ _ h => h)) (hPd.out.keep hk (fun h => h) (fun h => h) (fun _ _ h => h)) (prk_kind timed o) (HLU.out o ho8) (by rw [prk_timed, HBO.out]; simp [endsS]) (fun b hb hc => by have := HCL.out b hc; omega)
              rw [show onS [rdy] 0 = ([], 0) from rfl] at XS
              go_upto_region 23 with (first
                | (go_at_call 38; (with_reducible refine XC.out.mono ?_); rintro e w6 ⟨rfl, k6⟩; have HK6 := Lib.hid k6; have XS6 := Lib.hid (XS.out w6 k6); clear k6)
                | (go_at_call 27; (with_reducible refine XS6.out.mono ?_); rintro e w7 ⟨rfl, ⟨Q7, hX7, _⟩, hP7, k7⟩; have HP7 := Lib.hid hP7; have HK7 := Lib.hid k7; have X7 := Lib.hid (isdone_any _ _ _ _ _ _ w7 hX7); rw [show ([] : List Itm).isEmpty = true from rfl] at X7; clear hP7 k7)
                | (go_at_call 29; (with_reducible refine X7.out.mono ?_); rintro e w8 ⟨rfl, rfl⟩))
              have h3lt : t3 < wc.heap.size := hX.out.own.2
              have k67 : Keep (fun b => b = t3 ∨ b ∈ cs) wd w7 := (HK6.out.mono (fun _ _ h => h.elim)).trans HK7.out
              have hP8 : Hid (PermitsAt w7 (R + 1) R cs (l.set o false)) := Lib.hid HP7.out
              have hY7 := Lib.hid (hY.out.keep k67 (fun b hb e => by
                rcases e with e | e
                · have h9 := hb.1; omega
                · have h9 := hb.1; have := HCL.out b e; have := HSC.out; omega))
              have B7 : Below w.heap.size w w7 := HBD.out.trans (k67.below HBD.out.size (fun i _ e => by
                rcases e with rfl | e
                · have := hX.out.own.1; omega
                · exact HCS.out i e))
              have HB7 := Lib.hid B7
              clear XC XS XS6 X7 HK6 HK7 k67 B7 h3lt HP7
              go_wp2
              go_loopw [15] (fun i wz => ∃ u : Nat, u ≤ 8 ∧ i = .int .i64 u ∧ Keep (fun _ => False) w7 wz) (fun i _ => 8 - (intOf i).toNat)
              case atStart => exact ⟨0, by omega, rfl, Keep.refl _ _⟩
              case round =>
                obtain ⟨u, hu, rfl, kz⟩ := hrel
                by_cases hu8 : u < 8
                · have ui : 0 ≤ (u : Int) ∧ (u : Int) < 8 := by omega
                  by_cases hbu : (bits BinOp.and IntKind.u8 (ps / 2 ^ u) 1 == 1) = true
                  · by_cases huo2 : u = o
                    · subst huo2
                      have HH := Lib.hid fun W (hk : Keep (fun _ => False) w7 W) => has_any (R + 1) R cs (l.set u false) u false W (hP8.out.keep hk (fun h => h) (fun h => h) (fun _ _ h => h)) (by rw [List.getElem?_set_self (by have := HL8.out; omega)])
                      have HKZ := Lib.hid kz
                      clear kz
                      go_upto_region 26 with fail
                      go_quiet (first | (go_at_call 43; exact Calls.quiet_of_same ((HH.out _ (HKZ.out.drewN _)).mono (by rintro e w1 ⟨rfl, rfl⟩; exact ⟨rfl, rfl⟩))))
                      go_wp2
                      go_roundw
                      case rel => exact ⟨u + 1, by omega, by go_num, HKZ.out.drewN _⟩
                      case measure => simp [intOf]; omega
                    · have huo : ¬ (u : Int) = (o : Int) := by omega
                      have HH := Lib.hid fun W (hk : Keep (fun _ => False) w7 W) => has_any (R + 1) R cs (l.set o false) u true W (hP8.out.keep hk (fun h => h) (fun h => h) (fun _ _ h => h)) (by rw [List.getElem?_set_ne (fun e => huo2 e.symm), HLU.out u hu8, show bitP ps u = true from hbu])
                      have HKZ := Lib.hid kz
                      clear kz
                      go_upto_region 26 with fail
                      go_quiet (first | (go_at_call 43; exact Calls.quiet_of_same ((HH.out _ (HKZ.out.drewN _)).mono (by rintro e w1 ⟨rfl, rfl⟩; exact ⟨rfl, rfl⟩))))
                      go_wp2
                      go_roundw
                      case rel => exact ⟨u + 1, by omega, by go_num, HKZ.out.drewN _⟩
                      case measure => simp [intOf]; omega
                  · have hbu2 : (bits BinOp.and IntKind.u8 (ps / 2 ^ u) 1 == 1) = false := by simpa using hbu
                    have huo2 : u ≠ o := fun e => by rw [e] at hbu2; have h9 : bitP ps o = false := hbu2; rw [HBO.out] at h9; cases h9
                    have HH := Lib.hid fun W (hk : Keep (fun _ => False) w7 W) => has_any (R + 1) R cs (l.set o false) u false W (hP8.out.keep hk (fun h => h) (fun h => h) (fun _ _ h => h)) (by rw [List.getElem?_set_ne (fun e => huo2 e.symm), HLU.out u hu8, show bitP ps u = false from hbu2])
                    have HKZ := Lib.hid kz
                    clear kz
                    go_upto_region 26 with fail
                    go_quiet (first | (go_at_call 43; exact Calls.quiet_of_same ((HH.out _ (HKZ.out.drewN _)).mono (by rintro e w1 ⟨rfl, rfl⟩; exact ⟨rfl, rfl⟩))))
                    go_wp2
                    go_roundw
                    case rel => exact ⟨u + 1, by omega, by go_num, HKZ.out.drewN _⟩
                    case measure => simp [intOf]; omega
                · obtain rfl : u = 8 := by omega
                  go_wp2
                  go_roundw
                  case rel => exact ⟨1, by omega, rfl, HB7.out.trans (kz.below HB7.out.size (fun _ _ h => h.elim))⟩
                  case measure => simp [intOf]
          · rw [show ((1 : Nat) : Int) = 1 from rfl]
            clear hki hlt hk
            cases timed
            · skip
              have XC := Lib.hid (can_park (R + 1) (R + 1) R t3 cs l _ (prk false o) [rdy] 0 1 (bitP ps o) wd hX.out hPd.out (prk_kind false o) (HLU.out o ho8))
              rw [prk_timed, HBO.out, show endsS bo false 1 = false by simp [endsS]] at XC
              have XS := Lib.hid fun W (hk : Keep (fun _ => False) wd W) => park_no (R + 1) (R + 1) R t3 cs l _ (prk false o) [rdy] 0 1 (bitP ps o) W (hX.out.keep hk (fun _ _ h => h)) (hPd.out.keep hk (fun h => h) (fun h => h) (fun _ _ h => h)) (prk_kind false o) (HLU.out o ho8) (by rw [prk_timed, HBO.out]; simp [endsS])
              go_upto_region 23 with (first
                | (go_at_call 38; (with_reducible refine XC.out.mono ?_); rintro e w6 ⟨rfl, k6⟩; have HK6 := Lib.hid k6; have XS6 := Lib.hid (XS.out w6 k6); clear k6)
                | (go_at_call 27; (with_reducible refine XS6.out.mono ?_); rintro e w7 ⟨rfl, k7⟩; have HK7 := Lib.hid k7; have X7 := Lib.hid (isdone_any _ _ _ _ _ _ w7 ((hX.out.keep HK6.out (fun _ _ h => h)).keep k7 (fun _ _ h => h))); rw [show ([prk false o, rdy] : List Itm).isEmpty = false from rfl] at X7; clear k7)
                | (go_at_call 29; (with_reducible refine X7.out.mono ?_); rintro e w8 ⟨rfl, rfl⟩))
              have h3lt : t3 < wc.heap.size := hX.out.own.2
              have k67 : Keep (fun _ => False) wd w7 := HK6.out.trans HK7.out
              have hP8 : Hid (PermitsAt w7 (R + 1) R cs l) := Lib.hid (hPd.out.keep k67 (fun h => h) (fun h => h) (fun _ _ h => h))
              have B7 : Below w.heap.size w w7 := HBD.out.trans (k67.below HBD.out.size (fun _ _ h => h.elim))
              have HB7 := Lib.hid B7
              clear XC XS XS6 X7 HK6 HK7 k67 B7 h3lt
              go_wp2
              go_loopw [15] (fun i wz => ∃ u : Nat, u ≤ 8 ∧ i = .int .i64 u ∧ Keep (fun _ => False) w7 wz) (fun i _ => 8 - (intOf i).toNat)
              case atStart => exact ⟨0, by omega, rfl, Keep.refl _ _⟩
              case round =>
                obtain ⟨u, hu, rfl, kz⟩ := hrel
                by_cases hu8 : u < 8
                · have ui : 0 ≤ (u : Int) ∧ (u : Int) < 8 := by omega
                  by_cases hbu : (bits BinOp.and IntKind.u8 (ps / 2 ^ u) 1 == 1) = true
                  · by_cases huo2 : u = o
                    · subst huo2
                      have HH := Lib.hid fun W (hk : Keep (fun _ => False) w7 W) => has_any (R + 1) R cs l u true W (hP8.out.keep hk (fun h => h) (fun h => h) (fun _ _ h => h)) (by rw [HLU.out u hu8, show bitP ps u = true from hbu])
                      have HKZ := Lib.hid kz
                      clear kz
                      go_upto_region 26 with fail
                      go_quiet (first | (go_at_call 43; exact Calls.quiet_of_same ((HH.out _ (HKZ.out.drewN _)).mono (by rintro e w1 ⟨rfl, rfl⟩; exact ⟨rfl, rfl⟩))))
                      go_wp2
                      go_roundw
                      case rel => exact ⟨u + 1, by omega, by go_num, HKZ.out.drewN _⟩
                      case measure => simp [intOf]; omega
                    · have huo : ¬ (u : Int) = (o : Int) := by omega
                      have HH := Lib.hid fun W (hk : Keep (fun _ => False) w7 W) => has_any (R + 1) R cs l u true W (hP8.out.keep hk (fun h => h) (fun h => h) (fun _ _ h => h)) (by rw [HLU.out u hu8, show bitP ps u = true from hbu])
                      have HKZ := Lib.hid kz
                      clear kz
                      go_upto_region 26 with fail
                      go_quiet (first | (go_at_call 43; exact Calls.quiet_of_same ((HH.out _ (HKZ.out.drewN _)).mono (by rintro e w1 ⟨rfl, rfl⟩; exact ⟨rfl, rfl⟩))))
                      go_wp2
                      go_roundw
                      case rel => exact ⟨u + 1, by omega, by go_num, HKZ.out.drewN _⟩
                      case measure => simp [intOf]; omega
                  · have hbu2 : (bits BinOp.and IntKind.u8 (ps / 2 ^ u) 1 == 1) = false := by simpa using hbu
                    have HH := Lib.hid fun W (hk : Keep (fun _ => False) w7 W) => has_any (R + 1) R cs l u false W (hP8.out.keep hk (fun h => h) (fun h => h) (fun _ _ h => h)) (by rw [HLU.out u hu8, show bitP ps u = false from hbu2])
                    have HKZ := Lib.hid kz
                    clear kz
                    go_upto_region 26 with fail
                    go_quiet (first | (go_at_call 43; exact Calls.quiet_of_same ((HH.out _ (HKZ.out.drewN _)).mono (by rintro e w1 ⟨rfl, rfl⟩; exact ⟨rfl, rfl⟩))))
                    go_wp2
                    go_roundw
                    case rel => exact ⟨u + 1, by omega, by go_num, HKZ.out.drewN _⟩
                    case measure => simp [intOf]; omega
                · obtain rfl : u = 8 := by omega
                  go_wp2
                  go_roundw
                  case rel => exact ⟨2, by omega, rfl, HB7.out.trans (kz.below HB7.out.size (fun _ _ h => h.elim))⟩
                  case measure => simp [intOf]
            · skip
              have XC := Lib.hid (can_park (R + 1) (R + 1) R t3 cs l _ (prk true o) [rdy] 0 1 (bitP ps o) wd hX.out hPd.out (prk_kind true o) (HLU.out o ho8))
              rw [prk_timed, HBO.out, show endsS bo true 1 = true by simp [endsS]] at XC
              have XS := Lib.hid fun W (hk : Keep (fun _ => False) wd W) => park_yes (R + 1) (R + 1) R t3 cs l _ (prk true o) [rdy] 0 1 (bitP ps o) W (hX.out.keep hk (fun _ _ h => h)) (hPd.out.keep hk (fun h => h) (fun h => h) (fun _ _ h => h)) (prk_kind true o) (HLU.out o ho8) (by rw [prk_timed, HBO.out]; simp [endsS]) (fun b hb hc => by have := HCL.out b hc; omega)
              rw [show onS [rdy] 1 = ([], 0) from rfl] at XS
              go_upto_region 23 with (first
                | (go_at_call 38; (with_reducible refine XC.out.mono ?_); rintro e w6 ⟨rfl, k6⟩; have HK6 := Lib.hid k6; have XS6 := Lib.hid (XS.out w6 k6); clear k6)
                | (go_at_call 27; (with_reducible refine XS6.out.mono ?_); rintro e w7 ⟨rfl, ⟨Q7, hX7, _⟩, hP7, k7⟩; have HP7 := Lib.hid hP7; have HK7 := Lib.hid k7; have X7 := Lib.hid (isdone_any _ _ _ _ _ _ w7 hX7); rw [show ([] : List Itm).isEmpty = true from rfl] at X7; clear hP7 k7)
                | (go_at_call 29; (with_reducible refine X7.out.mono ?_); rintro e w8 ⟨rfl, rfl⟩))
              have h3lt : t3 < wc.heap.size := hX.out.own.2
              have k67 : Keep (fun b => b = t3 ∨ b ∈ cs) wd w7 := (HK6.out.mono (fun _ _ h => h.elim)).trans HK7.out
              have hP8 : Hid (PermitsAt w7 (R + 1) R cs l) := Lib.hid HP7.out
              have hY7 := Lib.hid (hY.out.keep k67 (fun b hb e => by
                rcases e with e | e
                · have h9 := hb.1; omega
                · have h9 := hb.1; have := HCL.out b e; have := HSC.out; omega))
              have B7 : Below w.heap.size w w7 := HBD.out.trans (k67.below HBD.out.size (fun i _ e => by
                rcases e with rfl | e
                · have := hX.out.own.1; omega
                · exact HCS.out i e))
              have HB7 := Lib.hid B7
              clear XC XS XS6 X7 HK6 HK7 k67 B7 h3lt HP7
              go_wp2
              go_loopw [15] (fun i wz => ∃ u : Nat, u ≤ 8 ∧ i = .int .i64 u ∧ Keep (fun _ => False) w7 wz) (fun i _ => 8 - (intOf i).toNat)
              case atStart => exact ⟨0, by omega, rfl, Keep.refl _ _⟩
              case round =>
                obtain ⟨u, hu, rfl, kz⟩ := hrel
                by_cases hu8 : u < 8
                · have ui : 0 ≤ (u : Int) ∧ (u : Int) < 8 := by omega
                  by_cases hbu : (bits BinOp.and IntKind.u8 (ps / 2 ^ u) 1 == 1) = true
                  · by_cases huo2 : u = o
                    · subst huo2
                      have HH := Lib.hid fun W (hk : Keep (fun _ => False) w7 W) => has_any (R + 1) R cs l u true W (hP8.out.keep hk (fun h => h) (fun h => h) (fun _ _ h => h)) (by rw [HLU.out u hu8, show bitP ps u = true from hbu])
                      have HKZ := Lib.hid kz
                      clear kz
                      go_upto_region 26 with fail
                      go_quiet (first | (go_at_call 43; exact Calls.quiet_of_same ((HH.out _ (HKZ.out.drewN _)).mono (by rintro e w1 ⟨rfl, rfl⟩; exact ⟨rfl, rfl⟩))))
                      go_wp2
                      go_roundw
                      case rel => exact ⟨u + 1, by omega, by go_num, HKZ.out.drewN _⟩
                      case measure => simp [intOf]; omega
                    · have huo : ¬ (u : Int) = (o : Int) := by omega
                      have HH := Lib.hid fun W (hk : Keep (fun _ => False) w7 W) => has_any (R + 1) R cs l u true W (hP8.out.keep hk (fun h => h) (fun h => h) (fun _ _ h => h)) (by rw [HLU.out u hu8, show bitP ps u = true from hbu])
                      have HKZ := Lib.hid kz
                      clear kz
                      go_upto_region 26 with fail
                      go_quiet (first | (go_at_call 43; exact Calls.quiet_of_same ((HH.out _ (HKZ.out.drewN _)).mono (by rintro e w1 ⟨rfl, rfl⟩; exact ⟨rfl, rfl⟩))))
                      go_wp2
                      go_roundw
                      case rel => exact ⟨u + 1, by omega, by go_num, HKZ.out.drewN _⟩
                      case measure => simp [intOf]; omega
                  · have hbu2 : (bits BinOp.and IntKind.u8 (ps / 2 ^ u) 1 == 1) = false := by simpa using hbu
                    have HH := Lib.hid fun W (hk : Keep (fun _ => False) w7 W) => has_any (R + 1) R cs l u false W (hP8.out.keep hk (fun h => h) (fun h => h) (fun _ _ h => h)) (by rw [HLU.out u hu8, show bitP ps u = false from hbu2])
                    have HKZ := Lib.hid kz
                    clear kz
                    go_upto_region 26 with fail
                    go_quiet (first | (go_at_call 43; exact Calls.quiet_of_same ((HH.out _ (HKZ.out.drewN _)).mono (by rintro e w1 ⟨rfl, rfl⟩; exact ⟨rfl, rfl⟩))))
                    go_wp2
                    go_roundw
                    case rel => exact ⟨u + 1, by omega, by go_num, HKZ.out.drewN _⟩
                    case measure => simp [intOf]; omega
                · obtain rfl : u = 8 := by omega
                  have YS := Lib.hid (park_yes (R + 1) (R + 1) R t4 cs l _ (prk true o) [] 0 1 (bitP ps o) wr (hY7.out.keep kz (fun _ _ h => h)) (hP8.out.keep kz (fun h => h) (fun h => h) (fun _ _ h => h)) (prk_kind true o) (HLU.out o ho8) (by rw [prk_timed, HBO.out]; simp [endsS]) (fun b hb hc => by have h9 := hb.1; have := HCL.out b hc; have := HSC.out; omega))
                  rw [show onS [] 1 = ([], 1) from rfl] at YS
                  have HKZ := Lib.hid kz
                  have h4own := hY7.out.own
                  clear kz
                  go_wp2_with (first
                    | (go_at_call 27; (with_reducible refine YS.out.mono ?_); rintro e w9 ⟨rfl, ⟨Q9, hY9, _⟩, _, k9⟩; have HK9 := Lib.hid k9; have V9 := Lib.hid (isvalue_any _ _ _ _ _ _ w9 hY9); rw [show valueS [] 1 = 1 from rfl] at V9; clear k9)
                    | (go_at_call 32; (with_reducible refine V9.out.mono ?_); rintro e w10 ⟨rfl, rfl⟩))
                  go_roundw
                  case rel => exact ⟨2, by omega, rfl, (HB7.out.trans (HKZ.out.below HB7.out.size (fun _ _ h => h.elim))).trans (HK9.out.below (Nat.le_trans HB7.out.size HKZ.out.size) (fun i _ e => by
                      rcases e with rfl | e
                      · have h9 := h4own.1; have := HSC.out; have := hs4; omega
                      · exact HCS.out i e))⟩
                  case measure => simp [intOf]
          · rw [show ((2 : Nat) : Int) = 2 from rfl]
            clear hki hlt hk
            have XC := Lib.hid (can_park (R + 1) (R + 1) R t3 cs l _ (prk timed o) [rdy] 0 2 (bitP ps o) wd hX.out hPd.out (prk_kind timed o) (HLU.out o ho8))
            rw [prk_timed, HBO.out, show endsS bo timed 2 = true by simp [endsS]] at XC
            have XS := Lib.hid fun W (hk : Keep (fun _ => False) wd W) => park_yes (R + 1) (R + 1) R t3 cs l _ (prk timed o) [rdy] 0 2 (bitP ps o) W (hX.out.keep hk (fun _ _ h => h)) (hPd.out.keep hk (fun h => h) (fun h => h) (fun _ _ h => h)) (prk_kind timed o) (HLU.out o ho8) (by rw [prk_timed, HBO.out]; simp [endsS]) (fun b hb hc => by have := HCL.out b hc; omega)
            rw [show onS [rdy] 2 = ([], 0) from rfl] at XS
            go_upto_region 23 with (first
              | (go_at_call 38; (with_reducible refine XC.out.mono ?_); rintro e w6 ⟨rfl, k6⟩; have HK6 := Lib.hid k6; have XS6 := Lib.hid (XS.out w6 k6); clear k6)
              | (go_at_call 27; (with_reducible refine XS6.out.mono ?_); rintro e w7 ⟨rfl, ⟨Q7, hX7, _⟩, hP7, k7⟩; have HP7 := Lib.hid hP7; have HK7 := Lib.hid k7; have X7 := Lib.hid (isdone_any _ _ _ _ _ _ w7 hX7); rw [show ([] : List Itm).isEmpty = true from rfl] at X7; clear hP7 k7)
              | (go_at_call 29; (with_reducible refine X7.out.mono ?_); rintro e w8 ⟨rfl, rfl⟩))
            have h3lt : t3 < wc.heap.size := hX.out.own.2
            have k67 : Keep (fun b => b = t3 ∨ b ∈ cs) wd w7 := (HK6.out.mono (fun _ _ h => h.elim)).trans HK7.out
            have hP8 : Hid (PermitsAt w7 (R + 1) R cs l) := Lib.hid HP7.out
            have hY7 := Lib.hid (hY.out.keep k67 (fun b hb e => by
              rcases e with e | e
              · have h9 := hb.1; omega
              · have h9 := hb.1; have := HCL.out b e; have := HSC.out; omega))
            have B7 : Below w.heap.size w w7 := HBD.out.trans (k67.below HBD.out.size (fun i _ e => by
              rcases e with rfl | e
              · have := hX.out.own.1; omega
              · exact HCS.out i e))
            have HB7 := Lib.hid B7
            clear XC XS XS6 X7 HK6 HK7 k67 B7 h3lt HP7
            go_wp2
            go_loopw [15] (fun i wz => ∃ u : Nat, u ≤ 8 ∧ i = .int .i64 u ∧ Keep (fun _ => False) w7 wz) (fun i _ => 8 - (intOf i).toNat)
            case atStart => exact ⟨0, by omega, rfl, Keep.refl _ _⟩
            case round =>
              obtain ⟨u, hu, rfl, kz⟩ := hrel
              by_cases hu8 : u < 8
              · have ui : 0 ≤ (u : Int) ∧ (u : Int) < 8 := by omega
                by_cases hbu : (bits BinOp.and IntKind.u8 (ps / 2 ^ u) 1 == 1) = true
                · by_cases huo2 : u = o
                  · subst huo2
                    have HH := Lib.hid fun W (hk : Keep (fun _ => False) w7 W) => has_any (R + 1) R cs l u true W (hP8.out.keep hk (fun h => h) (fun h => h) (fun _ _ h => h)) (by rw [HLU.out u hu8, show bitP ps u = true from hbu])
                    have HKZ := Lib.hid kz
                    clear kz
                    go_upto_region 26 with fail
                    go_quiet (first | (go_at_call 43; exact Calls.quiet_of_same ((HH.out _ (HKZ.out.drewN _)).mono (by rintro e w1 ⟨rfl, rfl⟩; exact ⟨rfl, rfl⟩))))
                    go_wp2
                    go_roundw
                    case rel => exact ⟨u + 1, by omega, by go_num, HKZ.out.drewN _⟩
                    case measure => simp [intOf]; omega
                  · have huo : ¬ (u : Int) = (o : Int) := by omega
                    have HH := Lib.hid fun W (hk : Keep (fun _ => False) w7 W) => has_any (R + 1) R cs l u true W (hP8.out.keep hk (fun h => h) (fun h => h) (fun _ _ h => h)) (by rw [HLU.out u hu8, show bitP ps u = true from hbu])
                    have HKZ := Lib.hid kz
                    clear kz
                    go_upto_region 26 with fail
                    go_quiet (first | (go_at_call 43; exact Calls.quiet_of_same ((HH.out _ (HKZ.out.drewN _)).mono (by rintro e w1 ⟨rfl, rfl⟩; exact ⟨rfl, rfl⟩))))
                    go_wp2
                    go_roundw
                    case rel => exact ⟨u + 1, by omega, by go_num, HKZ.out.drewN _⟩
                    case measure => simp [intOf]; omega
                · have hbu2 : (bits BinOp.and IntKind.u8 (ps / 2 ^ u) 1 == 1) = false := by simpa using hbu
                  have HH := Lib.hid fun W (hk : Keep (fun _ => False) w7 W) => has_any (R + 1) R cs l u false W (hP8.out.keep hk (fun h => h) (fun h => h) (fun _ _ h => h)) (by rw [HLU.out u hu8, show bitP ps u = false from hbu2])
                  have HKZ := Lib.hid kz
                  clear kz
                  go_upto_region 26 with fail
                  go_quiet (first | (go_at_call 43; exact Calls.quiet_of_same ((HH.out _ (HKZ.out.drewN _)).mono (by rintro e w1 ⟨rfl, rfl⟩; exact ⟨rfl, rfl⟩))))
                  go_wp2
                  go_roundw
                  case rel => exact ⟨u + 1, by omega, by go_num, HKZ.out.drewN _⟩
                  case measure => simp [intOf]; omega
              · obtain rfl : u = 8 := by omega
                have YS := Lib.hid (park_yes (R + 1) (R + 1) R t4 cs l _ (prk timed o) [] 0 2 (bitP ps o) wr (hY7.out.keep kz (fun _ _ h => h)) (hP8.out.keep kz (fun h => h) (fun h => h) (fun _ _ h => h)) (prk_kind timed o) (HLU.out o ho8) (by rw [prk_timed, HBO.out]; simp [endsS]) (fun b hb hc => by have h9 := hb.1; have := HCL.out b hc; have := HSC.out; omega))
                rw [show onS [] 2 = ([], 2) from rfl] at YS
                have HKZ := Lib.hid kz
                have h4own := hY7.out.own
                clear kz
                go_wp2_with (first
                  | (go_at_call 27; (with_reducible refine YS.out.mono ?_); rintro e w9 ⟨rfl, ⟨Q9, hY9, _⟩, _, k9⟩; have HK9 := Lib.hid k9; have V9 := Lib.hid (isvalue_any _ _ _ _ _ _ w9 hY9); rw [show valueS [] 2 = 2 from rfl] at V9; clear k9)
                  | (go_at_call 32; (with_reducible refine V9.out.mono ?_); rintro e w10 ⟨rfl, rfl⟩))
                go_roundw
                case rel => exact ⟨3, by omega, rfl, (HB7.out.trans (HKZ.out.below HB7.out.size (fun _ _ h => h.elim))).trans (HK9.out.below (Nat.le_trans HB7.out.size HKZ.out.size) (fun i _ e => by
                    rcases e with rfl | e
                    · have h9 := h4own.1; have := HSC.out; have := hs4; omega
                    · exact HCS.out i e))⟩
                case measure => simp [intOf]
    · obtain rfl : k = 3 := by omega
      go_wp2
      go_ret
      exact ⟨rfl, hB⟩
end Go.Proofs.Ytmkgbbbhmbejnaa
