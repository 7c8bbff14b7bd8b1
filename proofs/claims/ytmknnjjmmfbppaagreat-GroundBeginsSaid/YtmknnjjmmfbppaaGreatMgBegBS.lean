/- Grounds are made: New. -/
import Derived.Test.YtmknnjjmmfbppaaGreatMgBegBL
import Derived.Test.YtmknnjjmmfbppaaGreatMgBegBM
import Derived.Test.YtmknnjjmmfbppaaGreatMgBegBN
import Derived.Test.YtmknnjjmmfbppaaGreatMgBegBO
import Derived.Test.YtmknnjjmmfbppaaGreatMgBegBP
import Derived.Test.YtmknnjjmmfbppaaGreatMgBegBQ
import Derived.Test.YtmknnjjmmfbppaaGreatMgBegAO
import Derived.Test.YtmknnjjmmfbppaaGreatMgBegBR
import Derived.Test.YtmknnjjmmfbppaaGreatMgBegAP
import Derived.Test.YtmknnjjmmfbppaaGreatMgBegAQ
namespace Go.Proofs.YtmknnjjmmfbppaaGreat.Re
open Go.ChangeShapes Go.WideShapes Go.ChangeAt Go.RowKit Wd
set_option linter.unusedVariables false
set_option maxRecDepth 100000
set_option linter.unusedSimpArgs false
/-- a ground whose cells are all 0 -/
def FreshG (w : World) (m : Mp) (v : Value) (w' : World) : Prop :=
  ∃ g, v = grV g ∧ GrAt w' g m (List.replicate (sizeN m) 0) 0 (List.replicate m.t false) (.slice none 0 0) [] ∧ Below w.heap.size w w' ∧ ∀ b, grB g (.slice none 0 0) b → w.heap.size ≤ b
theorem fresh_end {w wz : World} {m : Mp} {C S P R : Nat} {cs : List Nat} (hm : m.ok) (hC : CellsAt wz C S (List.replicate (sizeN m) 0) 0) (hP : PermitsAt wz P R cs (List.replicate m.t false)) (bc : Below w.heap.size w wz)
    (s1 : w.heap.size ≤ C) (s2 : w.heap.size ≤ S) (s3 : w.heap.size ≤ P) (s4 : w.heap.size ≤ R) (s5 : ∀ c ∈ cs, w.heap.size ≤ c) :
    FreshG w m (.pointer (some ⟨wz.heap.size, 0, none⟩)) (wz.alloc (.cells #[.int .i64 (m.t : Int), .int .i64 (m.o : Int), .int .i64 (m.n : Int), cellsV C, permitsV P, .int .i32 0, .int .u32 0, .slice none 0 0] 49)) := by
  have ba : Below wz.heap.size wz (wz.alloc (.cells #[.int .i64 (m.t : Int), .int .i64 (m.o : Int), .int .i64 (m.n : Int), cellsV C, permitsV P, .int .i32 0, .int .u32 0, .slice none 0 0] 49)) := by go_grown
  refine ⟨⟨wz.heap.size, C, S, P, R, cs⟩, rfl, ⟨Blk.new _ _ _, hC.keep (Keep.ofBelow (Q := fun _ => False) ba) (fun h => h) (fun h => h), hP.below ba, World.ownsRow_nil _ _ _ _, hm, by simp, by simp⟩, bc.trans (ba.mono bc.size), fun b hb => ?_⟩
  rcases hb with rfl | rfl | rfl | rfl | rfl | hb | hb
  · exact bc.size
  · exact s1
  · exact s2
  · exact s3
  · exact s4
  · exact s5 b hb
  · simp [Value.ownBlock] at hb
set_option maxHeartbeats 4000000 in
theorem laid_gen (m : Mp) (H : List Int) (F : List Bool) (hv fv : Value) (w : World) (hm : m.ok) (hh : SliceAt (Value.int .i64) w hv H) (hf : SliceAt Value.bool w fv F) (f : Nat → Int)
    (hpy : ∀ j, goodO H j → ∀ V, Calls Tryz.prog 97 #[.agg #[.int .i64 (tagO F j), .int .i64 0, .int .i64 0, .int .i64 0, .int .i64 0, .int .i64 (hashO H j)]] V fun e w' => e = .returned (.tuple #[.int .u64 (f j), .bool true]) ∧ Below V.heap.size V w')
    (hpn : ∀ j, ¬ goodO H j → ∀ V, Calls Tryz.prog 97 #[.agg #[.int .i64 (tagO F j), .int .i64 0, .int .i64 0, .int .i64 0, .int .i64 0, .int .i64 (hashO H j)]] V fun e w' => e = .returned (.tuple #[.int .u64 0, .bool false]) ∧ Below V.heap.size V w') :
    Calls Tryz.prog 45 #[.func (.func 47) #[] #[], mapV m, hv, fv] w (NewF w m H f) := by
  have HR := Lib.hid fun V => right_any (m.t : Int) (m.o : Int) (m.n : Int) V
  have e : rightS (m.t : Int) (m.o : Int) (m.n : Int) = true := by
    have h1 := hm.t
    have h2 := hm.o
    have h3 := hm.n
    simp [rightS]
    omega
  rw [e] at HR
  have HS := Lib.hid fun V => size_any m V hm
  have HC := Lib.hid fun V => new_some (sizeN m) V (by have h1 := hm.t; have h2 := hm.o; have h3 := hm.n; unfold sizeN; omega)
  have HP := Lib.hid fun V => pnew_some m.t V hm.t.1 hm.t.2
  have hcn : ∀ args V, (callFunc 47 args).run Tryz.prog V = .ok (.enter 47 args) V := by
    intro args V
    go_simp
  have HH := Lib.hid hh
  have HF := Lib.hid hf
  have HM := Lib.hid hm
  have HPY := Lib.hid hpy
  have HPN := Lib.hid hpn
  clear hh hf e hm hpy hpn
  go_enter Tryz.func45, Tryz.ntmps45
  go_upto_region 1 with fail
  generalize hW : w.alloc _ = W
  have bW : Below w.heap.size w W := by rw [← hW]; go_grown
  have m0 : Blk W w.heap.size 28 (mapCs m) := by rw [← hW]; exact Blk.new w _ _
  clear hW
  obtain ⟨c0, c1, c2⟩ := map3 m0
  go_upto_region 3 with (go_at_call 22; refine (HR.out _).mono ?_; rintro e w2 ⟨rfl, b2⟩)
  have m2 := m0.below b2 m0.lt
  have bW2 : Below w.heap.size w w2 := bW.trans (b2.mono bW.size)
  clear c0 c1 c2 m0
  have SK := Lib.hid (show ∀ V, Below w2.heap.size w2 V → V.cell? ⟨w.heap.size, 0, none⟩ = some (.int .i64 (m.t : Int)) ∧ V.cell? ⟨w.heap.size, 1, none⟩ = some (.int .i64 (m.o : Int)) ∧ V.cell? ⟨w.heap.size, 2, none⟩ = some (.int .i64 (m.n : Int)) from fun V hk => map3 (m2.below hk m2.lt))
  have bd := bdrewP w2
  go_cut [9] from 17 to 26 (fun s9 wx => FreshG w2 m s9 wx)
  case first =>
    have bc := bd
    go_region_held3 (fun V => V.cell? ⟨w.heap.size, 0, none⟩ = some (.int .i64 (m.t : Int)) ∧ V.cell? ⟨w.heap.size, 1, none⟩ = some (.int .i64 (m.o : Int)) ∧ V.cell? ⟨w.heap.size, 2, none⟩ = some (.int .i64 (m.n : Int))) (first | exact SK.out _ bc | exact SK.out _ (Below.trans bc (Below.mono (Below.alloc (Below.refl _ _) (Nat.le_refl _) _) bc.size))) (first
      | (go_at_call 51; refine (HS.out _).mono ?_; rintro e w3 ⟨rfl, b3⟩; (try replace hP := PermitsAt.below hP b3); replace bc := Below.trans bc (Below.mono b3 bc.size))
      | (go_at_call 47; refine (HC.out _).mono ?_; rintro e w4 ⟨rfl, hC, b4⟩; have sC := bc.size; (try replace hP := PermitsAt.below hP b4); replace bc := Below.trans bc (Below.mono b4 bc.size))
      | (go_at_call 96; refine (HP.out _).mono ?_; rintro e w5 ⟨rfl, ⟨cs, hP, hcs⟩, b5⟩; have sP := bc.size; (try replace hC := CellsAt.keep hC (Keep.ofBelow (Q := fun _ => False) b5) (fun h => h) (fun h => h)); replace bc := Below.trans bc (Below.mono b5 bc.size)))
    all_goals
      go_wp2_with fail
      go_meet
    all_goals exact fresh_end HM.out hC hP bc (by omega) (by omega) (by omega) (by omega) (fun c hc => by have := hcs c hc; omega)
  case rest =>
    obtain ⟨g, rfl, hG, bG, hgb⟩ := hcut
    have bw := bW2.trans (bG.mono bW2.size)
    have hws : w.heap.size ≤ w2.heap.size := bW2.size
    replace hgb : ∀ b, grB g (.slice none 0 0) b → w.heap.size ≤ b := fun b hb => Nat.le_trans hws (hgb b hb)
    obtain ⟨mz, hmz⟩ : ∃ mz, mz = List.replicate (sizeN m) (0 : Int) := ⟨_, rfl⟩
    obtain ⟨lz, hlz⟩ : ∃ lz, lz = List.replicate m.t false := ⟨_, rfl⟩
    rw [← hmz, ← hlz] at hG
    have hml : mz.length = sizeN m := by rw [hmz]; simp
    have HG := Lib.hid hG
    have HML := Lib.hid hml
    have HB := Lib.hid bw
    have HGB := Lib.hid hgb
    have HMZ := Lib.hid hmz
    have HLZ := Lib.hid hlz
    have d1 := hG.own.cell 1 _ rfl
    have hmo := HM.out.o
    have hmt := HM.out.t
    have hmn := HM.out.n
    clear hG bG hgb bw SK bd m2 hml HS HC HP hcn b2 bW bW2 hmz hlz
    go_upto_region 5 with fail
    go_loopw [32] (fun v32 wr => ∃ j : Nat, j ≤ m.o ∧ v32 = .int .i64 (j : Int) ∧ GrAt wr g m (wordsGo f mz j) j lz (.slice none 0 0) [] ∧ (∀ i, i < j → goodO H i) ∧ Below w.heap.size w wr) (fun v32 _ => (m.o - intOf v32).toNat)
    case atStart => exact ⟨0, by omega, rfl, HG.out, fun i hi => absurd hi (by omega), HB.out⟩
    case round =>
      obtain ⟨j, hj, rfl, hgr, hgd, hbr⟩ := hrel
      have HGr := Lib.hid hgr
      have HGd := Lib.hid hgd
      have HBr := Lib.hid hbr
      by_cases hlt : j < m.o
      · have HJ := Lib.hid hlt
        by_cases hgj : goodO H j
        · have hgt := hgr.own.lt
          have sK := Lib.hid (show ∀ V, Keep (ofCells g.C g.S) wr V → V.cell? ⟨g.G, 0, none⟩ = some (.int .i64 (m.t : Int)) ∧ V.cell? ⟨g.G, 1, none⟩ = some (.int .i64 (m.o : Int)) ∧ V.cell? ⟨g.G, 2, none⟩ = some (.int .i64 (m.n : Int)) ∧ V.cell? ⟨g.G, 3, none⟩ = some (cellsV g.C) from fun V hk => have q := hgr.own.keep hk (fun e => e.elim (fun e => hgr.apartG.1 e) (fun e => hgr.apartG.2.1 e)); ⟨q.cell 0 _ rfl, q.cell 1 _ rfl, q.cell 2 _ rfl, q.cell 3 _ rfl⟩)
          have HEB := Lib.hid (elB_any F fv j wr (HF.out.below (hbr.mono (Nat.le_refl _))) (by omega))
          have HFT := Lib.hid (show ∀ V, Calls Tryz.prog 98 #[.bool (freshO F j)] V fun e w' => e = .returned (.int .i64 (tagO F j)) ∧ V = w' from fun V => firstTag_any (freshO F j) V)
          have HEI := Lib.hid (elI_any H hv j wr (HH.out.below (hbr.mono (Nat.le_refl _))) (by omega))
          have HPK := Lib.hid (HPY.out j hgj)
          have HWD := Lib.hid fun V => mword_any m (j : Int) V (by omega)
          have hin : wordN j < (wordsGo f mz j).length := by rw [wordsGo_len, HML.out]; unfold wordN sizeN; omega
          have HST := Lib.hid fun V (hV : Keep (fun _ => False) wr V) => store_yes g.C g.S (wordsGo f mz j) (j : Int) (wordN j) _ (f j) V (hgr.cells.keep hV (fun h => h) (fun h => h)) (List.getElem?_eq_getElem hin) (by omega) (by omega)
          have HEND := Lib.hid (show ∀ V, CellsAt V g.C g.S ((wordsGo f mz j).set (wordN j) (f j)) ((j : Int) + 1) → Keep (ofCells g.C g.S) wr V → GrAt V g m (wordsGo f mz (j + 1)) ((j + 1 : Nat) : Int) lz (.slice none 0 0) [] ∧ (∀ i, i < j + 1 → goodO H i) ∧ Below w.heap.size w V from fun V hV hk => ⟨by
            have := hgr.cells' hV hk (by simp)
            rw [show ((j + 1 : Nat) : Int) = (j : Int) + 1 by omega]
            exact this, fun i hi => by
            by_cases e : i = j
            · rw [e]; exact hgj
            · exact hgd i (by omega), hbr.trans (hk.below hbr.size (fun b _ h => h.elim (fun h => HGB.out b (.inr (.inl h))) (fun h => HGB.out b (.inr (.inr (.inl h))))))⟩)
          have hj6 : (j : Int) < 70000 := by omega
          have hw6 : (wordN j : Int) < 80000 := by unfold wordN; omega
          clear hgr hgd hbr hin hgj HGr HGd HBr HB
          generalize freshO F j = fr at *
          generalize tagO F j = tg at *
          generalize hashO H j = hs at *
          generalize f j = wv at *
          have k0 : Keep (fun _ => False) wr wr := Keep.refl _ _
          go_upto_region 10 with (first
            | (go_at_call 99; refine HEB.out.mono ?_; rintro e w3 ⟨rfl, rfl⟩)
            | (go_at_call 98; refine (HFT.out _).mono ?_; rintro e w4 ⟨rfl, rfl⟩)
            | (go_at_call 100; refine HEI.out.mono ?_; rintro e w5 ⟨rfl, rfl⟩)
            | (go_at_call 97; refine (HPK.out _).mono ?_; rintro e w6 ⟨rfl, b6⟩))
          have kc : Keep (fun _ => False) wr w6.drew := (Keep.ofBelow b6).drew
          have kd : Keep (ofCells g.C g.S) wr w6.drew := kc.mono (fun _ _ h => h.elim)
          go_region_held3 (fun V => V.cell? ⟨g.G, 0, none⟩ = some (.int .i64 (m.t : Int)) ∧ V.cell? ⟨g.G, 1, none⟩ = some (.int .i64 (m.o : Int)) ∧ V.cell? ⟨g.G, 2, none⟩ = some (.int .i64 (m.n : Int)) ∧ V.cell? ⟨g.G, 3, none⟩ = some (cellsV g.C)) (exact sK.out _ kd) (first
            | (go_at_call 53; refine (HWD.out _).mono ?_; rintro e w7 ⟨rfl, b7⟩; replace kc := Keep.trans kc (Keep.ofBelow b7); replace kd := Keep.trans kd (Keep.ofBelow b7))
            | (go_at_call 40; refine (HST.out _ kc).mono ?_; rintro e w8 ⟨rfl, h8, k8⟩; replace kd := Keep.trans kd k8))
          go_wp2_with fail
          go_roundw
          case rel => exact ⟨j + 1, HJ.out, rfl, HEND.out _ h8 kd⟩
          case measure => simp [intOf]; omega
        · have HEB := Lib.hid (elB_any F fv j wr (HF.out.below (hbr.mono (Nat.le_refl _))) (by omega))
          have HFT := Lib.hid (show ∀ V, Calls Tryz.prog 98 #[.bool (freshO F j)] V fun e w' => e = .returned (.int .i64 (tagO F j)) ∧ V = w' from fun V => firstTag_any (freshO F j) V)
          have HEI := Lib.hid (elI_any H hv j wr (HH.out.below (hbr.mono (Nat.le_refl _))) (by omega))
          have HPK := Lib.hid (HPN.out j hgj)
          have HNG := Lib.hid (show ¬ GoodH m H from fun h => hgj (h j hlt))
          clear hgr hgd hbr hgj HGr HGd HB
          generalize freshO F j = fr at *
          generalize tagO F j = tg at *
          generalize hashO H j = hs at *
          go_wp2_with (first
            | (go_at_call 99; refine HEB.out.mono ?_; rintro e w3 ⟨rfl, rfl⟩)
            | (go_at_call 98; refine (HFT.out _).mono ?_; rintro e w4 ⟨rfl, rfl⟩)
            | (go_at_call 100; refine HEI.out.mono ?_; rintro e w5 ⟨rfl, rfl⟩)
            | (go_at_call 97; refine (HPK.out _).mono ?_; rintro e w6 ⟨rfl, b6⟩))
          go_ret
          exact .inr ⟨HNG.out, rfl, HBr.out.trans (b6.mono HBr.out.size)⟩
      · obtain rfl : j = m.o := by omega
        have d0 := hgr.own.cell 0 _ rfl
        clear hgr hgd hbr HG HB hlt hj
        have HGd2 := Lib.hid (show GoodH m H from HGd.out)
        clear HGd
        go_upto_region 13 with fail
        go_loopw [67] (fun v67 wr => ∃ j : Nat, j ≤ m.t ∧ v67 = .int .i64 (j : Int) ∧ GrAt wr g m (safesGo m (wordsGo f mz m.o) j) ((m.o : Int) + j) lz (.slice none 0 0) [] ∧ Below w.heap.size w wr) (fun v67 _ => (m.t - intOf v67).toNat)
        case atStart => exact ⟨0, by omega, rfl, by simpa [safesGo] using HGr.out, HBr.out⟩
        case round =>
          obtain ⟨j, hj, rfl, hgq, hbq⟩ := hrel
          have HGq := Lib.hid hgq
          have HBq := Lib.hid hbq
          by_cases hlt : j < m.t
          · have HJ := Lib.hid hlt
            have sK := Lib.hid (show ∀ V, Keep (ofCells g.C g.S) wr V → V.cell? ⟨g.G, 0, none⟩ = some (.int .i64 (m.t : Int)) ∧ V.cell? ⟨g.G, 1, none⟩ = some (.int .i64 (m.o : Int)) ∧ V.cell? ⟨g.G, 2, none⟩ = some (.int .i64 (m.n : Int)) ∧ V.cell? ⟨g.G, 3, none⟩ = some (cellsV g.C) from fun V hk => have q := hgq.own.keep hk (fun e => e.elim (fun e => hgq.apartG.1 e) (fun e => hgq.apartG.2.1 e)); ⟨q.cell 0 _ rfl, q.cell 1 _ rfl, q.cell 2 _ rfl, q.cell 3 _ rfl⟩)
            have HSF := Lib.hid fun V => safe_any m (j : Int) V HM.out (by omega)
            have hin : safeN m j < (safesGo m (wordsGo f mz m.o) j).length := by rw [safesGo_len, wordsGo_len, HML.out]; unfold safeN nxN sizeN; omega
            have HST := Lib.hid fun V (hV : Keep (fun _ => False) wr V) => store_yes g.C g.S (safesGo m (wordsGo f mz m.o) j) ((m.o : Int) + j) (safeN m j) _ 1 V (hgq.cells.keep hV (fun h => h) (fun h => h)) (List.getElem?_eq_getElem hin) (by omega) (by omega)
            have HEND := Lib.hid (show ∀ V, CellsAt V g.C g.S ((safesGo m (wordsGo f mz m.o) j).set (safeN m j) 1) ((m.o : Int) + j + 1) → Keep (ofCells g.C g.S) wr V → GrAt V g m (safesGo m (wordsGo f mz m.o) (j + 1)) ((m.o : Int) + ((j + 1 : Nat) : Int)) lz (.slice none 0 0) [] ∧ Below w.heap.size w V from fun V hV hk => ⟨by
              have := hgq.cells' hV hk (by simp)
              rw [show (m.o : Int) + ((j + 1 : Nat) : Int) = (m.o : Int) + (j : Int) + 1 by omega]
              exact this, hbq.trans (hk.below hbq.size (fun b _ h => h.elim (fun h => HGB.out b (.inr (.inl h))) (fun h => HGB.out b (.inr (.inr (.inl h))))))⟩)
            have hw6 : (safeN m j : Int) < 1000000 := by unfold safeN nxN; omega
            clear hgq hbq hin HGq HBq
            have kc : Keep (fun _ => False) wr wr.drew := (Keep.refl _ _).drew
            have kd : Keep (ofCells g.C g.S) wr wr.drew := kc.mono (fun _ _ h => h.elim)
            go_upto_region 15 with fail
            go_region_held3 (fun V => V.cell? ⟨g.G, 0, none⟩ = some (.int .i64 (m.t : Int)) ∧ V.cell? ⟨g.G, 1, none⟩ = some (.int .i64 (m.o : Int)) ∧ V.cell? ⟨g.G, 2, none⟩ = some (.int .i64 (m.n : Int)) ∧ V.cell? ⟨g.G, 3, none⟩ = some (cellsV g.C)) (exact sK.out _ kd) (first
              | (go_at_call 54; refine (HSF.out _).mono ?_; rintro e w7 ⟨rfl, b7⟩; replace kc := Keep.trans kc (Keep.ofBelow b7); replace kd := Keep.trans kd (Keep.ofBelow b7))
              | (go_at_call 40; refine (HST.out _ kc).mono ?_; rintro e w8 ⟨rfl, h8, k8⟩; replace kd := Keep.trans kd k8))
            go_wp2_with fail
            go_roundw
            case rel => exact ⟨j + 1, HJ.out, rfl, HEND.out _ h8 kd⟩
            case measure => simp [intOf]; omega
          · obtain rfl : j = m.t := by omega
            have sK := Lib.hid (show ∀ V, Keep (ofCells g.C g.S) wr V → V.cell? ⟨g.G, 0, none⟩ = some (.int .i64 (m.t : Int)) ∧ V.cell? ⟨g.G, 1, none⟩ = some (.int .i64 (m.o : Int)) ∧ V.cell? ⟨g.G, 2, none⟩ = some (.int .i64 (m.n : Int)) ∧ V.cell? ⟨g.G, 3, none⟩ = some (cellsV g.C) from fun V hk => have q := hgq.own.keep hk (fun e => e.elim (fun e => hgq.apartG.1 e) (fun e => hgq.apartG.2.1 e)); ⟨q.cell 0 _ rfl, q.cell 1 _ rfl, q.cell 2 _ rfl, q.cell 3 _ rfl⟩)
            have kd : Keep (ofCells g.C g.S) wr wr.drew := (Keep.refl _ _).drew
            have HLY := Lib.hid (lay_any g.C g.S m (safesGo m (wordsGo f mz m.o) m.t) ((m.o : Int) + m.t) wr.drew HM.out (hgq.cells.keep ((Keep.refl (fun _ => False) wr).drew) (fun h => h) (fun h => h)) (by rw [safesGo_len, wordsGo_len, HML.out]; exact Nat.le_refl _) (by omega))
            clear hgq hbq hlt hj
            go_upto_region 17 with fail
            go_region_held3 (fun V => V.cell? ⟨g.G, 0, none⟩ = some (.int .i64 (m.t : Int)) ∧ V.cell? ⟨g.G, 1, none⟩ = some (.int .i64 (m.o : Int)) ∧ V.cell? ⟨g.G, 2, none⟩ = some (.int .i64 (m.n : Int)) ∧ V.cell? ⟨g.G, 3, none⟩ = some (cellsV g.C)) (exact sK.out _ kd) (first
              | (go_at_call 101; refine HLY.out.mono ?_; rintro e w8 ⟨rfl, h8, k8⟩; replace kd := Keep.trans kd k8))
            go_wp2_with fail
            go_ret
            refine .inl ⟨HGd2.out, g, rfl, ?_, HBq.out.trans (kd.below HBq.out.size (fun b _ h => h.elim (fun h => HGB.out b (.inr (.inl h))) (fun h => HGB.out b (.inr (.inr (.inl h)))))), HGB.out⟩
            rw [← HLZ.out]
            unfold mmF
            rw [← HMZ.out]
            exact HGq.out.cells' h8 kd (by rw [layL_len])
theorem pack_yes13 (H : List Int) (F : List Bool) (j : Nat) (hj : goodO H j) (x : Nat) (hx : packP (hd0 H F j) = some x) (V : World) :
    Calls Tryz.prog 97 #[.agg #[.int .i64 (tagO F j), .int .i64 0, .int .i64 0, .int .i64 0, .int .i64 0, .int .i64 (hashO H j)]] V fun e w' => e = .returned (.tuple #[.int .u64 (x : Int), .bool true]) ∧ Below V.heap.size V w' := by
  have h := pack_any (hd0 H F j) V
  rw [hx] at h
  exact h
theorem pack_no13 (H : List Int) (F : List Bool) (j : Nat) (hj : ¬ goodO H j) (V : World) :
    Calls Tryz.prog 97 #[.agg #[.int .i64 (tagO F j), .int .i64 0, .int .i64 0, .int .i64 0, .int .i64 0, .int .i64 (hashO H j)]] V fun e w' => e = .returned (.tuple #[.int .u64 0, .bool false]) ∧ Below V.heap.size V w' := by
  have h := pack_any (hd0 H F j) V
  rw [hd0_none hj] at h
  exact h
theorem glaid_any (m : Mp) (H : List Int) (F : List Bool) (hv fv : Value) (w : World) (hm : m.ok) (hh : SliceAt (Value.int .i64) w hv H) (hf : SliceAt Value.bool w fv F) :
    Calls Tryz.prog 45 #[.func (.func 47) #[] #[], mapV m, hv, fv] w (NewPost w m H F) :=
  laid_gen m H F hv fv w hm hh hf (fun o => (wordOf (hd0 H F o) : Nat)) (fun j hj V => pack_yes13 H F j hj _ (hd0_pack hj) V) (fun j hj V => pack_no13 H F j hj V)
end Go.Proofs.YtmknnjjmmfbppaaGreat.Re
/- Grounds at first: New, words, views; law 13's Same. -/
namespace Go.Proofs.YtmknnjjmmfbppaaGreat.Re
open Go.ChangeShapes Go.WideShapes Go.ChangeAt Go.RowKit Wd
set_option linter.unusedVariables false
set_option maxRecDepth 100000
set_option linter.unusedSimpArgs false
theorem open_hd (x : Hd) (hx : okP x) : ∀ V, Calls Tryz.prog 113 #[.int .u64 ((wordOf x : Nat) : Int)] V fun e w' => e = .returned (.tuple #[hdV x, .bool true]) ∧ Below V.heap.size V w' := by
  intro V
  have h := open_any (wordOf x) V (by have := word_lt x hx; omega)
  rw [open_word x hx] at h
  exact h
theorem wordsGo_at (f : Nat → Int) (mm : List Int) (o : Nat) : ∀ j, o < j → 2 + j ≤ mm.length → (wordsGo f mm j)[wordN o]? = some (f o)
  | 0, h, _ => by omega
  | j + 1, h, hl => by
    rw [wordsGo]
    by_cases e : o = j
    · subst e
      rw [List.getElem?_set_self (by rw [wordsGo_len]; unfold wordN; omega)]
    · rw [List.getElem?_set_ne (by unfold wordN; omega)]
      exact wordsGo_at f mm o j (by omega) (by omega)
theorem safesGo_other (m : Mp) (mm : List Int) (i : Nat) (h : ∀ j : Nat, j < m.t → i ≠ safeN m j) : ∀ j, j ≤ m.t → (safesGo m mm j)[i]? = mm[i]?
  | 0, _ => rfl
  | j + 1, hj => by
    rw [safesGo, List.getElem?_set_ne (Ne.symm (h j (by omega)))]
    exact safesGo_other m mm i h j (by omega)
theorem safesGo_at (m : Mp) (mm : List Int) (t : Nat) : ∀ j, t < j → j ≤ m.t → sizeN m ≤ mm.length → (safesGo m mm j)[safeN m t]? = some 1
  | 0, h, _, _ => by omega
  | j + 1, h, hj, hl => by
    rw [safesGo]
    by_cases e : t = j
    · subst e
      rw [List.getElem?_set_self (by rw [safesGo_len]; unfold safeN nxN; unfold sizeN at hl; omega)]
    · rw [List.getElem?_set_ne (by unfold safeN nxN; omega)]
      exact safesGo_at m mm t j (by omega) (by omega) hl
theorem layL_other (m : Mp) (mm : List Int) (i : Nat) (h1 : i ≠ 1) (h : ∀ k : Int, 0 ≤ k → k < m.n → i ≠ linkN m k) : (layL m mm)[i]? = mm[i]? := by
  unfold layL
  rw [List.getElem?_set_ne (Ne.symm h1)]
  exact layGo_other m mm i h _ (Nat.le_refl _)
theorem mm0_word (m : Mp) (H : List Int) (F : List Bool) (o : Nat) (ho : o < m.o) : (mm0 m H F)[wordN o]? = some ((wordOf (hd0 H F o) : Nat) : Int) := by
  unfold mm0 mmF
  rw [layL_other _ _ _ (by unfold wordN; omega) (fun k h1 h2 => by unfold wordN linkN monN; omega), safesGo_other _ _ _ (fun j hj => by unfold wordN safeN nxN; omega) _ (Nat.le_refl _)]
  exact wordsGo_at (fun o => ((wordOf (hd0 H F o) : Nat) : Int)) _ o m.o ho (by rw [List.length_replicate]; unfold sizeN; omega)
theorem mm0_safe (m : Mp) (H : List Int) (F : List Bool) (t : Nat) (ht : t < m.t) : (mm0 m H F)[safeN m t]? = some 1 := by
  unfold mm0 mmF
  rw [layL_other _ _ _ (by unfold safeN nxN; omega) (fun k h1 h2 => by unfold safeN nxN linkN monN; omega)]
  exact safesGo_at m _ t m.t ht (Nat.le_refl _) (by rw [wordsGo_len, List.length_replicate]; exact Nat.le_refl _)
section
variable {w w1 : World} {g : GrP} {m : Mp} {mm mm' : List Int} {k k' : Int} {l l' : List Bool} {vo vo' : Value} {E E' : List Ev} {H : List Int} {F : List Bool}
theorem gword_new (h : GrAt w g m (mm0 m H F) k l vo E) (o : Nat) (ho : o < m.o) (hg : goodO H o) :
    Calls Tryz.prog 49 #[grV g, .int .i64 (o : Int)] w fun e w' => e = .returned (.tuple #[hdV (hd0 H F o), .bool true]) ∧ Below w.heap.size w w' :=
  gword_any h o ho _ (mm0_word m H F o ho) (hd0 H F o) true (open_hd _ (hd0_ok.2 hg))
theorem gview_new (h : GrAt w g m (mm0 m H F) k l vo E) (o : Nat) (ho : o < m.o) (hg : goodO H o) :
    Calls Tryz.prog 19 #[grV g, .int .i64 (o : Int)] w fun e w' => e = .returned (viewV (-1) 0 (.slice none 0 0)) ∧ Below w.heap.size w w' :=
  gview_plain h o ho _ (mm0_word m H F o ho) (hd0 H F o) (by show tagO F o = 0 ∨ tagO F o = 1; unfold tagO; split <;> simp) (open_hd _ (hd0_ok.2 hg))
end
theorem gnew_any (m : Mp) (H : List Int) (F : List Bool) (hv fv : Value) (w : World) (hm : m.ok) (hh : SliceAt (Value.int .i64) w hv H) (hf : SliceAt Value.bool w fv F) :
    Calls Tryz.prog 9 #[mapV m, hv, fv] w (NewPost w m H F) := by
  have HL := Lib.hid fun V (hb : Below w.heap.size w V) => glaid_any m H F hv fv V hm (hh.below hb) (hf.below hb)
  clear hh hf
  go_enter Tryz.func9, Tryz.ntmps9
  go_upto_region 1 with fail
  generalize hW : w.alloc _ = W
  have bW : Below w.heap.size w W := by rw [← hW]; go_grown
  have m0 : Blk W w.heap.size 28 (mapCs m) := by rw [← hW]; exact Blk.new w _ _
  clear hW
  obtain ⟨c0, c1, c2⟩ := map3 m0
  have HL1 := Lib.hid (HL.out W bW)
  have hs := bW.size
  go_wp2_with (go_at_call 45; refine HL1.out.mono ?_; rintro e w2 (⟨hgd, g, rfl, h2, b2, n2⟩ | ⟨hgd, rfl, b2⟩))
  · go_ret
    exact .inl ⟨hgd, g, rfl, h2, bW.trans (b2.mono hs), fun b hb => Nat.le_trans hs (n2 b hb)⟩
  · go_ret
    exact .inr ⟨hgd, rfl, bW.trans (b2.mono hs)⟩
theorem laid_no (kv hv fv : Value) (t o n : Int) (w : World) (h : rightS t o n = false) :
    Calls Tryz.prog 45 #[kv, .agg #[.int .i64 t, .int .i64 o, .int .i64 n], hv, fv] w fun e w' => e = .returned (.pointer none) ∧ Below w.heap.size w w' := by
  have HR := Lib.hid fun V => right_any t o n V
  rw [h] at HR
  clear h
  go_enter Tryz.func45, Tryz.ntmps45
  go_upto_region 1 with fail
  generalize hW : w.alloc _ = W
  have bW : Below w.heap.size w W := by rw [← hW]; go_grown
  have m0 : Blk W w.heap.size 28 #[.int .i64 t, .int .i64 o, .int .i64 n] := by rw [← hW]; exact Blk.new w _ _
  clear hW
  have c0 := m0.cell 0 _ rfl
  have c1 := m0.cell 1 _ rfl
  have c2 := m0.cell 2 _ rfl
  go_wp2_with (go_at_call 22; refine (HR.out _).mono ?_; rintro e w2 ⟨rfl, b2⟩)
  go_ret
  exact ⟨rfl, bW.trans (b2.mono bW.size)⟩
theorem gnew_no (hv fv : Value) (t o n : Int) (w : World) (h : rightS t o n = false) :
    Calls Tryz.prog 9 #[.agg #[.int .i64 t, .int .i64 o, .int .i64 n], hv, fv] w fun e w' => e = .returned (.pointer none) ∧ Below w.heap.size w w' := by
  have HL := Lib.hid fun V => laid_no (.func (.func 47) #[] #[]) hv fv t o n V h
  clear h
  go_enter Tryz.func9, Tryz.ntmps9
  go_upto_region 1 with fail
  generalize hW : w.alloc _ = W
  have bW : Below w.heap.size w W := by rw [← hW]; go_grown
  have m0 : Blk W w.heap.size 28 #[.int .i64 t, .int .i64 o, .int .i64 n] := by rw [← hW]; exact Blk.new w _ _
  clear hW
  have c0 := m0.cell 0 _ rfl
  have c1 := m0.cell 1 _ rfl
  have c2 := m0.cell 2 _ rfl
  go_wp2_with (go_at_call 45; refine (HL.out _).mono ?_; rintro e w2 ⟨rfl, b2⟩)
  go_ret
  exact ⟨rfl, bW.trans (b2.mono bW.size)⟩
theorem greal_no (hv fv : Value) (t o n : Int) (w : World) (h : rightS t o n = false) :
    Calls Tryz.prog 9 #[.agg #[.int .i64 t, .int .i64 o, .int .i64 n], hv, fv] w fun e w' => e = .returned (.pointer none) ∧ Below w.heap.size w w' := by
  have HL := Lib.hid fun V => laid_no (.func (.func 47) #[] #[]) hv fv t o n V h
  clear h
  go_enter Tryz.func9, Tryz.ntmps9
  go_upto_region 1 with fail
  generalize hW : w.alloc _ = W
  have bW : Below w.heap.size w W := by rw [← hW]; go_grown
  have m0 : Blk W w.heap.size 28 #[.int .i64 t, .int .i64 o, .int .i64 n] := by rw [← hW]; exact Blk.new w _ _
  clear hW
  have c0 := m0.cell 0 _ rfl
  have c1 := m0.cell 1 _ rfl
  have c2 := m0.cell 2 _ rfl
  go_wp2_with (go_at_call 45; refine (HL.out _).mono ?_; rintro e w2 ⟨rfl, b2⟩)
  go_ret
  exact ⟨rfl, bW.trans (b2.mono bW.size)⟩
abbrev intE : Int → Value := Value.int .i64
set_option maxHeartbeats 1000000 in
/-- law 13's Same: views that are alike -/
theorem same13 (o d : Int) (va vb : Value) (l : List Int) (w : World) (ha : SliceAt intE w va l) (hb : SliceAt intE w vb l) (hl : l.length ≤ 100000) :
    Calls Tryz.prog 18 #[viewV o d va, viewV o d vb] w fun e w' => e = .returned (.bool true) ∧ Below w.heap.size w w' := by
  obtain ⟨aa, ca, rfl, ha⟩ := ha
  obtain ⟨ab, cb, rfl, hb⟩ := hb
  have HA := Lib.hid ha
  have HB := Lib.hid hb
  obtain ⟨n, hn⟩ : ∃ n, n = l.length := ⟨_, rfl⟩
  have HN := Lib.hid hn
  rw [← hn] at hl ⊢
  clear ha hb hn
  go_enter Tryz.func18, Tryz.ntmps18
  go_upto_region 1 with fail
  generalize hW : (w.alloc _).alloc _ = W
  have bW : Below w.heap.size w W := by rw [← hW]; go_grown
  have q0 : Blk W w.heap.size 58 (viewA o d (.slice aa n ca)) := by rw [← hW]; exact (Blk.new w _ _).alloc _
  have q1 : Blk W (w.heap.size + 1) 58 (viewA o d (.slice ab n cb)) := by rw [← hW]; exact blk_two w _ _ _
  clear hW
  have a0 := q0.cell 0 _ rfl
  have a1 := q0.cell 1 _ rfl
  have a2 := q0.cell 2 _ rfl
  have b0 := q1.cell 0 _ rfl
  have b1 := q1.cell 1 _ rfl
  have b2 := q1.cell 2 _ rfl
  have HQ := Lib.hid (And.intro q0 q1)
  have HBW := Lib.hid bW
  clear bW q0 q1
  go_upto_region 4 with fail
  clear a0 a1 a2 b0 b1 b2
  go_loopw [5] (fun v5 wr => ∃ j : Nat, j ≤ n ∧ v5 = .int .i64 (j : Int) ∧ Below W.heap.size W wr) (fun v5 _ => (n - intOf v5).toNat)
  case atStart => exact ⟨0, by omega, rfl, Below.refl _ _⟩
  case round =>
    obtain ⟨j, hj, rfl, hbr⟩ := hrel
    have p0 := HQ.out.1.below hbr HQ.out.1.lt
    have p1 := HQ.out.2.below hbr HQ.out.2.lt
    have a2 := p0.cell 2 _ rfl
    have b2 := p1.cell 2 _ rfl
    by_cases hlt : j < n
    · have hjl : j < l.length := by rw [← HN.out]; exact hlt
      obtain ⟨ga, oa, rfl, ea⟩ := HA.out j _ (List.getElem?_eq_getElem hjl)
      obtain ⟨gb, ob, rfl, eb⟩ := HB.out j _ (List.getElem?_eq_getElem hjl)
      have bwr := HBW.out.trans (hbr.mono HBW.out.size)
      have fa := cell_below ea bwr
      have fb := cell_below eb bwr
      have HBR := Lib.hid hbr
      generalize l[j] = x at *
      have hia : ∀ V, (Instr.indexAt 23 (.slice (some ⟨ga, oa, none⟩) n ca) (.int .i64 (j : Int))).run Tryz.prog V = .ok (.pointer (some ⟨ga, oa + j, none⟩)) V := by
        intro V
        go_simp
      have hib : ∀ V, (Instr.indexAt 23 (.slice (some ⟨gb, ob, none⟩) n cb) (.int .i64 (j : Int))).run Tryz.prog V = .ok (.pointer (some ⟨gb, ob + j, none⟩)) V := by
        intro V
        go_simp
      clear HA HB ea eb bwr hbr p0 p1 hjl
      go_upto_region 6 with fail
      have bd : Below wr.heap.size wr wr.drew := bdrewP wr
      go_region_held3 (fun V => V.cell? ⟨w.heap.size, 2, none⟩ = some (.slice (some ⟨ga, oa, none⟩) n ca) ∧ V.cell? ⟨w.heap.size + 1, 2, none⟩ = some (.slice (some ⟨gb, ob, none⟩) n cb) ∧ V.cell? ⟨ga, oa + j, none⟩ = some (.int .i64 x) ∧ V.cell? ⟨gb, ob + j, none⟩ = some (.int .i64 x)) (exact ⟨cell_below a2 bd, cell_below b2 bd, cell_below fa bd, cell_below fb bd⟩) (fail)
      go_wp2_with fail
      go_roundw
      case rel => exact ⟨j + 1, hlt, rfl, HBR.out.trans (bd.mono HBR.out.size)⟩
      case measure => simp [intOf]; omega
    · obtain rfl : j = n := by omega
      have HBR := Lib.hid hbr
      clear HA HB hbr p0 p1
      go_wp2_with fail
      go_ret
      exact ⟨rfl, HBW.out.trans (HBR.out.mono HBW.out.size)⟩
theorem nil_slice (w : World) : SliceAt intE w (.slice none 0 0) [] := ⟨none, 0, rfl, fun i x h => by simp at h⟩
end Go.Proofs.YtmknnjjmmfbppaaGreat.Re
