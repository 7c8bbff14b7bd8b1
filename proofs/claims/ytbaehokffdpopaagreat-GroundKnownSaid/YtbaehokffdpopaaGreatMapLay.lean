/- Package pool: Lay. -/
import Derived.Test.YtbaehokffdpopaaGreatMap
import Derived.LoopTactic
namespace Go.Proofs.YtbaehokffdpopaaGreat
open Go.ChangeShapes Go.WideShapes Go.ChangeAt Go.RowKit
set_option linter.unusedVariables false
set_option maxRecDepth 100000
set_option linter.unusedSimpArgs false
def bhN (n j : Nat) : Int := if j = 0 then 0 else (n : Int) - j + 1
def layGo (m : Mp) (mm : List Int) : Nat → List Int
  | 0 => mm
  | j + 1 => (layGo m mm j).set (linkN m ((m.n : Int) - 1 - j)) (bhN m.n j)
def layL (m : Mp) (mm : List Int) : List Int := (layGo m mm m.n).set 1 (bhN m.n m.n)
theorem layGo_len (m : Mp) (mm : List Int) : ∀ j, (layGo m mm j).length = mm.length
  | 0 => rfl
  | j + 1 => by simp [layGo, layGo_len m mm j]
theorem layL_len (m : Mp) (mm : List Int) : (layL m mm).length = mm.length := by simp [layL, layGo_len]
theorem layGo_other (m : Mp) (mm : List Int) (i : Nat) (h : ∀ k : Int, 0 ≤ k → k < m.n → i ≠ linkN m k) : ∀ j, j ≤ m.n → (layGo m mm j)[i]? = mm[i]?
  | 0, _ => rfl
  | j + 1, hj => by
    rw [layGo, List.getElem?_set_ne (Ne.symm (h _ (by omega) (by omega)))]
    exact layGo_other m mm i h j (by omega)
theorem layGo_link (m : Mp) (mm : List Int) (hs : sizeN m ≤ mm.length) (k : Nat) (hk : k < m.n) : ∀ j, j ≤ m.n → m.n - j ≤ k → (layGo m mm j)[linkN m (k : Int)]? = some (bhN m.n (m.n - 1 - k))
  | 0, _, h => by omega
  | j + 1, hj, h => by
    rw [layGo]
    by_cases e : k = m.n - 1 - j
    · have e2 : (m.n : Int) - 1 - (j : Int) = (k : Int) := by omega
      rw [e2, List.getElem?_set_self (by rw [layGo_len]; have := linkN_lt (m := m) (k := (k : Int)) ⟨by omega, by omega⟩; omega)]
      rw [show m.n - 1 - k = j by omega]
    · rw [List.getElem?_set_ne (fun h2 => e (by have := linkN_inj (m := m) (by omega) (by omega) h2; omega))]
      exact layGo_link m mm hs k hk j (by omega) (by omega)
abbrev mapCs (m : Mp) : Array Value := #[.int .i64 (m.t : Int), .int .i64 (m.o : Int), .int .i64 (m.n : Int)]
theorem map3 {w : World} {b : Nat} {m : Mp} (h : Blk w b 28 (mapCs m)) : w.cell? ⟨b, 0, none⟩ = some (.int .i64 (m.t : Int)) ∧ w.cell? ⟨b, 1, none⟩ = some (.int .i64 (m.o : Int)) ∧ w.cell? ⟨b, 2, none⟩ = some (.int .i64 (m.n : Int)) := ⟨h.cell 0 _ rfl, h.cell 1 _ rfl, h.cell 2 _ rfl⟩
theorem bhN_eq (n j : Nat) (h : 0 < j) : bhN n j = (n : Int) - j + 1 := by unfold bhN; rw [if_neg (by omega)]
set_option maxHeartbeats 4000000 in
theorem lay_any (C S : Nat) (m : Mp) (mm : List Int) (k0 : Int) (w : World) (hm : m.ok) (hC : CellsAt w C S mm k0) (hs : sizeN m ≤ mm.length) (h0 : 0 ≤ k0 ∧ k0 ≤ 1000000) :
    Calls Tryz.prog 66 #[cellsV C, mapV m] w fun e w' => e = .returned (.bool true) ∧ CellsAt w' C S (layL m mm) (k0 + m.n + 1) ∧ Keep (ofCells C S) w w' := by
  have HR := Lib.hid fun V => pright_yes m (mm.length : Int) V hm
  rw [show decide ((sizeN m : Int) ≤ (mm.length : Int)) = true by simp; omega] at HR
  have hmn := hm.n
  have HL := Lib.hid fun V (hV : Below w.heap.size w V) => len_any C S mm k0 V (hC.keep (Keep.ofBelow (Q := fun _ => False) hV) (fun h => h) (fun h => h))
  have HC := Lib.hid hC
  have HM := Lib.hid hm
  have HS := Lib.hid hs
  have hCl := hC.own.lt
  have hSl := hC.row.lt
  clear hC hm hs
  go_enter Tryz.func66, Tryz.ntmps66
  go_upto_region 1 with fail
  generalize hW : (w.alloc _) = W
  have bW : Below w.heap.size w W := by rw [← hW]; go_grown
  have m0 : Blk W w.heap.size 28 (mapCs m) := by rw [← hW]; exact Blk.new w _ _
  clear hW
  have hml := m0.lt
  have SK := Lib.hid (show ∀ V, Below W.heap.size W V → V.cell? ⟨w.heap.size, 0, none⟩ = some (.int .i64 (m.t : Int)) ∧ V.cell? ⟨w.heap.size, 1, none⟩ = some (.int .i64 (m.o : Int)) ∧ V.cell? ⟨w.heap.size, 2, none⟩ = some (.int .i64 (m.n : Int)) from fun V hk => map3 (m0.below hk hml))
  have bd := bdrewP W
  have HL1 := Lib.hid (HL.out W.drew (bW.trans (bd.mono bW.size)))
  go_region_held3 (fun V => V.cell? ⟨w.heap.size, 0, none⟩ = some (.int .i64 (m.t : Int)) ∧ V.cell? ⟨w.heap.size, 1, none⟩ = some (.int .i64 (m.o : Int)) ∧ V.cell? ⟨w.heap.size, 2, none⟩ = some (.int .i64 (m.n : Int))) (first | exact SK.out _ b3 | exact SK.out _ b2 | exact SK.out _ bd) (first
    | (go_at_call 109; refine HL1.out.mono ?_; rintro e w2 ⟨rfl, hb2⟩; have b2 : Below W.heap.size W w2 := bd.trans hb2)
    | (go_at_call 76; refine (HR.out _).mono ?_; rintro e w3 ⟨rfl, hb3⟩; have b3 : Below W.heap.size W w3 := b2.trans (hb3.mono b2.size)))
  have m3 := m0.below b3 hml
  have kW : Keep (ofCells C S) w w3 := (Keep.ofBelow bW).trans (Keep.ofBelow b3)
  have C3 := HC.out.keep (Keep.ofBelow (Q := fun _ => False) (bW.trans (b3.mono bW.size))) (fun h => h) (fun h => h)
  obtain ⟨c0, c1, c2⟩ := map3 m3
  clear m0 SK HL HL1 bd b2 b3 hb2 hb3 bW
  go_wp2_with (go_at_call 119; refine (pmark_any (-1) _ (by omega)).mono ?_; rintro e w4 ⟨rfl, rfl⟩)
  have HM3 := Lib.hid m3
  have HC3 := Lib.hid C3
  have HKW := Lib.hid kW
  clear m3 C3 kW c0 c1 c2
  go_loopw [5, 6] (fun v5 v6 wr => ∃ (j : Nat) (b z : Int), j ≤ m.n ∧ b = bhN m.n j ∧ z = (m.n : Int) - 1 - j ∧ v5 = .int .u64 b ∧ v6 = .int .i64 z ∧ CellsAt wr C S (layGo m mm j) (k0 + j) ∧ Blk wr w.heap.size 28 (mapCs m) ∧ Keep (ofCells C S) w wr)
    (fun _ v6 _ => (intOf v6 + 1).toNat)
  case atStart => exact ⟨0, 0, (m.n : Int) - 1, by omega, rfl, by omega, rfl, rfl, by simpa [layGo] using HC3.out, HM3.out, HKW.out⟩
  case round =>
    obtain ⟨j, b, z, hj, hb, hz, rfl, rfl, hC, hB, hk⟩ := hrel
    obtain ⟨c0, c1, c2⟩ := map3 hB
    have HCr := Lib.hid hC
    have HBr := Lib.hid hB
    have HKr := Lib.hid hk
    by_cases hlt : j < m.n
    · have hzr : 0 ≤ z ∧ z ≤ 5000 := by omega
      have hzn : z < m.n := by omega
      have HX := Lib.hid fun V => link_any m z V HM.out hzr
      have hin : linkN m z < (layGo m mm j).length := by rw [layGo_len]; have := linkN_lt (m := m) ⟨hzr.1, hzn⟩; have := HS.out; omega
      have hbl : w.heap.size < wr.heap.size := hB.lt
      have HST := Lib.hid fun V (hV : Below wr.heap.size wr V) => store_yes C S (layGo m mm j) (k0 + j) (linkN m z) _ b V (HCr.out.keep (Keep.ofBelow (Q := fun _ => False) hV) (fun h => h) (fun h => h)) (List.getElem?_eq_getElem hin) (by omega) (by omega)
      have HK := Lib.hid fun V => pmark_any z V (by omega)
      have Hb := Lib.hid hb
      have Hz := Lib.hid hz
      have HJ := Lib.hid hlt
      clear hC hB hk hb hz hzn hin hlt hj
      go_wp2_with (first
        | (go_at_call 20; refine (HX.out _).mono ?_; rintro e w5 ⟨rfl, b5⟩; have HST2 := Lib.hid (HST.out w5 b5))
        | (go_at_call 40; refine HST2.out.mono ?_; rintro e w6 ⟨rfl, h6, k6⟩)
        | (go_at_call 119; refine (HK.out _).mono ?_; rintro e w7 ⟨rfl, rfl⟩))
      go_roundw
      case rel =>
        have hz := Hz.out
        have hb := Hb.out
        have hlt := HJ.out
        have k56 : Keep (ofCells C S) wr w6 := (Keep.ofBelow b5).trans k6
        refine ⟨j + 1, z + 1, z - 1, hlt, ?_, by omega, rfl, rfl, ?_, HBr.out.keep k56 (fun h => by rcases h with h | h <;> omega), HKr.out.trans k56⟩
        · rw [bhN_eq _ _ (by omega)]
          omega
        · rw [layGo, ← hz, ← hb, Int.natCast_add, ← Int.add_assoc]
          exact h6
      case measure => simp [intOf]; omega
    · obtain rfl : j = m.n := by omega
      have hzr : ¬ (0 ≤ z) := by omega
      have hin : 1 < (layGo m mm m.n).length := by rw [layGo_len]; have := HS.out; unfold sizeN at this; omega
      have HST := Lib.hid fun V (hV : Below wr.heap.size wr V) => (show Calls Tryz.prog 40 #[cellsV C, .int .i64 1, .int .u64 b] V fun e w' => e = .returned (.bool true) ∧ CellsAt w' C S ((layGo m mm m.n).set 1 b) (k0 + m.n + 1) ∧ Keep (ofCells C S) V w' from store_yes C S (layGo m mm m.n) (k0 + m.n) 1 _ b V (HCr.out.keep (Keep.ofBelow (Q := fun _ => False) hV) (fun h => h) (fun h => h)) (List.getElem?_eq_getElem hin) (by omega) (by omega))
      have Hb := Lib.hid hb
      clear hC hB hk hb hz hin hlt hj
      go_wp2_with (first
        | (go_at_call 19; refine (head_any m _).mono ?_; rintro e w5 ⟨rfl, b5⟩; have HST2 := Lib.hid (HST.out w5 b5))
        | (go_at_call 40; refine HST2.out.mono ?_; rintro e w6 ⟨rfl, h6, k6⟩))
      go_ret
      refine ⟨rfl, ?_, HKr.out.trans ((Keep.ofBelow b5).trans k6)⟩
      rw [Hb.out] at h6
      exact h6
end Go.Proofs.YtbaehokffdpopaaGreat
