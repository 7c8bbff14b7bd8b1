/- Package pool: Lay; layer 11's laws: laid, all. -/
import Derived.Test.YtpejmkoheodblaaGreatMgPoA
import Derived.Test.YtpejmkoheodblaaGreatQuK
namespace Go.Proofs.YtpejmkoheodblaaGreat
open Go.ChangeShapes Go.WideShapes Go.ChangeAt Go.RowKit
set_option linter.unusedVariables false
set_option maxRecDepth 100000
set_option linter.unusedSimpArgs false
abbrev mapCs (m : Mp) : Array Value := #[.int .i64 (m.t : Int), .int .i64 (m.o : Int), .int .i64 (m.n : Int)]
theorem map3 {w : World} {b : Nat} {m : Mp} (h : Blk w b 24 (mapCs m)) : w.cell? ⟨b, 0, none⟩ = some (.int .i64 (m.t : Int)) ∧ w.cell? ⟨b, 1, none⟩ = some (.int .i64 (m.o : Int)) ∧ w.cell? ⟨b, 2, none⟩ = some (.int .i64 (m.n : Int)) := ⟨h.cell 0 _ rfl, h.cell 1 _ rfl, h.cell 2 _ rfl⟩
theorem bhN_eq (n j : Nat) (h : 0 < j) : bhN n j = (n : Int) - j + 1 := by unfold bhN; rw [if_neg (by omega)]
set_option maxHeartbeats 4000000 in
theorem lay_any (C S : Nat) (m : Mp) (mm : List Int) (k0 : Int) (w : World) (hm : m.ok) (hC : CellsAt w C S mm k0) (hs : sizeN m ≤ mm.length) (h0 : 0 ≤ k0 ∧ k0 ≤ 1000000) :
    Calls Tryz.prog 31 #[cellsV C, mapV m] w fun e w' => e = .returned (.bool true) ∧ CellsAt w' C S (layL m mm) (k0 + m.n + 1) ∧ Keep (ofCells C S) w w' := by
  have HR := Lib.hid fun V => pright_yes m (mm.length : Int) V hm
  rw [show decide ((sizeN m : Int) ≤ (mm.length : Int)) = true by simp; omega] at HR
  have hmn := hm.n
  have HL := Lib.hid fun V (hV : Below w.heap.size w V) => len_any C S mm k0 V (hC.keep (Keep.ofBelow (Q := fun _ => False) hV) (fun h => h) (fun h => h))
  have HC := Lib.hid hC
  have HM := Lib.hid hm
  have HS := Lib.hid hs
  have hCl := hC.own.lt
  have hSl := hC.row.lt
  clear hC hm hs
  go_enter Tryz.func31, Tryz.ntmps31
  go_upto_region 1 with fail
  generalize hW : (w.alloc _) = W
  have bW : Below w.heap.size w W := by rw [← hW]; go_grown
  have m0 : Blk W w.heap.size 24 (mapCs m) := by rw [← hW]; exact Blk.new w _ _
  clear hW
  have hml := m0.lt
  have SK := Lib.hid (show ∀ V, Below W.heap.size W V → V.cell? ⟨w.heap.size, 0, none⟩ = some (.int .i64 (m.t : Int)) ∧ V.cell? ⟨w.heap.size, 1, none⟩ = some (.int .i64 (m.o : Int)) ∧ V.cell? ⟨w.heap.size, 2, none⟩ = some (.int .i64 (m.n : Int)) from fun V hk => map3 (m0.below hk hml))
  have bd := bdrewP W
  have HL1 := Lib.hid (HL.out W.drew (bW.trans (bd.mono bW.size)))
  go_region_held3 (fun V => V.cell? ⟨w.heap.size, 0, none⟩ = some (.int .i64 (m.t : Int)) ∧ V.cell? ⟨w.heap.size, 1, none⟩ = some (.int .i64 (m.o : Int)) ∧ V.cell? ⟨w.heap.size, 2, none⟩ = some (.int .i64 (m.n : Int))) (first | exact SK.out _ b3 | exact SK.out _ b2 | exact SK.out _ bd) (first
    | (go_at_call 52; refine HL1.out.mono ?_; rintro e w2 ⟨rfl, hb2⟩; have b2 : Below W.heap.size W w2 := bd.trans hb2)
    | (go_at_call 62; refine (HR.out _).mono ?_; rintro e w3 ⟨rfl, hb3⟩; have b3 : Below W.heap.size W w3 := b2.trans (hb3.mono b2.size)))
  have m3 := m0.below b3 hml
  have kW : Keep (ofCells C S) w w3 := (Keep.ofBelow bW).trans (Keep.ofBelow b3)
  have C3 := HC.out.keep (Keep.ofBelow (Q := fun _ => False) (bW.trans (b3.mono bW.size))) (fun h => h) (fun h => h)
  obtain ⟨c0, c1, c2⟩ := map3 m3
  clear m0 SK HL HL1 bd b2 b3 hb2 hb3 bW
  go_wp2_with (go_at_call 63; refine (pmark_any (-1) _ (by omega)).mono ?_; rintro e w4 ⟨rfl, rfl⟩)
  have HM3 := Lib.hid m3
  have HC3 := Lib.hid C3
  have HKW := Lib.hid kW
  clear m3 C3 kW c0 c1 c2
  go_loopw [5, 6] (fun v5 v6 wr => ∃ (j : Nat) (b z : Int), j ≤ m.n ∧ b = bhN m.n j ∧ z = (m.n : Int) - 1 - j ∧ v5 = .int .u64 b ∧ v6 = .int .i64 z ∧ CellsAt wr C S (layGo m mm j) (k0 + j) ∧ Blk wr w.heap.size 24 (mapCs m) ∧ Keep (ofCells C S) w wr)
    (fun _ v6 _ => (intOf v6 + 1).toNat)
  case atStart => exact ⟨0, 0, (m.n : Int) - 1, by omega, rfl, by omega, rfl, rfl, by simpa [layGo] using HC3.out, HM3.out, HKW.out⟩
  case round =>
    obtain ⟨j, b, z, hj, hb, hz, rfl, rfl, hC, hB, hk⟩ := hrel
    obtain ⟨c0, c1, c2⟩ := map3 hB
    have HCr := Lib.hid hC
    have HBr := Lib.hid hB
    have HKr := Lib.hid hk
    by_cases hlt : j < m.n
    · have hzr : 0 ≤ z ∧ z ≤ 5000 := by omega
      have hzn : z < m.n := by omega
      have HX := Lib.hid fun V => link_any m z V HM.out hzr
      have hin : linkN m z < (layGo m mm j).length := by rw [layGo_len]; have := linkN_lt (m := m) ⟨hzr.1, hzn⟩; have := HS.out; omega
      have hbl : w.heap.size < wr.heap.size := hB.lt
      have HST := Lib.hid fun V (hV : Below wr.heap.size wr V) => store_yes C S (layGo m mm j) (k0 + j) (linkN m z) _ b V (HCr.out.keep (Keep.ofBelow (Q := fun _ => False) hV) (fun h => h) (fun h => h)) (List.getElem?_eq_getElem hin) (by omega) (by omega)
      have HK := Lib.hid fun V => pmark_any z V (by omega)
      have Hb := Lib.hid hb
      have Hz := Lib.hid hz
      have HJ := Lib.hid hlt
      clear hC hB hk hb hz hzn hin hlt hj
      go_wp2_with (first
        | (go_at_call 41; refine (HX.out _).mono ?_; rintro e w5 ⟨rfl, b5⟩; have HST2 := Lib.hid (HST.out w5 b5))
        | (go_at_call 40; refine HST2.out.mono ?_; rintro e w6 ⟨rfl, h6, k6⟩)
        | (go_at_call 63; refine (HK.out _).mono ?_; rintro e w7 ⟨rfl, rfl⟩))
      go_roundw
      case rel =>
        have hz := Hz.out
        have hb := Hb.out
        have hlt := HJ.out
        have k56 : Keep (ofCells C S) wr w6 := (Keep.ofBelow b5).trans k6
        refine ⟨j + 1, z + 1, z - 1, hlt, ?_, by omega, rfl, rfl, ?_, HBr.out.keep k56 (fun h => by rcases h with h | h <;> omega), HKr.out.trans k56⟩
        · rw [bhN_eq _ _ (by omega)]
          omega
        · rw [layGo, ← hz, ← hb, Int.natCast_add, ← Int.add_assoc]
          exact h6
      case measure => simp [intOf]; omega
    · obtain rfl : j = m.n := by omega
      have hzr : ¬ (0 ≤ z) := by omega
      have hin : 1 < (layGo m mm m.n).length := by rw [layGo_len]; have := HS.out; unfold sizeN at this; omega
      have HST := Lib.hid fun V (hV : Below wr.heap.size wr V) => (show Calls Tryz.prog 40 #[cellsV C, .int .i64 1, .int .u64 b] V fun e w' => e = .returned (.bool true) ∧ CellsAt w' C S ((layGo m mm m.n).set 1 b) (k0 + m.n + 1) ∧ Keep (ofCells C S) V w' from store_yes C S (layGo m mm m.n) (k0 + m.n) 1 _ b V (HCr.out.keep (Keep.ofBelow (Q := fun _ => False) hV) (fun h => h) (fun h => h)) (List.getElem?_eq_getElem hin) (by omega) (by omega))
      have Hb := Lib.hid hb
      clear hC hB hk hb hz hin hlt hj
      go_wp2_with (first
        | (go_at_call 35; refine (head_any m _).mono ?_; rintro e w5 ⟨rfl, b5⟩; have HST2 := Lib.hid (HST.out w5 b5))
        | (go_at_call 40; refine HST2.out.mono ?_; rintro e w6 ⟨rfl, h6, k6⟩))
      go_ret
      refine ⟨rfl, ?_, HKr.out.trans ((Keep.ofBelow b5).trans k6)⟩
      rw [Hb.out] at h6
      exact h6
theorem lay_no (cv : Value) (m : Mp) (n : Nat) (w : World) (hm : m.ok) (hL : ∀ W, Below w.heap.size w W → Calls Tryz.prog 52 #[cv] W fun e w' => e = .returned (.int .i64 (n : Int)) ∧ Below W.heap.size W w') (hn : ¬ sizeN m ≤ n) :
    Calls Tryz.prog 31 #[cv, mapV m] w fun e w' => e = .returned (.bool false) ∧ Below w.heap.size w w' := by
  have HR := Lib.hid fun V => pright_yes m (n : Int) V hm
  rw [show decide ((sizeN m : Int) ≤ (n : Int)) = false by simp; omega] at HR
  have HL := Lib.hid hL
  clear hm hn hL
  go_enter Tryz.func31, Tryz.ntmps31
  go_upto_region 1 with fail
  generalize hW : (w.alloc _) = W
  have bW : Below w.heap.size w W := by rw [← hW]; go_grown
  have m0 : Blk W w.heap.size 24 (mapCs m) := by rw [← hW]; exact Blk.new w _ _
  clear hW
  have hml := m0.lt
  have SK := Lib.hid (show ∀ V, Below W.heap.size W V → V.cell? ⟨w.heap.size, 0, none⟩ = some (.int .i64 (m.t : Int)) ∧ V.cell? ⟨w.heap.size, 1, none⟩ = some (.int .i64 (m.o : Int)) ∧ V.cell? ⟨w.heap.size, 2, none⟩ = some (.int .i64 (m.n : Int)) from fun V hk => map3 (m0.below hk hml))
  have bd := bdrewP W
  have HL1 := Lib.hid (HL.out W.drew (bW.trans (bd.mono bW.size)))
  clear m0 HL
  go_region_held3 (fun V => V.cell? ⟨w.heap.size, 0, none⟩ = some (.int .i64 (m.t : Int)) ∧ V.cell? ⟨w.heap.size, 1, none⟩ = some (.int .i64 (m.o : Int)) ∧ V.cell? ⟨w.heap.size, 2, none⟩ = some (.int .i64 (m.n : Int))) (first | exact SK.out _ b3 | exact SK.out _ b2 | exact SK.out _ bd) (first
    | (go_at_call 52; refine HL1.out.mono ?_; rintro e w2 ⟨rfl, hb2⟩; have b2 : Below W.heap.size W w2 := bd.trans hb2)
    | (go_at_call 62; refine (HR.out _).mono ?_; rintro e w3 ⟨rfl, hb3⟩; have b3 : Below W.heap.size W w3 := b2.trans (hb3.mono b2.size)))
  all_goals go_wp2
  all_goals go_ret
  all_goals exact ⟨rfl, bW.trans (b3.mono bW.size)⟩
theorem lay_bad (cv : Value) (t o k : Int) (n : Nat) (w : World) (hr : rightS t o k = false) (hL : ∀ W, Below w.heap.size w W → Calls Tryz.prog 52 #[cv] W fun e w' => e = .returned (.int .i64 (n : Int)) ∧ Below W.heap.size W w') :
    Calls Tryz.prog 31 #[cv, .agg #[.int .i64 t, .int .i64 o, .int .i64 k]] w fun e w' => e = .returned (.bool false) ∧ Below w.heap.size w w' := by
  have HR := Lib.hid fun V => pright_no (n : Int) t o k V hr
  have HL := Lib.hid hL
  clear hr hL
  go_enter Tryz.func31, Tryz.ntmps31
  go_upto_region 1 with fail
  generalize hW : (w.alloc _) = W
  have bW : Below w.heap.size w W := by rw [← hW]; go_grown
  have m0 : Blk W w.heap.size 24 #[.int .i64 t, .int .i64 o, .int .i64 k] := by rw [← hW]; exact Blk.new w _ _
  clear hW
  have hml := m0.lt
  have SK := Lib.hid (show ∀ V, Below W.heap.size W V → V.cell? ⟨w.heap.size, 0, none⟩ = some (.int .i64 t) ∧ V.cell? ⟨w.heap.size, 1, none⟩ = some (.int .i64 o) ∧ V.cell? ⟨w.heap.size, 2, none⟩ = some (.int .i64 k) from fun V hk => ⟨(m0.below hk hml).cell 0 _ rfl, (m0.below hk hml).cell 1 _ rfl, (m0.below hk hml).cell 2 _ rfl⟩)
  have bd := bdrewP W
  have HL1 := Lib.hid (HL.out W.drew (bW.trans (bd.mono bW.size)))
  clear m0 HL
  go_region_held3 (fun V => V.cell? ⟨w.heap.size, 0, none⟩ = some (.int .i64 t) ∧ V.cell? ⟨w.heap.size, 1, none⟩ = some (.int .i64 o) ∧ V.cell? ⟨w.heap.size, 2, none⟩ = some (.int .i64 k)) (first | exact SK.out _ b3 | exact SK.out _ b2 | exact SK.out _ bd) (first
    | (go_at_call 52; refine HL1.out.mono ?_; rintro e w2 ⟨rfl, hb2⟩; have b2 : Below W.heap.size W w2 := bd.trans hb2)
    | (go_at_call 62; refine (HR.out _).mono ?_; rintro e w3 ⟨rfl, hb3⟩; have b3 : Below W.heap.size W w3 := b2.trans (hb3.mono b2.size)))
  all_goals go_wp2
  all_goals go_ret
  all_goals exact ⟨rfl, bW.trans (b3.mono bW.size)⟩
abbrev lawM (n : Nat) : Mp := ⟨3, 2, n⟩
abbrev lawV (n : Nat) : Value := .agg #[.int .i64 3, .int .i64 2, .int .i64 (n : Int)]
theorem lawV_eq (n : Nat) : mapV (lawM n) = lawV n := rfl
theorem lawM_ok {n : Nat} (h : n ≤ 4096) : (lawM n).ok := ⟨by show 1 ≤ 3 ∧ 3 ≤ 32766; omega, by show 1 ≤ 2 ∧ 2 ≤ 65536; omega, h⟩
set_option maxHeartbeats 2000000 in
theorem laid_any (n : Nat) (w : World) (hn : n ≤ 4096) {nI : Int} (hI : nI = n) :
    Calls Tryz.prog 39 #[.int .i64 nI] w fun e w' => ∃ C S, e = .returned (.tuple #[cellsV C, mapV (lawM n)]) ∧ CellsAt w' C S (layL (lawM n) (List.replicate (sizeN (lawM n)) 0)) (n + 1) ∧ Below w.heap.size w w' ∧ w.heap.size ≤ C ∧ w.heap.size ≤ S := by
  subst hI
  have HSz := Lib.hid fun V => size_any (lawM n) V (lawM_ok hn)
  have HN := Lib.hid fun V => new_some (sizeN (lawM n)) V (by unfold sizeN; show 2 + 2 + 6 * 3 + 8 * n ≤ 16777216; omega)
  have HL := Lib.hid fun V C S (hC : CellsAt V C S (List.replicate (sizeN (lawM n)) 0) 0) => lay_any C S (lawM n) (List.replicate (sizeN (lawM n)) 0) 0 V (lawM_ok hn) hC (by simp) (by omega)
  rw [lawV_eq] at HL HSz
  rw [lawV_eq]
  clear hn
  go_enter Tryz.func39, Tryz.ntmps39
  go_upto_region 2 with fail
  generalize hW : ((w.alloc _).alloc _) = W
  have bW : Below w.heap.size w W := by rw [← hW]; go_grown
  have sW : W.heap.size = w.heap.size + 2 := by rw [← hW]; simp
  have q0 : Blk W w.heap.size 24 #[.int .i64 0, .int .i64 0, .int .i64 0] := by rw [← hW]; exact (Blk.new w _ _).alloc _
  have q1 : Blk W (w.heap.size + 1) 24 #[.int .i64 3, .int .i64 2, .int .i64 (n : Int)] := by rw [← hW]; exact blk_two w _ _ _
  clear hW
  have d0 := q1.cell 0 _ rfl
  have d1 := q1.cell 1 _ rfl
  have d2 := q1.cell 2 _ rfl
  go_upto_region 3 with (first
    | (go_at_call 10; (with_reducible refine (HSz.out _).mono ?_); rintro e w2 ⟨rfl, b2⟩)
    | (go_at_call 9; (with_reducible refine (HN.out _).mono ?_); rintro e w3 ⟨rfl, hC, b3⟩; have HL2 := Lib.hid (HL.out _ _ _ hC)))
  have b23 : Below W.heap.size W w3 := b2.trans (b3.mono b2.size)
  have p0 := q0.below b23 q0.lt
  have p1 := q1.below b23 q1.lt
  have hC1 : w.heap.size + 2 ≤ w2.heap.size + 1 := by have := b2.size; omega
  have hS1 : w.heap.size + 2 ≤ w2.heap.size := by have := b2.size; omega
  have bw3 : Below w.heap.size w w3 := bW.trans (b23.mono bW.size)
  generalize w2.heap.size + 1 = C at *
  generalize w2.heap.size = S at *
  clear q0 q1 hC b2 b3 b23 d0 d1 d2
  have d0 := p1.cell 0 _ rfl
  have d1 := p1.cell 1 _ rfl
  have d2 := p1.cell 2 _ rfl
  have nC : ¬ ofCells C S (w.heap.size + 1) := fun h => by rcases h with h | h <;> omega
  have nC0 : ¬ ofCells C S w.heap.size := fun h => by rcases h with h | h <;> omega
  go_upto_region 5 with (go_at_call 31; (with_reducible refine HL2.out.mono ?_); rintro e w4 ⟨rfl, h4, k4⟩)
  have r0 := p0.keep k4 nC0
  have r1 := p1.keep k4 nC
  clear d0 d1 d2 p0 p1
  have d0 := r1.cell 0 _ rfl
  have d1 := r1.cell 1 _ rfl
  have d2 := r1.cell 2 _ rfl
  have e0 := r0.cell 0 _ rfl
  have e1 := r0.cell 1 _ rfl
  have e2 := r0.cell 2 _ rfl
  have z0 := r0.free 0
  have z1 := r0.free 1
  have z2 := r0.free 2
  go_region
  have s0 := ((r0.set 0 (.int .i64 3)).set 1 (.int .i64 2)).set 2 (.int .i64 (n : Int))
  have k0 : Keep (fun b => b = w.heap.size) w4 (((w4.setCell ⟨w.heap.size, 0, none⟩ (.int .i64 3)).setCell ⟨w.heap.size, 1, none⟩ (.int .i64 2)).setCell ⟨w.heap.size, 2, none⟩ (.int .i64 (n : Int))) := (((Keep.refl (fun b => b = w.heap.size) w4).set (p := ⟨w.heap.size, 0, none⟩) (fun _ => rfl) _).set (p := ⟨w.heap.size, 1, none⟩) (fun _ => rfl) _).set (p := ⟨w.heap.size, 2, none⟩) (fun _ => rfl) _
  clear d0 d1 d2 e0 e1 e2 z0 z1 z2
  generalize ((w4.setCell ⟨w.heap.size, 0, none⟩ (.int .i64 3)).setCell ⟨w.heap.size, 1, none⟩ (.int .i64 2)).setCell ⟨w.heap.size, 2, none⟩ (.int .i64 (n : Int)) = w5 at *
  have bd := bdrewP w5
  have s1 := s0.below bd s0.lt
  have f0 : w5.drew.cell? ⟨w.heap.size, 0, none⟩ = some (.int .i64 3) := s1.cell 0 _ rfl
  have f1 : w5.drew.cell? ⟨w.heap.size, 1, none⟩ = some (.int .i64 2) := s1.cell 1 _ rfl
  have f2 : w5.drew.cell? ⟨w.heap.size, 2, none⟩ = some (.int .i64 (n : Int)) := s1.cell 2 _ rfl
  have kb := k0.trans (Keep.ofBelow (Q := fun b => b = w.heap.size) bd)
  have h5 := h4.keep kb (by omega) (by omega)
  have hw5 : Below w.heap.size w w5.drew := (bw3.trans (k4.below bw3.size (fun i _ h => by rcases h with h | h <;> omega))).trans (kb.below (by have := bw3.size; have := k4.size; omega) (fun i _ h => by omega))
  generalize w5.drew = w6 at *
  go_wp2
  exact bodyPost_ret (v := .tuple #[cellsV C, lawV n]) (by simp [results, Tryz.results39, go_sem, f0, f1, f2]) rfl ⟨C, S, rfl, by rw [← Int.zero_add (n : Int)]; exact h5, hw5, by omega, by omega⟩
end Go.Proofs.YtpejmkoheodblaaGreat
/- Layer 11's laws: all; Take and Back to their ends, alone. -/
namespace Go.Proofs.YtpejmkoheodblaaGreat
open Go.ChangeShapes Go.WideShapes Go.ChangeAt Go.RowKit
set_option linter.unusedVariables false
set_option maxRecDepth 100000
set_option linter.unusedSimpArgs false
set_option maxHeartbeats 1000000 in
theorem pall_any (C P S t : Nat) (Q : Nat → Prop) (T : Tre Itm) (L most : Nat) (m m' : List Int) (v n : Int) (w : World) (hG : Goes m T L m' v) (hL : L ≤ most) (hm : most ≤ 1000)
    (h : TkT (cellOps C P) w t Q T) (hC : CellsAt w C S m n) (hQ : ∀ b, Q b → b ≠ C ∧ b ≠ S) (hn : 0 ≤ n ∧ n ≤ 1000000) {mI : Int} (hI : mI = most) :
    Calls Tryz.prog 42 #[pV t, .int .i64 mI] w fun e w' => e = .returned (.int .i64 v) ∧ CellsAt w' C S m' (n + L) ∧ Keep (fun b => Q b ∨ ofCells C S b) w w' := by
  subst hI
  have H := Lib.hid h
  have HG := Lib.hid hG
  have HC := Lib.hid hC
  have HQ := Lib.hid hQ
  have HL := Lib.hid hL
  have hCl := hC.own.lt
  have hSl := hC.row.lt
  clear h hG hC hQ hL
  go_enter Tryz.func42, Tryz.ntmps42
  go_wp2_with fail
  go_loopw [5] (fun v5 wr => ∃ (I : Nat) (m1 : List Int) (T1 : Tre Itm) (Q1 : Nat → Prop) (j : Nat), I + j = L ∧ v5 = .int .i64 (I : Int) ∧ Goes m1 T1 j m' v ∧ TkT (cellOps C P) wr t Q1 T1 ∧ (∀ b, Q1 b → Q b ∨ w.heap.size ≤ b) ∧ CellsAt wr C S m1 (n + I) ∧ Keep (fun b => Q b ∨ ofCells C S b) w wr)
    (fun v5 _ => L - (intOf v5).toNat)
  case atStart => exact ⟨0, m, T, Q, L, by omega, rfl, HG.out, H.out, fun _ h => .inl h, by simpa using HC.out, Keep.refl _ _⟩
  case round =>
    obtain ⟨I, m1, T1, Q1, j, hIj, rfl, hG, hT, hq, hC, hk⟩ := hrel
    have hLm := HL.out
    have hsz := hk.size
    have hQ1 : ∀ b, Q1 b → b ≠ C ∧ b ≠ S := fun b hb => by
      rcases hq b hb with h | h
      · exact HQ.out b h
      · omega
    rcases hG.cases' with ⟨rfl, rfl, rfl⟩ | ⟨x, κ, j, rfl, rfl, e1, e2, e3⟩
    · obtain rfl : I = L := by omega
      have hD := Lib.hid (tdoneT_ret t Q1 v wr hT)
      have hV := Lib.hid (tvalueT_ret t Q1 v wr hT)
      have HX := Lib.hid (And.intro hC hk)
      clear hG hT hq hC hk hQ1 H HG HC HQ HL
      have hor : (I : Int) < (most : Int) ∨ ¬ (I : Int) < (most : Int) := by omega
      rcases hor with h4 | h4
      all_goals
        go_wp2_with (first
          | (go_at_call 37; (with_reducible refine hD.out.mono ?_); rintro e w2 ⟨rfl, rfl⟩)
          | (go_at_call 23; (with_reducible refine hV.out.mono ?_); rintro e w2 ⟨rfl, rfl⟩))
        go_ret
        exact ⟨rfl, HX.out⟩
    · have hD := Lib.hid (tdoneT_op t Q1 x κ wr hT)
      have hS := Lib.hid (tstepT_op C P S t Q1 x κ m1 (n + I) wr hT hC e1 hQ1 ⟨by omega, by omega⟩)
      have hQt := hT.own
      have HX := Lib.hid (And.intro e2 (And.intro e3 (And.intro hq (And.intro hk (And.intro (hq t hQt) (And.intro hsz (HC.out.own.lt)))))))
      have ht : t < w.heap.size ∧ Q t := ⟨H.out.lt t H.out.own, H.out.own⟩
      have h5 : (I : Int) < (most : Int) := by omega
      clear hG hT hq hC hk hQ1 e1 e2 e3
      go_wp2_with (first
        | (go_at_call 37; (with_reducible refine hD.out.mono ?_); rintro e w2 ⟨rfl, rfl⟩)
        | (go_at_call 36; (with_reducible refine hS.out.mono ?_); rintro e w3 ⟨rfl, ⟨Q3, g1, g2⟩, g3, g4⟩))
      obtain ⟨e2, e3, hq, hk, _, _, _⟩ := HX.out
      rw [e2] at g3
      go_roundw
      case rel =>
        refine ⟨I + 1, _, _, Q3, j, by omega, by go_num, e3, g1, fun b hb => ?_, by rw [Int.natCast_add, ← Int.add_assoc]; exact g3, hk.trans (g4.mono fun b _ hb => ?_)⟩
        · rcases g2 b hb with h | h
          · exact hq b h
          · exact .inr (by omega)
        · rcases hb with rfl | hb
          · exact .inl ht.2
          · exact .inr hb
      case measure => simp [intOf]; omega
/-- cells hold words -/
def Rng (mm : List Int) : Prop := ∀ (i : Nat) c, mm[i]? = some c → 0 ≤ c ∧ c < 18446744073709551616
theorem Rng.set {mm : List Int} (h : Rng mm) (i : Nat) {v : Int} (hv : 0 ≤ v ∧ v < 18446744073709551616) : Rng (mm.set i v) := fun j c hc => by
  rw [List.getElem?_set] at hc
  split at hc
  · split at hc
    · obtain rfl := Option.some.inj hc
      exact hv
    · cases hc
  · exact h j c hc
/-- how Take goes, and Back, alone -/
theorem Goes.step {m m1 m' : List Int} {x : Itm} {κ : Int → Tre Itm} {T : Tre Itm} {u v : Int} {o : Bool} {k : Nat} (h1 : x.kind < 5) (h2 : operS m x = (m1, u, o) ∧ countS m x = 1) (hT : κ u = T) (h3 : Goes m1 T k m' v) : Goes m (opT x κ) (k + 1) m' v := by
  refine .op h1 h2.2 ?_
  rw [h2.1]
  simp only
  rw [hT]
  exact h3
/-- the pool, with its latch free -/
structure PFree (m : Mp) (mm : List Int) (L : List Int) : Prop where
  pool : PIs m mm L
  free : mm[0]? = some 0
def SameGen (m : Mp) (mm mm' : List Int) : Prop := mm'.length = mm.length ∧ ∀ k : Int, 0 ≤ k → mm'[genN m k]? = mm[genN m k]?
theorem PIs.latch {m : Mp} {mm L : List Int} (h : PIs m mm L) (v : Int) : PIs m (mm.set 0 v) L := h.set 0 v (by omega) (fun x _ e => by have := linkN_two (m := m) (k := x); omega)
theorem PIs.zero {m : Mp} {mm L : List Int} (h : PIs m mm L) : 0 < mm.length := by have := h.len; unfold sizeN at this; omega
theorem gen_ne {m : Mp} {k : Int} : genN m k ≠ 0 ∧ genN m k ≠ 1 := by have := genN_two (m := m) (k := k); omega
theorem goes_take {m : Mp} {mm r : List Int} {x t : Int} (hm : m.n ≤ 4096) (h : PFree m mm (x :: r)) (ht : 0 ≤ t ∧ t ≤ 100000) :
    ∃ mm', Goes mm (takeT m t) 5 mm' x ∧ PFree m mm' r ∧ SameGen m mm mm' ∧ (Rng mm → Rng mm') := by
  have hx := h.pool.low x (by simp)
  have hr := h.pool.tailr
  have p1 := h.pool.latch (t + 1)
  have h1 := p1.head
  have p2 := p1.pop
  have hz := p1.zero
  refine ⟨((mm.set 0 (t + 1)).set 1 (headOf r)).set 0 0, ?_, ⟨p2.latch 0, List.getElem?_set_self p2.zero⟩, ⟨by simp, fun k hk => ?_⟩, fun hr => ((hr.set 0 (by omega)).set 1 (by omega)).set 0 (by omega)⟩
  · rw [takeT_eq]
    refine Goes.step (show (4 : Nat) < 5 by omega) (oTake h.free ht) (if_neg (by decide)) ?_
    have e1 : IntKind.u64.wrap (headOf (x :: r)) = x + 1 := wrap_small (by simp [headOf]; omega)
    have e2 : pmS m (x + 1) = x := by rw [pmS_of (by omega)]; omega
    refine Goes.step (show (0 : Nat) < 5 by omega) (oLoad h1 (by simp [headOf]; omega)) ?_ (T := tk2 m t x) ?_
    · rw [e1, e2, if_neg (by omega)]
    refine Goes.step (show (0 : Nat) < 5 by omega) (oLoad (p1.next 0 x rfl) (by simpa using (show 0 ≤ headOf r ∧ headOf r ≤ 1000000000000 by omega))) (T := tk3 t x (headOf r)) ?_ ?_
    · exact congrArg (tk3 t x) (wrap_small (by show 0 ≤ headOf r ∧ headOf r ≤ 1000000000000; omega))
    refine Goes.step (show (1 : Nat) < 5 by omega) (oStore h1) rfl ?_
    refine Goes.step (show (2 : Nat) < 5 by omega) (oDrop (t := t) ?_ ht) rfl (.ret _ _)
    rw [List.getElem?_set_ne (by omega), List.getElem?_set_self (by simpa using hz)]
  · have hg := gen_ne (m := m) (k := k)
    rw [List.getElem?_set_ne (by omega), List.getElem?_set_ne (by omega), List.getElem?_set_ne (by omega)]
theorem goes_none {m : Mp} {mm : List Int} {t : Int} (h : PFree m mm []) (ht : 0 ≤ t ∧ t ≤ 100000) :
    ∃ mm', Goes mm (takeT m t) 3 mm' (-1) ∧ PFree m mm' [] ∧ SameGen m mm mm' ∧ (Rng mm → Rng mm') := by
  have p1 := h.pool.latch (t + 1)
  have hz := p1.zero
  refine ⟨(mm.set 0 (t + 1)).set 0 0, ?_, ⟨p1.latch 0, List.getElem?_set_self hz⟩, ⟨by simp, fun k hk => ?_⟩, fun hr => (hr.set 0 (by omega)).set 0 (by omega)⟩
  · rw [takeT_eq]
    refine Goes.step (show (4 : Nat) < 5 by omega) (oTake h.free ht) (if_neg (by decide)) ?_
    refine Goes.step (show (0 : Nat) < 5 by omega) (oLoad (p1.head) (by simp [headOf])) ?_ (T := outT 0 t (-1)) ?_
    · have e1 : IntKind.u64.wrap (headOf []) = 0 := wrap_small (by simp [headOf])
      have e2 : pmS m 0 = -1 := by rw [pmS_of (by omega)]; omega
      rw [e1, e2, if_pos rfl]
    refine Goes.step (show (2 : Nat) < 5 by omega) (oDrop (t := t) ?_ ht) rfl (.ret _ _)
    rw [List.getElem?_set_self (by simpa using hz)]
  · have hg := gen_ne (m := m) (k := k)
    rw [List.getElem?_set_ne (by omega), List.getElem?_set_ne (by omega)]
theorem goes_back {m : Mp} {mm L : List Int} {n t g : Int} (hm : m.n ≤ 4096) (h : PFree m mm L) (ht : 0 ≤ t ∧ t ≤ 100000) (hn : 0 ≤ n ∧ n < m.n) (hL : n ∉ L) (hg : mm[genN m n]? = some g) (hg2 : 0 ≤ g ∧ g < 4095) :
    ∃ mm', Goes mm (backT m t n) 6 mm' 1 ∧ PFree m mm' (n :: L) ∧ SameGen m mm mm' ∧ (Rng mm → Rng mm') := by
  have hr := h.pool.headr
  have p1 := h.pool.latch (t + 1)
  have hz := p1.zero
  have hne : ∀ x ∈ L, linkN m n ≠ linkN m x := fun x hx e => hL (by have := linkN_inj hn.1 (h.pool.low x hx).1 e; rw [this]; exact hx)
  have h9 := linkN_two (m := m) (k := n)
  have p2 := p1.set (linkN m n) (headOf L) (by omega) hne
  have hlk : linkN m n < (mm.set 0 (t + 1)).length := by have := linkN_lt hn; have := p1.len; omega
  have p3 := p2.push hn hL (List.getElem?_set_self hlk)
  refine ⟨(((mm.set 0 (t + 1)).set (linkN m n) (headOf L)).set 1 (n + 1)).set 0 0, ?_, ⟨p3.latch 0, List.getElem?_set_self p3.zero⟩, ⟨by simp, fun k hk => ?_⟩, fun hR => (((hR.set 0 (by omega)).set _ (by omega)).set 1 (by omega)).set 0 (by omega)⟩
  · rw [backT_eq]
    refine Goes.step (show (4 : Nat) < 5 by omega) (oTake h.free ht) (if_neg (by decide)) ?_
    have hgn := gen_ne (m := m) (k := n)
    refine Goes.step (show (0 : Nat) < 5 by omega) (oLoad (c := g) (by rw [List.getElem?_set_ne (by omega)]; exact hg) (by omega)) ?_ (T := bk2 m t n) ?_
    · rw [wrap_small (by omega), if_neg (by omega)]
    refine Goes.step (show (0 : Nat) < 5 by omega) (oLoad p1.head (by omega)) ?_ (T := bk3 m t n (headOf L)) ?_
    · rw [wrap_small (by omega)]
    refine Goes.step (show (1 : Nat) < 5 by omega) (oStore (List.getElem?_eq_getElem hlk)) rfl ?_
    refine Goes.step (show (1 : Nat) < 5 by omega) (oStore p2.head) rfl ?_
    refine Goes.step (show (2 : Nat) < 5 by omega) (oDrop (t := t) ?_ ht) rfl (.ret _ _)
    rw [List.getElem?_set_ne (by omega), List.getElem?_set_ne (by omega), List.getElem?_set_self (by simpa using hz)]
  · have hg := gen_ne (m := m) (k := k)
    rw [List.getElem?_set_ne (by omega), List.getElem?_set_ne (by omega), List.getElem?_set_ne (linkN_gen hn.1 hk), List.getElem?_set_ne (by omega)]
theorem goes_last {m : Mp} {mm L : List Int} {n t g : Int} (h : PFree m mm L) (ht : 0 ≤ t ∧ t ≤ 100000) (hg : mm[genN m n]? = some g) (hg2 : 4095 ≤ g ∧ g ≤ 1000000) :
    ∃ mm', Goes mm (backT m t n) 3 mm' 0 ∧ PFree m mm' L ∧ SameGen m mm mm' ∧ (Rng mm → Rng mm') := by
  have p1 := h.pool.latch (t + 1)
  have hz := p1.zero
  refine ⟨(mm.set 0 (t + 1)).set 0 0, ?_, ⟨p1.latch 0, List.getElem?_set_self hz⟩, ⟨by simp, fun k hk => ?_⟩, fun hr => (hr.set 0 (by omega)).set 0 (by omega)⟩
  · rw [backT_eq]
    refine Goes.step (show (4 : Nat) < 5 by omega) (oTake h.free ht) (if_neg (by decide)) ?_
    have hgn := gen_ne (m := m) (k := n)
    refine Goes.step (show (0 : Nat) < 5 by omega) (oLoad (c := g) (by rw [List.getElem?_set_ne (by omega)]; exact hg) (by omega)) ?_ (T := outT 0 t 0) ?_
    · rw [wrap_small (by omega), if_pos (by omega)]
    refine Goes.step (show (2 : Nat) < 5 by omega) (oDrop (t := t) ?_ ht) rfl (.ret _ _)
    rw [List.getElem?_set_self (by simpa using hz)]
  · have hg := gen_ne (m := m) (k := k)
    rw [List.getElem?_set_ne (by omega), List.getElem?_set_ne (by omega)]
/-- a new task, to its end -/
theorem prun_any {w w1 : World} {C S t' : Nat} {mm mm' : List Int} {n v : Int} {T : Tre Itm} (h : CellsAt w C S mm n) (hM : MadeT (cellOps C 0) w (fun b => w.heap.size ≤ b) T t' w1) {c most : Nat} (hG : Goes mm T c mm' v) (hc : c ≤ most) (hm : most ≤ 1000) (hn : 0 ≤ n ∧ n ≤ 1000000) {mI : Int} (hI : mI = most) :
    Calls Tryz.prog 42 #[pV t', .int .i64 mI] w1 fun e w' => e = .returned (.int .i64 v) ∧ CellsAt w' C S mm' (n + c) ∧ Keep (ofCells C S) w w' := by
  have hT : TkT (cellOps C 0) w1 t' (fun b => w.heap.size ≤ b ∧ b < w1.heap.size) T := TkT.new hM.2.1 hM.1
  have hC := h.keep (Keep.ofBelow (Q := fun _ => False) hM.2.2) (fun h => h) (fun h => h)
  have l1 := h.own.lt
  have l2 := h.row.lt
  refine (pall_any C 0 S t' _ T c most mm mm' v n w1 hG hc hm hT hC (fun b hb => by omega) hn hI).mono ?_
  rintro e w' ⟨rfl, h3, h4⟩
  have k1 : Keep (ofCells C S) w w1 := Keep.ofBelow hM.2.2
  exact ⟨rfl, h3, k1.step h4 fun i hi hh => hh.elim (fun hh => by omega) id⟩
section
variable {w : World} {C S : Nat} {m : Mp} {mm : List Int} {n : Int}
/-- Take, made -/
theorem vtake (hm : m.ok) (t : Int) (ht : 0 ≤ t) (hs : sizeN m ≤ mm.length) (h : CellsAt w C S mm n) :
    Calls Tryz.prog 33 #[cellsV C, mapV m, .int .i64 t] w fun e w' => ∃ k, e = .returned (pV k) ∧ MadeT (cellOps C 0) w (fun b => w.heap.size ≤ b) (takeT m t) k w' :=
  ptake_any C 0 m _ t mm.length w hm ht hs (fun W hW => len_any C S mm n W (h.keep (Keep.ofBelow (Q := fun _ => False) hW) (fun h => h) (fun h => h))) (fun _ h => h)
theorem vback (hm : m.ok) (t x : Int) (ht : 0 ≤ t) (hx : 0 ≤ x ∧ x < m.n) (hs : sizeN m ≤ mm.length) (h : CellsAt w C S mm n) :
    Calls Tryz.prog 34 #[cellsV C, mapV m, .int .i64 t, .int .i64 x] w fun e w' => ∃ k, e = .returned (pV k) ∧ MadeT (cellOps C 0) w (fun b => w.heap.size ≤ b) (backT m t x) k w' :=
  pback_any C 0 m _ t x mm.length w hm ht hx hs (fun W hW => len_any C S mm n W (h.keep (Keep.ofBelow (Q := fun _ => False) hW) (fun h => h) (fun h => h))) (fun _ h => h)
end
end Go.Proofs.YtpejmkoheodblaaGreat
/- Package pool: the iterator over the monitors in the pool. -/
namespace Go.Proofs.YtpejmkoheodblaaGreat
open Go.ChangeShapes Go.WideShapes Go.ChangeAt Go.RowKit Go.Shelf
set_option linter.unusedVariables false
set_option maxRecDepth 100000
set_option linter.unusedSimpArgs false
attribute [local go_sem] Oper.semAt_some
/-- where a walk through the pool stands: what the cell ahead has -/
def curV (m : Mp) (mm pre : List Int) : Int := match pre.getLast? with
  | none => rdL mm 1
  | some x => rdL mm (linkN m x)
def curP (m : Mp) (mm pre : List Int) : Int := pmS m (curV m mm pre)
theorem curV_nil (m : Mp) (mm : List Int) : curV m mm [] = rdL mm 1 := rfl
theorem curV_snoc (m : Mp) (mm pre : List Int) (x : Int) : curV m mm (pre ++ [x]) = rdL mm (linkN m x) := by simp [curV]
/-- the monitors that come, whatever cells hold -/
structure Came (m : Mp) (mm l : List Int) : Prop where
  len : sizeN m ≤ mm.length
  rng : ∀ (i : Nat) c, mm[i]? = some c → 0 ≤ c ∧ c < 18446744073709551616
  at' : ∀ (k : Nat) x, l[k]? = some x → curP m mm (l.take k) = x
  nodup : l.Nodup
  low : ∀ x ∈ l, 0 ≤ x ∧ x < (m.n : Int)
  stop : curP m mm l = -1 ∨ curP m mm l ∈ l
theorem Came.cur {m : Mp} {mm l : List Int} (h : Came m mm l) {k : Nat} : 0 ≤ curV m mm (l.take k) ∧ curV m mm (l.take k) < 18446744073709551616 := by
  have hr : ∀ i, 0 ≤ rdL mm i ∧ rdL mm i < 18446744073709551616 := fun i => by
    unfold rdL
    cases e : mm[i]? with
    | none => simp
    | some c => exact h.rng i c e
  unfold curV
  split
  · exact hr _
  · exact hr _
theorem rdL_some {mm : List Int} {i : Nat} (h : i < mm.length) : mm[i]? = some (rdL mm i) := by
  unfold rdL
  rw [List.getElem?_eq_getElem h]
  rfl
/-- how many are marked in a map -/
noncomputable def kOf (l : List Int) (mp : Nat) (w : World) : Nat := by
  classical exact if h : ∃ k, k ≤ l.length ∧ SetAt w mp (l.take k).reverse then Classical.choose h else 0
theorem kOf_eq {l : List Int} {mp k b : Nat} {w : World} (hn : l.Nodup) (hb : ∀ x ∈ l, 0 ≤ x ∧ x < (b : Int)) (hb2 : b ≤ 5000) (hk : k ≤ l.length) (h : SetAt w mp (l.take k).reverse) : kOf l mp w = k := by
  have hex : ∃ k, k ≤ l.length ∧ SetAt w mp (l.take k).reverse := ⟨k, hk, h⟩
  unfold kOf
  rw [dif_pos hex]
  obtain ⟨h1, h2⟩ := Classical.choose_spec hex
  generalize Classical.choose hex = j at *
  have key : ∀ i x, l[i]? = some x → (i < k ↔ i < j) := fun i x hx => by
    have hxr := hb x (List.mem_of_getElem? hx)
    have e1 := h.look (u := x) (by omega)
    have e2 := h2.look (u := x) (by omega)
    rw [e1] at e2
    injection e2 with e2
    injection e2 with e2
    have hm : ∀ q, x ∈ (l.take q).reverse ↔ i < q := fun q => by
      rw [List.mem_reverse]
      constructor
      · intro hh
        obtain ⟨p, hp, e⟩ := List.mem_take_iff_getElem.1 hh
        have e3 : l[p]? = some x := List.getElem?_eq_some_iff.2 ⟨by omega, e⟩
        have a1 := idx_nodup l i x hn hx
        have a2 := idx_nodup l p x hn e3
        omega
      · intro hh
        obtain ⟨hlt, e⟩ := List.getElem?_eq_some_iff.1 hx
        exact List.mem_take_iff_getElem.2 ⟨i, by omega, e⟩
    have e3 : decide (x ∈ (l.take k).reverse) = decide (x ∈ (l.take j).reverse) := e2
    rw [decide_eq_decide, hm, hm] at e3
    exact e3
  rcases Nat.lt_trichotomy j k with hlt | rfl | hlt
  · have := (key j _ (List.getElem?_eq_getElem (by omega))).1 hlt
    omega
  · rfl
  · have := (key k _ (List.getElem?_eq_getElem (by omega))).2 hlt
    omega
set_option maxHeartbeats 4000000 in
theorem pcont1_own (n : Nat) (hn : 1 ≤ n) (C : Nat) (m : Mp) (mm l : List Int) (g cap Bl Bs : Nat) (Qb : Nat → Prop) (w : World) (hm : m.ok) (hc : Came m mm l) (hBl : Blk w Bl 104 (stockCs C m)) (hBs : Blk w Bs 38 #[.slice (some ⟨g, 0, none⟩) mm.length cap]) (hg : RowC w g mm)
    (q1 : ¬ Qb Bl) (q2 : ¬ Qb Bs) (q3 : ¬ Qb g) (q4 : ¬ Qb (w.heap.size + 2)) : SeqOwnZ Fence.wide n Tryz.prog 104 #[pV Bl, pV Bs] (fun t : Int => #[.int .i64 t]) l Qb (fun i => i = w.heap.size + 2) w.heap.size w := by
  intro J W hW hsz hJ hY h0
  have hmm := @run_makeMap Tryz.prog
  have hro : Fence.wide.round = none := rfl
  have hBlt := hBl.lt
  have hBst := hBs.lt
  have hl1 : 1 < mm.length := by have := hc.len; unfold sizeN at this; omega
  have hc1 := rdL_some hl1
  have hgt : g < w.heap.size := cell_lt6 (hg 1 _ hc1)
  have HM := Lib.hid hm
  have HC := Lib.hid hc
  refine callsIn_of_wp Tryz.func104 rfl trivial ?_ hro
  simp only [Tryz.ntmps104, List.size_toArray, List.length_cons, List.length_nil, Nat.reduceAdd, Nat.reduceSub, Array.replicate_succ, Array.replicate_zero, List.push_toArray, List.append_toArray, List.nil_append, List.cons_append]
  gi_wp2
  generalize hV : (W.alloc _) = V
  have bV : Below W.heap.size W V := by rw [← hV]; go_grown
  have hSV : SetAt V (w.heap.size + 2) [] := by
    rw [← hV]
    have := SetAt.made W
    rw [hsz] at this
    exact this
  clear hV
  have kV : Keep (fun _ => False) w V := (Keep.ofBelow hW).trans (Keep.ofBelow bV)
  have lV := hBl.keep kV (fun h => h)
  have sV := hBs.keep kV (fun h => h)
  have gV := hg.keep kV (fun h => h)
  have jV := hJ _ _ _ h0 (Keep.ofBelow bV)
  clear hBl hBs hg h0
  have hcur := hc.cur (k := 0)
  rw [List.take_zero, curV_nil] at hcur
  have HMk := Lib.hid fun V => pmarked_any C m (rdL mm 1) V hm hcur
  have HHd := Lib.hid fun V => head_any m V
  have SK := Lib.hid (show ∀ A, Below V.heap.size V A → ((A.cell? ⟨Bl, 0, none⟩ = some (cellsV C) ∧ A.cell? ⟨Bl, 1, none⟩ = some (.int .i64 (m.t : Int)) ∧ A.cell? ⟨Bl, 2, none⟩ = some (.int .i64 (m.o : Int)) ∧ A.cell? ⟨Bl, 3, none⟩ = some (.int .i64 (m.n : Int))) ∧ A.cell? ⟨Bs, 0, none⟩ = some (.slice (some ⟨g, 0, none⟩) mm.length cap)) ∧ A.cell? ⟨g, 1, none⟩ = some (.int .u64 (rdL mm 1)) from fun A hA => ⟨⟨stock4 (lV.below hA lV.lt), (sV.below hA sV.lt).cell 0 _ rfl⟩, gV.keep (Keep.ofBelow (Q := fun _ => False) hA) (fun h => h) 1 _ hc1⟩)
  have bd := bdrewP V
  have hix : ∀ W, (Instr.indexAt 38 (.slice (some ⟨g, 0, none⟩) mm.length cap) (.int .i64 1)).run Tryz.prog W = .ok (.pointer (some ⟨g, 1, none⟩)) W := idx_u64 mm.length cap g 1 hl1
  have hl1I : (1 : Int) < (mm.length : Int) := by omega
  refine wpIn_wide.2 ?_
  go_region_held3 (fun A => ((A.cell? ⟨Bl, 0, none⟩ = some (cellsV C) ∧ A.cell? ⟨Bl, 1, none⟩ = some (.int .i64 (m.t : Int)) ∧ A.cell? ⟨Bl, 2, none⟩ = some (.int .i64 (m.o : Int)) ∧ A.cell? ⟨Bl, 3, none⟩ = some (.int .i64 (m.n : Int))) ∧ A.cell? ⟨Bs, 0, none⟩ = some (.slice (some ⟨g, 0, none⟩) mm.length cap)) ∧ A.cell? ⟨g, 1, none⟩ = some (.int .u64 (rdL mm 1))) (first | exact SK.out _ b2 | exact SK.out _ b1 | exact SK.out _ bd) (first
    | (go_at_call 35; (with_reducible refine (HHd.out _).mono ?_); rintro e w1 ⟨rfl, hb1⟩; have b1 : Below V.heap.size V w1 := bd.trans hb1)
    | (go_at_call 97; (with_reducible refine (HMk.out _).mono ?_); rintro e w2 ⟨rfl, hb2⟩; have b2 : Below V.heap.size V w2 := b1.trans (hb2.mono b1.size)))
  have k2 : Keep (fun _ => False) V w2 := Keep.ofBelow b2
  have l2 := lV.keep k2 (fun h => h)
  have s2 := sV.keep k2 (fun h => h)
  have g2 := gV.keep k2 (fun h => h)
  have t2 := hSV.keep k2 (fun h => h)
  have j2 := hJ _ _ _ jV (Keep.ofBelow b2)
  clear lV sV gV hSV jV SK HMk HHd hix kV bV b1 b2 bd k2 hcur hW hb1 hb2 hc1 hl1 hl1I
  obtain ⟨mp, hmp⟩ : ∃ mp, mp = w.heap.size + 2 := ⟨_, rfl⟩
  have HMP := Lib.hid hmp
  rw [← hmp] at t2 hJ q4 ⊢
  clear hmp hsz
  rw [show pmS m (rdL mm 1) = curP m mm (l.take 0) from rfl]
  gi_wp2
  gi_loopw [5] (fun v5 wr => ∃ (k : Nat) (c : Int), k ≤ l.length ∧ c = curP m mm (l.take k) ∧ v5 = .int .i64 c ∧ J (l.take k) wr ∧ Blk wr Bl 104 (stockCs C m) ∧ Blk wr Bs 38 #[.slice (some ⟨g, 0, none⟩) mm.length cap] ∧ RowC wr g mm ∧ SetAt wr mp (l.take k).reverse)
    (fun _ wr => l.length - kOf l mp wr)
  case atStart => exact ⟨0, _, Nat.zero_le _, rfl, rfl, j2, l2, s2, g2, t2⟩
  case round =>
    clear l2 s2 g2 t2 j2
    obtain ⟨k, c, hk, hcur, rfl, hj, hl, hs, hgr, hset⟩ := hrel
    have hkof := kOf_eq hc.nodup hc.low (b := m.n) (by have := hm.n; omega) hk hset
    by_cases hlt : k < l.length
    · obtain ⟨t, ht⟩ : ∃ t, l[k]? = some t := ⟨_, List.getElem?_eq_getElem hlt⟩
      have hthr := hc.low t (List.mem_of_getElem? ht)
      have hmt := hm.n
      have hub : -9223372036854775808 ≤ t ∧ t ≤ 9223372036854775807 := by omega
      have hnot : t ∉ (l.take k).reverse := by
        intro h
        have h1 : t ∈ l.take k := by simpa using h
        obtain ⟨i, hi, e⟩ := List.mem_take_iff_getElem.1 h1
        have e2 : l[i]? = some t := List.getElem?_eq_some_iff.2 ⟨by omega, e⟩
        have a1 := idx_nodup l i t hc.nodup e2
        have a2 := idx_nodup l k t hc.nodup ht
        omega
      have hlk := hset.look hub
      rw [show decide (t ∈ (l.take k).reverse) = false by simpa using hnot] at hlk
      rw [hc.at' k t ht] at hcur
      obtain rfl := hcur.symm
      clear hcur
      have e2 : (t == -1) = false := by
        rw [beq_eq_false_iff_ne]
        omega
      have e3 : (t != -1) = true := by rw [bne, e2]; rfl
      have hlen : (l.take k).length < l.length := by rw [List.length_take]; omega
      obtain ⟨fn, tmps, assign, body, hy, hR⟩ := hY (l.take k) t wr hj hlen (fun i hi => by have h1 := hset.lt; have h2 := HMP.out; omega)
      have HT := Lib.hid ht
      have HL := Lib.hid hl
      have HS := Lib.hid hs
      have HG := Lib.hid hgr
      have HSet := Lib.hid hset
      have HThr := Lib.hid hthr
      have HKo := Lib.hid hkof
      clear ht hl hs hgr hset hthr hnot hlen hkof
      gi_wp2
      refine hR.mono ?_
      rintro e W3 ⟨rfl, hJ3, hk3⟩
      have hmp2 := HMP.out
      have nl : ¬ (Qb Bl ∨ (w.heap.size ≤ Bl ∧ Bl < w.heap.size + 2)) := fun h => h.elim q1 (fun h => by omega)
      have ns : ¬ (Qb Bs ∨ (w.heap.size ≤ Bs ∧ Bs < w.heap.size + 2)) := fun h => h.elim q2 (fun h => by omega)
      have ng : ¬ (Qb g ∨ (w.heap.size ≤ g ∧ g < w.heap.size + 2)) := fun h => h.elim q3 (fun h => by omega)
      have nm : ¬ (Qb mp ∨ (w.heap.size ≤ mp ∧ mp < w.heap.size + 2)) := fun h => h.elim q4 (fun h => by omega)
      have hl3 := HL.out.keep hk3 nl
      have hs3 := HS.out.keep hk3 ns
      have hg3 := HG.out.keep hk3 ng
      have ht3 := HSet.out.keep hk3 nm
      have hlm := nodup_len0 hc.nodup hc.low
      obtain ⟨w5, hup, hs5, hg5⟩ := ht3.put hub (by rw [List.length_reverse, List.length_take]; unfold maxLen; omega)
      have k5 : Keep (fun i => i = mp) W3 w5 := ⟨hg5.os, hg5.tape, hg5.output, hg5.size, fun k hk hn => hg5.block k hk (fun e => hn (by injection e))⟩
      have hl5 := hl3.keep k5 (by omega)
      have hsl5 := hs3.keep k5 (by omega)
      have hgr5 := hg3.keep k5 (by omega)
      have hj5 := hJ _ _ _ hJ3 k5
      clear hl3 hs3 hg3 ht3 hJ3 hk3 hg5 hlk nl ns ng nm hmp2 hlm
      gi_wp2
      clear hup
      have hnl : linkN m t < mm.length := by have := linkN_lt HThr.out; have := hc.len; omega
      have hnx := rdL_some hnl
      have htk := take_snoc_w HT.out
      have hcur := hc.cur (k := k + 1)
      rw [htk, curV_snoc] at hcur
      have HMk := Lib.hid fun V => pmarked_any C m (rdL mm (linkN m t)) V hm hcur
      rw [show pmS m (rdL mm (linkN m t)) = curP m mm (l.take (k + 1)) by rw [htk]; unfold curP; rw [curV_snoc]] at HMk
      have HNx := Lib.hid fun V => link_any m t V hm (by have := HThr.out; omega)
      have SK := Lib.hid (show ∀ A, Below w5.heap.size w5 A → ((A.cell? ⟨Bl, 0, none⟩ = some (cellsV C) ∧ A.cell? ⟨Bl, 1, none⟩ = some (.int .i64 (m.t : Int)) ∧ A.cell? ⟨Bl, 2, none⟩ = some (.int .i64 (m.o : Int)) ∧ A.cell? ⟨Bl, 3, none⟩ = some (.int .i64 (m.n : Int))) ∧ A.cell? ⟨Bs, 0, none⟩ = some (.slice (some ⟨g, 0, none⟩) mm.length cap)) ∧ A.cell? ⟨g, linkN m t, none⟩ = some (.int .u64 (rdL mm (linkN m t))) from fun A hA => ⟨⟨stock4 (hl5.below hA hl5.lt), (hsl5.below hA hsl5.lt).cell 0 _ rfl⟩, hgr5.keep (Keep.ofBelow (Q := fun _ => False) hA) (fun h => h) _ _ hnx⟩)
      have bd := bdrewP w5
      have hix := idx_u64 mm.length cap g (linkN m t) hnl
      clear hnx hnl hub e2 e3 hmt hcur
      refine wpIn_wide.2 ?_
      go_region_held3 (fun A => ((A.cell? ⟨Bl, 0, none⟩ = some (cellsV C) ∧ A.cell? ⟨Bl, 1, none⟩ = some (.int .i64 (m.t : Int)) ∧ A.cell? ⟨Bl, 2, none⟩ = some (.int .i64 (m.o : Int)) ∧ A.cell? ⟨Bl, 3, none⟩ = some (.int .i64 (m.n : Int))) ∧ A.cell? ⟨Bs, 0, none⟩ = some (.slice (some ⟨g, 0, none⟩) mm.length cap)) ∧ A.cell? ⟨g, linkN m t, none⟩ = some (.int .u64 (rdL mm (linkN m t)))) (first | exact SK.out _ b7 | exact SK.out _ b6 | exact SK.out _ bd) (first
        | (go_at_call 41; (with_reducible refine (HNx.out _).mono ?_); rintro e w6 ⟨rfl, hb6⟩; have b6 : Below w5.heap.size w5 w6 := bd.trans hb6)
        | (go_at_call 97; (with_reducible refine (HMk.out _).mono ?_); rintro e w7 ⟨rfl, hb7⟩; have b7 : Below w5.heap.size w5 w7 := b6.trans (hb7.mono b6.size)))
      have k7 : Keep (fun _ => False) w5 w7 := Keep.ofBelow b7
      have hset7 : SetAt w7 mp (l.take (k + 1)).reverse := by rw [htk, List.reverse_append]; exact hs5.keep k7 (fun h => h)
      have hko2 := kOf_eq hc.nodup hc.low (b := m.n) (by have := hm.n; omega) hlt hset7
      clear hix bd
      go_roundw
      case rel =>
        refine ⟨_, _, _, _, _, _, _, _, _, _, _, _, _, _, _, _, _, _, _, _, _, _, _, _, ?_, rfl⟩
        exact ⟨k + 1, _, by omega, by rw [htk], rfl, by rw [htk]; exact hJ _ _ _ hj5 (Keep.ofBelow b7), hl5.keep k7 (fun h => h), hsl5.keep k7 (fun h => h), hgr5.keep k7 (fun h => h), hset7⟩
      case measure =>
        show l.length - kOf l mp w7 < l.length - kOf l mp wr
        rw [hko2, HKo.out]
        omega
    · obtain rfl : k = l.length := by omega
      rw [List.take_length] at hj hcur hset
      have HJ := Lib.hid hj
      rcases hc.stop with hst | hst
      · rw [hst] at hcur
        subst hcur
        clear hj hset hgr hs hl hkof
        gi_wp2
        go_end0
        exact ⟨⟨_, rfl⟩, HJ.out⟩
      · rw [← hcur] at hst
        have hthr := hc.low c hst
        have hmt := hm.n
        have hlk := hset.look (u := c) (by omega)
        rw [show decide (c ∈ l.reverse) = true by simpa using hst] at hlk
        have e2 : (c == -1) = false := by
          rw [beq_eq_false_iff_ne]
          omega
        have e3 : (c != -1) = true := by rw [bne, e2]; rfl
        clear hj hset hgr hs hl hkof hcur hst
        gi_wp2
        go_end0
        exact ⟨⟨_, rfl⟩, HJ.out⟩
end Go.Proofs.YtpejmkoheodblaaGreat
/- Package pool: Free. -/
namespace Go.Proofs.YtpejmkoheodblaaGreat
open Go.ChangeShapes Go.WideShapes Go.ChangeAt Go.RowKit Go.Shelf
set_option linter.unusedVariables false
set_option maxRecDepth 100000
set_option linter.unusedSimpArgs false
attribute [local go_sem] Oper.semAt_some
theorem pcont_any (C : Nat) (m : Mp) (sv : Value) (w : World) (hs : ∃ g n cap, sv = .slice (some ⟨g, 0, none⟩) n cap) :
    Calls Tryz.prog 69 #[stockV C m, sv] w fun e w' => e = .returned (cloV 104 #[pV w.heap.size, pV (w.heap.size + 1)]) ∧ w' = (w.alloc (.cells (stockCs C m) 104)).alloc (.cells #[sv] 38) := by
  have hmf : ∀ (fn : Fn) (first cap : Array Value) (w : World), (Instr.makeFunc fn first cap).run Tryz.prog w = .ok (.func fn first cap) w := fun _ _ _ _ => rfl
  obtain ⟨g, n, cap, rfl⟩ := hs
  go_enter Tryz.func69, Tryz.ntmps69
  go_wp2
  go_ret
  exact ⟨rfl, rfl⟩
set_option maxHeartbeats 4000000 in
theorem free_in (n : Nat) (hn : 3 ≤ n) (C S : Nat) (m : Mp) (mm l : List Int) (k0 : Int) (w : World) (hm : m.ok) (hC : CellsAt w C S mm k0) (hc : Came m mm l) :
    CallsIn Fence.wide n Tryz.prog 38 #[cellsV C, mapV m] w fun e w' => ∃ v, e = .returned v ∧ RowN w' (fun b => w.heap.size ≤ b) v l ∧ Below w.heap.size w w' := by
  have h1 : 1 ≤ n := by omega
  have h1' : 1 ≤ n - 1 - 1 := by omega
  have hro : Fence.wide.round = none := rfl
  obtain ⟨i0, hi, hz0, hz1, hz2'⟩ := int_info
  have hfew := hC.few
  have hmm0 : mm ≠ [] := fun e => by have := hc.len; rw [e] at this; unfold sizeN at this; simp at this
  have HA := Lib.hid fun W (hW : Below w.heap.size w W) => allR_any C S mm k0 W (hC.keep (Keep.ofBelow (Q := fun _ => False) hW) (fun h => h) (fun h => h)) hmm0
  have HR := Lib.hid fun W => pright_yes m (mm.length : Int) W hm
  rw [show decide ((sizeN m : Int) ≤ (mm.length : Int)) = true by have := hc.len; simp; omega] at HR
  have HM := Lib.hid hm
  have HC := Lib.hid hc
  clear hC hm hc
  refine callsIn_of_wp_marks Tryz.func38 rfl trivial ?_ hro
  simp only [Tryz.ntmps38, List.size_toArray, List.length_cons, List.length_nil, Nat.reduceAdd, Nat.reduceSub, Array.replicate_succ, Array.replicate_zero, List.push_toArray, List.append_toArray, List.nil_append, List.cons_append]
  gi_wp2
  generalize hW : (w.alloc _) = W
  have bW : Below w.heap.size w W := by rw [← hW]; go_grown
  have m0 : Blk W w.heap.size 24 #[.int .i64 (m.t : Int), .int .i64 (m.o : Int), .int .i64 (m.n : Int)] := by rw [← hW]; exact Blk.new w _ _
  clear hW
  have HA2 := Lib.hid (HA.out W bW)
  clear HA
  gi_wp2_with (first
    | (refine ⟨trivial, ?_⟩; gi_at_call 13; refine (callsIn_wide.2 HA2.out).mono ?_; rintro e w2 ⟨g, cap, rfl, hg, hg1, hg2, hb2⟩; have m2 := m0.below hb2 m0.lt; have c0 := m2.cell 0 _ rfl; have c1 := m2.cell 1 _ rfl; have c2 := m2.cell 2 _ rfl)
    | (refine ⟨trivial, ?_⟩; gi_at_call 62; refine (callsIn_wide.2 (HR.out _)).mono ?_; rintro e w3 ⟨rfl, hb3⟩; clear c0 c1 c2; have m3 := m2.below hb3 m2.lt; have m4 := m3.alloc (.cells #[.slice none 0 0] 37); have c0 := m4.cell 0 _ rfl; have c1 := m4.cell 1 _ rfl; have c2 := m4.cell 2 _ rfl)
    | (refine ⟨trivial, ?_⟩; gi_at_call 69; refine (callsIn_wide.2 (pcont_any C m _ _ ⟨_, _, _, rfl⟩)).mono ?_; rintro e w5 ⟨rfl, rfl⟩))
  have sW := bW.size
  have s2 := hb2.size
  have s3 := hb3.size
  have bA : Below w.heap.size w w3 := (bW.trans (hb2.mono sW)).trans (hb3.mono (by omega))
  have aL : Blk (w3.alloc (.cells #[.slice none 0 0] 37)) w3.heap.size 37 #[.slice none 0 0] := Blk.new w3 37 #[.slice none 0 0]
  have g4 : RowC (w3.alloc (.cells #[.slice none 0 0] 37)) g mm := (hg.keep (F := fun _ => False) (Keep.ofBelow hb3) (fun h => h)).keep (F := fun _ => False) ((Keep.refl _ _).alloc (.cells #[.slice none 0 0] 37)) (fun h => h)
  have bB : Below w.heap.size w (w3.alloc (.cells #[.slice none 0 0] 37)) := bA.trans (((Below.refl _ w3).alloc (Nat.le_refl _) (.cells #[.slice none 0 0] 37)).mono bA.size)
  have s4 : (w3.alloc (.cells #[.slice none 0 0] 37)).heap.size = w3.heap.size + 1 := by rw [World.size_alloc]
  generalize w3.alloc (.cells #[.slice none 0 0] 37) = w4 at *
  rw [← s4]
  replace s4 : w3.heap.size < w4.heap.size := by omega
  generalize hV : ((w4.alloc _).alloc _) = V
  have bV : Below w4.heap.size w4 V := by rw [← hV]; go_grown
  have sV : V.heap.size = w4.heap.size + 2 := by rw [← hV]; simp
  have lV : Blk V w4.heap.size 104 (stockCs C m) := by rw [← hV]; exact (Blk.new w4 _ _).alloc _
  have rV : Blk V (w4.heap.size + 1) 38 #[.slice (some ⟨g, 0, none⟩) mm.length cap] := by rw [← hV]; exact blk_two w4 _ _ _
  clear hV
  have gV := g4.keep (F := fun _ => False) (Keep.ofBelow bV) (fun h => h)
  have aV := aL.below bV aL.lt
  have bwV : Below w.heap.size w V := bB.trans (bV.mono bB.size)
  have hgl : g < w3.heap.size := by omega
  have hww3 := bA.size
  have h3V : w3.heap.size < w4.heap.size := by omega
  have h4V : w4.heap.size + 1 < V.heap.size := by omega
  clear sV
  clear c0 c1 c2 m0 m2 m3 m4 g4 aL hg bW hb2 hb3 bA
  refine wpIn_range_ownZ hro h1 (gf := 104) (lb := #[pV w4.heap.size, pV (w4.heap.size + 1)]) rfl trivial (enters_of Tryz.func104 (by kernel_rfl) rfl)
    (encs := fun t : Int => #[.int .i64 t]) (xs := l) (Qb := fun i => i = w3.heap.size ∨ V.heap.size + 3 ≤ i) (Z := fun i => i = V.heap.size + 2) (fun i e => by omega) (fun i e => by omega)
    (pcont1_own (n - 1) (by omega) C m mm l g cap w4.heap.size (w4.heap.size + 1) _ V HM.out HC.out lV rV gV (by omega) (by omega) (by omega) (by omega)) (fun _ => rfl)
    (fun pre W => ∃ u, Blk W w3.heap.size 37 #[u] ∧ W.ownsRow (V.heap.size + 3) 3 1 u pre.length (pre.map (.int .i64)) ∧ Below w.heap.size w W)
    (fun s A A' ⟨u, i1, i2, i3⟩ hk => ⟨u, i1.keep hk (by omega), own_keepL i2 hk (fun g hg _ => by omega), i3.trans (hk.below i3.size (fun i hi h => by have := bwV.size; omega))⟩)
    ⟨_, aV, World.ownsRow_nil _ _ _ _, bwV⟩
    (fun x a' W => a' = { tmps := #[cellsV C, mapV m, undef, .pointer (some ⟨w.heap.size, 0, none⟩), .slice none 0 0, .slice (some ⟨g, 0, none⟩) mm.length cap, .pointer (some ⟨w3.heap.size, 0, none⟩), .int .i64 x, cellsV C, .slice (some ⟨g, 0, none⟩) mm.length cap, .slice (some ⟨g, 0, none⟩) mm.length cap, .int .i64 (mm.length : Int), mapV m, .bool true, .bool false, cellsV C, mapV m, stockV C m, .slice (some ⟨g, 0, none⟩) mm.length cap, cloV 104 #[pV w4.heap.size, pV (w4.heap.size + 1)], .int .i64 x, undef, undef, undef, undef, undef], defers := [] })
    (fun x a' A A' h _ => h)
    ?assign ?body ?done
  case assign =>
    rintro pre x W K hI hsz hK
    gi_wp2
    exact hK _ _ (Below.refl _ W) rfl
  case body =>
    rintro pre x a' W ⟨u, bA, hrow, hb⟩ rfl hsz hlen hz
    have hz2 := hz _ rfl
    have hpl : pre.length < 32767 := by
      have h1 := nodup_len0 HC.out.nodup HC.out.low
      have h2 := HM.out.n
      omega
    have cF := bA.cell 0 _ rfl
    have fF := bA.free 0
    have HCM := Lib.hid (show (pre ++ [x]).map (Value.int .i64) = pre.map (Value.int .i64) ++ [.int .i64 x] by simp)
    have hsl : ∃ ua ul uc, u = .slice ua ul uc := by
      rcases hrow.2 with ⟨rfl, _⟩ | ⟨g, cap, cur, rfl, _⟩
      · exact ⟨_, _, _, rfl⟩
      · exact ⟨_, _, _, rfl⟩
    obtain ⟨ua, ul, uc, rfl⟩ := hsl
    have hgb : ∀ g', (Value.slice ua ul uc).ownBlock = some g' → V.heap.size + 3 ≤ g' := fun g' hg' => by
      rcases hrow.2 with ⟨e, _⟩ | ⟨g2, cap2, cur, e, h2, _⟩
      · rw [e] at hg'; cases hg'
      · rw [e] at hg'
        obtain rfl : g2 = g' := by simpa [Value.ownBlock] using hg'
        exact h2
    have hsb := hb.size
    gi_wp2_with (gi_at_builtin; refine wpListIn_append_own _ rfl _ _ 37 rfl (V.heap.size + 3) 3 i0 (.int .i64 0) 1 8 Tryz.underlying37 hi hz0 hz1 hz2' rfl (by decide) _ _ _ rfl (own_keepL hrow ((Keep.refl (fun _ => False) W).alloc _) (fun _ _ _ h => h)) ⟨W.heap.size, 0, none⟩ 1 1 [.int .i64 x] rfl rfl (cell_one_new _ _ _) (by simp [Value.oneCell']) (by unfold maxLen; omega) (by omega) (by rw [World.size_alloc]; omega) ?_; intro v' w6 hown' hgrow _; obtain ⟨g', cap', rfl⟩ := ownsRow_succ hown'; have k6 : Keep (fun b => V.heap.size + 3 ≤ b) W w6 := ⟨hgrow.os, hgrow.tape, hgrow.output, Nat.le_trans (by rw [World.size_alloc]; omega) hgrow.size, fun k hk hn => (hgrow.block k (by rw [World.size_alloc]; omega) (fun e => hn (hgb k e.symm))).trans (Below.heap_alloc W _ k hk)⟩; have bA6 := bA.keep k6 (by omega); have c9 := bA6.cell 0 _ rfl; have f9 := bA6.free 0)
    refine ⟨⟨_, bA6.set 0 _, ?_, ?_⟩, ?_⟩
    · have hkk := own_keepL hown' ((Keep.refl (fun b => b = w3.heap.size) w6).set (p := ⟨w3.heap.size, 0, none⟩) (fun _ => rfl) (.slice (some ⟨g', 0, none⟩) (pre.length + 1) cap')) (fun g hg _ => by omega)
      first
        | exact hkk
        | (rw [← HCM.out] at hkk; exact hkk)
        | simpa using hkk
    · exact (hb.trans (k6.below hsb (fun i hi h => by have := bwV.size; omega))).setCell (p := ⟨w3.heap.size, 0, none⟩) (by omega) _
    · exact (k6.mono (fun _ _ h => .inr h)).set (p := ⟨w3.heap.size, 0, none⟩) (fun _ => .inl rfl) _
  case done =>
    rintro W ⟨u, bA, hrow, hb⟩ hsz hK
    have cF := bA.cell 0 _ rfl
    obtain ⟨ua, ul, uc, rfl⟩ : ∃ ua ul uc, u = .slice ua ul uc := by
      rcases hrow.2 with ⟨rfl, _⟩ | ⟨g, cap, cur, rfl, _⟩
      · exact ⟨_, _, _, rfl⟩
      · exact ⟨_, _, _, rfl⟩
    gi_wp2
    refine ⟨by simp, .inl ⟨_, _, rfl, run_takeDeferred hK, ?_⟩⟩
    have k1 := keep_put (W := W) (l := V.heap.size) (.deferred none)
    have hr2 := own_keepL hrow k1 (fun g hg _ => by omega)
    have hsb := hb.size
    refine ⟨_, results_tmp rfl _ _ _, _, rfl, ?_, hb.trans (k1.below hsb (fun i _ e => by have := bwV.size; omega))⟩
    rcases id hr2.2 with ⟨e, h0⟩ | ⟨g', cap', cur, e, h1, h2, h3, _⟩
    · rw [e]
      have hl0 : l = [] := List.length_eq_zero_iff.1 h0
      subst hl0
      exact ⟨none, 0, rfl, by simp, fun i x hx => by simp at hx⟩
    · rw [e] at hr2 ⊢
      refine ⟨some ⟨g', 0, none⟩, cap', rfl, h3, fun i x hx => ⟨g', 0, rfl, by have := bwV.size; omega, (Array.getElem?_eq_some_iff.1 h2).1, ?_⟩⟩
      have := hr2.cells (g := g') rfl i (.int .i64 x) (by rw [List.getElem?_map, hx]; rfl)
      rwa [addr_add] at this
theorem free_any (C S : Nat) (m : Mp) (mm l : List Int) (k0 : Int) (w : World) (hm : m.ok) (hC : CellsAt w C S mm k0) (hc : Came m mm l) :
    Calls Tryz.prog 38 #[cellsV C, mapV m] w fun e w' => ∃ v, e = .returned v ∧ RowN w' (fun b => w.heap.size ≤ b) v l ∧ Below w.heap.size w w' :=
  callsIn_wide.1 (free_in 3 (Nat.le_refl _) C S m mm l k0 w hm hC hc)
end Go.Proofs.YtpejmkoheodblaaGreat
