/- Contracts of package word: the numbers that a word holds. -/
import Derived.Test.YtbaehokffdpopaaGreatWordC
namespace Go.Proofs.YtbaehokffdpopaaGreat
open Go.ChangeShapes Go.WideShapes Go.ChangeAt Go.RowKit
set_option linter.unusedVariables false
set_option linter.unusedSimpArgs false
open Wd
/-- what there is at k: a part, and what it has in x -/
def AtH (A : Array Value) (h : Nat → Int) (x k : Nat) : Prop := ∃ p, Good p ∧
  (∀ W, (Instr.index 215 (.agg A) (.int .i64 k)).run Tryz.prog W = .ok (prtV p) W) ∧ h k = had p x
def six (n0 n1 n2 n3 n4 n5 : Int) (k : Nat) : Int := match k with
  | 0 => n0
  | 1 => n1
  | 2 => n2
  | 3 => n3
  | 4 => n4
  | _ => n5
theorem ath_all (p0 p1 p2 p3 p4 p5 : Prt) (x : Nat) (g0 : Good p0) (g1 : Good p1) (g2 : Good p2) (g3 : Good p3) (g4 : Good p4) (g5 : Good p5) :
    ∀ k, k < 6 → AtH (partsArr p0 p1 p2 p3 p4 p5) (six (had p0 x) (had p1 x) (had p2 x) (had p3 x) (had p4 x) (had p5 x)) x k := by
  intro k hk
  match k, hk with
  | 0, _ => exact ⟨p0, g0, fun W => by kernel_rfl, rfl⟩
  | 1, _ => exact ⟨p1, g1, fun W => by kernel_rfl, rfl⟩
  | 2, _ => exact ⟨p2, g2, fun W => by kernel_rfl, rfl⟩
  | 3, _ => exact ⟨p3, g3, fun W => by kernel_rfl, rfl⟩
  | 4, _ => exact ⟨p4, g4, fun W => by kernel_rfl, rfl⟩
  | 5, _ => exact ⟨p5, g5, fun W => by kernel_rfl, rfl⟩
/-- the first k numbers are found -/
def fill (h : Nat → Int) (k : Nat) : Array Value := #[.int .i64 (if 0 < k then h 0 else 0), .int .i64 (if 1 < k then h 1 else 0), .int .i64 (if 2 < k then h 2 else 0), .int .i64 (if 3 < k then h 3 else 0), .int .i64 (if 4 < k then h 4 else 0), .int .i64 (if 5 < k then h 5 else 0)]
theorem fill_set (h : Nat → Int) (k : Nat) (hk : k < 6) : (fill h k).setIfInBounds k (.int .i64 (h k)) = fill h (k + 1) := by
  match k, hk with
  | 0, _ => rfl
  | 1, _ => rfl
  | 2, _ => rfl
  | 3, _ => rfl
  | 4, _ => rfl
  | 5, _ => rfl
theorem fill_at (h : Nat → Int) (k : Nat) (hk : k < 6) : (fill h k)[k]? = some (.int .i64 0) := by
  match k, hk with
  | 0, _ => rfl
  | 1, _ => rfl
  | 2, _ => rfl
  | 3, _ => rfl
  | 4, _ => rfl
  | 5, _ => rfl
theorem nums_size : (Tryz.prog.info? 217).map (·.size) = some 6 := by kernel_rfl
theorem had_conv (p : Prt) (x : Nat) (hk : p.k ≤ 24) : IntKind.i64.wrap (BitNat.get p.a p.k x : Nat) = (BitNat.get p.a p.k x : Nat) := by
  have h1 := BitNat.get_lt p.a p.k x
  have h2 : 2^p.k ≤ 2^24 := Nat.pow_le_pow_right (by decide) hk
  rw [IntKind.wrap_i64]; omega
set_option maxRecDepth 100000 in
set_option maxHeartbeats 4000000 in
theorem numbersIn_any (x : Nat) (p0 p1 p2 p3 p4 p5 : Prt) (w : World) (hx : x < 18446744073709551616) (g0 : Good p0) (g1 : Good p1) (g2 : Good p2) (g3 : Good p3) (g4 : Good p4) (g5 : Good p5) :
    Calls Tryz.prog 185 #[.int .u64 x, prtsV p0 p1 p2 p3 p4 p5] w fun e w' => e = .returned (numsV (had p0 x) (had p1 x) (had p2 x) (had p3 x) (had p4 x) (had p5 x)) ∧ Below w.heap.size w w' := by
  have HK := Lib.hid (ath_all p0 p1 p2 p3 p4 p5 x g0 g1 g2 g3 g4 g5)
  have hlast : numsV (had p0 x) (had p1 x) (had p2 x) (had p3 x) (had p4 x) (had p5 x) = .agg (fill (six (had p0 x) (had p1 x) (had p2 x) (had p3 x) (had p4 x) (had p5 x)) 6) := rfl
  rw [hlast]
  generalize six (had p0 x) (had p1 x) (had p2 x) (had p3 x) (had p4 x) (had p5 x) = h at *
  clear hlast
  go_enter Tryz.func185, Tryz.ntmps185
  go_upto_region 2 with fail
  generalize hW : ((w.alloc _).alloc _).alloc _ = W
  have hP : Blk W w.heap.size 215 (partsArr p0 p1 p2 p3 p4 p5) := by rw [← hW]; exact ((Blk.new w _ _).alloc _).alloc _
  have hR : Blk W (w.heap.size + 1) 217 (fill h 0) := by
    rw [← hW]
    have := (Blk.new (w.alloc (.cells (partsArr p0 p1 p2 p3 p4 p5) 215)) 217 (fill h 0)).alloc (.cells (fill h 0) 217)
    rw [World.size_alloc] at this
    exact this
  have hF : Blk W (w.heap.size + 1 + 1) 217 (fill h 0) := by
    rw [← hW]
    have := Blk.new ((w.alloc (.cells (partsArr p0 p1 p2 p3 p4 p5) 215)).alloc (.cells (fill h 0) 217)) 217 (fill h 0)
    rw [World.size_alloc, World.size_alloc] at this
    exact this
  have B0 : Below w.heap.size w W := by rw [← hW]; go_grown
  have hs : (partsArr p0 p1 p2 p3 p4 p5).size = 18 := rfl
  clear hW
  generalize partsArr p0 p1 p2 p3 p4 p5 = A at *
  go_wp2_with (first
        | (refine wpList_load_row rfl 215 _ rfl w.heap.size rfl 215 _ (0, 0) _ hP Tryz.underlying215 rfl (by rw [hs]; exact parts_size) ?_))
  clear hP hs
  go_loopw [9] (fun i wr => ∃ k : Nat, k ≤ 6 ∧ i = .int .i64 k ∧ Below w.heap.size w wr ∧ Blk wr (w.heap.size + 1) 217 (fill h 0) ∧ Blk wr (w.heap.size + 1 + 1) 217 (fill h k))
    (fun i wr => 6 - (intOf i).toNat)
  case atStart => exact ⟨0, by omega, rfl, B0, hR, hF⟩
  case round =>
    obtain ⟨k, hk, rfl, hB, hR, hF⟩ := hrel
    by_cases hlt : k < 6
    · obtain ⟨⟨a, b, f, lo, hi⟩, ⟨gf, g0, g1, g2, g3, g4⟩, hx2, hh⟩ := HK.out k hlt
      dsimp only [prtV] at gf g0 g1 g2 g3 g4 hx2
      generalize fnOf f = F at *
      have HH := Lib.hid hh
      have HS := Lib.hid (fill_set h k hlt)
      have HC := Lib.hid (had_conv ⟨a, b, f, lo, hi⟩ x g4)
      have HA := Lib.hid (fill_at h k hlt)
      clear gf hh
      go_upto_region 5 with fail
      generalize hV : wr.alloc _ = V
      have bV : Blk V wr.heap.size 214 #[.int .i64 a, .int .i64 b, .func (.func F) #[] #[]] := by rw [← hV]; exact Blk.new wr _ _
      have rV : Blk V (w.heap.size + 1) 217 (fill h 0) := by rw [← hV]; exact hR.alloc _
      have fV : Blk V (w.heap.size + 1 + 1) 217 (fill h k) := by rw [← hV]; exact hF.alloc _
      have BV : Below w.heap.size w V := by rw [← hV]; exact hB.alloc hB.size _
      clear hV
      have v0 := bV.cell 0 _ rfl
      have v1 := bV.cell 1 _ rfl
      by_cases hb0 : b = 0
      · obtain rfl := hb0
        obtain rfl := g0 rfl
        have HX : Hid (h k = 0) := Lib.hid (by rw [HH.out]; rfl)
        go_wp2_with (go_at_call 226; (with_reducible refine (of_no 0 0 x _ (by omega) (by omega) (by omega) (by omega)).mono ?_); rintro e w1 ⟨rfl, hb⟩; have f1 := fV.below hb fV.lt; have r1 := rV.below hb rV.lt; have B1 := BV.trans (hb.mono BV.size); have vk := f1.cell k _ HA.out; have vf := f1.free)
        go_roundw
        case rel => exact ⟨k + 1, by omega, by go_num, B1.setCell (p := ⟨w.heap.size + 1 + 1, k, none⟩) (by show _ ≤ w.heap.size + 1 + 1; omega) _, r1.far (by omega) _ _, by have := f1.set k (.int .i64 (h k)); rw [HS.out, HX.out] at this; exact this⟩
        case measure => simp [intOf]; omega
      · have HX : Hid (h k = (BitNat.get a b x : Nat)) := Lib.hid (by rw [HH.out]; exact if_neg hb0)
        have hcv : IntKind.i64.wrap (BitNat.get a b x : Nat) = (BitNat.get a b x : Nat) := HC.out
        go_wp2_with (go_at_call 226; (with_reducible refine (of_yes a b x _ (by omega) g1 hx).mono ?_); rintro e w1 ⟨rfl, hb⟩; have f1 := fV.below hb fV.lt; have r1 := rV.below hb rV.lt; have B1 := BV.trans (hb.mono BV.size); have vk := f1.cell k _ HA.out; have vf := f1.free)
        go_roundw
        case rel => exact ⟨k + 1, by omega, by go_num, B1.setCell (p := ⟨w.heap.size + 1 + 1, k, none⟩) (by show _ ≤ w.heap.size + 1 + 1; omega) _, r1.far (by omega) _ _, by have := f1.set k (.int .i64 (h k)); rw [HS.out, HX.out] at this; exact this⟩
        case measure => simp [intOf]; omega
    · obtain rfl : k = 6 := by omega
      have hs := Lib.hid (show (Tryz.prog.info? 217).map (·.size) = some (fill h 6).size from nums_size)
      have ho := Lib.hid (show (fill h 6).all (·.oneCell') = true by simp [fill, Value.oneCell'])
      go_wp2_with (first
        | (refine wpList_load_row rfl 217 _ rfl (w.heap.size + 1 + 1) rfl 217 (fill h 6) (0, 0) _ hF Tryz.underlying217 rfl hs.out ?_)
        | (refine wpList_store_row rfl 217 _ _ rfl (w.heap.size + 1) (fill h 6) rfl rfl 217 (fill h 0) hR hs.out rfl ho.out ?_))
      exact bodyPost_ret (v := .agg (fill h 6)) (results_cell_row rfl _ _ (w.heap.size + 1) 217 _ (0, 0) _ rfl (hR.row _) Tryz.underlying217 rfl hs.out) rfl ⟨rfl, below_setRow hB (by omega) _⟩
end Go.Proofs.YtbaehokffdpopaaGreat
