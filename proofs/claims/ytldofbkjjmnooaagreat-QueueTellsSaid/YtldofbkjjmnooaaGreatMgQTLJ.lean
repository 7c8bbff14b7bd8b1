/- Package queue: which arguments are right. Written by tools/gen_quright.py. -/
import Derived.Test.YtldofbkjjmnooaaGreatMgQTLH
import Derived.Test.YtldofbkjjmnooaaGreatMgQTLA
import Derived.Test.YtldofbkjjmnooaaGreatMgQTLI
import Derived.Test.YtldofbkjjmnooaaGreatMgQTLB
import Derived.Test.YtldofbkjjmnooaaGreatMgQTLG
import Derived.RangeFuncNested
import Derived.RangeFuncBound
import Derived.RangeFuncCalls
import Derived.RangeFuncLeaves
import Derived.Shelf.Abstract
import Derived.Shelf.RegionOpen
import Derived.OwnWalkIn
import Derived.TacticsInMore
import Derived.LoopNIn
import Derived.LoopIn
import Derived.Maps.AppendAt
namespace Go.Proofs.YtldofbkjjmnooaaGreat
open Go.ChangeShapes Go.WideShapes Go.ChangeAt Go.RowKit
set_option linter.unusedVariables false
set_option maxRecDepth 100000
set_option linter.unusedSimpArgs false
/-- are a map, cells, and a place right? -/
def fitS (m : Mp) (n a : Int) : Bool := decide ((sizeN m : Int) ≤ n) && decide (0 ≤ a) && decide (a < n - 1)
theorem right_ok {m : Mp} (h : m.ok) : rightS m.t m.o m.n = true := by
  have h1 := h.t
  have h2 := h.o
  have h3 := h.n
  simp [rightS]
  omega
theorem right_mp {t o k : Int} (h : rightS t o k = true) : ∃ m : Mp, m.ok ∧ t = m.t ∧ o = m.o ∧ k = m.n := by
  simp [rightS] at h
  exact ⟨⟨t.toNat, o.toNat, k.toNat⟩, ⟨by simp; omega, by simp; omega, by simp; omega⟩, by simp; omega, by simp; omega, by simp; omega⟩
theorem qright_none_wrong (t o k n a : Int) (w : World) (h : rightS t o k = false) : Calls Tryz.prog 100 #[.int .i64 n, .agg #[.int .i64 t, .int .i64 o, .int .i64 k], .int .i64 a, .slice none 0 0] w fun e w' => e = .returned (.bool false) ∧ Below w.heap.size w w' := by
  have HR := Lib.hid fun W => right_any t o k W
  rw [h] at HR
  clear h
  go_enter Tryz.func100, Tryz.ntmps100
  go_upto_region 2 with fail
  generalize hW : (w.alloc _) = W
  have bW : Below w.heap.size w W := by rw [← hW]; go_grown
  have q0 : Blk W w.heap.size 24 #[.int .i64 t, .int .i64 o, .int .i64 k] := by rw [← hW]; exact Blk.new w _ _
  clear hW
  have c0 : W.cell? ⟨w.heap.size, 0, none⟩ = some (.int .i64 t) := q0.cell 0 _ rfl
  have c1 : W.cell? ⟨w.heap.size, 1, none⟩ = some (.int .i64 o) := q0.cell 1 _ rfl
  have c2 : W.cell? ⟨w.heap.size, 2, none⟩ = some (.int .i64 k) := q0.cell 2 _ rfl
  clear q0
  go_loopw [13] (fun v wr => v = .int .i64 0 ∧ wr = W) (fun v _ => 0)
  case atStart => exact ⟨rfl, rfl⟩
  case round =>
    obtain ⟨rfl, rfl⟩ := hrel
    go_wp2_with (go_at_call 52; refine (HR.out _).mono ?_; rintro e w2 ⟨rfl, b2⟩)
    go_ret
    exact ⟨rfl, bW.trans (b2.mono bW.size)⟩
theorem qright_one_wrong (t o k n a u : Int) (B : Nat) (w : World) (h : rightS t o k = false) (hB : B < w.heap.size) (hu : w.cell? ⟨B, 0, none⟩ = some (.int .i64 u)) : Calls Tryz.prog 100 #[.int .i64 n, .agg #[.int .i64 t, .int .i64 o, .int .i64 k], .int .i64 a, .slice (some ⟨B, 0, none⟩) 1 1] w fun e w' => e = .returned (.bool false) ∧ Below w.heap.size w w' := by
  have HR := Lib.hid fun W => right_any t o k W
  rw [h] at HR
  clear h
  by_cases hin : 0 ≤ u ∧ u < t
  · go_enter Tryz.func100, Tryz.ntmps100
    go_upto_region 2 with fail
    generalize hW : (w.alloc _) = W
    have bW : Below w.heap.size w W := by rw [← hW]; go_grown
    have q0 : Blk W w.heap.size 24 #[.int .i64 t, .int .i64 o, .int .i64 k] := by rw [← hW]; exact Blk.new w _ _
    have d0 : W.cell? ⟨B, 0, none⟩ = some (.int .i64 u) := (bW.cell (p := ⟨B, 0, none⟩) hB).trans hu
    have hix := idx_qints 1 1 B 0 0 (by omega)
    clear hW
    have c0 : W.cell? ⟨w.heap.size, 0, none⟩ = some (.int .i64 t) := q0.cell 0 _ rfl
    have c1 : W.cell? ⟨w.heap.size, 1, none⟩ = some (.int .i64 o) := q0.cell 1 _ rfl
    have c2 : W.cell? ⟨w.heap.size, 2, none⟩ = some (.int .i64 k) := q0.cell 2 _ rfl
    clear q0
    go_loopw [13] (fun v wr => ∃ i : Nat, i ≤ 1 ∧ v = .int .i64 (i : Int) ∧ wr = W) (fun v _ => 1 - (intOf v).toNat)
    case atStart => exact ⟨0, by omega, rfl, rfl⟩
    case round =>
      obtain ⟨i, hi, rfl, rfl⟩ := hrel
      by_cases hi0 : i = 0
      · subst hi0
        have x1 : ¬ u < 0 := by omega
        have x2 : ¬ t ≤ u := by omega
        have x3 : u < t := by omega
        go_wp2_with fail
        go_roundw
        case rel => exact ⟨1, by omega, by go_num, by trivial⟩
        case measure => simp [intOf]
      · obtain rfl : i = 1 := by omega
        clear hix d0
        go_wp2_with (go_at_call 52; refine (HR.out _).mono ?_; rintro e w2 ⟨rfl, b2⟩)
        go_ret
        exact ⟨rfl, bW.trans (b2.mono bW.size)⟩
  · go_enter Tryz.func100, Tryz.ntmps100
    go_upto_region 2 with fail
    generalize hW : (w.alloc _) = W
    have bW : Below w.heap.size w W := by rw [← hW]; go_grown
    have q0 : Blk W w.heap.size 24 #[.int .i64 t, .int .i64 o, .int .i64 k] := by rw [← hW]; exact Blk.new w _ _
    have d0 : W.cell? ⟨B, 0, none⟩ = some (.int .i64 u) := (bW.cell (p := ⟨B, 0, none⟩) hB).trans hu
    have hix := idx_qints 1 1 B 0 0 (by omega)
    clear hW
    have c0 : W.cell? ⟨w.heap.size, 0, none⟩ = some (.int .i64 t) := q0.cell 0 _ rfl
    have c1 : W.cell? ⟨w.heap.size, 1, none⟩ = some (.int .i64 o) := q0.cell 1 _ rfl
    have c2 : W.cell? ⟨w.heap.size, 2, none⟩ = some (.int .i64 k) := q0.cell 2 _ rfl
    clear q0
    go_loopw [13] (fun v wr => v = .int .i64 0 ∧ wr = W) (fun v _ => 0)
    case atStart => exact ⟨rfl, rfl⟩
    case round =>
      obtain ⟨rfl, rfl⟩ := hrel
      by_cases x1 : u < 0
      · go_wp2_with fail
        go_ret
        exact ⟨rfl, bW⟩
      · have x2 : t ≤ u := by omega
        go_wp2_with fail
        go_ret
        exact ⟨rfl, bW⟩
theorem qright_one_out (t o k n a u : Int) (B : Nat) (w : World) (hin : ¬ (0 ≤ u ∧ u < t)) (hB : B < w.heap.size) (hu : w.cell? ⟨B, 0, none⟩ = some (.int .i64 u)) : Calls Tryz.prog 100 #[.int .i64 n, .agg #[.int .i64 t, .int .i64 o, .int .i64 k], .int .i64 a, .slice (some ⟨B, 0, none⟩) 1 1] w fun e w' => e = .returned (.bool false) ∧ Below w.heap.size w w' := by
  go_enter Tryz.func100, Tryz.ntmps100
  go_upto_region 2 with fail
  generalize hW : (w.alloc _) = W
  have bW : Below w.heap.size w W := by rw [← hW]; go_grown
  have q0 : Blk W w.heap.size 24 #[.int .i64 t, .int .i64 o, .int .i64 k] := by rw [← hW]; exact Blk.new w _ _
  have d0 : W.cell? ⟨B, 0, none⟩ = some (.int .i64 u) := (bW.cell (p := ⟨B, 0, none⟩) hB).trans hu
  have hix := idx_qints 1 1 B 0 0 (by omega)
  clear hW
  have c0 : W.cell? ⟨w.heap.size, 0, none⟩ = some (.int .i64 t) := q0.cell 0 _ rfl
  have c1 : W.cell? ⟨w.heap.size, 1, none⟩ = some (.int .i64 o) := q0.cell 1 _ rfl
  have c2 : W.cell? ⟨w.heap.size, 2, none⟩ = some (.int .i64 k) := q0.cell 2 _ rfl
  clear q0
  go_loopw [13] (fun v wr => v = .int .i64 0 ∧ wr = W) (fun v _ => 0)
  case atStart => exact ⟨rfl, rfl⟩
  case round =>
    obtain ⟨rfl, rfl⟩ := hrel
    by_cases x1 : u < 0
    · go_wp2_with fail
      go_ret
      exact ⟨rfl, bW⟩
    · have x2 : t ≤ u := by omega
      go_wp2_with fail
      go_ret
      exact ⟨rfl, bW⟩
set_option maxHeartbeats 1000000 in
theorem qright_none (m : Mp) (n a : Int) (w : World) (hm : m.ok) (hn : 0 ≤ n ∧ n ≤ 100000000) : Calls Tryz.prog 100 #[.int .i64 n, mapV m, .int .i64 a, .slice none 0 0] w fun e w' => e = .returned (.bool (fitS m n a)) ∧ Below w.heap.size w w' := by
  obtain ⟨t, ht⟩ : ∃ t, t = (m.t : Int) := ⟨_, rfl⟩
  obtain ⟨o, ho⟩ : ∃ t, t = (m.o : Int) := ⟨_, rfl⟩
  obtain ⟨k, hk⟩ : ∃ t, t = (m.n : Int) := ⟨_, rfl⟩
  have HR := Lib.hid fun W => right_any m.t m.o m.n W
  rw [right_ok hm] at HR
  have HS := Lib.hid fun W => size_any m W hm
  unfold mapV at HS
  rw [← ht, ← ho, ← hk] at HR HS
  unfold mapV
  rw [← ht, ← ho, ← hk]
  clear hm ht ho hk
  obtain ⟨bb, hbb⟩ : ∃ bb, bb = fitS m n a := ⟨_, rfl⟩
  have HB := Lib.hid hbb
  rw [← hbb]
  clear hbb
  go_enter Tryz.func100, Tryz.ntmps100
  go_upto_region 2 with fail
  generalize hW : (w.alloc _) = W
  have bW : Below w.heap.size w W := by rw [← hW]; go_grown
  have q0 : Blk W w.heap.size 24 #[.int .i64 t, .int .i64 o, .int .i64 k] := by rw [← hW]; exact Blk.new w _ _
  clear hW
  have c0 : W.cell? ⟨w.heap.size, 0, none⟩ = some (.int .i64 t) := q0.cell 0 _ rfl
  have c1 : W.cell? ⟨w.heap.size, 1, none⟩ = some (.int .i64 o) := q0.cell 1 _ rfl
  have c2 : W.cell? ⟨w.heap.size, 2, none⟩ = some (.int .i64 k) := q0.cell 2 _ rfl
  clear q0
  go_loopw [13] (fun v wr => v = .int .i64 0 ∧ wr = W) (fun v _ => 0)
  case atStart => exact ⟨rfl, rfl⟩
  case round =>
    obtain ⟨rfl, rfl⟩ := hrel
    have hl0 : w.heap.size < wr.heap.size := cell_lt6 c0
    have HC := Lib.hid (And.intro c0 (And.intro c1 c2))
    by_cases h1 : (sizeN m : Int) ≤ n
    · by_cases h2 : 0 ≤ a
      · by_cases h3 : a < n - 1
        · obtain rfl : bb = true := HB.out.trans (by simp [fitS, h1, h2, h3])
          clear HB
          generalize ((sizeN m : Nat) : Int) = sz at *
          go_wp2_with (first | (go_at_call 52; refine (HR.out _).mono ?_; rintro e w2 ⟨rfl, b2⟩; clear c0 c1 c2; have c0 := (b2.cell (p := ⟨w.heap.size, 0, none⟩) hl0).trans HC.out.1; have c1 := (b2.cell (p := ⟨w.heap.size, 1, none⟩) hl0).trans HC.out.2.1; have c2 := (b2.cell (p := ⟨w.heap.size, 2, none⟩) hl0).trans HC.out.2.2) | (go_at_call 14; refine (HS.out _).mono ?_; rintro e w3 ⟨rfl, b3⟩))
          go_ret
          exact ⟨rfl, (bW.trans (b2.mono bW.size)).trans (b3.mono (by have := bW.size; have := b2.size; omega))⟩
        · obtain rfl : bb = false := HB.out.trans (by simp [fitS, h1, h2, h3])
          clear HB
          generalize ((sizeN m : Nat) : Int) = sz at *
          go_wp2_with (first | (go_at_call 52; refine (HR.out _).mono ?_; rintro e w2 ⟨rfl, b2⟩; clear c0 c1 c2; have c0 := (b2.cell (p := ⟨w.heap.size, 0, none⟩) hl0).trans HC.out.1; have c1 := (b2.cell (p := ⟨w.heap.size, 1, none⟩) hl0).trans HC.out.2.1; have c2 := (b2.cell (p := ⟨w.heap.size, 2, none⟩) hl0).trans HC.out.2.2) | (go_at_call 14; refine (HS.out _).mono ?_; rintro e w3 ⟨rfl, b3⟩))
          go_ret
          exact ⟨by first | rfl | simp [h3], (bW.trans (b2.mono bW.size)).trans (b3.mono (by have := bW.size; have := b2.size; omega))⟩
      · obtain rfl : bb = false := HB.out.trans (by simp [fitS, h1, h2])
        clear HB
        generalize ((sizeN m : Nat) : Int) = sz at *
        go_wp2_with (first | (go_at_call 52; refine (HR.out _).mono ?_; rintro e w2 ⟨rfl, b2⟩; clear c0 c1 c2; have c0 := (b2.cell (p := ⟨w.heap.size, 0, none⟩) hl0).trans HC.out.1; have c1 := (b2.cell (p := ⟨w.heap.size, 1, none⟩) hl0).trans HC.out.2.1; have c2 := (b2.cell (p := ⟨w.heap.size, 2, none⟩) hl0).trans HC.out.2.2) | (go_at_call 14; refine (HS.out _).mono ?_; rintro e w3 ⟨rfl, b3⟩))
        go_ret
        exact ⟨rfl, (bW.trans (b2.mono bW.size)).trans (b3.mono (by have := bW.size; have := b2.size; omega))⟩
    · obtain rfl : bb = false := HB.out.trans (by simp [fitS, h1])
      clear HB
      generalize ((sizeN m : Nat) : Int) = sz at *
      go_wp2_with (first | (go_at_call 52; refine (HR.out _).mono ?_; rintro e w2 ⟨rfl, b2⟩; clear c0 c1 c2; have c0 := (b2.cell (p := ⟨w.heap.size, 0, none⟩) hl0).trans HC.out.1; have c1 := (b2.cell (p := ⟨w.heap.size, 1, none⟩) hl0).trans HC.out.2.1; have c2 := (b2.cell (p := ⟨w.heap.size, 2, none⟩) hl0).trans HC.out.2.2) | (go_at_call 14; refine (HS.out _).mono ?_; rintro e w3 ⟨rfl, b3⟩))
      go_ret
      exact ⟨rfl, (bW.trans (b2.mono bW.size)).trans (b3.mono (by have := bW.size; have := b2.size; omega))⟩
set_option maxHeartbeats 1000000 in
theorem qright_one (m : Mp) (n a u : Int) (B : Nat) (w : World) (hm : m.ok) (hn : 0 ≤ n ∧ n ≤ 100000000) (hin : 0 ≤ u ∧ u < m.t) (hB : B < w.heap.size) (hu : w.cell? ⟨B, 0, none⟩ = some (.int .i64 u)) : Calls Tryz.prog 100 #[.int .i64 n, mapV m, .int .i64 a, .slice (some ⟨B, 0, none⟩) 1 1] w fun e w' => e = .returned (.bool (fitS m n a)) ∧ Below w.heap.size w w' := by
  obtain ⟨t, ht⟩ : ∃ t, t = (m.t : Int) := ⟨_, rfl⟩
  obtain ⟨o, ho⟩ : ∃ t, t = (m.o : Int) := ⟨_, rfl⟩
  obtain ⟨k, hk⟩ : ∃ t, t = (m.n : Int) := ⟨_, rfl⟩
  have HR := Lib.hid fun W => right_any m.t m.o m.n W
  rw [right_ok hm] at HR
  have HS := Lib.hid fun W => size_any m W hm
  unfold mapV at HS
  rw [← ht, ← ho, ← hk] at HR HS
  unfold mapV
  rw [← ht, ← ho, ← hk]
  rw [← ht] at hin
  clear hm ht ho hk
  obtain ⟨bb, hbb⟩ : ∃ bb, bb = fitS m n a := ⟨_, rfl⟩
  have HB := Lib.hid hbb
  rw [← hbb]
  clear hbb
  go_enter Tryz.func100, Tryz.ntmps100
  go_upto_region 2 with fail
  generalize hW : (w.alloc _) = W
  have bW : Below w.heap.size w W := by rw [← hW]; go_grown
  have q0 : Blk W w.heap.size 24 #[.int .i64 t, .int .i64 o, .int .i64 k] := by rw [← hW]; exact Blk.new w _ _
  have d0 : W.cell? ⟨B, 0, none⟩ = some (.int .i64 u) := (bW.cell (p := ⟨B, 0, none⟩) hB).trans hu
  have hix := idx_qints 1 1 B 0 0 (by omega)
  clear hW
  have c0 : W.cell? ⟨w.heap.size, 0, none⟩ = some (.int .i64 t) := q0.cell 0 _ rfl
  have c1 : W.cell? ⟨w.heap.size, 1, none⟩ = some (.int .i64 o) := q0.cell 1 _ rfl
  have c2 : W.cell? ⟨w.heap.size, 2, none⟩ = some (.int .i64 k) := q0.cell 2 _ rfl
  clear q0
  go_loopw [13] (fun v wr => ∃ i : Nat, i ≤ 1 ∧ v = .int .i64 (i : Int) ∧ wr = W) (fun v _ => 1 - (intOf v).toNat)
  case atStart => exact ⟨0, by omega, rfl, rfl⟩
  case round =>
    obtain ⟨i, hi, rfl, rfl⟩ := hrel
    by_cases hi0 : i = 0
    · subst hi0
      have x1 : ¬ u < 0 := by omega
      have x2 : ¬ t ≤ u := by omega
      have x3 : u < t := by omega
      go_wp2_with fail
      go_roundw
      case rel => exact ⟨1, by omega, by go_num, by trivial⟩
      case measure => simp [intOf]
    · obtain rfl : i = 1 := by omega
      clear hix d0
      have hl0 : w.heap.size < wr.heap.size := cell_lt6 c0
      have HC := Lib.hid (And.intro c0 (And.intro c1 c2))
      by_cases h1 : (sizeN m : Int) ≤ n
      · by_cases h2 : 0 ≤ a
        · by_cases h3 : a < n - 1
          · obtain rfl : bb = true := HB.out.trans (by simp [fitS, h1, h2, h3])
            clear HB
            generalize ((sizeN m : Nat) : Int) = sz at *
            go_wp2_with (first | (go_at_call 52; refine (HR.out _).mono ?_; rintro e w2 ⟨rfl, b2⟩; clear c0 c1 c2; have c0 := (b2.cell (p := ⟨w.heap.size, 0, none⟩) hl0).trans HC.out.1; have c1 := (b2.cell (p := ⟨w.heap.size, 1, none⟩) hl0).trans HC.out.2.1; have c2 := (b2.cell (p := ⟨w.heap.size, 2, none⟩) hl0).trans HC.out.2.2) | (go_at_call 14; refine (HS.out _).mono ?_; rintro e w3 ⟨rfl, b3⟩))
            go_ret
            exact ⟨rfl, (bW.trans (b2.mono bW.size)).trans (b3.mono (by have := bW.size; have := b2.size; omega))⟩
          · obtain rfl : bb = false := HB.out.trans (by simp [fitS, h1, h2, h3])
            clear HB
            generalize ((sizeN m : Nat) : Int) = sz at *
            go_wp2_with (first | (go_at_call 52; refine (HR.out _).mono ?_; rintro e w2 ⟨rfl, b2⟩; clear c0 c1 c2; have c0 := (b2.cell (p := ⟨w.heap.size, 0, none⟩) hl0).trans HC.out.1; have c1 := (b2.cell (p := ⟨w.heap.size, 1, none⟩) hl0).trans HC.out.2.1; have c2 := (b2.cell (p := ⟨w.heap.size, 2, none⟩) hl0).trans HC.out.2.2) | (go_at_call 14; refine (HS.out _).mono ?_; rintro e w3 ⟨rfl, b3⟩))
            go_ret
            exact ⟨by first | rfl | simp [h3], (bW.trans (b2.mono bW.size)).trans (b3.mono (by have := bW.size; have := b2.size; omega))⟩
        · obtain rfl : bb = false := HB.out.trans (by simp [fitS, h1, h2])
          clear HB
          generalize ((sizeN m : Nat) : Int) = sz at *
          go_wp2_with (first | (go_at_call 52; refine (HR.out _).mono ?_; rintro e w2 ⟨rfl, b2⟩; clear c0 c1 c2; have c0 := (b2.cell (p := ⟨w.heap.size, 0, none⟩) hl0).trans HC.out.1; have c1 := (b2.cell (p := ⟨w.heap.size, 1, none⟩) hl0).trans HC.out.2.1; have c2 := (b2.cell (p := ⟨w.heap.size, 2, none⟩) hl0).trans HC.out.2.2) | (go_at_call 14; refine (HS.out _).mono ?_; rintro e w3 ⟨rfl, b3⟩))
          go_ret
          exact ⟨rfl, (bW.trans (b2.mono bW.size)).trans (b3.mono (by have := bW.size; have := b2.size; omega))⟩
      · obtain rfl : bb = false := HB.out.trans (by simp [fitS, h1])
        clear HB
        generalize ((sizeN m : Nat) : Int) = sz at *
        go_wp2_with (first | (go_at_call 52; refine (HR.out _).mono ?_; rintro e w2 ⟨rfl, b2⟩; clear c0 c1 c2; have c0 := (b2.cell (p := ⟨w.heap.size, 0, none⟩) hl0).trans HC.out.1; have c1 := (b2.cell (p := ⟨w.heap.size, 1, none⟩) hl0).trans HC.out.2.1; have c2 := (b2.cell (p := ⟨w.heap.size, 2, none⟩) hl0).trans HC.out.2.2) | (go_at_call 14; refine (HS.out _).mono ?_; rintro e w3 ⟨rfl, b3⟩))
        go_ret
        exact ⟨rfl, (bW.trans (b2.mono bW.size)).trans (b3.mono (by have := bW.size; have := b2.size; omega))⟩
end Go.Proofs.YtldofbkjjmnooaaGreat
/- Package queue: remove; Push, Pop, Remove. Written by tools/gen_qup.py. -/
namespace Go.Proofs.YtldofbkjjmnooaaGreat
open Go.ChangeShapes Go.WideShapes Go.ChangeAt Go.RowKit
set_option linter.unusedVariables false
set_option maxRecDepth 100000
set_option linter.unusedSimpArgs false
/-- a new task, with a state -/
def MadeM {A : Type} (O : Ops A) (w : World) (Q : Nat → Prop) (T : Tre A) (t : Nat) (w' : World) : Prop := w.heap.size ≤ t ∧ (∃ M, JmF O w' (fun b => Q b ∧ b ≠ t) M (some ⟨t, 0, none⟩) [] T) ∧ Below w.heap.size w w'
theorem MadeQ.madeM {A : Type} {O : Ops A} {w w' : World} {Q : Nat → Prop} {T : Tre A} {t : Nat} (h : MadeQ O w Q T t w') : MadeM O w Q T t w' := ⟨h.1, ⟨_, jmF_pure O h.2.1⟩, h.2.2⟩
theorem MadeM.of {A : Type} {O : Ops A} {w w1 w' : World} {Q : Nat → Prop} {T : Tre A} {t : Nat} (h : MadeM O w1 Q T t w') (hb : Below w.heap.size w w1) : MadeM O w Q T t w' := ⟨Nat.le_trans hb.size h.1, h.2.1, hb.trans (h.2.2.mono hb.size)⟩
set_option maxHeartbeats 1000000 in
theorem lrem_any (C P a : Nat) (m : Mp) (Q : Nat → Prop) (t : Int) (w : World) (hm : m.ok) (ht : 0 ≤ t ∧ t < m.t) (hQ : ∀ k, w.heap.size ≤ k → Q k) :
    Calls Tryz.prog 106 #[lineV C a m, .int .i64 t] w fun e w' => ∃ t', e = .returned (pV t') ∧ MadeM (cellOps C P) w Q (remT m a t (-1) []) t' w' := by
  have hmf : ∀ (fn : Fn) (first cap : Array Value) (w : World), (Instr.makeFunc fn first cap).run Tryz.prog w = .ok (.func fn first cap) w := fun _ _ _ _ => rfl
  have hmm := @run_makeMap Tryz.prog
  have HQ := Lib.hid hQ
  have HM := Lib.hid hm
  have Ht := Lib.hid ht
  clear hQ hm ht
  go_enter Tryz.func106, Tryz.ntmps106
  go_upto_region 2 with fail
  generalize hW : ((((w.alloc _).alloc _).alloc _).alloc _).alloc _ = W
  have bW : Below w.heap.size w W := by rw [← hW]; go_grown
  have sW : W.heap.size = w.heap.size + 5 := by rw [← hW]; simp
  have q0 : Blk W w.heap.size 153 (lineCs C a m) := by rw [← hW]; exact (((((Blk.new w _ _).alloc _).alloc _).alloc _).alloc _)
  have q1 : Blk W (w.heap.size + 1) 3 #[.int .i64 t] := by rw [← hW]; exact ((((blk_two w _ _ _).alloc _).alloc _).alloc _)
  have hs : SetAt W (w.heap.size + 2) [] := by
    rw [← hW]
    have := SetAt.made ((w.alloc (.cells (lineCs C a m) 153)).alloc (.cells #[.int .i64 t] 3))
    simp only [World.size_alloc] at this
    exact this.keep (F := fun _ => False) (((Keep.refl _ _).alloc _).alloc _) (fun h => h)
  have q3 : Blk W (w.heap.size + 3) 3 #[.int .i64 (-1)] := by
    rw [← hW]
    have h := Blk.new (((w.alloc (.cells (lineCs C a m) 153)).alloc (.cells #[.int .i64 t] 3)).alloc (.map #[] 0)) 3 #[.int .i64 (-1)]
    simp only [World.size_alloc] at h
    exact h.alloc _
  have q4 : Blk W (w.heap.size + 4) 241 #[.map (some (w.heap.size + 2))] := by
    rw [← hW]
    have h := Blk.new ((((w.alloc (.cells (lineCs C a m) 153)).alloc (.cells #[.int .i64 t] 3)).alloc (.map #[] 0)).alloc (.cells #[.int .i64 (-1)] 3)) 241 #[.map (some (w.heap.size + 2))]
    simp only [World.size_alloc] at h
    exact h
  clear hW
  have hR : RemAt W C a m t w.heap.size (w.heap.size + 1) (w.heap.size + 3) (w.heap.size + 4) (w.heap.size + 2) (-1) [] := ⟨q0, q1, q3, q4, hs, by omega, by omega, by omega, by omega, by omega, by omega, by omega⟩
  have HL := Lib.hid (loopR_any C a m Q t (-1) [] w.heap.size (w.heap.size + 1) (w.heap.size + 3) (w.heap.size + 4) (w.heap.size + 2) W hR ⟨by omega, by have := HM.out.t; omega⟩ HM.out (fun k hk => HQ.out k (by omega)))
  go_wp2_with (go_at_call 186; refine HL.out.mono ?_; rintro e w2 ⟨t', d, r, f, br, bl2, f2, bb, rfl, hA, hb⟩)
  go_ret
  have hk : Keep (fun _ => False) W w2 := Keep.ofBelow hb
  obtain ⟨n1, n2, n3, n4, n5, n6⟩ := hA.new
  obtain ⟨e1, e2, e3, e4, e5⟩ := hA.ne
  obtain ⟨b, F, caps, x1, x2, x3, x4, x5⟩ := hA.op
  have nm : ∀ b, W.heap.size ≤ b → ¬ remM (w.heap.size + 3) (w.heap.size + 2) b := fun b hb h => by rcases h with h | h <;> omega
  have qq : ∀ b, W.heap.size ≤ b → b ≠ t' → Q b ∧ b ≠ t' := fun b h h2 => ⟨HQ.out b (by omega), h2⟩
  have qo : ∀ b, w.heap.size ≤ b → b < W.heap.size → Q b ∧ b ≠ t' := fun b h h2 => ⟨HQ.out b h, by omega⟩
  refine ⟨t', rfl, by omega, ⟨remM (w.heap.size + 3) (w.heap.size + 2), .inr ⟨ldI (behN m a (-1)), ansR m a t (-1) [], t', d, _, r, [f, f2], remT_eq _ _ _ _ _, rfl, hA.live, hA.tree, .inl ⟨b, F, caps, x1, rfl, ⟨x2, x3⟩, x4, x5⟩, ?_⟩⟩, bW.trans (hb.mono bW.size)⟩
  refine remK_conts HM.out Ht.out (.inl ⟨w.heap.size, w.heap.size + 1, w.heap.size + 3, w.heap.size + 4, w.heap.size + 2, -1, [], f2, bb, rfl, hR.keep hk (fun h => h) (fun h => h) (fun h => h) (fun h => h) (fun h => h), ⟨qo _ (by omega) (by omega), qo _ (by omega) (by omega), qo _ (by omega) (by omega), qo _ (by omega) (by omega), qo _ (by omega) (by omega), qq _ n5 e4, ?_⟩, ⟨nm _ n5, nm _ n6⟩, ⟨by omega, by have := HM.out.t; omega⟩, ⟨List.nodup_nil, fun u hu => by cases hu⟩, hA.box2, hA.body, .inr ⟨f, br, bl2, rfl, rfl, ⟨qq _ n2 e1, qq _ n3 e2, qq _ n4 e3⟩, ⟨nm _ n2, nm _ n3, nm _ n4⟩, hA.box, hA.fn, hA.line⟩⟩)
  exact qq _ n6 e5
set_option maxHeartbeats 2000000 in
theorem push_yes (C P : Nat) (a : Nat) (m : Mp) (n : Int) (u : Int) (Q : Nat → Prop) (w : World) (hm : m.ok) (hu : 0 ≤ u ∧ u < m.t) (ha : a ≤ 100000000) (hlen : ∀ W, Below w.heap.size w W → Calls Tryz.prog 101 #[cellsV C] W fun e w' => e = .returned (.int .i64 n) ∧ Below W.heap.size W w') (hright : ∀ (W : World) (B : Nat), B < W.heap.size → W.cell? ⟨B, 0, none⟩ = some (.int .i64 u) → Calls Tryz.prog 100 #[.int .i64 n, mapV m, .int .i64 (a : Int), .slice (some ⟨B, 0, none⟩) 1 1] W fun e w' => e = .returned (.bool true) ∧ Below W.heap.size W w') (hQ : ∀ k, w.heap.size ≤ k → Q k) :
    Calls Tryz.prog 20 #[cellsV C, mapV m, .int .i64 (a : Int), .int .i64 u] w fun e w' => ∃ t', e = .returned (pV t') ∧ MadeM (cellOps C P) w Q (pushT m a u) t' w' := by
  have HL := Lib.hid hlen
  have HR := Lib.hid hright
  have HQ := Lib.hid hQ
  have HX := Lib.hid fun W => lineAt_any C a m W ha
  have HI := Lib.hid fun W (h : w.heap.size ≤ W.heap.size) => lpush_any C P a m Q u W hm hu (fun k hk => hQ k (by omega))
  clear hm hu ha
  clear hlen hright hQ
  go_enter Tryz.func20, Tryz.ntmps20
  go_upto_region 1 with fail
  generalize hW : (w.alloc _) = W
  have bW : Below w.heap.size w W := by rw [← hW]; go_grown
  have sW : W.heap.size = w.heap.size + 1 := by rw [← hW]; simp
  have q0 : Blk W w.heap.size 24 #[.int .i64 (m.t : Int), .int .i64 (m.o : Int), .int .i64 (m.n : Int)] := by rw [← hW]; exact Blk.new w _ _
  clear hW
  have SK := Lib.hid (show ∀ V, Below W.heap.size W V → (V.cell? ⟨w.heap.size, 0, none⟩ = some (.int .i64 (m.t : Int)) ∧ V.cell? ⟨w.heap.size, 1, none⟩ = some (.int .i64 (m.o : Int)) ∧ V.cell? ⟨w.heap.size, 2, none⟩ = some (.int .i64 (m.n : Int))) from fun V hk => ⟨(q0.below hk q0.lt).cell 0 _ rfl, (q0.below hk q0.lt).cell 1 _ rfl, (q0.below hk q0.lt).cell 2 _ rfl⟩)
  have bd := bdrewE W
  clear sW
  have bA : Below W.heap.size W (W.alloc (.cells #[.int .i64 u] 3)).drew := ((Below.refl _ W).alloc (Nat.le_refl _) _).trans ((bdrewE _).mono (by rw [World.size_alloc]; omega))
  have HL1 := Lib.hid (HL.out W.drew (bW.trans (bd.mono bW.size)))
  have HL2 := Lib.hid (HL.out (W.alloc (.cells #[.int .i64 u] 3)).drew (bW.trans (bA.mono bW.size)))
  clear HL
  have HQ1 := Lib.hid fun w2 => HR.out (w2.alloc (.cells #[.int .i64 u] 3)) w2.heap.size (by rw [World.size_alloc]; omega) ((Blk.new w2 3 #[.int .i64 u]).cell 0 _ rfl)
  have hA0 : Blk (W.alloc (.cells #[.int .i64 u] 3)).drew W.heap.size 3 #[.int .i64 u] := (Blk.new W 3 #[.int .i64 u]).keep ((Keep.refl (fun _ => False) (W.alloc (.cells #[.int .i64 u] 3))).drew) (fun h => h)
  have HQ2 := Lib.hid fun w2 (hb2 : Below (W.alloc (.cells #[.int .i64 u] 3)).drew.heap.size (W.alloc (.cells #[.int .i64 u] 3)).drew w2) => HR.out w2 W.heap.size (Nat.lt_of_lt_of_le hA0.lt hb2.size) ((hA0.below hb2 hA0.lt).cell 0 _ rfl)
  go_region_held3 (fun V => (V.cell? ⟨w.heap.size, 0, none⟩ = some (.int .i64 (m.t : Int)) ∧ V.cell? ⟨w.heap.size, 1, none⟩ = some (.int .i64 (m.o : Int)) ∧ V.cell? ⟨w.heap.size, 2, none⟩ = some (.int .i64 (m.n : Int)))) (first | exact SK.out _ b4 | exact SK.out _ b3 | exact SK.out _ b2 | exact SK.out _ bA | exact SK.out _ bd) (first
    | (go_at_call 101; (with_reducible refine HL1.out.mono ?_); rintro e w2 ⟨rfl, hb2⟩; have b2 : Below W.heap.size W w2 := bd.trans hb2; have b3 : Below W.heap.size W (w2.alloc (.cells #[.int .i64 u] 3)) := b2.trans (((Below.refl _ w2).alloc (Nat.le_refl _) _).mono b2.size); have HR2 := Lib.hid (HQ1.out w2))
    | (go_at_call 101; (with_reducible refine HL2.out.mono ?_); rintro e w2 ⟨rfl, hb2⟩; have b3 : Below W.heap.size W w2 := bA.trans (hb2.mono bA.size); have HR2 := Lib.hid (HQ2.out w2 hb2))
    | (go_at_call 100; (with_reducible refine HR2.out.mono ?_); rintro e w4 ⟨rfl, hb4⟩; have b4 : Below W.heap.size W w4 := b3.trans (hb4.mono b3.size)))
  all_goals obtain ⟨c0, c1, c2⟩ := SK.out _ b4
  all_goals go_wp2_with (first | (go_at_call 103; refine (HX.out _).mono ?_; rintro e w5 ⟨rfl, hb5⟩; have b5 : Below W.heap.size W w5 := b4.trans (hb5.mono b4.size); have HI2 := Lib.hid (HI.out w5 (by have := b5.size; have := bW.size; omega))) | (go_at_call 104; refine HI2.out.mono ?_; rintro e w6 ⟨t', rfl, hM⟩))
  all_goals go_ret
  all_goals exact ⟨t', rfl, hM.madeM.of (bW.trans (b5.mono bW.size))⟩
set_option maxHeartbeats 2000000 in
theorem push_no (C P : Nat) (cv : Value) (t o k a : Int) (n : Int) (u : Int) (Q : Nat → Prop) (w : World) (hcv : cv = .pointer none ∨ ∃ c, cv = cellsV c) (hlen : ∀ W, Below w.heap.size w W → Calls Tryz.prog 101 #[cv] W fun e w' => e = .returned (.int .i64 n) ∧ Below W.heap.size W w') (hright : ∀ (W : World) (B : Nat), B < W.heap.size → W.cell? ⟨B, 0, none⟩ = some (.int .i64 u) → Calls Tryz.prog 100 #[.int .i64 n, .agg #[.int .i64 t, .int .i64 o, .int .i64 k], .int .i64 a, .slice (some ⟨B, 0, none⟩) 1 1] W fun e w' => e = .returned (.bool false) ∧ Below W.heap.size W w') (hQ : ∀ k, w.heap.size ≤ k → Q k) :
    Calls Tryz.prog 20 #[cv, .agg #[.int .i64 t, .int .i64 o, .int .i64 k], .int .i64 a, .int .i64 u] w fun e w' => ∃ t', e = .returned (pV t') ∧ MadeM (cellOps C P) w Q (retT (-1)) t' w' := by
  have HL := Lib.hid hlen
  have HR := Lib.hid hright
  have HQ := Lib.hid hQ
  have HY := Lib.hid fun W => readyQ C P Q (-1) W
  obtain ⟨cp, rfl⟩ : ∃ cp, cv = .pointer cp := by rcases hcv with rfl | ⟨c, rfl⟩ <;> exact ⟨_, rfl⟩
  clear hcv
  clear hlen hright hQ
  go_enter Tryz.func20, Tryz.ntmps20
  go_upto_region 1 with fail
  generalize hW : (w.alloc _) = W
  have bW : Below w.heap.size w W := by rw [← hW]; go_grown
  have sW : W.heap.size = w.heap.size + 1 := by rw [← hW]; simp
  have q0 : Blk W w.heap.size 24 #[.int .i64 t, .int .i64 o, .int .i64 k] := by rw [← hW]; exact Blk.new w _ _
  clear hW
  have SK := Lib.hid (show ∀ V, Below W.heap.size W V → (V.cell? ⟨w.heap.size, 0, none⟩ = some (.int .i64 t) ∧ V.cell? ⟨w.heap.size, 1, none⟩ = some (.int .i64 o) ∧ V.cell? ⟨w.heap.size, 2, none⟩ = some (.int .i64 k)) from fun V hk => ⟨(q0.below hk q0.lt).cell 0 _ rfl, (q0.below hk q0.lt).cell 1 _ rfl, (q0.below hk q0.lt).cell 2 _ rfl⟩)
  have bd := bdrewE W
  clear sW
  have bA : Below W.heap.size W (W.alloc (.cells #[.int .i64 u] 3)).drew := ((Below.refl _ W).alloc (Nat.le_refl _) _).trans ((bdrewE _).mono (by rw [World.size_alloc]; omega))
  have HL1 := Lib.hid (HL.out W.drew (bW.trans (bd.mono bW.size)))
  have HL2 := Lib.hid (HL.out (W.alloc (.cells #[.int .i64 u] 3)).drew (bW.trans (bA.mono bW.size)))
  clear HL
  have HQ1 := Lib.hid fun w2 => HR.out (w2.alloc (.cells #[.int .i64 u] 3)) w2.heap.size (by rw [World.size_alloc]; omega) ((Blk.new w2 3 #[.int .i64 u]).cell 0 _ rfl)
  have hA0 : Blk (W.alloc (.cells #[.int .i64 u] 3)).drew W.heap.size 3 #[.int .i64 u] := (Blk.new W 3 #[.int .i64 u]).keep ((Keep.refl (fun _ => False) (W.alloc (.cells #[.int .i64 u] 3))).drew) (fun h => h)
  have HQ2 := Lib.hid fun w2 (hb2 : Below (W.alloc (.cells #[.int .i64 u] 3)).drew.heap.size (W.alloc (.cells #[.int .i64 u] 3)).drew w2) => HR.out w2 W.heap.size (Nat.lt_of_lt_of_le hA0.lt hb2.size) ((hA0.below hb2 hA0.lt).cell 0 _ rfl)
  go_region_held3 (fun V => (V.cell? ⟨w.heap.size, 0, none⟩ = some (.int .i64 t) ∧ V.cell? ⟨w.heap.size, 1, none⟩ = some (.int .i64 o) ∧ V.cell? ⟨w.heap.size, 2, none⟩ = some (.int .i64 k))) (first | exact SK.out _ b4 | exact SK.out _ b3 | exact SK.out _ b2 | exact SK.out _ bA | exact SK.out _ bd) (first
    | (go_at_call 101; (with_reducible refine HL1.out.mono ?_); rintro e w2 ⟨rfl, hb2⟩; have b2 : Below W.heap.size W w2 := bd.trans hb2; have b3 : Below W.heap.size W (w2.alloc (.cells #[.int .i64 u] 3)) := b2.trans (((Below.refl _ w2).alloc (Nat.le_refl _) _).mono b2.size); have HR2 := Lib.hid (HQ1.out w2))
    | (go_at_call 101; (with_reducible refine HL2.out.mono ?_); rintro e w2 ⟨rfl, hb2⟩; have b3 : Below W.heap.size W w2 := bA.trans (hb2.mono bA.size); have HR2 := Lib.hid (HQ2.out w2 hb2))
    | (go_at_call 100; (with_reducible refine HR2.out.mono ?_); rintro e w4 ⟨rfl, hb4⟩; have b4 : Below W.heap.size W w4 := b3.trans (hb4.mono b3.size)))
  all_goals go_wp2_with (go_at_call 102; refine (HY.out _).mono ?_; rintro e w6 ⟨t', rfl, hM⟩)
  all_goals go_ret
  all_goals exact ⟨t', rfl, hM.madeM.of (bW.trans (b4.mono bW.size))⟩
set_option maxHeartbeats 2000000 in
theorem rem_yes (C P : Nat) (a : Nat) (m : Mp) (n : Int) (u : Int) (Q : Nat → Prop) (w : World) (hm : m.ok) (hu : 0 ≤ u ∧ u < m.t) (ha : a ≤ 100000000) (hlen : ∀ W, Below w.heap.size w W → Calls Tryz.prog 101 #[cellsV C] W fun e w' => e = .returned (.int .i64 n) ∧ Below W.heap.size W w') (hright : ∀ (W : World) (B : Nat), B < W.heap.size → W.cell? ⟨B, 0, none⟩ = some (.int .i64 u) → Calls Tryz.prog 100 #[.int .i64 n, mapV m, .int .i64 (a : Int), .slice (some ⟨B, 0, none⟩) 1 1] W fun e w' => e = .returned (.bool true) ∧ Below W.heap.size W w') (hQ : ∀ k, w.heap.size ≤ k → Q k) :
    Calls Tryz.prog 24 #[cellsV C, mapV m, .int .i64 (a : Int), .int .i64 u] w fun e w' => ∃ t', e = .returned (pV t') ∧ MadeM (cellOps C P) w Q (remT m a u (-1) []) t' w' := by
  have HL := Lib.hid hlen
  have HR := Lib.hid hright
  have HQ := Lib.hid hQ
  have HX := Lib.hid fun W => lineAt_any C a m W ha
  have HI := Lib.hid fun W (h : w.heap.size ≤ W.heap.size) => lrem_any C P a m Q u W hm hu (fun k hk => hQ k (by omega))
  clear hm hu ha
  clear hlen hright hQ
  go_enter Tryz.func24, Tryz.ntmps24
  go_upto_region 1 with fail
  generalize hW : (w.alloc _) = W
  have bW : Below w.heap.size w W := by rw [← hW]; go_grown
  have sW : W.heap.size = w.heap.size + 1 := by rw [← hW]; simp
  have q0 : Blk W w.heap.size 24 #[.int .i64 (m.t : Int), .int .i64 (m.o : Int), .int .i64 (m.n : Int)] := by rw [← hW]; exact Blk.new w _ _
  clear hW
  have SK := Lib.hid (show ∀ V, Below W.heap.size W V → (V.cell? ⟨w.heap.size, 0, none⟩ = some (.int .i64 (m.t : Int)) ∧ V.cell? ⟨w.heap.size, 1, none⟩ = some (.int .i64 (m.o : Int)) ∧ V.cell? ⟨w.heap.size, 2, none⟩ = some (.int .i64 (m.n : Int))) from fun V hk => ⟨(q0.below hk q0.lt).cell 0 _ rfl, (q0.below hk q0.lt).cell 1 _ rfl, (q0.below hk q0.lt).cell 2 _ rfl⟩)
  have bd := bdrewE W
  clear sW
  have bA : Below W.heap.size W (W.alloc (.cells #[.int .i64 u] 3)).drew := ((Below.refl _ W).alloc (Nat.le_refl _) _).trans ((bdrewE _).mono (by rw [World.size_alloc]; omega))
  have HL1 := Lib.hid (HL.out W.drew (bW.trans (bd.mono bW.size)))
  have HL2 := Lib.hid (HL.out (W.alloc (.cells #[.int .i64 u] 3)).drew (bW.trans (bA.mono bW.size)))
  clear HL
  have HQ1 := Lib.hid fun w2 => HR.out (w2.alloc (.cells #[.int .i64 u] 3)) w2.heap.size (by rw [World.size_alloc]; omega) ((Blk.new w2 3 #[.int .i64 u]).cell 0 _ rfl)
  have hA0 : Blk (W.alloc (.cells #[.int .i64 u] 3)).drew W.heap.size 3 #[.int .i64 u] := (Blk.new W 3 #[.int .i64 u]).keep ((Keep.refl (fun _ => False) (W.alloc (.cells #[.int .i64 u] 3))).drew) (fun h => h)
  have HQ2 := Lib.hid fun w2 (hb2 : Below (W.alloc (.cells #[.int .i64 u] 3)).drew.heap.size (W.alloc (.cells #[.int .i64 u] 3)).drew w2) => HR.out w2 W.heap.size (Nat.lt_of_lt_of_le hA0.lt hb2.size) ((hA0.below hb2 hA0.lt).cell 0 _ rfl)
  go_region_held3 (fun V => (V.cell? ⟨w.heap.size, 0, none⟩ = some (.int .i64 (m.t : Int)) ∧ V.cell? ⟨w.heap.size, 1, none⟩ = some (.int .i64 (m.o : Int)) ∧ V.cell? ⟨w.heap.size, 2, none⟩ = some (.int .i64 (m.n : Int)))) (first | exact SK.out _ b4 | exact SK.out _ b3 | exact SK.out _ b2 | exact SK.out _ bA | exact SK.out _ bd) (first
    | (go_at_call 101; (with_reducible refine HL1.out.mono ?_); rintro e w2 ⟨rfl, hb2⟩; have b2 : Below W.heap.size W w2 := bd.trans hb2; have b3 : Below W.heap.size W (w2.alloc (.cells #[.int .i64 u] 3)) := b2.trans (((Below.refl _ w2).alloc (Nat.le_refl _) _).mono b2.size); have HR2 := Lib.hid (HQ1.out w2))
    | (go_at_call 101; (with_reducible refine HL2.out.mono ?_); rintro e w2 ⟨rfl, hb2⟩; have b3 : Below W.heap.size W w2 := bA.trans (hb2.mono bA.size); have HR2 := Lib.hid (HQ2.out w2 hb2))
    | (go_at_call 100; (with_reducible refine HR2.out.mono ?_); rintro e w4 ⟨rfl, hb4⟩; have b4 : Below W.heap.size W w4 := b3.trans (hb4.mono b3.size)))
  all_goals obtain ⟨c0, c1, c2⟩ := SK.out _ b4
  all_goals go_wp2_with (first | (go_at_call 103; refine (HX.out _).mono ?_; rintro e w5 ⟨rfl, hb5⟩; have b5 : Below W.heap.size W w5 := b4.trans (hb5.mono b4.size); have HI2 := Lib.hid (HI.out w5 (by have := b5.size; have := bW.size; omega))) | (go_at_call 106; refine HI2.out.mono ?_; rintro e w6 ⟨t', rfl, hM⟩))
  all_goals go_ret
  all_goals exact ⟨t', rfl, hM.of (bW.trans (b5.mono bW.size))⟩
set_option maxHeartbeats 2000000 in
theorem rem_no (C P : Nat) (cv : Value) (t o k a : Int) (n : Int) (u : Int) (Q : Nat → Prop) (w : World) (hcv : cv = .pointer none ∨ ∃ c, cv = cellsV c) (hlen : ∀ W, Below w.heap.size w W → Calls Tryz.prog 101 #[cv] W fun e w' => e = .returned (.int .i64 n) ∧ Below W.heap.size W w') (hright : ∀ (W : World) (B : Nat), B < W.heap.size → W.cell? ⟨B, 0, none⟩ = some (.int .i64 u) → Calls Tryz.prog 100 #[.int .i64 n, .agg #[.int .i64 t, .int .i64 o, .int .i64 k], .int .i64 a, .slice (some ⟨B, 0, none⟩) 1 1] W fun e w' => e = .returned (.bool false) ∧ Below W.heap.size W w') (hQ : ∀ k, w.heap.size ≤ k → Q k) :
    Calls Tryz.prog 24 #[cv, .agg #[.int .i64 t, .int .i64 o, .int .i64 k], .int .i64 a, .int .i64 u] w fun e w' => ∃ t', e = .returned (pV t') ∧ MadeM (cellOps C P) w Q (retT (-1)) t' w' := by
  have HL := Lib.hid hlen
  have HR := Lib.hid hright
  have HQ := Lib.hid hQ
  have HY := Lib.hid fun W => readyQ C P Q (-1) W
  obtain ⟨cp, rfl⟩ : ∃ cp, cv = .pointer cp := by rcases hcv with rfl | ⟨c, rfl⟩ <;> exact ⟨_, rfl⟩
  clear hcv
  clear hlen hright hQ
  go_enter Tryz.func24, Tryz.ntmps24
  go_upto_region 1 with fail
  generalize hW : (w.alloc _) = W
  have bW : Below w.heap.size w W := by rw [← hW]; go_grown
  have sW : W.heap.size = w.heap.size + 1 := by rw [← hW]; simp
  have q0 : Blk W w.heap.size 24 #[.int .i64 t, .int .i64 o, .int .i64 k] := by rw [← hW]; exact Blk.new w _ _
  clear hW
  have SK := Lib.hid (show ∀ V, Below W.heap.size W V → (V.cell? ⟨w.heap.size, 0, none⟩ = some (.int .i64 t) ∧ V.cell? ⟨w.heap.size, 1, none⟩ = some (.int .i64 o) ∧ V.cell? ⟨w.heap.size, 2, none⟩ = some (.int .i64 k)) from fun V hk => ⟨(q0.below hk q0.lt).cell 0 _ rfl, (q0.below hk q0.lt).cell 1 _ rfl, (q0.below hk q0.lt).cell 2 _ rfl⟩)
  have bd := bdrewE W
  clear sW
  have bA : Below W.heap.size W (W.alloc (.cells #[.int .i64 u] 3)).drew := ((Below.refl _ W).alloc (Nat.le_refl _) _).trans ((bdrewE _).mono (by rw [World.size_alloc]; omega))
  have HL1 := Lib.hid (HL.out W.drew (bW.trans (bd.mono bW.size)))
  have HL2 := Lib.hid (HL.out (W.alloc (.cells #[.int .i64 u] 3)).drew (bW.trans (bA.mono bW.size)))
  clear HL
  have HQ1 := Lib.hid fun w2 => HR.out (w2.alloc (.cells #[.int .i64 u] 3)) w2.heap.size (by rw [World.size_alloc]; omega) ((Blk.new w2 3 #[.int .i64 u]).cell 0 _ rfl)
  have hA0 : Blk (W.alloc (.cells #[.int .i64 u] 3)).drew W.heap.size 3 #[.int .i64 u] := (Blk.new W 3 #[.int .i64 u]).keep ((Keep.refl (fun _ => False) (W.alloc (.cells #[.int .i64 u] 3))).drew) (fun h => h)
  have HQ2 := Lib.hid fun w2 (hb2 : Below (W.alloc (.cells #[.int .i64 u] 3)).drew.heap.size (W.alloc (.cells #[.int .i64 u] 3)).drew w2) => HR.out w2 W.heap.size (Nat.lt_of_lt_of_le hA0.lt hb2.size) ((hA0.below hb2 hA0.lt).cell 0 _ rfl)
  go_region_held3 (fun V => (V.cell? ⟨w.heap.size, 0, none⟩ = some (.int .i64 t) ∧ V.cell? ⟨w.heap.size, 1, none⟩ = some (.int .i64 o) ∧ V.cell? ⟨w.heap.size, 2, none⟩ = some (.int .i64 k))) (first | exact SK.out _ b4 | exact SK.out _ b3 | exact SK.out _ b2 | exact SK.out _ bA | exact SK.out _ bd) (first
    | (go_at_call 101; (with_reducible refine HL1.out.mono ?_); rintro e w2 ⟨rfl, hb2⟩; have b2 : Below W.heap.size W w2 := bd.trans hb2; have b3 : Below W.heap.size W (w2.alloc (.cells #[.int .i64 u] 3)) := b2.trans (((Below.refl _ w2).alloc (Nat.le_refl _) _).mono b2.size); have HR2 := Lib.hid (HQ1.out w2))
    | (go_at_call 101; (with_reducible refine HL2.out.mono ?_); rintro e w2 ⟨rfl, hb2⟩; have b3 : Below W.heap.size W w2 := bA.trans (hb2.mono bA.size); have HR2 := Lib.hid (HQ2.out w2 hb2))
    | (go_at_call 100; (with_reducible refine HR2.out.mono ?_); rintro e w4 ⟨rfl, hb4⟩; have b4 : Below W.heap.size W w4 := b3.trans (hb4.mono b3.size)))
  all_goals go_wp2_with (go_at_call 102; refine (HY.out _).mono ?_; rintro e w6 ⟨t', rfl, hM⟩)
  all_goals go_ret
  all_goals exact ⟨t', rfl, hM.madeM.of (bW.trans (b4.mono bW.size))⟩
set_option maxHeartbeats 2000000 in
theorem pop_yes (C P : Nat) (a : Nat) (m : Mp) (n : Int) (Q : Nat → Prop) (w : World) (hm : m.ok) (ha : a ≤ 100000000) (hlen : ∀ W, Below w.heap.size w W → Calls Tryz.prog 101 #[cellsV C] W fun e w' => e = .returned (.int .i64 n) ∧ Below W.heap.size W w') (hright : ∀ (W : World), Calls Tryz.prog 100 #[.int .i64 n, mapV m, .int .i64 (a : Int), .slice none 0 0] W fun e w' => e = .returned (.bool true) ∧ Below W.heap.size W w') (hQ : ∀ k, w.heap.size ≤ k → Q k) :
    Calls Tryz.prog 22 #[cellsV C, mapV m, .int .i64 (a : Int)] w fun e w' => ∃ t', e = .returned (pV t') ∧ MadeM (cellOps C P) w Q (popT m a) t' w' := by
  have HL := Lib.hid hlen
  have HR := Lib.hid hright
  have HQ := Lib.hid hQ
  have HX := Lib.hid fun W => lineAt_any C a m W ha
  have HI := Lib.hid fun W (h : w.heap.size ≤ W.heap.size) => lpop_any C P a m Q W hm (fun k hk => hQ k (by omega))
  clear hm ha
  clear hlen hright hQ
  go_enter Tryz.func22, Tryz.ntmps22
  go_upto_region 1 with fail
  generalize hW : (w.alloc _) = W
  have bW : Below w.heap.size w W := by rw [← hW]; go_grown
  have sW : W.heap.size = w.heap.size + 1 := by rw [← hW]; simp
  have q0 : Blk W w.heap.size 24 #[.int .i64 (m.t : Int), .int .i64 (m.o : Int), .int .i64 (m.n : Int)] := by rw [← hW]; exact Blk.new w _ _
  clear hW
  have SK := Lib.hid (show ∀ V, Below W.heap.size W V → (V.cell? ⟨w.heap.size, 0, none⟩ = some (.int .i64 (m.t : Int)) ∧ V.cell? ⟨w.heap.size, 1, none⟩ = some (.int .i64 (m.o : Int)) ∧ V.cell? ⟨w.heap.size, 2, none⟩ = some (.int .i64 (m.n : Int))) from fun V hk => ⟨(q0.below hk q0.lt).cell 0 _ rfl, (q0.below hk q0.lt).cell 1 _ rfl, (q0.below hk q0.lt).cell 2 _ rfl⟩)
  have bd := bdrewE W
  clear sW
  go_region_held3 (fun V => (V.cell? ⟨w.heap.size, 0, none⟩ = some (.int .i64 (m.t : Int)) ∧ V.cell? ⟨w.heap.size, 1, none⟩ = some (.int .i64 (m.o : Int)) ∧ V.cell? ⟨w.heap.size, 2, none⟩ = some (.int .i64 (m.n : Int)))) (first | exact SK.out _ b4 | exact SK.out _ b2 | exact SK.out _ bd) (first
    | (go_at_call 101; refine (HL.out _ (bW.trans (bd.mono bW.size))).mono ?_; rintro e w2 ⟨rfl, hb2⟩; have b2 : Below W.heap.size W w2 := bd.trans hb2)
    | (go_at_call 100; refine (HR.out _).mono ?_; rintro e w4 ⟨rfl, hb4⟩; have b4 : Below W.heap.size W w4 := b2.trans (hb4.mono b2.size)))
  all_goals obtain ⟨c0, c1, c2⟩ := SK.out _ b4
  all_goals go_wp2_with (first | (go_at_call 103; refine (HX.out _).mono ?_; rintro e w5 ⟨rfl, hb5⟩; have b5 : Below W.heap.size W w5 := b4.trans (hb5.mono b4.size); have HI2 := Lib.hid (HI.out w5 (by have := b5.size; have := bW.size; omega))) | (go_at_call 105; refine HI2.out.mono ?_; rintro e w6 ⟨t', rfl, hM⟩))
  all_goals go_ret
  all_goals exact ⟨t', rfl, hM.madeM.of (bW.trans (b5.mono bW.size))⟩
set_option maxHeartbeats 2000000 in
theorem pop_no (C P : Nat) (cv : Value) (t o k a : Int) (n : Int) (Q : Nat → Prop) (w : World) (hcv : cv = .pointer none ∨ ∃ c, cv = cellsV c) (hlen : ∀ W, Below w.heap.size w W → Calls Tryz.prog 101 #[cv] W fun e w' => e = .returned (.int .i64 n) ∧ Below W.heap.size W w') (hright : ∀ (W : World), Calls Tryz.prog 100 #[.int .i64 n, .agg #[.int .i64 t, .int .i64 o, .int .i64 k], .int .i64 a, .slice none 0 0] W fun e w' => e = .returned (.bool false) ∧ Below W.heap.size W w') (hQ : ∀ k, w.heap.size ≤ k → Q k) :
    Calls Tryz.prog 22 #[cv, .agg #[.int .i64 t, .int .i64 o, .int .i64 k], .int .i64 a] w fun e w' => ∃ t', e = .returned (pV t') ∧ MadeM (cellOps C P) w Q (retT (-1)) t' w' := by
  have HL := Lib.hid hlen
  have HR := Lib.hid hright
  have HQ := Lib.hid hQ
  have HY := Lib.hid fun W => readyQ C P Q (-1) W
  obtain ⟨cp, rfl⟩ : ∃ cp, cv = .pointer cp := by rcases hcv with rfl | ⟨c, rfl⟩ <;> exact ⟨_, rfl⟩
  clear hcv
  clear hlen hright hQ
  go_enter Tryz.func22, Tryz.ntmps22
  go_upto_region 1 with fail
  generalize hW : (w.alloc _) = W
  have bW : Below w.heap.size w W := by rw [← hW]; go_grown
  have sW : W.heap.size = w.heap.size + 1 := by rw [← hW]; simp
  have q0 : Blk W w.heap.size 24 #[.int .i64 t, .int .i64 o, .int .i64 k] := by rw [← hW]; exact Blk.new w _ _
  clear hW
  have SK := Lib.hid (show ∀ V, Below W.heap.size W V → (V.cell? ⟨w.heap.size, 0, none⟩ = some (.int .i64 t) ∧ V.cell? ⟨w.heap.size, 1, none⟩ = some (.int .i64 o) ∧ V.cell? ⟨w.heap.size, 2, none⟩ = some (.int .i64 k)) from fun V hk => ⟨(q0.below hk q0.lt).cell 0 _ rfl, (q0.below hk q0.lt).cell 1 _ rfl, (q0.below hk q0.lt).cell 2 _ rfl⟩)
  have bd := bdrewE W
  clear sW
  go_region_held3 (fun V => (V.cell? ⟨w.heap.size, 0, none⟩ = some (.int .i64 t) ∧ V.cell? ⟨w.heap.size, 1, none⟩ = some (.int .i64 o) ∧ V.cell? ⟨w.heap.size, 2, none⟩ = some (.int .i64 k))) (first | exact SK.out _ b4 | exact SK.out _ b2 | exact SK.out _ bd) (first
    | (go_at_call 101; refine (HL.out _ (bW.trans (bd.mono bW.size))).mono ?_; rintro e w2 ⟨rfl, hb2⟩; have b2 : Below W.heap.size W w2 := bd.trans hb2)
    | (go_at_call 100; refine (HR.out _).mono ?_; rintro e w4 ⟨rfl, hb4⟩; have b4 : Below W.heap.size W w4 := b2.trans (hb4.mono b2.size)))
  all_goals go_wp2_with (go_at_call 102; refine (HY.out _).mono ?_; rintro e w6 ⟨t', rfl, hM⟩)
  all_goals go_ret
  all_goals exact ⟨t', rfl, hM.madeM.of (bW.trans (b4.mono bW.size))⟩
end Go.Proofs.YtldofbkjjmnooaaGreat
/- Layer 10's laws: ends: a task's steps, alone; ints: rows that read alike. -/
namespace Go.Proofs.YtldofbkjjmnooaaGreat
open Go.ChangeShapes Go.WideShapes Go.ChangeAt Go.RowKit
set_option linter.unusedVariables false
set_option maxRecDepth 100000
set_option linter.unusedSimpArgs false
/-- how a task goes to its end, alone: so many operations, what the cells hold then, its value -/
inductive Goes : List Int → Tre Itm → Nat → List Int → Int → Prop
  | ret (m : List Int) (v : Int) : Goes m (retT v) 0 m v
  | op {m m' : List Int} {x : Itm} {κ : Int → Tre Itm} {k : Nat} {v : Int} (h1 : x.kind < 5) (h2 : countS m x = 1) (h3 : Goes (operS m x).1 (κ (operS m x).2.1) k m' v) : Goes m (opT x κ) (k + 1) m' v
theorem Goes.cases' {m m' : List Int} {T : Tre Itm} {k : Nat} {v : Int} (h : Goes m T k m' v) :
    (k = 0 ∧ T = retT v ∧ m' = m) ∨ ∃ x κ j, k = j + 1 ∧ T = opT x κ ∧ x.kind < 5 ∧ countS m x = 1 ∧ Goes (operS m x).1 (κ (operS m x).2.1) j m' v := by
  cases h with
  | ret m v => exact .inl ⟨rfl, rfl, rfl⟩
  | op h1 h2 h3 => exact .inr ⟨_, _, _, rfl, rfl, h1, h2, h3⟩
set_option maxHeartbeats 1000000 in
theorem qends_any (C P S t : Nat) (Q : Nat → Prop) (T : Tre Itm) (L most : Nat) (m m' : List Int) (v n : Int) (w : World) (hG : Goes m T L m' v) (hL : L ≤ most) (hm : most ≤ 1000)
    (h : TkT (cellOps C P) w t Q T) (hC : CellsAt w C S m n) (hQ : ∀ b, Q b → b ≠ C ∧ b ≠ S) (hn : 0 ≤ n ∧ n ≤ 1000000) {mI : Int} (hI : mI = most) :
    Calls Tryz.prog 26 #[pV t, .int .i64 mI] w fun e w' => e = .returned (.int .i64 L) ∧ (∃ Q', TkT (cellOps C P) w' t Q' (retT v) ∧ ∀ b, Q' b → Q b ∨ w.heap.size ≤ b) ∧ CellsAt w' C S m' (n + L) ∧ Keep (fun b => Q b ∨ ofCells C S b) w w' := by
  subst hI
  have H := Lib.hid h
  have HG := Lib.hid hG
  have HC := Lib.hid hC
  have HQ := Lib.hid hQ
  have HL := Lib.hid hL
  have hCl := hC.own.lt
  have hSl := hC.row.lt
  clear h hG hC hQ hL
  go_enter Tryz.func26, Tryz.ntmps26
  go_wp2_with fail
  go_loopw [5] (fun v5 wr => ∃ (I : Nat) (m1 : List Int) (T1 : Tre Itm) (Q1 : Nat → Prop) (j : Nat), I + j = L ∧ v5 = .int .i64 (I : Int) ∧ Goes m1 T1 j m' v ∧ TkT (cellOps C P) wr t Q1 T1 ∧ (∀ b, Q1 b → Q b ∨ w.heap.size ≤ b) ∧ CellsAt wr C S m1 (n + I) ∧ Keep (fun b => Q b ∨ ofCells C S b) w wr)
    (fun v5 _ => L - (intOf v5).toNat)
  case atStart => exact ⟨0, m, T, Q, L, by omega, rfl, HG.out, H.out, fun _ h => .inl h, by simpa using HC.out, Keep.refl _ _⟩
  case round =>
    obtain ⟨I, m1, T1, Q1, j, hIj, rfl, hG, hT, hq, hC, hk⟩ := hrel
    have hLm := HL.out
    have hsz := hk.size
    have hQ1 : ∀ b, Q1 b → b ≠ C ∧ b ≠ S := fun b hb => by
      rcases hq b hb with h | h
      · exact HQ.out b h
      · omega
    rcases hG.cases' with ⟨rfl, rfl, rfl⟩ | ⟨x, κ, j, rfl, rfl, e1, e2, e3⟩
    · obtain rfl : I = L := by omega
      have hD := Lib.hid (tdoneT_ret t Q1 v wr hT)
      have HX := Lib.hid (And.intro (⟨Q1, hT, hq⟩ : ∃ Q', TkT (cellOps C P) wr t Q' (retT v) ∧ ∀ b, Q' b → Q b ∨ w.heap.size ≤ b) (And.intro hC hk))
      clear hG hT hq hC hk hQ1 H HG HC HQ HL
      go_wp2_with (go_at_call 38; (with_reducible refine hD.out.mono ?_); rintro e w2 ⟨rfl, rfl⟩)
      go_ret
      exact ⟨rfl, HX.out⟩
    · have hD := Lib.hid (tdoneT_op t Q1 x κ wr hT)
      have hS := Lib.hid (tstepT_op C P S t Q1 x κ m1 (n + I) wr hT hC e1 hQ1 ⟨by omega, by omega⟩)
      have hQt := hT.own
      have HX := Lib.hid (And.intro e2 (And.intro e3 (And.intro hq (And.intro hk (And.intro (hq t hQt) (And.intro hsz (HC.out.own.lt)))))))
      have ht : t < w.heap.size ∧ Q t := ⟨H.out.lt t H.out.own, H.out.own⟩
      have h4 : ¬ ((most : Int) ≤ (I : Int)) := by omega
      have h5 : (I : Int) < (most : Int) := by omega
      clear hG hT hq hC hk hQ1 e1 e2 e3
      go_wp2_with (first
        | (go_at_call 38; (with_reducible refine hD.out.mono ?_); rintro e w2 ⟨rfl, rfl⟩)
        | (go_at_call 37; (with_reducible refine hS.out.mono ?_); rintro e w3 ⟨rfl, ⟨Q3, g1, g2⟩, g3, g4⟩))
      obtain ⟨e2, e3, hq, hk, _, _, _⟩ := HX.out
      rw [e2] at g3
      go_roundw
      case rel =>
        refine ⟨I + 1, _, _, Q3, j, by omega, by go_num, e3, g1, fun b hb => ?_, by rw [Int.natCast_add, ← Int.add_assoc]; exact g3, hk.trans (g4.mono fun b _ hb => ?_)⟩
        · rcases g2 b hb with h | h
          · exact hq b h
          · exact .inr (by omega)
        · rcases hb with rfl | hb
          · exact .inl ht.2
          · exact .inr hb
      case measure => simp [intOf]; omega
set_option maxHeartbeats 4000000 in
theorem qints_same (u v : Value) (N N' : Nat → Prop) (l : List Int) (w : World) (hu : RowN w N u l) (hv : RowN w N' v l) (hl : l.length ≤ 100000) :
    Calls Tryz.prog 28 #[u, v] w fun e w' => e = .returned (.bool true) ∧ Below w.heap.size w w' := by
  obtain ⟨a, c, rfl, _, hp⟩ := id hu
  obtain ⟨a', c', rfl, _, hp'⟩ := id hv
  have HP := Lib.hid hp
  have HP' := Lib.hid hp'
  clear hu hv hp hp'
  go_enter Tryz.func28, Tryz.ntmps28
  go_upto_region 4 with fail
  go_loopw [5] (fun vi wr => ∃ I : Nat, I ≤ l.length ∧ vi = .int .i64 (I : Int) ∧ Below w.heap.size w wr)
    (fun vi _ => l.length - (intOf vi).toNat)
  case atStart => exact ⟨0, by omega, rfl, Below.refl _ _⟩
  case round =>
    obtain ⟨I, hI, rfl, hb⟩ := hrel
    by_cases hlt : I < l.length
    · obtain ⟨p, hpi⟩ : ∃ p, l[I]? = some p := ⟨_, List.getElem?_eq_getElem hlt⟩
      obtain ⟨B, o, rfl, _, hB1, c0⟩ := HP.out I p hpi
      obtain ⟨B', o', rfl, _, hB1', d0⟩ := HP'.out I p hpi
      replace c0 := (hb.cell (p := ⟨B, o + I, none⟩) hB1).trans c0
      replace d0 := (hb.cell (p := ⟨B', o' + I, none⟩) hB1').trans d0
      have hix := idx_qints l.length c B o I hlt
      have hix' := idx_qints l.length c' B' o' I hlt
      have hI3 : (I : Int) < (l.length : Int) := by omega
      clear hpi
      go_upto_region 6 with fail
      go_quiet (fail)
      go_wp2
      go_roundw
      case rel => exact ⟨I + 1, by omega, by go_num, bdrewN hb nq⟩
      case measure => simp [intOf]; omega
    · have hIe : I = l.length := by omega
      subst hIe
      go_wp2
      go_ret
      exact ⟨rfl, hb⟩
end Go.Proofs.YtldofbkjjmnooaaGreat
/- A range over a function whose iterator turns blocks of its own (Z), and whose body makes new ones: what the body holds stands while those are turned; the body keeps them. The body never leaves. No program is named here. (After XScRange.) -/
namespace Go.Proofs.YtldofbkjjmnooaaGreat
open Go.ChangeShapes Go.WideShapes Go.ChangeAt Go.RowKit
set_option linter.unusedVariables false
theorem keep_put {W : World} {l : Nat} (o : Obj) : Keep (fun i => i = l) W (W.putObj l o) :=
  ⟨rfl, rfl, rfl, by simp [World.putObj], fun i _ hi => World.putObj_heap_other (fun e => hi (by first | exact e | exact e.symm))⟩
/-- what a round keeps: all but the caller's own blocks and the loop's two -/
abbrev RKeep (Qb : Nat → Prop) (B : Nat) := Keep (fun i => Qb i ∨ (B ≤ i ∧ i < B + 2))
/-- the contract of such an iterator, called where the loop's two blocks were laid last -/
def SeqOwnZ {α : Type} (F : Fence) (n : Nat) (P : Program) (g : Nat) (lb : Array Value) (encs : α → Array Value) (xs : List α) (Qb Z : Nat → Prop) (B : Nat) (w : World) : Prop :=
  ∀ (J : List α → World → Prop) (W : World), Below w.heap.size w W → W.heap.size = B + 2 → (∀ s A A', J s A → Keep Z A A' → J s A') →
    (∀ pre x A, J pre A → pre.length < xs.length → (∀ i, Z i → i < A.heap.size) → YieldAt F (n - 1) P (B + 1) (encs x) A fun e A' => e = .returned (.bool true) ∧ J (pre ++ [x]) A' ∧ RKeep Qb B A A') →
    J [] W → CallsIn F n P g (#[.func (.yield (B + 1)) #[] #[]] ++ lb) W fun e W' => (∃ v, e = .returned v) ∧ J xs W'
theorem wpIn_range_ownZ {α : Type} {F : Fence} {n : Nat} {P : Program} {g : Operand} {ps : Array Tmp} {assign body : Code} {Q : Exit → Act → World → Prop} {a : Act} {w : World}
    (hro : F.round = none) (h1 : 1 ≤ n) {gf : Nat} {lb : Array Value} (hg : a.eval g = .func (.func gf) #[] lb) (hFg : F.fn gf) (eg : ∀ args w, (callFunc gf args).run P w = .ok (.enter gf args) w)
    {encs : α → Array Value} {xs : List α} {Qb Z : Nat → Prop} (hQ : ∀ i, Qb i → i < w.heap.size ∨ w.heap.size + 2 ≤ i) (hZ : ∀ i, Z i → w.heap.size + 2 ≤ i) (hseq : SeqOwnZ F (n - 1) P gf lb encs xs Qb Z w.heap.size w) (hps : ∀ x, (encs x).size = ps.size)
    (I : List α → World → Prop) (hI : ∀ s A A', I s A → Keep (fun i => Z i ∨ (w.heap.size ≤ i ∧ i < w.heap.size + 2)) A A' → I s A') (h0 : I [] w)
    (Ax : α → Act → World → Prop) (hAx : ∀ x a' A A', Ax x a' A → Keep (fun i => i = w.heap.size + 1) A A' → Ax x a' A')
    (hassign : ∀ (pre : List α) (x : α) (W : World) (K : Act → World → Prop), I pre W → w.heap.size + 2 ≤ W.heap.size → (∀ a' W', Below W.heap.size W W' → Ax x a' W' → K a' W') →
      assign.wpIn (F.inRound (w.heap.size + 1)) (n - 1 - 1) P (Exit.then K (fun _ _ _ => False)) { tmps := (ps.zip (encs x)).foldl (fun t (p, v) => t.setIfInBounds p v) a.tmps, defers := [] } W)
    (hbody : ∀ (pre : List α) (x : α) (a' : Act) (W : World), I pre W → Ax x a' W → w.heap.size + 2 ≤ W.heap.size → pre.length < xs.length → (∀ i, Z i → i < W.heap.size) →
      body.wpIn (F.inRound (w.heap.size + 1)) (n - 1 - 1) P (fun e _ W' => e = .normal ∧ I (pre ++ [x]) W' ∧ Keep Qb W W') a' W)
    (hdone : ∀ (W : World), I xs W → w.heap.size < W.heap.size → W.heap[w.heap.size]? = some (.deferred (some [])) → Q .normal { a with defers := { target := .collected w.heap.size, args := #[] } :: a.defers } W) :
    (Code.rangeFunc g ps assign body).wpIn F n P Q a w := by
  refine wpIn_rangeFunc ?_
  intro fn hfn
  rw [hro]
  obtain ⟨mk, hmk⟩ : ∃ mk : LoopState → Loop, mk = fun st => { state := st, pending := none, fn, tmps := a.tmps, params := ps, assign, body, defers := w.heap.size } := ⟨_, rfl⟩
  obtain ⟨W1, hW1⟩ : ∃ W1, (w.alloc (.deferred (some []))).alloc (.loop (mk .ready)) = W1 := ⟨_, rfl⟩
  have sW1 : W1.heap.size = w.heap.size + 2 := by rw [← hW1]; simp
  have hL1 : W1.heap[w.heap.size + 1]? = some (.loop (mk .ready)) := by
    rw [← hW1]; have := World.alloc_heap_new (w.alloc (.deferred (some []))) (.loop (mk .ready)); rwa [World.size_alloc] at this
  have hK1 : W1.heap[w.heap.size]? = some (.deferred (some [])) := by
    rw [← hW1]; exact (Below.heap_alloc _ _ _ (by simp)).trans (World.alloc_heap_new w _)
  have hb1 : Below w.heap.size w W1 := by rw [← hW1]; exact ((Below.refl _ w).alloc (Nat.le_refl _) _).alloc (by simp) _
  refine ⟨w.heap.size + 1, [{ target := .collected w.heap.size, args := #[] }], W1, { target := .fn (.func gf) lb, args := #[.func (.yield (w.heap.size + 1)) #[] #[]] }, W1, gf,
    #[.func (.yield (w.heap.size + 1)) #[] #[]] ++ lb, W1, ?_, ?_, ?_, ?_, fun _ => h1, ?_⟩
  · rw [← hW1, hmk]; exact run_enterLoop_outer _ _ _ _ _
  · simp only [resolve, hg]
    simp [go_sem]
  · intro f' hf'; simp [Target.leads] at hf'; subst hf'; exact hFg
  · simp [invoke, go_sem, eg]
  · refine (hseq (fun pre W => I pre W ∧ W.heap[w.heap.size + 1]? = some (.loop (mk .ready)) ∧ W.heap[w.heap.size]? = some (.deferred (some []))) W1 hb1 sW1 ?_ ?_ ⟨hI _ _ _ h0 (Keep.ofBelow hb1), hL1, hK1⟩).mono ?_
    · rintro s A A' ⟨i1, i2, i3⟩ hb
      exact ⟨hI _ _ _ i1 (hb.mono fun _ _ h => .inl h), (hb.block _ (Array.getElem?_eq_some_iff.1 i2).1 (fun h => by have := hZ _ h; omega)).trans i2, (hb.block _ (Array.getElem?_eq_some_iff.1 i3).1 (fun h => by have := hZ _ h; omega)).trans i3⟩
    · rintro pre x W ⟨hi, hl, hk⟩ hlen hzl
      have hlt : w.heap.size + 1 < W.heap.size := (Array.getElem?_eq_some_iff.1 hl).1
      have hy := run_yield (P := P) (args := encs x) hl (by rw [hmk]; exact hps x)
      rw [hmk] at hy
      refine ⟨fn, _, assign, body, hy, roundIn_of_wpIn hfn (hassign pre x W _ hi (by omega) ?_)⟩
      intro a' Wa hba hax
      have hla := (hba.block _ hlt).trans hl
      have hka := (hba.block (w.heap.size) (by omega)).trans hk
      have hsa := hba.size
      refine ⟨_, run_beginRound hla (by rw [hmk]), ?_⟩
      obtain ⟨Wb, hWb⟩ : ∃ Wb, Wa.putObj (w.heap.size + 1) (.loop { mk .ready with state := .busy }) = Wb := ⟨_, rfl⟩
      rw [hWb]
      have kb : Keep (fun i => i = w.heap.size + 1) Wa Wb := by rw [← hWb]; exact keep_put _
      have hlb : Wb.heap[w.heap.size + 1]? = some (.loop { mk .ready with state := .busy }) := by rw [← hWb]; exact World.putObj_heap_same (by omega)
      have hkb : Wb.heap[w.heap.size]? = some (.deferred (some [])) := (kb.block _ (by omega) (by omega)).trans hka
      have hib : I pre Wb := hI _ _ _ (hI _ _ _ hi (Keep.ofBelow hba)) (kb.mono fun i _ e => .inr (by omega))
      refine wpIn_mono (hbody pre x a' Wb hib (hAx _ _ _ _ hax kb) (by have := kb.size; omega) hlen (fun i hz => by have := hzl i hz; have := hba.size; have := kb.size; omega)) ?_
      rintro e a3 W3 ⟨rfl, hi3, k3⟩
      have hl3 : W3.heap[w.heap.size + 1]? = some (.loop { mk .ready with state := .busy }) := (k3.block _ (by have := kb.size; omega) (fun e => by have := hQ _ e; omega)).trans hlb
      have hk3 : W3.heap[w.heap.size]? = some (.deferred (some [])) := (k3.block _ (by have := kb.size; omega) (fun e => by have := hQ _ e; omega)).trans hkb
      have hr := run_endRound (P := P) none hl3
      obtain ⟨W4, hW4⟩ : ∃ W4, W3.putObj (w.heap.size + 1) (.loop (mk .ready)) = W4 := ⟨_, rfl⟩
      have k4 : Keep (fun i => i = w.heap.size + 1) W3 W4 := by rw [← hW4]; exact keep_put _
      have hs3 : w.heap.size + 1 < W3.heap.size := (Array.getElem?_eq_some_iff.1 hl3).1
      have hl4 : W4.heap[w.heap.size + 1]? = some (.loop (mk .ready)) := by rw [← hW4]; exact World.putObj_heap_same hs3
      refine ⟨.bool true, W4, ?_, rfl, ⟨hI _ _ _ hi3 (k4.mono fun i _ e => .inr (by omega)), hl4, (k4.block _ (by omega) (by omega)).trans hk3⟩, ?_⟩
      · rw [← hW4]
        rw [hmk] at hr ⊢
        exact hr
      · have ka : RKeep Qb w.heap.size W Wa := Keep.ofBelow hba
        exact ((ka.trans (kb.mono (fun i _ e => .inr (by omega)))).trans (k3.mono (fun i _ e => .inl e))).trans (k4.mono (fun i _ e => .inr (by omega)))
    · rintro e W2 ⟨⟨v, rfl⟩, hi, hl, hk⟩
      have he := run_endLoop (P := P) hl (by rw [hmk]; simp)
      have hs2 : w.heap.size + 1 < W2.heap.size := (Array.getElem?_eq_some_iff.1 hl).1
      have k5 : Keep (fun i => i = w.heap.size + 1) W2 (W2.putObj (w.heap.size + 1) (.loop { mk .ready with state := .exhausted })) := keep_put _
      refine ⟨none, _, ?_, hdone _ (hI _ _ _ hi (k5.mono fun i _ e => .inr (by omega))) (by have := k5.size; omega) ((k5.block _ (by omega) (by omega)).trans hk)⟩
      rw [hmk] at he ⊢
      exact he
end Go.Proofs.YtldofbkjjmnooaaGreat
/- The contract of cells.All: the values of all cells, in new memory. -/
namespace Go.Proofs.YtldofbkjjmnooaaGreat
open Go.ChangeShapes Go.WideShapes Go.ChangeAt Go.RowKit Go.Shelf
set_option linter.unusedVariables false
set_option maxRecDepth 100000
set_option linter.unusedSimpArgs false
attribute [local go_sem] Oper.semAt_some
/-- what a round keeps: all below n₀, and one box -/
def Kc (n₀ Bn : Nat) (W W' : World) : Prop := Below n₀ W W' ∧ W'.heap[Bn]? = W.heap[Bn]?
theorem kc_t {n₀ Bn : Nat} {A B C : World} (h : Kc n₀ Bn A B) (k : Kc n₀ Bn B C) : Kc n₀ Bn A C := ⟨h.1.trans k.1, k.2.trans h.2⟩
theorem kc_b {n₀ Bn : Nat} {w : World} (hn : n₀ ≤ w.heap.size) (hb : Bn < w.heap.size) (W : World) (l : Nat) (o o' : Obj) (hl : w.heap.size ≤ l) (h : W.heap[l]? = some o) (h1 : o.isCells = false) (h2 : o.isWalk = false) : Kc n₀ Bn W (W.putObj l o') :=
  ⟨belowK_b hn W l o o' hl h h1 h2, World.putObj_heap_other (by omega)⟩
theorem grown_of_below {W W' : World} (h : Below W.heap.size W W') : W.grownBy W' none := ⟨h.os, h.tape, h.output, h.size, fun k hk _ => h.block k hk⟩
theorem take_snoc_w {xs : List Int} {k : Nat} {x : Int} (h : xs[k]? = some x) : xs.take (k + 1) = xs.take k ++ [x] := by
  rw [List.take_add_one, h]; rfl
theorem take_prefix_w (xs : List Int) (k : Nat) : xs.take k <+: xs := List.take_prefix k xs
set_option maxRecDepth 100000 in
set_option maxHeartbeats 2000000 in
theorem valuesC_in (n : Nat) (hn : 1 ≤ n) (l Bn n₀ C S : Nat) (xs : List Int) (k0 : Int) (J Jx : List Int → World → Prop)
    (hJ : ∀ pre W W', J pre W → Below W.heap.size W W' → J pre W')
    (hY : ∀ pre x W, J pre W → pre.length < xs.length → YieldAt Fence.wide (n - 1) Tryz.prog l #[.int .u64 x] W fun e W' =>
      (e = .returned (.bool true) ∧ J (pre ++ [x]) W' ∧ Kc n₀ Bn W W') ∨ (e = .returned (.bool false) ∧ Jx (pre ++ [x]) W'))
    (W : World) (hB : Blk W Bn 26 #[cellsV C]) (hC : CellsAt W C S xs k0) (hC1 : C < n₀) (hS1 : S < n₀) (h0 : J [] W) :
    CallsIn Fence.wide n Tryz.prog 175 #[.func (.yield l) #[] #[], .pointer (some ⟨Bn, 0, none⟩)] W fun e W' => (∃ v, e = .returned v) ∧
      ((∃ ys, ys = xs ∧ J ys W') ∨ (∃ pre, pre <+: xs ∧ Jx pre W')) := by
  have hro : Fence.wide.round = none := rfl
  have hm := hC.few
  have c0 := hB.cell 0 _ rfl
  have HLen := Lib.hid (len_any C S xs k0 W hC)
  generalize hxn : xs.length = N at *
  have HX := Lib.hid hxn
  clear hxn
  refine callsIn_of_wp Tryz.func175 rfl trivial ?_ hro
  simp only [Tryz.ntmps175, List.size_toArray, List.length_cons, List.length_nil, Nat.reduceAdd, Nat.reduceSub, Array.replicate_succ, Array.replicate_zero, List.push_toArray, List.append_toArray, List.nil_append, List.cons_append]
  gi_wp2_with (refine ⟨trivial, ?_⟩; gi_at_call 101; refine (callsIn_wide.2 HLen.out).mono ?_; rintro e w1 ⟨rfl, hb⟩)
  have B1 := hB.below hb hB.lt
  have C1 := hC.keep (Keep.ofBelow (Q := fun _ => False) hb) (fun h => h) (fun h => h)
  have J1 := hJ [] W w1 h0 hb
  clear c0
  gi_loopw [6] (fun i wr => ∃ k : Nat, k ≤ N ∧ i = .int .i64 k ∧ J (xs.take k) wr ∧ Blk wr Bn 26 #[cellsV C] ∧ CellsAt wr C S xs k0)
    (fun i wr => N - (intOf i).toNat)
  case atStart => exact ⟨0, Nat.zero_le _, rfl, J1, B1, C1⟩
  case round =>
    obtain ⟨k, hk, rfl, hJ2, hB2, hC2⟩ := hrel
    by_cases hlt : k < N
    · obtain ⟨x, hx⟩ : ∃ x, xs[k]? = some x := ⟨_, List.getElem?_eq_getElem (by rw [HX.out]; exact hlt)⟩
      have hlen : (xs.take k).length < N := by rw [List.length_take, HX.out]; omega
      obtain ⟨fn, tmps, assign, body, hy, hR⟩ := hY (xs.take k) x wr hJ2 hlen
      have HT := Lib.hid (take_snoc_w hx)
      have HP := Lib.hid (pLoad_any S xs k x wr hC2.row hx (by rw [HX.out]; omega))
      rw [HX.out] at HP
      have q0 := hB2.cell 0 _ rfl
      have q1 := hC2.own.cell 0 _ rfl
      rw [HX.out] at q1
      clear hx
      have hm1 : 0 ≤ (k : Int) := by omega
      have HM := Lib.hid (show (k : Int) + 1 ≤ 16777216 by omega)
      clear hm
      have hmeth : ∀ W, (method 481 135 (rowV S N) "Load").run Tryz.prog W = .ok (401, rowV S N) W := fun _ => by kernel_rfl
      gi_wp2_with (refine ⟨trivial, ?_⟩; gi_at_call 401; refine (callsIn_wide.2 HP.out).mono ?_; rintro e w3 ⟨rfl, rfl⟩)
      refine hR.mono ?_
      rintro e W3 (⟨rfl, hJ3, hk3⟩ | ⟨rfl, hJx3⟩)
      · have B3 : Blk W3 Bn 26 #[cellsV C] := hk3.2.trans hB2
        have C3 : CellsAt W3 C S xs k0 := ⟨hC2.own.below hk3.1 hC1, hC2.row.below hk3.1 hS1, hC2.ne, hC2.few⟩
        rw [← HT.out] at hJ3
        have hkm := HM.out
        have hk1 : (k : Int) + 1 ≤ 9223372036854775807 := by omega
        clear hkm q0 q1 hmeth
        gi_wp2
        go_roundw
        case rel => exact ⟨k + 1, by omega, by go_num, hJ3, B3, C3⟩
        case measure => simp [intOf]; omega
      · rw [← HT.out] at hJx3
        clear q0 q1 hmeth
        gi_wp2
        refine bodyPost_ret (results_none rfl _ _ _) rfl ?_
        exact ⟨⟨_, rfl⟩, .inr ⟨_, take_prefix_w xs (k + 1), hJx3⟩⟩
    · have hke : k = N := by omega
      have HE := Lib.hid hke
      clear hke hm
      gi_wp2
      go_end0
      refine ⟨⟨_, rfl⟩, .inl ⟨_, rfl, ?_⟩⟩
      rw [HE.out, ← HX.out, List.take_length] at hJ2
      exact hJ2
theorem values_in (n : Nat) (C : Nat) (w : World) :
    CallsIn Fence.wide n Tryz.prog 98 #[cellsV C] w fun e w' => e = .returned (.func (.func 175) #[] #[.pointer (some ⟨w.heap.size, 0, none⟩)]) ∧ w' = w.alloc (.cells #[cellsV C] 26) := by
  have hro : Fence.wide.round = none := rfl
  refine callsIn_of_wp Tryz.func98 rfl trivial ?_ hro
  simp only [Tryz.ntmps98, List.size_toArray, List.length_cons, List.length_nil, Nat.reduceAdd, Nat.reduceSub, Array.replicate_succ, Array.replicate_zero, List.push_toArray, List.append_toArray, List.nil_append, List.cons_append]
  gi_wp2
  go_ret
  exact ⟨rfl, by simp⟩
theorem valuesC_stops (n : Nat) (hn : 1 ≤ n) (Bn n₀ C S : Nat) (xs : List Int) (k0 : Int) (w : World) (hB : Blk w Bn 26 #[cellsV C]) (hC : CellsAt w C S xs k0) (hC1 : C < n₀) (hS1 : S < n₀) :
    SeqStopsK Fence.wide n Tryz.prog 175 #[.pointer (some ⟨Bn, 0, none⟩)] (fun x : Int => #[.int .u64 x]) (Kc n₀ Bn) (fun ys => ys = xs) (fun pre => pre <+: xs) xs.length w := fun l J Jx W hW hJ _ hY h0 =>
  valuesC_in n hn l Bn n₀ C S xs k0 J Jx (fun pre W W' h hb => hJ pre W W' none h (grown_of_below hb) (fun r e => by cases e)) hY W (hB.below hW hB.lt)
    (hC.keep (Keep.ofBelow (Q := fun _ => False) hW) (fun h => h) (fun h => h)) hC1 hS1 h0
theorem u64_size1 : (Tryz.prog.info? 47).map (fun i => (i.zero, i.size, i.bytes)) = some (some (.int .u64 0), 1, 8) := u64_info
/-- behind the reading: the variable holds a slice of the words, in new memory -/
def AllPost (n₀ a : Nat) (xs : List Int) (w w' : World) : Prop :=
  Below n₀ w w' ∧ ∃ u, Boxed w' a 38 u ∧ w'.ownsRow n₀ 47 1 u xs.length (xs.map (.int .u64))
set_option maxRecDepth 100000 in
set_option maxHeartbeats 4000000 in
theorem allC_in (n : Nat) (hn : 3 ≤ n) (b a n₀ C S : Nat) (xs : List Int) (k0 : Int) (w : World) (hB : Blk w b 26 #[cellsV C]) (hA : Boxed w a 38 (.slice none 0 0)) (hn₀ : n₀ ≤ a) (hC : CellsAt w C S xs k0) (hC1 : C < n₀) (hS1 : S < n₀) :
    CallsIn Fence.wide n Tryz.prog 97 #[.pointer (some ⟨b, 0, none⟩), .pointer (some ⟨a, 0, none⟩)] w fun e w' => e = .returned unitV ∧ AllPost n₀ a xs w w' := by
  have h1 : 1 ≤ n := by omega
  have hro : Fence.wide.round = none := rfl
  have halt := hA.lt
  have hfew := hC.few
  obtain ⟨i0, hi, hz0, hz1, hz2⟩ := info_parts u64_info
  have c0 := hB.cell 0 _ rfl
  refine callsIn_of_wp_marks Tryz.func97 rfl trivial ?_ hro
  simp only [Tryz.ntmps97, List.size_toArray, List.length_cons, List.length_nil, Nat.reduceAdd, Nat.reduceSub, Array.replicate_succ, Array.replicate_zero, List.push_toArray, List.append_toArray, List.nil_append, List.cons_append]
  gi_wp2_with (refine ⟨trivial, ?_⟩; gi_at_call 98; refine (values_in (n - 1) C _).mono ?_; rintro e w' ⟨rfl, rfl⟩)
  have bn : Blk (w.alloc (.cells #[cellsV C] 26)) w.heap.size 26 #[cellsV C] := Blk.new w _ _
  have hB0 : Below w.heap.size w (w.alloc (.cells #[cellsV C] 26)) := (Below.refl _ w).alloc (Nat.le_refl _) _
  have hsz : (w.alloc (.cells #[cellsV C] 26)).heap.size = w.heap.size + 1 := by simp
  have bA := hA.alloc (.cells #[cellsV C] 26)
  obtain ⟨W0, hW0⟩ : ∃ W0, w.alloc (.cells #[cellsV C] 26) = W0 := ⟨_, rfl⟩
  rw [hW0] at bn hB0 hsz bA ⊢
  clear hW0
  have hCW := hC.keep (Keep.ofBelow (Q := fun _ => False) hB0) (fun h => h) (fun h => h)
  refine wpIn_rangeFunc_ownH hro h1 (gf := 175) (lb := #[.pointer (some ⟨w.heap.size, 0, none⟩)]) rfl trivial (enters_of Tryz.func175 (by kernel_rfl) rfl)
    (valuesC_stops (n - 1) (by omega) w.heap.size n₀ C S xs k0 W0 bn hCW hC1 hS1) kc_t (kc_b (by omega) (by omega)) (Below.refl _ _) (fun _ => rfl)
    (fun (pre : List Int) W => (∃ u, Boxed W a 38 u ∧ W.ownsRow n₀ 47 1 u pre.length (pre.map (.int .u64)) ∧ True) ∧ (Boxed W w.heap.size 26 (cellsV C) ∧ Below n₀ w W))
    (fun c pre W => False)
    (OwnFrom.and (Own.from (holdsRow_own n₀ a 38 47 1 (fun pre : List Int => pre.length) (fun pre : List Int => pre.map (.int .u64)) (fun _ _ => True)) _) (OwnFrom.and (Own.from (boxed_own _ _ (fun _ => cellsV C)) _) (ownFrom_below (by omega) (by omega))))
    (fun c => ownFrom_pure _ _)
    ⟨⟨_, bA, World.ownsRow_nil _ _ _ _, trivial⟩, bn, hB0.mono (by omega)⟩
    (fun x a' W => a' = { tmps := #[.pointer (some ⟨b, 0, none⟩), .pointer (some ⟨a, 0, none⟩), .int .u64 x, cellsV C, .func (.func 175) #[] #[.pointer (some ⟨w.heap.size, 0, none⟩)], .int .u64 x, undef, undef, undef, undef], defers := [] })
    (fun x a' _ X Y row hs hg hr => hs)
    ?assign ?body ?done ?stop
  case assign =>
    rintro l pre x W K hI hK
    gi_wp2
    exact hK _ _ (KeepsFrom.refl _ _) ⟨Below.refl _ _, rfl⟩ hI rfl
  case body =>
    rintro l pre x a' W hl ⟨r, hr⟩ ⟨⟨u, bF1, hrow, _⟩, bP, hB1⟩ rfl hlt
    have h1' : 1 ≤ n - 1 - 1 := by omega
    have hs1 := hB1.size
    have cF := bF1.cell
    have HC := Lib.hid (show (pre ++ [x]).map (Value.int .u64) = pre.map (Value.int .u64) ++ [.int .u64 x] by simp)
    gi_wp2_with (gi_at_builtin; refine wpListIn_append_own _ rfl _ _ 38 rfl n₀ 47 i0 (.int .u64 0) 1 8 Tryz.underlying38 hi hz0 hz1 hz2 rfl (by decide) _ _ _ rfl (hrow.alloc _) ⟨W.heap.size, 0, none⟩ 1 1 [.int .u64 x] rfl rfl (cell_one_new _ _ _) (by simp [Value.oneCell']) (by unfold maxLen; omega) (by omega) (by simp; omega) ?_; intro v' w2 hown' hgrow _; obtain ⟨g', cap', rfl⟩ := ownsRow_succ hown'; obtain ⟨hv1, hv2, hr2, hk2, hb2⟩ := bF1.appended (by decide) hrow (by omega) hn₀ hown' hgrow; have hc1 := hv1.cell; have hf1 := hv1.frozen)
    have bP2 : Boxed w2 w.heap.size 26 (cellsV C) := (bP.alloc _).kept hgrow (bP.not_row (by decide) hrow)
    have bP3 := bP2.other (B' := a) (by omega) (.slice (some ⟨g', 0, none⟩) (pre.length + 1) cap')
    exact ⟨hk2.from _, ⟨hb2, bP3.trans bP.symm⟩, ⟨⟨_, hv2, by rw [HC.out]; simpa using hr2, trivial⟩, bP3, hB1.trans hb2⟩⟩
  case done =>
    rintro D ys W hD rfl ⟨⟨u, bF1, hrow, _⟩, bP, hB1⟩ hK
    gi_wp2
    refine ⟨by simp, .inl ⟨_, _, rfl, run_takeDeferred hK, ?_⟩⟩
    refine ⟨_, results_none rfl _ _ _, rfl, hB1.trans (belowK_b (w := w) (by omega) W D _ _ (by omega) hK rfl rfl), u, ?_, ?_⟩
    · exact bF1.kept (grownBy_putObj' _ D (.deferred none)) (fun e => by cases e; omega)
    · exact ownsRow_putObj hrow _ hK rfl
  case stop =>
    rintro D c pre W hD hpre h hK
    exact h.elim
theorem call_allC : ∀ (W : World) (args : Array Value), (callFunc 97 args).run Tryz.prog W = .ok (.enter 97 args) W := by
  intro W args
  go_simp
theorem allC_any (b a n₀ C S : Nat) (xs : List Int) (k0 : Int) (w : World) (hB : Blk w b 26 #[cellsV C]) (hA : Boxed w a 38 (.slice none 0 0)) (hn₀ : n₀ ≤ a) (hC : CellsAt w C S xs k0) (hC1 : C < n₀) (hS1 : S < n₀) :
    Calls Tryz.prog 97 #[.pointer (some ⟨b, 0, none⟩), .pointer (some ⟨a, 0, none⟩)] w fun e w' => e = .returned unitV ∧ AllPost n₀ a xs w w' :=
  callsIn_wide.1 (allC_in 3 (Nat.le_refl _) b a n₀ C S xs k0 w hB hA hn₀ hC hC1 hS1)
/-- the values of all cells -/
def AllIs (w : World) (xs : List Int) (e : Ending) (w' : World) : Prop :=
  ∃ u, e = .returned u ∧ Below w.heap.size w w' ∧ w'.ownsRow w.heap.size 47 1 u xs.length (xs.map (.int .u64))
theorem all_any (C S : Nat) (xs : List Int) (k0 : Int) (w : World) (hC : CellsAt w C S xs k0) :
    Calls Tryz.prog 17 #[cellsV C] w (AllIs w xs) := by
  have hCl := hC.own.lt
  have hSl := hC.row.lt
  have hmf : ∀ (fn : Fn) (first cap : Array Value) (w : World), (Instr.makeFunc fn first cap).run Tryz.prog w = .ok (.func fn first cap) w := fun _ _ _ _ => rfl
  go_enter Tryz.func17, Tryz.ntmps17
  go_upto_region 2 with fail
  generalize hW : (w.alloc _).alloc _ = W
  have bW : Below w.heap.size w W := by rw [← hW]; go_grown
  have cW : Blk W w.heap.size 26 #[cellsV C] := by rw [← hW]; exact (Blk.new w _ _).alloc _
  have aW : Boxed W (w.heap.size + 1) 38 (.slice none 0 0) := by rw [← hW]; exact blk_two w _ _ _
  have CW : CellsAt W C S xs k0 := hC.keep (Keep.ofBelow (Q := fun _ => False) bW) (fun h => h) (fun h => h)
  clear hW
  have HA := Lib.hid (attempt_any 97 _ W _ call_allC (allC_any w.heap.size (w.heap.size + 1) w.heap.size C S xs k0 W cW aW (by omega) CW hCl hSl))
  go_upto_region 3 with (refine HA.out.mono ?_; rintro e w1 ⟨rfl, hb, u, hu, hrow⟩)
  obtain ⟨ua, ul, uc, rfl⟩ : ∃ ua ul uc, u = .slice ua ul uc := by
    rcases hrow.2 with ⟨rfl, _⟩ | ⟨g, cap, cur, rfl, _⟩
    · exact ⟨_, _, _, rfl⟩
    · exact ⟨_, _, _, rfl⟩
  have u0 := hu.cell
  go_wp2_with fail
  go_ret
  exact ⟨_, rfl, bW.trans hb, hrow⟩
/- nil cells -/
set_option maxRecDepth 100000 in
set_option maxHeartbeats 2000000 in
theorem valuesN_in (n : Nat) (hn : 1 ≤ n) (l Bn n₀ : Nat) (J Jx : List Int → World → Prop)
    (hJ : ∀ pre W W', J pre W → Below W.heap.size W W' → J pre W')
    (W : World) (hB : Blk W Bn 26 #[.pointer none]) (h0 : J [] W) :
    CallsIn Fence.wide n Tryz.prog 175 #[.func (.yield l) #[] #[], .pointer (some ⟨Bn, 0, none⟩)] W fun e W' => (∃ v, e = .returned v) ∧
      ((∃ ys, ys = [] ∧ J ys W') ∨ (∃ pre, pre <+: [] ∧ Jx pre W')) := by
  have hro : Fence.wide.round = none := rfl
  have c0 := hB.cell 0 _ rfl
  have HLen := Lib.hid (len_nil W)
  refine callsIn_of_wp Tryz.func175 rfl trivial ?_ hro
  simp only [Tryz.ntmps175, List.size_toArray, List.length_cons, List.length_nil, Nat.reduceAdd, Nat.reduceSub, Array.replicate_succ, Array.replicate_zero, List.push_toArray, List.append_toArray, List.nil_append, List.cons_append]
  gi_wp2_with (refine ⟨trivial, ?_⟩; gi_at_call 101; refine (callsIn_wide.2 HLen.out).mono ?_; rintro e w1 ⟨rfl, hb⟩)
  have J1 := hJ [] W w1 h0 hb
  clear c0
  gi_loopw [6] (fun i wr => i = .int .i64 0 ∧ J [] wr)
    (fun i wr => 0)
  case atStart => exact ⟨rfl, J1⟩
  case round =>
    obtain ⟨rfl, hJ2⟩ := hrel
    gi_wp2
    go_end0
    exact ⟨⟨_, rfl⟩, .inl ⟨[], rfl, hJ2⟩⟩
theorem valuesN_stops (n : Nat) (hn : 1 ≤ n) (Bn n₀ : Nat) (w : World) (hB : Blk w Bn 26 #[.pointer none]) :
    SeqStopsK Fence.wide n Tryz.prog 175 #[.pointer (some ⟨Bn, 0, none⟩)] (fun x : Int => #[.int .u64 x]) (Kc n₀ Bn) (fun ys => ys = []) (fun pre => pre <+: []) 0 w := fun l J Jx W hW hJ _ hY h0 =>
  valuesN_in n hn l Bn n₀ J Jx (fun pre W W' h hb => hJ pre W W' none h (grown_of_below hb) (fun r e => by cases e)) W (hB.below hW hB.lt) h0
theorem valuesN_call (n : Nat) (w : World) :
    CallsIn Fence.wide n Tryz.prog 98 #[.pointer none] w fun e w' => e = .returned (.func (.func 175) #[] #[.pointer (some ⟨w.heap.size, 0, none⟩)]) ∧ w' = w.alloc (.cells #[.pointer none] 26) := by
  have hro : Fence.wide.round = none := rfl
  refine callsIn_of_wp Tryz.func98 rfl trivial ?_ hro
  simp only [Tryz.ntmps98, List.size_toArray, List.length_cons, List.length_nil, Nat.reduceAdd, Nat.reduceSub, Array.replicate_succ, Array.replicate_zero, List.push_toArray, List.append_toArray, List.nil_append, List.cons_append]
  gi_wp2
  go_ret
  exact ⟨rfl, by simp⟩
set_option maxRecDepth 100000 in
set_option maxHeartbeats 4000000 in
theorem allN_in (n : Nat) (hn : 3 ≤ n) (b a n₀ : Nat) (w : World) (hB : Blk w b 26 #[.pointer none]) (hA : Boxed w a 38 (.slice none 0 0)) (hn₀ : n₀ ≤ a) :
    CallsIn Fence.wide n Tryz.prog 97 #[.pointer (some ⟨b, 0, none⟩), .pointer (some ⟨a, 0, none⟩)] w fun e w' => e = .returned unitV ∧ Below n₀ w w' ∧ Boxed w' a 38 (.slice none 0 0) := by
  have h1 : 1 ≤ n := by omega
  have hro : Fence.wide.round = none := rfl
  have halt := hA.lt
  have c0 := hB.cell 0 _ rfl
  refine callsIn_of_wp_marks Tryz.func97 rfl trivial ?_ hro
  simp only [Tryz.ntmps97, List.size_toArray, List.length_cons, List.length_nil, Nat.reduceAdd, Nat.reduceSub, Array.replicate_succ, Array.replicate_zero, List.push_toArray, List.append_toArray, List.nil_append, List.cons_append]
  gi_wp2_with (refine ⟨trivial, ?_⟩; gi_at_call 98; refine (valuesN_call (n - 1) _).mono ?_; rintro e w' ⟨rfl, rfl⟩)
  have bn : Blk (w.alloc (.cells #[.pointer none] 26)) w.heap.size 26 #[.pointer none] := Blk.new w _ _
  have hB0 : Below w.heap.size w (w.alloc (.cells #[.pointer none] 26)) := (Below.refl _ w).alloc (Nat.le_refl _) _
  have hsz : (w.alloc (.cells #[.pointer none] 26)).heap.size = w.heap.size + 1 := by simp
  have bA := hA.alloc (.cells #[.pointer none] 26)
  obtain ⟨W0, hW0⟩ : ∃ W0, w.alloc (.cells #[.pointer none] 26) = W0 := ⟨_, rfl⟩
  rw [hW0] at bn hB0 hsz bA ⊢
  clear hW0
  refine wpIn_rangeFunc_ownH hro h1 (gf := 175) (lb := #[.pointer (some ⟨w.heap.size, 0, none⟩)]) rfl trivial (enters_of Tryz.func175 (by kernel_rfl) rfl)
    (valuesN_stops (n - 1) (by omega) w.heap.size n₀ W0 bn) kc_t (kc_b (by omega) (by omega)) (Below.refl _ _) (fun _ => rfl)
    (fun (pre : List Int) W => (pre = [] ∧ Boxed W a 38 (.slice none 0 0)) ∧ Below n₀ w W)
    (fun c pre W => False)
    (OwnFrom.and (OwnFrom.and (ownFrom_pure _ _) (Own.from (boxed_own _ _ (fun _ => .slice none 0 0)) _)) (ownFrom_below (by omega) (by omega)))
    (fun c => ownFrom_pure _ _)
    ⟨⟨rfl, bA⟩, hB0.mono (by omega)⟩
    (fun x a' W => True)
    (fun x a' _ X Y row hs hg hr => hs)
    ?assign ?body ?done ?stop
  case assign =>
    rintro l pre x W K hI hK
    gi_wp2
    exact hK _ _ (KeepsFrom.refl _ _) ⟨Below.refl _ _, rfl⟩ hI trivial
  case body =>
    rintro l pre x a' W hl ⟨r, hr⟩ _ _ hlt
    exact absurd hlt (Nat.not_lt_zero _)
  case done =>
    rintro D ys W hD rfl ⟨⟨_, bF1⟩, hB1⟩ hK
    gi_wp2
    refine ⟨by simp, .inl ⟨_, _, rfl, run_takeDeferred hK, ?_⟩⟩
    exact ⟨_, results_none rfl _ _ _, rfl, hB1.trans (belowK_b (w := w) (by omega) W D _ _ (by omega) hK rfl rfl), bF1.kept (grownBy_putObj' _ D (.deferred none)) (fun e => by cases e; omega)⟩
  case stop =>
    rintro D c pre W hD hpre h hK
    exact h.elim
theorem all_nil (w : World) : Calls Tryz.prog 17 #[.pointer none] w fun e w' => e = .returned (.slice none 0 0) ∧ Below w.heap.size w w' := by
  have hmf : ∀ (fn : Fn) (first cap : Array Value) (w : World), (Instr.makeFunc fn first cap).run Tryz.prog w = .ok (.func fn first cap) w := fun _ _ _ _ => rfl
  go_enter Tryz.func17, Tryz.ntmps17
  go_upto_region 2 with fail
  generalize hW : (w.alloc _).alloc _ = W
  have bW : Below w.heap.size w W := by rw [← hW]; go_grown
  have cW : Blk W w.heap.size 26 #[.pointer none] := by rw [← hW]; exact (Blk.new w _ _).alloc _
  have aW : Boxed W (w.heap.size + 1) 38 (.slice none 0 0) := by rw [← hW]; exact blk_two w _ _ _
  clear hW
  have HA := Lib.hid (attempt_any 97 _ W _ call_allC (callsIn_wide.1 (allN_in 3 (Nat.le_refl _) w.heap.size (w.heap.size + 1) w.heap.size W cW aW (by omega))))
  go_upto_region 3 with (refine HA.out.mono ?_; rintro e w1 ⟨rfl, hb, hu⟩)
  have u0 := hu.cell
  go_wp2_with fail
  go_ret
  exact ⟨rfl, bW.trans hb⟩
end Go.Proofs.YtldofbkjjmnooaaGreat
