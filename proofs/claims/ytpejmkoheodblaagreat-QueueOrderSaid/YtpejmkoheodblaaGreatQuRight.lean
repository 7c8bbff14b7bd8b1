/- Package queue: which arguments are right. Written by tools/gen_quright.py. -/
import Derived.Test.YtpejmkoheodblaaGreatQuA
import Derived.Test.YtpejmkoheodblaaGreatQuRef
namespace Go.Proofs.YtpejmkoheodblaaGreat
open Go.ChangeShapes Go.WideShapes Go.ChangeAt Go.RowKit
set_option linter.unusedVariables false
set_option maxRecDepth 100000
set_option linter.unusedSimpArgs false
/-- are a map, cells, and a place right? -/
def fitS (m : Mp) (n a : Int) : Bool := decide ((sizeN m : Int) ≤ n) && decide (0 ≤ a) && decide (a < n - 1)
theorem right_ok {m : Mp} (h : m.ok) : rightS m.t m.o m.n = true := by
  have h1 := h.t
  have h2 := h.o
  have h3 := h.n
  simp [rightS]
  omega
theorem right_mp {t o k : Int} (h : rightS t o k = true) : ∃ m : Mp, m.ok ∧ t = m.t ∧ o = m.o ∧ k = m.n := by
  simp [rightS] at h
  exact ⟨⟨t.toNat, o.toNat, k.toNat⟩, ⟨by simp; omega, by simp; omega, by simp; omega⟩, by simp; omega, by simp; omega, by simp; omega⟩
theorem qright_none_wrong (t o k n a : Int) (w : World) (h : rightS t o k = false) : Calls Tryz.prog 51 #[.int .i64 n, .agg #[.int .i64 t, .int .i64 o, .int .i64 k], .int .i64 a, .slice none 0 0] w fun e w' => e = .returned (.bool false) ∧ Below w.heap.size w w' := by
  have HR := Lib.hid fun W => right_any t o k W
  rw [h] at HR
  clear h
  go_enter Tryz.func51, Tryz.ntmps51
  go_upto_region 2 with fail
  generalize hW : (w.alloc _) = W
  have bW : Below w.heap.size w W := by rw [← hW]; go_grown
  have q0 : Blk W w.heap.size 24 #[.int .i64 t, .int .i64 o, .int .i64 k] := by rw [← hW]; exact Blk.new w _ _
  clear hW
  have c0 : W.cell? ⟨w.heap.size, 0, none⟩ = some (.int .i64 t) := q0.cell 0 _ rfl
  have c1 : W.cell? ⟨w.heap.size, 1, none⟩ = some (.int .i64 o) := q0.cell 1 _ rfl
  have c2 : W.cell? ⟨w.heap.size, 2, none⟩ = some (.int .i64 k) := q0.cell 2 _ rfl
  clear q0
  go_loopw [13] (fun v wr => v = .int .i64 0 ∧ wr = W) (fun v _ => 0)
  case atStart => exact ⟨rfl, rfl⟩
  case round =>
    obtain ⟨rfl, rfl⟩ := hrel
    go_wp2_with (go_at_call 76; refine (HR.out _).mono ?_; rintro e w2 ⟨rfl, b2⟩)
    go_ret
    exact ⟨rfl, bW.trans (b2.mono bW.size)⟩
theorem qright_one_wrong (t o k n a u : Int) (B : Nat) (w : World) (h : rightS t o k = false) (hB : B < w.heap.size) (hu : w.cell? ⟨B, 0, none⟩ = some (.int .i64 u)) : Calls Tryz.prog 51 #[.int .i64 n, .agg #[.int .i64 t, .int .i64 o, .int .i64 k], .int .i64 a, .slice (some ⟨B, 0, none⟩) 1 1] w fun e w' => e = .returned (.bool false) ∧ Below w.heap.size w w' := by
  have HR := Lib.hid fun W => right_any t o k W
  rw [h] at HR
  clear h
  by_cases hin : 0 ≤ u ∧ u < t
  · go_enter Tryz.func51, Tryz.ntmps51
    go_upto_region 2 with fail
    generalize hW : (w.alloc _) = W
    have bW : Below w.heap.size w W := by rw [← hW]; go_grown
    have q0 : Blk W w.heap.size 24 #[.int .i64 t, .int .i64 o, .int .i64 k] := by rw [← hW]; exact Blk.new w _ _
    have d0 : W.cell? ⟨B, 0, none⟩ = some (.int .i64 u) := (bW.cell (p := ⟨B, 0, none⟩) hB).trans hu
    have hix := idx_qints 1 1 B 0 0 (by omega)
    clear hW
    have c0 : W.cell? ⟨w.heap.size, 0, none⟩ = some (.int .i64 t) := q0.cell 0 _ rfl
    have c1 : W.cell? ⟨w.heap.size, 1, none⟩ = some (.int .i64 o) := q0.cell 1 _ rfl
    have c2 : W.cell? ⟨w.heap.size, 2, none⟩ = some (.int .i64 k) := q0.cell 2 _ rfl
    clear q0
    go_loopw [13] (fun v wr => ∃ i : Nat, i ≤ 1 ∧ v = .int .i64 (i : Int) ∧ wr = W) (fun v _ => 1 - (intOf v).toNat)
    case atStart => exact ⟨0, by omega, rfl, rfl⟩
    case round =>
      obtain ⟨i, hi, rfl, rfl⟩ := hrel
      by_cases hi0 : i = 0
      · subst hi0
        have x1 : ¬ u < 0 := by omega
        have x2 : ¬ t ≤ u := by omega
        have x3 : u < t := by omega
        go_wp2_with fail
        go_roundw
        case rel => exact ⟨1, by omega, by go_num, by trivial⟩
        case measure => simp [intOf]
      · obtain rfl : i = 1 := by omega
        clear hix d0
        go_wp2_with (go_at_call 76; refine (HR.out _).mono ?_; rintro e w2 ⟨rfl, b2⟩)
        go_ret
        exact ⟨rfl, bW.trans (b2.mono bW.size)⟩
  · go_enter Tryz.func51, Tryz.ntmps51
    go_upto_region 2 with fail
    generalize hW : (w.alloc _) = W
    have bW : Below w.heap.size w W := by rw [← hW]; go_grown
    have q0 : Blk W w.heap.size 24 #[.int .i64 t, .int .i64 o, .int .i64 k] := by rw [← hW]; exact Blk.new w _ _
    have d0 : W.cell? ⟨B, 0, none⟩ = some (.int .i64 u) := (bW.cell (p := ⟨B, 0, none⟩) hB).trans hu
    have hix := idx_qints 1 1 B 0 0 (by omega)
    clear hW
    have c0 : W.cell? ⟨w.heap.size, 0, none⟩ = some (.int .i64 t) := q0.cell 0 _ rfl
    have c1 : W.cell? ⟨w.heap.size, 1, none⟩ = some (.int .i64 o) := q0.cell 1 _ rfl
    have c2 : W.cell? ⟨w.heap.size, 2, none⟩ = some (.int .i64 k) := q0.cell 2 _ rfl
    clear q0
    go_loopw [13] (fun v wr => v = .int .i64 0 ∧ wr = W) (fun v _ => 0)
    case atStart => exact ⟨rfl, rfl⟩
    case round =>
      obtain ⟨rfl, rfl⟩ := hrel
      by_cases x1 : u < 0
      · go_wp2_with fail
        go_ret
        exact ⟨rfl, bW⟩
      · have x2 : t ≤ u := by omega
        go_wp2_with fail
        go_ret
        exact ⟨rfl, bW⟩
theorem qright_one_out (t o k n a u : Int) (B : Nat) (w : World) (hin : ¬ (0 ≤ u ∧ u < t)) (hB : B < w.heap.size) (hu : w.cell? ⟨B, 0, none⟩ = some (.int .i64 u)) : Calls Tryz.prog 51 #[.int .i64 n, .agg #[.int .i64 t, .int .i64 o, .int .i64 k], .int .i64 a, .slice (some ⟨B, 0, none⟩) 1 1] w fun e w' => e = .returned (.bool false) ∧ Below w.heap.size w w' := by
  go_enter Tryz.func51, Tryz.ntmps51
  go_upto_region 2 with fail
  generalize hW : (w.alloc _) = W
  have bW : Below w.heap.size w W := by rw [← hW]; go_grown
  have q0 : Blk W w.heap.size 24 #[.int .i64 t, .int .i64 o, .int .i64 k] := by rw [← hW]; exact Blk.new w _ _
  have d0 : W.cell? ⟨B, 0, none⟩ = some (.int .i64 u) := (bW.cell (p := ⟨B, 0, none⟩) hB).trans hu
  have hix := idx_qints 1 1 B 0 0 (by omega)
  clear hW
  have c0 : W.cell? ⟨w.heap.size, 0, none⟩ = some (.int .i64 t) := q0.cell 0 _ rfl
  have c1 : W.cell? ⟨w.heap.size, 1, none⟩ = some (.int .i64 o) := q0.cell 1 _ rfl
  have c2 : W.cell? ⟨w.heap.size, 2, none⟩ = some (.int .i64 k) := q0.cell 2 _ rfl
  clear q0
  go_loopw [13] (fun v wr => v = .int .i64 0 ∧ wr = W) (fun v _ => 0)
  case atStart => exact ⟨rfl, rfl⟩
  case round =>
    obtain ⟨rfl, rfl⟩ := hrel
    by_cases x1 : u < 0
    · go_wp2_with fail
      go_ret
      exact ⟨rfl, bW⟩
    · have x2 : t ≤ u := by omega
      go_wp2_with fail
      go_ret
      exact ⟨rfl, bW⟩
set_option maxHeartbeats 1000000 in
theorem qright_none (m : Mp) (n a : Int) (w : World) (hm : m.ok) (hn : 0 ≤ n ∧ n ≤ 100000000) : Calls Tryz.prog 51 #[.int .i64 n, mapV m, .int .i64 a, .slice none 0 0] w fun e w' => e = .returned (.bool (fitS m n a)) ∧ Below w.heap.size w w' := by
  obtain ⟨t, ht⟩ : ∃ t, t = (m.t : Int) := ⟨_, rfl⟩
  obtain ⟨o, ho⟩ : ∃ t, t = (m.o : Int) := ⟨_, rfl⟩
  obtain ⟨k, hk⟩ : ∃ t, t = (m.n : Int) := ⟨_, rfl⟩
  have HR := Lib.hid fun W => right_any m.t m.o m.n W
  rw [right_ok hm] at HR
  have HS := Lib.hid fun W => size_any m W hm
  unfold mapV at HS
  rw [← ht, ← ho, ← hk] at HR HS
  unfold mapV
  rw [← ht, ← ho, ← hk]
  clear hm ht ho hk
  obtain ⟨bb, hbb⟩ : ∃ bb, bb = fitS m n a := ⟨_, rfl⟩
  have HB := Lib.hid hbb
  rw [← hbb]
  clear hbb
  go_enter Tryz.func51, Tryz.ntmps51
  go_upto_region 2 with fail
  generalize hW : (w.alloc _) = W
  have bW : Below w.heap.size w W := by rw [← hW]; go_grown
  have q0 : Blk W w.heap.size 24 #[.int .i64 t, .int .i64 o, .int .i64 k] := by rw [← hW]; exact Blk.new w _ _
  clear hW
  have c0 : W.cell? ⟨w.heap.size, 0, none⟩ = some (.int .i64 t) := q0.cell 0 _ rfl
  have c1 : W.cell? ⟨w.heap.size, 1, none⟩ = some (.int .i64 o) := q0.cell 1 _ rfl
  have c2 : W.cell? ⟨w.heap.size, 2, none⟩ = some (.int .i64 k) := q0.cell 2 _ rfl
  clear q0
  go_loopw [13] (fun v wr => v = .int .i64 0 ∧ wr = W) (fun v _ => 0)
  case atStart => exact ⟨rfl, rfl⟩
  case round =>
    obtain ⟨rfl, rfl⟩ := hrel
    have hl0 : w.heap.size < wr.heap.size := cell_lt6 c0
    have HC := Lib.hid (And.intro c0 (And.intro c1 c2))
    by_cases h1 : (sizeN m : Int) ≤ n
    · by_cases h2 : 0 ≤ a
      · by_cases h3 : a < n - 1
        · obtain rfl : bb = true := HB.out.trans (by simp [fitS, h1, h2, h3])
          clear HB
          generalize ((sizeN m : Nat) : Int) = sz at *
          go_wp2_with (first | (go_at_call 76; refine (HR.out _).mono ?_; rintro e w2 ⟨rfl, b2⟩; clear c0 c1 c2; have c0 := (b2.cell (p := ⟨w.heap.size, 0, none⟩) hl0).trans HC.out.1; have c1 := (b2.cell (p := ⟨w.heap.size, 1, none⟩) hl0).trans HC.out.2.1; have c2 := (b2.cell (p := ⟨w.heap.size, 2, none⟩) hl0).trans HC.out.2.2) | (go_at_call 10; refine (HS.out _).mono ?_; rintro e w3 ⟨rfl, b3⟩))
          go_ret
          exact ⟨rfl, (bW.trans (b2.mono bW.size)).trans (b3.mono (by have := bW.size; have := b2.size; omega))⟩
        · obtain rfl : bb = false := HB.out.trans (by simp [fitS, h1, h2, h3])
          clear HB
          generalize ((sizeN m : Nat) : Int) = sz at *
          go_wp2_with (first | (go_at_call 76; refine (HR.out _).mono ?_; rintro e w2 ⟨rfl, b2⟩; clear c0 c1 c2; have c0 := (b2.cell (p := ⟨w.heap.size, 0, none⟩) hl0).trans HC.out.1; have c1 := (b2.cell (p := ⟨w.heap.size, 1, none⟩) hl0).trans HC.out.2.1; have c2 := (b2.cell (p := ⟨w.heap.size, 2, none⟩) hl0).trans HC.out.2.2) | (go_at_call 10; refine (HS.out _).mono ?_; rintro e w3 ⟨rfl, b3⟩))
          go_ret
          exact ⟨by first | rfl | simp [h3], (bW.trans (b2.mono bW.size)).trans (b3.mono (by have := bW.size; have := b2.size; omega))⟩
      · obtain rfl : bb = false := HB.out.trans (by simp [fitS, h1, h2])
        clear HB
        generalize ((sizeN m : Nat) : Int) = sz at *
        go_wp2_with (first | (go_at_call 76; refine (HR.out _).mono ?_; rintro e w2 ⟨rfl, b2⟩; clear c0 c1 c2; have c0 := (b2.cell (p := ⟨w.heap.size, 0, none⟩) hl0).trans HC.out.1; have c1 := (b2.cell (p := ⟨w.heap.size, 1, none⟩) hl0).trans HC.out.2.1; have c2 := (b2.cell (p := ⟨w.heap.size, 2, none⟩) hl0).trans HC.out.2.2) | (go_at_call 10; refine (HS.out _).mono ?_; rintro e w3 ⟨rfl, b3⟩))
        go_ret
        exact ⟨rfl, (bW.trans (b2.mono bW.size)).trans (b3.mono (by have := bW.size; have := b2.size; omega))⟩
    · obtain rfl : bb = false := HB.out.trans (by simp [fitS, h1])
      clear HB
      generalize ((sizeN m : Nat) : Int) = sz at *
      go_wp2_with (first | (go_at_call 76; refine (HR.out _).mono ?_; rintro e w2 ⟨rfl, b2⟩; clear c0 c1 c2; have c0 := (b2.cell (p := ⟨w.heap.size, 0, none⟩) hl0).trans HC.out.1; have c1 := (b2.cell (p := ⟨w.heap.size, 1, none⟩) hl0).trans HC.out.2.1; have c2 := (b2.cell (p := ⟨w.heap.size, 2, none⟩) hl0).trans HC.out.2.2) | (go_at_call 10; refine (HS.out _).mono ?_; rintro e w3 ⟨rfl, b3⟩))
      go_ret
      exact ⟨rfl, (bW.trans (b2.mono bW.size)).trans (b3.mono (by have := bW.size; have := b2.size; omega))⟩
set_option maxHeartbeats 1000000 in
theorem qright_one (m : Mp) (n a u : Int) (B : Nat) (w : World) (hm : m.ok) (hn : 0 ≤ n ∧ n ≤ 100000000) (hin : 0 ≤ u ∧ u < m.t) (hB : B < w.heap.size) (hu : w.cell? ⟨B, 0, none⟩ = some (.int .i64 u)) : Calls Tryz.prog 51 #[.int .i64 n, mapV m, .int .i64 a, .slice (some ⟨B, 0, none⟩) 1 1] w fun e w' => e = .returned (.bool (fitS m n a)) ∧ Below w.heap.size w w' := by
  obtain ⟨t, ht⟩ : ∃ t, t = (m.t : Int) := ⟨_, rfl⟩
  obtain ⟨o, ho⟩ : ∃ t, t = (m.o : Int) := ⟨_, rfl⟩
  obtain ⟨k, hk⟩ : ∃ t, t = (m.n : Int) := ⟨_, rfl⟩
  have HR := Lib.hid fun W => right_any m.t m.o m.n W
  rw [right_ok hm] at HR
  have HS := Lib.hid fun W => size_any m W hm
  unfold mapV at HS
  rw [← ht, ← ho, ← hk] at HR HS
  unfold mapV
  rw [← ht, ← ho, ← hk]
  rw [← ht] at hin
  clear hm ht ho hk
  obtain ⟨bb, hbb⟩ : ∃ bb, bb = fitS m n a := ⟨_, rfl⟩
  have HB := Lib.hid hbb
  rw [← hbb]
  clear hbb
  go_enter Tryz.func51, Tryz.ntmps51
  go_upto_region 2 with fail
  generalize hW : (w.alloc _) = W
  have bW : Below w.heap.size w W := by rw [← hW]; go_grown
  have q0 : Blk W w.heap.size 24 #[.int .i64 t, .int .i64 o, .int .i64 k] := by rw [← hW]; exact Blk.new w _ _
  have d0 : W.cell? ⟨B, 0, none⟩ = some (.int .i64 u) := (bW.cell (p := ⟨B, 0, none⟩) hB).trans hu
  have hix := idx_qints 1 1 B 0 0 (by omega)
  clear hW
  have c0 : W.cell? ⟨w.heap.size, 0, none⟩ = some (.int .i64 t) := q0.cell 0 _ rfl
  have c1 : W.cell? ⟨w.heap.size, 1, none⟩ = some (.int .i64 o) := q0.cell 1 _ rfl
  have c2 : W.cell? ⟨w.heap.size, 2, none⟩ = some (.int .i64 k) := q0.cell 2 _ rfl
  clear q0
  go_loopw [13] (fun v wr => ∃ i : Nat, i ≤ 1 ∧ v = .int .i64 (i : Int) ∧ wr = W) (fun v _ => 1 - (intOf v).toNat)
  case atStart => exact ⟨0, by omega, rfl, rfl⟩
  case round =>
    obtain ⟨i, hi, rfl, rfl⟩ := hrel
    by_cases hi0 : i = 0
    · subst hi0
      have x1 : ¬ u < 0 := by omega
      have x2 : ¬ t ≤ u := by omega
      have x3 : u < t := by omega
      go_wp2_with fail
      go_roundw
      case rel => exact ⟨1, by omega, by go_num, by trivial⟩
      case measure => simp [intOf]
    · obtain rfl : i = 1 := by omega
      clear hix d0
      have hl0 : w.heap.size < wr.heap.size := cell_lt6 c0
      have HC := Lib.hid (And.intro c0 (And.intro c1 c2))
      by_cases h1 : (sizeN m : Int) ≤ n
      · by_cases h2 : 0 ≤ a
        · by_cases h3 : a < n - 1
          · obtain rfl : bb = true := HB.out.trans (by simp [fitS, h1, h2, h3])
            clear HB
            generalize ((sizeN m : Nat) : Int) = sz at *
            go_wp2_with (first | (go_at_call 76; refine (HR.out _).mono ?_; rintro e w2 ⟨rfl, b2⟩; clear c0 c1 c2; have c0 := (b2.cell (p := ⟨w.heap.size, 0, none⟩) hl0).trans HC.out.1; have c1 := (b2.cell (p := ⟨w.heap.size, 1, none⟩) hl0).trans HC.out.2.1; have c2 := (b2.cell (p := ⟨w.heap.size, 2, none⟩) hl0).trans HC.out.2.2) | (go_at_call 10; refine (HS.out _).mono ?_; rintro e w3 ⟨rfl, b3⟩))
            go_ret
            exact ⟨rfl, (bW.trans (b2.mono bW.size)).trans (b3.mono (by have := bW.size; have := b2.size; omega))⟩
          · obtain rfl : bb = false := HB.out.trans (by simp [fitS, h1, h2, h3])
            clear HB
            generalize ((sizeN m : Nat) : Int) = sz at *
            go_wp2_with (first | (go_at_call 76; refine (HR.out _).mono ?_; rintro e w2 ⟨rfl, b2⟩; clear c0 c1 c2; have c0 := (b2.cell (p := ⟨w.heap.size, 0, none⟩) hl0).trans HC.out.1; have c1 := (b2.cell (p := ⟨w.heap.size, 1, none⟩) hl0).trans HC.out.2.1; have c2 := (b2.cell (p := ⟨w.heap.size, 2, none⟩) hl0).trans HC.out.2.2) | (go_at_call 10; refine (HS.out _).mono ?_; rintro e w3 ⟨rfl, b3⟩))
            go_ret
            exact ⟨by first | rfl | simp [h3], (bW.trans (b2.mono bW.size)).trans (b3.mono (by have := bW.size; have := b2.size; omega))⟩
        · obtain rfl : bb = false := HB.out.trans (by simp [fitS, h1, h2])
          clear HB
          generalize ((sizeN m : Nat) : Int) = sz at *
          go_wp2_with (first | (go_at_call 76; refine (HR.out _).mono ?_; rintro e w2 ⟨rfl, b2⟩; clear c0 c1 c2; have c0 := (b2.cell (p := ⟨w.heap.size, 0, none⟩) hl0).trans HC.out.1; have c1 := (b2.cell (p := ⟨w.heap.size, 1, none⟩) hl0).trans HC.out.2.1; have c2 := (b2.cell (p := ⟨w.heap.size, 2, none⟩) hl0).trans HC.out.2.2) | (go_at_call 10; refine (HS.out _).mono ?_; rintro e w3 ⟨rfl, b3⟩))
          go_ret
          exact ⟨rfl, (bW.trans (b2.mono bW.size)).trans (b3.mono (by have := bW.size; have := b2.size; omega))⟩
      · obtain rfl : bb = false := HB.out.trans (by simp [fitS, h1])
        clear HB
        generalize ((sizeN m : Nat) : Int) = sz at *
        go_wp2_with (first | (go_at_call 76; refine (HR.out _).mono ?_; rintro e w2 ⟨rfl, b2⟩; clear c0 c1 c2; have c0 := (b2.cell (p := ⟨w.heap.size, 0, none⟩) hl0).trans HC.out.1; have c1 := (b2.cell (p := ⟨w.heap.size, 1, none⟩) hl0).trans HC.out.2.1; have c2 := (b2.cell (p := ⟨w.heap.size, 2, none⟩) hl0).trans HC.out.2.2) | (go_at_call 10; refine (HS.out _).mono ?_; rintro e w3 ⟨rfl, b3⟩))
        go_ret
        exact ⟨rfl, (bW.trans (b2.mono bW.size)).trans (b3.mono (by have := bW.size; have := b2.size; omega))⟩
end Go.Proofs.YtpejmkoheodblaaGreat
