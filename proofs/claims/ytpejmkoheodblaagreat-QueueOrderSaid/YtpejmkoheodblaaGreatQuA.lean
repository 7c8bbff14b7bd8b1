/- Package queue: threads and marks; cells of a map; what is behind a thread. -/
import Derived.Test.YtpejmkoheodblaaGreatSeqT
namespace Go.Proofs.YtpejmkoheodblaaGreat
open Go.ChangeShapes Go.WideShapes Go.ChangeAt Go.RowKit
set_option linter.unusedVariables false
set_option maxRecDepth 100000
set_option linter.unusedSimpArgs false
/-- a map -/
structure Mp where
  t : Nat
  o : Nat
  n : Nat
structure Mp.ok (m : Mp) : Prop where
  t : 1 ≤ m.t ∧ m.t ≤ 32766
  o : 1 ≤ m.o ∧ m.o ≤ 65536
  n : m.n ≤ 4096
abbrev mapV (m : Mp) : Value := .agg #[.int .i64 (m.t : Int), .int .i64 (m.o : Int), .int .i64 (m.n : Int)]
abbrev nextV (m : Mp) : Value := .func (.func 26) #[mapV m] #[]
/-- the cell of the thread behind u; what is behind u, or ahead of all -/
def nxN (m : Mp) (u : Int) : Nat := 2 + m.o + 6 * u.toNat
def behN (m : Mp) (a : Nat) (u : Int) : Nat := if u = -1 then a else nxN m u
def sizeN (m : Mp) : Nat := 2 + m.o + 6 * m.t + 8 * m.n
/-- the thread that a cell's value names; by what a task's value is -/
def markedS (m : Mp) (v : Int) : Int := if (m.t : Int) < v then -1 else v - 1
def thrS (m : Mp) (v : Int) : Int := markedS m (IntKind.u64.wrap v)
theorem u64_range (v : Int) : 0 ≤ IntKind.u64.wrap v ∧ IntKind.u64.wrap v < 18446744073709551616 := by
  rw [IntKind.wrap_u64]
  omega
theorem thrS_range (m : Mp) (v : Int) : -1 ≤ thrS m v ∧ thrS m v < m.t := by
  have := u64_range v
  unfold thrS markedS
  split <;> omega
theorem thrS_of {m : Mp} {v : Int} (h : 0 ≤ v ∧ v ≤ m.t) (hm : m.t ≤ 32766) : thrS m v = v - 1 := by
  unfold thrS markedS
  rw [IntKind.wrap_u64]
  have : v % 18446744073709551616 = v := by omega
  rw [this, if_neg (by omega)]
abbrev lineV (C a : Nat) (m : Mp) : Value := .agg #[cellsV C, .int .i64 (a : Int), .int .i64 ((a : Int) + 1), nextV m, .int .i64 (m.t : Int)]
theorem mark_any (u : Int) (w : World) (h : -1 ≤ u ∧ u ≤ 100000) : Calls Tryz.prog 80 #[.int .i64 u] w fun e w' => e = .returned (.int .u64 (u + 1)) ∧ w = w' := by
  have e1 : IntKind.u64.wrap (u + 1) = u + 1 := by rw [IntKind.wrap_u64]; omega
  go_enter Tryz.func80, Tryz.ntmps80
  go_wp2
  go_ret
  exact ⟨rfl, rfl⟩
theorem thread_any (m : Mp) (u : Int) (w : World) (hm : m.ok) (h : 0 ≤ u ∧ u < m.t) : Calls Tryz.prog 59 #[mapV m, .int .i64 u] w fun e w' => e = .returned (.int .i64 (nxN m u : Int)) ∧ Below w.heap.size w w' := by
  have e1 : ((nxN m u : Nat) : Int) = 2 + (m.o : Int) + 6 * u := by unfold nxN; omega
  have h1 := hm.t
  have h2 := hm.o
  rw [e1]
  clear e1 hm
  go_enter Tryz.func59, Tryz.ntmps59
  go_wp2
  go_ret
  exact ⟨rfl, by go_grown⟩
theorem next_any (m : Mp) (u : Int) (w : World) (hm : m.ok) (h : 0 ≤ u ∧ u < m.t) : Calls Tryz.prog 26 #[mapV m, .int .i64 u] w fun e w' => e = .returned (.int .i64 (nxN m u : Int)) ∧ Below w.heap.size w w' := by
  have HT := Lib.hid fun W => thread_any m u W hm h
  clear hm h
  go_enter Tryz.func26, Tryz.ntmps26
  go_wp2_with (go_at_call 59; refine (HT.out _).mono ?_; rintro e w2 ⟨rfl, b2⟩)
  go_ret
  exact ⟨rfl, ((Below.refl _ w).alloc (Nat.le_refl _) _).trans (b2.mono (by simp))⟩
theorem size_any (m : Mp) (w : World) (hm : m.ok) : Calls Tryz.prog 10 #[mapV m] w fun e w' => e = .returned (.int .i64 (sizeN m : Int)) ∧ Below w.heap.size w w' := by
  have e1 : ((sizeN m : Nat) : Int) = 2 + (m.o : Int) + 6 * (m.t : Int) + 8 * (m.n : Int) := by unfold sizeN; omega
  have h1 := hm.t
  have h2 := hm.o
  have h3 := hm.n
  rw [e1]
  clear e1 hm
  go_enter Tryz.func10, Tryz.ntmps10
  go_wp2
  go_ret
  exact ⟨rfl, by go_grown⟩
/-- may there be such a map? -/
def rightS (t o n : Int) : Bool := decide (1 ≤ t ∧ t ≤ 32766 ∧ 1 ≤ o ∧ o ≤ 65536 ∧ 0 ≤ n ∧ n ≤ 4096)
theorem right_any (t o n : Int) (w : World) : Calls Tryz.prog 76 #[.agg #[.int .i64 t, .int .i64 o, .int .i64 n]] w fun e w' => e = .returned (.bool (rightS t o n)) ∧ Below w.heap.size w w' := by
  by_cases h1 : 1 ≤ t
  · by_cases h2 : t ≤ 32766
    · by_cases h3 : 1 ≤ o
      · by_cases h4 : o ≤ 65536
        · by_cases h5 : 0 ≤ n
          · by_cases h6 : n ≤ 4096
            · have e : rightS t o n = true := by simp [rightS, *]
              rw [e]
              clear e
              go_enter Tryz.func76, Tryz.ntmps76
              go_wp2
              go_ret
              exact ⟨rfl, by go_grown⟩
            · have e : rightS t o n = false := by simp [rightS, *]
              rw [e]
              clear e
              go_enter Tryz.func76, Tryz.ntmps76
              go_wp2
              go_ret
              exact ⟨rfl, by go_grown⟩
          · have e : rightS t o n = false := by simp [rightS, *]
            rw [e]
            clear e
            go_enter Tryz.func76, Tryz.ntmps76
            go_wp2
            go_ret
            exact ⟨rfl, by go_grown⟩
        · have e : rightS t o n = false := by simp [rightS, *]
          rw [e]
          clear e
          go_enter Tryz.func76, Tryz.ntmps76
          go_wp2
          go_ret
          exact ⟨rfl, by go_grown⟩
      · have e : rightS t o n = false := by simp [rightS, *]
        rw [e]
        clear e
        go_enter Tryz.func76, Tryz.ntmps76
        go_wp2
        go_ret
        exact ⟨rfl, by go_grown⟩
    · have e : rightS t o n = false := by simp [rightS, *]
      rw [e]
      clear e
      go_enter Tryz.func76, Tryz.ntmps76
      go_wp2
      go_ret
      exact ⟨rfl, by go_grown⟩
  · have e : rightS t o n = false := by simp [rightS, *]
    rw [e]
    clear e
    go_enter Tryz.func76, Tryz.ntmps76
    go_wp2
    go_ret
    exact ⟨rfl, by go_grown⟩
theorem marked_any (C a : Nat) (m : Mp) (v : Int) (w : World) (hm : m.ok) (hv : 0 ≤ v ∧ v < 18446744073709551616) : Calls Tryz.prog 92 #[lineV C a m, .int .u64 v] w fun e w' => e = .returned (.int .i64 (markedS m v)) ∧ Below w.heap.size w w' := by
  have h1 := hm.t
  have e1 : IntKind.u64.wrap (m.t : Int) = m.t := by rw [IntKind.wrap_u64]; omega
  clear hm
  by_cases h : (m.t : Int) < v
  · have e : markedS m v = -1 := by simp [markedS, h]
    rw [e]
    clear e hv
    go_enter Tryz.func92, Tryz.ntmps92
    go_wp2
    go_ret
    exact ⟨rfl, by go_grown⟩
  · have e : markedS m v = v - 1 := by simp [markedS, h]
    have e2 : IntKind.i64.wrap v = v := IntWalk.i64_in _ ⟨by omega, by omega⟩
    rw [e]
    have hv2 : 0 ≤ v ∧ v ≤ 100000 := by omega
    clear e hv
    go_enter Tryz.func92, Tryz.ntmps92
    go_wp2
    go_ret
    exact ⟨rfl, by go_grown⟩
theorem behind_any (C a : Nat) (m : Mp) (u : Int) (w : World) (hm : m.ok) (h : -1 ≤ u ∧ u < m.t) : Calls Tryz.prog 84 #[lineV C a m, .int .i64 u] w fun e w' => e = .returned (.int .i64 (behN m a u : Int)) ∧ Below w.heap.size w w' := by
  by_cases hu : u = -1
  · subst hu
    have e : ((behN m a (-1) : Nat) : Int) = a := by simp [behN]
    rw [e]
    clear e
    go_enter Tryz.func84, Tryz.ntmps84
    go_wp2
    go_ret
    exact ⟨rfl, by go_grown⟩
  · have e : behN m a u = nxN m u := by simp [behN, hu]
    have HN := Lib.hid fun W => next_any m u W hm (by omega)
    rw [e]
    clear e hm h
    go_enter Tryz.func84, Tryz.ntmps84
    go_wp2_with (go_at_call 26; refine (HN.out _).mono ?_; rintro e w2 ⟨rfl, b2⟩)
    go_ret
    exact ⟨rfl, ((Below.refl _ w).alloc (Nat.le_refl _) _).trans (b2.mono (by simp))⟩
end Go.Proofs.YtpejmkoheodblaaGreat
