/- Maps: which cell is what. -/
import Derived.Test.YtbaehokffdpopaaGreatCellsD
namespace Go.Proofs.YtbaehokffdpopaaGreat
open Go.ChangeShapes Go.WideShapes Go.ChangeAt Go.RowKit
set_option linter.unusedVariables false
set_option maxRecDepth 100000
set_option linter.unusedSimpArgs false
theorem bdrewP (w : World) : Below w.heap.size w w.drew := ⟨rfl, rfl, rfl, Nat.le_refl _, fun _ _ => rfl⟩
/-- a map -/
structure Mp where
  t : Nat
  o : Nat
  n : Nat
structure Mp.ok (m : Mp) : Prop where
  t : 1 ≤ m.t ∧ m.t ≤ 32766
  o : 1 ≤ m.o ∧ m.o ≤ 65536
  n : m.n ≤ 4096
abbrev mapV (m : Mp) : Value := .agg #[.int .i64 (m.t : Int), .int .i64 (m.o : Int), .int .i64 (m.n : Int)]
/-- the cell of the thread behind u; what is behind u, or ahead of all -/
def nxN (m : Mp) (u : Int) : Nat := 2 + m.o + 6 * u.toNat
def sizeN (m : Mp) : Nat := 2 + m.o + 6 * m.t + 8 * m.n
/-- the first cell of a monitor; its Link, its Gen -/
def monN (m : Mp) (k : Int) : Nat := 2 + m.o + 6 * m.t + 8 * k.toNat
def linkN (m : Mp) (k : Int) : Nat := monN m k + 7
def genN (m : Mp) (k : Int) : Nat := monN m k + 6
def wordN (o : Int) : Nat := 2 + o.toNat
def safeN (m : Mp) (u : Int) : Nat := nxN m u + 4
def stateN (m : Mp) (u : Int) : Nat := nxN m u + 1
def holdN (m : Mp) (k : Int) : Nat := monN m k + 1
theorem linkN_eq {m : Mp} {k : Int} (h : 0 ≤ k) : ((linkN m k : Nat) : Int) = 2 + (m.o : Int) + 6 * (m.t : Int) + 8 * k + 7 := by unfold linkN monN; omega
theorem genN_eq {m : Mp} {k : Int} (h : 0 ≤ k) : ((genN m k : Nat) : Int) = 2 + (m.o : Int) + 6 * (m.t : Int) + 8 * k + 6 := by unfold genN monN; omega
theorem linkN_lt {m : Mp} {k : Int} (h : 0 ≤ k ∧ k < m.n) : linkN m k < sizeN m := by unfold linkN monN sizeN; omega
theorem genN_lt {m : Mp} {k : Int} (h : 0 ≤ k ∧ k < m.n) : genN m k < sizeN m := by unfold genN monN sizeN; omega
theorem linkN_inj {m : Mp} {j k : Int} (hj : 0 ≤ j) (hk : 0 ≤ k) (h : linkN m j = linkN m k) : j = k := by unfold linkN monN at h; omega
theorem linkN_gen {m : Mp} {j k : Int} (hj : 0 ≤ j) (hk : 0 ≤ k) : linkN m j ≠ genN m k := by unfold linkN genN monN; omega
theorem linkN_two {m : Mp} {k : Int} : 9 ≤ linkN m k := by unfold linkN monN; omega
theorem genN_two {m : Mp} {k : Int} : 8 ≤ genN m k := by unfold genN monN; omega
theorem thread_any (m : Mp) (u : Int) (w : World) (hm : m.ok) (h : 0 ≤ u ∧ u < m.t) : Calls Tryz.prog 88 #[mapV m, .int .i64 u] w fun e w' => e = .returned (.int .i64 (nxN m u : Int)) ∧ Below w.heap.size w w' := by
  have e1 : ((nxN m u : Nat) : Int) = 2 + (m.o : Int) + 6 * u := by unfold nxN; omega
  have h1 := hm.t
  have h2 := hm.o
  rw [e1]
  clear e1 hm
  go_enter Tryz.func88, Tryz.ntmps88
  go_wp2
  go_ret
  exact ⟨rfl, by go_grown⟩
theorem size_any (m : Mp) (w : World) (hm : m.ok) : Calls Tryz.prog 43 #[mapV m] w fun e w' => e = .returned (.int .i64 (sizeN m : Int)) ∧ Below w.heap.size w w' := by
  have e1 : ((sizeN m : Nat) : Int) = 2 + (m.o : Int) + 6 * (m.t : Int) + 8 * (m.n : Int) := by unfold sizeN; omega
  have h1 := hm.t
  have h2 := hm.o
  have h3 := hm.n
  rw [e1]
  clear e1 hm
  go_enter Tryz.func43, Tryz.ntmps43
  go_wp2
  go_ret
  exact ⟨rfl, by go_grown⟩
/-- may there be such a map? -/
def rightS (t o n : Int) : Bool := decide (1 ≤ t ∧ t ≤ 32766 ∧ 1 ≤ o ∧ o ≤ 65536 ∧ 0 ≤ n ∧ n ≤ 4096)
theorem right_any (t o n : Int) (w : World) : Calls Tryz.prog 25 #[.agg #[.int .i64 t, .int .i64 o, .int .i64 n]] w fun e w' => e = .returned (.bool (rightS t o n)) ∧ Below w.heap.size w w' := by
  by_cases h1 : 1 ≤ t
  · by_cases h2 : t ≤ 32766
    · by_cases h3 : 1 ≤ o
      · by_cases h4 : o ≤ 65536
        · by_cases h5 : 0 ≤ n
          · by_cases h6 : n ≤ 4096
            · have e : rightS t o n = true := by simp [rightS, *]
              rw [e]
              clear e
              go_enter Tryz.func25, Tryz.ntmps25
              go_wp2
              go_ret
              exact ⟨rfl, by go_grown⟩
            · have e : rightS t o n = false := by simp [rightS, *]
              rw [e]
              clear e
              go_enter Tryz.func25, Tryz.ntmps25
              go_wp2
              go_ret
              exact ⟨rfl, by go_grown⟩
          · have e : rightS t o n = false := by simp [rightS, *]
            rw [e]
            clear e
            go_enter Tryz.func25, Tryz.ntmps25
            go_wp2
            go_ret
            exact ⟨rfl, by go_grown⟩
        · have e : rightS t o n = false := by simp [rightS, *]
          rw [e]
          clear e
          go_enter Tryz.func25, Tryz.ntmps25
          go_wp2
          go_ret
          exact ⟨rfl, by go_grown⟩
      · have e : rightS t o n = false := by simp [rightS, *]
        rw [e]
        clear e
        go_enter Tryz.func25, Tryz.ntmps25
        go_wp2
        go_ret
        exact ⟨rfl, by go_grown⟩
    · have e : rightS t o n = false := by simp [rightS, *]
      rw [e]
      clear e
      go_enter Tryz.func25, Tryz.ntmps25
      go_wp2
      go_ret
      exact ⟨rfl, by go_grown⟩
  · have e : rightS t o n = false := by simp [rightS, *]
    rw [e]
    clear e
    go_enter Tryz.func25, Tryz.ntmps25
    go_wp2
    go_ret
    exact ⟨rfl, by go_grown⟩
theorem safe_any (m : Mp) (u : Int) (w : World) (hm : m.ok) (h : 0 ≤ u ∧ u < m.t) : Calls Tryz.prog 33 #[mapV m, .int .i64 u] w fun e w' => e = .returned (.int .i64 (safeN m u : Int)) ∧ Below w.heap.size w w' := by
  have HT := Lib.hid fun W => thread_any m u W hm h
  have e1 : ((safeN m u : Nat) : Int) = (nxN m u : Int) + 4 := by unfold safeN; omega
  have e2 : (nxN m u : Int) ≤ 1000000 := by have := hm.t; have := hm.o; unfold nxN; omega
  rw [e1]
  clear hm h e1
  generalize nxN m u = x at *
  go_enter Tryz.func33, Tryz.ntmps33
  go_wp2_with (go_at_call 88; refine (HT.out _).mono ?_; rintro e w2 ⟨rfl, b2⟩)
  go_ret
  exact ⟨rfl, ((Below.refl _ w).alloc (Nat.le_refl _) _).trans (b2.mono (by simp))⟩
theorem state_any (m : Mp) (u : Int) (w : World) (hm : m.ok) (h : 0 ≤ u ∧ u < m.t) : Calls Tryz.prog 48 #[mapV m, .int .i64 u] w fun e w' => e = .returned (.int .i64 (stateN m u : Int)) ∧ Below w.heap.size w w' := by
  have HT := Lib.hid fun W => thread_any m u W hm h
  have e1 : ((stateN m u : Nat) : Int) = (nxN m u : Int) + 1 := by unfold stateN; omega
  have e2 : (nxN m u : Int) ≤ 1000000 := by have := hm.t; have := hm.o; unfold nxN; omega
  rw [e1]
  clear hm h e1
  generalize nxN m u = x at *
  go_enter Tryz.func48, Tryz.ntmps48
  go_wp2_with (go_at_call 88; refine (HT.out _).mono ?_; rintro e w2 ⟨rfl, b2⟩)
  go_ret
  exact ⟨rfl, ((Below.refl _ w).alloc (Nat.le_refl _) _).trans (b2.mono (by simp))⟩
theorem mword_any (m : Mp) (u : Int) (w : World) (h : 0 ≤ u ∧ u ≤ 100000) : Calls Tryz.prog 44 #[mapV m, .int .i64 u] w fun e w' => e = .returned (.int .i64 (wordN u : Int)) ∧ Below w.heap.size w w' := by
  have e1 : ((wordN u : Nat) : Int) = 2 + u := by unfold wordN; omega
  rw [e1]
  clear e1
  go_enter Tryz.func44, Tryz.ntmps44
  go_wp2
  go_ret
  exact ⟨rfl, by go_grown⟩
theorem mon_any (m : Mp) (k : Int) (w : World) (hm : m.ok) (h : 0 ≤ k ∧ k ≤ 5000) : Calls Tryz.prog 79 #[mapV m, .int .i64 k] w fun e w' => e = .returned (.int .i64 (2 + (m.o : Int) + 6 * (m.t : Int) + 8 * k)) ∧ Below w.heap.size w w' := by
  have h1 := hm.t
  have h2 := hm.o
  clear hm
  go_enter Tryz.func79, Tryz.ntmps79
  go_wp2
  go_ret
  exact ⟨rfl, by go_grown⟩
theorem link_any (m : Mp) (k : Int) (w : World) (hm : m.ok) (h : 0 ≤ k ∧ k ≤ 5000) : Calls Tryz.prog 20 #[mapV m, .int .i64 k] w fun e w' => e = .returned (.int .i64 (linkN m k : Nat)) ∧ Below w.heap.size w w' := by
  have h1 := hm.t
  have h2 := hm.o
  rw [linkN_eq h.1]
  have HT := Lib.hid fun W => mon_any m k W hm h
  clear hm
  go_enter Tryz.func20, Tryz.ntmps20
  go_wp2_with (go_at_call 79; refine (HT.out _).mono ?_; rintro e w2 ⟨rfl, b2⟩)
  go_ret
  exact ⟨rfl, ((Below.refl _ w).alloc (Nat.le_refl _) _).trans (b2.mono (by simp))⟩
theorem hold_any (m : Mp) (k : Int) (w : World) (hm : m.ok) (h : 0 ≤ k ∧ k ≤ 5000) : Calls Tryz.prog 46 #[mapV m, .int .i64 k] w fun e w' => e = .returned (.int .i64 (holdN m k : Nat)) ∧ Below w.heap.size w w' := by
  have h1 := hm.t
  have h2 := hm.o
  rw [show ((holdN m k : Nat) : Int) = 2 + (m.o : Int) + 6 * (m.t : Int) + 8 * k + 1 by unfold holdN monN; omega]
  have HT := Lib.hid fun W => mon_any m k W hm h
  clear hm
  go_enter Tryz.func46, Tryz.ntmps46
  go_wp2_with (go_at_call 79; refine (HT.out _).mono ?_; rintro e w2 ⟨rfl, b2⟩)
  go_ret
  exact ⟨rfl, ((Below.refl _ w).alloc (Nat.le_refl _) _).trans (b2.mono (by simp))⟩
theorem head_any (m : Mp) (w : World) : Calls Tryz.prog 19 #[mapV m] w fun e w' => e = .returned (.int .i64 1) ∧ Below w.heap.size w w' := by
  go_enter Tryz.func19, Tryz.ntmps19
  go_wp2
  go_ret
  exact ⟨rfl, by go_grown⟩
theorem pmark_any (u : Int) (w : World) (h : -1 ≤ u ∧ u ≤ 100000) : Calls Tryz.prog 119 #[.int .i64 u] w fun e w' => e = .returned (.int .u64 (u + 1)) ∧ w = w' := by
  have e1 : IntKind.u64.wrap (u + 1) = u + 1 := by rw [IntKind.wrap_u64]; omega
  go_enter Tryz.func119, Tryz.ntmps119
  go_wp2
  go_ret
  exact ⟨rfl, rfl⟩
theorem pright_yes (m : Mp) (n : Int) (w : World) (hm : m.ok) : Calls Tryz.prog 76 #[.int .i64 n, mapV m] w fun e w' => e = .returned (.bool (decide ((sizeN m : Int) ≤ n))) ∧ Below w.heap.size w w' := by
  have HR := Lib.hid fun W => right_any (m.t : Int) (m.o : Int) (m.n : Int) W
  have e : rightS (m.t : Int) (m.o : Int) (m.n : Int) = true := by
    have h1 := hm.t
    have h2 := hm.o
    have h3 := hm.n
    simp [rightS]
    omega
  rw [e] at HR
  have HS := Lib.hid fun W => size_any m W hm
  clear hm e
  go_enter Tryz.func76, Tryz.ntmps76
  go_upto_region 1 with fail
  generalize hW : (w.alloc _) = W
  have bW : Below w.heap.size w W := by rw [← hW]; go_grown
  have m0 : Blk W w.heap.size 28 #[.int .i64 (m.t : Int), .int .i64 (m.o : Int), .int .i64 (m.n : Int)] := by rw [← hW]; exact Blk.new w _ _
  clear hW
  have c0 := m0.cell 0 _ rfl
  have c1 := m0.cell 1 _ rfl
  have c2 := m0.cell 2 _ rfl
  go_wp2_with (first
    | (go_at_call 25; refine (HR.out _).mono ?_; rintro e w2 ⟨rfl, b2⟩; have m2 := m0.below b2 m0.lt; clear c0 c1 c2; have c0 := m2.cell 0 _ rfl; have c1 := m2.cell 1 _ rfl; have c2 := m2.cell 2 _ rfl)
    | (go_at_call 43; refine (HS.out _).mono ?_; rintro e w3 ⟨rfl, b3⟩))
  go_ret
  exact ⟨rfl, bW.trans ((b2.trans (b3.mono b2.size)).mono bW.size)⟩
theorem pright_no (n t o k : Int) (w : World) (h : rightS t o k = false) : Calls Tryz.prog 76 #[.int .i64 n, .agg #[.int .i64 t, .int .i64 o, .int .i64 k]] w fun e w' => e = .returned (.bool false) ∧ Below w.heap.size w w' := by
  have HR := Lib.hid fun W => right_any t o k W
  rw [h] at HR
  clear h
  go_enter Tryz.func76, Tryz.ntmps76
  go_upto_region 1 with fail
  generalize hW : (w.alloc _) = W
  have bW : Below w.heap.size w W := by rw [← hW]; go_grown
  have m0 : Blk W w.heap.size 28 #[.int .i64 t, .int .i64 o, .int .i64 k] := by rw [← hW]; exact Blk.new w _ _
  clear hW
  have c0 := m0.cell 0 _ rfl
  have c1 := m0.cell 1 _ rfl
  have c2 := m0.cell 2 _ rfl
  go_wp2_with (first
    | (go_at_call 25; refine (HR.out _).mono ?_; rintro e w2 ⟨rfl, b2⟩))
  go_ret
  exact ⟨rfl, bW.trans (b2.mono bW.size)⟩
end Go.Proofs.YtbaehokffdpopaaGreat
