/- Maps: which cell is what. -/
import Derived.Test.YtmknnjjmmfbppaaGreatMgBegAC
import Derived.LoopTactic
namespace Go.Proofs.YtmknnjjmmfbppaaGreat
open Go.ChangeShapes Go.WideShapes Go.ChangeAt Go.RowKit
set_option linter.unusedVariables false
set_option maxRecDepth 100000
set_option linter.unusedSimpArgs false
theorem bdrewP (w : World) : Below w.heap.size w w.drew := ⟨rfl, rfl, rfl, Nat.le_refl _, fun _ _ => rfl⟩
/-- a map -/
structure Mp where
  t : Nat
  o : Nat
  n : Nat
structure Mp.ok (m : Mp) : Prop where
  t : 1 ≤ m.t ∧ m.t ≤ 32766
  o : 1 ≤ m.o ∧ m.o ≤ 65536
  n : m.n ≤ 4096
abbrev mapV (m : Mp) : Value := .agg #[.int .i64 (m.t : Int), .int .i64 (m.o : Int), .int .i64 (m.n : Int)]
/-- the cell of the thread behind u; what is behind u, or ahead of all -/
def nxN (m : Mp) (u : Int) : Nat := 2 + m.o + 6 * u.toNat
def sizeN (m : Mp) : Nat := 2 + m.o + 6 * m.t + 8 * m.n
/-- the first cell of a monitor; its Link, its Gen -/
def monN (m : Mp) (k : Int) : Nat := 2 + m.o + 6 * m.t + 8 * k.toNat
def linkN (m : Mp) (k : Int) : Nat := monN m k + 7
def genN (m : Mp) (k : Int) : Nat := monN m k + 6
def wordN (o : Int) : Nat := 2 + o.toNat
def safeN (m : Mp) (u : Int) : Nat := nxN m u + 4
def stateN (m : Mp) (u : Int) : Nat := nxN m u + 1
def holdN (m : Mp) (k : Int) : Nat := monN m k + 1
theorem linkN_eq {m : Mp} {k : Int} (h : 0 ≤ k) : ((linkN m k : Nat) : Int) = 2 + (m.o : Int) + 6 * (m.t : Int) + 8 * k + 7 := by unfold linkN monN; omega
theorem genN_eq {m : Mp} {k : Int} (h : 0 ≤ k) : ((genN m k : Nat) : Int) = 2 + (m.o : Int) + 6 * (m.t : Int) + 8 * k + 6 := by unfold genN monN; omega
theorem linkN_lt {m : Mp} {k : Int} (h : 0 ≤ k ∧ k < m.n) : linkN m k < sizeN m := by unfold linkN monN sizeN; omega
theorem genN_lt {m : Mp} {k : Int} (h : 0 ≤ k ∧ k < m.n) : genN m k < sizeN m := by unfold genN monN sizeN; omega
theorem linkN_inj {m : Mp} {j k : Int} (hj : 0 ≤ j) (hk : 0 ≤ k) (h : linkN m j = linkN m k) : j = k := by unfold linkN monN at h; omega
theorem linkN_gen {m : Mp} {j k : Int} (hj : 0 ≤ j) (hk : 0 ≤ k) : linkN m j ≠ genN m k := by unfold linkN genN monN; omega
theorem linkN_two {m : Mp} {k : Int} : 9 ≤ linkN m k := by unfold linkN monN; omega
theorem genN_two {m : Mp} {k : Int} : 8 ≤ genN m k := by unfold genN monN; omega
theorem thread_any (m : Mp) (u : Int) (w : World) (hm : m.ok) (h : 0 ≤ u ∧ u < m.t) : Calls Tryz.prog 92 #[mapV m, .int .i64 u] w fun e w' => e = .returned (.int .i64 (nxN m u : Int)) ∧ Below w.heap.size w w' := by
  have e1 : ((nxN m u : Nat) : Int) = 2 + (m.o : Int) + 6 * u := by unfold nxN; omega
  have h1 := hm.t
  have h2 := hm.o
  rw [e1]
  clear e1 hm
  go_enter Tryz.func92, Tryz.ntmps92
  go_wp2
  go_ret
  exact ⟨rfl, by go_grown⟩
theorem size_any (m : Mp) (w : World) (hm : m.ok) : Calls Tryz.prog 51 #[mapV m] w fun e w' => e = .returned (.int .i64 (sizeN m : Int)) ∧ Below w.heap.size w w' := by
  have e1 : ((sizeN m : Nat) : Int) = 2 + (m.o : Int) + 6 * (m.t : Int) + 8 * (m.n : Int) := by unfold sizeN; omega
  have h1 := hm.t
  have h2 := hm.o
  have h3 := hm.n
  rw [e1]
  clear e1 hm
  go_enter Tryz.func51, Tryz.ntmps51
  go_wp2
  go_ret
  exact ⟨rfl, by go_grown⟩
/-- may there be such a map? -/
def rightS (t o n : Int) : Bool := decide (1 ≤ t ∧ t ≤ 32766 ∧ 1 ≤ o ∧ o ≤ 65536 ∧ 0 ≤ n ∧ n ≤ 4096)
theorem right_any (t o n : Int) (w : World) : Calls Tryz.prog 22 #[.agg #[.int .i64 t, .int .i64 o, .int .i64 n]] w fun e w' => e = .returned (.bool (rightS t o n)) ∧ Below w.heap.size w w' := by
  by_cases h1 : 1 ≤ t
  · by_cases h2 : t ≤ 32766
    · by_cases h3 : 1 ≤ o
      · by_cases h4 : o ≤ 65536
        · by_cases h5 : 0 ≤ n
          · by_cases h6 : n ≤ 4096
            · have e : rightS t o n = true := by simp [rightS, *]
              rw [e]
              clear e
              go_enter Tryz.func22, Tryz.ntmps22
              go_wp2
              go_ret
              exact ⟨rfl, by go_grown⟩
            · have e : rightS t o n = false := by simp [rightS, *]
              rw [e]
              clear e
              go_enter Tryz.func22, Tryz.ntmps22
              go_wp2
              go_ret
              exact ⟨rfl, by go_grown⟩
          · have e : rightS t o n = false := by simp [rightS, *]
            rw [e]
            clear e
            go_enter Tryz.func22, Tryz.ntmps22
            go_wp2
            go_ret
            exact ⟨rfl, by go_grown⟩
        · have e : rightS t o n = false := by simp [rightS, *]
          rw [e]
          clear e
          go_enter Tryz.func22, Tryz.ntmps22
          go_wp2
          go_ret
          exact ⟨rfl, by go_grown⟩
      · have e : rightS t o n = false := by simp [rightS, *]
        rw [e]
        clear e
        go_enter Tryz.func22, Tryz.ntmps22
        go_wp2
        go_ret
        exact ⟨rfl, by go_grown⟩
    · have e : rightS t o n = false := by simp [rightS, *]
      rw [e]
      clear e
      go_enter Tryz.func22, Tryz.ntmps22
      go_wp2
      go_ret
      exact ⟨rfl, by go_grown⟩
  · have e : rightS t o n = false := by simp [rightS, *]
    rw [e]
    clear e
    go_enter Tryz.func22, Tryz.ntmps22
    go_wp2
    go_ret
    exact ⟨rfl, by go_grown⟩
theorem safe_any (m : Mp) (u : Int) (w : World) (hm : m.ok) (h : 0 ≤ u ∧ u < m.t) : Calls Tryz.prog 54 #[mapV m, .int .i64 u] w fun e w' => e = .returned (.int .i64 (safeN m u : Int)) ∧ Below w.heap.size w w' := by
  have HT := Lib.hid fun W => thread_any m u W hm h
  have e1 : ((safeN m u : Nat) : Int) = (nxN m u : Int) + 4 := by unfold safeN; omega
  have e2 : (nxN m u : Int) ≤ 1000000 := by have := hm.t; have := hm.o; unfold nxN; omega
  rw [e1]
  clear hm h e1
  generalize nxN m u = x at *
  go_enter Tryz.func54, Tryz.ntmps54
  go_wp2_with (go_at_call 92; refine (HT.out _).mono ?_; rintro e w2 ⟨rfl, b2⟩)
  go_ret
  exact ⟨rfl, ((Below.refl _ w).alloc (Nat.le_refl _) _).trans (b2.mono (by simp))⟩
theorem state_any (m : Mp) (u : Int) (w : World) (hm : m.ok) (h : 0 ≤ u ∧ u < m.t) : Calls Tryz.prog 37 #[mapV m, .int .i64 u] w fun e w' => e = .returned (.int .i64 (stateN m u : Int)) ∧ Below w.heap.size w w' := by
  have HT := Lib.hid fun W => thread_any m u W hm h
  have e1 : ((stateN m u : Nat) : Int) = (nxN m u : Int) + 1 := by unfold stateN; omega
  have e2 : (nxN m u : Int) ≤ 1000000 := by have := hm.t; have := hm.o; unfold nxN; omega
  rw [e1]
  clear hm h e1
  generalize nxN m u = x at *
  go_enter Tryz.func37, Tryz.ntmps37
  go_wp2_with (go_at_call 92; refine (HT.out _).mono ?_; rintro e w2 ⟨rfl, b2⟩)
  go_ret
  exact ⟨rfl, ((Below.refl _ w).alloc (Nat.le_refl _) _).trans (b2.mono (by simp))⟩
theorem mword_any (m : Mp) (u : Int) (w : World) (h : 0 ≤ u ∧ u ≤ 100000) : Calls Tryz.prog 53 #[mapV m, .int .i64 u] w fun e w' => e = .returned (.int .i64 (wordN u : Int)) ∧ Below w.heap.size w w' := by
  have e1 : ((wordN u : Nat) : Int) = 2 + u := by unfold wordN; omega
  rw [e1]
  clear e1
  go_enter Tryz.func53, Tryz.ntmps53
  go_wp2
  go_ret
  exact ⟨rfl, by go_grown⟩
theorem mon_any (m : Mp) (k : Int) (w : World) (hm : m.ok) (h : 0 ≤ k ∧ k ≤ 5000) : Calls Tryz.prog 61 #[mapV m, .int .i64 k] w fun e w' => e = .returned (.int .i64 (2 + (m.o : Int) + 6 * (m.t : Int) + 8 * k)) ∧ Below w.heap.size w w' := by
  have h1 := hm.t
  have h2 := hm.o
  clear hm
  go_enter Tryz.func61, Tryz.ntmps61
  go_wp2
  go_ret
  exact ⟨rfl, by go_grown⟩
theorem link_any (m : Mp) (k : Int) (w : World) (hm : m.ok) (h : 0 ≤ k ∧ k ≤ 5000) : Calls Tryz.prog 17 #[mapV m, .int .i64 k] w fun e w' => e = .returned (.int .i64 (linkN m k : Nat)) ∧ Below w.heap.size w w' := by
  have h1 := hm.t
  have h2 := hm.o
  rw [linkN_eq h.1]
  have HT := Lib.hid fun W => mon_any m k W hm h
  clear hm
  go_enter Tryz.func17, Tryz.ntmps17
  go_wp2_with (go_at_call 61; refine (HT.out _).mono ?_; rintro e w2 ⟨rfl, b2⟩)
  go_ret
  exact ⟨rfl, ((Below.refl _ w).alloc (Nat.le_refl _) _).trans (b2.mono (by simp))⟩
theorem hold_any (m : Mp) (k : Int) (w : World) (hm : m.ok) (h : 0 ≤ k ∧ k ≤ 5000) : Calls Tryz.prog 41 #[mapV m, .int .i64 k] w fun e w' => e = .returned (.int .i64 (holdN m k : Nat)) ∧ Below w.heap.size w w' := by
  have h1 := hm.t
  have h2 := hm.o
  rw [show ((holdN m k : Nat) : Int) = 2 + (m.o : Int) + 6 * (m.t : Int) + 8 * k + 1 by unfold holdN monN; omega]
  have HT := Lib.hid fun W => mon_any m k W hm h
  clear hm
  go_enter Tryz.func41, Tryz.ntmps41
  go_wp2_with (go_at_call 61; refine (HT.out _).mono ?_; rintro e w2 ⟨rfl, b2⟩)
  go_ret
  exact ⟨rfl, ((Below.refl _ w).alloc (Nat.le_refl _) _).trans (b2.mono (by simp))⟩
theorem head_any (m : Mp) (w : World) : Calls Tryz.prog 16 #[mapV m] w fun e w' => e = .returned (.int .i64 1) ∧ Below w.heap.size w w' := by
  go_enter Tryz.func16, Tryz.ntmps16
  go_wp2
  go_ret
  exact ⟨rfl, by go_grown⟩
theorem pmark_any (u : Int) (w : World) (h : -1 ≤ u ∧ u ≤ 100000) : Calls Tryz.prog 170 #[.int .i64 u] w fun e w' => e = .returned (.int .u64 (u + 1)) ∧ w = w' := by
  have e1 : IntKind.u64.wrap (u + 1) = u + 1 := by rw [IntKind.wrap_u64]; omega
  go_enter Tryz.func170, Tryz.ntmps170
  go_wp2
  go_ret
  exact ⟨rfl, rfl⟩
theorem pright_yes (m : Mp) (n : Int) (w : World) (hm : m.ok) : Calls Tryz.prog 58 #[.int .i64 n, mapV m] w fun e w' => e = .returned (.bool (decide ((sizeN m : Int) ≤ n))) ∧ Below w.heap.size w w' := by
  have HR := Lib.hid fun W => right_any (m.t : Int) (m.o : Int) (m.n : Int) W
  have e : rightS (m.t : Int) (m.o : Int) (m.n : Int) = true := by
    have h1 := hm.t
    have h2 := hm.o
    have h3 := hm.n
    simp [rightS]
    omega
  rw [e] at HR
  have HS := Lib.hid fun W => size_any m W hm
  clear hm e
  go_enter Tryz.func58, Tryz.ntmps58
  go_upto_region 1 with fail
  generalize hW : (w.alloc _) = W
  have bW : Below w.heap.size w W := by rw [← hW]; go_grown
  have m0 : Blk W w.heap.size 28 #[.int .i64 (m.t : Int), .int .i64 (m.o : Int), .int .i64 (m.n : Int)] := by rw [← hW]; exact Blk.new w _ _
  clear hW
  have c0 := m0.cell 0 _ rfl
  have c1 := m0.cell 1 _ rfl
  have c2 := m0.cell 2 _ rfl
  go_wp2_with (first
    | (go_at_call 22; refine (HR.out _).mono ?_; rintro e w2 ⟨rfl, b2⟩; have m2 := m0.below b2 m0.lt; clear c0 c1 c2; have c0 := m2.cell 0 _ rfl; have c1 := m2.cell 1 _ rfl; have c2 := m2.cell 2 _ rfl)
    | (go_at_call 51; refine (HS.out _).mono ?_; rintro e w3 ⟨rfl, b3⟩))
  go_ret
  exact ⟨rfl, bW.trans ((b2.trans (b3.mono b2.size)).mono bW.size)⟩
theorem pright_no (n t o k : Int) (w : World) (h : rightS t o k = false) : Calls Tryz.prog 58 #[.int .i64 n, .agg #[.int .i64 t, .int .i64 o, .int .i64 k]] w fun e w' => e = .returned (.bool false) ∧ Below w.heap.size w w' := by
  have HR := Lib.hid fun W => right_any t o k W
  rw [h] at HR
  clear h
  go_enter Tryz.func58, Tryz.ntmps58
  go_upto_region 1 with fail
  generalize hW : (w.alloc _) = W
  have bW : Below w.heap.size w W := by rw [← hW]; go_grown
  have m0 : Blk W w.heap.size 28 #[.int .i64 t, .int .i64 o, .int .i64 k] := by rw [← hW]; exact Blk.new w _ _
  clear hW
  have c0 := m0.cell 0 _ rfl
  have c1 := m0.cell 1 _ rfl
  have c2 := m0.cell 2 _ rfl
  go_wp2_with (first
    | (go_at_call 22; refine (HR.out _).mono ?_; rintro e w2 ⟨rfl, b2⟩))
  go_ret
  exact ⟨rfl, bW.trans (b2.mono bW.size)⟩
end Go.Proofs.YtmknnjjmmfbppaaGreat
/- Package pool: Lay. -/
namespace Go.Proofs.YtmknnjjmmfbppaaGreat
open Go.ChangeShapes Go.WideShapes Go.ChangeAt Go.RowKit
set_option linter.unusedVariables false
set_option maxRecDepth 100000
set_option linter.unusedSimpArgs false
def bhN (n j : Nat) : Int := if j = 0 then 0 else (n : Int) - j + 1
def layGo (m : Mp) (mm : List Int) : Nat → List Int
  | 0 => mm
  | j + 1 => (layGo m mm j).set (linkN m ((m.n : Int) - 1 - j)) (bhN m.n j)
def layL (m : Mp) (mm : List Int) : List Int := (layGo m mm m.n).set 1 (bhN m.n m.n)
theorem layGo_len (m : Mp) (mm : List Int) : ∀ j, (layGo m mm j).length = mm.length
  | 0 => rfl
  | j + 1 => by simp [layGo, layGo_len m mm j]
theorem layL_len (m : Mp) (mm : List Int) : (layL m mm).length = mm.length := by simp [layL, layGo_len]
theorem layGo_other (m : Mp) (mm : List Int) (i : Nat) (h : ∀ k : Int, 0 ≤ k → k < m.n → i ≠ linkN m k) : ∀ j, j ≤ m.n → (layGo m mm j)[i]? = mm[i]?
  | 0, _ => rfl
  | j + 1, hj => by
    rw [layGo, List.getElem?_set_ne (Ne.symm (h _ (by omega) (by omega)))]
    exact layGo_other m mm i h j (by omega)
theorem layGo_link (m : Mp) (mm : List Int) (hs : sizeN m ≤ mm.length) (k : Nat) (hk : k < m.n) : ∀ j, j ≤ m.n → m.n - j ≤ k → (layGo m mm j)[linkN m (k : Int)]? = some (bhN m.n (m.n - 1 - k))
  | 0, _, h => by omega
  | j + 1, hj, h => by
    rw [layGo]
    by_cases e : k = m.n - 1 - j
    · have e2 : (m.n : Int) - 1 - (j : Int) = (k : Int) := by omega
      rw [e2, List.getElem?_set_self (by rw [layGo_len]; have := linkN_lt (m := m) (k := (k : Int)) ⟨by omega, by omega⟩; omega)]
      rw [show m.n - 1 - k = j by omega]
    · rw [List.getElem?_set_ne (fun h2 => e (by have := linkN_inj (m := m) (by omega) (by omega) h2; omega))]
      exact layGo_link m mm hs k hk j (by omega) (by omega)
abbrev mapCs (m : Mp) : Array Value := #[.int .i64 (m.t : Int), .int .i64 (m.o : Int), .int .i64 (m.n : Int)]
theorem map3 {w : World} {b : Nat} {m : Mp} (h : Blk w b 28 (mapCs m)) : w.cell? ⟨b, 0, none⟩ = some (.int .i64 (m.t : Int)) ∧ w.cell? ⟨b, 1, none⟩ = some (.int .i64 (m.o : Int)) ∧ w.cell? ⟨b, 2, none⟩ = some (.int .i64 (m.n : Int)) := ⟨h.cell 0 _ rfl, h.cell 1 _ rfl, h.cell 2 _ rfl⟩
theorem bhN_eq (n j : Nat) (h : 0 < j) : bhN n j = (n : Int) - j + 1 := by unfold bhN; rw [if_neg (by omega)]
set_option maxHeartbeats 4000000 in
theorem lay_any (C S : Nat) (m : Mp) (mm : List Int) (k0 : Int) (w : World) (hm : m.ok) (hC : CellsAt w C S mm k0) (hs : sizeN m ≤ mm.length) (h0 : 0 ≤ k0 ∧ k0 ≤ 1000000) :
    Calls Tryz.prog 101 #[cellsV C, mapV m] w fun e w' => e = .returned (.bool true) ∧ CellsAt w' C S (layL m mm) (k0 + m.n + 1) ∧ Keep (ofCells C S) w w' := by
  have HR := Lib.hid fun V => pright_yes m (mm.length : Int) V hm
  rw [show decide ((sizeN m : Int) ≤ (mm.length : Int)) = true by simp; omega] at HR
  have hmn := hm.n
  have HL := Lib.hid fun V (hV : Below w.heap.size w V) => len_any C S mm k0 V (hC.keep (Keep.ofBelow (Q := fun _ => False) hV) (fun h => h) (fun h => h))
  have HC := Lib.hid hC
  have HM := Lib.hid hm
  have HS := Lib.hid hs
  have hCl := hC.own.lt
  have hSl := hC.row.lt
  clear hC hm hs
  go_enter Tryz.func101, Tryz.ntmps101
  go_upto_region 1 with fail
  generalize hW : (w.alloc _) = W
  have bW : Below w.heap.size w W := by rw [← hW]; go_grown
  have m0 : Blk W w.heap.size 28 (mapCs m) := by rw [← hW]; exact Blk.new w _ _
  clear hW
  have hml := m0.lt
  have SK := Lib.hid (show ∀ V, Below W.heap.size W V → V.cell? ⟨w.heap.size, 0, none⟩ = some (.int .i64 (m.t : Int)) ∧ V.cell? ⟨w.heap.size, 1, none⟩ = some (.int .i64 (m.o : Int)) ∧ V.cell? ⟨w.heap.size, 2, none⟩ = some (.int .i64 (m.n : Int)) from fun V hk => map3 (m0.below hk hml))
  have bd := bdrewP W
  have HL1 := Lib.hid (HL.out W.drew (bW.trans (bd.mono bW.size)))
  go_region_held3 (fun V => V.cell? ⟨w.heap.size, 0, none⟩ = some (.int .i64 (m.t : Int)) ∧ V.cell? ⟨w.heap.size, 1, none⟩ = some (.int .i64 (m.o : Int)) ∧ V.cell? ⟨w.heap.size, 2, none⟩ = some (.int .i64 (m.n : Int))) (first | exact SK.out _ b3 | exact SK.out _ b2 | exact SK.out _ bd) (first
    | (go_at_call 107; refine HL1.out.mono ?_; rintro e w2 ⟨rfl, hb2⟩; have b2 : Below W.heap.size W w2 := bd.trans hb2)
    | (go_at_call 58; refine (HR.out _).mono ?_; rintro e w3 ⟨rfl, hb3⟩; have b3 : Below W.heap.size W w3 := b2.trans (hb3.mono b2.size)))
  have m3 := m0.below b3 hml
  have kW : Keep (ofCells C S) w w3 := (Keep.ofBelow bW).trans (Keep.ofBelow b3)
  have C3 := HC.out.keep (Keep.ofBelow (Q := fun _ => False) (bW.trans (b3.mono bW.size))) (fun h => h) (fun h => h)
  obtain ⟨c0, c1, c2⟩ := map3 m3
  clear m0 SK HL HL1 bd b2 b3 hb2 hb3 bW
  go_wp2_with (go_at_call 170; refine (pmark_any (-1) _ (by omega)).mono ?_; rintro e w4 ⟨rfl, rfl⟩)
  have HM3 := Lib.hid m3
  have HC3 := Lib.hid C3
  have HKW := Lib.hid kW
  clear m3 C3 kW c0 c1 c2
  go_loopw [5, 6] (fun v5 v6 wr => ∃ (j : Nat) (b z : Int), j ≤ m.n ∧ b = bhN m.n j ∧ z = (m.n : Int) - 1 - j ∧ v5 = .int .u64 b ∧ v6 = .int .i64 z ∧ CellsAt wr C S (layGo m mm j) (k0 + j) ∧ Blk wr w.heap.size 28 (mapCs m) ∧ Keep (ofCells C S) w wr)
    (fun _ v6 _ => (intOf v6 + 1).toNat)
  case atStart => exact ⟨0, 0, (m.n : Int) - 1, by omega, rfl, by omega, rfl, rfl, by simpa [layGo] using HC3.out, HM3.out, HKW.out⟩
  case round =>
    obtain ⟨j, b, z, hj, hb, hz, rfl, rfl, hC, hB, hk⟩ := hrel
    obtain ⟨c0, c1, c2⟩ := map3 hB
    have HCr := Lib.hid hC
    have HBr := Lib.hid hB
    have HKr := Lib.hid hk
    by_cases hlt : j < m.n
    · have hzr : 0 ≤ z ∧ z ≤ 5000 := by omega
      have hzn : z < m.n := by omega
      have HX := Lib.hid fun V => link_any m z V HM.out hzr
      have hin : linkN m z < (layGo m mm j).length := by rw [layGo_len]; have := linkN_lt (m := m) ⟨hzr.1, hzn⟩; have := HS.out; omega
      have hbl : w.heap.size < wr.heap.size := hB.lt
      have HST := Lib.hid fun V (hV : Below wr.heap.size wr V) => store_yes C S (layGo m mm j) (k0 + j) (linkN m z) _ b V (HCr.out.keep (Keep.ofBelow (Q := fun _ => False) hV) (fun h => h) (fun h => h)) (List.getElem?_eq_getElem hin) (by omega) (by omega)
      have HK := Lib.hid fun V => pmark_any z V (by omega)
      have Hb := Lib.hid hb
      have Hz := Lib.hid hz
      have HJ := Lib.hid hlt
      clear hC hB hk hb hz hzn hin hlt hj
      go_wp2_with (first
        | (go_at_call 17; refine (HX.out _).mono ?_; rintro e w5 ⟨rfl, b5⟩; have HST2 := Lib.hid (HST.out w5 b5))
        | (go_at_call 40; refine HST2.out.mono ?_; rintro e w6 ⟨rfl, h6, k6⟩)
        | (go_at_call 170; refine (HK.out _).mono ?_; rintro e w7 ⟨rfl, rfl⟩))
      go_roundw
      case rel =>
        have hz := Hz.out
        have hb := Hb.out
        have hlt := HJ.out
        have k56 : Keep (ofCells C S) wr w6 := (Keep.ofBelow b5).trans k6
        refine ⟨j + 1, z + 1, z - 1, hlt, ?_, by omega, rfl, rfl, ?_, HBr.out.keep k56 (fun h => by rcases h with h | h <;> omega), HKr.out.trans k56⟩
        · rw [bhN_eq _ _ (by omega)]
          omega
        · rw [layGo, ← hz, ← hb, Int.natCast_add, ← Int.add_assoc]
          exact h6
      case measure => simp [intOf]; omega
    · obtain rfl : j = m.n := by omega
      have hzr : ¬ (0 ≤ z) := by omega
      have hin : 1 < (layGo m mm m.n).length := by rw [layGo_len]; have := HS.out; unfold sizeN at this; omega
      have HST := Lib.hid fun V (hV : Below wr.heap.size wr V) => (show Calls Tryz.prog 40 #[cellsV C, .int .i64 1, .int .u64 b] V fun e w' => e = .returned (.bool true) ∧ CellsAt w' C S ((layGo m mm m.n).set 1 b) (k0 + m.n + 1) ∧ Keep (ofCells C S) V w' from store_yes C S (layGo m mm m.n) (k0 + m.n) 1 _ b V (HCr.out.keep (Keep.ofBelow (Q := fun _ => False) hV) (fun h => h) (fun h => h)) (List.getElem?_eq_getElem hin) (by omega) (by omega))
      have Hb := Lib.hid hb
      clear hC hB hk hb hz hin hlt hj
      go_wp2_with (first
        | (go_at_call 16; refine (head_any m _).mono ?_; rintro e w5 ⟨rfl, b5⟩; have HST2 := Lib.hid (HST.out w5 b5))
        | (go_at_call 40; refine HST2.out.mono ?_; rintro e w6 ⟨rfl, h6, k6⟩))
      go_ret
      refine ⟨rfl, ?_, HKr.out.trans ((Keep.ofBelow b5).trans k6)⟩
      rw [Hb.out] at h6
      exact h6
end Go.Proofs.YtmknnjjmmfbppaaGreat
