/- Package pool: the pool as a list, in the values of cells (pure part). No program is walked here. -/
import Derived.Test.YtmknnjjmmfbppaaGreatMgBegBD
import Derived.Test.YtmknnjjmmfbppaaGreatMgBegAD
import Derived.Test.YtmknnjjmmfbppaaGreatMgBegBC
namespace Go.Proofs.YtmknnjjmmfbppaaGreat
set_option linter.unusedVariables false
set_option linter.unusedSimpArgs false
/-- the numbers below n, in rising order -/
def upL (n : Nat) : List Int := (List.range n).map fun k : Nat => (k : Int)
theorem upL_len (n : Nat) : (upL n).length = n := by simp [upL]
theorem upL_at {n k : Nat} (h : k < n) : (upL n)[k]? = some (k : Int) := by simp [upL, h]
theorem upL_mem {n : Nat} {x : Int} : x ∈ upL n ↔ 0 ≤ x ∧ x < n := by
  unfold upL
  rw [List.mem_map]
  constructor
  · rintro ⟨k, hk, rfl⟩
    have := List.mem_range.1 hk
    omega
  · intro h
    exact ⟨x.toNat, List.mem_range.2 (by omega), by omega⟩
theorem upL_nodup (n : Nat) : (upL n).Nodup := by
  unfold upL
  rw [List.nodup_iff_pairwise_ne, List.pairwise_map]
  have := List.nodup_range (n := n)
  rw [List.nodup_iff_pairwise_ne] at this
  exact this.imp fun h e => h (by omega)
theorem upL_drop {n k : Nat} : headOf ((upL n).drop k) = if k < n then (k : Int) + 1 else 0 := by
  by_cases h : k < n
  · have hl : k < (upL n).length := by rw [upL_len]; exact h
    rw [List.drop_eq_getElem_cons hl, if_pos h]
    have := upL_at h
    rw [List.getElem?_eq_getElem hl] at this
    simp [headOf, Option.some.inj this]
  · rw [List.drop_eq_nil_of_le (by rw [upL_len]; omega), if_neg h]
    rfl
/-- the pool, in the cells -/
structure PIs (m : Mp) (mm : List Int) (L : List Int) : Prop where
  len : sizeN m ≤ mm.length
  head : mm[1]? = some (headOf L)
  next : ∀ (k : Nat) x, L[k]? = some x → mm[linkN m x]? = some (headOf (L.drop (k + 1)))
  nodup : L.Nodup
  low : ∀ x ∈ L, 0 ≤ x ∧ x < (m.n : Int)
theorem PIs.congr {m : Mp} {mm mm' L : List Int} (h : PIs m mm L) (hl : mm'.length = mm.length) (h1 : mm'[1]? = mm[1]?) (h2 : ∀ x ∈ L, mm'[linkN m x]? = mm[linkN m x]?) : PIs m mm' L :=
  ⟨by rw [hl]; exact h.len, h1.trans h.head, fun k x hx => (h2 x (List.mem_of_getElem? hx)).trans (h.next k x hx), h.nodup, h.low⟩
/-- a cell that is none of the pool's -/
theorem PIs.set {m : Mp} {mm L : List Int} (h : PIs m mm L) (i : Nat) (v : Int) (h1 : i ≠ 1) (h2 : ∀ x ∈ L, i ≠ linkN m x) : PIs m (mm.set i v) L :=
  h.congr (by simp) (by rw [List.getElem?_set_ne h1]) (fun x hx => by rw [List.getElem?_set_ne (h2 x hx)])
theorem PIs.pop {m : Mp} {mm r : List Int} {x : Int} (h : PIs m mm (x :: r)) : PIs m (mm.set 1 (headOf r)) r := by
  have hl := h.len
  have hs : 1 < mm.length := by unfold sizeN at hl; omega
  refine ⟨by simpa using hl, by rw [List.getElem?_set_self hs], fun k y hy => ?_, (List.nodup_cons.1 h.nodup).2, fun y hy => h.low y (List.mem_cons_of_mem _ hy)⟩
  have h9 := linkN_two (m := m) (k := y)
  rw [List.getElem?_set_ne (by omega)]
  exact h.next (k + 1) y (by simpa using hy)
theorem PIs.push {m : Mp} {mm L : List Int} {x : Int} (h : PIs m mm L) (hx : 0 ≤ x ∧ x < (m.n : Int)) (hn : x ∉ L) (hk : mm[linkN m x]? = some (headOf L)) : PIs m (mm.set 1 (x + 1)) (x :: L) := by
  have hl := h.len
  have hs : 1 < mm.length := by unfold sizeN at hl; omega
  refine ⟨by simpa using hl, by rw [List.getElem?_set_self hs]; rfl, fun k y hy => ?_, List.nodup_cons.2 ⟨hn, h.nodup⟩, fun y hy => ?_⟩
  · have h9 := linkN_two (m := m) (k := y)
    rw [List.getElem?_set_ne (by omega)]
    cases k with
    | zero =>
      simp at hy
      subst hy
      simpa using hk
    | succ k => simpa using h.next k y (by simpa using hy)
  · rcases List.mem_cons.1 hy with rfl | hy
    · exact hx
    · exact h.low y hy
theorem PIs.headr {m : Mp} {mm L : List Int} (h : PIs m mm L) : 0 ≤ headOf L ∧ headOf L ≤ m.n := by
  cases L with
  | nil => simp [headOf]
  | cons x r => have := h.low x (by simp); simp [headOf]; omega
theorem PIs.tailr {m : Mp} {mm r : List Int} {x : Int} (h : PIs m mm (x :: r)) : 0 ≤ headOf r ∧ headOf r ≤ m.n := by
  cases r with
  | nil => simp [headOf]
  | cons y r => have := h.low y (by simp); simp [headOf]; omega
/- what Lay does -/
theorem bhN_up (n k : Nat) (h : k < n) : bhN n (n - 1 - k) = headOf ((upL n).drop (k + 1)) := by
  rw [upL_drop]
  unfold bhN
  by_cases e : k + 1 < n
  · rw [if_pos e, if_neg (by omega)]
    omega
  · rw [if_neg e, if_pos (by omega)]
theorem layL_pis (m : Mp) (mm : List Int) (hs : sizeN m ≤ mm.length) : PIs m (layL m mm) (upL m.n) := by
  refine ⟨by rw [layL_len]; exact hs, ?_, fun k x hx => ?_, upL_nodup _, fun x hx => ?_⟩
  · unfold layL
    rw [List.getElem?_set_self (by rw [layGo_len]; unfold sizeN at hs; omega)]
    have := upL_drop (n := m.n) (k := 0)
    rw [List.drop_zero] at this
    rw [this]
    unfold bhN
    by_cases h : m.n = 0
    · simp [h]
    · rw [if_neg h, if_pos (by omega)]
      simp
  · have hk : k < m.n := by
      have := (List.getElem?_eq_some_iff.1 hx).1
      rwa [upL_len] at this
    rw [upL_at hk] at hx
    obtain rfl := Option.some.inj hx
    unfold layL
    rw [List.getElem?_set_ne (by have := linkN_two (m := m) (k := (k : Int)); omega), layGo_link m mm hs k hk m.n (Nat.le_refl _) (by omega), bhN_up _ _ hk]
  · exact upL_mem.1 hx
theorem layL_gen (m : Mp) (mm : List Int) (k : Int) (h : 0 ≤ k) : (layL m mm)[genN m k]? = mm[genN m k]? := by
  unfold layL
  rw [List.getElem?_set_ne (by have := genN_two (m := m) (k := k); omega)]
  exact layGo_other m mm _ (fun j h1 h2 e => linkN_gen h1 h e.symm) _ (Nat.le_refl _)
/-- cells hold words -/
def Rng (mm : List Int) : Prop := ∀ (i : Nat) c, mm[i]? = some c → 0 ≤ c ∧ c < 18446744073709551616
theorem Rng.set {mm : List Int} (h : Rng mm) (i : Nat) {v : Int} (hv : 0 ≤ v ∧ v < 18446744073709551616) : Rng (mm.set i v) := fun j c hc => by
  rw [List.getElem?_set] at hc
  split at hc
  · split at hc
    · obtain rfl := Option.some.inj hc
      exact hv
    · cases hc
  · exact h j c hc
end Go.Proofs.YtmknnjjmmfbppaaGreat
/- Package queue: lineAt. -/
namespace Go.Proofs.YtmknnjjmmfbppaaGreat
open Go.ChangeShapes Go.WideShapes Go.ChangeAt Go.RowKit
set_option linter.unusedVariables false
set_option maxRecDepth 100000
set_option linter.unusedSimpArgs false
theorem lineAt_any (C a : Nat) (m : Mp) (w : World) (ha : a ≤ 100000000) : Calls Tryz.prog 90 #[cellsV C, mapV m, .int .i64 (a : Int)] w fun e w' => e = .returned (lineV C a m) ∧ Below w.heap.size w w' := by
  have hmf : ∀ (fn : Fn) (first cap : Array Value) (w : World), (Instr.makeFunc fn first cap).run Tryz.prog w = .ok (.func fn first cap) w := fun _ _ _ _ => rfl
  go_enter Tryz.func90, Tryz.ntmps90
  go_wp2
  have h := Blk.new (w.alloc (.cells #[.int .i64 (m.t : Int), .int .i64 (m.o : Int), .int .i64 (m.n : Int)] 28)) 163 #[cellsV C, .int .i64 (a : Int), .int .i64 ((a : Int) + 1), nextV m, .int .i64 (m.t : Int)]
  simp only [World.size_alloc] at h
  exact bodyPost_ret (v := lineV C a m) (results_cell_row rfl _ _ (w.heap.size + 1) 163 _ (0, 0) _ rfl h Tryz.underlying163 rfl (by kernel_rfl)) rfl ⟨rfl, by go_grown⟩
end Go.Proofs.YtmknnjjmmfbppaaGreat
