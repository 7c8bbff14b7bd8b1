/- Package pool: monitors and marks; the cells of monitors. -/
import Derived.Test.YtmknnjjmmfbppaaGreatMgBegBC
import Derived.Test.YtmknnjjmmfbppaaGreatMgBegAS
namespace Go.Proofs.YtmknnjjmmfbppaaGreat
open Go.ChangeShapes Go.WideShapes Go.ChangeAt Go.RowKit
set_option linter.unusedVariables false
set_option maxRecDepth 100000
set_option linter.unusedSimpArgs false
/-- the monitor that a cell's value names -/
def pmS (m : Mp) (v : Int) : Int := if (m.n : Int) < v then -1 else v - 1
theorem pmS_range {m : Mp} {v : Int} (h : 0 ≤ v) : -1 ≤ pmS m v ∧ pmS m v < m.n := by
  unfold pmS
  split <;> omega
theorem pmS_of {m : Mp} {v : Int} (h : v ≤ m.n) : pmS m v = v - 1 := by
  unfold pmS
  rw [if_neg (by omega)]
theorem gen_any (m : Mp) (k : Int) (w : World) (hm : m.ok) (h : 0 ≤ k ∧ k ≤ 5000) : Calls Tryz.prog 243 #[mapV m, .int .i64 k] w fun e w' => e = .returned (.int .i64 (genN m k : Nat)) ∧ Below w.heap.size w w' := by
  have h1 := hm.t
  have h2 := hm.o
  rw [genN_eq h.1]
  have HT := Lib.hid fun W => mon_any m k W hm h
  clear hm
  go_enter Tryz.func243, Tryz.ntmps243
  go_wp2_with (go_at_call 61; refine (HT.out _).mono ?_; rintro e w2 ⟨rfl, b2⟩)
  go_ret
  exact ⟨rfl, ((Below.refl _ w).alloc (Nat.le_refl _) _).trans (b2.mono (by simp))⟩
abbrev stockV (C : Nat) (m : Mp) : Value := .agg #[cellsV C, .int .i64 (m.t : Int), .int .i64 (m.o : Int), .int .i64 (m.n : Int)]
abbrev stockCs (C : Nat) (m : Mp) : Array Value := #[cellsV C, .int .i64 (m.t : Int), .int .i64 (m.o : Int), .int .i64 (m.n : Int)]
theorem stock4 {w : World} {b C : Nat} {m : Mp} (h : Blk w b 114 (stockCs C m)) : w.cell? ⟨b, 0, none⟩ = some (cellsV C) ∧ w.cell? ⟨b, 1, none⟩ = some (.int .i64 (m.t : Int)) ∧ w.cell? ⟨b, 2, none⟩ = some (.int .i64 (m.o : Int)) ∧ w.cell? ⟨b, 3, none⟩ = some (.int .i64 (m.n : Int)) := ⟨h.cell 0 _ rfl, h.cell 1 _ rfl, h.cell 2 _ rfl, h.cell 3 _ rfl⟩
theorem pmarked_any (C : Nat) (m : Mp) (v : Int) (w : World) (hm : m.ok) (hv : 0 ≤ v ∧ v < 18446744073709551616) : Calls Tryz.prog 109 #[stockV C m, .int .u64 v] w fun e w' => e = .returned (.int .i64 (pmS m v)) ∧ Below w.heap.size w w' := by
  have h1 := hm.n
  have e1 : IntKind.u64.wrap (m.n : Int) = m.n := by rw [IntKind.wrap_u64]; omega
  clear hm
  by_cases h : (m.n : Int) < v
  · have e : pmS m v = -1 := by simp [pmS, h]
    rw [e]
    clear e hv
    go_enter Tryz.func109, Tryz.ntmps109
    go_wp2
    go_ret
    exact ⟨rfl, by go_grown⟩
  · have e : pmS m v = v - 1 := by simp [pmS, h]
    have e2 : IntKind.i64.wrap v = v := IntWalk.i64_in _ ⟨by omega, by omega⟩
    rw [e]
    have hv2 : 0 ≤ v ∧ v ≤ 100000 := by omega
    clear e hv
    go_enter Tryz.func109, Tryz.ntmps109
    go_wp2
    go_ret
    exact ⟨rfl, by go_grown⟩
end Go.Proofs.YtmknnjjmmfbppaaGreat
/- Layer 10: what a queue is in cells, and what its changes come to; no program is named here. 'nx t' is the cell Next of thread t; f reads the cells. -/
namespace Go.Proofs.YtmknnjjmmfbppaaGreat
set_option linter.unusedVariables false
set_option linter.unusedSimpArgs false
/-- the first of a row, in the cells' form -/
def headOf : List Int → Int
  | [] => 0
  | t :: _ => t + 1
def lastOf (l : List Int) : Int := headOf l.reverse
theorem headOf_zero {l : List Int} (h : ∀ t ∈ l, 0 ≤ t) : headOf l = 0 ↔ l = [] := by
  cases l with
  | nil => simp [headOf]
  | cons t r =>
    have := h t (by simp)
    simp [headOf]; omega
theorem lastOf_zero {l : List Int} (h : ∀ t ∈ l, 0 ≤ t) : lastOf l = 0 ↔ l = [] := by
  rw [lastOf, headOf_zero (by simpa using h)]; simp
theorem lastOf_snoc (l : List Int) (t : Int) : lastOf (l ++ [t]) = t + 1 := by simp [lastOf, headOf]
theorem headOf_append {l : List Int} (h : l ≠ []) (r : List Int) : headOf (l ++ r) = headOf l := by
  cases l with
  | nil => exact absurd rfl h
  | cons t l => rfl
theorem lastOf_append {r : List Int} (h : r ≠ []) (l : List Int) : lastOf (l ++ r) = lastOf r := by
  rw [lastOf, List.reverse_append, headOf_append (by simpa using h)]; rfl
/-- a queue at cell a -/
structure QIs (nx : Int → Nat) (f : Nat → Int) (a : Nat) (l : List Int) : Prop where
  first : f a = headOf l
  last : f (a + 1) = lastOf l
  next : ∀ p t s, l = p ++ t :: s → f (nx t) = headOf s
theorem QIs.nil {nx : Int → Nat} {f : Nat → Int} {a : Nat} (h : f a = 0) (h1 : f (a + 1) = 0) : QIs nx f a [] :=
  ⟨h, h1, fun p t s e => by simp at e⟩
/-- cells that are not its own -/
theorem QIs.congr {nx : Int → Nat} {f g : Nat → Int} {a : Nat} {l : List Int} (h : QIs nx f a l) (h1 : g a = f a) (h2 : g (a + 1) = f (a + 1)) (h3 : ∀ t ∈ l, g (nx t) = f (nx t)) : QIs nx g a l :=
  ⟨h1.trans h.first, h2.trans h.last, fun p t s e => (h3 t (by rw [e]; simp)).trans (h.next p t s e)⟩
theorem QIs.push {nx : Int → Nat} {f g : Nat → Int} {a : Nat} {l : List Int} {t : Int} (h : QIs nx f a l) (h1 : g a = headOf (l ++ [t])) (h2 : g (a + 1) = t + 1) (h3 : g (nx t) = 0)
    (h4 : ∀ p u, l = p ++ [u] → g (nx u) = t + 1) (h5 : ∀ p u s, l = p ++ u :: s → s ≠ [] → g (nx u) = f (nx u)) : QIs nx g a (l ++ [t]) := by
  refine ⟨h1, by rw [h2, lastOf_snoc], fun p u s e => ?_⟩
  rcases List.eq_nil_or_concat s with rfl | ⟨s', z, rfl⟩
  · obtain ⟨_, e2⟩ := List.append_inj' e rfl
    obtain rfl : t = u := by simpa using e2
    exact h3
  · rw [List.concat_eq_append] at e ⊢
    rw [show p ++ u :: (s' ++ [z]) = (p ++ u :: s') ++ [z] by simp] at e
    obtain ⟨e1, e2⟩ := List.append_inj' e rfl
    obtain rfl : t = z := by simpa using e2
    by_cases hs : s' = []
    · subst hs
      exact h4 p u e1
    · rw [h5 p u s' e1 hs, h.next p u s' e1, headOf_append hs]
theorem QIs.pop {nx : Int → Nat} {f g : Nat → Int} {a : Nat} {r : List Int} {t : Int} (h : QIs nx f a (t :: r)) (h1 : g a = headOf r) (h2 : g (a + 1) = lastOf r) (h3 : ∀ u ∈ r, g (nx u) = f (nx u)) : QIs nx g a r :=
  ⟨h1, h2, fun p u s e => (h3 u (by rw [e]; simp)).trans (h.next (t :: p) u s (by rw [e]; rfl))⟩
theorem QIs.remove {nx : Int → Nat} {f g : Nat → Int} {a : Nat} {p s : List Int} {t : Int} (h : QIs nx f a (p ++ t :: s)) (h1 : g a = headOf (p ++ s)) (h2 : g (a + 1) = lastOf (p ++ s))
    (h3 : ∀ q u, p = q ++ [u] → g (nx u) = headOf s) (h4 : ∀ q u r, p = q ++ u :: r → r ≠ [] → g (nx u) = f (nx u)) (h5 : ∀ u ∈ s, g (nx u) = f (nx u)) : QIs nx g a (p ++ s) := by
  refine ⟨h1, h2, fun q u r e => ?_⟩
  rcases List.append_eq_append_iff.1 e with ⟨a', e1, e2⟩ | ⟨c', e1, e2⟩
  · -- u lies in s
    rw [h5 u (by rw [e2]; simp)]
    refine h.next (p ++ t :: a') u r ?_
    rw [e2]; simp
  · cases c' with
    | nil =>
      simp at e1 e2
      rw [h5 u (by rw [← e2]; simp)]
      exact h.next (p ++ [t]) u r (by rw [← e2]; simp)
    | cons x c' =>
      simp at e2
      obtain ⟨rfl, rfl⟩ := e2
      by_cases hc : c' = []
      · subst hc
        simpa using h3 q u e1
      · rw [h4 q u c' e1 hc, h.next q u (c' ++ t :: s) (by rw [e1]; simp), headOf_append hc, headOf_append hc]
/-- where a walk stands -/
theorem QIs.walk {nx : Int → Nat} {f : Nat → Int} {a k : Nat} {l : List Int} {t : Int} (h : QIs nx f a l) (hk : l[k]? = some t) : headOf (l.drop k) = t + 1 ∧ f (nx t) = headOf (l.drop (k + 1)) := by
  obtain ⟨hlt, e⟩ := List.getElem?_eq_some_iff.1 hk
  have e1 : l.drop k = t :: l.drop (k + 1) := by rw [List.drop_eq_getElem_cons hlt, e]
  refine ⟨by rw [e1]; rfl, h.next (l.take k) t _ ?_⟩
  rw [← e1, List.take_append_drop]
/-- cells read from a row of numbers -/
def rdL (m : List Int) (i : Nat) : Int := (m[i]?).getD 0
theorem rdL_set (m : List Int) (i j : Nat) (v : Int) (h : i < m.length) : rdL (m.set i v) j = if j = i then v else rdL m j := by
  unfold rdL
  rw [List.getElem?_set]
  by_cases e : i = j
  · subst e; simp [h]
  · simp [e, Ne.symm e]
end Go.Proofs.YtmknnjjmmfbppaaGreat
