/- ScriptFills returns true. -/
import Derived.Test.YtkmadabpfialbaaGreatDoorScFillLaw
import Derived.Test.YtkmadabpfialbaaGreatDoorScFair
namespace Go.Proofs.YtkmadabpfialbaaGreatDoor
open Go.ChangeShapes Go.WideShapes Go.ChangeAt Go.RowKit Go.Maps
set_option linter.unusedVariables false
set_option maxRecDepth 100000
set_option linter.unusedSimpArgs false
theorem fair_q (v : Value) (l : List Pk) (t K : Nat) (K' : Int) (e2 : K' = (K : Int)) (w : World) (hv : PicksAt w w.heap.size v l) (hl : l.length ≤ 100000) (ht1 : 1 ≤ t) (ht2 : t ≤ 1000) (hk1 : 1 ≤ K) (hk2 : K ≤ 1000) (hb : FairP l t K) :
    Calls Tryz.prog 9 #[v, .int .i64 (t : Int), .int .i64 K'] w fun e w' => e = .returned (.bool true) ∧ Below w.heap.size w w' := by
  subst e2
  refine (fair_yes v l t K w hv hl (by omega) (by omega) hk1 (by omega)).mono ?_
  rintro e w' ⟨h1, b', h2, h3⟩
  exact ⟨by rw [h2, h3.2 hb], h1⟩
theorem fill_q (v : Value) (l : List Pk) (t m : Nat) (w : World) (hv : PicksAt w w.heap.size v l) (hl : l.length ≤ 1000) (ht1 : 1 ≤ t) (ht2 : t ≤ 1000) (hm1 : 1 ≤ m) (hm2 : m ≤ 100000) :
    Calls Tryz.prog 11 #[v, .int .i64 (t : Int), .int .i64 ((m : Int) + (t : Int))] w fun e w' => ∃ (a : Option Addr) (n c : Nat) (f : List Pk), Hid (f = fillL m t l) ∧ Hid (n = f.length) ∧ e = .returned (.slice a n c) ∧ Below w.heap.size w w' ∧ PicksAt w' w'.heap.size (.slice a n c) f := by
  refine (fill_any v l t m w hv hl ht1 ht2 hm1 hm2).mono ?_
  rintro e w' ⟨v', rfl, hb, ho⟩
  obtain ⟨a, c, rfl, hc, _⟩ := id (PicksAt.own ho)
  exact ⟨a, _, c, _, Lib.hid rfl, Lib.hid rfl, rfl, hb, PicksAt.own ho⟩
theorem size_fact (n t m fl : Nat) (hn : n ≤ 100) (ht : t ≤ 9) (hf : fl = n + t * (n / m + 1)) : ∃ r D : Nat, r ≤ 100 ∧ D ≤ 909 ∧ (n : Int).tdiv (m : Int) = (r : Int) ∧ (n : Int) / (m : Int) = (r : Int) ∧ wrap64 ((t : Int) * (1 + (r : Int))) = (D : Int) ∧ (n : Int) + (D : Int) = (fl : Int) := by
  have h1 : n / m ≤ n := Nat.div_le_self n m
  have h2 : t * (n / m + 1) ≤ 9 * 101 := Nat.mul_le_mul ht (by omega)
  refine ⟨n / m, t * (n / m + 1), by omega, by omega, ?_, (Int.natCast_ediv n m).symm, ?_, by rw [hf, Int.natCast_add]⟩
  · rw [Int.tdiv_eq_ediv_of_nonneg (Int.natCast_nonneg n)]; exact (Int.natCast_ediv n m).symm
  · have e : (t : Int) * (1 + ((n / m : Nat) : Int)) = ((t * (n / m + 1) : Nat) : Int) := by
      rw [Int.natCast_mul, Int.natCast_add, Int.natCast_one, Int.add_comm 1]
    rw [e]
    exact wrap_small _ (by omega) (by omega)
theorem pk_ne (a b : Int) : ∀ W, (binOp .neq 46 (.agg #[.int .i64 a, .int .i64 b]) (.agg #[.int .i64 a, .int .i64 b])).run Tryz.prog W = .ok (.bool false) W := by
  intro W
  go_simp
theorem idx_add (len c B o I U : Nat) (h : I + U < len) : ∀ W, (Instr.indexAt 22 (.slice (some ⟨B, o, none⟩) len c) (.int .i64 ((I : Int) + (U : Int)))).run Tryz.prog W = .ok (.pointer (some ⟨B, o + (I + U) * 2, none⟩)) W := by
  intro W
  rw [show (I : Int) + (U : Int) = ((I + U : Nat) : Int) by omega]
  exact idx_nat len c B o (I + U) h W
end Go.Proofs.YtkmadabpfialbaaGreatDoor
