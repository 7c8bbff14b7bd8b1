/- Numbers of Fill. No program is named here. -/
import Derived.WalkKit
import Derived.ProofKit
import Derived.Below
import Derived.IntWalk
namespace Go.Proofs.YtkmadabpfialbaaGreatDoor
open Go Go.RowKit
theorem wrap_small (n : Int) (h0 : 0 ≤ n) (h1 : n ≤ 1000000000) : wrap64 n = n := by unfold wrap64; omega
theorem div_room (len r : Nat) (t : Int) (hl : len ≤ 1000) (hr : r ≤ 1000) (ht : t ≤ 1000) : t ≤ (2147483647 - (len : Int)) / ((r : Int) + 1) := by
  have h5 : (1001 : Int) ≤ (2147483647 - (len : Int)) / ((r : Int) + 1) := by
    rw [Int.le_ediv_iff_mul_le (by omega)]
    omega
  exact Int.le_trans ht (Int.le_trans (by decide) h5)
theorem mul_cast (r t D : Nat) (h : D = (r + 1) * t) (hD : D ≤ 1001000) : wrap64 (((r : Int) + 1) * (t : Int)) = (D : Int) := by
  have e : ((r : Int) + 1) * (t : Int) = (D : Int) := by rw [h]; push_cast; rfl
  rw [e]
  exact wrap_small _ (by omega) (by omega)
theorem add_cast (len D C : Nat) (h : C = len + D) (hC : C ≤ 2002000) : wrap64 ((len : Int) + (D : Int)) = (C : Int) := by
  have e : (len : Int) + (D : Int) = (C : Int) := by omega
  rw [e]
  exact wrap_small _ (by omega) (by omega)
theorem prod_le (r t : Nat) (hr : r ≤ 1000) (ht : t ≤ 1000) : (r + 1) * t ≤ 1001000 := by
  have := Nat.mul_le_mul (show r + 1 ≤ 1001 by omega) ht
  omega
end Go.Proofs.YtkmadabpfialbaaGreatDoor
