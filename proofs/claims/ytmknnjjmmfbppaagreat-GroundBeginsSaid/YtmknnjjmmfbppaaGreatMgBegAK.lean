/- Contracts of package field, continued: Put of a value that fits. -/
import Derived.Test.YtmknnjjmmfbppaaGreatMgBegAJ
namespace Go.Proofs.YtmknnjjmmfbppaaGreat
open Go.ChangeShapes Go.WideShapes Go.ChangeAt Go.RowKit
set_option linter.unusedVariables false
set_option maxHeartbeats 1000000 in
theorem put_yes (a k : Nat) (x v : Nat) (w : World) (h1 : 1 ≤ k) (h2 : a + k ≤ 64) (hx : x < 18446744073709551616) (hv : v < 2^k) :
    Calls Tryz.prog 217 #[fld a k, .int .u64 x, .int .u64 v] w fun e w' => e = .returned (.tuple #[.int .u64 (BitNat.put a k x v : Nat), .bool true]) ∧ Below w.heap.size w w' := by
  have B0 := (Below.refl w.heap.size w).alloc (Nat.le_refl _) (.cells #[.int .i64 a, .int .i64 k] 223)
  have hg : decide (2^k - 1 < v) = false := by have := Nat.two_pow_pos k; simp; omega
  have hor := or_put a k x v h2 hx hv
  have hup := wrap_up a k v h2 hv
  clear hv
  go_enter Tryz.func217, Tryz.ntmps217
  go_wp2_with (first
    | (go_at_call 216; refine (may_yes a k _ h1 h2).mono ?_; rintro e w1 ⟨rfl, hb⟩; obtain ⟨c0, c1⟩ := (box_new w a k _).below hb (by simp); have hz : w.heap.size < w1.heap.size := (by have := hb.size; simp at this; omega); replace B0 := B0.trans (hb.mono (by go_size)))
    | (go_at_call 269; refine (most_yes a k _ h1 h2).mono ?_; rintro e w2 ⟨rfl, hb2⟩; obtain ⟨c02, c12⟩ := (⟨c0, c1⟩ : Box w.heap.size a k w1).below hb2 (by go_size); have hz2 : w.heap.size < w2.heap.size := (by have := hb2.size; omega); replace B0 := B0.trans (hb2.mono (by go_size))))
  go_region_with (go_at_call 270; refine (outside_any a k x _ h1 h2 hx).mono ?_; rintro e w3 ⟨rfl, hb3⟩; obtain ⟨c03, c13⟩ := (⟨c02, c12⟩ : Box w.heap.size a k w2.drew).below hb3 (by go_size); replace B0 := B0.drew.trans (hb3.mono (by go_size)))
  all_goals go_wp2
  all_goals go_ret2
  all_goals exact ⟨rfl, B0⟩
theorem ret_bool {a b : Bool} (h : a = b) : Ending.returned (.bool a) = .returned (.bool b) := by rw [h]
end Go.Proofs.YtmknnjjmmfbppaaGreat
