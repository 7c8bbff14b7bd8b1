/- Contracts of package field, continued: Put of a value that fits, Apart. -/
import Derived.Test.YtdfnldgjgaieeaaFieldB
namespace Go.Proofs.Ytdfnldgjgaieeaa
open Go.ChangeShapes Go.WideShapes Go.ChangeAt Go.RowKit
set_option linter.unusedVariables false
set_option maxHeartbeats 1000000 in
theorem put_yes (a k : Nat) (x v : Nat) (w : World) (h1 : 1 ≤ k) (h2 : a + k ≤ 64) (hx : x < 18446744073709551616) (hv : v < 2^k) :
    Calls Try.prog 9 #[fld a k, .int .u64 x, .int .u64 v] w fun e w' => e = .returned (.tuple #[.int .u64 (BitNat.put a k x v : Nat), .bool true]) ∧ Below w.heap.size w w' := by
  have B0 := (Below.refl w.heap.size w).alloc (Nat.le_refl _) (.cells #[.int .i64 a, .int .i64 k] 25)
  have hg : decide (2^k - 1 < v) = false := by have := Nat.two_pow_pos k; simp; omega
  have hor := or_put a k x v h2 hx hv
  have hup := wrap_up a k v h2 hv
  clear hv
  go_enter Try.func9, Try.ntmps9
  go_wp2_with (first
    | (go_at_call 10; refine (may_yes a k _ h1 h2).mono ?_; rintro e w1 ⟨rfl, hb⟩; obtain ⟨c0, c1⟩ := (box_new w a k _).below hb (by simp); have hz : w.heap.size < w1.heap.size := (by have := hb.size; simp at this; omega); replace B0 := B0.trans (hb.mono (by go_size)))
    | (go_at_call 11; refine (most_yes a k _ h1 h2).mono ?_; rintro e w2 ⟨rfl, hb2⟩; obtain ⟨c02, c12⟩ := (⟨c0, c1⟩ : Box w.heap.size a k w1).below hb2 (by go_size); have hz2 : w.heap.size < w2.heap.size := (by have := hb2.size; omega); replace B0 := B0.trans (hb2.mono (by go_size))))
  go_region_with (go_at_call 20; refine (outside_any a k x _ h1 h2 hx).mono ?_; rintro e w3 ⟨rfl, hb3⟩; obtain ⟨c03, c13⟩ := (⟨c02, c12⟩ : Box w.heap.size a k w2.drew).below hb3 (by go_size); replace B0 := B0.drew.trans (hb3.mono (by go_size)))
  all_goals go_wp2
  all_goals go_ret2
  all_goals exact ⟨rfl, B0⟩
/-- whether the two fields have no bit in common -/
def apB (a k b m : Nat) : Bool := decide (a + k ≤ b ∨ b + m ≤ a)
theorem ap_eq (a k b m : Nat) (hk : 1 ≤ k) (hm : 1 ≤ m) : (BitNat.mask a k &&& BitNat.mask b m == 0) = apB a k b m := by
  unfold apB
  rw [Bool.eq_iff_iff, beq_iff_eq, decide_eq_true_iff]
  exact BitNat.and_mask_zero a k b m hk hm
theorem ret_bool {a b : Bool} (h : a = b) : Ending.returned (.bool a) = .returned (.bool b) := by rw [h]
theorem beq_cast (x : Nat) : (((x : Nat) : Int) == 0) = (x == 0) := by
  rw [Bool.eq_iff_iff, beq_iff_eq, beq_iff_eq]; omega
set_option maxHeartbeats 1000000 in
theorem apart_yes (a k b m : Nat) (w : World) (h1 : 1 ≤ k) (h2 : a + k ≤ 64) (h3 : 1 ≤ m) (h4 : b + m ≤ 64) :
    Calls Try.prog 13 #[fld a k, fld b m] w fun e w' => e = .returned (.bool (apB a k b m)) ∧ Below w.heap.size w w' := by
  have B0 := ((Below.refl w.heap.size w).alloc (Nat.le_refl _) (.cells #[.int .i64 a, .int .i64 k] 25)).alloc (by simp) (.cells #[.int .i64 b, .int .i64 m] 25)
  have C0 := box_new w a k 25
  have C1 := box_new (w.alloc (.cells #[.int .i64 a, .int .i64 k] 25)) b m 25
  replace C0 := C0.below (((Below.refl (w.heap.size + 1) (w.alloc (.cells #[.int .i64 a, .int .i64 k] 25)))).alloc (by simp) (.cells #[.int .i64 b, .int .i64 m] 25)) (by simp)
  have hap := ap_eq a k b m h1 h3
  have hml := BitNat.mask_lt a k h2
  have HM := Lib.hid hml
  clear hml
  obtain ⟨x00, x01⟩ := C0
  obtain ⟨y00, y01⟩ := C1
  rw [World.size_alloc] at y00 y01
  go_enter Try.func13, Try.ntmps13
  go_wp2
  generalize hW : (w.alloc (.cells #[.int .i64 a, .int .i64 k] 25)).alloc (.cells #[.int .i64 b, .int .i64 m] 25) = W at *
  have hz : w.heap.size + 1 < W.heap.size := by rw [← hW]; simp
  clear hW
  go_region_with (first
    | (go_at_call_of 10 (Value.int IntKind.i64 (a : Int)); refine (may_yes a k _ h1 h2).mono ?_; rintro e w1 ⟨rfl, hb⟩; obtain ⟨x10, x11⟩ := (⟨x00, x01⟩ : Box w.heap.size a k W.drew).below hb (by go_size); obtain ⟨y10, y11⟩ := (⟨y00, y01⟩ : Box (w.heap.size + 1) b m W.drew).below hb (by go_size); have hz1 : w.heap.size + 1 < w1.heap.size := (by have := hb.size; simp at this; omega); replace B0 := B0.drew.trans (hb.mono (by go_size)))
    | (go_at_call_of 10 (Value.int IntKind.i64 (b : Int)); refine (may_yes b m _ h3 h4).mono ?_; rintro e w2 ⟨rfl, hb2⟩; obtain ⟨x20, x21⟩ := (⟨x10, x11⟩ : Box w.heap.size a k w1).below hb2 (by go_size); obtain ⟨y20, y21⟩ := (⟨y10, y11⟩ : Box (w.heap.size + 1) b m w1).below hb2 (by go_size); have hz2 : w.heap.size + 1 < w2.heap.size := (by have := hb2.size; omega); replace B0 := B0.trans (hb2.mono (by go_size)))
    | (go_at_call 21; refine (mask_any a k _ h1 h2).mono ?_; rintro e w3 ⟨rfl, hb3⟩; obtain ⟨x30, x31⟩ := (⟨x20, x21⟩ : Box w.heap.size a k w2).below hb3 (by go_size); obtain ⟨y30, y31⟩ := (⟨y20, y21⟩ : Box (w.heap.size + 1) b m w2).below hb3 (by go_size); have hz3 : w.heap.size + 1 < w3.heap.size := (by have := hb3.size; omega); replace B0 := B0.trans (hb3.mono (by go_size)))
    | (go_at_call 22; refine (inside_any b m (BitNat.mask a k) _ h3 h4 HM.out).mono ?_; rintro e w4 ⟨rfl, hb4⟩; replace B0 := B0.trans (hb4.mono (by go_size))))
  all_goals go_wp2
  all_goals go_ret
  all_goals refine ⟨ret_bool ?_, B0⟩
  all_goals first | exact hap | exact (beq_cast _).trans hap
set_option maxHeartbeats 1000000 in
/-- the first field is not valid -/
theorem apart_no1 (a k b m : Int) (w : World) (ha : -9223372036854775808 ≤ a) (ha2 : a ≤ 9223372036854775807) (hk : k ≤ 9223372036854775807) (h : ¬ (0 ≤ a ∧ 1 ≤ k ∧ a + k ≤ 64)) :
    Calls Try.prog 13 #[fld a k, fld b m] w fun e w' => e = .returned (.bool false) ∧ Below w.heap.size w w' := by
  have B0 := ((Below.refl w.heap.size w).alloc (Nat.le_refl _) (.cells #[.int .i64 a, .int .i64 k] 25)).alloc (by simp) (.cells #[.int .i64 b, .int .i64 m] 25)
  have C0 := box_new w a k 25
  replace C0 := C0.below (((Below.refl (w.heap.size + 1) (w.alloc (.cells #[.int .i64 a, .int .i64 k] 25)))).alloc (by simp) (.cells #[.int .i64 b, .int .i64 m] 25)) (by simp)
  have H := Lib.hid h
  clear h
  obtain ⟨x00, x01⟩ := C0
  go_enter Try.func13, Try.ntmps13
  go_wp2
  generalize hW : (w.alloc (.cells #[.int .i64 a, .int .i64 k] 25)).alloc (.cells #[.int .i64 b, .int .i64 m] 25) = W at *
  have hz : w.heap.size + 1 < W.heap.size := by rw [← hW]; simp
  clear hW
  go_region_with (go_at_call 10; refine (may_no a k _ ha ha2 hk H.out).mono ?_; rintro e w1 ⟨rfl, hb⟩; replace B0 := B0.drew.trans (hb.mono (by go_size)))
  all_goals go_wp2
  all_goals go_ret
  all_goals exact ⟨rfl, B0⟩
set_option maxHeartbeats 1000000 in
/-- the second field is not valid -/
theorem apart_no2 (a k : Nat) (b m : Int) (w : World) (h1 : 1 ≤ k) (h2 : a + k ≤ 64) (ha : -9223372036854775808 ≤ b) (ha2 : b ≤ 9223372036854775807) (hk : m ≤ 9223372036854775807) (h : ¬ (0 ≤ b ∧ 1 ≤ m ∧ b + m ≤ 64)) :
    Calls Try.prog 13 #[fld a k, fld b m] w fun e w' => e = .returned (.bool false) ∧ Below w.heap.size w w' := by
  have B0 := ((Below.refl w.heap.size w).alloc (Nat.le_refl _) (.cells #[.int .i64 a, .int .i64 k] 25)).alloc (by simp) (.cells #[.int .i64 b, .int .i64 m] 25)
  have C0 := box_new w a k 25
  have C1 := box_new (w.alloc (.cells #[.int .i64 a, .int .i64 k] 25)) b m 25
  replace C0 := C0.below (((Below.refl (w.heap.size + 1) (w.alloc (.cells #[.int .i64 a, .int .i64 k] 25)))).alloc (by simp) (.cells #[.int .i64 b, .int .i64 m] 25)) (by simp)
  have H := Lib.hid h
  clear h
  obtain ⟨x00, x01⟩ := C0
  obtain ⟨y00, y01⟩ := C1
  rw [World.size_alloc] at y00 y01
  go_enter Try.func13, Try.ntmps13
  go_wp2
  generalize hW : (w.alloc (.cells #[.int .i64 a, .int .i64 k] 25)).alloc (.cells #[.int .i64 b, .int .i64 m] 25) = W at *
  have hz : w.heap.size + 1 < W.heap.size := by rw [← hW]; simp
  clear hW
  go_region_with (first
    | (go_at_call_of 10 (Value.int IntKind.i64 (a : Int)); refine (may_yes a k _ h1 h2).mono ?_; rintro e w1 ⟨rfl, hb⟩; obtain ⟨y10, y11⟩ := (⟨y00, y01⟩ : Box (w.heap.size + 1) b m W.drew).below hb (by go_size); have hz1 : w.heap.size + 1 < w1.heap.size := (by have := hb.size; simp at this; omega); replace B0 := B0.drew.trans (hb.mono (by go_size)))
    | (go_at_call_of 10 (Value.int IntKind.i64 b); refine (may_no b m _ ha ha2 hk H.out).mono ?_; rintro e w2 ⟨rfl, hb2⟩; replace B0 := B0.trans (hb2.mono (by go_size))))
  all_goals go_wp2
  all_goals go_ret
  all_goals exact ⟨rfl, B0⟩
end Go.Proofs.Ytdfnldgjgaieeaa
