/- Plain facts on bit fields of natural numbers: the mask of a field, what a field has, what is put into it, bit by bit. No program is named here. -/
import Derived.Test.YtmknnjjmmfbppaaGreatRows
import Derived.WalkKit
import Derived.ProofKit
import Derived.OpenShut
import Derived.Handy
import Derived.Outline
import Derived.RegionTactic
import Derived.Deep.RegionWith
import Derived.Laws.BitsAllLaws
import Derived.Lib.Hide
namespace Go.Proofs.YtmknnjjmmfbppaaGreat
namespace BitNat
/-- the mask of the field at a, k bits wide -/
def mask (a k : Nat) : Nat := (2^k - 1) * 2^a
/-- what the field at a, k bits wide, has in x -/
def get (a k x : Nat) : Nat := (x >>> a) % 2^k
/-- x without what is in the field -/
def rest (a k x : Nat) : Nat := x &&& (18446744073709551615 - mask a k)
/-- x with v in the field -/
def put (a k x v : Nat) : Nat := rest a k x ||| (v * 2^a)
theorem mask_bit (a k j : Nat) : (mask a k).testBit j = (decide (a ≤ j) && decide (j < a + k)) := by
  unfold mask
  rw [Nat.testBit_mul_two_pow, Nat.testBit_two_pow_sub_one]
  by_cases h : a ≤ j
  · simp only [h, decide_true, Bool.true_and]
    congr 1
    apply propext; omega
  · simp [h]
theorem mask_lt (a k : Nat) (h : a + k ≤ 64) : mask a k < 18446744073709551616 := by
  have e : (18446744073709551616 : Nat) = 2^64 := by decide
  rw [e]
  apply Nat.lt_pow_two_of_testBit
  intro i hi
  rw [mask_bit]
  simp; omega
theorem all_bit (j : Nat) : (18446744073709551615 : Nat).testBit j = decide (j < 64) := by
  have e : (18446744073709551615 : Nat) = 2^64 - 1 := by decide
  rw [e, Nat.testBit_two_pow_sub_one]
theorem not_bit (m j : Nat) (h : m < 18446744073709551616) : (18446744073709551615 - m).testBit j = (decide (j < 64) && !m.testBit j) := by
  have e : (18446744073709551615 - m : Nat) = 2^64 - (m + 1) := by omega
  rw [e, Nat.testBit_two_pow_sub_succ (by omega)]
theorem get_bit (a k x j : Nat) : (get a k x).testBit j = (decide (j < k) && x.testBit (a + j)) := by
  unfold get
  rw [Nat.testBit_mod_two_pow, Nat.testBit_shiftRight]
theorem get_lt (a k x : Nat) : get a k x < 2^k := Nat.mod_lt _ (Nat.two_pow_pos k)
theorem bit_high (x j n : Nat) (h : x < 2^n) (hj : n ≤ j) : x.testBit j = false :=
  Nat.testBit_lt_two_pow (Nat.lt_of_lt_of_le h (Nat.pow_le_pow_right (by decide) hj))
theorem put_bit (a k x v j : Nat) (h : a + k ≤ 64) (hx : x < 18446744073709551616) (hv : v < 2^k) :
    (put a k x v).testBit j = if a ≤ j ∧ j < a + k then v.testBit (j - a) else x.testBit j := by
  unfold put rest
  rw [Nat.testBit_or, Nat.testBit_and, not_bit _ _ (mask_lt a k h), mask_bit, Nat.testBit_mul_two_pow]
  by_cases h1 : a ≤ j
  · by_cases h2 : j < a + k
    · simp [h1, h2]
    · have hb : v.testBit (j - a) = false := bit_high v (j - a) k hv (by omega)
      simp only [h1, h2, hb]
      by_cases h3 : j < 64
      · simp [h3]
      · have hb2 : x.testBit j = false := bit_high x j 64 (by omega) (by omega)
        simp [h3, hb2]
  · simp only [h1]
    by_cases h3 : j < 64
    · simp [h3]
    · omega
theorem rest_lt (a k x : Nat) (hx : x < 18446744073709551616) : rest a k x < 18446744073709551616 :=
  Nat.lt_of_le_of_lt Nat.and_le_left hx
theorem up_lt (a k v : Nat) (h : a + k ≤ 64) (hv : v < 2^k) : v * 2^a < 18446744073709551616 := by
  have e : (18446744073709551616 : Nat) = 2^64 := by decide
  have h1 : v * 2^a < 2^k * 2^a := (Nat.mul_lt_mul_right (Nat.two_pow_pos a)).2 hv
  have h2 : 2^k * 2^a ≤ 2^64 := by rw [← Nat.pow_add]; exact Nat.pow_le_pow_right (by decide) (by omega)
  omega
theorem put_lt (a k x v : Nat) (h : a + k ≤ 64) (hx : x < 18446744073709551616) (hv : v < 2^k) : put a k x v < 18446744073709551616 := by
  have e : (18446744073709551616 : Nat) = 2^64 := by decide
  rw [e]
  apply Nat.lt_pow_two_of_testBit
  intro i hi
  rw [put_bit a k x v i h hx hv, if_neg (by omega)]
  exact bit_high x i 64 (by omega) hi
/-- what is put in is had -/
theorem get_put (a k x v : Nat) (h : a + k ≤ 64) (hx : x < 18446744073709551616) (hv : v < 2^k) : get a k (put a k x v) = v := by
  apply Nat.eq_of_testBit_eq
  intro j
  rw [get_bit, put_bit a k x v _ h hx hv]
  by_cases hj : j < k
  · rw [if_pos (by omega)]; simp [hj]
  · rw [bit_high v j k hv (by omega)]; simp [hj]
/-- fields that are apart keep what they have -/
theorem get_put_apart (a k b m x v : Nat) (h : a + k ≤ 64) (hx : x < 18446744073709551616) (hv : v < 2^k) (hap : a + k ≤ b ∨ b + m ≤ a) : get b m (put a k x v) = get b m x := by
  apply Nat.eq_of_testBit_eq
  intro j
  rw [get_bit, get_bit, put_bit a k x v _ h hx hv]
  by_cases hj : j < m
  · rw [if_neg (by omega)]
  · simp [hj]
/-- put back -/
theorem put_back (a k x v : Nat) (h : a + k ≤ 64) (hx : x < 18446744073709551616) (hv : v < 2^k) : put a k (put a k x v) (get a k x) = x := by
  apply Nat.eq_of_testBit_eq
  intro j
  rw [put_bit a k _ _ _ h (put_lt a k x v h hx hv) (get_lt a k x), put_bit a k x v _ h hx hv]
  by_cases hj : a ≤ j ∧ j < a + k
  · rw [if_pos hj, get_bit]
    have e : a + (j - a) = j := by omega
    rw [e]
    simp; omega
  · rw [if_neg hj, if_neg hj]
/-- the mask's word in arithmetic, as the program reckons it -/
theorem mask_shift (k : Nat) (hk : 1 ≤ k) (h : k ≤ 64) : 18446744073709551615 / 2^(64-k) = 2^k - 1 := by
  have e : (18446744073709551615 : Nat) = 2^64 - 1 := by decide
  rw [e]
  apply Nat.eq_of_testBit_eq
  intro j
  rw [← Nat.shiftRight_eq_div_pow, Nat.testBit_shiftRight, Nat.testBit_two_pow_sub_one, Nat.testBit_two_pow_sub_one]
  congr 1
  apply propext; omega
theorem mask_int (a k : Nat) (hk : 1 ≤ k) (h : k ≤ 64) : (18446744073709551615 : Int) / 2^(64-k) * 2^a = ((mask a k : Nat) : Int) := by
  unfold mask
  rw [← mask_shift k hk h]
  simp only [Int.natCast_mul, Int.natCast_ediv, Int.natCast_pow, Int.cast_ofNat_Int]
theorem mask_pos (a k : Nat) (hk : 1 ≤ k) : 0 < mask a k := by
  unfold mask
  have h1 : 2 ≤ 2^k := by
    calc 2 = 2^1 := rfl
      _ ≤ 2^k := Nat.pow_le_pow_right (by decide) hk
  exact Nat.mul_pos (by omega) (Nat.two_pow_pos a)
/-- what is inside the mask, moved down, is what the field has -/
theorem and_mask_div (a k x : Nat) : (x &&& mask a k) / 2^a = get a k x := by
  apply Nat.eq_of_testBit_eq
  intro j
  rw [← Nat.shiftRight_eq_div_pow, Nat.testBit_shiftRight, Nat.testBit_and, mask_bit, get_bit]
  by_cases hj : j < k <;> simp [hj]
theorem and_mask_int (a k x : Nat) : ((x &&& mask a k : Nat) : Int) / 2^a = ((get a k x : Nat) : Int) := by
  rw [← and_mask_div a k x]
  simp only [Int.natCast_ediv, Int.natCast_pow, Int.cast_ofNat_Int]
theorem mask_div (a k : Nat) : ((mask a k : Nat) : Int) / 2^a = ((2^k - 1 : Nat) : Int) := by
  have e : mask a k / 2^a = 2^k - 1 := by unfold mask; exact Nat.mul_div_cancel _ (Nat.two_pow_pos a)
  rw [← e]
  simp only [Int.natCast_ediv, Int.natCast_pow, Int.cast_ofNat_Int]
/-- the masks of two fields have no bit in common just if one lies behind the other -/
theorem and_mask_zero (a k b m : Nat) (hk : 1 ≤ k) (hm : 1 ≤ m) : mask a k &&& mask b m = 0 ↔ (a + k ≤ b ∨ b + m ≤ a) := by
  constructor
  · intro h
    by_cases h1 : a + k ≤ b
    · exact .inl h1
    · by_cases h2 : b + m ≤ a
      · exact .inr h2
      · exfalso
        have hb : (mask a k &&& mask b m).testBit (max a b) = true := by
          rw [Nat.testBit_and, mask_bit, mask_bit]
          simp; omega
        rw [h] at hb
        simp at hb
  · intro h
    apply Nat.eq_of_testBit_eq
    intro j
    rw [Nat.testBit_and, mask_bit, mask_bit, Nat.zero_testBit]
    simp
    omega
end BitNat
end Go.Proofs.YtmknnjjmmfbppaaGreat
/- Contracts of package field: May, Most, Of, Put, Apart, mask, inside, outside, over valid fields (numbers a, k with 1 ≤ k, a + k ≤ 64) and over fields that are not valid. -/
namespace Go.Proofs.YtmknnjjmmfbppaaGreat
open Go.ChangeShapes Go.WideShapes Go.ChangeAt Go.RowKit
set_option linter.unusedVariables false
/-- a field's value in the model -/
abbrev fld (a k : Int) : Value := .agg #[.int .i64 a, .int .i64 k]
theorem ret_u64 {a b : Int} (h : a = b) : Ending.returned (.int .u64 a) = .returned (.int .u64 b) := by rw [h]
theorem mask_any (a k : Nat) (w : World) (h1 : 1 ≤ k) (h2 : a + k ≤ 64) :
    Calls Tryz.prog 271 #[fld a k] w fun e w' => e = .returned (.int .u64 (BitNat.mask a k : Nat)) ∧ Below w.heap.size w w' := by
  go_enter Tryz.func271, Tryz.ntmps271
  go_wp2
  go_region
  go_wp2
  go_ret
  refine ⟨ret_u64 ?_, ?_⟩
  · have hl := BitNat.mask_lt a k h2
    rw [BitNat.mask_int a k h1 (by omega), IntKind.wrap_u64]
    omega
  · go_grown
theorem inside_any (a k : Nat) (x : Nat) (w : World) (h1 : 1 ≤ k) (h2 : a + k ≤ 64) (hx : x < 18446744073709551616) :
    Calls Tryz.prog 279 #[.int .u64 x, .func (.func 271) #[fld a k] #[]] w fun e w' => e = .returned (.int .u64 (x &&& BitNat.mask a k : Nat)) ∧ Below w.heap.size w w' := by
  go_enter Tryz.func279, Tryz.ntmps279
  go_wp2_with (go_at_call 271; refine (mask_any a k _ h1 h2).mono ?_; rintro e w' ⟨rfl, hb⟩)
  go_ret
  exact ⟨ret_u64 (u64_and_nat x _ hx (BitNat.mask_lt a k h2)), hb⟩
theorem outside_any (a k : Nat) (x : Nat) (w : World) (h1 : 1 ≤ k) (h2 : a + k ≤ 64) (hx : x < 18446744073709551616) :
    Calls Tryz.prog 270 #[.int .u64 x, .func (.func 271) #[fld a k] #[]] w fun e w' => e = .returned (.int .u64 (BitNat.rest a k x : Nat)) ∧ Below w.heap.size w w' := by
  go_enter Tryz.func270, Tryz.ntmps270
  go_wp2_with (go_at_call 271; refine (mask_any a k _ h1 h2).mono ?_; rintro e w' ⟨rfl, hb⟩)
  go_ret
  exact ⟨ret_u64 (u64_andNot_nat x _ hx (BitNat.mask_lt a k h2)), hb⟩
theorem may_yes (a k : Nat) (w : World) (h1 : 1 ≤ k) (h2 : a + k ≤ 64) :
    Calls Tryz.prog 216 #[fld a k] w fun e w' => e = .returned (.bool true) ∧ Below w.heap.size w w' := by
  have h3 : decide ((k : Int) ≤ 64 - a) = true := by simp; omega
  go_enter Tryz.func216, Tryz.ntmps216
  go_wp2
  go_ret
  refine ⟨rfl, by go_grown⟩
theorem may_no (a k : Int) (w : World) (ha : -9223372036854775808 ≤ a) (ha2 : a ≤ 9223372036854775807) (hk : k ≤ 9223372036854775807) (h : ¬ (0 ≤ a ∧ 1 ≤ k ∧ a + k ≤ 64)) :
    Calls Tryz.prog 216 #[fld a k] w fun e w' => e = .returned (.bool false) ∧ Below w.heap.size w w' := by
  by_cases h1 : 0 ≤ a
  · by_cases h2 : 1 ≤ k
    · have h3 : decide (k ≤ 64 - a) = false := by simp; omega
      go_enter Tryz.func216, Tryz.ntmps216
      go_wp2
      go_ret
      refine ⟨rfl, by go_grown⟩
    · go_enter Tryz.func216, Tryz.ntmps216
      go_wp2
      go_ret
      refine ⟨rfl, by go_grown⟩
  · go_enter Tryz.func216, Tryz.ntmps216
    go_wp2
    go_ret
    refine ⟨rfl, by go_grown⟩
end Go.Proofs.YtmknnjjmmfbppaaGreat
/- Contracts of package field, continued: Most, Of, Put, Apart, over fields that are valid and fields that are not. -/
namespace Go.Proofs.YtmknnjjmmfbppaaGreat
open Go.ChangeShapes Go.WideShapes Go.ChangeAt Go.RowKit
set_option linter.unusedVariables false
theorem bcell {W w1 : World} (hb : Below W.heap.size W w1) : (∀ b o, b < W.heap.size → w1.cell? ⟨b, o, none⟩ = W.cell? ⟨b, o, none⟩) ∧ (∀ b o, b < W.heap.size → w1.frozen? ⟨b, o, none⟩ = W.frozen? ⟨b, o, none⟩) :=
  ⟨fun b o h => hb.cell (p := ⟨b, o, none⟩) h, fun b o h => hb.frozen (p := ⟨b, o, none⟩) h⟩
/-- a field boxed at B -/
structure Box (B : Nat) (a k : Int) (w : World) : Prop where
  c0 : w.cell? ⟨B, 0, none⟩ = some (.int .i64 a)
  c1 : w.cell? ⟨B, 1, none⟩ = some (.int .i64 k)
theorem box_new (w : World) (a k : Int) (t : TypeId) : Box w.heap.size a k (w.alloc (.cells #[.int .i64 a, .int .i64 k] t)) := ⟨by simp, by simp⟩
theorem Box.below {B : Nat} {a k : Int} {w w1 : World} {n : Nat} (h : Box B a k w) (hb : Below n w w1) (hn : B < n) : Box B a k w1 :=
  ⟨(hb.cell (p := ⟨B, 0, none⟩) hn).trans h.c0, (hb.cell (p := ⟨B, 1, none⟩) hn).trans h.c1⟩
theorem most_yes (a k : Nat) (w : World) (h1 : 1 ≤ k) (h2 : a + k ≤ 64) :
    Calls Tryz.prog 269 #[fld a k] w fun e w' => e = .returned (.int .u64 (2^k - 1 : Nat)) ∧ Below w.heap.size w w' := by
  have B0 := (Below.refl w.heap.size w).alloc (Nat.le_refl _) (.cells #[.int .i64 a, .int .i64 k] 223)
  have hm : ((BitNat.mask a k : Nat) : Int) / 2^a = ((2^k - 1 : Nat) : Int) := BitNat.mask_div a k
  go_enter Tryz.func269, Tryz.ntmps269
  go_wp2_with (go_at_call 216; refine (may_yes a k _ h1 h2).mono ?_; rintro e w1 ⟨rfl, hb⟩; obtain ⟨c0, c1⟩ := (box_new w a k _).below hb (by simp); have hz : w.heap.size < w1.heap.size := (by have := hb.size; simp at this; omega); replace B0 := B0.trans (hb.mono (by go_size)))
  go_region_with (go_at_call 271; refine (mask_any a k _ h1 h2).mono ?_; rintro e w2 ⟨rfl, hb2⟩; obtain ⟨c02, c12⟩ := (⟨c0, c1⟩ : Box w.heap.size a k w1.drew).below hb2 (by go_size); replace B0 := B0.drew.trans (hb2.mono (by go_size)))
  all_goals go_wp2
  all_goals go_ret
  all_goals exact ⟨rfl, B0⟩
theorem most_no (a k : Int) (w : World) (ha : -9223372036854775808 ≤ a) (ha2 : a ≤ 9223372036854775807) (hk : k ≤ 9223372036854775807) (h : ¬ (0 ≤ a ∧ 1 ≤ k ∧ a + k ≤ 64)) :
    Calls Tryz.prog 269 #[fld a k] w fun e w' => e = .returned (.int .u64 0) ∧ Below w.heap.size w w' := by
  have B0 := (Below.refl w.heap.size w).alloc (Nat.le_refl _) (.cells #[.int .i64 a, .int .i64 k] 223)
  have H := Lib.hid h
  clear h
  go_enter Tryz.func269, Tryz.ntmps269
  go_wp2_with (go_at_call 216; refine (may_no a k _ ha ha2 hk H.out).mono ?_; rintro e w1 ⟨rfl, hb⟩; replace B0 := B0.trans (hb.mono (by go_size)))
  go_ret
  exact ⟨rfl, B0⟩
theorem of_yes (a k : Nat) (x : Nat) (w : World) (h1 : 1 ≤ k) (h2 : a + k ≤ 64) (hx : x < 18446744073709551616) :
    Calls Tryz.prog 236 #[fld a k, .int .u64 x] w fun e w' => e = .returned (.int .u64 (BitNat.get a k x : Nat)) ∧ Below w.heap.size w w' := by
  have B0 := (Below.refl w.heap.size w).alloc (Nat.le_refl _) (.cells #[.int .i64 a, .int .i64 k] 223)
  have hm := BitNat.and_mask_int a k x
  go_enter Tryz.func236, Tryz.ntmps236
  go_wp2_with (go_at_call 216; refine (may_yes a k _ h1 h2).mono ?_; rintro e w1 ⟨rfl, hb⟩; obtain ⟨c0, c1⟩ := (box_new w a k _).below hb (by simp); have hz : w.heap.size < w1.heap.size := (by have := hb.size; simp at this; omega); replace B0 := B0.trans (hb.mono (by go_size)))
  go_region_with (go_at_call 279; refine (inside_any a k x _ h1 h2 hx).mono ?_; rintro e w2 ⟨rfl, hb2⟩; obtain ⟨c02, c12⟩ := (⟨c0, c1⟩ : Box w.heap.size a k w1.drew).below hb2 (by go_size); replace B0 := B0.drew.trans (hb2.mono (by go_size)))
  all_goals go_wp2
  all_goals go_ret
  all_goals exact ⟨rfl, B0⟩
theorem of_no (a k : Int) (x : Int) (w : World) (ha : -9223372036854775808 ≤ a) (ha2 : a ≤ 9223372036854775807) (hk : k ≤ 9223372036854775807) (h : ¬ (0 ≤ a ∧ 1 ≤ k ∧ a + k ≤ 64)) :
    Calls Tryz.prog 236 #[fld a k, .int .u64 x] w fun e w' => e = .returned (.int .u64 0) ∧ Below w.heap.size w w' := by
  have B0 := (Below.refl w.heap.size w).alloc (Nat.le_refl _) (.cells #[.int .i64 a, .int .i64 k] 223)
  have H := Lib.hid h
  clear h
  go_enter Tryz.func236, Tryz.ntmps236
  go_wp2_with (go_at_call 216; refine (may_no a k _ ha ha2 hk H.out).mono ?_; rintro e w1 ⟨rfl, hb⟩; replace B0 := B0.trans (hb.mono (by go_size)))
  go_ret
  exact ⟨rfl, B0⟩
theorem or_put (a k x v : Nat) (h : a + k ≤ 64) (hx : x < 18446744073709551616) (hv : v < 2^k) :
    bits .or .u64 ((BitNat.rest a k x : Nat) : Int) ((v : Int) * 2^a) = ((BitNat.put a k x v : Nat) : Int) := by
  have e : ((v : Int) * 2^a) = ((v * 2^a : Nat) : Int) := by simp only [Int.natCast_mul, Int.natCast_pow, Int.cast_ofNat_Int]
  rw [e, u64_or_nat _ _ (BitNat.rest_lt a k x hx) (BitNat.up_lt a k v h hv)]
  rfl
theorem wrap_up (a k v : Nat) (h : a + k ≤ 64) (hv : v < 2^k) : IntKind.u64.wrap ((v : Int) * 2^a) = (v : Int) * 2^a := by
  have e : ((v : Int) * 2^a) = ((v * 2^a : Nat) : Int) := by simp only [Int.natCast_mul, Int.natCast_pow, Int.cast_ofNat_Int]
  have := BitNat.up_lt a k v h hv
  rw [e, IntKind.wrap_u64]
  omega
theorem put_no (a k : Int) (x v : Int) (w : World) (ha : -9223372036854775808 ≤ a) (ha2 : a ≤ 9223372036854775807) (hk : k ≤ 9223372036854775807) (h : ¬ (0 ≤ a ∧ 1 ≤ k ∧ a + k ≤ 64)) :
    Calls Tryz.prog 217 #[fld a k, .int .u64 x, .int .u64 v] w fun e w' => e = .returned (.tuple #[.int .u64 0, .bool false]) ∧ Below w.heap.size w w' := by
  have B0 := (Below.refl w.heap.size w).alloc (Nat.le_refl _) (.cells #[.int .i64 a, .int .i64 k] 223)
  have H := Lib.hid h
  clear h
  go_enter Tryz.func217, Tryz.ntmps217
  go_wp2_with (go_at_call 216; refine (may_no a k _ ha ha2 hk H.out).mono ?_; rintro e w1 ⟨rfl, hb⟩; replace B0 := B0.trans (hb.mono (by go_size)))
  go_ret2
  exact ⟨rfl, B0⟩
theorem put_big (a k : Nat) (x v : Nat) (w : World) (h1 : 1 ≤ k) (h2 : a + k ≤ 64) (hv : ¬ v < 2^k) :
    Calls Tryz.prog 217 #[fld a k, .int .u64 x, .int .u64 v] w fun e w' => e = .returned (.tuple #[.int .u64 0, .bool false]) ∧ Below w.heap.size w w' := by
  have B0 := (Below.refl w.heap.size w).alloc (Nat.le_refl _) (.cells #[.int .i64 a, .int .i64 k] 223)
  have hg : decide (2^k - 1 < v) = true := by have := Nat.two_pow_pos k; simp; omega
  clear hv
  go_enter Tryz.func217, Tryz.ntmps217
  go_wp2_with (first
    | (go_at_call 216; refine (may_yes a k _ h1 h2).mono ?_; rintro e w1 ⟨rfl, hb⟩; obtain ⟨c0, c1⟩ := (box_new w a k _).below hb (by simp); have hz : w.heap.size < w1.heap.size := (by have := hb.size; simp at this; omega); replace B0 := B0.trans (hb.mono (by go_size)))
    | (go_at_call 269; refine (most_yes a k _ h1 h2).mono ?_; rintro e w2 ⟨rfl, hb2⟩; obtain ⟨c02, c12⟩ := (⟨c0, c1⟩ : Box w.heap.size a k w1).below hb2 (by go_size); replace B0 := B0.trans (hb2.mono (by go_size))))
  all_goals go_ret2
  all_goals exact ⟨rfl, B0⟩
end Go.Proofs.YtmknnjjmmfbppaaGreat
