/- Contracts of package field, continued: Most, Of, Put, Apart, over fields that are valid and fields that are not. -/
import Derived.Test.YtbaehokffdpopaaGreatFieldA
namespace Go.Proofs.YtbaehokffdpopaaGreat
open Go.ChangeShapes Go.WideShapes Go.ChangeAt Go.RowKit
set_option linter.unusedVariables false
theorem bcell {W w1 : World} (hb : Below W.heap.size W w1) : (∀ b o, b < W.heap.size → w1.cell? ⟨b, o, none⟩ = W.cell? ⟨b, o, none⟩) ∧ (∀ b o, b < W.heap.size → w1.frozen? ⟨b, o, none⟩ = W.frozen? ⟨b, o, none⟩) :=
  ⟨fun b o h => hb.cell (p := ⟨b, o, none⟩) h, fun b o h => hb.frozen (p := ⟨b, o, none⟩) h⟩
/-- a field boxed at B -/
structure Box (B : Nat) (a k : Int) (w : World) : Prop where
  c0 : w.cell? ⟨B, 0, none⟩ = some (.int .i64 a)
  c1 : w.cell? ⟨B, 1, none⟩ = some (.int .i64 k)
theorem box_new (w : World) (a k : Int) (t : TypeId) : Box w.heap.size a k (w.alloc (.cells #[.int .i64 a, .int .i64 k] t)) := ⟨by simp, by simp⟩
theorem Box.below {B : Nat} {a k : Int} {w w1 : World} {n : Nat} (h : Box B a k w) (hb : Below n w w1) (hn : B < n) : Box B a k w1 :=
  ⟨(hb.cell (p := ⟨B, 0, none⟩) hn).trans h.c0, (hb.cell (p := ⟨B, 1, none⟩) hn).trans h.c1⟩
theorem most_yes (a k : Nat) (w : World) (h1 : 1 ≤ k) (h2 : a + k ≤ 64) :
    Calls Tryz.prog 235 #[fld a k] w fun e w' => e = .returned (.int .u64 (2^k - 1 : Nat)) ∧ Below w.heap.size w w' := by
  have B0 := (Below.refl w.heap.size w).alloc (Nat.le_refl _) (.cells #[.int .i64 a, .int .i64 k] 212)
  have hm : ((BitNat.mask a k : Nat) : Int) / 2^a = ((2^k - 1 : Nat) : Int) := BitNat.mask_div a k
  go_enter Tryz.func235, Tryz.ntmps235
  go_wp2_with (go_at_call 206; refine (may_yes a k _ h1 h2).mono ?_; rintro e w1 ⟨rfl, hb⟩; obtain ⟨c0, c1⟩ := (box_new w a k _).below hb (by simp); have hz : w.heap.size < w1.heap.size := (by have := hb.size; simp at this; omega); replace B0 := B0.trans (hb.mono (by go_size)))
  go_region_with (go_at_call 237; refine (mask_any a k _ h1 h2).mono ?_; rintro e w2 ⟨rfl, hb2⟩; obtain ⟨c02, c12⟩ := (⟨c0, c1⟩ : Box w.heap.size a k w1.drew).below hb2 (by go_size); replace B0 := B0.drew.trans (hb2.mono (by go_size)))
  all_goals go_wp2
  all_goals go_ret
  all_goals exact ⟨rfl, B0⟩
theorem most_no (a k : Int) (w : World) (ha : -9223372036854775808 ≤ a) (ha2 : a ≤ 9223372036854775807) (hk : k ≤ 9223372036854775807) (h : ¬ (0 ≤ a ∧ 1 ≤ k ∧ a + k ≤ 64)) :
    Calls Tryz.prog 235 #[fld a k] w fun e w' => e = .returned (.int .u64 0) ∧ Below w.heap.size w w' := by
  have B0 := (Below.refl w.heap.size w).alloc (Nat.le_refl _) (.cells #[.int .i64 a, .int .i64 k] 212)
  have H := Lib.hid h
  clear h
  go_enter Tryz.func235, Tryz.ntmps235
  go_wp2_with (go_at_call 206; refine (may_no a k _ ha ha2 hk H.out).mono ?_; rintro e w1 ⟨rfl, hb⟩; replace B0 := B0.trans (hb.mono (by go_size)))
  go_ret
  exact ⟨rfl, B0⟩
theorem of_yes (a k : Nat) (x : Nat) (w : World) (h1 : 1 ≤ k) (h2 : a + k ≤ 64) (hx : x < 18446744073709551616) :
    Calls Tryz.prog 226 #[fld a k, .int .u64 x] w fun e w' => e = .returned (.int .u64 (BitNat.get a k x : Nat)) ∧ Below w.heap.size w w' := by
  have B0 := (Below.refl w.heap.size w).alloc (Nat.le_refl _) (.cells #[.int .i64 a, .int .i64 k] 212)
  have hm := BitNat.and_mask_int a k x
  go_enter Tryz.func226, Tryz.ntmps226
  go_wp2_with (go_at_call 206; refine (may_yes a k _ h1 h2).mono ?_; rintro e w1 ⟨rfl, hb⟩; obtain ⟨c0, c1⟩ := (box_new w a k _).below hb (by simp); have hz : w.heap.size < w1.heap.size := (by have := hb.size; simp at this; omega); replace B0 := B0.trans (hb.mono (by go_size)))
  go_region_with (go_at_call 245; refine (inside_any a k x _ h1 h2 hx).mono ?_; rintro e w2 ⟨rfl, hb2⟩; obtain ⟨c02, c12⟩ := (⟨c0, c1⟩ : Box w.heap.size a k w1.drew).below hb2 (by go_size); replace B0 := B0.drew.trans (hb2.mono (by go_size)))
  all_goals go_wp2
  all_goals go_ret
  all_goals exact ⟨rfl, B0⟩
theorem of_no (a k : Int) (x : Int) (w : World) (ha : -9223372036854775808 ≤ a) (ha2 : a ≤ 9223372036854775807) (hk : k ≤ 9223372036854775807) (h : ¬ (0 ≤ a ∧ 1 ≤ k ∧ a + k ≤ 64)) :
    Calls Tryz.prog 226 #[fld a k, .int .u64 x] w fun e w' => e = .returned (.int .u64 0) ∧ Below w.heap.size w w' := by
  have B0 := (Below.refl w.heap.size w).alloc (Nat.le_refl _) (.cells #[.int .i64 a, .int .i64 k] 212)
  have H := Lib.hid h
  clear h
  go_enter Tryz.func226, Tryz.ntmps226
  go_wp2_with (go_at_call 206; refine (may_no a k _ ha ha2 hk H.out).mono ?_; rintro e w1 ⟨rfl, hb⟩; replace B0 := B0.trans (hb.mono (by go_size)))
  go_ret
  exact ⟨rfl, B0⟩
theorem or_put (a k x v : Nat) (h : a + k ≤ 64) (hx : x < 18446744073709551616) (hv : v < 2^k) :
    bits .or .u64 ((BitNat.rest a k x : Nat) : Int) ((v : Int) * 2^a) = ((BitNat.put a k x v : Nat) : Int) := by
  have e : ((v : Int) * 2^a) = ((v * 2^a : Nat) : Int) := by simp only [Int.natCast_mul, Int.natCast_pow, Int.cast_ofNat_Int]
  rw [e, u64_or_nat _ _ (BitNat.rest_lt a k x hx) (BitNat.up_lt a k v h hv)]
  rfl
theorem wrap_up (a k v : Nat) (h : a + k ≤ 64) (hv : v < 2^k) : IntKind.u64.wrap ((v : Int) * 2^a) = (v : Int) * 2^a := by
  have e : ((v : Int) * 2^a) = ((v * 2^a : Nat) : Int) := by simp only [Int.natCast_mul, Int.natCast_pow, Int.cast_ofNat_Int]
  have := BitNat.up_lt a k v h hv
  rw [e, IntKind.wrap_u64]
  omega
theorem put_no (a k : Int) (x v : Int) (w : World) (ha : -9223372036854775808 ≤ a) (ha2 : a ≤ 9223372036854775807) (hk : k ≤ 9223372036854775807) (h : ¬ (0 ≤ a ∧ 1 ≤ k ∧ a + k ≤ 64)) :
    Calls Tryz.prog 207 #[fld a k, .int .u64 x, .int .u64 v] w fun e w' => e = .returned (.tuple #[.int .u64 0, .bool false]) ∧ Below w.heap.size w w' := by
  have B0 := (Below.refl w.heap.size w).alloc (Nat.le_refl _) (.cells #[.int .i64 a, .int .i64 k] 212)
  have H := Lib.hid h
  clear h
  go_enter Tryz.func207, Tryz.ntmps207
  go_wp2_with (go_at_call 206; refine (may_no a k _ ha ha2 hk H.out).mono ?_; rintro e w1 ⟨rfl, hb⟩; replace B0 := B0.trans (hb.mono (by go_size)))
  go_ret2
  exact ⟨rfl, B0⟩
theorem put_big (a k : Nat) (x v : Nat) (w : World) (h1 : 1 ≤ k) (h2 : a + k ≤ 64) (hv : ¬ v < 2^k) :
    Calls Tryz.prog 207 #[fld a k, .int .u64 x, .int .u64 v] w fun e w' => e = .returned (.tuple #[.int .u64 0, .bool false]) ∧ Below w.heap.size w w' := by
  have B0 := (Below.refl w.heap.size w).alloc (Nat.le_refl _) (.cells #[.int .i64 a, .int .i64 k] 212)
  have hg : decide (2^k - 1 < v) = true := by have := Nat.two_pow_pos k; simp; omega
  clear hv
  go_enter Tryz.func207, Tryz.ntmps207
  go_wp2_with (first
    | (go_at_call 206; refine (may_yes a k _ h1 h2).mono ?_; rintro e w1 ⟨rfl, hb⟩; obtain ⟨c0, c1⟩ := (box_new w a k _).below hb (by simp); have hz : w.heap.size < w1.heap.size := (by have := hb.size; simp at this; omega); replace B0 := B0.trans (hb.mono (by go_size)))
    | (go_at_call 235; refine (most_yes a k _ h1 h2).mono ?_; rintro e w2 ⟨rfl, hb2⟩; obtain ⟨c02, c12⟩ := (⟨c0, c1⟩ : Box w.heap.size a k w1).below hb2 (by go_size); replace B0 := B0.trans (hb2.mono (by go_size))))
  all_goals go_ret2
  all_goals exact ⟨rfl, B0⟩
end Go.Proofs.YtbaehokffdpopaaGreat
