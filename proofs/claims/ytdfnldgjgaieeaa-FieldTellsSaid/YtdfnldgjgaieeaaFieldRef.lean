/- Contracts of the document's own answers of layer 1 (doorkeeperref01): May, Bit, Of, Most, Put. -/
import Derived.Test.YtdfnldgjgaieeaaFieldC
import Derived.WalkSmall
import Derived.LoopTactic
namespace Go.Proofs.Ytdfnldgjgaieeaa
open Go.ChangeShapes Go.WideShapes Go.ChangeAt Go.RowKit
set_option linter.unusedVariables false
theorem refMay_yes (a k : Nat) (w : World) (h1 : 1 ≤ k) (h2 : a + k ≤ 64) :
    Calls Try.prog 8 #[.int .i64 a, .int .i64 k] w fun e w' => e = .returned (.bool true) ∧ w = w' := by
  have g3 : decide ((k : Int) ≤ 64) = true := by simp; omega
  have g4 : decide ((a : Int) ≤ 64 - k) = true := by simp; omega
  go_enter Try.func8, Try.ntmps8
  go_wp2
  go_ret
  exact ⟨ret_bool (by simp; try omega), rfl⟩
theorem refMay_no (a k : Int) (w : World) (ha : -9223372036854775808 ≤ a) (ha2 : a ≤ 9223372036854775807) (hk : k ≤ 9223372036854775807) (h : ¬ (0 ≤ a ∧ 1 ≤ k ∧ a + k ≤ 64)) :
    Calls Try.prog 8 #[.int .i64 a, .int .i64 k] w fun e w' => e = .returned (.bool false) ∧ w = w' := by
  by_cases h1 : 0 ≤ a
  · by_cases h2 : 1 ≤ k
    · by_cases h3 : k ≤ 64
      · have h4 : ¬ a ≤ 64 - k := by omega
        clear h
        go_enter Try.func8, Try.ntmps8
        go_wp2
        go_ret
        exact ⟨ret_bool (by simp; try omega), rfl⟩
      · clear h
        go_enter Try.func8, Try.ntmps8
        go_wp2
        go_ret
        exact ⟨ret_bool (by simp; try omega), rfl⟩
    · clear h
      go_enter Try.func8, Try.ntmps8
      go_wp2
      go_ret
      exact ⟨ret_bool (by simp; try omega), rfl⟩
  · clear h
    go_enter Try.func8, Try.ntmps8
    go_wp2
    go_ret
    exact ⟨ret_bool (by simp; try omega), rfl⟩
theorem bit_word (x i : Nat) (hx : x < 18446744073709551616) : (bits BinOp.and IntKind.u64 ((x : Int) / 2 ^ i) 1 == 1) = x.testBit i := by
  have e : ((x : Int) / 2 ^ i) = ((x / 2 ^ i : Nat) : Int) := by simp only [Int.natCast_ediv, Int.natCast_pow, Int.cast_ofNat_Int]
  have hd : x / 2 ^ i ≤ x := Nat.div_le_self _ _
  rw [e, Nat.testBit_eq_decide_div_mod_eq]
  generalize x / 2 ^ i = q at *
  rw [and_one_u64 _ (by omega) (by omega), Bool.eq_iff_iff, beq_iff_eq, decide_eq_true_eq]
  omega
theorem refBit_any (x i : Nat) (w : World) (hx : x < 18446744073709551616) (hi : i < 64) :
    Calls Try.prog 23 #[.int .u64 x, .int .i64 i] w fun e w' => e = .returned (.bool (x.testBit i)) ∧ w = w' := by
  have hb := bit_word x i hx
  go_enter Try.func23, Try.ntmps23
  go_wp2
  go_ret
  exact ⟨ret_bool (by first | exact hb | (rw [← hb])), rfl⟩
theorem refBit_eq (x i : Nat) (b : Bool) (w : World) (hx : x < 18446744073709551616) (hi : i < 64) (hb : x.testBit i = b) :
    Calls Try.prog 23 #[.int .u64 x, .int .i64 i] w fun e w' => e = .returned (.bool b) ∧ w = w' := by
  rw [← hb]; exact refBit_any x i w hx hi
theorem half_step (G j : Nat) : G / 2 ^ j = 2 * (G / 2 ^ (j + 1)) + (if G.testBit j then 1 else 0) := by
  have e : G / 2 ^ (j + 1) = G / 2 ^ j / 2 := by rw [Nat.pow_succ, Nat.div_div_eq_div_mul]
  rw [e, Nat.testBit_eq_decide_div_mod_eq]
  generalize G / 2 ^ j = q
  by_cases h : q % 2 = 1
  · simp [h]; omega
  · simp [h]; omega
theorem vu64 {k : IntKind} {a b : Int} (h : a = b) : Value.int k a = Value.int k b := by rw [h]
set_option maxHeartbeats 1000000 in
theorem refOf_any (a k x : Nat) (w : World) (h2 : a + k ≤ 64) (hx : x < 18446744073709551616) :
    Calls Try.prog 16 #[.int .i64 a, .int .i64 k, .int .u64 x] w fun e w' => e = .returned (.int .u64 (BitNat.get a k x : Nat)) ∧ w = w' := by
  have hG : BitNat.get a k x < 18446744073709551616 := by
    have h1 := BitNat.get_lt a k x
    have h3 : 2 ^ k ≤ 2 ^ 64 := Nat.pow_le_pow_right (by decide) (by omega)
    have h4 : (2:Nat) ^ 64 = 18446744073709551616 := by decide
    omega
  have hbit : ∀ j, j < k → x.testBit (a + j) = (BitNat.get a k x).testBit j := fun j hj => by rw [BitNat.get_bit]; simp [hj]
  have h0 : BitNat.get a k x / 2 ^ k = 0 := Nat.div_eq_of_lt (BitNat.get_lt a k x)
  generalize BitNat.get a k x = G at *
  have HB := Lib.hid hbit
  have H0 := Lib.hid h0
  clear hbit h0
  go_enter Try.func16, Try.ntmps16
  go_wp2_with fail
  go_loop [7, 8] (fun n i => ∃ j : Nat, j ≤ k ∧ i = .int .i64 ((j : Int) - 1) ∧ n = .int .u64 ((G / 2 ^ j : Nat) : Int)) (fun _ i => (intOf i + 1).toNat)
  case atStart => exact ⟨k, Nat.le_refl _, rfl, vu64 (by rw [H0.out]; rfl)⟩
  case round =>
    obtain ⟨j, hj, rfl, rfl⟩ := hrel
    cases j with
    | zero =>
      have e0 : G / 2 ^ 0 = G := by simp
      go_wp2
      go_ret
      exact ⟨ret_u64 (by simp), rfl⟩
    | succ j =>
      have hs := half_step G j
      have hle : G / 2 ^ j ≤ G := Nat.div_le_self _ _
      have hb := HB.out j (by omega)
      generalize hq : G / 2 ^ (j + 1) = q at *
      generalize hq2 : G / 2 ^ j = q2 at *
      have HQ := Lib.hid hq2
      have HS := Lib.hid hs
      have e2 : ((a : Int) + (j : Int)) = ((a + j : Nat) : Int) := by omega
      have HE := Lib.hid hq
      clear hq hq2
      cases hbb : G.testBit j
      · have BB : ∀ W : World, Calls Try.prog 23 #[.int .u64 x, .int .i64 ((a : Int) + (j : Int))] W fun e w' => e = .returned (.bool false) ∧ W = w' := fun W => by
          rw [e2]; exact refBit_eq x (a + j) false W hx (by omega) (hb.trans hbb)
        have hle2 : 2 * q + 0 ≤ G := by rw [hbb] at hs; simp at hs; omega
        have hq3 : q2 = 2 * q + 0 := by rw [hbb] at hs; simpa using hs
        have HQ3 := Lib.hid hq3
        have HBB := Lib.hid BB
        clear BB hb hbb hs e2 HB hq3 hle
        go_wp2_with (go_at_call 23; refine (HBB.out _).mono ?_; rintro e w' ⟨rfl, rfl⟩)
        go_round
        case rel => exact ⟨j, by omega, vu64 (by omega), vu64 (by rw [HQ.out, HQ3.out]; push_cast; omega)⟩
        case measure => simp [intOf]
      · have BB : ∀ W : World, Calls Try.prog 23 #[.int .u64 x, .int .i64 ((a : Int) + (j : Int))] W fun e w' => e = .returned (.bool true) ∧ W = w' := fun W => by
          rw [e2]; exact refBit_eq x (a + j) true W hx (by omega) (hb.trans hbb)
        have hle2 : 2 * q + 1 ≤ G := by rw [hbb] at hs; simp at hs; omega
        have hq3 : q2 = 2 * q + 1 := by rw [hbb] at hs; simpa using hs
        have HQ3 := Lib.hid hq3
        have HBB := Lib.hid BB
        clear BB hb hbb hs e2 HB hq3 hle
        go_wp2_with (go_at_call 23; refine (HBB.out _).mono ?_; rintro e w' ⟨rfl, rfl⟩)
        go_round
        case rel => exact ⟨j, by omega, vu64 (by omega), vu64 (by rw [HQ.out, HQ3.out]; push_cast; omega)⟩
        case measure => simp [intOf]
theorem get_all (k : Nat) (h : k ≤ 64) : BitNat.get 0 k 18446744073709551615 = 2 ^ k - 1 := by
  apply Nat.eq_of_testBit_eq
  intro j
  rw [BitNat.get_bit, BitNat.all_bit, Nat.testBit_two_pow_sub_one]
  by_cases hj : j < k
  · have : j < 64 := by omega
    simp [hj, this]
  · simp [hj]
theorem refMost_any (k : Nat) (w : World) (h : k ≤ 64) :
    Calls Try.prog 15 #[.int .i64 k] w fun e w' => e = .returned (.int .u64 (2 ^ k - 1 : Nat)) ∧ w = w' := by
  have O : ∀ W : World, Calls Try.prog 16 #[.int .i64 0, .int .i64 k, .int .u64 18446744073709551615] W fun e w' => e = .returned (.int .u64 (2 ^ k - 1 : Nat)) ∧ W = w' := fun W => by
    have h1 := refOf_any 0 k 18446744073709551615 W (by omega) (by decide)
    rw [get_all k h] at h1
    exact h1
  have HO := Lib.hid O
  clear O
  go_enter Try.func15, Try.ntmps15
  go_wp2_with fail
  refine (HO.out _).mono ?_
  rintro e w' ⟨rfl, rfl⟩
  go_wp2
  go_ret
  exact ⟨rfl, rfl⟩
theorem refPut_big (a k x v : Nat) (w : World) (h : k ≤ 64) (hv : ¬ v < 2 ^ k) :
    Calls Try.prog 14 #[.int .i64 a, .int .i64 k, .int .u64 x, .int .u64 v] w fun e w' => e = .returned (.tuple #[.int .u64 0, .bool false]) ∧ w = w' := by
  have hg : 2 ^ k - 1 < v := by have := Nat.two_pow_pos k; omega
  have O := fun W => refMost_any k W h
  generalize (2 ^ k - 1 : Nat) = m at *
  have HO := Lib.hid O
  clear O hv
  go_enter Try.func14, Try.ntmps14
  go_wp2_with fail
  refine (HO.out _).mono ?_
  rintro e w' ⟨rfl, rfl⟩
  go_wp2
  go_ret2
  exact ⟨rfl, rfl⟩
set_option maxHeartbeats 2000000 in
theorem refPut_any (a k x v : Nat) (w : World) (h1 : 1 ≤ k) (h2 : a + k ≤ 64) (hx : x < 18446744073709551616) (hv : v < 2 ^ k) :
    Calls Try.prog 14 #[.int .i64 a, .int .i64 k, .int .u64 x, .int .u64 v] w fun e w' => e = .returned (.tuple #[.int .u64 (BitNat.put a k x v : Nat), .bool true]) ∧ w = w' := by
  have hg : ¬ 2 ^ k - 1 < v := by have := Nat.two_pow_pos k; omega
  have hvl : v < 18446744073709551616 := by
    have h3 : 2 ^ k ≤ 2 ^ 64 := Nat.pow_le_pow_right (by decide) (by omega)
    have h4 : (2:Nat) ^ 64 = 18446744073709551616 := by decide
    omega
  have O := fun W => refMost_any k W (by omega)
  have hG := BitNat.put_lt a k x v h2 hx hv
  have hbit := fun j => BitNat.put_bit a k x v j h2 hx hv
  generalize (2 ^ k - 1 : Nat) = m at *
  generalize BitNat.put a k x v = G at *
  have h0 : G / 2 ^ 64 = 0 := Nat.div_eq_of_lt (by omega)
  have HO := Lib.hid O
  have HB := Lib.hid hbit
  have H0 := Lib.hid h0
  clear O hv hbit h0
  go_enter Try.func14, Try.ntmps14
  go_wp2_with fail
  refine (HO.out _).mono ?_
  rintro e w' ⟨rfl, rfl⟩
  go_wp2_with fail
  go_loop [10, 11] (fun n i => ∃ j : Nat, j ≤ 64 ∧ i = .int .i64 ((j : Int) - 1) ∧ n = .int .u64 ((G / 2 ^ j : Nat) : Int)) (fun _ i => (intOf i + 1).toNat)
  case atStart => exact ⟨64, Nat.le_refl _, rfl, vu64 (by rw [H0.out]; rfl)⟩
  case round =>
    obtain ⟨j, hj, rfl, rfl⟩ := hrel
    cases j with
    | zero =>
      go_wp2
      go_ret2
      exact ⟨by simp, rfl⟩
    | succ j =>
      have hs := half_step G j
      have hle : G / 2 ^ j ≤ G := Nat.div_le_self _ _
      have hb := HB.out j
      generalize hq : G / 2 ^ (j + 1) = q at *
      generalize hq2 : G / 2 ^ j = q2 at *
      have HQ := Lib.hid hq2
      have HE := Lib.hid hq
      clear hq hq2
      by_cases hin : a ≤ j ∧ j < a + k
      · rw [if_pos hin] at hb
        obtain ⟨n1, n2⟩ := hin
        have e2 : ((j : Int) - (a : Int)) = ((j - a : Nat) : Int) := by omega
        cases hbb : G.testBit j
        · have BB : ∀ W : World, Calls Try.prog 23 #[.int .u64 v, .int .i64 ((j : Int) - (a : Int))] W fun e w' => e = .returned (.bool false) ∧ W = w' := fun W => by rw [e2]; exact refBit_eq v (j - a) false W hvl (by omega) (by rw [← hb]; exact hbb)
          have hle2 : 2 * q + 0 ≤ G := by rw [hbb] at hs; simp at hs; omega
          have hq3 : q2 = 2 * q + 0 := by rw [hbb] at hs; simpa using hs
          have HQ3 := Lib.hid hq3
          have HBB := Lib.hid BB
          clear BB hb hbb hs HB hq3 hle e2
          go_wp2_with (go_at_call 23; refine (HBB.out _).mono ?_; rintro e w' ⟨rfl, rfl⟩)
          go_round
          case rel => exact ⟨j, by omega, vu64 (by omega), vu64 (by rw [HQ.out, HQ3.out]; push_cast; omega)⟩
          case measure => simp [intOf]
        · have BB : ∀ W : World, Calls Try.prog 23 #[.int .u64 v, .int .i64 ((j : Int) - (a : Int))] W fun e w' => e = .returned (.bool true) ∧ W = w' := fun W => by rw [e2]; exact refBit_eq v (j - a) true W hvl (by omega) (by rw [← hb]; exact hbb)
          have hle2 : 2 * q + 1 ≤ G := by rw [hbb] at hs; simp at hs; omega
          have hq3 : q2 = 2 * q + 1 := by rw [hbb] at hs; simpa using hs
          have HQ3 := Lib.hid hq3
          have HBB := Lib.hid BB
          clear BB hb hbb hs HB hq3 hle e2
          go_wp2_with (go_at_call 23; refine (HBB.out _).mono ?_; rintro e w' ⟨rfl, rfl⟩)
          go_round
          case rel => exact ⟨j, by omega, vu64 (by omega), vu64 (by rw [HQ.out, HQ3.out]; push_cast; omega)⟩
          case measure => simp [intOf]
      · rw [if_neg hin] at hb
        have e3 : (j < a) ∨ (a ≤ j ∧ a + k ≤ j) := by omega
        clear hin
        rcases e3 with n1 | ⟨n1, n2⟩
        all_goals
          cases hbb : G.testBit j
          · have BB : ∀ W : World, Calls Try.prog 23 #[.int .u64 x, .int .i64 (j : Int)] W fun e w' => e = .returned (.bool false) ∧ W = w' := fun W => refBit_eq x j false W hx (by omega) (by rw [← hb]; exact hbb)
            have hle2 : 2 * q + 0 ≤ G := by rw [hbb] at hs; simp at hs; omega
            have hq3 : q2 = 2 * q + 0 := by rw [hbb] at hs; simpa using hs
            have HQ3 := Lib.hid hq3
            have HBB := Lib.hid BB
            clear BB hb hbb hs HB hq3 hle
            go_wp2_with (go_at_call 23; refine (HBB.out _).mono ?_; rintro e w' ⟨rfl, rfl⟩)
            go_round
            case rel => exact ⟨j, by omega, vu64 (by omega), vu64 (by rw [HQ.out, HQ3.out]; push_cast; omega)⟩
            case measure => simp [intOf]
          · have BB : ∀ W : World, Calls Try.prog 23 #[.int .u64 x, .int .i64 (j : Int)] W fun e w' => e = .returned (.bool true) ∧ W = w' := fun W => refBit_eq x j true W hx (by omega) (by rw [← hb]; exact hbb)
            have hle2 : 2 * q + 1 ≤ G := by rw [hbb] at hs; simp at hs; omega
            have hq3 : q2 = 2 * q + 1 := by rw [hbb] at hs; simpa using hs
            have HQ3 := Lib.hid hq3
            have HBB := Lib.hid BB
            clear BB hb hbb hs HB hq3 hle
            go_wp2_with (go_at_call 23; refine (HBB.out _).mono ?_; rintro e w' ⟨rfl, rfl⟩)
            go_round
            case rel => exact ⟨j, by omega, vu64 (by omega), vu64 (by rw [HQ.out, HQ3.out]; push_cast; omega)⟩
            case measure => simp [intOf]
end Go.Proofs.Ytdfnldgjgaieeaa
