/- Contracts of package word: the conditions, the place of the tag, the numbers of a header, and back. -/
import Derived.Test.YtbaehokffdpopaaGreatFieldC
import Derived.Test.YtbaehokffdpopaaGreatWordMath
import Derived.Deep.QuietTactic
import Derived.BigQuiet
namespace Go.Proofs.YtbaehokffdpopaaGreat
open Go.ChangeShapes Go.WideShapes Go.ChangeAt Go.RowKit
set_option linter.unusedVariables false
open Wd
/-- does n lie from a to b? -/
def inB (a n b : Int) : Bool := decide (a ≤ n) && decide (n ≤ b)
theorem between_any (a n b : Int) (w : World) : Calls Tryz.prog 211 #[.int .i64 a, .int .i64 n, .int .i64 b] w fun e w' => e = .returned (.bool (inB a n b)) ∧ w = w' := by
  by_cases h1 : a ≤ n
  · by_cases h2 : n ≤ b
    all_goals
      have h3 : inB a n b = decide (n ≤ b) := by simp [inB, h1]
      have H := Lib.hid h3
      clear h3
      go_enter Tryz.func211, Tryz.ntmps211
      go_wp2
      go_ret
      refine ⟨ret_bool ?_, rfl⟩
      rw [H.out]
      simp [h2]
  · have h3 : inB a n b = false := by simp [inB, h1]
    have H := Lib.hid h3
    clear h3
    go_enter Tryz.func211, Tryz.ntmps211
    go_wp2
    go_ret
    exact ⟨ret_bool H.out.symm, rfl⟩
/-- the condition's function -/
def fnOf : Nat → Nat
  | 1 => 208
  | 2 => 210
  | 3 => 212
  | 4 => 213
  | 5 => 214
  | 6 => 215
  | 7 => 216
  | _ => 217
theorem fit1 (n : Int) (w : World) : Calls Tryz.prog 208 #[.int .i64 n] w fun e w' => e = .returned (.bool (inB 0 n 0)) ∧ w = w' := by
  have h3 : inB 0 n 0 = (n == 0) := by
    rw [Bool.eq_iff_iff]; simp [inB]; omega
  have H := Lib.hid h3
  clear h3
  go_enter Tryz.func208, Tryz.ntmps208
  go_wp2
  go_ret
  exact ⟨ret_bool H.out.symm, rfl⟩
theorem fit2 (n : Int) (w : World) : Calls Tryz.prog 210 #[.int .i64 n] w fun e w' => e = .returned (.bool (inB 0 n 4)) ∧ w = w' := by
  go_enter Tryz.func210, Tryz.ntmps210
  go_wp2_with (go_at_call 211; refine (between_any _ _ _ _).mono ?_; rintro e w' ⟨rfl, rfl⟩)
  go_ret
  exact ⟨rfl, rfl⟩
theorem fit3 (n : Int) (w : World) : Calls Tryz.prog 212 #[.int .i64 n] w fun e w' => e = .returned (.bool (inB 0 n 16777215)) ∧ w = w' := by
  go_enter Tryz.func212, Tryz.ntmps212
  go_wp2_with (go_at_call 211; refine (between_any _ _ _ _).mono ?_; rintro e w' ⟨rfl, rfl⟩)
  go_ret
  exact ⟨rfl, rfl⟩
theorem fit4 (n : Int) (w : World) : Calls Tryz.prog 213 #[.int .i64 n] w fun e w' => e = .returned (.bool (inB 0 n 32765)) ∧ w = w' := by
  go_enter Tryz.func213, Tryz.ntmps213
  go_wp2_with (go_at_call 211; refine (between_any _ _ _ _).mono ?_; rintro e w' ⟨rfl, rfl⟩)
  go_ret
  exact ⟨rfl, rfl⟩
theorem fit5 (n : Int) (w : World) : Calls Tryz.prog 214 #[.int .i64 n] w fun e w' => e = .returned (.bool (inB 0 n 255)) ∧ w = w' := by
  go_enter Tryz.func214, Tryz.ntmps214
  go_wp2_with (go_at_call 211; refine (between_any _ _ _ _).mono ?_; rintro e w' ⟨rfl, rfl⟩)
  go_ret
  exact ⟨rfl, rfl⟩
theorem fit6 (n : Int) (w : World) : Calls Tryz.prog 215 #[.int .i64 n] w fun e w' => e = .returned (.bool (inB 1 n 255)) ∧ w = w' := by
  go_enter Tryz.func215, Tryz.ntmps215
  go_wp2_with (go_at_call 211; refine (between_any _ _ _ _).mono ?_; rintro e w' ⟨rfl, rfl⟩)
  go_ret
  exact ⟨rfl, rfl⟩
theorem fit7 (n : Int) (w : World) : Calls Tryz.prog 216 #[.int .i64 n] w fun e w' => e = .returned (.bool (inB 0 n 4095)) ∧ w = w' := by
  go_enter Tryz.func216, Tryz.ntmps216
  go_wp2_with (go_at_call 211; refine (between_any _ _ _ _).mono ?_; rintro e w' ⟨rfl, rfl⟩)
  go_ret
  exact ⟨rfl, rfl⟩
theorem fit8 (n : Int) (w : World) : Calls Tryz.prog 217 #[.int .i64 n] w fun e w' => e = .returned (.bool (inB 0 n 4095)) ∧ w = w' := by
  go_enter Tryz.func217, Tryz.ntmps217
  go_wp2_with (go_at_call 211; refine (between_any _ _ _ _).mono ?_; rintro e w' ⟨rfl, rfl⟩)
  go_ret
  exact ⟨rfl, rfl⟩
/-- a part as the program uses it: its condition's function answers so, its place is valid and has room, or there is none -/
structure Good (p : Prt) : Prop where
  fit : ∀ (n : Int) (w : World), Calls Tryz.prog (fnOf p.f) #[.int .i64 n] w fun e w' => e = .returned (.bool (inB p.lo n p.hi)) ∧ w = w'
  none : p.k = 0 → p.a = 0
  room : p.a + p.k ≤ 64
  lo : 0 ≤ p.lo
  hi : p.k ≠ 0 → p.hi < 2^p.k
  wide : p.k ≤ 24
theorem good_tag : Good pTag := ⟨fit2, by decide, by decide, by decide, by decide, by decide⟩
theorem good_hash : Good pHash := ⟨fit3, by decide, by decide, by decide, by decide, by decide⟩
theorem good_no : Good pNo := ⟨fit1, by decide, by decide, by decide, by decide, by decide⟩
theorem good_owner : Good pOwner := ⟨fit4, by decide, by decide, by decide, by decide, by decide⟩
theorem good_count : Good pCount := ⟨fit5, by decide, by decide, by decide, by decide, by decide⟩
theorem good_thin : Good pThin := ⟨fit6, by decide, by decide, by decide, by decide, by decide⟩
theorem good_mon : Good pMon := ⟨fit7, by decide, by decide, by decide, by decide, by decide⟩
theorem good_gen : Good pGen := ⟨fit8, by decide, by decide, by decide, by decide, by decide⟩
theorem good_p2 (t : Int) : Good (p2 t) := by unfold p2; split; exact good_owner; split; exact good_owner; exact good_no
theorem good_p3 (t : Int) : Good (p3 t) := by unfold p3; split; exact good_count; split; exact good_thin; exact good_no
theorem good_p4 (t : Int) : Good (p4 t) := by unfold p4; split; exact good_mon; exact good_no
theorem good_p5 (t : Int) : Good (p5 t) := by unfold p5; split; exact good_gen; exact good_no
/-- a part's value in the model -/
abbrev prtV (p : Prt) : Value := .agg #[.int .i64 p.a, .int .i64 p.k, .func (.func (fnOf p.f)) #[] #[]]
abbrev prtsV (p0 p1 p2 p3 p4 p5 : Prt) : Value := .agg #[.int .i64 p0.a, .int .i64 p0.k, .func (.func (fnOf p0.f)) #[] #[], .int .i64 p1.a, .int .i64 p1.k, .func (.func (fnOf p1.f)) #[] #[],
  .int .i64 p2.a, .int .i64 p2.k, .func (.func (fnOf p2.f)) #[] #[], .int .i64 p3.a, .int .i64 p3.k, .func (.func (fnOf p3.f)) #[] #[],
  .int .i64 p4.a, .int .i64 p4.k, .func (.func (fnOf p4.f)) #[] #[], .int .i64 p5.a, .int .i64 p5.k, .func (.func (fnOf p5.f)) #[] #[]]
abbrev numsV (n0 n1 n2 n3 n4 n5 : Int) : Value := .agg #[.int .i64 n0, .int .i64 n1, .int .i64 n2, .int .i64 n3, .int .i64 n4, .int .i64 n5]
/-- a header's value: tag, owner, count, monitor, generation, hash -/
abbrev hdV (x : Hd) : Value := .agg #[.int .i64 x.t, .int .i64 x.o, .int .i64 x.c, .int .i64 x.m, .int .i64 x.g, .int .i64 x.h]
theorem tagPlace_any (w : World) : Calls Tryz.prog 209 #[] w fun e w' => e = .returned (fld 0 3) ∧ Below w.heap.size w w' := by
  go_enter Tryz.func209, Tryz.ntmps209
  go_wp2
  exact bodyPost_ret (v := fld 0 3) (by simp [results, Tryz.results209, go_sem]) rfl ⟨rfl, by go_grown⟩
theorem conv_small (n : Nat) (h : n < 16777216) : IntKind.i64.wrap (n : Int) = n := by
  rw [IntKind.wrap_i64]; omega
theorem tagIn_any (x : Nat) (w : World) (hx : x < 18446744073709551616) : Calls Tryz.prog 184 #[.int .u64 x] w fun e w' => e = .returned (.int .i64 (tagOf x)) ∧ Below w.heap.size w w' := by
  have hc : 0 ≤ ((BitNat.get 0 3 x : Nat) : Int) := by omega
  have hd : ((BitNat.get 0 3 x : Nat) : Int) ≤ 7 := by have := BitNat.get_lt 0 3 x; omega
  go_enter Tryz.func184, Tryz.ntmps184
  go_wp2_with (first
    | (go_at_call 209; refine (tagPlace_any _).mono ?_; rintro e w1 ⟨rfl, hb⟩)
    | (go_at_call 226; refine (of_yes 0 3 x _ (by decide) (by decide) hx).mono ?_; rintro e w2 ⟨rfl, hb2⟩))
  go_ret
  exact ⟨rfl, hb.trans (hb2.mono hb.size)⟩
theorem numbersOf_any (x : Hd) (w : World) : Calls Tryz.prog 180 #[hdV x] w fun e w' => e = .returned (numsV x.t x.h x.o x.c x.m x.g) ∧ Below w.heap.size w w' := by
  go_enter Tryz.func180, Tryz.ntmps180
  go_wp2
  exact bodyPost_ret (v := numsV x.t x.h x.o x.c x.m x.g) (by simp [results, Tryz.results180, go_sem]) rfl ⟨rfl, by go_grown⟩
theorem headerOf_any (x : Hd) (w : World) : Calls Tryz.prog 186 #[numsV x.t x.h x.o x.c x.m x.g] w fun e w' => e = .returned (hdV x) ∧ Below w.heap.size w w' := by
  go_enter Tryz.func186, Tryz.ntmps186
  go_wp2
  exact bodyPost_ret (v := hdV x) (by simp [results, Tryz.results186, go_sem]) rfl ⟨rfl, by go_grown⟩
end Go.Proofs.YtbaehokffdpopaaGreat
