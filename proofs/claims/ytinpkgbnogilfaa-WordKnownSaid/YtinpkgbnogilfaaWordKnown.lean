/- WordKnown returns true: the chapter's examples, the greatest numbers and one more, words that are none. No condition. -/
import Derived.Test.YtinpkgbnogilfaaWordG
namespace Go.Proofs.Ytinpkgbnogilfaa
open Go.ChangeShapes Go.WideShapes Go.ChangeAt Go.RowKit
set_option linter.unusedVariables false
set_option linter.unusedSimpArgs false
open Wd
theorem open_lit (v : Nat) (z : Int) (hz : z = v) (hv : v < 18446744073709551616) (h : openP v = none) :
    ∀ W, Calls Try.prog 12 #[.int .u64 z] W fun e w' => e = .returned (.tuple #[.agg #[.int .i64 0, .int .i64 0, .int .i64 0, .int .i64 0, .int .i64 0, .int .i64 0], .bool false]) ∧ Below W.heap.size W w' := by
  intro W; subst hz; have := open_any v W hv; rw [h] at this; exact this
theorem free_lit : ∀ W, Calls Try.prog 14 #[.int .u64 7] W fun e w' => e = .returned (.tuple #[.int .u64 0, .bool false]) ∧ Below W.heap.size W w' := by
  intro W; have := free_any 7 W (by decide); rw [show withP 7 ⟨1, 0, 0, 0, 0, 0⟩ = none by decide +kernel] at this; exact this
theorem thin_lit : ∀ W, Calls Try.prog 17 #[.int .u64 0, .int .i64 0, .int .i64 0] W fun e w' => e = .returned (.tuple #[.int .u64 0, .bool false]) ∧ Below W.heap.size W w' := by
  intro W; have := thin_any 0 0 0 W (by decide); rw [show withP 0 ⟨3, 0, 0, 0, 0, 0⟩ = none by decide +kernel] at this; exact this
set_option maxRecDepth 100000 in
set_option maxHeartbeats 4000000 in
theorem wordKnown_any (w : World) : Calls Try.prog 6 #[] w fun e w' => e = .returned (.bool true) ∧ Below w.heap.size w w' := by
  have P1 := Lib.hid (packs_lit 2 32765 255 0 0 16777215 1125899638407162 1125899638407162 rfl (by decide +kernel))
  have P2 := Lib.hid (packs_lit 4 0 0 4095 4095 0 2251799679467524 2251799679467524 rfl (by decide +kernel))
  have P3 := Lib.hid (packs_lit 0 0 0 0 0 0 0 0 rfl (by decide +kernel))
  have P4 := Lib.hid (packs_lit 2 0 0 0 0 0 2 2 rfl (by decide +kernel))
  have P5 := Lib.hid (refused_lit 5 0 0 0 0 0 (by decide +kernel))
  have P6 := Lib.hid (refused_lit (-1) 0 0 0 0 0 (by decide +kernel))
  have P7 := Lib.hid (refused_lit 0 0 0 0 0 16777216 (by decide +kernel))
  have P8 := Lib.hid (refused_lit 3 32766 1 0 0 0 (by decide +kernel))
  have P9 := Lib.hid (refused_lit 2 0 256 0 0 0 (by decide +kernel))
  have P10 := Lib.hid (refused_lit 4 0 0 4096 0 0 (by decide +kernel))
  have P11 := Lib.hid (refused_lit 4 0 0 0 (-1) 0 (by decide +kernel))
  have P12 := Lib.hid (refused_lit 3 0 1 1 0 0 (by decide +kernel))
  have P13 := Lib.hid (refused_lit 0 0 0 0 1 0 (by decide +kernel))
  have P14 := Lib.hid (open_lit 5 5 rfl (by decide) (by decide +kernel))
  have P15 := Lib.hid (open_lit 9223372036854775808 9223372036854775808 rfl (by decide) (by decide +kernel))
  have P16 := Lib.hid (open_lit 134217729 134217729 rfl (by decide) (by decide +kernel))
  have P17 := Lib.hid (open_lit 134217731 134217731 rfl (by decide) (by decide +kernel))
  have PF := Lib.hid free_lit
  have PT := Lib.hid thin_lit
  go_enter Try.func6, Try.ntmps6
  go_wp2_with fail
  (with_reducible refine (P1.out _).mono ?_)
  rintro e w1 ⟨rfl, hb⟩
  have B := hb
  clear hb
  go_wp2_with fail
  (with_reducible refine (P2.out _).mono ?_)
  rintro e w2 ⟨rfl, hb⟩
  replace B := B.trans (hb.mono B.size)
  clear hb
  go_wp2_with fail
  (with_reducible refine (P3.out _).mono ?_)
  rintro e w3 ⟨rfl, hb⟩
  replace B := B.trans (hb.mono B.size)
  clear hb
  go_wp2_with fail
  (with_reducible refine (P4.out _).mono ?_)
  rintro e w4 ⟨rfl, hb⟩
  replace B := B.trans (hb.mono B.size)
  clear hb
  go_wp2_with fail
  (with_reducible refine (P5.out _).mono ?_)
  rintro e w5 ⟨rfl, hb⟩
  replace B := B.trans (hb.mono B.size)
  clear hb
  go_wp2_with fail
  (with_reducible refine (P6.out _).mono ?_)
  rintro e w6 ⟨rfl, hb⟩
  replace B := B.trans (hb.mono B.size)
  clear hb
  go_wp2_with fail
  (with_reducible refine (P7.out _).mono ?_)
  rintro e w7 ⟨rfl, hb⟩
  replace B := B.trans (hb.mono B.size)
  clear hb
  go_wp2_with fail
  (with_reducible refine (P8.out _).mono ?_)
  rintro e w8 ⟨rfl, hb⟩
  replace B := B.trans (hb.mono B.size)
  clear hb
  go_wp2_with fail
  (with_reducible refine (P9.out _).mono ?_)
  rintro e w9 ⟨rfl, hb⟩
  replace B := B.trans (hb.mono B.size)
  clear hb
  go_wp2_with fail
  (with_reducible refine (P10.out _).mono ?_)
  rintro e w10 ⟨rfl, hb⟩
  replace B := B.trans (hb.mono B.size)
  clear hb
  go_wp2_with fail
  (with_reducible refine (P11.out _).mono ?_)
  rintro e w11 ⟨rfl, hb⟩
  replace B := B.trans (hb.mono B.size)
  clear hb
  go_wp2_with fail
  (with_reducible refine (P12.out _).mono ?_)
  rintro e w12 ⟨rfl, hb⟩
  replace B := B.trans (hb.mono B.size)
  clear hb
  go_wp2_with fail
  (with_reducible refine (P13.out _).mono ?_)
  rintro e w13 ⟨rfl, hb⟩
  replace B := B.trans (hb.mono B.size)
  clear hb
  go_wp2_with fail
  (with_reducible refine (P14.out _).mono ?_)
  rintro e w14 ⟨rfl, hb⟩
  replace B := B.trans (hb.mono B.size)
  clear hb
  go_wp2_with fail
  (with_reducible refine (P15.out _).mono ?_)
  rintro e w15 ⟨rfl, hb⟩
  replace B := (B.alloc B.size (.cells #[.int .i64 0, .int .i64 0, .int .i64 0, .int .i64 0, .int .i64 0, .int .i64 0] 23)).trans (hb.mono (by have := B.size; simp; omega))
  clear hb
  go_wp2_with fail
  (with_reducible refine (P16.out _).mono ?_)
  rintro e w16 ⟨rfl, hb⟩
  replace B := (B.alloc B.size (.cells #[.int .i64 0, .int .i64 0, .int .i64 0, .int .i64 0, .int .i64 0, .int .i64 0] 23)).trans (hb.mono (by have := B.size; simp; omega))
  clear hb
  go_wp2_with fail
  (with_reducible refine (P17.out _).mono ?_)
  rintro e w17 ⟨rfl, hb⟩
  replace B := (B.alloc B.size (.cells #[.int .i64 0, .int .i64 0, .int .i64 0, .int .i64 0, .int .i64 0, .int .i64 0] 23)).trans (hb.mono (by have := B.size; simp; omega))
  clear hb
  go_wp2_with fail
  (with_reducible refine (PF.out _).mono ?_)
  rintro e w18 ⟨rfl, hb⟩
  replace B := (B.alloc B.size (.cells #[.int .i64 0, .int .i64 0, .int .i64 0, .int .i64 0, .int .i64 0, .int .i64 0] 23)).trans (hb.mono (by have := B.size; simp; omega))
  clear hb
  go_wp2_with fail
  (with_reducible refine (PT.out _).mono ?_)
  rintro e w19 ⟨rfl, hb⟩
  replace B := B.trans (hb.mono B.size)
  clear hb
  go_wp2_with fail
  (with_reducible refine (works_any _).mono ?_)
  rintro e w20 ⟨rfl, hb⟩
  replace B := B.trans (hb.mono B.size)
  clear hb
  go_wp2
  go_ret
  exact ⟨rfl, B⟩
end Go.Proofs.Ytinpkgbnogilfaa
