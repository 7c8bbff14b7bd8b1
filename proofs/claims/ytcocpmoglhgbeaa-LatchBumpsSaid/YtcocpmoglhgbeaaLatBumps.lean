/- Layer 9's laws: LatchBumps. -/
import Derived.Test.YtcocpmoglhgbeaaLatF
namespace Go.Proofs.Ytcocpmoglhgbeaa
open Go.ChangeShapes Go.WideShapes Go.ChangeAt Go.RowKit
set_option linter.unusedVariables false
set_option maxRecDepth 100000
set_option linter.unusedSimpArgs false
def bT (u x : Int) : Nat → Tre Itm
  | 0 => bumpT 0 u 1
  | 1 => inT 0 u 1
  | 2 => stT 0 u 1 x
  | 3 => outT 0 u x
  | _ => retT x
def bM (u x : Int) : Nat → List Int
  | 0 => [0, x]
  | 1 => [u + 1, x]
  | 2 => [u + 1, x]
  | 3 => [u + 1, x + 1]
  | _ => [0, x + 1]
theorem b_path (u x : Int) (hu : 0 ≤ u ∧ u ≤ 100000) (hx : 0 ≤ x ∧ x ≤ 1000000000000) : Path (bM u x) (bT u x) 4 x where
  op := fun I hI => by
    match I, hI with
    | 0, _ => exact ⟨_, _, _, _, bumpT_eq 0 u 1, (show (4 : Nat) < 5 by omega), (otake_yes (m := [0, x]) (i := 0) rfl hu).1, (otake_yes (m := [0, x]) (i := 0) rfl hu).2, rfl⟩
    | 1, _ => exact ⟨_, _, _, _, rfl, (show (0 : Nat) < 5 by omega), (oload_on (m := [u + 1, x]) (i := 1) (c := x) rfl hx).1, (oload_on (m := [u + 1, x]) (i := 1) (c := x) rfl hx).2, rfl⟩
    | 2, _ => exact ⟨_, _, _, _, rfl, (show (1 : Nat) < 5 by omega), (ostore_on (m := [u + 1, x]) (i := 1) (c := x) rfl hx).1, (ostore_on (m := [u + 1, x]) (i := 1) (c := x) rfl hx).2, rfl⟩
    | 3, _ => exact ⟨_, _, _, _, rfl, (show (2 : Nat) < 5 by omega), (odrop_yes (m := [u + 1, x + 1]) (i := 0) (u := u) rfl hu).1, (odrop_yes (m := [u + 1, x + 1]) (i := 0) (u := u) rfl hu).2, rfl⟩
  ret := rfl
def lT (x : Int) : Nat → Tre Itm
  | 0 => looseT 1
  | 1 => lsT 1 x
  | _ => retT x
def lM (x : Int) : Nat → List Int
  | 0 => [0, x]
  | 1 => [0, x]
  | _ => [0, x + 1]
theorem l_path (x : Int) (hx : 0 ≤ x ∧ x ≤ 1000000000000) : Path (lM x) (lT x) 2 x where
  op := fun I hI => by
    match I, hI with
    | 0, _ => exact ⟨_, _, _, _, rfl, (show (0 : Nat) < 5 by omega), (oload_on (m := [0, x]) (i := 1) (c := x) rfl hx).1, (oload_on (m := [0, x]) (i := 1) (c := x) rfl hx).2, rfl⟩
    | 1, _ => exact ⟨_, _, _, _, rfl, (show (1 : Nat) < 5 by omega), (ostore_on (m := [0, x]) (i := 1) (c := x) rfl hx).1, (ostore_on (m := [0, x]) (i := 1) (c := x) rfl hx).2, rfl⟩
  ret := rfl
set_option maxHeartbeats 4000000 in
theorem bumps_law (t x : Int) (w : World) (ht : 0 ≤ t ∧ t ≤ 65535) (hx : 0 ≤ x ∧ x ≤ 4294967295) : Calls Try.prog 4 #[.int .u16 t, .int .u32 x] w fun e w' => e = .returned (.bool true) ∧ Below w.heap.size w w' := by
  have HN := Lib.hid fun W (h : w.heap.size ≤ W.heap.size) => wnew (a := 2) 2 rfl W w.heap.size h (by omega)
  have HWK := Lib.hid (works_any w)
  obtain ⟨u, hu⟩ : ∃ u, t.tmod 30000 = u := ⟨_, rfl⟩
  have hu2 : 0 ≤ u ∧ u ≤ 100000 := by
    have : t.tmod 30000 = t % 30000 := Int.tmod_eq_emod_of_nonneg ht.1
    omega
  have HU := Lib.hid hu2
  have HX := Lib.hid hx
  have c1 : IntKind.i64.wrap t = t := IntWalk.i64_in _ ⟨by omega, by omega⟩
  have c2 : IntKind.u64.wrap x = x := by rw [IntKind.wrap_u64]; omega
  have c3 : IntKind.i64.wrap x = x := IntWalk.i64_in _ ⟨by omega, by omega⟩
  have c4 : IntKind.u64.wrap (x + 1) = x + 1 := by rw [IntKind.wrap_u64]; omega
  have c5 : IntKind.u64.wrap (x + 2) = x + 2 := by rw [IntKind.wrap_u64]; omega
  have c6 : IntKind.i64.wrap (x + 1) = x + 1 := IntWalk.i64_in _ ⟨by omega, by omega⟩
  go_enter Try.func4, Try.ntmps4
  go_upto_region 3 with (go_at_call 8; refine HWK.out.mono ?_; rintro e w0 ⟨rfl, b0⟩; have HN0 := Lib.hid (HN.out w0 b0.size))
  go_upto_region 4 with (go_at_call 9; refine HN0.out.mono ?_; rintro e w1 ⟨C, S, rfl, hW1, b1, _⟩; have H1 := Lib.hid (wstore (a := 1) 1 rfl 0 x hW1 rfl (by decide)); clear HN0 hW1)
  go_upto_region 6 with (first
    | (go_at_call 10; (with_reducible refine H1.out.mono ?_); rintro e w2 ⟨rfl, hW2, k2⟩; have H2 := Lib.hid (wsteps hW2); have HW2 := Lib.hid hW2; clear H1 hW2)
    | (go_at_call 12; (with_reducible refine H2.out.mono ?_); rintro e w3 ⟨rfl, rfl⟩; clear H2))
  have B2 : Below w.heap.size w w2 := (b0.trans (b1.mono b0.size)).trans (k2.below (by have := b0.size; have := b1.size; omega) (fun i _ h => h.1))
  clear b0 b1 k2
  have H3 := Lib.hid (wbump (a' := 0) (i' := 1) 0 0 1 rfl rfl u HW2.out)
  have HP := Lib.hid (b_path u x HU.out ⟨HX.out.1, by have := HX.out; omega⟩)
  have hemod : t % 30000 = u := by rw [← hu, Int.tmod_eq_emod_of_nonneg ht.1]
  clear hx hu2
  go_upto_region 8 with (first
    | (go_at_call 19; (with_reducible refine H3.out.mono ?_); rintro e w3 ⟨tb, rfl, hW3, b3⟩; have H4 := Lib.hid (finish_any (mI := 4) 0 4 HP.out hW3 rfl (by omega) (by omega) (by decide) rfl); clear H3 hW3)
    | (go_at_call 18; (with_reducible refine H4.out.mono ?_); rintro e w4 ⟨rfl, ⟨τ4, hW4, o4⟩, k4⟩; have H5 := Lib.hid (wsteps hW4); have H6 := Lib.hid (wallL 2 hW4 rfl (by omega)); have HW4 := Lib.hid hW4; clear H4 hW4)
    | (go_at_call 12; (with_reducible refine H5.out.mono ?_); rintro e w5 ⟨rfl, rfl⟩; clear H5)
    | (go_at_call 15; (with_reducible refine H6.out.mono ?_); rintro e w5 ⟨g5, cap5, rfl, hc5, hg5, b5⟩; have f5 : w5.cell? ⟨g5, 0, none⟩ = some (.int .u64 0) := hc5 0 0 rfl; have HW5 := Lib.hid (HW4.out.below b5); have H7 := Lib.hid (wallL 2 HW5.out rfl (by omega)); clear H6 hc5)
    | (go_at_call 15; (with_reducible refine H7.out.mono ?_); rintro e w6 ⟨g6, cap6, rfl, hc6, hg6, b6⟩; have f6 : w6.cell? ⟨g6, 1, none⟩ = some (.int .u64 (x + 1)) := hc6 1 (x + 1) rfl; have HW6 := Lib.hid (HW5.out.below b6); clear H7 hc6))
  have B4 : Below w.heap.size w w4 := (B2.trans (b3.mono B2.size)).trans (k4.below (by have := B2.size; have := b3.size; omega) (fun i _ h => h.1))
  have B6 : Below w.heap.size w w6 := (B4.trans (b5.mono B4.size)).trans (b6.mono (by have := B4.size; have := b5.size; omega))
  clear B2 b3 k4 b5 b6 B4 f5 f6 hg5 hg6 HW5 HW4 HW2
  have H8 := Lib.hid (wloose (i' := 1) 1 1 rfl HW6.out)
  have HP2 := Lib.hid (l_path (x + 1) ⟨by have := HX.out; omega, by have := HX.out; omega⟩)
  have c7 : x + 1 + 1 = x + 2 := by omega
  go_wp2_with (first
    | (go_at_call 20; (with_reducible refine H8.out.mono ?_); rintro e w7 ⟨tl, rfl, hW7, b7⟩; have H9 := Lib.hid (finish_any (mI := 2) 1 2 HP2.out hW7 rfl (by omega) (by omega) (by decide) rfl); clear H8 hW7)
    | (go_at_call 18; (with_reducible refine H9.out.mono ?_); rintro e w8 ⟨rfl, ⟨τ8, hW8, o8⟩, k8⟩; have H10 := Lib.hid (wsteps hW8); have H11 := Lib.hid (wallL 2 hW8 rfl (by omega)); have HW8 := Lib.hid hW8; clear H9 hW8)
    | (go_at_call 12; (with_reducible refine H10.out.mono ?_); rintro e w9 ⟨rfl, rfl⟩; clear H10)
    | (go_at_call 15; (with_reducible refine H11.out.mono ?_); rintro e w9 ⟨g9, cap9, rfl, hc9, hg9, b9⟩; have f9 : w9.cell? ⟨g9, 1, none⟩ = some (.int .u64 (x + 1 + 1)) := hc9 1 (x + 1 + 1) rfl; rw [c7] at f9; clear H11 hc9))
  go_ret
  have B7 := B6.trans (b7.mono B6.size)
  have B8 := B7.trans (k8.below B7.size (fun i _ h => h.1))
  exact ⟨rfl, B8.trans (b9.mono B8.size)⟩
end Go.Proofs.Ytcocpmoglhgbeaa
