/- FieldKnown returns true: the chapter's examples, fields at their ends, numbers that go round. No condition. -/
import Derived.Test.YtdfnldgjgaieeaaFieldF
import Derived.Deep.RegionHeld3
namespace Go.Proofs.Ytdfnldgjgaieeaa
open Go.ChangeShapes Go.WideShapes Go.ChangeAt Go.RowKit Go.Shelf
set_option linter.unusedVariables false
namespace Known
def wild : List (Int × Int) := [(-1, 2), (0, 0), (64, 1), (63, 2), (9223372036854775807, 9223372036854775807), (-9223372036854775808, 64), (0, 65)]
def bad (p : Int × Int) : Prop := -9223372036854775808 ≤ p.1 ∧ p.1 ≤ 9223372036854775807 ∧ p.2 ≤ 9223372036854775807 ∧ ¬ (0 ≤ p.1 ∧ 1 ≤ p.2 ∧ p.1 + p.2 ≤ 64)
instance (p : Int × Int) : Decidable (bad p) := by unfold bad; infer_instance
theorem wild_bad : ∀ k, k < 7 → bad (wild.getD k (0, 0)) := by decide +kernel
structure Inv (w0 : World) (B b : Nat) (w : World) : Prop where
  base : Below w0.heap.size w0 w
  top : Box B 63 1 w
  row : ∀ i, i < 7 → w.cell? ⟨b, i * 2, none⟩ = some (.int .i64 (wild.getD i (0, 0)).1) ∧ w.cell? ⟨b, i * 2 + 1, none⟩ = some (.int .i64 (wild.getD i (0, 0)).2)
  hB : B < w.heap.size
  hb : b < w.heap.size
theorem Inv.below {w0 w w' : World} {B b : Nat} (h : Inv w0 B b w) (hb : Below w.heap.size w w') : Inv w0 B b w' :=
  ⟨h.base.trans (hb.mono h.base.size), h.top.below hb h.hB, fun i hi => ⟨(hb.cell (p := ⟨b, i * 2, none⟩) h.hb).trans (h.row i hi).1, (hb.cell (p := ⟨b, i * 2 + 1, none⟩) h.hb).trans (h.row i hi).2⟩, Nat.lt_of_lt_of_le h.hB hb.size, Nat.lt_of_lt_of_le h.hb hb.size⟩
theorem Inv.drew {w0 w : World} {B b : Nat} (h : Inv w0 B b w) : Inv w0 B b w.drew := ⟨h.base.drew, ⟨h.top.c0, h.top.c1⟩, h.row, h.hB, h.hb⟩
/-- the field at the top, boxed at B -/
structure Top (w0 : World) (B : Nat) (w : World) : Prop where
  base : Below w0.heap.size w0 w
  top : Box B 63 1 w
  hB : B < w.heap.size
theorem Top.below {w0 w w' : World} {B : Nat} (h : Top w0 B w) (hb : Below w.heap.size w w') : Top w0 B w' :=
  ⟨h.base.trans (hb.mono h.base.size), h.top.below hb h.hB, Nat.lt_of_lt_of_le h.hB hb.size⟩
theorem Top.alloc {w0 w : World} {B : Nat} (h : Top w0 B w) (o : Obj) : Top w0 B (w.alloc o) := h.below ((Below.refl _ w).alloc (Nat.le_refl _) o)
set_option maxRecDepth 100000 in
set_option maxHeartbeats 4000000 in
theorem known_any (w : World) : Calls Try.prog 7 #[] w fun e w' => e = .returned (.bool true) ∧ Below w.heap.size w w' := by
  have P1 : ∀ W : World, Calls Try.prog 9 #[.agg #[.int .i64 63, .int .i64 1], .int .u64 0, .int .u64 1] W fun e w' => e = .returned (.tuple #[.int .u64 9223372036854775808, .bool true]) ∧ Below W.heap.size W w' := fun W => by
    have h := put_yes 63 1 0 1 W (by decide) (by decide) (by decide) (by decide)
    rw [show BitNat.put 63 1 0 1 = 9223372036854775808 by decide +kernel] at h
    exact h
  have P2 : ∀ W : World, Calls Try.prog 12 #[.agg #[.int .i64 63, .int .i64 1], .int .u64 9223372036854775808] W fun e w' => e = .returned (.int .u64 1) ∧ Below W.heap.size W w' := fun W => by
    have h := of_yes 63 1 9223372036854775808 W (by decide) (by decide) (by decide)
    rw [show BitNat.get 63 1 9223372036854775808 = 1 by decide +kernel] at h
    exact h
  have P3 : ∀ W : World, Calls Try.prog 12 #[.agg #[.int .i64 63, .int .i64 1], .int .u64 9223372036854775807] W fun e w' => e = .returned (.int .u64 0) ∧ Below W.heap.size W w' := fun W => by
    have h := of_yes 63 1 9223372036854775807 W (by decide) (by decide) (by decide)
    rw [show BitNat.get 63 1 9223372036854775807 = 0 by decide +kernel] at h
    exact h
  have P4 : ∀ W : World, Calls Try.prog 13 #[.agg #[.int .i64 63, .int .i64 1], .agg #[.int .i64 63, .int .i64 1]] W fun e w' => e = .returned (.bool false) ∧ Below W.heap.size W w' := fun W => by
    have h := apart_yes 63 1 63 1 W (by decide) (by decide) (by decide) (by decide)
    rw [show apB 63 1 63 1 = false by decide +kernel] at h
    exact h
  have P5 : ∀ W : World, Calls Try.prog 13 #[.agg #[.int .i64 63, .int .i64 1], .agg #[.int .i64 0, .int .i64 63]] W fun e w' => e = .returned (.bool true) ∧ Below W.heap.size W w' := fun W => by
    have h := apart_yes 63 1 0 63 W (by decide) (by decide) (by decide) (by decide)
    rw [show apB 63 1 0 63 = true by decide +kernel] at h
    exact h
  have L1 : ∀ W : World, Calls Try.prog 18 #[.slice none 0 0] W (LayYes W (laidW 0 [])) := fun W =>
    lay_yes _ rfl [] (by decide) _ ⟨none, 0, rfl, fun i hi => by simp at hi⟩ (by decide +kernel)
  have L2 : ∀ W : World, Calls Try.prog 18 #[.slice (some ⟨W.heap.size, 0, none⟩) 1 1] (W.alloc (.cells #[.int .i64 64] 3)) (LayYes (W.alloc (.cells #[.int .i64 64] 3)) (laidW 0 [64])) := fun W =>
    lay_yes _ rfl [64] (by decide) _ (by have := intsAt_new W [64] 3; rw [World.size_alloc]; exact this) (by decide +kernel)
  have L3 : ∀ W : World, Calls Try.prog 18 #[.slice (some ⟨W.heap.size, 0, none⟩) 1 1] (W.alloc (.cells #[.int .i64 65] 3)) (fun e w' => e = .returned (.slice none 0 0) ∧ Below (W.alloc (.cells #[.int .i64 65] 3)).heap.size (W.alloc (.cells #[.int .i64 65] 3)) w') := fun W =>
    lay_no _ rfl [65] (by decide) _ (by have := intsAt_new W [65] 3; rw [World.size_alloc]; exact this) (by decide +kernel)
  have L4 : ∀ W : World, Calls Try.prog 18 #[.slice (some ⟨W.heap.size, 0, none⟩) 4 4] (W.alloc (.cells #[.int .i64 4611686018427387904, .int .i64 4611686018427387904, .int .i64 4611686018427387904, .int .i64 4611686018427387904] 3)) (fun e w' => e = .returned (.slice none 0 0) ∧ Below (W.alloc (.cells #[.int .i64 4611686018427387904, .int .i64 4611686018427387904, .int .i64 4611686018427387904, .int .i64 4611686018427387904] 3)).heap.size (W.alloc (.cells #[.int .i64 4611686018427387904, .int .i64 4611686018427387904, .int .i64 4611686018427387904, .int .i64 4611686018427387904] 3)) w') := fun W =>
    lay_no _ rfl [4611686018427387904, 4611686018427387904, 4611686018427387904, 4611686018427387904] (by decide) _ (by have := intsAt_new W [4611686018427387904, 4611686018427387904, 4611686018427387904, 4611686018427387904] 3; rw [World.size_alloc]; exact this) (by decide +kernel)
  have L5 : ∀ W : World, Calls Try.prog 18 #[.slice (some ⟨W.heap.size, 0, none⟩) 2 2] (W.alloc (.cells #[.int .i64 (-1), .int .i64 1] 3)) (fun e w' => e = .returned (.slice none 0 0) ∧ Below (W.alloc (.cells #[.int .i64 (-1), .int .i64 1] 3)).heap.size (W.alloc (.cells #[.int .i64 (-1), .int .i64 1] 3)) w') := fun W =>
    lay_no _ rfl [-1, 1] (by decide) _ (by have := intsAt_new W [-1, 1] 3; rw [World.size_alloc]; exact this) (by decide +kernel)
  replace P1 := Lib.hid P1
  replace P2 := Lib.hid P2
  replace P3 := Lib.hid P3
  replace P4 := Lib.hid P4
  replace P5 := Lib.hid P5
  replace L1 := Lib.hid L1
  replace L2 := Lib.hid L2
  replace L3 := Lib.hid L3
  replace L4 := Lib.hid L4
  replace L5 := Lib.hid L5
  go_enter Try.func7, Try.ntmps7
  go_wp2_with fail
  refine (P1.out _).mono ?_
  rintro e w1 ⟨rfl, hb1⟩
  have B1 := ((Below.refl w.heap.size w).alloc (Nat.le_refl _) (.cells #[.int .i64 63, .int .i64 1] 25)).trans (hb1.mono (by go_size))
  obtain ⟨c0, c1⟩ := (box_new w 63 1 25).below hb1 (by simp)
  have hz : w.heap.size < w1.heap.size := (by have := hb1.size; simp at this; omega)
  clear hb1
  go_wp2_with fail
  have I0 : Inv w w.heap.size w1.heap.size (w1.alloc (.cells #[.int .i64 (-1), .int .i64 2, .int .i64 0, .int .i64 0, .int .i64 64, .int .i64 1, .int .i64 63, .int .i64 2, .int .i64 9223372036854775807, .int .i64 9223372036854775807, .int .i64 (-9223372036854775808), .int .i64 64, .int .i64 0, .int .i64 65] 25)) :=
    ⟨B1.alloc B1.size _, (⟨c0, c1⟩ : Box w.heap.size 63 1 w1).below ((Below.refl w1.heap.size w1).alloc (Nat.le_refl _) _) hz, fun i hi => by
      match i, hi with
      | 0, _ => exact ⟨by simp [wild], by simp [wild]⟩
      | 1, _ => exact ⟨by simp [wild], by simp [wild]⟩
      | 2, _ => exact ⟨by simp [wild], by simp [wild]⟩
      | 3, _ => exact ⟨by simp [wild], by simp [wild]⟩
      | 4, _ => exact ⟨by simp [wild], by simp [wild]⟩
      | 5, _ => exact ⟨by simp [wild], by simp [wild]⟩
      | 6, _ => exact ⟨by simp [wild], by simp [wild]⟩, by simp; omega, by simp⟩
  go_loopw [5] (fun i wr => ∃ k : Nat, k ≤ 7 ∧ i = .int .i64 k ∧ Inv w w.heap.size w1.heap.size wr) (fun i wr => 7 - (intOf i).toNat)
  case atStart => exact ⟨0, by omega, rfl, I0⟩
  case round =>
    obtain ⟨k, hk, rfl, T⟩ := hrel
    by_cases hlt : k < 7
    · obtain ⟨t0, t1⟩ := T.top
      obtain ⟨r0, r1⟩ := T.row k hlt
      have hbad := wild_bad k hlt
      generalize hp : wild.getD k (0, 0) = p at *
      obtain ⟨a, c⟩ := p
      obtain ⟨b1, b2, b3, b4⟩ := hbad
      have HB := Lib.hid b4
      have HP := Lib.hid hp
      clear b4 hp I0 c0 c1
      dsimp only at r0 r1 b1 b2 b3 HB
      have M1 := Lib.hid (fun W => may_no a c W b1 b2 b3 HB.out)
      have M2 := Lib.hid (fun W => most_no a c W b1 b2 b3 HB.out)
      have M3 := Lib.hid (fun W => of_no a c 18446744073709551615 W b1 b2 b3 HB.out)
      have M4 := Lib.hid (fun W => apart_no1 a c 63 1 W b1 b2 b3 HB.out)
      have M5 : Hid (∀ W : World, Calls Try.prog 13 #[fld 63 1, fld a c] W fun e w' => e = .returned (.bool false) ∧ Below W.heap.size W w') := Lib.hid (fun W => apart_no2 63 1 a c W (by decide) (by decide) b1 b2 b3 HB.out)
      go_wp2_with fail
      refine (put_no a c 0 0 _ b1 b2 b3 HB.out).mono ?_
      rintro e w2 ⟨rfl, hb⟩
      replace T := T.below hb
      clear t0 t1 r0 r1
      obtain ⟨t0, t1⟩ := T.top
      obtain ⟨r0, r1⟩ := T.row k hlt
      rw [HP.out] at r0 r1
      clear hb
      go_wp2_with fail
      go_region_held3 (fun w' => w'.cell? ⟨w.heap.size, 0, none⟩ = some (.int .i64 63) ∧ w'.cell? ⟨w.heap.size, 1, none⟩ = some (.int .i64 1) ∧ w'.cell? ⟨w1.heap.size, k * 2, none⟩ = some (.int .i64 a) ∧ w'.cell? ⟨w1.heap.size, k * 2 + 1, none⟩ = some (.int .i64 c)) (first | exact ⟨t0, t1, r0, r1⟩ | go_keep) (first
        | (go_at_call 10; refine (M1.out _).mono ?_; rintro e w3 ⟨rfl, hb⟩; replace T := T.drew.below hb; clear t0 t1 r0 r1; obtain ⟨t0, t1⟩ := T.top; obtain ⟨r0, r1⟩ := T.row k hlt; rw [HP.out] at r0 r1; clear hb)
        | (go_at_call 11; refine (M2.out _).mono ?_; rintro e w3 ⟨rfl, hb⟩; replace T := T.below hb; clear t0 t1 r0 r1; obtain ⟨t0, t1⟩ := T.top; obtain ⟨r0, r1⟩ := T.row k hlt; rw [HP.out] at r0 r1; clear hb)
        | (go_at_call 12; refine (M3.out _).mono ?_; rintro e w3 ⟨rfl, hb⟩; replace T := T.below hb; clear t0 t1 r0 r1; obtain ⟨t0, t1⟩ := T.top; obtain ⟨r0, r1⟩ := T.row k hlt; rw [HP.out] at r0 r1; clear hb)
        | (go_at_call 13; (with_reducible refine (M4.out _).mono ?_); rintro e w3 ⟨rfl, hb⟩; replace T := T.below hb; clear t0 t1 r0 r1; obtain ⟨t0, t1⟩ := T.top; obtain ⟨r0, r1⟩ := T.row k hlt; rw [HP.out] at r0 r1; clear hb)
        | (go_at_call 13; (with_reducible refine (M5.out _).mono ?_); rintro e w3 ⟨rfl, hb⟩; replace T := T.below hb; clear t0 t1 r0 r1; obtain ⟨t0, t1⟩ := T.top; obtain ⟨r0, r1⟩ := T.row k hlt; rw [HP.out] at r0 r1; clear hb))
      go_wp2
      go_roundw
      case rel => exact ⟨k + 1, by omega, by go_num, T⟩
      case measure => simp [intOf]; omega
    · obtain rfl : k = 7 := by omega
      have T : Top w w.heap.size wr := ⟨T.base, T.top, T.hB⟩
      obtain ⟨t0, t1⟩ := T.top
      clear I0 c0 c1
      go_wp2_with fail
      refine (works_any _).mono ?_
      rintro e w2 ⟨rfl, hb⟩
      replace T := T.below hb
      clear hb t0 t1
      obtain ⟨t0, t1⟩ := T.top
      go_wp2_with fail
      refine (P2.out _).mono ?_
      rintro e w2 ⟨rfl, hb⟩
      replace T := T.below hb
      clear hb t0 t1
      obtain ⟨t0, t1⟩ := T.top
      go_wp2_with fail
      refine (P3.out _).mono ?_
      rintro e w2 ⟨rfl, hb⟩
      replace T := T.below hb
      clear hb t0 t1
      obtain ⟨t0, t1⟩ := T.top
      go_wp2_with fail
      refine (P4.out _).mono ?_
      rintro e w2 ⟨rfl, hb⟩
      replace T := T.below hb
      clear hb t0 t1
      obtain ⟨t0, t1⟩ := T.top
      go_wp2_with fail
      refine (P5.out _).mono ?_
      rintro e w2 ⟨rfl, hb⟩
      replace T := T.below hb
      clear hb t0 t1
      obtain ⟨t0, t1⟩ := T.top
      go_wp2_with fail
      refine (L1.out _).mono ?_
      rintro e w2 ⟨u, rfl, hb, ⟨a1, d1, rfl, _⟩⟩
      replace T := T.below hb
      clear hb t0 t1
      obtain ⟨t0, t1⟩ := T.top
      go_wp2_with fail
      refine (L2.out _).mono ?_
      rintro e w2 ⟨u, rfl, hb, ⟨a2, d2, rfl, _⟩⟩
      replace T := (T.alloc _).below hb
      clear hb t0 t1
      obtain ⟨t0, t1⟩ := T.top
      go_wp2_with fail
      refine (L3.out _).mono ?_
      rintro e w2 ⟨rfl, hb⟩
      replace T := (T.alloc _).below hb
      clear hb t0 t1
      obtain ⟨t0, t1⟩ := T.top
      go_wp2_with fail
      refine (L4.out _).mono ?_
      rintro e w2 ⟨rfl, hb⟩
      replace T := (T.alloc _).below hb
      clear hb t0 t1
      obtain ⟨t0, t1⟩ := T.top
      go_wp2_with fail
      refine (L5.out _).mono ?_
      rintro e w2 ⟨rfl, hb⟩
      replace T := (T.alloc _).below hb
      clear hb t0 t1
      obtain ⟨t0, t1⟩ := T.top
      go_wp2
      go_ret
      exact ⟨rfl, T.base⟩
end Known
end Go.Proofs.Ytdfnldgjgaieeaa
