/- The chapter's examples hold: works returns true. -/
import Derived.Test.YtdfnldgjgaieeaaFieldE
namespace Go.Proofs.Ytdfnldgjgaieeaa
open Go.ChangeShapes Go.WideShapes Go.ChangeAt Go.RowKit Go.Shelf
set_option linter.unusedVariables false
/-- the slice u reads as these fields, in a block from lo on -/
def FieldsAt (w : World) (lo : Nat) (u : Value) (ps : List (Int × Int)) : Prop :=
  ∃ a c, u = .slice a ps.length c ∧ ∀ i, i < ps.length → ∃ b, a = some ⟨b, 0, none⟩ ∧ lo ≤ b ∧ b < w.heap.size ∧
    w.cell? ⟨b, i * 2, none⟩ = some (.int .i64 (ps.getD i (0, 0)).1) ∧ w.cell? ⟨b, i * 2 + 1, none⟩ = some (.int .i64 (ps.getD i (0, 0)).2)
theorem FieldsAt.below {w w1 : World} {lo : Nat} {u : Value} {ps : List (Int × Int)} (h : FieldsAt w lo u ps) (hb : Below w.heap.size w w1) : FieldsAt w1 lo u ps := by
  obtain ⟨a, c, e, hc⟩ := h
  refine ⟨a, c, e, fun i hi => ?_⟩
  obtain ⟨b, e1, e2, e3, e4, e5⟩ := hc i hi
  exact ⟨b, e1, e2, Nat.lt_of_lt_of_le e3 hb.size, (hb.cell (p := ⟨b, i * 2, none⟩) e3).trans e4, (hb.cell (p := ⟨b, i * 2 + 1, none⟩) e3).trans e5⟩
theorem cellsP_get (ps : List (Int × Int)) (i : Nat) (h : i < ps.length) : (cellsP ps)[i * 2]? = some (.int .i64 (ps.getD i (0, 0)).1) ∧ (cellsP ps)[i * 2 + 1]? = some (.int .i64 (ps.getD i (0, 0)).2) := by
  induction ps generalizing i with
  | nil => simp at h
  | cons p ps ih =>
    cases i with
    | zero => simp [cellsP]
    | succ i =>
      have := ih i (by simpa using h)
      have e : (i + 1) * 2 = i * 2 + 2 := by omega
      rw [e]
      simpa [cellsP] using this
theorem fieldsAt_of_row {w : World} {lo : Nat} {u : Value} {ps : List (Int × Int)} (h : w.ownsRow lo 25 2 u ps.length (cellsP ps)) : FieldsAt w lo u ps := by
  obtain ⟨h0, ⟨rfl, hn⟩ | ⟨g, cap, cur, rfl, h2, h3, h4, h5, h6, h7⟩⟩ := h
  · exact ⟨none, 0, by rw [hn], fun i hi => by omega⟩
  · refine ⟨_, cap, rfl, fun i hi => ⟨g, rfl, h2, (Array.getElem?_eq_some_iff.1 h3).1, ?_, ?_⟩⟩
    · have := (cellsP_get ps i hi).1
      rw [← h7, List.getElem?_take, if_pos (by omega)] at this
      simpa [World.cell?, h3] using this
    · have := (cellsP_get ps i hi).2
      rw [← h7, List.getElem?_take, if_pos (by omega)] at this
      simpa [World.cell?, h3] using this
def LayYes (w : World) (ps : List (Int × Int)) (e : Ending) (w' : World) : Prop :=
  ∃ u, e = .returned u ∧ Below w.heap.size w w' ∧ FieldsAt w' w.heap.size u ps
theorem lay_yes (v : Value) (h1c : v.oneCell' = true) (zs : List Int) (hlen : zs.length ≤ 4096) (w : World) (hL : IntsAt w w.heap.size v zs) (hall : (laidW 0 zs).all mayP = true) :
    Calls Try.prog 18 #[v] w (LayYes w (laidW 0 zs)) :=
  (lay_any v h1c zs hlen w hL).mono fun e w' h => by
    obtain ⟨u, he, hb, ⟨_, hr⟩ | ⟨hf, _⟩⟩ := h
    · exact ⟨u, he, hb, fieldsAt_of_row hr⟩
    · rw [hall] at hf; cases hf
theorem lay_no (v : Value) (h1c : v.oneCell' = true) (zs : List Int) (hlen : zs.length ≤ 4096) (w : World) (hL : IntsAt w w.heap.size v zs) (hall : (laidW 0 zs).all mayP = false) :
    Calls Try.prog 18 #[v] w fun e w' => e = .returned (.slice none 0 0) ∧ Below w.heap.size w w' :=
  (lay_any v h1c zs hlen w hL).mono fun e w' h => by
    obtain ⟨u, he, hb, ⟨hf, _⟩ | ⟨_, rfl⟩⟩ := h
    · rw [hall] at hf; cases hf
    · exact ⟨he, hb⟩
/-- a literal slice -/
theorem intsAt_new (w : World) (zs : List Int) (t : TypeId) : IntsAt (w.alloc (.cells (zs.map (Value.int .i64)).toArray t)) (w.heap.size + 1) (.slice (some ⟨w.heap.size, 0, none⟩) zs.length zs.length) zs := by
  refine ⟨_, _, rfl, fun i hi => ⟨w.heap.size, 0, rfl, by omega, ?_⟩⟩
  have := World.alloc_heap_new w (.cells (zs.map (Value.int .i64)).toArray t)
  unfold World.cell?
  rw [this]
  simp [List.getD_eq_getElem?_getD, hi]
/-- the two fields of works, boxed at B and B + 1 -/
structure Two (w0 : World) (B : Nat) (w : World) : Prop where
  base : Below w0.heap.size w0 w
  f : Box B 4 8 w
  g : Box (B + 1) 0 64 w
  hz : B + 1 < w.heap.size
theorem Two.below {w0 w w' : World} {B : Nat} (h : Two w0 B w) (hb : Below w.heap.size w w') : Two w0 B w' :=
  ⟨h.base.trans (hb.mono h.base.size), h.f.below hb (by have := h.hz; omega), h.g.below hb h.hz, Nat.lt_of_lt_of_le h.hz hb.size⟩
theorem works_any (w : World) : Calls Try.prog 17 #[] w fun e w' => e = .returned (.bool true) ∧ Below w.heap.size w w' := by
  have e1 : laidW 0 [3, 24, 15] = [(0, 3), (3, 24), (27, 15)] := by decide +kernel
  have L1 : Calls Try.prog 18 #[.slice (some ⟨w.heap.size, 0, none⟩) 3 3] (w.alloc (.cells #[.int .i64 3, .int .i64 24, .int .i64 15] 3)) (LayYes (w.alloc (.cells #[.int .i64 3, .int .i64 24, .int .i64 15] 3)) (laidW 0 [3, 24, 15])) :=
    lay_yes _ rfl [3, 24, 15] (by decide) _ (by have := intsAt_new w [3, 24, 15] 3; rw [World.size_alloc]; exact this) (by decide +kernel)
  have L2 : ∀ W : World, Calls Try.prog 18 #[.slice (some ⟨W.heap.size, 0, none⟩) 2 2] (W.alloc (.cells #[.int .i64 60, .int .i64 5] 3)) fun e w' => e = .returned (.slice none 0 0) ∧ Below (W.alloc (.cells #[.int .i64 60, .int .i64 5] 3)).heap.size (W.alloc (.cells #[.int .i64 60, .int .i64 5] 3)) w' := fun W =>
    lay_no _ rfl [60, 5] (by decide) _ (by have := intsAt_new W [60, 5] 3; rw [World.size_alloc]; exact this) (by decide +kernel)
  have L3 : ∀ W : World, Calls Try.prog 18 #[.slice (some ⟨W.heap.size, 0, none⟩) 2 2] (W.alloc (.cells #[.int .i64 4, .int .i64 0] 3)) fun e w' => e = .returned (.slice none 0 0) ∧ Below (W.alloc (.cells #[.int .i64 4, .int .i64 0] 3)).heap.size (W.alloc (.cells #[.int .i64 4, .int .i64 0] 3)) w' := fun W =>
    lay_no _ rfl [4, 0] (by decide) _ (by have := intsAt_new W [4, 0] 3; rw [World.size_alloc]; exact this) (by decide +kernel)
  have P1 : ∀ W : World, Calls Try.prog 9 #[.agg #[.int .i64 4, .int .i64 8], .int .u64 0, .int .u64 256] W fun e w' => e = .returned (.tuple #[.int .u64 0, .bool false]) ∧ Below W.heap.size W w' := fun W =>
    put_big 4 8 0 256 W (by decide) (by decide) (by decide)
  have P2 : ∀ W : World, Calls Try.prog 9 #[.agg #[.int .i64 4, .int .i64 8], .int .u64 65535, .int .u64 0] W fun e w' => e = .returned (.tuple #[.int .u64 61455, .bool true]) ∧ Below W.heap.size W w' := fun W => by
    have h := put_yes 4 8 65535 0 W (by decide) (by decide) (by decide) (by decide)
    rw [show BitNat.put 4 8 65535 0 = 61455 by decide +kernel] at h
    exact h
  have P3 : ∀ W : World, Calls Try.prog 9 #[.agg #[.int .i64 0, .int .i64 64], .int .u64 0, .int .u64 18446744073709551615] W fun e w' => e = .returned (.tuple #[.int .u64 18446744073709551615, .bool true]) ∧ Below W.heap.size W w' := fun W => by
    have h := put_yes 0 64 0 18446744073709551615 W (by decide) (by decide) (by decide) (by decide)
    rw [show BitNat.put 0 64 0 18446744073709551615 = 18446744073709551615 by decide +kernel] at h
    exact h
  have P4 : ∀ W : World, Calls Try.prog 11 #[.agg #[.int .i64 4, .int .i64 8]] W fun e w' => e = .returned (.int .u64 255) ∧ Below W.heap.size W w' := fun W =>
    most_yes 4 8 W (by decide) (by decide)
  have P5 : ∀ W : World, Calls Try.prog 12 #[.agg #[.int .i64 4, .int .i64 8], .int .u64 4656] W fun e w' => e = .returned (.int .u64 35) ∧ Below W.heap.size W w' := fun W => by
    have h := of_yes 4 8 4656 W (by decide) (by decide) (by decide)
    rw [show BitNat.get 4 8 4656 = 35 by decide +kernel] at h
    exact h
  have P6 : ∀ W : World, Calls Try.prog 11 #[.agg #[.int .i64 0, .int .i64 64]] W fun e w' => e = .returned (.int .u64 18446744073709551615) ∧ Below W.heap.size W w' := fun W =>
    most_yes 0 64 W (by decide) (by decide)
  replace P1 := Lib.hid P1
  replace P2 := Lib.hid P2
  replace P3 := Lib.hid P3
  replace P4 := Lib.hid P4
  replace P5 := Lib.hid P5
  replace P6 := Lib.hid P6
  have H1 := Lib.hid L1
  have H2 := Lib.hid L2
  have H3 := Lib.hid L3
  have E1 := Lib.hid e1
  clear L1 L2 L3 e1
  go_enter Try.func17, Try.ntmps17
  go_wp2_with fail
  refine H1.out.mono ?_
  rintro e w1 ⟨u, rfl, hb1, hF⟩
  have B1 := ((Below.refl w.heap.size w).alloc (Nat.le_refl _) (.cells #[.int .i64 3, .int .i64 24, .int .i64 15] 3)).trans (hb1.mono (by go_size))
  rw [E1.out] at hF
  obtain ⟨a, c, rfl, hc⟩ := hF
  obtain ⟨b, rfl, hlo, hhi, c4, c5⟩ := hc 2 (by decide)
  have c4 : w1.cell? ⟨b, 4, none⟩ = some (.int .i64 27) := c4
  have c5 : w1.cell? ⟨b, 5, none⟩ = some (.int .i64 15) := c5
  clear hc hb1 hlo hhi
  go_wp2_with fail
  refine (H2.out _).mono ?_
  rintro e w2 ⟨rfl, hb2⟩
  replace B1 := (B1.alloc B1.size (.cells #[.int .i64 60, .int .i64 5] 3)).trans (hb2.mono (by have := B1.size; go_size))
  clear hb2
  go_wp2_with fail
  refine (H3.out _).mono ?_
  rintro e w3 ⟨rfl, hb3⟩
  replace B1 := (B1.alloc B1.size (.cells #[.int .i64 4, .int .i64 0] 3)).trans (hb3.mono (by have := B1.size; go_size))
  clear hb3
  go_wp2_with fail
  have T3 : Two w w3.heap.size ((w3.alloc (.cells #[.int .i64 4, .int .i64 8] 25)).alloc (.cells #[.int .i64 0, .int .i64 64] 25)) :=
    ⟨(B1.alloc B1.size _).alloc (by have := B1.size; simp; omega) _, ⟨by simp, by simp⟩, ⟨by simp, by simp⟩, by simp⟩
  refine (P1.out _).mono ?_
  rintro e w4 ⟨rfl, hb4⟩
  have T4 := T3.below hb4
  obtain ⟨_, ⟨f0, f1⟩, ⟨g0, g1⟩, _⟩ := id T4
  go_wp2_with fail
  refine (P2.out _).mono ?_
  rintro e w5 ⟨rfl, hb5⟩
  have T5 := T4.below hb5
  clear f0 f1 g0 g1
  obtain ⟨_, ⟨f0, f1⟩, ⟨g0, g1⟩, _⟩ := id T5
  go_wp2_with fail
  refine (P3.out _).mono ?_
  rintro e w6 ⟨rfl, hb6⟩
  have T6 := T5.below hb6
  clear f0 f1 g0 g1
  obtain ⟨_, ⟨f0, f1⟩, ⟨g0, g1⟩, _⟩ := id T6
  go_wp2_with fail
  refine (P4.out _).mono ?_
  rintro e w7 ⟨rfl, hb7⟩
  have T7 := T6.below hb7
  clear f0 f1 g0 g1
  obtain ⟨_, ⟨f0, f1⟩, ⟨g0, g1⟩, _⟩ := id T7
  go_wp2_with fail
  refine (P5.out _).mono ?_
  rintro e w8 ⟨rfl, hb8⟩
  have T8 := T7.below hb8
  clear f0 f1 g0 g1
  obtain ⟨_, ⟨f0, f1⟩, ⟨g0, g1⟩, _⟩ := id T8
  go_wp2_with fail
  refine (P6.out _).mono ?_
  rintro e w9 ⟨rfl, hb9⟩
  have T9 := T8.below hb9
  go_wp2
  go_ret
  exact ⟨rfl, T9.base⟩
end Go.Proofs.Ytdfnldgjgaieeaa
