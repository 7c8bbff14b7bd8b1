/- An act, on the program's cells: what is answered, and what all have then. -/
import Derived.Test.YtbnigmemkblflaaCellsWorks
namespace Go.Proofs.Ytbnigmemkblflaa
open Go.ChangeShapes Go.WideShapes Go.ChangeAt Go.RowKit
set_option linter.unusedVariables false
set_option linter.unusedSimpArgs false
/-- what an act answers, what the cells have then, how many operations it is -/
def actP (l : List Int) (W I V N : Int) : Int × List Int × Int :=
  if I < 0 then (0, l, 0) else match l[I.toNat]? with
  | none => (0, l, 0)
  | some x =>
    if W % 4 = 0 then (x, l, 1)
    else if W % 4 = 1 then (1, l.set I.toNat V, 1)
    else if W % 4 = 2 then (if x = V then (1, l.set I.toNat N, 1) else (0, l, 1))
    else (IntKind.u64.wrap (x + V), l.set I.toNat (IntKind.u64.wrap (x + V)), 1)
abbrev actV (W I V N : Int) : Value := .agg #[.int .u8 W, .int .i8 I, .int .u64 V, .int .u64 N]
theorem truth_yes (w : World) : Calls Try.prog 21 #[.bool true] w fun e w' => e = .returned (.int .u64 1) ∧ w = w' := by
  go_enter Try.func21, Try.ntmps21
  go_wp2
  go_ret
  exact ⟨rfl, rfl⟩
theorem truth_no (w : World) : Calls Try.prog 21 #[.bool false] w fun e w' => e = .returned (.int .u64 0) ∧ w = w' := by
  go_enter Try.func21, Try.ntmps21
  go_wp2
  go_ret
  exact ⟨rfl, rfl⟩
def DoPost (w : World) (C S : Nat) (l : List Int) (k : Int) (a : Int × List Int × Int) (e : Ending) (w' : World) : Prop :=
  e = .returned (.int .u64 a.1) ∧ CellsAt w' C S a.2.1 (k + a.2.2) ∧ Keep (ofCells C S) w w'
theorem DoPost.no {w w' w1 : World} {C S : Nat} {l : List Int} {k : Int} (hC : CellsAt w C S l k) (hb : Below w.heap.size w w') : DoPost w C S l k (0, l, 0) (.returned (.int .u64 0)) w' :=
  ⟨rfl, by simpa using hC.keep (Keep.ofBelow (Q := fun _ => False) hb) (fun h => h) (fun h => h), Keep.ofBelow hb⟩
theorem actP_no {l : List Int} {W I V N : Int} (h : I < 0 ∨ l.length ≤ I) : actP l W I V N = (0, l, 0) := by
  unfold actP
  rcases h with h | h
  · rw [if_pos h]
  · rw [if_neg (by omega), List.getElem?_eq_none (by omega)]
/- the four kinds of acts; cells that are not there -/
set_option maxHeartbeats 1000000 in
theorem do_no (C S : Nat) (l : List Int) (k W I V N : Int) (w : World) (hC : CellsAt w C S l k) (w0 : 0 ≤ W) (w1 : W ≤ 255) (i0 : -128 ≤ I) (i1 : I ≤ 127) (h : I < 0 ∨ l.length ≤ I) :
    Calls Try.prog 9 #[cellsV C, actV W I V N] w (DoPost w C S l k (0, l, 0)) := by
  have hbox : Below w.heap.size w (w.alloc (.cells #[.int .u8 W, .int .i8 I, .int .u64 V, .int .u64 N] 35)) := (Below.refl _ _).alloc (Nat.le_refl _) _
  have hC1 := hC.keep (Keep.ofBelow (Q := fun _ => False) hbox) (fun h => h) (fun h => h)
  have hs : (w.alloc (.cells #[.int .u8 W, .int .i8 I, .int .u64 V, .int .u64 N] 35)).heap.size = w.heap.size + 1 := by simp
  have hm : W % 4 = 0 ∨ W % 4 = 1 ∨ W % 4 = 2 ∨ W % 4 = 3 := by omega
  have HL := Lib.hid h
  clear h
  have L1 := Lib.hid (load_no C S l k I _ hC1 HL.out)
  have L2 := Lib.hid (store_no C S l k I V _ hC1 HL.out)
  have L3 := Lib.hid (swap_no C S l k I V N _ hC1 HL.out)
  have L4 := Lib.hid (add_no C S l k I V _ hC1 HL.out)
  rcases hm with hm | hm | hm | hm
  all_goals
    go_enter Try.func9, Try.ntmps9
    go_wp2_with (first
      | (go_at_call 15; refine L1.out.mono ?_; rintro e w2 ⟨rfl, hb⟩)
      | (go_at_call 16; refine L2.out.mono ?_; rintro e w2 ⟨rfl, hb⟩)
      | (go_at_call 17; refine L3.out.mono ?_; rintro e w2 ⟨rfl, hb⟩)
      | (go_at_call 18; refine L4.out.mono ?_; rintro e w2 ⟨rfl, hb⟩)
      | (go_at_call 21; refine (truth_no _).mono ?_; rintro e w3 ⟨rfl, rfl⟩))
    go_ret
    exact DoPost.no (w1 := w) hC (hbox.trans (hb.mono (by omega)))
set_option maxHeartbeats 1000000 in
theorem do_load (C S : Nat) (l : List Int) (k W V N x : Int) (i : Nat) (w : World) (hC : CellsAt w C S l k) (w0 : 0 ≤ W) (w1 : W ≤ 255) (i1 : (i : Int) ≤ 127) (h0 : 0 ≤ k) (h1 : k < 9223372036854775807) (hx : l[i]? = some x) (hm : W % 4 = 0) :
    Calls Try.prog 9 #[cellsV C, actV W i V N] w (DoPost w C S l k (x, l, 1)) := by
  have hbox : Below w.heap.size w (w.alloc (.cells #[.int .u8 W, .int .i8 i, .int .u64 V, .int .u64 N] 35)) := (Below.refl _ _).alloc (Nat.le_refl _) _
  have hC1 := hC.keep (Keep.ofBelow (Q := fun _ => False) hbox) (fun h => h) (fun h => h)
  have HX := Lib.hid hx
  clear hx
  have L := Lib.hid (load_yes C S l k i x _ hC1 HX.out h0 h1)
  have i0 : 0 ≤ (i : Int) := by omega
  go_enter Try.func9, Try.ntmps9
  go_wp2_with (first
    | (go_at_call 15; refine L.out.mono ?_; rintro e w2 ⟨rfl, hD, hk⟩))
  go_ret
  exact ⟨rfl, hD, (Keep.ofBelow hbox).trans hk⟩
set_option maxHeartbeats 1000000 in
theorem do_store (C S : Nat) (l : List Int) (k W V N x : Int) (i : Nat) (w : World) (hC : CellsAt w C S l k) (w0 : 0 ≤ W) (w1 : W ≤ 255) (i1 : (i : Int) ≤ 127) (h0 : 0 ≤ k) (h1 : k < 9223372036854775807) (hx : l[i]? = some x) (hm : W % 4 = 1) :
    Calls Try.prog 9 #[cellsV C, actV W i V N] w (DoPost w C S l k (1, l.set i V, 1)) := by
  have hbox : Below w.heap.size w (w.alloc (.cells #[.int .u8 W, .int .i8 i, .int .u64 V, .int .u64 N] 35)) := (Below.refl _ _).alloc (Nat.le_refl _) _
  have hC1 := hC.keep (Keep.ofBelow (Q := fun _ => False) hbox) (fun h => h) (fun h => h)
  have HX := Lib.hid hx
  clear hx
  have L := Lib.hid (store_yes C S l k i x V _ hC1 HX.out h0 h1)
  have i0 : 0 ≤ (i : Int) := by omega
  go_enter Try.func9, Try.ntmps9
  go_wp2_with (first
    | (go_at_call 16; refine L.out.mono ?_; rintro e w2 ⟨rfl, hD, hk⟩)
    | (go_at_call 21; refine (truth_yes _).mono ?_; rintro e w3 ⟨rfl, rfl⟩))
  go_ret
  exact ⟨rfl, hD, (Keep.ofBelow hbox).trans hk⟩
set_option maxHeartbeats 1000000 in
theorem do_swap1 (C S : Nat) (l : List Int) (k W V N : Int) (i : Nat) (w : World) (hC : CellsAt w C S l k) (w0 : 0 ≤ W) (w1 : W ≤ 255) (i1 : (i : Int) ≤ 127) (h0 : 0 ≤ k) (h1 : k < 9223372036854775807) (hx : l[i]? = some V) (hm : W % 4 = 2) :
    Calls Try.prog 9 #[cellsV C, actV W i V N] w (DoPost w C S l k (1, l.set i N, 1)) := by
  have hbox : Below w.heap.size w (w.alloc (.cells #[.int .u8 W, .int .i8 i, .int .u64 V, .int .u64 N] 35)) := (Below.refl _ _).alloc (Nat.le_refl _) _
  have hC1 := hC.keep (Keep.ofBelow (Q := fun _ => False) hbox) (fun h => h) (fun h => h)
  have HX := Lib.hid hx
  clear hx
  have L := Lib.hid (swap_yes C S l k i V N _ hC1 HX.out h0 h1)
  have i0 : 0 ≤ (i : Int) := by omega
  go_enter Try.func9, Try.ntmps9
  go_wp2_with (first
    | (go_at_call 17; refine L.out.mono ?_; rintro e w2 ⟨rfl, hD, hk⟩)
    | (go_at_call 21; refine (truth_yes _).mono ?_; rintro e w3 ⟨rfl, rfl⟩))
  go_ret
  exact ⟨rfl, hD, (Keep.ofBelow hbox).trans hk⟩
set_option maxHeartbeats 1000000 in
theorem do_swap0 (C S : Nat) (l : List Int) (k W V N x : Int) (i : Nat) (w : World) (hC : CellsAt w C S l k) (w0 : 0 ≤ W) (w1 : W ≤ 255) (i1 : (i : Int) ≤ 127) (h0 : 0 ≤ k) (h1 : k < 9223372036854775807) (hx : l[i]? = some x) (hne : x ≠ V) (hm : W % 4 = 2) :
    Calls Try.prog 9 #[cellsV C, actV W i V N] w (DoPost w C S l k (0, l, 1)) := by
  have hbox : Below w.heap.size w (w.alloc (.cells #[.int .u8 W, .int .i8 i, .int .u64 V, .int .u64 N] 35)) := (Below.refl _ _).alloc (Nat.le_refl _) _
  have hC1 := hC.keep (Keep.ofBelow (Q := fun _ => False) hbox) (fun h => h) (fun h => h)
  have HX := Lib.hid hx
  clear hx
  have HN := Lib.hid hne
  clear hne
  have L := Lib.hid (swap_other C S l k i x V N _ hC1 HX.out HN.out h0 h1)
  have i0 : 0 ≤ (i : Int) := by omega
  go_enter Try.func9, Try.ntmps9
  go_wp2_with (first
    | (go_at_call 17; refine L.out.mono ?_; rintro e w2 ⟨rfl, hD, hk⟩)
    | (go_at_call 21; refine (truth_no _).mono ?_; rintro e w3 ⟨rfl, rfl⟩))
  go_ret
  exact ⟨rfl, hD, (Keep.ofBelow hbox).trans hk⟩
set_option maxHeartbeats 1000000 in
theorem do_add (C S : Nat) (l : List Int) (k W V N x : Int) (i : Nat) (w : World) (hC : CellsAt w C S l k) (w0 : 0 ≤ W) (w1 : W ≤ 255) (i1 : (i : Int) ≤ 127) (h0 : 0 ≤ k) (h1 : k < 9223372036854775807) (hx : l[i]? = some x) (hm : W % 4 = 3) :
    Calls Try.prog 9 #[cellsV C, actV W i V N] w (DoPost w C S l k (IntKind.u64.wrap (x + V), l.set i (IntKind.u64.wrap (x + V)), 1)) := by
  have hbox : Below w.heap.size w (w.alloc (.cells #[.int .u8 W, .int .i8 i, .int .u64 V, .int .u64 N] 35)) := (Below.refl _ _).alloc (Nat.le_refl _) _
  have hC1 := hC.keep (Keep.ofBelow (Q := fun _ => False) hbox) (fun h => h) (fun h => h)
  have HX := Lib.hid hx
  clear hx
  have L := Lib.hid (add_yes C S l k i x V _ hC1 HX.out h0 h1)
  have i0 : 0 ≤ (i : Int) := by omega
  generalize IntKind.u64.wrap (x + V) = s at *
  go_enter Try.func9, Try.ntmps9
  go_wp2_with (first
    | (go_at_call 18; refine L.out.mono ?_; rintro e w2 ⟨rfl, hD, hk⟩))
  go_ret
  exact ⟨rfl, hD, (Keep.ofBelow hbox).trans hk⟩
theorem do_any (C S : Nat) (l : List Int) (k W I V N : Int) (w : World) (hC : CellsAt w C S l k) (w0 : 0 ≤ W) (w1 : W ≤ 255) (i0 : -128 ≤ I) (i1 : I ≤ 127) (h0 : 0 ≤ k) (h1 : k < 9223372036854775807) :
    Calls Try.prog 9 #[cellsV C, actV W I V N] w (DoPost w C S l k (actP l W I V N)) := by
  by_cases h : I < 0 ∨ l.length ≤ I
  · rw [actP_no h]; exact do_no C S l k W I V N w hC w0 w1 i0 i1 h
  · obtain ⟨i, rfl⟩ := Int.eq_ofNat_of_zero_le (show 0 ≤ I by omega)
    have hlt : i < l.length := by omega
    have hx := List.getElem?_eq_getElem hlt
    generalize l[i] = x at hx
    have e : actP l W i V N = if W % 4 = 0 then (x, l, 1) else if W % 4 = 1 then (1, l.set i V, 1) else if W % 4 = 2 then (if x = V then (1, l.set i N, 1) else (0, l, 1)) else (IntKind.u64.wrap (x + V), l.set i (IntKind.u64.wrap (x + V)), 1) := by
      unfold actP
      rw [if_neg (by omega), Int.toNat_natCast, hx]
    rw [e]
    have hm : W % 4 = 0 ∨ W % 4 = 1 ∨ W % 4 = 2 ∨ W % 4 = 3 := by omega
    rcases hm with hm | hm | hm | hm
    · rw [if_pos hm]; exact do_load C S l k W V N x i w hC w0 w1 i1 h0 h1 hx hm
    · rw [if_neg (by omega), if_pos hm]; exact do_store C S l k W V N x i w hC w0 w1 i1 h0 h1 hx hm
    · rw [if_neg (by omega), if_neg (by omega), if_pos hm]
      by_cases hv : x = V
      · subst hv; rw [if_pos rfl]; exact do_swap1 C S l k W x N i w hC w0 w1 i1 h0 h1 hx hm
      · rw [if_neg hv]; exact do_swap0 C S l k W V N x i w hC w0 w1 i1 h0 h1 hx hv hm
    · rw [if_neg (by omega), if_neg (by omega), if_neg (by omega)]; exact do_add C S l k W V N x i w hC w0 w1 i1 h0 h1 hx hm
theorem actP_length (l : List Int) (W I V N : Int) : (actP l W I V N).2.1.length = l.length := by
  unfold actP
  split
  · rfl
  · split
    · rfl
    · repeat' (split <;> try simp)
end Go.Proofs.Ytbnigmemkblflaa
