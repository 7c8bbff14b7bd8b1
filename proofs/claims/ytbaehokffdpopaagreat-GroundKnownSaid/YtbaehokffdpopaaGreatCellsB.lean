/- Contracts of package cells: New, Over, Len, Steps. -/
import Derived.Test.YtbaehokffdpopaaGreatCellsA
import Derived.WalkSpells
import Derived.OwnWalk
import Derived.Laws.OwnMore
namespace Go.Proofs.YtbaehokffdpopaaGreat
open Go.ChangeShapes Go.WideShapes Go.ChangeAt Go.RowKit
set_option linter.unusedVariables false
set_option maxRecDepth 100000
set_option linter.unusedSimpArgs false
/-- cells: their own block, and their row's -/
structure CellsAt (w : World) (C S : Nat) (l : List Int) (k : Int) : Prop where
  own : Blk w C 143 #[.iface 165 (rowV S l.length), .int .i64 k]
  row : Blk w S 55 (words l)
  ne : C ≠ S
  few : l.length ≤ 16777216
abbrev cellsV (C : Nat) : Value := .pointer (some ⟨C, 0, none⟩)
theorem CellsAt.keep {w w1 : World} {C S : Nat} {l : List Int} {k : Int} {Q : Nat → Prop} (h : CellsAt w C S l k) (hk : Keep Q w w1) (h1 : ¬ Q C) (h2 : ¬ Q S) : CellsAt w1 C S l k :=
  ⟨h.own.keep hk h1, h.row.keep hk h2, h.ne, h.few⟩
theorem call_lenC : ∀ (W : World) (args : Array Value), (callFunc 159 args).run Tryz.prog W = .ok (.enter 159 args) W := by
  intro W args
  go_simp
theorem lenC_any (b v C S : Nat) (l : List Int) (k x : Int) (w : World) (hb : w.cell? ⟨b, 0, none⟩ = some (cellsV C)) (hC : CellsAt w C S l k)
    (hv : w.cell? ⟨v, 0, none⟩ = some (.int .i64 x)) (hz : w.frozen? ⟨v, 0, none⟩ = false) :
    Calls Tryz.prog 159 #[.pointer (some ⟨b, 0, none⟩), .pointer (some ⟨v, 0, none⟩)] w fun e w' => e = .returned (.tuple #[]) ∧ w.setCell ⟨v, 0, none⟩ (.int .i64 l.length) = w' := by
  have hc := hC.own.cell 0 _ rfl
  have hm := hC.few
  clear hC
  generalize l.length = n at *
  go_enter Tryz.func159, Tryz.ntmps159
  go_wp2
  · go_end0
    exact ⟨rfl, rfl⟩
  · obtain rfl : n = 0 := by omega
    go_end0
    exact ⟨rfl, rfl⟩
theorem len_any (C S : Nat) (l : List Int) (k : Int) (w : World) (hC : CellsAt w C S l k) :
    Calls Tryz.prog 109 #[cellsV C] w fun e w' => e = .returned (.int .i64 l.length) ∧ Below w.heap.size w w' := by
  have hc := hC.own.cell 0 _ rfl
  have hlt := hC.own.lt
  have hmf : ∀ (fn : Fn) (first cap : Array Value) (w : World), (Instr.makeFunc fn first cap).run Tryz.prog w = .ok (.func fn first cap) w := fun _ _ _ _ => rfl
  go_enter Tryz.func109, Tryz.ntmps109
  go_wp2_with fail
  refine (attempt_any 159 _ _ _ call_lenC (lenC_any w.heap.size (w.heap.size + 1) C S l k 0 _ (by simp) ?_ (by simp) (by simp))).mono ?_
  · exact hC.keep (((Keep.refl (fun _ => False) w).alloc _).alloc _) (fun h => h) (fun h => h)
  rintro e w1 ⟨rfl, rfl⟩
  go_wp2_with fail
  exact bodyPost_ret (v := .int .i64 l.length) (by simp [results, Tryz.results109, go_sem]) rfl ⟨rfl, by go_grown⟩
theorem len_nil (w : World) : Calls Tryz.prog 109 #[.pointer none] w fun e w' => e = .returned (.int .i64 0) ∧ Below w.heap.size w w' := by
  go_enter Tryz.func109, Tryz.ntmps109
  go_wp2_with fail
  exact bodyPost_ret (v := .int .i64 0) (by simp [results, Tryz.results109, go_sem]) rfl ⟨rfl, by go_grown⟩
theorem steps_any (C S : Nat) (l : List Int) (k : Int) (w : World) (hC : CellsAt w C S l k) :
    Calls Tryz.prog 27 #[cellsV C] w fun e w' => e = .returned (.int .i64 k) ∧ w = w' := by
  have hc := hC.own.cell 1 _ rfl
  go_enter Tryz.func27, Tryz.ntmps27
  go_wp2_with (go_at_call 85; (with_reducible refine (aLoad_any C k _ hc).mono ?_); rintro e w1 ⟨rfl, rfl⟩)
  go_ret
  exact ⟨rfl, rfl⟩
theorem steps_nil (w : World) : Calls Tryz.prog 27 #[.pointer none] w fun e w' => e = .returned (.int .i64 0) ∧ w = w' := by
  go_enter Tryz.func27, Tryz.ntmps27
  go_wp2_with fail
  go_ret
  exact ⟨rfl, rfl⟩
/-- cells over a row of its own -/
theorem over_plain (S : Nat) (l : List Int) (w : World) (hS : Blk w S 55 (words l)) (hm : l.length ≤ 16777216) :
    Calls Tryz.prog 102 #[.iface 165 (rowV S l.length)] w fun e w' => e = .returned (cellsV w.heap.size) ∧ CellsAt w' w.heap.size S l 0 ∧ Below w.heap.size w w' := by
  go_enter Tryz.func102, Tryz.ntmps102
  go_wp2_with fail
  go_ret
  exact ⟨rfl, ⟨Blk.new _ _ _, hS.alloc _, by have := hS.lt; omega, hm⟩, by go_grown⟩
theorem over_nil (w : World) :
    Calls Tryz.prog 102 #[.nilIface] w fun e w' => e = .returned (.pointer none) ∧ w = w' := by
  go_enter Tryz.func102, Tryz.ntmps102
  go_wp2_with fail
  go_ret
  exact ⟨rfl, rfl⟩
theorem words_zeros (n : Nat) : madeCells #[Value.int .u64 0] n = words (List.replicate n 0) := by
  rw [← Array.toList_inj, toList_madeCells_one]
  simp [words, List.map_replicate]
theorem u64_info : (Tryz.prog.info? 55).map (fun i => (i.zero, i.size, i.bytes)) = some (some (.int .u64 0), 1, 8) := by kernel_rfl
theorem make_plain (n : Nat) (w : World) (hn : n ≤ 16777216) : (Instr.makeSlice 165 (.int .i64 (n : Int)) (.int .i64 (n : Int))).run Tryz.prog w = .ok (rowV w.heap.size n) (w.alloc (.cells (words (List.replicate n 0)) 55)) := by
  obtain ⟨i, hi, hz0, hz1, hz2⟩ := info_parts u64_info
  have h := run_make (P := Tryz.prog) w 165 55 i _ Tryz.underlying165 hi hz0 .i64 .i64 n n (by omega) (by omega) (by rw [hz2]; omega) (by omega)
  rw [h, hz1, Nat.mul_one]
  simp only [Int.toNat_natCast]
  rw [← words_zeros]
  rfl
theorem new_some (n : Nat) (w : World) (hn : n ≤ 16777216) :
    Calls Tryz.prog 51 #[.int .i64 n] w fun e w' => e = .returned (cellsV (w.heap.size + 1)) ∧ CellsAt w' (w.heap.size + 1) w.heap.size (List.replicate n 0) 0 ∧ Below w.heap.size w w' := by
  have hmk := make_plain n w hn
  have hover := over_plain w.heap.size (List.replicate n 0) (w.alloc (.cells (words (List.replicate n 0)) 55)) (Blk.new _ _ _) (by simpa using hn)
  rw [List.length_replicate] at hover
  have HO := Lib.hid hover
  clear hover
  generalize List.replicate n (0 : Int) = l at *
  go_enter Tryz.func51, Tryz.ntmps51
  go_wp2_with (go_at_call 102; refine HO.out.mono ?_; rintro e w1 ⟨rfl, hc, hb⟩)
  simp only [World.size_alloc] at hc hb
  go_ret
  refine ⟨?_, hc, ?_⟩
  · simp
  · exact ((Below.refl _ _).alloc (Nat.le_refl _) _).trans (hb.mono (by omega))
theorem new_none (n : Int) (w : World) (hn : n < 0 ∨ 16777216 < n) :
    Calls Tryz.prog 51 #[.int .i64 n] w fun e w' => e = .returned (.pointer none) ∧ w = w' := by
  rcases hn with hn | hn
  · go_enter Tryz.func51, Tryz.ntmps51
    go_wp2_with fail
    go_ret
    exact ⟨rfl, rfl⟩
  · have h0 : ¬ n < 0 := by omega
    go_enter Tryz.func51, Tryz.ntmps51
    go_wp2_with fail
    go_ret
    exact ⟨rfl, rfl⟩
end Go.Proofs.YtbaehokffdpopaaGreat
