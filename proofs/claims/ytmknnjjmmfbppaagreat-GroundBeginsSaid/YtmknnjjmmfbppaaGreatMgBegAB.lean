/- Contracts of package cells: the plain back's methods, the counter, and the call that recovers. -/
import Derived.Test.YtmknnjjmmfbppaaGreatProg
import Derived.Test.YtmknnjjmmfbppaaGreatMgBegAA
import Derived.Defers
import Derived.Recover
import Derived.Laws.LoneSync
import Derived.Laws.EntriesVeiled
import Derived.Lib.Hide
import Derived.WalkSpells
import Derived.OwnWalk
import Derived.Laws.OwnMore
namespace Go.Proofs.YtmknnjjmmfbppaaGreat
open Go.ChangeShapes Go.WideShapes Go.ChangeAt Go.RowKit
set_option linter.unusedVariables false
set_option maxRecDepth 100000
set_option linter.unusedSimpArgs false
/-- words, as cells -/
def words (l : List Int) : Array Value := (l.map (Value.int .u64)).toArray
theorem words_at {l : List Int} {i : Nat} {v : Int} (h : l[i]? = some v) : (words l)[i]? = some (.int .u64 v) := by simp [words, h]
theorem words_set (l : List Int) (i : Nat) (v : Int) : (words l).setIfInBounds i (.int .u64 v) = words (l.set i v) := by
  simp [words, List.map_set]
theorem words_size (l : List Int) : (words l).size = l.length := by simp [words]
/-- the value of a plain back -/
abbrev rowV (S n : Nat) : Value := .slice (some ⟨S, 0, none⟩) n n
theorem pLen_any (S n : Nat) (w : World) : Calls Tryz.prog 319 #[rowV S n] w fun e w' => e = .returned (.int .i64 n) ∧ w = w' := by
  go_enter Tryz.func319, Tryz.ntmps319
  go_wp2
  go_ret
  exact ⟨rfl, rfl⟩
theorem pLoad_any (S : Nat) (l : List Int) (i : Nat) (v : Int) (w : World) (hb : Blk w S 55 (words l)) (hi : l[i]? = some v) (hm : l.length ≤ 9223372036854775807) :
    Calls Tryz.prog 320 #[rowV S l.length, .int .i64 i] w fun e w' => e = .returned (.int .u64 v) ∧ w = w' := by
  have hlt : i < l.length := by rw [List.getElem?_eq_some_iff] at hi; exact hi.1
  have hc := hb.cell i _ (words_at hi)
  have HI := Lib.hid hi
  clear hi
  generalize l.length = n at *
  go_enter Tryz.func320, Tryz.ntmps320
  go_wp2
  go_ret
  exact ⟨rfl, rfl⟩
theorem pStore_any (S : Nat) (l : List Int) (i : Nat) (v u : Int) (w : World) (hb : Blk w S 55 (words l)) (hi : l[i]? = some v) (hm : l.length ≤ 9223372036854775807) :
    Calls Tryz.prog 321 #[rowV S l.length, .int .i64 i, .int .u64 u] w fun e w' => e = .returned (.tuple #[]) ∧ w.setCell ⟨S, i, none⟩ (.int .u64 u) = w' := by
  have hlt : i < l.length := by rw [List.getElem?_eq_some_iff] at hi; exact hi.1
  have hc := hb.cell i _ (words_at hi)
  have hf := hb.free i
  have HI := Lib.hid hi
  clear hi
  generalize l.length = n at *
  go_enter Tryz.func321, Tryz.ntmps321
  go_wp2
  go_end0
  exact ⟨rfl, rfl⟩
theorem pSwap_yes (S : Nat) (l : List Int) (i : Nat) (v u : Int) (w : World) (hb : Blk w S 55 (words l)) (hi : l[i]? = some v) (hm : l.length ≤ 9223372036854775807) :
    Calls Tryz.prog 322 #[rowV S l.length, .int .i64 i, .int .u64 v, .int .u64 u] w fun e w' => e = .returned (.bool true) ∧ w.setCell ⟨S, i, none⟩ (.int .u64 u) = w' := by
  have hlt : i < l.length := by rw [List.getElem?_eq_some_iff] at hi; exact hi.1
  have hc := hb.cell i _ (words_at hi)
  have hf := hb.free i
  have HI := Lib.hid hi
  clear hi
  generalize l.length = n at *
  go_enter Tryz.func322, Tryz.ntmps322
  go_wp2
  go_ret
  exact ⟨rfl, rfl⟩
theorem pSwap_no (S : Nat) (l : List Int) (i : Nat) (v old u : Int) (w : World) (hb : Blk w S 55 (words l)) (hi : l[i]? = some v) (hm : l.length ≤ 9223372036854775807) (hne : (v != old) = true) :
    Calls Tryz.prog 322 #[rowV S l.length, .int .i64 i, .int .u64 old, .int .u64 u] w fun e w' => e = .returned (.bool false) ∧ w = w' := by
  have hlt : i < l.length := by rw [List.getElem?_eq_some_iff] at hi; exact hi.1
  have hc := hb.cell i _ (words_at hi)
  have hf := hb.free i
  have HI := Lib.hid hi
  clear hi
  generalize l.length = n at *
  go_enter Tryz.func322, Tryz.ntmps322
  go_wp2
  go_ret
  exact ⟨rfl, rfl⟩
/- the counter -/
theorem xload (a : Addr) (x : Int) (w : World) (hc : w.cell? a = some (.int .i64 x)) : (callFunc 337 #[.pointer (some a)]).run Tryz.prog w = .ok (.value (.int .i64 x)) w :=
  run_call_load Tryz.func337 (by kernel_rfl) (by kernel_rfl) (by kernel_rfl) .i64 (by kernel_rfl) hc
theorem xadd (a : Addr) (x y : Int) (w : World) (hc : w.cell? a = some (.int .i64 x)) (hz : w.frozen? a = false) :
    (callFunc 215 #[.pointer (some a), .int .i64 y]).run Tryz.prog w = .ok (.value (.int .i64 (wrap64 (x + y)))) (w.setCell a (.int .i64 (wrap64 (x + y)))) :=
  run_call_add Tryz.func215 (by kernel_rfl) (by kernel_rfl) (by kernel_rfl) .i64 (by kernel_rfl) hc hz (by simp [go_sem, wrap64, IntKind.wrap_i64])
theorem aLoad_any (C : Nat) (x : Int) (w : World) (hc : w.cell? ⟨C, 1, none⟩ = some (.int .i64 x)) :
    Calls Tryz.prog 334 #[.pointer (some ⟨C, 1, none⟩)] w fun e w' => e = .returned (.int .i64 x) ∧ w = w' := by
  have hx := xload ⟨C, 1, none⟩ x w hc
  go_enter Tryz.func334, Tryz.ntmps334
  go_wp2
  go_ret
  exact ⟨rfl, rfl⟩
theorem aAdd_any (C : Nat) (x : Int) (w : World) (hc : w.cell? ⟨C, 1, none⟩ = some (.int .i64 x)) (hz : w.frozen? ⟨C, 1, none⟩ = false) :
    Calls Tryz.prog 166 #[.pointer (some ⟨C, 1, none⟩), .int .i64 1] w fun e w' => e = .returned (.int .i64 (wrap64 (x + 1))) ∧ w.setCell ⟨C, 1, none⟩ (.int .i64 (wrap64 (x + 1))) = w' := by
  have hx := xadd ⟨C, 1, none⟩ x 1 w hc hz
  go_enter Tryz.func166, Tryz.ntmps166
  go_wp2
  go_ret
  exact ⟨rfl, rfl⟩
/- the call that recovers -/
theorem catch_idle (w : World) : CallsD Tryz.prog 105 #[] .returning w fun e u' w' => e = .returned (.tuple #[]) ∧ u' = .returning ∧ w' = w := by
  refine callsD_of_wpS Tryz.func105 rfl fun c₀ cs hu => ?_
  apply wpS_region
  simp [wpOpsS, go_sem, recoverD, hu, Tryz.ntmps105, Exit.thenS, bodyPostS, results, Tryz.results105]
  cases c₀
  simp_all
theorem attempt_any (F : Nat) (caps : Array Value) (w : World) (P : World → Prop)
    (hcall : ∀ (W : World) (args : Array Value), (callFunc F args).run Tryz.prog W = .ok (.enter F args) W)
    (h : Calls Tryz.prog F caps w fun e w' => e = .returned (.tuple #[]) ∧ P w') :
    Calls Tryz.prog 55 #[.func (.func F) #[] caps] w fun e w' => e = .returned (.bool true) ∧ P w' := by
  have HH := Lib.hid h
  clear h
  go_enter_defers Tryz.func55, Tryz.ntmps55
  go_wp2_with fail
  refine HH.out.mono ?_
  rintro e w1 ⟨rfl, hp⟩
  go_wp2_with fail
  refine leaves_cons (f := 105) (args := #[]) (by simp) (by simp [go_sem]) ?_
  refine (catch_idle _).mono ?_
  rintro e u' w'' ⟨rfl, rfl, rfl⟩
  simp [Leaves, settle, results, Tryz.results55, go_sem]
  exact hp
end Go.Proofs.YtmknnjjmmfbppaaGreat
/- Contracts of package cells: New, Over, Len, Steps. -/
namespace Go.Proofs.YtmknnjjmmfbppaaGreat
open Go.ChangeShapes Go.WideShapes Go.ChangeAt Go.RowKit
set_option linter.unusedVariables false
set_option maxRecDepth 100000
set_option linter.unusedSimpArgs false
/-- cells: their own block, and their row's -/
structure CellsAt (w : World) (C S : Nat) (l : List Int) (k : Int) : Prop where
  own : Blk w C 173 #[.iface 184 (rowV S l.length), .int .i64 k]
  row : Blk w S 55 (words l)
  ne : C ≠ S
  few : l.length ≤ 16777216
abbrev cellsV (C : Nat) : Value := .pointer (some ⟨C, 0, none⟩)
theorem CellsAt.keep {w w1 : World} {C S : Nat} {l : List Int} {k : Int} {Q : Nat → Prop} (h : CellsAt w C S l k) (hk : Keep Q w w1) (h1 : ¬ Q C) (h2 : ¬ Q S) : CellsAt w1 C S l k :=
  ⟨h.own.keep hk h1, h.row.keep hk h2, h.ne, h.few⟩
theorem call_lenC : ∀ (W : World) (args : Array Value), (callFunc 173 args).run Tryz.prog W = .ok (.enter 173 args) W := by
  intro W args
  go_simp
theorem lenC_any (b v C S : Nat) (l : List Int) (k x : Int) (w : World) (hb : w.cell? ⟨b, 0, none⟩ = some (cellsV C)) (hC : CellsAt w C S l k)
    (hv : w.cell? ⟨v, 0, none⟩ = some (.int .i64 x)) (hz : w.frozen? ⟨v, 0, none⟩ = false) :
    Calls Tryz.prog 173 #[.pointer (some ⟨b, 0, none⟩), .pointer (some ⟨v, 0, none⟩)] w fun e w' => e = .returned (.tuple #[]) ∧ w.setCell ⟨v, 0, none⟩ (.int .i64 l.length) = w' := by
  have hc := hC.own.cell 0 _ rfl
  have hm := hC.few
  clear hC
  generalize l.length = n at *
  go_enter Tryz.func173, Tryz.ntmps173
  go_wp2
  · go_end0
    exact ⟨rfl, rfl⟩
  · obtain rfl : n = 0 := by omega
    go_end0
    exact ⟨rfl, rfl⟩
theorem len_any (C S : Nat) (l : List Int) (k : Int) (w : World) (hC : CellsAt w C S l k) :
    Calls Tryz.prog 107 #[cellsV C] w fun e w' => e = .returned (.int .i64 l.length) ∧ Below w.heap.size w w' := by
  have hc := hC.own.cell 0 _ rfl
  have hlt := hC.own.lt
  have hmf : ∀ (fn : Fn) (first cap : Array Value) (w : World), (Instr.makeFunc fn first cap).run Tryz.prog w = .ok (.func fn first cap) w := fun _ _ _ _ => rfl
  go_enter Tryz.func107, Tryz.ntmps107
  go_wp2_with fail
  refine (attempt_any 173 _ _ _ call_lenC (lenC_any w.heap.size (w.heap.size + 1) C S l k 0 _ (by simp) ?_ (by simp) (by simp))).mono ?_
  · exact hC.keep (((Keep.refl (fun _ => False) w).alloc _).alloc _) (fun h => h) (fun h => h)
  rintro e w1 ⟨rfl, rfl⟩
  go_wp2_with fail
  exact bodyPost_ret (v := .int .i64 l.length) (by simp [results, Tryz.results107, go_sem]) rfl ⟨rfl, by go_grown⟩
theorem len_nil (w : World) : Calls Tryz.prog 107 #[.pointer none] w fun e w' => e = .returned (.int .i64 0) ∧ Below w.heap.size w w' := by
  go_enter Tryz.func107, Tryz.ntmps107
  go_wp2_with fail
  exact bodyPost_ret (v := .int .i64 0) (by simp [results, Tryz.results107, go_sem]) rfl ⟨rfl, by go_grown⟩
/-- cells over a row of its own -/
theorem over_plain (S : Nat) (l : List Int) (w : World) (hS : Blk w S 55 (words l)) (hm : l.length ≤ 16777216) :
    Calls Tryz.prog 102 #[.iface 184 (rowV S l.length)] w fun e w' => e = .returned (cellsV w.heap.size) ∧ CellsAt w' w.heap.size S l 0 ∧ Below w.heap.size w w' := by
  go_enter Tryz.func102, Tryz.ntmps102
  go_wp2_with fail
  go_ret
  exact ⟨rfl, ⟨Blk.new _ _ _, hS.alloc _, by have := hS.lt; omega, hm⟩, by go_grown⟩
theorem over_nil (w : World) :
    Calls Tryz.prog 102 #[.nilIface] w fun e w' => e = .returned (.pointer none) ∧ w = w' := by
  go_enter Tryz.func102, Tryz.ntmps102
  go_wp2_with fail
  go_ret
  exact ⟨rfl, rfl⟩
theorem words_zeros (n : Nat) : madeCells #[Value.int .u64 0] n = words (List.replicate n 0) := by
  rw [← Array.toList_inj, toList_madeCells_one]
  simp [words, List.map_replicate]
theorem u64_info : (Tryz.prog.info? 55).map (fun i => (i.zero, i.size, i.bytes)) = some (some (.int .u64 0), 1, 8) := by kernel_rfl
theorem make_plain (n : Nat) (w : World) (hn : n ≤ 16777216) : (Instr.makeSlice 184 (.int .i64 (n : Int)) (.int .i64 (n : Int))).run Tryz.prog w = .ok (rowV w.heap.size n) (w.alloc (.cells (words (List.replicate n 0)) 55)) := by
  obtain ⟨i, hi, hz0, hz1, hz2⟩ := info_parts u64_info
  have h := run_make (P := Tryz.prog) w 184 55 i _ Tryz.underlying184 hi hz0 .i64 .i64 n n (by omega) (by omega) (by rw [hz2]; omega) (by omega)
  rw [h, hz1, Nat.mul_one]
  simp only [Int.toNat_natCast]
  rw [← words_zeros]
  rfl
theorem new_some (n : Nat) (w : World) (hn : n ≤ 16777216) :
    Calls Tryz.prog 46 #[.int .i64 n] w fun e w' => e = .returned (cellsV (w.heap.size + 1)) ∧ CellsAt w' (w.heap.size + 1) w.heap.size (List.replicate n 0) 0 ∧ Below w.heap.size w w' := by
  have hmk := make_plain n w hn
  have hover := over_plain w.heap.size (List.replicate n 0) (w.alloc (.cells (words (List.replicate n 0)) 55)) (Blk.new _ _ _) (by simpa using hn)
  rw [List.length_replicate] at hover
  have HO := Lib.hid hover
  clear hover
  generalize List.replicate n (0 : Int) = l at *
  go_enter Tryz.func46, Tryz.ntmps46
  go_wp2_with (go_at_call 102; refine HO.out.mono ?_; rintro e w1 ⟨rfl, hc, hb⟩)
  simp only [World.size_alloc] at hc hb
  go_ret
  refine ⟨?_, hc, ?_⟩
  · simp
  · exact ((Below.refl _ _).alloc (Nat.le_refl _) _).trans (hb.mono (by omega))
theorem new_none (n : Int) (w : World) (hn : n < 0 ∨ 16777216 < n) :
    Calls Tryz.prog 46 #[.int .i64 n] w fun e w' => e = .returned (.pointer none) ∧ w = w' := by
  rcases hn with hn | hn
  · go_enter Tryz.func46, Tryz.ntmps46
    go_wp2_with fail
    go_ret
    exact ⟨rfl, rfl⟩
  · have h0 : ¬ n < 0 := by omega
    go_enter Tryz.func46, Tryz.ntmps46
    go_wp2_with fail
    go_ret
    exact ⟨rfl, rfl⟩
end Go.Proofs.YtmknnjjmmfbppaaGreat
