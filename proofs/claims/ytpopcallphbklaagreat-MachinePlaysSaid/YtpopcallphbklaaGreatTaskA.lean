/- Package task: its small functions. -/
import Derived.Test.YtpopcallphbklaaGreatProg
import Derived.Test.YtpopcallphbklaaGreatKeep
import Derived.Defers
import Derived.Recover
import Derived.Laws.LoneSync
import Derived.Laws.EntriesVeiled
import Derived.Lib.Hide
namespace Go.Proofs.YtpopcallphbklaaGreat
open Go.ChangeShapes Go.WideShapes Go.ChangeAt Go.RowKit
set_option linter.unusedVariables false
set_option maxRecDepth 100000
set_option linter.unusedSimpArgs false
abbrev pV (T : Nat) : Value := .pointer (some ⟨T, 0, none⟩)
abbrev cloV (F : Nat) (caps : Array Value) : Value := .func (.func F) #[] caps
theorem ready_any (v : Int) (w : World) :
    Calls Tryz.prog 60 #[.int .i64 v] w fun e w' => ∃ t, e = .returned (pV t) ∧ w.heap.size ≤ t ∧ Blk w' t 137 #[.nilFunc, .pointer none, .pointer none, .int .i64 v] ∧ Below w.heap.size w w' := by
  go_enter Tryz.func60, Tryz.ntmps60
  go_wp2
  go_ret
  exact ⟨w.heap.size, rfl, Nat.le_refl _, Blk.new w _ _, by go_grown⟩
theorem done_nil (w : World) : Calls Tryz.prog 44 #[.pointer none] w fun e w' => e = .returned (.bool true) ∧ w = w' := by
  go_enter Tryz.func44, Tryz.ntmps44
  go_wp2
  go_ret
  exact ⟨rfl, rfl⟩
theorem done_yes (t : Nat) (rest val : Value) (w : World) (h : Blk w t 137 #[.nilFunc, .pointer none, rest, val]) : Calls Tryz.prog 44 #[pV t] w fun e w' => e = .returned (.bool true) ∧ w = w' := by
  have h0 : w.cell? ⟨t, 0, none⟩ = some .nilFunc := h.cell 0 _ rfl
  have h1 : w.cell? ⟨t, 1, none⟩ = some (.pointer none) := h.cell 1 _ rfl
  have hq : ∀ W : World, (binOp .eql 46 .nilFunc .nilFunc).run Tryz.prog W = .ok (.bool true) W := by intro W; kernel_rfl
  clear h
  go_enter Tryz.func44, Tryz.ntmps44
  go_wp2
  refine bodyPost_ret (v := .bool true) (by simp [results, Tryz.results44, go_sem]) rfl ?_
  exact ⟨rfl, rfl⟩
theorem done_op (t F : Nat) (caps : Array Value) (park rest val : Value) (w : World) (h : Blk w t 137 #[cloV F caps, park, rest, val]) : Calls Tryz.prog 44 #[pV t] w fun e w' => e = .returned (.bool false) ∧ w = w' := by
  have h0 : w.cell? ⟨t, 0, none⟩ = some (cloV F caps) := h.cell 0 _ rfl
  have hq : ∀ W : World, (binOp .eql 46 (cloV F caps) .nilFunc).run Tryz.prog W = .ok (.bool false) W := by intro W; kernel_rfl
  clear h
  go_enter Tryz.func44, Tryz.ntmps44
  go_wp2
  go_ret
  exact ⟨rfl, rfl⟩
theorem done_park (t p : Nat) (rest val : Value) (w : World) (h : Blk w t 137 #[.nilFunc, pV p, rest, val]) : Calls Tryz.prog 44 #[pV t] w fun e w' => e = .returned (.bool false) ∧ w = w' := by
  have h0 : w.cell? ⟨t, 0, none⟩ = some .nilFunc := h.cell 0 _ rfl
  have h1 : w.cell? ⟨t, 1, none⟩ = some (pV p) := h.cell 1 _ rfl
  have hq : ∀ W : World, (binOp .eql 46 .nilFunc .nilFunc).run Tryz.prog W = .ok (.bool true) W := by intro W; kernel_rfl
  clear h
  go_enter Tryz.func44, Tryz.ntmps44
  go_wp2
  go_ret
  exact ⟨rfl, rfl⟩
theorem value_nil (w : World) : Calls Tryz.prog 98 #[.pointer none] w fun e w' => e = .returned (.int .i64 0) ∧ w = w' := by
  go_enter Tryz.func98, Tryz.ntmps98
  go_wp2
  go_ret
  exact ⟨rfl, rfl⟩
theorem value_any (t : Nat) (f p r : Value) (v : Int) (w : World) (h : Blk w t 137 #[f, p, r, .int .i64 v]) : Calls Tryz.prog 98 #[pV t] w fun e w' => e = .returned (.int .i64 v) ∧ w = w' := by
  have h0 := h.cell 3 _ rfl
  clear h
  go_enter Tryz.func98, Tryz.ntmps98
  go_wp2
  go_ret
  exact ⟨rfl, rfl⟩
theorem parked_nil (w : World) : Calls Tryz.prog 67 #[.pointer none] w fun e w' => e = .returned (.bool false) ∧ w = w' := by
  go_enter Tryz.func67, Tryz.ntmps67
  go_wp2
  go_ret
  exact ⟨rfl, rfl⟩
theorem parked_no (t : Nat) (f r v : Value) (w : World) (h : Blk w t 137 #[f, .pointer none, r, v]) : Calls Tryz.prog 67 #[pV t] w fun e w' => e = .returned (.bool false) ∧ w = w' := by
  have h0 := h.cell 1 _ rfl
  clear h
  go_enter Tryz.func67, Tryz.ntmps67
  go_wp2
  go_ret
  exact ⟨rfl, rfl⟩
theorem parked_yes (t p : Nat) (f r v : Value) (w : World) (h : Blk w t 137 #[f, pV p, r, v]) : Calls Tryz.prog 67 #[pV t] w fun e w' => e = .returned (.bool true) ∧ w = w' := by
  have h0 := h.cell 1 _ rfl
  clear h
  go_enter Tryz.func67, Tryz.ntmps67
  go_wp2
  go_ret
  exact ⟨rfl, rfl⟩
theorem truth_any (b : Bool) (w : World) : Calls Tryz.prog 85 #[.bool b] w fun e w' => e = .returned (.int .i64 (if b then 1 else 0)) ∧ w = w' := by
  cases b
  · go_enter Tryz.func85, Tryz.ntmps85
    go_wp2
    go_ret
    exact ⟨rfl, rfl⟩
  · go_enter Tryz.func85, Tryz.ntmps85
    go_wp2
    go_ret
    exact ⟨rfl, rfl⟩
/- lists of continuations -/
theorem only_any (F : Nat) (caps : Array Value) (w : World) :
    Calls Tryz.prog 107 #[cloV F caps] w fun e w' => ∃ p, e = .returned (pV p) ∧ w.heap.size ≤ p ∧ Blk w' p 161 #[.pointer none, .pointer none, cloV F caps] ∧ Below w.heap.size w w' := by
  go_enter Tryz.func107, Tryz.ntmps107
  go_wp2
  go_ret
  exact ⟨w.heap.size, rfl, Nat.le_refl _, Blk.new w _ _, by go_grown⟩
theorem join_left (b : Value) (w : World) (hb : b = .pointer none ∨ ∃ p, b = pV p) : Calls Tryz.prog 112 #[.pointer none, b] w fun e w' => e = .returned b ∧ w = w' := by
  rcases hb with rfl | ⟨p, rfl⟩ <;>
  · go_enter Tryz.func112, Tryz.ntmps112
    go_wp2
    go_ret
    exact ⟨rfl, rfl⟩
theorem join_right (a : Nat) (w : World) : Calls Tryz.prog 112 #[pV a, .pointer none] w fun e w' => e = .returned (pV a) ∧ w = w' := by
  go_enter Tryz.func112, Tryz.ntmps112
  go_wp2
  go_ret
  exact ⟨rfl, rfl⟩
theorem join_both (a b : Nat) (w : World) : Calls Tryz.prog 112 #[pV a, pV b] w fun e w' => ∃ p, e = .returned (pV p) ∧ w.heap.size ≤ p ∧ Blk w' p 161 #[pV a, pV b, .nilFunc] ∧ Below w.heap.size w w' := by
  go_enter Tryz.func112, Tryz.ntmps112
  go_wp2
  go_ret
  exact ⟨w.heap.size, rfl, Nat.le_refl _, Blk.new w _ _, by go_grown⟩
/- calls that recover -/
theorem catchT_idle (w : World) : CallsD Tryz.prog 114 #[] .returning w fun e u' w' => e = .returned (.tuple #[]) ∧ u' = .returning ∧ w' = w := by
  refine callsD_of_wpS Tryz.func114 rfl fun c₀ cs hu => ?_
  apply wpS_region
  simp [wpOpsS, go_sem, recoverD, hu, Tryz.ntmps114, Exit.thenS, bodyPostS, results, Tryz.results114]
  cases c₀
  simp_all
theorem catchI_idle (w : World) : CallsD Tryz.prog 113 #[] .returning w fun e u' w' => e = .returned (.tuple #[]) ∧ u' = .returning ∧ w' = w := by
  refine callsD_of_wpS Tryz.func113 rfl fun c₀ cs hu => ?_
  apply wpS_region
  simp [wpOpsS, go_sem, recoverD, hu, Tryz.ntmps113, Exit.thenS, bodyPostS, results, Tryz.results113]
  cases c₀
  simp_all
theorem answerI_any (F : Nat) (caps : Array Value) (w : World) (R : Int → World → Prop)
    (hcall : ∀ (W : World) (args : Array Value), (callFunc F args).run Tryz.prog W = .ok (.enter F args) W)
    (h : Calls Tryz.prog F caps w fun e w' => ∃ v, e = .returned (.int .i64 v) ∧ R v w') :
    Calls Tryz.prog 102 #[cloV F caps] w fun e w' => ∃ v, e = .returned (.int .i64 v) ∧ R v w' := by
  have HH := Lib.hid h
  clear h
  go_enter_defers Tryz.func102, Tryz.ntmps102
  go_wp2_with fail
  refine HH.out.mono ?_
  rintro e w1 ⟨v, rfl, hp⟩
  go_wp2_with fail
  refine leaves_cons (f := 113) (args := #[]) (by simp) (by simp [go_sem]) ?_
  refine (catchI_idle _).mono ?_
  rintro e u' w'' ⟨rfl, rfl, rfl⟩
  simp [Leaves, settle, results, Tryz.results102, go_sem]
  exact hp
theorem answerT_any (F : Nat) (caps : Array Value) (w : World) (R : Nat → World → Prop)
    (hcall : ∀ (W : World) (args : Array Value), (callFunc F args).run Tryz.prog W = .ok (.enter F args) W)
    (h : Calls Tryz.prog F caps w fun e w' => ∃ t, e = .returned (pV t) ∧ R t w') :
    Calls Tryz.prog 105 #[cloV F caps] w fun e w' => ∃ t, e = .returned (pV t) ∧ R t w' := by
  have HH := Lib.hid h
  clear h
  go_enter_defers Tryz.func105, Tryz.ntmps105
  go_wp2_with fail
  refine HH.out.mono ?_
  rintro e w1 ⟨v, rfl, hp⟩
  go_wp2_with fail
  refine leaves_cons (f := 114) (args := #[]) (by simp) (by simp [go_sem]) ?_
  refine (catchT_idle _).mono ?_
  rintro e u' w'' ⟨rfl, rfl, rfl⟩
  simp [Leaves, settle, results, Tryz.results105, go_sem]
  exact hp
/- a task of one operation, and one that is parked -/
theorem one_any (F : Nat) (caps : Array Value) (w : World) :
    Calls Tryz.prog 82 #[cloV F caps] w fun e w' => ∃ t b, e = .returned (pV t) ∧ w.heap.size ≤ t ∧ w.heap.size ≤ b ∧ Blk w' b 46 #[cloV F caps] ∧ Blk w' t 137 #[cloV 101 #[pV b], .pointer none, .pointer none, .int .i64 0] ∧ Below w.heap.size w w' := by
  have hmf : ∀ (fn : Fn) (first cap : Array Value) (w : World), (Instr.makeFunc fn first cap).run Tryz.prog w = .ok (.func fn first cap) w := fun _ _ _ _ => rfl
  go_enter Tryz.func82, Tryz.ntmps82
  go_wp2
  go_ret
  refine ⟨w.heap.size + 1, w.heap.size, ?_, by omega, by omega, (Blk.new w _ _).alloc _, ?_, by go_grown⟩
  · simp [pV]
  · exact blk_two w _ _ _
theorem park_any (p : Nat) (i : Int) (b : Bool) (w : World) :
    Calls Tryz.prog 59 #[pV p, .int .i64 i, .bool b] w fun e w' => ∃ t k, e = .returned (pV t) ∧ w.heap.size ≤ t ∧ w.heap.size ≤ k ∧ Blk w' k 148 #[pV p, .int .i64 i, .bool b] ∧ Blk w' t 137 #[.nilFunc, pV k, .pointer none, .int .i64 0] ∧ Below w.heap.size w w' := by
  go_enter Tryz.func59, Tryz.ntmps59
  go_wp2
  go_ret
  refine ⟨w.heap.size + 1, w.heap.size, ?_, by omega, by omega, (Blk.new w _ _).alloc _, ?_, by go_grown⟩
  · simp [pV]
  · exact blk_two w _ _ _
end Go.Proofs.YtpopcallphbklaaGreat
