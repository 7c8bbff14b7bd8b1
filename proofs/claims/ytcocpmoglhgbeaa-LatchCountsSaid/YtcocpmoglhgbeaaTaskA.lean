/- Package task: its small functions. -/
import Derived.Test.YtcocpmoglhgbeaaProg
import Derived.Test.YtcocpmoglhgbeaaKeep
import Derived.Defers
import Derived.Recover
import Derived.Laws.LoneSync
import Derived.Laws.EntriesVeiled
import Derived.Lib.Hide
namespace Go.Proofs.Ytcocpmoglhgbeaa
open Go.ChangeShapes Go.WideShapes Go.ChangeAt Go.RowKit
set_option linter.unusedVariables false
set_option maxRecDepth 100000
set_option linter.unusedSimpArgs false
abbrev pV (T : Nat) : Value := .pointer (some ⟨T, 0, none⟩)
abbrev cloV (F : Nat) (caps : Array Value) : Value := .func (.func F) #[] caps
theorem ready_any (v : Int) (w : World) :
    Calls Try.prog 32 #[.int .i64 v] w fun e w' => ∃ t, e = .returned (pV t) ∧ w.heap.size ≤ t ∧ Blk w' t 78 #[.nilFunc, .pointer none, .pointer none, .int .i64 v] ∧ Below w.heap.size w w' := by
  go_enter Try.func32, Try.ntmps32
  go_wp2
  go_ret
  exact ⟨w.heap.size, rfl, Nat.le_refl _, Blk.new w _ _, by go_grown⟩
theorem done_nil (w : World) : Calls Try.prog 14 #[.pointer none] w fun e w' => e = .returned (.bool true) ∧ w = w' := by
  go_enter Try.func14, Try.ntmps14
  go_wp2
  go_ret
  exact ⟨rfl, rfl⟩
theorem done_yes (t : Nat) (rest val : Value) (w : World) (h : Blk w t 78 #[.nilFunc, .pointer none, rest, val]) : Calls Try.prog 14 #[pV t] w fun e w' => e = .returned (.bool true) ∧ w = w' := by
  have h0 : w.cell? ⟨t, 0, none⟩ = some .nilFunc := h.cell 0 _ rfl
  have h1 : w.cell? ⟨t, 1, none⟩ = some (.pointer none) := h.cell 1 _ rfl
  have hq : ∀ W : World, (binOp .eql 31 .nilFunc .nilFunc).run Try.prog W = .ok (.bool true) W := by intro W; kernel_rfl
  clear h
  go_enter Try.func14, Try.ntmps14
  go_wp2
  refine bodyPost_ret (v := .bool true) (by simp [results, Try.results14, go_sem]) rfl ?_
  exact ⟨rfl, rfl⟩
theorem done_op (t F : Nat) (caps : Array Value) (park rest val : Value) (w : World) (h : Blk w t 78 #[cloV F caps, park, rest, val]) : Calls Try.prog 14 #[pV t] w fun e w' => e = .returned (.bool false) ∧ w = w' := by
  have h0 : w.cell? ⟨t, 0, none⟩ = some (cloV F caps) := h.cell 0 _ rfl
  have hq : ∀ W : World, (binOp .eql 31 (cloV F caps) .nilFunc).run Try.prog W = .ok (.bool false) W := by intro W; kernel_rfl
  clear h
  go_enter Try.func14, Try.ntmps14
  go_wp2
  go_ret
  exact ⟨rfl, rfl⟩
theorem done_park (t p : Nat) (rest val : Value) (w : World) (h : Blk w t 78 #[.nilFunc, pV p, rest, val]) : Calls Try.prog 14 #[pV t] w fun e w' => e = .returned (.bool false) ∧ w = w' := by
  have h0 : w.cell? ⟨t, 0, none⟩ = some .nilFunc := h.cell 0 _ rfl
  have h1 : w.cell? ⟨t, 1, none⟩ = some (pV p) := h.cell 1 _ rfl
  have hq : ∀ W : World, (binOp .eql 31 .nilFunc .nilFunc).run Try.prog W = .ok (.bool true) W := by intro W; kernel_rfl
  clear h
  go_enter Try.func14, Try.ntmps14
  go_wp2
  go_ret
  exact ⟨rfl, rfl⟩
theorem value_nil (w : World) : Calls Try.prog 16 #[.pointer none] w fun e w' => e = .returned (.int .i64 0) ∧ w = w' := by
  go_enter Try.func16, Try.ntmps16
  go_wp2
  go_ret
  exact ⟨rfl, rfl⟩
theorem value_any (t : Nat) (f p r : Value) (v : Int) (w : World) (h : Blk w t 78 #[f, p, r, .int .i64 v]) : Calls Try.prog 16 #[pV t] w fun e w' => e = .returned (.int .i64 v) ∧ w = w' := by
  have h0 := h.cell 3 _ rfl
  clear h
  go_enter Try.func16, Try.ntmps16
  go_wp2
  go_ret
  exact ⟨rfl, rfl⟩
theorem truth_any (b : Bool) (w : World) : Calls Try.prog 66 #[.bool b] w fun e w' => e = .returned (.int .i64 (if b then 1 else 0)) ∧ w = w' := by
  cases b
  · go_enter Try.func66, Try.ntmps66
    go_wp2
    go_ret
    exact ⟨rfl, rfl⟩
  · go_enter Try.func66, Try.ntmps66
    go_wp2
    go_ret
    exact ⟨rfl, rfl⟩
/- lists of continuations -/
theorem only_any (F : Nat) (caps : Array Value) (w : World) :
    Calls Try.prog 57 #[cloV F caps] w fun e w' => ∃ p, e = .returned (pV p) ∧ w.heap.size ≤ p ∧ Blk w' p 112 #[.pointer none, .pointer none, cloV F caps] ∧ Below w.heap.size w w' := by
  go_enter Try.func57, Try.ntmps57
  go_wp2
  go_ret
  exact ⟨w.heap.size, rfl, Nat.le_refl _, Blk.new w _ _, by go_grown⟩
theorem join_left (b : Value) (w : World) (hb : b = .pointer none ∨ ∃ p, b = pV p) : Calls Try.prog 53 #[.pointer none, b] w fun e w' => e = .returned b ∧ w = w' := by
  rcases hb with rfl | ⟨p, rfl⟩ <;>
  · go_enter Try.func53, Try.ntmps53
    go_wp2
    go_ret
    exact ⟨rfl, rfl⟩
theorem join_right (a : Nat) (w : World) : Calls Try.prog 53 #[pV a, .pointer none] w fun e w' => e = .returned (pV a) ∧ w = w' := by
  go_enter Try.func53, Try.ntmps53
  go_wp2
  go_ret
  exact ⟨rfl, rfl⟩
theorem join_both (a b : Nat) (w : World) : Calls Try.prog 53 #[pV a, pV b] w fun e w' => ∃ p, e = .returned (pV p) ∧ w.heap.size ≤ p ∧ Blk w' p 112 #[pV a, pV b, .nilFunc] ∧ Below w.heap.size w w' := by
  go_enter Try.func53, Try.ntmps53
  go_wp2
  go_ret
  exact ⟨w.heap.size, rfl, Nat.le_refl _, Blk.new w _ _, by go_grown⟩
/- calls that recover -/
theorem catchT_idle (w : World) : CallsD Try.prog 79 #[] .returning w fun e u' w' => e = .returned (.tuple #[]) ∧ u' = .returning ∧ w' = w := by
  refine callsD_of_wpS Try.func79 rfl fun c₀ cs hu => ?_
  apply wpS_region
  simp [wpOpsS, go_sem, recoverD, hu, Try.ntmps79, Exit.thenS, bodyPostS, results, Try.results79]
  cases c₀
  simp_all
theorem catchI_idle (w : World) : CallsD Try.prog 88 #[] .returning w fun e u' w' => e = .returned (.tuple #[]) ∧ u' = .returning ∧ w' = w := by
  refine callsD_of_wpS Try.func88 rfl fun c₀ cs hu => ?_
  apply wpS_region
  simp [wpOpsS, go_sem, recoverD, hu, Try.ntmps88, Exit.thenS, bodyPostS, results, Try.results88]
  cases c₀
  simp_all
theorem answerI_any (F : Nat) (caps : Array Value) (w : World) (R : Int → World → Prop)
    (hcall : ∀ (W : World) (args : Array Value), (callFunc F args).run Try.prog W = .ok (.enter F args) W)
    (h : Calls Try.prog F caps w fun e w' => ∃ v, e = .returned (.int .i64 v) ∧ R v w') :
    Calls Try.prog 81 #[cloV F caps] w fun e w' => ∃ v, e = .returned (.int .i64 v) ∧ R v w' := by
  have HH := Lib.hid h
  clear h
  go_enter_defers Try.func81, Try.ntmps81
  go_wp2_with fail
  refine HH.out.mono ?_
  rintro e w1 ⟨v, rfl, hp⟩
  go_wp2_with fail
  refine leaves_cons (f := 88) (args := #[]) (by simp) (by simp [go_sem]) ?_
  refine (catchI_idle _).mono ?_
  rintro e u' w'' ⟨rfl, rfl, rfl⟩
  simp [Leaves, settle, results, Try.results81, go_sem]
  exact hp
theorem answerT_any (F : Nat) (caps : Array Value) (w : World) (R : Nat → World → Prop)
    (hcall : ∀ (W : World) (args : Array Value), (callFunc F args).run Try.prog W = .ok (.enter F args) W)
    (h : Calls Try.prog F caps w fun e w' => ∃ t, e = .returned (pV t) ∧ R t w') :
    Calls Try.prog 59 #[cloV F caps] w fun e w' => ∃ t, e = .returned (pV t) ∧ R t w' := by
  have HH := Lib.hid h
  clear h
  go_enter_defers Try.func59, Try.ntmps59
  go_wp2_with fail
  refine HH.out.mono ?_
  rintro e w1 ⟨v, rfl, hp⟩
  go_wp2_with fail
  refine leaves_cons (f := 79) (args := #[]) (by simp) (by simp [go_sem]) ?_
  refine (catchT_idle _).mono ?_
  rintro e u' w'' ⟨rfl, rfl, rfl⟩
  simp [Leaves, settle, results, Try.results59, go_sem]
  exact hp
/- a task of one operation, and one that is parked -/
theorem one_any (F : Nat) (caps : Array Value) (w : World) :
    Calls Try.prog 61 #[cloV F caps] w fun e w' => ∃ t b, e = .returned (pV t) ∧ w.heap.size ≤ t ∧ w.heap.size ≤ b ∧ Blk w' b 31 #[cloV F caps] ∧ Blk w' t 78 #[cloV 80 #[pV b], .pointer none, .pointer none, .int .i64 0] ∧ Below w.heap.size w w' := by
  have hmf : ∀ (fn : Fn) (first cap : Array Value) (w : World), (Instr.makeFunc fn first cap).run Try.prog w = .ok (.func fn first cap) w := fun _ _ _ _ => rfl
  go_enter Try.func61, Try.ntmps61
  go_wp2
  go_ret
  refine ⟨w.heap.size + 1, w.heap.size, ?_, by omega, by omega, (Blk.new w _ _).alloc _, ?_, by go_grown⟩
  · simp [pV]
  · exact blk_two w _ _ _
end Go.Proofs.Ytcocpmoglhgbeaa
