/- Package task: its small functions. -/
import Derived.Test.YtpejmkoheodblaaGreatProg
import Derived.Test.YtpejmkoheodblaaGreatKeep
import Derived.Defers
import Derived.Recover
import Derived.Laws.LoneSync
import Derived.Laws.EntriesVeiled
import Derived.Lib.Hide
namespace Go.Proofs.YtpejmkoheodblaaGreat
open Go.ChangeShapes Go.WideShapes Go.ChangeAt Go.RowKit
set_option linter.unusedVariables false
set_option maxRecDepth 100000
set_option linter.unusedSimpArgs false
abbrev pV (T : Nat) : Value := .pointer (some ⟨T, 0, none⟩)
abbrev cloV (F : Nat) (caps : Array Value) : Value := .func (.func F) #[] caps
theorem ready_any (v : Int) (w : World) :
    Calls Tryz.prog 53 #[.int .i64 v] w fun e w' => ∃ t, e = .returned (pV t) ∧ w.heap.size ≤ t ∧ Blk w' t 96 #[.nilFunc, .pointer none, .pointer none, .int .i64 v] ∧ Below w.heap.size w w' := by
  go_enter Tryz.func53, Tryz.ntmps53
  go_wp2
  go_ret
  exact ⟨w.heap.size, rfl, Nat.le_refl _, Blk.new w _ _, by go_grown⟩
theorem done_nil (w : World) : Calls Tryz.prog 37 #[.pointer none] w fun e w' => e = .returned (.bool true) ∧ w = w' := by
  go_enter Tryz.func37, Tryz.ntmps37
  go_wp2
  go_ret
  exact ⟨rfl, rfl⟩
theorem done_yes (t : Nat) (rest val : Value) (w : World) (h : Blk w t 96 #[.nilFunc, .pointer none, rest, val]) : Calls Tryz.prog 37 #[pV t] w fun e w' => e = .returned (.bool true) ∧ w = w' := by
  have h0 : w.cell? ⟨t, 0, none⟩ = some .nilFunc := h.cell 0 _ rfl
  have h1 : w.cell? ⟨t, 1, none⟩ = some (.pointer none) := h.cell 1 _ rfl
  have hq : ∀ W : World, (binOp .eql 28 .nilFunc .nilFunc).run Tryz.prog W = .ok (.bool true) W := by intro W; kernel_rfl
  clear h
  go_enter Tryz.func37, Tryz.ntmps37
  go_wp2
  refine bodyPost_ret (v := .bool true) (by simp [results, Tryz.results37, go_sem]) rfl ?_
  exact ⟨rfl, rfl⟩
theorem done_op (t F : Nat) (caps : Array Value) (park rest val : Value) (w : World) (h : Blk w t 96 #[cloV F caps, park, rest, val]) : Calls Tryz.prog 37 #[pV t] w fun e w' => e = .returned (.bool false) ∧ w = w' := by
  have h0 : w.cell? ⟨t, 0, none⟩ = some (cloV F caps) := h.cell 0 _ rfl
  have hq : ∀ W : World, (binOp .eql 28 (cloV F caps) .nilFunc).run Tryz.prog W = .ok (.bool false) W := by intro W; kernel_rfl
  clear h
  go_enter Tryz.func37, Tryz.ntmps37
  go_wp2
  go_ret
  exact ⟨rfl, rfl⟩
theorem done_park (t p : Nat) (rest val : Value) (w : World) (h : Blk w t 96 #[.nilFunc, pV p, rest, val]) : Calls Tryz.prog 37 #[pV t] w fun e w' => e = .returned (.bool false) ∧ w = w' := by
  have h0 : w.cell? ⟨t, 0, none⟩ = some .nilFunc := h.cell 0 _ rfl
  have h1 : w.cell? ⟨t, 1, none⟩ = some (pV p) := h.cell 1 _ rfl
  have hq : ∀ W : World, (binOp .eql 28 .nilFunc .nilFunc).run Tryz.prog W = .ok (.bool true) W := by intro W; kernel_rfl
  clear h
  go_enter Tryz.func37, Tryz.ntmps37
  go_wp2
  go_ret
  exact ⟨rfl, rfl⟩
theorem value_nil (w : World) : Calls Tryz.prog 23 #[.pointer none] w fun e w' => e = .returned (.int .i64 0) ∧ w = w' := by
  go_enter Tryz.func23, Tryz.ntmps23
  go_wp2
  go_ret
  exact ⟨rfl, rfl⟩
theorem value_any (t : Nat) (f p r : Value) (v : Int) (w : World) (h : Blk w t 96 #[f, p, r, .int .i64 v]) : Calls Tryz.prog 23 #[pV t] w fun e w' => e = .returned (.int .i64 v) ∧ w = w' := by
  have h0 := h.cell 3 _ rfl
  clear h
  go_enter Tryz.func23, Tryz.ntmps23
  go_wp2
  go_ret
  exact ⟨rfl, rfl⟩
theorem truth_any (b : Bool) (w : World) : Calls Tryz.prog 111 #[.bool b] w fun e w' => e = .returned (.int .i64 (if b then 1 else 0)) ∧ w = w' := by
  cases b
  · go_enter Tryz.func111, Tryz.ntmps111
    go_wp2
    go_ret
    exact ⟨rfl, rfl⟩
  · go_enter Tryz.func111, Tryz.ntmps111
    go_wp2
    go_ret
    exact ⟨rfl, rfl⟩
/- lists of continuations -/
theorem only_any (F : Nat) (caps : Array Value) (w : World) :
    Calls Tryz.prog 112 #[cloV F caps] w fun e w' => ∃ p, e = .returned (pV p) ∧ w.heap.size ≤ p ∧ Blk w' p 140 #[.pointer none, .pointer none, cloV F caps] ∧ Below w.heap.size w w' := by
  go_enter Tryz.func112, Tryz.ntmps112
  go_wp2
  go_ret
  exact ⟨w.heap.size, rfl, Nat.le_refl _, Blk.new w _ _, by go_grown⟩
theorem join_left (b : Value) (w : World) (hb : b = .pointer none ∨ ∃ p, b = pV p) : Calls Tryz.prog 103 #[.pointer none, b] w fun e w' => e = .returned b ∧ w = w' := by
  rcases hb with rfl | ⟨p, rfl⟩ <;>
  · go_enter Tryz.func103, Tryz.ntmps103
    go_wp2
    go_ret
    exact ⟨rfl, rfl⟩
theorem join_right (a : Nat) (w : World) : Calls Tryz.prog 103 #[pV a, .pointer none] w fun e w' => e = .returned (pV a) ∧ w = w' := by
  go_enter Tryz.func103, Tryz.ntmps103
  go_wp2
  go_ret
  exact ⟨rfl, rfl⟩
theorem join_both (a b : Nat) (w : World) : Calls Tryz.prog 103 #[pV a, pV b] w fun e w' => ∃ p, e = .returned (pV p) ∧ w.heap.size ≤ p ∧ Blk w' p 140 #[pV a, pV b, .nilFunc] ∧ Below w.heap.size w w' := by
  go_enter Tryz.func103, Tryz.ntmps103
  go_wp2
  go_ret
  exact ⟨w.heap.size, rfl, Nat.le_refl _, Blk.new w _ _, by go_grown⟩
/- calls that recover -/
theorem catchT_idle (w : World) : CallsD Tryz.prog 131 #[] .returning w fun e u' w' => e = .returned (.tuple #[]) ∧ u' = .returning ∧ w' = w := by
  refine callsD_of_wpS Tryz.func131 rfl fun c₀ cs hu => ?_
  apply wpS_region
  simp [wpOpsS, go_sem, recoverD, hu, Tryz.ntmps131, Exit.thenS, bodyPostS, results, Tryz.results131]
  cases c₀
  simp_all
theorem catchI_idle (w : World) : CallsD Tryz.prog 138 #[] .returning w fun e u' w' => e = .returned (.tuple #[]) ∧ u' = .returning ∧ w' = w := by
  refine callsD_of_wpS Tryz.func138 rfl fun c₀ cs hu => ?_
  apply wpS_region
  simp [wpOpsS, go_sem, recoverD, hu, Tryz.ntmps138, Exit.thenS, bodyPostS, results, Tryz.results138]
  cases c₀
  simp_all
theorem answerI_any (F : Nat) (caps : Array Value) (w : World) (R : Int → World → Prop)
    (hcall : ∀ (W : World) (args : Array Value), (callFunc F args).run Tryz.prog W = .ok (.enter F args) W)
    (h : Calls Tryz.prog F caps w fun e w' => ∃ v, e = .returned (.int .i64 v) ∧ R v w') :
    Calls Tryz.prog 130 #[cloV F caps] w fun e w' => ∃ v, e = .returned (.int .i64 v) ∧ R v w' := by
  have HH := Lib.hid h
  clear h
  go_enter_defers Tryz.func130, Tryz.ntmps130
  go_wp2_with fail
  refine HH.out.mono ?_
  rintro e w1 ⟨v, rfl, hp⟩
  go_wp2_with fail
  refine leaves_cons (f := 138) (args := #[]) (by simp) (by simp [go_sem]) ?_
  refine (catchI_idle _).mono ?_
  rintro e u' w'' ⟨rfl, rfl, rfl⟩
  simp [Leaves, settle, results, Tryz.results130, go_sem]
  exact hp
theorem answerT_any (F : Nat) (caps : Array Value) (w : World) (R : Nat → World → Prop)
    (hcall : ∀ (W : World) (args : Array Value), (callFunc F args).run Tryz.prog W = .ok (.enter F args) W)
    (h : Calls Tryz.prog F caps w fun e w' => ∃ t, e = .returned (pV t) ∧ R t w') :
    Calls Tryz.prog 114 #[cloV F caps] w fun e w' => ∃ t, e = .returned (pV t) ∧ R t w' := by
  have HH := Lib.hid h
  clear h
  go_enter_defers Tryz.func114, Tryz.ntmps114
  go_wp2_with fail
  refine HH.out.mono ?_
  rintro e w1 ⟨v, rfl, hp⟩
  go_wp2_with fail
  refine leaves_cons (f := 131) (args := #[]) (by simp) (by simp [go_sem]) ?_
  refine (catchT_idle _).mono ?_
  rintro e u' w'' ⟨rfl, rfl, rfl⟩
  simp [Leaves, settle, results, Tryz.results114, go_sem]
  exact hp
/- a task of one operation, and one that is parked -/
theorem one_any (F : Nat) (caps : Array Value) (w : World) :
    Calls Tryz.prog 109 #[cloV F caps] w fun e w' => ∃ t b, e = .returned (pV t) ∧ w.heap.size ≤ t ∧ w.heap.size ≤ b ∧ Blk w' b 28 #[cloV F caps] ∧ Blk w' t 96 #[cloV 129 #[pV b], .pointer none, .pointer none, .int .i64 0] ∧ Below w.heap.size w w' := by
  have hmf : ∀ (fn : Fn) (first cap : Array Value) (w : World), (Instr.makeFunc fn first cap).run Tryz.prog w = .ok (.func fn first cap) w := fun _ _ _ _ => rfl
  go_enter Tryz.func109, Tryz.ntmps109
  go_wp2
  go_ret
  refine ⟨w.heap.size + 1, w.heap.size, ?_, by omega, by omega, (Blk.new w _ _).alloc _, ?_, by go_grown⟩
  · simp [pV]
  · exact blk_two w _ _ _
end Go.Proofs.YtpejmkoheodblaaGreat
