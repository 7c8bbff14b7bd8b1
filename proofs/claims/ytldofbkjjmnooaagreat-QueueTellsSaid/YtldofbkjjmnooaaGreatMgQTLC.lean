/- Package task: its small functions. -/
import Derived.Test.YtldofbkjjmnooaaGreatProg
import Derived.Test.YtldofbkjjmnooaaGreatMgQTLA
import Derived.Defers
import Derived.Recover
import Derived.Laws.LoneSync
import Derived.Laws.EntriesVeiled
import Derived.Lib.Hide
import Derived.Deep.LoopGhost
import Derived.Deep.CutBlock
import Derived.WalkSpells
import Derived.OwnWalk
import Derived.Laws.OwnMore
import Derived.Conc.LoneSelect
namespace Go.Proofs.YtldofbkjjmnooaaGreat
open Go.ChangeShapes Go.WideShapes Go.ChangeAt Go.RowKit
set_option linter.unusedVariables false
set_option maxRecDepth 100000
set_option linter.unusedSimpArgs false
abbrev pV (T : Nat) : Value := .pointer (some ⟨T, 0, none⟩)
abbrev cloV (F : Nat) (caps : Array Value) : Value := .func (.func F) #[] caps
theorem ready_any (v : Int) (w : World) :
    Calls Tryz.prog 102 #[.int .i64 v] w fun e w' => ∃ t, e = .returned (pV t) ∧ w.heap.size ≤ t ∧ Blk w' t 161 #[.nilFunc, .pointer none, .pointer none, .int .i64 v] ∧ Below w.heap.size w w' := by
  go_enter Tryz.func102, Tryz.ntmps102
  go_wp2
  go_ret
  exact ⟨w.heap.size, rfl, Nat.le_refl _, Blk.new w _ _, by go_grown⟩
theorem done_nil (w : World) : Calls Tryz.prog 38 #[.pointer none] w fun e w' => e = .returned (.bool true) ∧ w = w' := by
  go_enter Tryz.func38, Tryz.ntmps38
  go_wp2
  go_ret
  exact ⟨rfl, rfl⟩
theorem done_yes (t : Nat) (rest val : Value) (w : World) (h : Blk w t 161 #[.nilFunc, .pointer none, rest, val]) : Calls Tryz.prog 38 #[pV t] w fun e w' => e = .returned (.bool true) ∧ w = w' := by
  have h0 : w.cell? ⟨t, 0, none⟩ = some .nilFunc := h.cell 0 _ rfl
  have h1 : w.cell? ⟨t, 1, none⟩ = some (.pointer none) := h.cell 1 _ rfl
  have hq : ∀ W : World, (binOp .eql 28 .nilFunc .nilFunc).run Tryz.prog W = .ok (.bool true) W := by intro W; kernel_rfl
  clear h
  go_enter Tryz.func38, Tryz.ntmps38
  go_wp2
  refine bodyPost_ret (v := .bool true) (by simp [results, Tryz.results38, go_sem]) rfl ?_
  exact ⟨rfl, rfl⟩
theorem done_op (t F : Nat) (caps : Array Value) (park rest val : Value) (w : World) (h : Blk w t 161 #[cloV F caps, park, rest, val]) : Calls Tryz.prog 38 #[pV t] w fun e w' => e = .returned (.bool false) ∧ w = w' := by
  have h0 : w.cell? ⟨t, 0, none⟩ = some (cloV F caps) := h.cell 0 _ rfl
  have hq : ∀ W : World, (binOp .eql 28 (cloV F caps) .nilFunc).run Tryz.prog W = .ok (.bool false) W := by intro W; kernel_rfl
  clear h
  go_enter Tryz.func38, Tryz.ntmps38
  go_wp2
  go_ret
  exact ⟨rfl, rfl⟩
theorem done_park (t p : Nat) (rest val : Value) (w : World) (h : Blk w t 161 #[.nilFunc, pV p, rest, val]) : Calls Tryz.prog 38 #[pV t] w fun e w' => e = .returned (.bool false) ∧ w = w' := by
  have h0 : w.cell? ⟨t, 0, none⟩ = some .nilFunc := h.cell 0 _ rfl
  have h1 : w.cell? ⟨t, 1, none⟩ = some (pV p) := h.cell 1 _ rfl
  have hq : ∀ W : World, (binOp .eql 28 .nilFunc .nilFunc).run Tryz.prog W = .ok (.bool true) W := by intro W; kernel_rfl
  clear h
  go_enter Tryz.func38, Tryz.ntmps38
  go_wp2
  go_ret
  exact ⟨rfl, rfl⟩
theorem value_nil (w : World) : Calls Tryz.prog 27 #[.pointer none] w fun e w' => e = .returned (.int .i64 0) ∧ w = w' := by
  go_enter Tryz.func27, Tryz.ntmps27
  go_wp2
  go_ret
  exact ⟨rfl, rfl⟩
theorem value_any (t : Nat) (f p r : Value) (v : Int) (w : World) (h : Blk w t 161 #[f, p, r, .int .i64 v]) : Calls Tryz.prog 27 #[pV t] w fun e w' => e = .returned (.int .i64 v) ∧ w = w' := by
  have h0 := h.cell 3 _ rfl
  clear h
  go_enter Tryz.func27, Tryz.ntmps27
  go_wp2
  go_ret
  exact ⟨rfl, rfl⟩
theorem parked_nil (w : World) : Calls Tryz.prog 57 #[.pointer none] w fun e w' => e = .returned (.bool false) ∧ w = w' := by
  go_enter Tryz.func57, Tryz.ntmps57
  go_wp2
  go_ret
  exact ⟨rfl, rfl⟩
theorem parked_no (t : Nat) (f r v : Value) (w : World) (h : Blk w t 161 #[f, .pointer none, r, v]) : Calls Tryz.prog 57 #[pV t] w fun e w' => e = .returned (.bool false) ∧ w = w' := by
  have h0 := h.cell 1 _ rfl
  clear h
  go_enter Tryz.func57, Tryz.ntmps57
  go_wp2
  go_ret
  exact ⟨rfl, rfl⟩
theorem parked_yes (t p : Nat) (f r v : Value) (w : World) (h : Blk w t 161 #[f, pV p, r, v]) : Calls Tryz.prog 57 #[pV t] w fun e w' => e = .returned (.bool true) ∧ w = w' := by
  have h0 := h.cell 1 _ rfl
  clear h
  go_enter Tryz.func57, Tryz.ntmps57
  go_wp2
  go_ret
  exact ⟨rfl, rfl⟩
theorem truth_any (b : Bool) (w : World) : Calls Tryz.prog 219 #[.bool b] w fun e w' => e = .returned (.int .i64 (if b then 1 else 0)) ∧ w = w' := by
  cases b
  · go_enter Tryz.func219, Tryz.ntmps219
    go_wp2
    go_ret
    exact ⟨rfl, rfl⟩
  · go_enter Tryz.func219, Tryz.ntmps219
    go_wp2
    go_ret
    exact ⟨rfl, rfl⟩
/- lists of continuations -/
theorem only_any (F : Nat) (caps : Array Value) (w : World) :
    Calls Tryz.prog 220 #[cloV F caps] w fun e w' => ∃ p, e = .returned (pV p) ∧ w.heap.size ≤ p ∧ Blk w' p 305 #[.pointer none, .pointer none, cloV F caps] ∧ Below w.heap.size w w' := by
  go_enter Tryz.func220, Tryz.ntmps220
  go_wp2
  go_ret
  exact ⟨w.heap.size, rfl, Nat.le_refl _, Blk.new w _ _, by go_grown⟩
theorem join_left (b : Value) (w : World) (hb : b = .pointer none ∨ ∃ p, b = pV p) : Calls Tryz.prog 201 #[.pointer none, b] w fun e w' => e = .returned b ∧ w = w' := by
  rcases hb with rfl | ⟨p, rfl⟩ <;>
  · go_enter Tryz.func201, Tryz.ntmps201
    go_wp2
    go_ret
    exact ⟨rfl, rfl⟩
theorem join_right (a : Nat) (w : World) : Calls Tryz.prog 201 #[pV a, .pointer none] w fun e w' => e = .returned (pV a) ∧ w = w' := by
  go_enter Tryz.func201, Tryz.ntmps201
  go_wp2
  go_ret
  exact ⟨rfl, rfl⟩
theorem join_both (a b : Nat) (w : World) : Calls Tryz.prog 201 #[pV a, pV b] w fun e w' => ∃ p, e = .returned (pV p) ∧ w.heap.size ≤ p ∧ Blk w' p 305 #[pV a, pV b, .nilFunc] ∧ Below w.heap.size w w' := by
  go_enter Tryz.func201, Tryz.ntmps201
  go_wp2
  go_ret
  exact ⟨w.heap.size, rfl, Nat.le_refl _, Blk.new w _ _, by go_grown⟩
/- calls that recover -/
theorem catchT_idle (w : World) : CallsD Tryz.prog 290 #[] .returning w fun e u' w' => e = .returned (.tuple #[]) ∧ u' = .returning ∧ w' = w := by
  refine callsD_of_wpS Tryz.func290 rfl fun c₀ cs hu => ?_
  apply wpS_region
  simp [wpOpsS, go_sem, recoverD, hu, Tryz.ntmps290, Exit.thenS, bodyPostS, results, Tryz.results290]
  cases c₀
  simp_all
theorem catchI_idle (w : World) : CallsD Tryz.prog 326 #[] .returning w fun e u' w' => e = .returned (.tuple #[]) ∧ u' = .returning ∧ w' = w := by
  refine callsD_of_wpS Tryz.func326 rfl fun c₀ cs hu => ?_
  apply wpS_region
  simp [wpOpsS, go_sem, recoverD, hu, Tryz.ntmps326, Exit.thenS, bodyPostS, results, Tryz.results326]
  cases c₀
  simp_all
theorem answerI_any (F : Nat) (caps : Array Value) (w : World) (R : Int → World → Prop)
    (hcall : ∀ (W : World) (args : Array Value), (callFunc F args).run Tryz.prog W = .ok (.enter F args) W)
    (h : Calls Tryz.prog F caps w fun e w' => ∃ v, e = .returned (.int .i64 v) ∧ R v w') :
    Calls Tryz.prog 261 #[cloV F caps] w fun e w' => ∃ v, e = .returned (.int .i64 v) ∧ R v w' := by
  have HH := Lib.hid h
  clear h
  go_enter_defers Tryz.func261, Tryz.ntmps261
  go_wp2_with fail
  refine HH.out.mono ?_
  rintro e w1 ⟨v, rfl, hp⟩
  go_wp2_with fail
  refine leaves_cons (f := 326) (args := #[]) (by simp) (by simp [go_sem]) ?_
  refine (catchI_idle _).mono ?_
  rintro e u' w'' ⟨rfl, rfl, rfl⟩
  simp [Leaves, settle, results, Tryz.results261, go_sem]
  exact hp
theorem answerT_any (F : Nat) (caps : Array Value) (w : World) (R : Nat → World → Prop)
    (hcall : ∀ (W : World) (args : Array Value), (callFunc F args).run Tryz.prog W = .ok (.enter F args) W)
    (h : Calls Tryz.prog F caps w fun e w' => ∃ t, e = .returned (pV t) ∧ R t w') :
    Calls Tryz.prog 222 #[cloV F caps] w fun e w' => ∃ t, e = .returned (pV t) ∧ R t w' := by
  have HH := Lib.hid h
  clear h
  go_enter_defers Tryz.func222, Tryz.ntmps222
  go_wp2_with fail
  refine HH.out.mono ?_
  rintro e w1 ⟨v, rfl, hp⟩
  go_wp2_with fail
  refine leaves_cons (f := 290) (args := #[]) (by simp) (by simp [go_sem]) ?_
  refine (catchT_idle _).mono ?_
  rintro e u' w'' ⟨rfl, rfl, rfl⟩
  simp [Leaves, settle, results, Tryz.results222, go_sem]
  exact hp
/- a task of one operation, and one that is parked -/
theorem one_any (F : Nat) (caps : Array Value) (w : World) :
    Calls Tryz.prog 167 #[cloV F caps] w fun e w' => ∃ t b, e = .returned (pV t) ∧ w.heap.size ≤ t ∧ w.heap.size ≤ b ∧ Blk w' b 28 #[cloV F caps] ∧ Blk w' t 161 #[cloV 260 #[pV b], .pointer none, .pointer none, .int .i64 0] ∧ Below w.heap.size w w' := by
  have hmf : ∀ (fn : Fn) (first cap : Array Value) (w : World), (Instr.makeFunc fn first cap).run Tryz.prog w = .ok (.func fn first cap) w := fun _ _ _ _ => rfl
  go_enter Tryz.func167, Tryz.ntmps167
  go_wp2
  go_ret
  refine ⟨w.heap.size + 1, w.heap.size, ?_, by omega, by omega, (Blk.new w _ _).alloc _, ?_, by go_grown⟩
  · simp [pV]
  · exact blk_two w _ _ _
theorem park_any (p : Nat) (i : Int) (b : Bool) (w : World) :
    Calls Tryz.prog 140 #[pV p, .int .i64 i, .bool b] w fun e w' => ∃ t k, e = .returned (pV t) ∧ w.heap.size ≤ t ∧ w.heap.size ≤ k ∧ Blk w' k 265 #[pV p, .int .i64 i, .bool b] ∧ Blk w' t 161 #[.nilFunc, pV k, .pointer none, .int .i64 0] ∧ Below w.heap.size w w' := by
  go_enter Tryz.func140, Tryz.ntmps140
  go_wp2
  go_ret
  refine ⟨w.heap.size + 1, w.heap.size, ?_, by omega, by omega, (Blk.new w _ _).alloc _, ?_, by go_grown⟩
  · simp [pV]
  · exact blk_two w _ _ _
end Go.Proofs.YtldofbkjjmnooaaGreat
/- Package task: lists of continuations. -/
namespace Go.Proofs.YtldofbkjjmnooaaGreat
open Go.ChangeShapes Go.WideShapes Go.ChangeAt Go.RowKit
set_option linter.unusedVariables false
set_option maxRecDepth 100000
set_option linter.unusedSimpArgs false
/-- a list of continuations: the tree at p, n steps to its first leaf; its leaves' boxes -/
inductive Tree (w : World) (Q : Nat → Prop) : Nat → Nat → List Nat → Prop where
  | leaf (p b : Nat) : Q p → Blk w p 305 #[.pointer none, .pointer none, cloV 221 #[pV b]] → Tree w Q 0 p [b]
  | node (n m p a b : Nat) (fs gs : List Nat) : Q p → Blk w p 305 #[pV a, pV b, .nilFunc] → Tree w Q n a fs → Tree w Q m b gs → Tree w Q (n + 1) p (fs ++ gs)
theorem Tree.keep {w w1 : World} {Q F : Nat → Prop} {n p : Nat} {fs : List Nat} (h : Tree w Q n p fs) (hk : Keep F w w1) (hd : ∀ b, Q b → ¬ F b) : Tree w1 Q n p fs := by
  induction h with
  | leaf p b h1 h2 => exact .leaf p b h1 (h2.keep hk (hd p h1))
  | node n m p a b fs gs h1 h2 h3 h4 i3 i4 => exact .node n m p a b fs gs h1 (h2.keep hk (hd p h1)) i3 i4
theorem Tree.mono {w : World} {Q Q' : Nat → Prop} {n p : Nat} {fs : List Nat} (h : Tree w Q n p fs) (hd : ∀ b, b < w.heap.size → Q b → Q' b) : Tree w Q' n p fs := by
  induction h with
  | leaf p b h1 h2 => exact .leaf p b (hd p h2.lt h1) h2
  | node n m p a b fs gs h1 h2 h3 h4 i3 i4 => exact .node n m p a b fs gs (hd p h2.lt h1) h2 i3 i4
theorem Tree.ne {w : World} {Q : Nat → Prop} {n p : Nat} {fs : List Nat} (h : Tree w Q n p fs) : fs ≠ [] := by
  induction h with
  | leaf p b h1 h2 => simp
  | node n m p a b fs gs h1 h2 h3 h4 i3 i4 => simp [i3]
/-- .. or none -/
def TreeO (w : World) (Q : Nat → Prop) (v : Value) (fs : List Nat) : Prop := (v = .pointer none ∧ fs = []) ∨ ∃ n p, v = pV p ∧ Tree w Q n p fs
theorem TreeO.keep {w w1 : World} {Q F : Nat → Prop} {v : Value} {fs : List Nat} (h : TreeO w Q v fs) (hk : Keep F w w1) (hd : ∀ b, Q b → ¬ F b) : TreeO w1 Q v fs := by
  rcases h with ⟨rfl, rfl⟩ | ⟨n, p, rfl, h⟩
  · exact .inl ⟨rfl, rfl⟩
  · exact .inr ⟨n, p, rfl, h.keep hk hd⟩
theorem TreeO.mono {w : World} {Q Q' : Nat → Prop} {v : Value} {fs : List Nat} (h : TreeO w Q v fs) (hd : ∀ b, b < w.heap.size → Q b → Q' b) : TreeO w Q' v fs := by
  rcases h with ⟨rfl, rfl⟩ | ⟨n, p, rfl, h⟩
  · exact .inl ⟨rfl, rfl⟩
  · exact .inr ⟨n, p, rfl, h.mono hd⟩
theorem TreeO.ptr {w : World} {Q : Nat → Prop} {v : Value} {fs : List Nat} (h : TreeO w Q v fs) : v = .pointer none ∨ ∃ p, v = pV p := by
  rcases h with ⟨rfl, rfl⟩ | ⟨n, p, rfl, h⟩
  · exact .inl rfl
  · exact .inr ⟨p, rfl⟩
theorem TreeO.is {w : World} {Q : Nat → Prop} {v : Value} {fs : List Nat} (h : TreeO w Q v fs) : ∃ u, v = .pointer u := by
  rcases h with ⟨rfl, rfl⟩ | ⟨n, p, rfl, h⟩
  · exact ⟨_, rfl⟩
  · exact ⟨_, rfl⟩
theorem join_trees (a b : Value) (fs gs : List Nat) (Q : Nat → Prop) (w : World) (ha : TreeO w Q a fs) (hb : TreeO w Q b gs) (hQ : ∀ k, w.heap.size ≤ k → Q k) :
    Calls Tryz.prog 201 #[a, b] w fun e w' => ∃ j, e = .returned j ∧ TreeO w' Q j (fs ++ gs) ∧ Below w.heap.size w w' := by
  rcases ha with ⟨rfl, rfl⟩ | ⟨n, p, rfl, ha⟩
  · refine (join_left b w hb.ptr).mono ?_
    rintro e w' ⟨rfl, rfl⟩
    exact ⟨b, rfl, by simpa using hb, Below.refl _ _⟩
  · rcases hb with ⟨rfl, rfl⟩ | ⟨m, q, rfl, hb⟩
    · refine (join_right p w).mono ?_
      rintro e w' ⟨rfl, rfl⟩
      exact ⟨_, rfl, .inr ⟨n, p, rfl, by simpa using ha⟩, Below.refl _ _⟩
    · refine (join_both p q w).mono ?_
      rintro e w' ⟨r, rfl, hr, hB, hw⟩
      have hk : Keep (fun _ => False) w w' := Keep.ofBelow hw
      exact ⟨_, rfl, .inr ⟨_, r, rfl, .node n m r p q fs gs (hQ r hr) hB (ha.keep hk fun _ _ h => h) (hb.keep hk fun _ _ h => h)⟩, hw⟩
theorem first_any (n p f : Nat) (fs : List Nat) (Q : Nat → Prop) (w : World) (h : Tree w Q n p (f :: fs)) (hQ : ∀ k, w.heap.size ≤ k → Q k) :
    Calls Tryz.prog 200 #[pV p] w fun e w' => ∃ rest, e = .returned (.tuple #[cloV 221 #[pV f], rest]) ∧ TreeO w' Q rest fs ∧ Below w.heap.size w w' := by
  have HQ := Lib.hid hQ
  have H := Lib.hid h
  clear h hQ
  go_enter Tryz.func200, Tryz.ntmps200
  go_wp2
  go_loopg [0, 4] n (fun k l o wr => ∃ p gs hs, l = pV p ∧ Tree wr Q k p gs ∧ TreeO wr Q o hs ∧ Hid (gs ++ hs = f :: fs) ∧ Below w.heap.size w wr)
  case atStart => exact ⟨p, f :: fs, [], rfl, H.out, .inl ⟨rfl, rfl⟩, Lib.hid (by simp), Below.refl _ _⟩
  case round =>
    obtain ⟨p, gs, hs, rfl, hT, hO, hE, hB⟩ := hrel
    have hsz := hB.size
    cases hT with
    | leaf p b h1 h2 =>
      have c0 : wr.cell? ⟨p, 0, none⟩ = some (.pointer none) := h2.cell 0 _ rfl
      have c2 : wr.cell? ⟨p, 2, none⟩ = some (cloV 221 #[pV b]) := h2.cell 2 _ rfl
      have he := hE.out
      simp only [List.cons_append, List.nil_append, List.cons.injEq] at he
      obtain ⟨rfl, rfl⟩ := he
      have HO := Lib.hid hO
      have ho := hO.ptr
      clear hO h2 hE
      rcases ho with rfl | ⟨q, rfl⟩
      · go_wp2
        refine bodyPost_ret (v := .tuple #[cloV 221 #[pV b], .pointer none]) (by simp [results, Tryz.results200, go_sem]) rfl ?_
        exact ⟨_, rfl, HO.out, hB⟩
      · go_wp2
        refine bodyPost_ret (v := .tuple #[cloV 221 #[pV b], pV q]) (by simp [results, Tryz.results200, go_sem]) rfl ?_
        exact ⟨_, rfl, HO.out, hB⟩
    | node k m p a b gs1 gs2 h1 h2 h3 h4 =>
      have c0 : wr.cell? ⟨p, 0, none⟩ = some (pV a) := h2.cell 0 _ rfl
      have c1 : wr.cell? ⟨p, 1, none⟩ = some (pV b) := h2.cell 1 _ rfl
      have hJ := Lib.hid (join_trees (pV b) _ gs2 hs Q wr (.inr ⟨m, b, rfl, h4⟩) hO (fun k hk => HQ.out k (by omega)))
      have HP := Lib.hid h2
      have H3 := Lib.hid h3
      have ho := hO.ptr
      clear hO h2 h3 h4
      rcases ho with rfl | ⟨q, rfl⟩
      · go_wp2_with (go_at_call 201; refine hJ.out.mono ?_; rintro e w2 ⟨j, rfl, hj, hb2⟩; clear c1; have c3 : w2.cell? ⟨p, 0, none⟩ = some (pV a) := (HP.out.below hb2 HP.out.lt).cell 0 _ rfl; clear c0)
        go_roundg k
        case measure => omega
        case rel => exact ⟨a, gs1, gs2 ++ hs, rfl, H3.out.keep (Keep.ofBelow (Q := fun _ => False) hb2) fun _ _ h => h, hj, Lib.hid (by rw [← List.append_assoc]; exact hE.out), hB.trans (hb2.mono hsz)⟩
      · go_wp2_with (go_at_call 201; refine hJ.out.mono ?_; rintro e w2 ⟨j, rfl, hj, hb2⟩; clear c1; have c3 : w2.cell? ⟨p, 0, none⟩ = some (pV a) := (HP.out.below hb2 HP.out.lt).cell 0 _ rfl; clear c0)
        go_roundg k
        case measure => omega
        case rel => exact ⟨a, gs1, gs2 ++ hs, rfl, H3.out.keep (Keep.ofBelow (Q := fun _ => False) hb2) fun _ _ h => h, hj, Lib.hid (by rw [← List.append_assoc]; exact hE.out), hB.trans (hb2.mono hsz)⟩
end Go.Proofs.YtldofbkjjmnooaaGreat
/- Package task: goOn. -/
namespace Go.Proofs.YtldofbkjjmnooaaGreat
open Go.ChangeShapes Go.WideShapes Go.ChangeAt Go.RowKit
set_option linter.unusedVariables false
set_option maxRecDepth 100000
set_option linter.unusedSimpArgs false
theorem Tree.unique {w : World} {Q Q' : Nat → Prop} {n m p : Nat} {fs gs : List Nat} (h : Tree w Q n p fs) (k : Tree w Q' m p gs) : fs = gs := by
  induction h generalizing m gs with
  | leaf p b h1 h2 =>
    cases k with
    | leaf p b' k1 k2 =>
      have e := (show w.heap[p]? = _ from h2).symm.trans k2
      simp [pV, cloV] at e
      simp [e]
    | node n m p a b' fs gs k1 k2 k3 k4 =>
      have e := (show w.heap[p]? = _ from h2).symm.trans k2
      simp [pV, cloV] at e
  | node n m p a b fs gs h1 h2 h3 h4 i3 i4 =>
    cases k with
    | leaf p b' k1 k2 =>
      have e := (show w.heap[p]? = _ from h2).symm.trans k2
      simp [pV, cloV] at e
    | node n m p a' b' fs' gs' k1 k2 k3 k4 =>
      have e := (show w.heap[p]? = _ from h2).symm.trans k2
      simp [pV, cloV] at e
      obtain ⟨rfl, rfl⟩ := e
      rw [i3 k3, i4 k4]
theorem TreeO.unique {w : World} {Q Q' : Nat → Prop} {v : Value} {fs gs : List Nat} (h : TreeO w Q v fs) (k : TreeO w Q' v gs) : fs = gs := by
  rcases h with ⟨rfl, rfl⟩ | ⟨n, p, rfl, h⟩
  · rcases k with ⟨_, rfl⟩ | ⟨m, q, e, k⟩
    · rfl
    · cases e
  · rcases k with ⟨e, _⟩ | ⟨m, q, e, k⟩
    · cases e
    · simp [pV] at e
      subst e
      exact h.unique k
/-- a task that is done, or none -/
def DoneV (w : World) (n : Option Addr) (v : Int) : Prop := (n = none ∧ v = 0) ∨ ∃ k, n = some ⟨k, 0, none⟩ ∧ Blk w k 161 #[.nilFunc, .pointer none, .pointer none, .int .i64 v]
theorem DoneV.keep {w w1 : World} {n : Option Addr} {v : Int} {F : Nat → Prop} (h : DoneV w n v) (hk : Keep F w w1) (hn : ∀ k, n = some ⟨k, 0, none⟩ → ¬ F k) : DoneV w1 n v := by
  rcases h with h | ⟨k, rfl, h⟩
  · exact .inl h
  · exact .inr ⟨k, rfl, h.keep hk (hn k rfl)⟩
theorem doneV_done (n : Option Addr) (v : Int) (w : World) (h : DoneV w n v) : Calls Tryz.prog 38 #[.pointer n] w fun e w' => e = .returned (.bool true) ∧ w = w' := by
  rcases h with ⟨rfl, _⟩ | ⟨k, rfl, h⟩
  · exact done_nil w
  · exact done_yes k _ _ w h
theorem doneV_value (n : Option Addr) (v : Int) (w : World) (h : DoneV w n v) : Calls Tryz.prog 27 #[.pointer n] w fun e w' => e = .returned (.int .i64 v) ∧ w = w' := by
  rcases h with ⟨rfl, rfl⟩ | ⟨k, rfl, h⟩
  · exact value_nil w
  · exact value_any k _ _ _ v w h
/-- one that needs a step -/
structure Live (w : World) (k : Nat) (d p r : Value) : Prop where
  blk : Blk w k 161 #[d, p, r, .int .i64 0]
  op : (∃ F caps, d = cloV F caps ∧ p = .pointer none) ∨ ∃ q, d = .nilFunc ∧ p = pV q
theorem Live.keep {w w1 : World} {k : Nat} {d p r : Value} {F : Nat → Prop} (h : Live w k d p r) (hk : Keep F w w1) (hn : ¬ F k) : Live w1 k d p r := ⟨h.blk.keep hk hn, h.op⟩
theorem live_done (k : Nat) (d p r : Value) (w : World) (h : Live w k d p r) : Calls Tryz.prog 38 #[pV k] w fun e w' => e = .returned (.bool false) ∧ w = w' := by
  rcases h.op with ⟨F, caps, rfl, rfl⟩ | ⟨q, rfl, rfl⟩
  · exact done_op k F caps _ _ _ w h.blk
  · exact done_park k q _ _ w h.blk
set_option maxHeartbeats 2000000 in
theorem goon_ptr (t : Nat) (n : Option Addr) (d0 p0 r0 : Value) (v0 : Int) (fs : List Nat) (Q : Nat → Prop) (J : World → Option Addr → List Nat → Prop) (w : World)
    (ht : Blk w t 161 #[d0, p0, r0, .int .i64 v0]) (hr : TreeO w Q r0 fs) (hQ : ∀ k, w.heap.size ≤ k → Q k) (hQt : ¬ Q t) (hJ : J w n fs)
    (jk : ∀ a b n fs, w.heap.size ≤ a.heap.size → J a n fs → Keep (fun k => k = t) a b → J b n fs)
    (jv : ∀ a n fs, J a n fs → n ≠ some ⟨t, 0, none⟩ ∧ ((∃ v, DoneV a n v) ∨ ∃ k d p r gs, n = some ⟨k, 0, none⟩ ∧ Live a k d p r ∧ TreeO a Q r gs))
    (jn : ∀ a n f fs v, w.heap.size ≤ a.heap.size → J a n (f :: fs) → DoneV a n v → Calls Tryz.prog 221 #[.int .i64 v, pV f] a fun e b => ∃ k, e = .returned (.pointer k) ∧ J b k fs ∧ Below a.heap.size a b) :
    Calls Tryz.prog 119 #[pV t, .pointer n] w fun e w' => e = .returned (.tuple #[]) ∧ Keep (fun k => k = t) w w' ∧ ∃ n fs, J w' n fs ∧
      ((fs = [] ∧ ∃ v, DoneV w' n v ∧ Blk w' t 161 #[.nilFunc, .pointer none, .pointer none, .int .i64 v]) ∨
       ∃ k d p r gs j, n = some ⟨k, 0, none⟩ ∧ Live w' k d p r ∧ TreeO w' Q r gs ∧ TreeO w' Q j (gs ++ fs) ∧ Blk w' t 161 #[d, p, j, .int .i64 v0]) := by
  have HT := Lib.hid ht
  have HR := Lib.hid hr
  have HQ := Lib.hid hQ
  have HJ := Lib.hid hJ
  have JK := Lib.hid jk
  have JV := Lib.hid jv
  have JN := Lib.hid jn
  have HQt := Lib.hid hQt
  clear ht hr hQ hJ jk jv jn hQt
  go_enter Tryz.func119, Tryz.ntmps119
  go_wp2_with fail
  go_loopg [1] fs.length (fun k nV wr => ∃ n r gs, nV = .pointer n ∧ k = gs.length ∧ Blk wr t 161 #[d0, p0, r, .int .i64 v0] ∧ TreeO wr Q r gs ∧ J wr n gs ∧ Keep (fun k => k = t) w wr)
  case atStart => exact ⟨n, r0, fs, rfl, rfl, HT.out, HR.out, HJ.out, Keep.refl _ _⟩
  case round =>
    obtain ⟨n, r, gs, rfl, hk0, hB, hT, hj, hK⟩ := hrel
    have hsz := hK.size
    obtain ⟨hne, hv | hv⟩ := JV.out wr n gs hj
    · obtain ⟨v, hv⟩ := hv
      have hd := Lib.hid (doneV_done n v wr hv)
      have hval := Lib.hid (doneV_value n v wr hv)
      have HB := Lib.hid hB
      have HV := Lib.hid hv
      have Hj := Lib.hid hj
      have Hn := Lib.hid hne
      have c2 : wr.cell? ⟨t, 2, none⟩ = some r := hB.cell 2 _ rfl
      have c0 : wr.cell? ⟨t, 0, none⟩ = some d0 := hB.cell 0 _ rfl
      have c1 : wr.cell? ⟨t, 1, none⟩ = some p0 := hB.cell 1 _ rfl
      have c3 : wr.cell? ⟨t, 3, none⟩ = some (.int .i64 v0) := hB.cell 3 _ rfl
      have z0 := hB.free 0
      have z1 := hB.free 1
      have z2 := hB.free 2
      have z3 := hB.free 3
      rcases hT with ⟨rfl, rfl⟩ | ⟨m, q, rfl, hT⟩
      · clear hB hv hj hk0 hne
        go_wp2_with (first | (go_at_call 38; refine hd.out.mono ?_; rintro e w2 ⟨rfl, rfl⟩) | (go_at_call 27; refine hval.out.mono ?_; rintro e w2 ⟨rfl, rfl⟩))
        have kW : Keep (fun k => k = t) wr (((wr.setCell ⟨t, 0, none⟩ .nilFunc).setCell ⟨t, 1, none⟩ (.pointer none)).setCell ⟨t, 3, none⟩ (.int .i64 v)) := (((Keep.refl (fun k => k = t) wr).set (p := ⟨t, 0, none⟩) (fun _ => rfl) _).set (p := ⟨t, 1, none⟩) (fun _ => rfl) _).set (p := ⟨t, 3, none⟩) (fun _ => rfl) _
        have bW := ((HB.out.set 0 .nilFunc).set 1 (.pointer none)).set 3 (.int .i64 v)
        refine bodyPost_ret (v := .tuple #[]) (by simp [results, Tryz.results119, go_sem]) rfl ?_
        refine ⟨rfl, hK.trans kW, n, [], JK.out _ _ _ _ hsz Hj.out kW, .inl ⟨rfl, v, HV.out.keep kW (fun k e hk => Hn.out (by rw [e, hk])), bW⟩⟩
      · cases gs with
        | nil => exact absurd rfl hT.ne
        | cons f gs =>
          have HF := Lib.hid (first_any m q f gs Q wr hT (fun k hk => HQ.out k (by omega)))
          clear hB hv hj hne hT
          go_upto_region 3 with (first | (go_at_call 38; refine hd.out.mono ?_; rintro e w2 ⟨rfl, rfl⟩) | (go_at_call 200; refine HF.out.mono ?_; rintro e w3 ⟨rest, rfl, hrest, hw3⟩; obtain ⟨ru, rfl⟩ := hrest.is; clear c0 c1 c2 c3 z0 z1 z2 z3; have z2 := (HB.out.below hw3 HB.out.lt).free 2; have c2 : w3.cell? ⟨t, 2, none⟩ = some (pV q) := (HB.out.below hw3 HB.out.lt).cell 2 _ rfl))
          have kW : Keep (fun k => k = t) wr (w3.setCell ⟨t, 2, none⟩ (.pointer ru)) := (Keep.ofBelow (Q := fun k => k = t) hw3).set (p := ⟨t, 2, none⟩) (fun _ => rfl) _
          have bW := (HB.out.below hw3 HB.out.lt).set 2 (.pointer ru)
          have hv4 := HV.out.keep kW (fun k e hk => Hn.out (by rw [e, hk]))
          have hj4 := JK.out _ _ _ _ hsz Hj.out kW
          have hr4 : TreeO (w3.setCell ⟨t, 2, none⟩ (.pointer ru)) Q (.pointer ru) gs := hrest.keep ((Keep.refl (fun k => k = t) w3).set (p := ⟨t, 2, none⟩) (fun _ => rfl) (.pointer ru)) (fun b hb hk => HQt.out (hk ▸ hb))
          have hs4 : w.heap.size ≤ (w3.setCell ⟨t, 2, none⟩ (.pointer ru)).heap.size := Nat.le_trans hsz kW.size
          clear c2 z2
          generalize w3.setCell ⟨t, 2, none⟩ (.pointer ru) = w4 at *
          have hval4 := Lib.hid (doneV_value n v w4 hv4)
          have hcall := Lib.hid (JN.out w4 n f gs v hs4 hj4 hv4)
          have HV4 := Lib.hid hr4
          have hk5 : gk = gs.length + 1 := hk0
          clear hv4 hj4 hr4 hk0 hrest
          go_wp2_with (first | (go_at_call 27; refine hval4.out.mono ?_; rintro e w5 ⟨rfl, rfl⟩) | (go_at_call 221; refine hcall.out.mono ?_; rintro e w6 ⟨k6, rfl, hj6, hw6⟩))
          go_roundg gs.length
          case measure => omega
          case rel => exact ⟨_, _, gs, rfl, rfl, bW.below hw6 bW.lt, HV4.out.keep (Keep.ofBelow (Q := fun _ => False) hw6) (fun _ _ h => h), hj6, hK.trans (kW.trans (Keep.ofBelow hw6))⟩
    · obtain ⟨k1, d, p, r1, g1, rfl, hL, hT1⟩ := hv
      have hd := Lib.hid (live_done k1 d p r1 wr hL)
      have hne1 : k1 ≠ t := fun e => hne (by rw [e])
      have a0 : wr.cell? ⟨k1, 0, none⟩ = some d := hL.blk.cell 0 _ rfl
      have a1 : wr.cell? ⟨k1, 1, none⟩ = some p := hL.blk.cell 1 _ rfl
      have a2 : wr.cell? ⟨k1, 2, none⟩ = some r1 := hL.blk.cell 2 _ rfl
      have c2 : wr.cell? ⟨t, 2, none⟩ = some r := hB.cell 2 _ rfl
      have hjn := Lib.hid fun W (hk : Keep (fun k => k = t) wr W) (ht2 : TreeO W Q r gs) => join_trees r1 r g1 gs Q W (hT1.keep hk fun b hb e => HQt.out (e ▸ hb)) ht2 (fun k hk2 => HQ.out k (by have := hk.size; omega))
      have hjl := Lib.hid fun W (hk : Keep (fun k => k = t) wr W) => hL.keep hk hne1
      have HTr := Lib.hid (show TreeO wr.drew Q r gs from hT.keep ((Keep.refl (fun _ => False) wr).drew) (fun _ _ h => h))
      have HBr : Hid (Blk wr.drew t 161 #[d0, p0, r, .int .i64 v0]) := Lib.hid hB
      have HL := Lib.hid hL
      have Hj := Lib.hid hj
      have ho := hL.op
      have hr1 := hT1.ptr
      have hr := hT.ptr
      have HT1 := Lib.hid hT1
      clear hB hj hL hT hT1 hk0
      go_upto_region 6 with (go_at_call 38; refine hd.out.mono ?_; rintro e w2 ⟨rfl, rfl⟩)
      have k0 : Keep (fun k => k = t) wr wr.drew := (Keep.refl _ _).drew
      have q2 : wr.drew.cell? ⟨t, 2, none⟩ = some r := HBr.out.cell 2 _ rfl
      obtain ⟨ru, rfl⟩ : ∃ u, r = .pointer u := by rcases hr with rfl | ⟨q, rfl⟩ <;> exact ⟨_, rfl⟩
      obtain ⟨r1u, rfl⟩ : ∃ u, r1 = .pointer u := by rcases hr1 with rfl | ⟨q, rfl⟩ <;> exact ⟨_, rfl⟩
      clear hr hr1 a0 a1 a2 c2 hd
      rcases ho with ⟨F, caps, rfl, rfl⟩ | ⟨q, rfl, rfl⟩
      · have SK := Lib.hid (show ∀ W, Keep (fun k => k = t) wr W → (fun W => (W.cell? ⟨k1, 0, none⟩ = some (cloV F caps) ∧ W.cell? ⟨k1, 1, none⟩ = some (.pointer none) ∧ W.cell? ⟨k1, 2, none⟩ = some (.pointer r1u))) W from fun W hk => ⟨(hjl.out W hk).blk.cell 0 _ rfl, (hjl.out W hk).blk.cell 1 _ rfl, (hjl.out W hk).blk.cell 2 _ rfl⟩)
        refine wp_region_held_drew (S := (fun W => (W.cell? ⟨k1, 0, none⟩ = some (cloV F caps) ∧ W.cell? ⟨k1, 1, none⟩ = some (.pointer none) ∧ W.cell? ⟨k1, 2, none⟩ = some (.pointer r1u)))) (by kernel_rfl) (SK.out _ k0) (fun hHeld => ?_)
        refine wpAnyH_take (i := 0) (oi := _) (v := ?_) rfl (by kernel_rfl) (by kernel_rfl) (by kernel_rfl) (fun _ _ _ h => h) (Or.inl ⟨by rfl, ?_⟩) (by assumption) ?_
        rotate_left
        · intro w hSw; (try dsimp only at hSw); go_simp; try with_reducible rfl
        (try simp only [Act.put, List.setIfInBounds_toArray, List.set_cons_zero, List.set_cons_succ])
        refine wpAnyH_take (i := 1) (oi := _) (v := ?_) rfl (by kernel_rfl) (by kernel_rfl) (by kernel_rfl) (fun _ _ _ h => h) (Or.inl ⟨by rfl, ?_⟩) (by assumption) ?_
        rotate_left
        · intro w hSw; (try dsimp only at hSw); go_simp; try with_reducible rfl
        (try simp only [Act.put, List.setIfInBounds_toArray, List.set_cons_zero, List.set_cons_succ])
        refine wpAnyH_take (i := 2) (oi := _) (v := ?_) rfl (by kernel_rfl) (by kernel_rfl) (by kernel_rfl) (fun _ _ _ h => h) (Or.inl ⟨by rfl, ?_⟩) (by assumption) ?_
        rotate_left
        · intro w hSw; (try dsimp only at hSw); go_simp; try with_reducible rfl
        (try simp only [Act.put, List.setIfInBounds_toArray, List.set_cons_zero, List.set_cons_succ])
        refine wpAnyH_take (i := 3) (oi := _) (v := ?_) rfl (by kernel_rfl) (by kernel_rfl) (by kernel_rfl) (fun _ _ _ h => h) (Or.inl ⟨by rfl, ?_⟩) (by assumption) ?_
        rotate_left
        · intro w hSw; (try dsimp only at hSw); go_simp; try with_reducible rfl
        (try simp only [Act.put, List.setIfInBounds_toArray, List.set_cons_zero, List.set_cons_succ])
        refine wpAnyH_take (i := 4) (oi := _) (v := ?_) rfl (by kernel_rfl) (by kernel_rfl) (by kernel_rfl) (fun _ _ _ h => h) (Or.inl ⟨by rfl, ?_⟩) (by assumption) ?_
        rotate_left
        · intro w hSw; (try dsimp only at hSw); go_simp; try with_reducible rfl
        (try simp only [Act.put, List.setIfInBounds_toArray, List.set_cons_zero, List.set_cons_succ])
        refine wpAnyH_take (i := 5) (oi := _) (v := ?_) rfl (by kernel_rfl) (by kernel_rfl) (by kernel_rfl) (fun _ _ _ h => h) (Or.inl ⟨by rfl, ?_⟩) (by assumption) ?_
        rotate_left
        · intro w hSw; (try dsimp only at hSw); go_simp; try with_reducible rfl
        (try simp only [Act.put, List.setIfInBounds_toArray, List.set_cons_zero, List.set_cons_succ])
        refine wpAnyH_take (i := 6) (oi := _) (v := ?_) rfl (by kernel_rfl) (by kernel_rfl) (by kernel_rfl) (fun _ _ _ h => h) (Or.inl ⟨by rfl, ?_⟩) (by assumption) ?_
        rotate_left
        · intro w hSw; (try dsimp only at hSw); go_simp; try with_reducible rfl
        (try simp only [Act.put, List.setIfInBounds_toArray, List.set_cons_zero, List.set_cons_succ])
        refine wpAnyH_take (i := 7) (oi := _) (v := ?_) rfl (by kernel_rfl) (by kernel_rfl) (by kernel_rfl) (fun _ _ _ h => h) (Or.inl ⟨by rfl, ?_⟩) (by assumption) ?_
        rotate_left
        · intro w hSw; (try dsimp only at hSw); go_simp; try with_reducible rfl
        (try simp only [Act.put, List.setIfInBounds_toArray, List.set_cons_zero, List.set_cons_succ])
        refine wpAnyH_take (i := 8) (oi := _) (v := ?_) rfl (by kernel_rfl) (by kernel_rfl) (by kernel_rfl) (fun _ _ _ h => h) (Or.inl ⟨by rfl, ?_⟩) (by assumption) ?_
        rotate_left
        · intro w hSw; (try dsimp only at hSw); go_simp; try with_reducible rfl
        (try simp only [Act.put, List.setIfInBounds_toArray, List.set_cons_zero, List.set_cons_succ])
        refine wpAnyH_take (i := 9) (oi := _) (v := ?_) rfl (by kernel_rfl) (by kernel_rfl) (by kernel_rfl) (fun _ _ _ h => h) (Or.inl ⟨by rfl, ?_⟩) (by assumption) ?_
        rotate_left
        · intro w hSw; (try dsimp only at hSw); go_simp; try with_reducible rfl
        (try simp only [Act.put, List.setIfInBounds_toArray, List.set_cons_zero, List.set_cons_succ])
        refine wpAnyH_take (i := 10) (oi := _) (v := ?_) rfl (by kernel_rfl) (by kernel_rfl) (by kernel_rfl) (fun _ _ _ h => h) (Or.inl ⟨by rfl, ?_⟩) (by assumption) ?_
        rotate_left
        · intro w hSw; (try dsimp only at hSw); go_simp; try with_reducible rfl
        (try simp only [Act.put, List.setIfInBounds_toArray, List.set_cons_zero, List.set_cons_succ])
        refine wpAnyH_take (i := 11) (oi := _) (v := ?_) rfl (by kernel_rfl) (by kernel_rfl) (by kernel_rfl) (fun _ _ _ h => h) (Or.inl ⟨by rfl, ?_⟩) (by assumption) ?_
        rotate_left
        · intro w hSw; (try dsimp only at hSw); go_simp; try with_reducible rfl
        (try simp only [Act.put, List.setIfInBounds_toArray, List.set_cons_zero, List.set_cons_succ])
        refine wpAnyH_take (i := 12) (oi := _) (v := ?_) rfl (by kernel_rfl) (by kernel_rfl) (by kernel_rfl) (fun _ _ _ h => h) (Or.inl ⟨by rfl, ?_⟩) (by assumption) ?_
        rotate_left
        · intro w hSw; (try dsimp only at hSw); go_simp; try with_reducible rfl
        (try simp only [Act.put, List.setIfInBounds_toArray, List.set_cons_zero, List.set_cons_succ])
        refine wpAnyH_ready (rs := [13]) (by kernel_rfl) (by simp) ?_
        refine AllReadyH.cons rfl (fun K hK => ?_) AllReadyH.nil
        go_simp
        go_wp2_with fail
        refine hK.out _ _ (SK.out _ k0) (fun hHeld => ?_)
        clear hK K
        (try dsimp only [Act.put]); (try simp only [Act.put, List.setIfInBounds_toArray, List.set_cons_zero, List.set_cons_succ])
        refine wpAnyH_ready (rs := [14]) (by kernel_rfl) (by simp) ?_
        refine AllReadyH.cons rfl (fun K hK => ?_) AllReadyH.nil
        go_simp
        go_at_call 201
        refine (hjn.out _ k0 HTr.out).mono ?_
        rintro e w3 ⟨j, rfl, hjt, hw3⟩
        obtain ⟨ju, rfl⟩ := hjt.is
        have k3 := k0.trans (Keep.ofBelow (Q := fun k => k = t) hw3)
        have B3 := HBr.out.below hw3 HBr.out.lt
        clear q2
        go_wp2_with fail
        refine hK.out _ _ (SK.out _ k3) (fun hHeld => ?_)
        clear hK K
        (try dsimp only [Act.put]); (try simp only [Act.put, List.setIfInBounds_toArray, List.set_cons_zero, List.set_cons_succ])
        have q0 : w3.cell? ⟨t, 0, none⟩ = some d0 := B3.cell 0 _ rfl
        have q1 : w3.cell? ⟨t, 1, none⟩ = some p0 := B3.cell 1 _ rfl
        have z0 := B3.free 0
        have z1 := B3.free 1
        refine wpAnyH_take (i := 15) (oi := _) (v := ?_) rfl (by kernel_rfl) (by kernel_rfl) (by kernel_rfl) (fun _ _ _ h => h) (Or.inl ⟨by rfl, ?_⟩) (by assumption) ?_
        rotate_left
        · intro w hSw; (try dsimp only at hSw); go_simp; try with_reducible rfl
        (try simp only [Act.put, List.setIfInBounds_toArray, List.set_cons_zero, List.set_cons_succ])
        refine wpAnyH_take (i := 16) (oi := _) (v := ?_) rfl (by kernel_rfl) (by kernel_rfl) (by kernel_rfl) (fun _ _ _ h => h) (Or.inl ⟨by rfl, ?_⟩) (by assumption) ?_
        rotate_left
        · intro w hSw; (try dsimp only at hSw); go_simp; try with_reducible rfl
        (try simp only [Act.put, List.setIfInBounds_toArray, List.set_cons_zero, List.set_cons_succ])
        have k4 : Keep (fun k => k = t) wr ((w3.setCell ⟨t, 0, none⟩ (cloV F caps)).setCell ⟨t, 1, none⟩ (.pointer none)) := (k3.set (p := ⟨t, 0, none⟩) (fun _ => rfl) _).set (p := ⟨t, 1, none⟩) (fun _ => rfl) _
        refine wpAnyH_ready (rs := [17]) (by kernel_rfl) (by simp) ?_
        refine AllReadyH.cons rfl (fun K hK => ?_) AllReadyH.nil
        go_simp
        go_wp2_with fail
        refine hK.out _ _ (SK.out _ k4) (fun hHeld => ?_)
        clear hK K
        (try dsimp only [Act.put]); (try simp only [Act.put, List.setIfInBounds_toArray, List.set_cons_zero, List.set_cons_succ])
        have B4 := (B3.set 0 (cloV F caps)).set 1 (.pointer none)
        have hjt4 : TreeO ((w3.setCell ⟨t, 0, none⟩ (cloV F caps)).setCell ⟨t, 1, none⟩ (.pointer none)) Q (.pointer ju) (g1 ++ gs) := hjt.keep (((Keep.refl (fun k => k = t) w3).set (p := ⟨t, 0, none⟩) (fun _ => rfl) _).set (p := ⟨t, 1, none⟩) (fun _ => rfl) _) (fun b hb e => HQt.out (e ▸ hb))
        clear q0 q1 z0 z1 hHeld
        generalize ((w3.setCell ⟨t, 0, none⟩ (cloV F caps)).setCell ⟨t, 1, none⟩ (.pointer none)) = w4 at *
        have hHeld := SK.out _ k4
        have q2 : w4.cell? ⟨t, 2, none⟩ = some (.pointer ru) := B4.cell 2 _ rfl
        have z2 := B4.free 2
        have k5 : Keep (fun k => k = t) wr (w4.setCell ⟨t, 2, none⟩ (.pointer ju)) := k4.set (p := ⟨t, 2, none⟩) (fun _ => rfl) _
        refine wpAnyH_take (i := 18) (oi := _) (v := ?_) rfl (by kernel_rfl) (by kernel_rfl) (by kernel_rfl) (fun _ _ _ h => h) (Or.inl ⟨by rfl, ?_⟩) (by assumption) ?_
        rotate_left
        · intro w hSw; (try dsimp only at hSw); go_simp; try with_reducible rfl
        (try simp only [Act.put, List.setIfInBounds_toArray, List.set_cons_zero, List.set_cons_succ])
        refine wpAnyH_take (i := 19) (oi := _) (v := ?_) rfl (by kernel_rfl) (by kernel_rfl) (by kernel_rfl) (fun _ _ _ h => h) (Or.inl ⟨by rfl, ?_⟩) (by assumption) ?_
        rotate_left
        · intro w hSw; (try dsimp only at hSw); go_simp; try with_reducible rfl
        (try simp only [Act.put, List.setIfInBounds_toArray, List.set_cons_zero, List.set_cons_succ])
        refine wpAnyH_ready (rs := [20]) (by kernel_rfl) (by simp) ?_
        refine AllReadyH.cons rfl (fun K hK => ?_) AllReadyH.nil
        go_simp
        go_wp2_with fail
        refine hK.out _ _ (SK.out _ k5) (fun hHeld => ?_)
        clear hK K
        (try dsimp only [Act.put]); (try simp only [Act.put, List.setIfInBounds_toArray, List.set_cons_zero, List.set_cons_succ])
        refine wpAnyH_done (by kernel_rfl) ?_ _
        have bW := B4.set 2 (.pointer ju)
        have k6 : Keep (fun k => k = t) w4 (w4.setCell ⟨t, 2, none⟩ (.pointer ju)) := (Keep.refl (fun k => k = t) w4).set (p := ⟨t, 2, none⟩) (fun _ => rfl) _
        go_end0
        refine ⟨rfl, hK.trans k5, some ⟨k1, 0, none⟩, gs, JK.out _ _ _ _ hsz Hj.out k5, .inr ⟨k1, _, _, _, g1, _, rfl, hjl.out _ k5, HT1.out.keep k5 (fun b hb e => HQt.out (e ▸ hb)), hjt4.keep k6 (fun b hb e => HQt.out (e ▸ hb)), bW⟩⟩
      · have SK := Lib.hid (show ∀ W, Keep (fun k => k = t) wr W → (fun W => (W.cell? ⟨k1, 0, none⟩ = some (.nilFunc) ∧ W.cell? ⟨k1, 1, none⟩ = some (pV q) ∧ W.cell? ⟨k1, 2, none⟩ = some (.pointer r1u))) W from fun W hk => ⟨(hjl.out W hk).blk.cell 0 _ rfl, (hjl.out W hk).blk.cell 1 _ rfl, (hjl.out W hk).blk.cell 2 _ rfl⟩)
        refine wp_region_held_drew (S := (fun W => (W.cell? ⟨k1, 0, none⟩ = some (.nilFunc) ∧ W.cell? ⟨k1, 1, none⟩ = some (pV q) ∧ W.cell? ⟨k1, 2, none⟩ = some (.pointer r1u)))) (by kernel_rfl) (SK.out _ k0) (fun hHeld => ?_)
        refine wpAnyH_take (i := 0) (oi := _) (v := ?_) rfl (by kernel_rfl) (by kernel_rfl) (by kernel_rfl) (fun _ _ _ h => h) (Or.inl ⟨by rfl, ?_⟩) (by assumption) ?_
        rotate_left
        · intro w hSw; (try dsimp only at hSw); go_simp; try with_reducible rfl
        (try simp only [Act.put, List.setIfInBounds_toArray, List.set_cons_zero, List.set_cons_succ])
        refine wpAnyH_take (i := 1) (oi := _) (v := ?_) rfl (by kernel_rfl) (by kernel_rfl) (by kernel_rfl) (fun _ _ _ h => h) (Or.inl ⟨by rfl, ?_⟩) (by assumption) ?_
        rotate_left
        · intro w hSw; (try dsimp only at hSw); go_simp; try with_reducible rfl
        (try simp only [Act.put, List.setIfInBounds_toArray, List.set_cons_zero, List.set_cons_succ])
        refine wpAnyH_take (i := 2) (oi := _) (v := ?_) rfl (by kernel_rfl) (by kernel_rfl) (by kernel_rfl) (fun _ _ _ h => h) (Or.inl ⟨by rfl, ?_⟩) (by assumption) ?_
        rotate_left
        · intro w hSw; (try dsimp only at hSw); go_simp; try with_reducible rfl
        (try simp only [Act.put, List.setIfInBounds_toArray, List.set_cons_zero, List.set_cons_succ])
        refine wpAnyH_take (i := 3) (oi := _) (v := ?_) rfl (by kernel_rfl) (by kernel_rfl) (by kernel_rfl) (fun _ _ _ h => h) (Or.inl ⟨by rfl, ?_⟩) (by assumption) ?_
        rotate_left
        · intro w hSw; (try dsimp only at hSw); go_simp; try with_reducible rfl
        (try simp only [Act.put, List.setIfInBounds_toArray, List.set_cons_zero, List.set_cons_succ])
        refine wpAnyH_take (i := 4) (oi := _) (v := ?_) rfl (by kernel_rfl) (by kernel_rfl) (by kernel_rfl) (fun _ _ _ h => h) (Or.inl ⟨by rfl, ?_⟩) (by assumption) ?_
        rotate_left
        · intro w hSw; (try dsimp only at hSw); go_simp; try with_reducible rfl
        (try simp only [Act.put, List.setIfInBounds_toArray, List.set_cons_zero, List.set_cons_succ])
        refine wpAnyH_take (i := 5) (oi := _) (v := ?_) rfl (by kernel_rfl) (by kernel_rfl) (by kernel_rfl) (fun _ _ _ h => h) (Or.inl ⟨by rfl, ?_⟩) (by assumption) ?_
        rotate_left
        · intro w hSw; (try dsimp only at hSw); go_simp; try with_reducible rfl
        (try simp only [Act.put, List.setIfInBounds_toArray, List.set_cons_zero, List.set_cons_succ])
        refine wpAnyH_take (i := 6) (oi := _) (v := ?_) rfl (by kernel_rfl) (by kernel_rfl) (by kernel_rfl) (fun _ _ _ h => h) (Or.inl ⟨by rfl, ?_⟩) (by assumption) ?_
        rotate_left
        · intro w hSw; (try dsimp only at hSw); go_simp; try with_reducible rfl
        (try simp only [Act.put, List.setIfInBounds_toArray, List.set_cons_zero, List.set_cons_succ])
        refine wpAnyH_take (i := 7) (oi := _) (v := ?_) rfl (by kernel_rfl) (by kernel_rfl) (by kernel_rfl) (fun _ _ _ h => h) (Or.inl ⟨by rfl, ?_⟩) (by assumption) ?_
        rotate_left
        · intro w hSw; (try dsimp only at hSw); go_simp; try with_reducible rfl
        (try simp only [Act.put, List.setIfInBounds_toArray, List.set_cons_zero, List.set_cons_succ])
        refine wpAnyH_take (i := 8) (oi := _) (v := ?_) rfl (by kernel_rfl) (by kernel_rfl) (by kernel_rfl) (fun _ _ _ h => h) (Or.inl ⟨by rfl, ?_⟩) (by assumption) ?_
        rotate_left
        · intro w hSw; (try dsimp only at hSw); go_simp; try with_reducible rfl
        (try simp only [Act.put, List.setIfInBounds_toArray, List.set_cons_zero, List.set_cons_succ])
        refine wpAnyH_take (i := 9) (oi := _) (v := ?_) rfl (by kernel_rfl) (by kernel_rfl) (by kernel_rfl) (fun _ _ _ h => h) (Or.inl ⟨by rfl, ?_⟩) (by assumption) ?_
        rotate_left
        · intro w hSw; (try dsimp only at hSw); go_simp; try with_reducible rfl
        (try simp only [Act.put, List.setIfInBounds_toArray, List.set_cons_zero, List.set_cons_succ])
        refine wpAnyH_take (i := 10) (oi := _) (v := ?_) rfl (by kernel_rfl) (by kernel_rfl) (by kernel_rfl) (fun _ _ _ h => h) (Or.inl ⟨by rfl, ?_⟩) (by assumption) ?_
        rotate_left
        · intro w hSw; (try dsimp only at hSw); go_simp; try with_reducible rfl
        (try simp only [Act.put, List.setIfInBounds_toArray, List.set_cons_zero, List.set_cons_succ])
        refine wpAnyH_take (i := 11) (oi := _) (v := ?_) rfl (by kernel_rfl) (by kernel_rfl) (by kernel_rfl) (fun _ _ _ h => h) (Or.inl ⟨by rfl, ?_⟩) (by assumption) ?_
        rotate_left
        · intro w hSw; (try dsimp only at hSw); go_simp; try with_reducible rfl
        (try simp only [Act.put, List.setIfInBounds_toArray, List.set_cons_zero, List.set_cons_succ])
        refine wpAnyH_take (i := 12) (oi := _) (v := ?_) rfl (by kernel_rfl) (by kernel_rfl) (by kernel_rfl) (fun _ _ _ h => h) (Or.inl ⟨by rfl, ?_⟩) (by assumption) ?_
        rotate_left
        · intro w hSw; (try dsimp only at hSw); go_simp; try with_reducible rfl
        (try simp only [Act.put, List.setIfInBounds_toArray, List.set_cons_zero, List.set_cons_succ])
        refine wpAnyH_ready (rs := [13]) (by kernel_rfl) (by simp) ?_
        refine AllReadyH.cons rfl (fun K hK => ?_) AllReadyH.nil
        go_simp
        go_wp2_with fail
        refine hK.out _ _ (SK.out _ k0) (fun hHeld => ?_)
        clear hK K
        (try dsimp only [Act.put]); (try simp only [Act.put, List.setIfInBounds_toArray, List.set_cons_zero, List.set_cons_succ])
        refine wpAnyH_ready (rs := [14]) (by kernel_rfl) (by simp) ?_
        refine AllReadyH.cons rfl (fun K hK => ?_) AllReadyH.nil
        go_simp
        go_at_call 201
        refine (hjn.out _ k0 HTr.out).mono ?_
        rintro e w3 ⟨j, rfl, hjt, hw3⟩
        obtain ⟨ju, rfl⟩ := hjt.is
        have k3 := k0.trans (Keep.ofBelow (Q := fun k => k = t) hw3)
        have B3 := HBr.out.below hw3 HBr.out.lt
        clear q2
        go_wp2_with fail
        refine hK.out _ _ (SK.out _ k3) (fun hHeld => ?_)
        clear hK K
        (try dsimp only [Act.put]); (try simp only [Act.put, List.setIfInBounds_toArray, List.set_cons_zero, List.set_cons_succ])
        have q0 : w3.cell? ⟨t, 0, none⟩ = some d0 := B3.cell 0 _ rfl
        have q1 : w3.cell? ⟨t, 1, none⟩ = some p0 := B3.cell 1 _ rfl
        have z0 := B3.free 0
        have z1 := B3.free 1
        refine wpAnyH_take (i := 15) (oi := _) (v := ?_) rfl (by kernel_rfl) (by kernel_rfl) (by kernel_rfl) (fun _ _ _ h => h) (Or.inl ⟨by rfl, ?_⟩) (by assumption) ?_
        rotate_left
        · intro w hSw; (try dsimp only at hSw); go_simp; try with_reducible rfl
        (try simp only [Act.put, List.setIfInBounds_toArray, List.set_cons_zero, List.set_cons_succ])
        refine wpAnyH_take (i := 16) (oi := _) (v := ?_) rfl (by kernel_rfl) (by kernel_rfl) (by kernel_rfl) (fun _ _ _ h => h) (Or.inl ⟨by rfl, ?_⟩) (by assumption) ?_
        rotate_left
        · intro w hSw; (try dsimp only at hSw); go_simp; try with_reducible rfl
        (try simp only [Act.put, List.setIfInBounds_toArray, List.set_cons_zero, List.set_cons_succ])
        have k4 : Keep (fun k => k = t) wr ((w3.setCell ⟨t, 0, none⟩ (.nilFunc)).setCell ⟨t, 1, none⟩ (pV q)) := (k3.set (p := ⟨t, 0, none⟩) (fun _ => rfl) _).set (p := ⟨t, 1, none⟩) (fun _ => rfl) _
        refine wpAnyH_ready (rs := [17]) (by kernel_rfl) (by simp) ?_
        refine AllReadyH.cons rfl (fun K hK => ?_) AllReadyH.nil
        go_simp
        go_wp2_with fail
        refine hK.out _ _ (SK.out _ k4) (fun hHeld => ?_)
        clear hK K
        (try dsimp only [Act.put]); (try simp only [Act.put, List.setIfInBounds_toArray, List.set_cons_zero, List.set_cons_succ])
        have B4 := (B3.set 0 (.nilFunc)).set 1 (pV q)
        have hjt4 : TreeO ((w3.setCell ⟨t, 0, none⟩ (.nilFunc)).setCell ⟨t, 1, none⟩ (pV q)) Q (.pointer ju) (g1 ++ gs) := hjt.keep (((Keep.refl (fun k => k = t) w3).set (p := ⟨t, 0, none⟩) (fun _ => rfl) _).set (p := ⟨t, 1, none⟩) (fun _ => rfl) _) (fun b hb e => HQt.out (e ▸ hb))
        clear q0 q1 z0 z1 hHeld
        generalize ((w3.setCell ⟨t, 0, none⟩ (.nilFunc)).setCell ⟨t, 1, none⟩ (pV q)) = w4 at *
        have hHeld := SK.out _ k4
        have q2 : w4.cell? ⟨t, 2, none⟩ = some (.pointer ru) := B4.cell 2 _ rfl
        have z2 := B4.free 2
        have k5 : Keep (fun k => k = t) wr (w4.setCell ⟨t, 2, none⟩ (.pointer ju)) := k4.set (p := ⟨t, 2, none⟩) (fun _ => rfl) _
        refine wpAnyH_take (i := 18) (oi := _) (v := ?_) rfl (by kernel_rfl) (by kernel_rfl) (by kernel_rfl) (fun _ _ _ h => h) (Or.inl ⟨by rfl, ?_⟩) (by assumption) ?_
        rotate_left
        · intro w hSw; (try dsimp only at hSw); go_simp; try with_reducible rfl
        (try simp only [Act.put, List.setIfInBounds_toArray, List.set_cons_zero, List.set_cons_succ])
        refine wpAnyH_take (i := 19) (oi := _) (v := ?_) rfl (by kernel_rfl) (by kernel_rfl) (by kernel_rfl) (fun _ _ _ h => h) (Or.inl ⟨by rfl, ?_⟩) (by assumption) ?_
        rotate_left
        · intro w hSw; (try dsimp only at hSw); go_simp; try with_reducible rfl
        (try simp only [Act.put, List.setIfInBounds_toArray, List.set_cons_zero, List.set_cons_succ])
        refine wpAnyH_ready (rs := [20]) (by kernel_rfl) (by simp) ?_
        refine AllReadyH.cons rfl (fun K hK => ?_) AllReadyH.nil
        go_simp
        go_wp2_with fail
        refine hK.out _ _ (SK.out _ k5) (fun hHeld => ?_)
        clear hK K
        (try dsimp only [Act.put]); (try simp only [Act.put, List.setIfInBounds_toArray, List.set_cons_zero, List.set_cons_succ])
        refine wpAnyH_done (by kernel_rfl) ?_ _
        have bW := B4.set 2 (.pointer ju)
        have k6 : Keep (fun k => k = t) w4 (w4.setCell ⟨t, 2, none⟩ (.pointer ju)) := (Keep.refl (fun k => k = t) w4).set (p := ⟨t, 2, none⟩) (fun _ => rfl) _
        go_end0
        refine ⟨rfl, hK.trans k5, some ⟨k1, 0, none⟩, gs, JK.out _ _ _ _ hsz Hj.out k5, .inr ⟨k1, _, _, _, g1, _, rfl, hjl.out _ k5, HT1.out.keep k5 (fun b hb e => HQt.out (e ▸ hb)), hjt4.keep k6 (fun b hb e => HQt.out (e ▸ hb)), bW⟩⟩
theorem goon_gen (t : Nat) (n : Option Addr) (d0 p0 r0 : Value) (v0 : Int) (fs : List Nat) (Q : Nat → Prop) (J : World → Option Addr → List Nat → Prop) (w : World)
    (ht : Blk w t 161 #[d0, p0, r0, .int .i64 v0]) (hr : TreeO w Q r0 fs) (hQ : ∀ k, w.heap.size ≤ k → Q k) (hQt : ¬ Q t) (hJ : J w n fs)
    (jk : ∀ a b n fs, w.heap.size ≤ a.heap.size → J a n fs → Keep (fun k => k = t) a b → J b n fs)
    (jv : ∀ a n fs, J a n fs → n ≠ some ⟨t, 0, none⟩ ∧ ((∃ v, DoneV a n v) ∨ ∃ k d p r gs, n = some ⟨k, 0, none⟩ ∧ Live a k d p r ∧ TreeO a Q r gs))
    (jn : ∀ a n f fs v, w.heap.size ≤ a.heap.size → J a n (f :: fs) → DoneV a n v → Calls Tryz.prog 221 #[.int .i64 v, pV f] a fun e b => ∃ k, e = .returned (pV k) ∧ J b (some ⟨k, 0, none⟩) fs ∧ Below a.heap.size a b) :
    Calls Tryz.prog 119 #[pV t, .pointer n] w fun e w' => e = .returned (.tuple #[]) ∧ Keep (fun k => k = t) w w' ∧ ∃ n fs, J w' n fs ∧
      ((fs = [] ∧ ∃ v, DoneV w' n v ∧ Blk w' t 161 #[.nilFunc, .pointer none, .pointer none, .int .i64 v]) ∨
       ∃ k d p r gs j, n = some ⟨k, 0, none⟩ ∧ Live w' k d p r ∧ TreeO w' Q r gs ∧ TreeO w' Q j (gs ++ fs) ∧ Blk w' t 161 #[d, p, j, .int .i64 v0]) :=
  goon_ptr t n d0 p0 r0 v0 fs Q J w ht hr hQ hQt hJ jk jv fun a n f fs v h1 h2 h3 => (jn a n f fs v h1 h2 h3).mono (by rintro e b ⟨k, rfl, h4⟩; exact ⟨_, rfl, h4⟩)
end Go.Proofs.YtldofbkjjmnooaaGreat
/- What tasks of items are, as plain lists and numbers (layer 6). No program is named here. -/
namespace Go.Proofs.YtldofbkjjmnooaaGreat
open Go.ChangeShapes Go.WideShapes Go.ChangeAt Go.RowKit
set_option linter.unusedVariables false
/-- an item: 0 to 7: Load, Store, Swap, Add, Spin, Park, Timed, Ready -/
structure Itm where
  kind : Nat
  at' : Nat
  a : Int
  b : Int
/-- items as laws draw them -/
structure Itm.ok (x : Itm) : Prop where
  kind : x.kind < 8
  at' : x.at' ≤ 9223372036854775807
  park : x.kind = 5 ∨ x.kind = 6 → x.at' < 3
  a : 0 ≤ x.a ∧ x.a ≤ 18446744073709551615
  b : 0 ≤ x.b ∧ x.b ≤ 18446744073709551615
  ready : x.kind = 7 → x.a ≤ 9223372036854775807
/-- past values -/
def onS : List Itm → Int → List Itm × Int
  | [], v => ([], v)
  | x :: r, v => if x.kind = 7 then onS r x.a else (x :: r, v)
theorem onS_nil (v : Int) : onS [] v = ([], v) := rfl
theorem onS_ready {x : Itm} (h : x.kind = 7) (r : List Itm) (v : Int) : onS (x :: r) v = onS r x.a := by simp [onS, h]
theorem onS_other {x : Itm} (h : x.kind ≠ 7) (r : List Itm) (v : Int) : onS (x :: r) v = (x :: r, v) := by simp [onS, h]
/-- the head of what is left needs a step -/
def Fresh (r : List Itm) : Prop := ∀ x ∈ r.head?, x.kind ≠ 7
theorem onS_fresh : ∀ (r : List Itm) (v : Int), Fresh (onS r v).1
  | [], v => by simp [onS, Fresh]
  | x :: r, v => by
    by_cases h : x.kind = 7
    · rw [onS_ready h]; exact onS_fresh r x.a
    · rw [onS_other h]; simpa [Fresh] using h
theorem onS_same {r : List Itm} (h : Fresh r) (v : Int) : onS r v = (r, v) := by
  cases r with
  | nil => rfl
  | cons x r => exact onS_other (h x (by simp)) r v
theorem onS_suffix : ∀ (r : List Itm) (v : Int), (onS r v).1 <:+ r
  | [], v => List.suffix_refl _
  | x :: r, v => by
    by_cases h : x.kind = 7
    · rw [onS_ready h]; exact (onS_suffix r x.a).trans (List.suffix_cons x r)
    · rw [onS_other h]; exact List.suffix_refl _
/-- the operation of an item on cells: the cells behind it, its value, whether it is over, whether it counts -/
def operS (m : List Int) (x : Itm) : List Int × Int × Bool :=
  match m[x.at']? with
  | none => (m, 0, x.kind != 4)
  | some c =>
    if x.kind = 1 then (m.set x.at' x.a, 1, true)
    else if x.kind = 2 ∨ x.kind = 4 then (if c = x.a then (m.set x.at' x.b, 1, true) else (m, 0, x.kind == 2))
    else if x.kind = 3 then (m.set x.at' (IntKind.u64.wrap (c + x.a)), wrap64 (IntKind.u64.wrap (c + x.a)), true)
    else (m, wrap64 c, true)
def countS (m : List Int) (x : Itm) : Int := if x.at' < m.length then 1 else 0
def parkedS (r : List Itm) : Bool := match r with | [] => false | x :: _ => x.kind == 5 || x.kind == 6
/-- would a step of this kind be done? -/
def canS (ps : List Bool) (r : List Itm) (k : Int) : Bool :=
  match r with
  | [] => false
  | x :: _ =>
    if x.kind = 5 ∨ x.kind = 6 then
      (if k = 0 then ps.getD x.at' false else if k = 1 then x.kind == 6 else k == 2)
    else k == 0
theorem operS_size (m : List Int) (x : Itm) : (operS m x).1.length = m.length := by
  unfold operS
  split
  · rfl
  · repeat' split
    all_goals simp
/-- a step that may be done: cells, permits, what is left, the value -/
def stepS (m : List Int) (ps : List Bool) (r : List Itm) (v k : Int) : List Int × List Bool × List Itm × Int :=
  match r with
  | [] => (m, ps, [], v)
  | x :: r =>
    if x.kind = 5 ∨ x.kind = 6 then
      (m, (if k = 0 then ps.set x.at' false else ps), onS r k)
    else
      let o := operS m x
      if o.2.2 then (o.1, ps, onS r o.2.1) else (o.1, ps, x :: r, v)
/-- how many operations a step counts -/
def stepCount (m : List Int) (r : List Itm) : Int := match r with
  | [] => 0
  | x :: _ => if x.kind = 5 ∨ x.kind = 6 then 0 else countS m x
/-- a run without parkings: the cells and the value behind it -/
def runS : List Int → List Itm → Int → List Int × Int
  | m, [], v => (m, v)
  | m, x :: r, v => if x.kind = 7 then runS m r x.a else runS (operS m x).1 r (operS m x).2.1
/-- how many operations there are -/
def opsS (r : List Itm) : Nat := (r.filter fun x => x.kind != 7).length
/-- neither parks nor spins, and its cell is there -/
def Plain6 (x : Itm) : Prop := x.kind ≠ 4 ∧ x.kind ≠ 5 ∧ x.kind ≠ 6 ∧ x.at' < 4
theorem runS_on : ∀ (r : List Itm) (m : List Int) (v : Int), runS m (onS r v).1 (onS r v).2 = runS m r v ∧ opsS (onS r v).1 = opsS r
  | [], m, v => ⟨rfl, rfl⟩
  | x :: r, m, v => by
    by_cases h : x.kind = 7
    · rw [onS_ready h]
      have := runS_on r m x.a
      exact ⟨by rw [this.1]; simp [runS, h], by rw [this.2]; simp [opsS, h]⟩
    · rw [onS_other h]
      exact ⟨rfl, rfl⟩
theorem operS_over {m : List Int} {x : Itm} (h : Plain6 x) (hm : m.length = 4) : (operS m x).2.2 = true := by
  obtain ⟨h4, h5, h6, ha⟩ := h
  have hx : m[x.at']? = some (m[x.at']'(by omega)) := by simp
  unfold operS
  rw [hx]
  dsimp only
  split
  · rfl
  · split
    · split
      · rfl
      · have : x.kind = 2 := by omega
        simp [this]
    · split <;> rfl
/-- a step of such a task -/
theorem stepS_plain {m : List Int} {ps : List Bool} {x : Itm} {r : List Itm} {v : Int} (h : Plain6 x) (hm : m.length = 4) (h7 : x.kind ≠ 7) :
    canS ps (x :: r) 0 = true ∧ parkedS (x :: r) = false ∧ stepS m ps (x :: r) v 0 = ((operS m x).1, ps, onS r (operS m x).2.1) ∧ stepCount m (x :: r) = 1 ∧ runS m (x :: r) v = runS (operS m x).1 r (operS m x).2.1 ∧ opsS (x :: r) = opsS r + 1 := by
  have ho := operS_over h hm
  obtain ⟨h4, h5, h6, ha⟩ := h
  refine ⟨by simp [canS, h5, h6], by simp [parkedS, h5, h6], by simp [stepS, h5, h6, ho], by simp [stepCount, h5, h6, countS]; omega, by simp [runS, h7], by simp [opsS, h7]⟩
/-- the value that is told -/
def valueS (r : List Itm) (v : Int) : Int := if r.isEmpty then v else 0
end Go.Proofs.YtldofbkjjmnooaaGreat
/- Contracts of package permit, for one goroutine alone: what permits are in memory; of, Len, Has. -/
namespace Go.Proofs.YtldofbkjjmnooaaGreat
open Go.ChangeShapes Go.WideShapes Go.ChangeAt Go.RowKit
set_option linter.unusedVariables false
set_option maxRecDepth 100000
set_option linter.unusedSimpArgs false
/-- the value of a permit -/
abbrev tokV : Value := .agg #[]
/-- channel c holds a permit, or none -/
def ChanAt (w : World) (c : Nat) (b : Bool) : Prop := ∃ s r, w.heap[c]? = some (.chan 1 (if b then #[tokV] else #[]) false s r false)
def chansV (cs : List Nat) : Array Value := (cs.map fun c => Value.chan (some c)).toArray
theorem chansV_at {cs : List Nat} {i c : Nat} (h : cs[i]? = some c) : (chansV cs)[i]? = some (.chan (some c)) := by simp [chansV, h]
theorem chansV_size (cs : List Nat) : (chansV cs).size = cs.length := by simp [chansV]
/-- permits: their own block, their row, a channel for each -/
structure PermitsAt (w : World) (P S : Nat) (cs : List Nat) (l : List Bool) : Prop where
  own : Blk w P 185 #[.slice (some ⟨S, 0, none⟩) l.length l.length]
  row : Blk w S 201 (chansV cs)
  len : cs.length = l.length
  chan : ∀ (i : Nat) (c : Nat) (b : Bool), cs[i]? = some c → l[i]? = some b → ChanAt w c b
  once : cs.Nodup
  few : l.length ≤ 32766
abbrev permitsV (P : Nat) : Value := .pointer (some ⟨P, 0, none⟩)
theorem ChanAt.keep {w w1 : World} {c : Nat} {b : Bool} {Q : Nat → Prop} (h : ChanAt w c b) (hk : Keep Q w w1) (hn : ¬ Q c) : ChanAt w1 c b := by
  obtain ⟨s, r, h⟩ := h
  exact ⟨s, r, (hk.block c (Array.getElem?_eq_some_iff.1 h).1 hn).trans h⟩
theorem PermitsAt.keep {w w1 : World} {P S : Nat} {cs : List Nat} {l : List Bool} {Q : Nat → Prop} (h : PermitsAt w P S cs l) (hk : Keep Q w w1) (h1 : ¬ Q P) (h2 : ¬ Q S) (h3 : ∀ c ∈ cs, ¬ Q c) : PermitsAt w1 P S cs l :=
  ⟨h.own.keep hk h1, h.row.keep hk h2, h.len, fun i c b hc hb => (h.chan i c b hc hb).keep hk (h3 c (List.mem_of_getElem? hc)), h.once, h.few⟩
theorem PermitsAt.below {w w1 : World} {P S : Nat} {cs : List Nat} {l : List Bool} (h : PermitsAt w P S cs l) (hk : Below w.heap.size w w1) : PermitsAt w1 P S cs l :=
  h.keep (Keep.ofBelow (Q := fun _ => False) hk) (fun h => h) (fun h => h) (fun _ _ h => h)
/-- the channel of thread i turns -/
theorem PermitsAt.setChan {w : World} {P S : Nat} {cs : List Nat} {l : List Bool} (h : PermitsAt w P S cs l) {i c : Nat} (hc : cs[i]? = some c) (b : Bool) (s r : Nat) :
    PermitsAt (w.setChan c 1 (if b then #[tokV] else #[]) false s r false) P S cs (l.set i b) ∧ Keep (fun k => k ∈ cs) w (w.setChan c 1 (if b then #[tokV] else #[]) false s r false) := by
  have hi : i < cs.length := (List.getElem?_eq_some_iff.1 hc).1
  have hl := h.len
  have hlt : c < w.heap.size := by
    obtain ⟨s0, r0, hx⟩ := h.chan i c (l[i]'(by omega)) hc (by simp)
    exact (Array.getElem?_eq_some_iff.1 hx).1
  have hother : ∀ k, k ≠ c → (w.setChan c 1 (if b then #[tokV] else #[]) false s r false).heap[k]? = w.heap[k]? := fun k hk => by
    simp only [World.setChan]; rw [Array.getElem?_setIfInBounds_ne (by omega)]
  have hself := Go.Conc.heap_setChan w c 1 (if b then #[tokV] else #[]) false s r false hlt
  have hcell : ∀ B t xs, Blk w B t xs → B ≠ c := by
    rintro B t xs hB rfl
    obtain ⟨s0, r0, hx⟩ := h.chan i B (l[i]'(by omega)) hc (by simp)
    rw [show w.heap[B]? = _ from hB] at hx
    cases hx
  refine ⟨⟨?_, ?_, by simp [hl], fun i' c' b' hc' hb' => ?_, h.once, by simpa using h.few⟩, ⟨rfl, rfl, rfl, by simp [World.setChan], fun k _ hk => hother k (fun e => hk (e ▸ List.mem_of_getElem? hc))⟩⟩
  · show (w.setChan c 1 (if b then #[tokV] else #[]) false s r false).heap[P]? = _
    rw [hother P (hcell _ _ _ h.own), List.length_set]
    exact h.own
  · show (w.setChan c 1 (if b then #[tokV] else #[]) false s r false).heap[S]? = _
    rw [hother S (hcell _ _ _ h.row)]
    exact h.row
  · by_cases e : i' = i
    · subst e
      rw [hc] at hc'
      cases hc'
      have : b' = b := by
        rw [List.getElem?_set_self (by omega)] at hb'
        exact (Option.some.inj hb').symm
      subst this
      exact ⟨s, r, hself⟩
    · have hne : c' ≠ c := fun ec => by
        subst ec
        exact e ((List.getElem?_inj (List.getElem?_eq_some_iff.1 hc').1 h.once).1 (hc'.trans hc.symm))
      obtain ⟨s0, r0, hx⟩ := h.chan i' c' b' hc' (by rwa [List.getElem?_set_ne (by omega)] at hb')
      exact ⟨s0, r0, (hother c' hne).trans hx⟩
theorem plen_any (P S : Nat) (cs : List Nat) (l : List Bool) (w : World) (hP : PermitsAt w P S cs l) :
    Calls Tryz.prog 45 #[permitsV P] w fun e w' => e = .returned (.int .i64 l.length) ∧ w = w' := by
  have hc := hP.own.cell 0 _ rfl
  clear hP
  generalize l.length = n at *
  go_enter Tryz.func45, Tryz.ntmps45
  go_wp2
  go_ret
  exact ⟨rfl, rfl⟩
theorem plen_nil (w : World) : Calls Tryz.prog 45 #[.pointer none] w fun e w' => e = .returned (.int .i64 0) ∧ w = w' := by
  go_enter Tryz.func45, Tryz.ntmps45
  go_wp2
  go_ret
  exact ⟨rfl, rfl⟩
theorem of_nil (t : Int) (w : World) : Calls Tryz.prog 145 #[.pointer none, .int .i64 t] w fun e w' => e = .returned (.chan none) ∧ w = w' := by
  go_enter Tryz.func145, Tryz.ntmps145
  go_wp2_with (go_at_call 45; (with_reducible refine (plen_nil _).mono ?_); rintro e w1 ⟨rfl, rfl⟩)
  all_goals (go_ret; exact ⟨rfl, rfl⟩)
theorem pof_no (P S : Nat) (cs : List Nat) (l : List Bool) (t : Int) (w : World) (hP : PermitsAt w P S cs l) (ht : t < 0 ∨ (l.length : Int) ≤ t) :
    Calls Tryz.prog 145 #[permitsV P, .int .i64 t] w fun e w' => e = .returned (.chan none) ∧ w = w' := by
  have hl := plen_any P S cs l
  generalize l.length = n at *
  go_enter Tryz.func145, Tryz.ntmps145
  go_wp2_with (go_at_call 45; (with_reducible refine (hl _ hP).mono ?_); rintro e w1 ⟨rfl, rfl⟩)
  all_goals (go_ret; exact ⟨rfl, rfl⟩)
theorem of_any (P S : Nat) (cs : List Nat) (l : List Bool) (t c : Nat) (w : World) (hP : PermitsAt w P S cs l) (hc : cs[t]? = some c) :
    Calls Tryz.prog 145 #[permitsV P, .int .i64 t] w fun e w' => e = .returned (.chan (some c)) ∧ w = w' := by
  have hl := plen_any P S cs l w hP
  have ht : t < l.length := by rw [← hP.len]; exact (List.getElem?_eq_some_iff.1 hc).1
  have h0 := hP.own.cell 0 _ rfl
  have h1 := hP.row.cell t _ (chansV_at hc)
  have hf := hP.few
  clear hP hc
  generalize l.length = n at *
  go_enter Tryz.func145, Tryz.ntmps145
  go_wp2_with (go_at_call 45; (with_reducible refine hl.mono ?_); rintro e w1 ⟨rfl, rfl⟩)
  all_goals (go_ret; exact ⟨rfl, rfl⟩)
theorem run_len_chan_none {P : Program} {t u : TypeId} {d : ChanDir} {e : TypeId} (h : P.underlying t = some (.chan d e)) (w : World) :
    (Builtin.len_ #[t] u #[.chan none]).run P w = .ok (goInt 0) w := by
  simp [Builtin.len_, run_underlying h]
theorem run_len_chan {P : Program} {t u : TypeId} {d : ChanDir} {e : TypeId} (h : P.underlying t = some (.chan d e)) (w : World) {c cap s r : Nat} {buf : Array Value} {cl : Bool} (hc : w.heap[c]? = some (.chan cap buf cl s r false)) :
    (Builtin.len_ #[t] u #[.chan (some c)]).run P w = .ok (goInt buf.size) w := by
  have hg : Sem.run P (Sem.getObj c Sem.pure) w = .ok (.chan cap buf cl s r false) w := by simp [Sem.run, hc]
  simp only [Builtin.len_, run_underlying h]
  simp [run_underlying h, getObj, hg]
theorem has_any (P S : Nat) (cs : List Nat) (l : List Bool) (t : Nat) (b : Bool) (w : World) (hP : PermitsAt w P S cs l) (hb : l[t]? = some b) :
    Calls Tryz.prog 61 #[permitsV P, .int .i64 t] w fun e w' => e = .returned (.bool b) ∧ w = w' := by
  have ht : t < cs.length := by rw [hP.len]; exact (List.getElem?_eq_some_iff.1 hb).1
  obtain ⟨c, hc⟩ : ∃ c, cs[t]? = some c := ⟨cs[t], by simp [ht]⟩
  have ho := of_any P S cs l t c w hP hc
  obtain ⟨s, r, hch⟩ := hP.chan t c b hc hb
  clear hP hc ht hb
  have hn := fun u => run_len_chan (P := Tryz.prog) (t := 201) (u := u) Tryz.underlying201 w hch
  cases b
  all_goals
    go_enter Tryz.func61, Tryz.ntmps61
    go_wp2_with (go_at_call 145; (with_reducible refine ho.mono ?_); rintro e w1 ⟨rfl, rfl⟩)
    go_ret
    exact ⟨rfl, rfl⟩
theorem has_no (P S : Nat) (cs : List Nat) (l : List Bool) (t : Int) (w : World) (hP : PermitsAt w P S cs l) (ht : t < 0 ∨ (l.length : Int) ≤ t) :
    Calls Tryz.prog 61 #[permitsV P, .int .i64 t] w fun e w' => e = .returned (.bool false) ∧ w = w' := by
  have ho := pof_no P S cs l t w hP ht
  have hn := fun u => run_len_chan_none (P := Tryz.prog) (t := 201) (u := u) Tryz.underlying201 w
  clear hP ht
  go_enter Tryz.func61, Tryz.ntmps61
  go_wp2_with (go_at_call 145; (with_reducible refine ho.mono ?_); rintro e w1 ⟨rfl, rfl⟩)
  go_ret
  exact ⟨rfl, rfl⟩
theorem has_nil (t : Int) (w : World) : Calls Tryz.prog 61 #[.pointer none, .int .i64 t] w fun e w' => e = .returned (.bool false) ∧ w = w' := by
  have ho := of_nil t w
  have hn := fun u => run_len_chan_none (P := Tryz.prog) (t := 201) (u := u) Tryz.underlying201 w
  go_enter Tryz.func61, Tryz.ntmps61
  go_wp2_with (go_at_call 145; (with_reducible refine ho.mono ?_); rintro e w1 ⟨rfl, rfl⟩)
  go_ret
  exact ⟨rfl, rfl⟩
end Go.Proofs.YtldofbkjjmnooaaGreat
