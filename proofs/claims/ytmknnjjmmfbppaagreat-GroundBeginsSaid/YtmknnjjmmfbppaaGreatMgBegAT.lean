/- Package task: its small functions. -/
import Derived.Test.YtmknnjjmmfbppaaGreatProg
import Derived.Test.YtmknnjjmmfbppaaGreatMgBegAA
import Derived.Defers
import Derived.Recover
import Derived.Laws.LoneSync
import Derived.Laws.EntriesVeiled
import Derived.Lib.Hide
import Derived.Deep.LoopGhost
namespace Go.Proofs.YtmknnjjmmfbppaaGreat
open Go.ChangeShapes Go.WideShapes Go.ChangeAt Go.RowKit
set_option linter.unusedVariables false
set_option maxRecDepth 100000
set_option linter.unusedSimpArgs false
abbrev pV (T : Nat) : Value := .pointer (some ⟨T, 0, none⟩)
abbrev cloV (F : Nat) (caps : Array Value) : Value := .func (.func F) #[] caps
theorem ready_any (v : Int) (w : World) :
    Calls Tryz.prog 88 #[.int .i64 v] w fun e w' => ∃ t, e = .returned (pV t) ∧ w.heap.size ≤ t ∧ Blk w' t 134 #[.nilFunc, .pointer none, .pointer none, .int .i64 v] ∧ Below w.heap.size w w' := by
  go_enter Tryz.func88, Tryz.ntmps88
  go_wp2
  go_ret
  exact ⟨w.heap.size, rfl, Nat.le_refl _, Blk.new w _ _, by go_grown⟩
theorem done_nil (w : World) : Calls Tryz.prog 38 #[.pointer none] w fun e w' => e = .returned (.bool true) ∧ w = w' := by
  go_enter Tryz.func38, Tryz.ntmps38
  go_wp2
  go_ret
  exact ⟨rfl, rfl⟩
theorem done_yes (t : Nat) (rest val : Value) (w : World) (h : Blk w t 134 #[.nilFunc, .pointer none, rest, val]) : Calls Tryz.prog 38 #[pV t] w fun e w' => e = .returned (.bool true) ∧ w = w' := by
  have h0 : w.cell? ⟨t, 0, none⟩ = some .nilFunc := h.cell 0 _ rfl
  have h1 : w.cell? ⟨t, 1, none⟩ = some (.pointer none) := h.cell 1 _ rfl
  have hq : ∀ W : World, (binOp .eql 52 .nilFunc .nilFunc).run Tryz.prog W = .ok (.bool true) W := by intro W; kernel_rfl
  clear h
  go_enter Tryz.func38, Tryz.ntmps38
  go_wp2
  refine bodyPost_ret (v := .bool true) (by simp [results, Tryz.results38, go_sem]) rfl ?_
  exact ⟨rfl, rfl⟩
theorem done_op (t F : Nat) (caps : Array Value) (park rest val : Value) (w : World) (h : Blk w t 134 #[cloV F caps, park, rest, val]) : Calls Tryz.prog 38 #[pV t] w fun e w' => e = .returned (.bool false) ∧ w = w' := by
  have h0 : w.cell? ⟨t, 0, none⟩ = some (cloV F caps) := h.cell 0 _ rfl
  have hq : ∀ W : World, (binOp .eql 52 (cloV F caps) .nilFunc).run Tryz.prog W = .ok (.bool false) W := by intro W; kernel_rfl
  clear h
  go_enter Tryz.func38, Tryz.ntmps38
  go_wp2
  go_ret
  exact ⟨rfl, rfl⟩
theorem done_park (t p : Nat) (rest val : Value) (w : World) (h : Blk w t 134 #[.nilFunc, pV p, rest, val]) : Calls Tryz.prog 38 #[pV t] w fun e w' => e = .returned (.bool false) ∧ w = w' := by
  have h0 : w.cell? ⟨t, 0, none⟩ = some .nilFunc := h.cell 0 _ rfl
  have h1 : w.cell? ⟨t, 1, none⟩ = some (pV p) := h.cell 1 _ rfl
  have hq : ∀ W : World, (binOp .eql 52 .nilFunc .nilFunc).run Tryz.prog W = .ok (.bool true) W := by intro W; kernel_rfl
  clear h
  go_enter Tryz.func38, Tryz.ntmps38
  go_wp2
  go_ret
  exact ⟨rfl, rfl⟩
theorem value_nil (w : World) : Calls Tryz.prog 25 #[.pointer none] w fun e w' => e = .returned (.int .i64 0) ∧ w = w' := by
  go_enter Tryz.func25, Tryz.ntmps25
  go_wp2
  go_ret
  exact ⟨rfl, rfl⟩
theorem value_any (t : Nat) (f p r : Value) (v : Int) (w : World) (h : Blk w t 134 #[f, p, r, .int .i64 v]) : Calls Tryz.prog 25 #[pV t] w fun e w' => e = .returned (.int .i64 v) ∧ w = w' := by
  have h0 := h.cell 3 _ rfl
  clear h
  go_enter Tryz.func25, Tryz.ntmps25
  go_wp2
  go_ret
  exact ⟨rfl, rfl⟩
theorem parked_nil (w : World) : Calls Tryz.prog 39 #[.pointer none] w fun e w' => e = .returned (.bool false) ∧ w = w' := by
  go_enter Tryz.func39, Tryz.ntmps39
  go_wp2
  go_ret
  exact ⟨rfl, rfl⟩
theorem parked_no (t : Nat) (f r v : Value) (w : World) (h : Blk w t 134 #[f, .pointer none, r, v]) : Calls Tryz.prog 39 #[pV t] w fun e w' => e = .returned (.bool false) ∧ w = w' := by
  have h0 := h.cell 1 _ rfl
  clear h
  go_enter Tryz.func39, Tryz.ntmps39
  go_wp2
  go_ret
  exact ⟨rfl, rfl⟩
theorem parked_yes (t p : Nat) (f r v : Value) (w : World) (h : Blk w t 134 #[f, pV p, r, v]) : Calls Tryz.prog 39 #[pV t] w fun e w' => e = .returned (.bool true) ∧ w = w' := by
  have h0 := h.cell 1 _ rfl
  clear h
  go_enter Tryz.func39, Tryz.ntmps39
  go_wp2
  go_ret
  exact ⟨rfl, rfl⟩
theorem truth_any (b : Bool) (w : World) : Calls Tryz.prog 254 #[.bool b] w fun e w' => e = .returned (.int .i64 (if b then 1 else 0)) ∧ w = w' := by
  cases b
  · go_enter Tryz.func254, Tryz.ntmps254
    go_wp2
    go_ret
    exact ⟨rfl, rfl⟩
  · go_enter Tryz.func254, Tryz.ntmps254
    go_wp2
    go_ret
    exact ⟨rfl, rfl⟩
/- lists of continuations -/
theorem only_any (F : Nat) (caps : Array Value) (w : World) :
    Calls Tryz.prog 134 #[cloV F caps] w fun e w' => ∃ p, e = .returned (pV p) ∧ w.heap.size ≤ p ∧ Blk w' p 249 #[.pointer none, .pointer none, cloV F caps] ∧ Below w.heap.size w w' := by
  go_enter Tryz.func134, Tryz.ntmps134
  go_wp2
  go_ret
  exact ⟨w.heap.size, rfl, Nat.le_refl _, Blk.new w _ _, by go_grown⟩
theorem join_left (b : Value) (w : World) (hb : b = .pointer none ∨ ∃ p, b = pV p) : Calls Tryz.prog 161 #[.pointer none, b] w fun e w' => e = .returned b ∧ w = w' := by
  rcases hb with rfl | ⟨p, rfl⟩ <;>
  · go_enter Tryz.func161, Tryz.ntmps161
    go_wp2
    go_ret
    exact ⟨rfl, rfl⟩
theorem join_right (a : Nat) (w : World) : Calls Tryz.prog 161 #[pV a, .pointer none] w fun e w' => e = .returned (pV a) ∧ w = w' := by
  go_enter Tryz.func161, Tryz.ntmps161
  go_wp2
  go_ret
  exact ⟨rfl, rfl⟩
theorem join_both (a b : Nat) (w : World) : Calls Tryz.prog 161 #[pV a, pV b] w fun e w' => ∃ p, e = .returned (pV p) ∧ w.heap.size ≤ p ∧ Blk w' p 249 #[pV a, pV b, .nilFunc] ∧ Below w.heap.size w w' := by
  go_enter Tryz.func161, Tryz.ntmps161
  go_wp2
  go_ret
  exact ⟨w.heap.size, rfl, Nat.le_refl _, Blk.new w _ _, by go_grown⟩
/- calls that recover -/
theorem catchT_idle (w : World) : CallsD Tryz.prog 195 #[] .returning w fun e u' w' => e = .returned (.tuple #[]) ∧ u' = .returning ∧ w' = w := by
  refine callsD_of_wpS Tryz.func195 rfl fun c₀ cs hu => ?_
  apply wpS_region
  simp [wpOpsS, go_sem, recoverD, hu, Tryz.ntmps195, Exit.thenS, bodyPostS, results, Tryz.results195]
  cases c₀
  simp_all
theorem catchI_idle (w : World) : CallsD Tryz.prog 295 #[] .returning w fun e u' w' => e = .returned (.tuple #[]) ∧ u' = .returning ∧ w' = w := by
  refine callsD_of_wpS Tryz.func295 rfl fun c₀ cs hu => ?_
  apply wpS_region
  simp [wpOpsS, go_sem, recoverD, hu, Tryz.ntmps295, Exit.thenS, bodyPostS, results, Tryz.results295]
  cases c₀
  simp_all
theorem answerI_any (F : Nat) (caps : Array Value) (w : World) (R : Int → World → Prop)
    (hcall : ∀ (W : World) (args : Array Value), (callFunc F args).run Tryz.prog W = .ok (.enter F args) W)
    (h : Calls Tryz.prog F caps w fun e w' => ∃ v, e = .returned (.int .i64 v) ∧ R v w') :
    Calls Tryz.prog 281 #[cloV F caps] w fun e w' => ∃ v, e = .returned (.int .i64 v) ∧ R v w' := by
  have HH := Lib.hid h
  clear h
  go_enter_defers Tryz.func281, Tryz.ntmps281
  go_wp2_with fail
  refine HH.out.mono ?_
  rintro e w1 ⟨v, rfl, hp⟩
  go_wp2_with fail
  refine leaves_cons (f := 295) (args := #[]) (by simp) (by simp [go_sem]) ?_
  refine (catchI_idle _).mono ?_
  rintro e u' w'' ⟨rfl, rfl, rfl⟩
  simp [Leaves, settle, results, Tryz.results281, go_sem]
  exact hp
theorem answerT_any (F : Nat) (caps : Array Value) (w : World) (R : Nat → World → Prop)
    (hcall : ∀ (W : World) (args : Array Value), (callFunc F args).run Tryz.prog W = .ok (.enter F args) W)
    (h : Calls Tryz.prog F caps w fun e w' => ∃ t, e = .returned (pV t) ∧ R t w') :
    Calls Tryz.prog 132 #[cloV F caps] w fun e w' => ∃ t, e = .returned (pV t) ∧ R t w' := by
  have HH := Lib.hid h
  clear h
  go_enter_defers Tryz.func132, Tryz.ntmps132
  go_wp2_with fail
  refine HH.out.mono ?_
  rintro e w1 ⟨v, rfl, hp⟩
  go_wp2_with fail
  refine leaves_cons (f := 195) (args := #[]) (by simp) (by simp [go_sem]) ?_
  refine (catchT_idle _).mono ?_
  rintro e u' w'' ⟨rfl, rfl, rfl⟩
  simp [Leaves, settle, results, Tryz.results132, go_sem]
  exact hp
/- a task of one operation, and one that is parked -/
theorem one_any (F : Nat) (caps : Array Value) (w : World) :
    Calls Tryz.prog 238 #[cloV F caps] w fun e w' => ∃ t b, e = .returned (pV t) ∧ w.heap.size ≤ t ∧ w.heap.size ≤ b ∧ Blk w' b 52 #[cloV F caps] ∧ Blk w' t 134 #[cloV 280 #[pV b], .pointer none, .pointer none, .int .i64 0] ∧ Below w.heap.size w w' := by
  have hmf : ∀ (fn : Fn) (first cap : Array Value) (w : World), (Instr.makeFunc fn first cap).run Tryz.prog w = .ok (.func fn first cap) w := fun _ _ _ _ => rfl
  go_enter Tryz.func238, Tryz.ntmps238
  go_wp2
  go_ret
  refine ⟨w.heap.size + 1, w.heap.size, ?_, by omega, by omega, (Blk.new w _ _).alloc _, ?_, by go_grown⟩
  · simp [pV]
  · exact blk_two w _ _ _
theorem park_any (p : Nat) (i : Int) (b : Bool) (w : World) :
    Calls Tryz.prog 140 #[pV p, .int .i64 i, .bool b] w fun e w' => ∃ t k, e = .returned (pV t) ∧ w.heap.size ≤ t ∧ w.heap.size ≤ k ∧ Blk w' k 255 #[pV p, .int .i64 i, .bool b] ∧ Blk w' t 134 #[.nilFunc, pV k, .pointer none, .int .i64 0] ∧ Below w.heap.size w w' := by
  go_enter Tryz.func140, Tryz.ntmps140
  go_wp2
  go_ret
  refine ⟨w.heap.size + 1, w.heap.size, ?_, by omega, by omega, (Blk.new w _ _).alloc _, ?_, by go_grown⟩
  · simp [pV]
  · exact blk_two w _ _ _
end Go.Proofs.YtmknnjjmmfbppaaGreat
/- Package task: lists of continuations. -/
namespace Go.Proofs.YtmknnjjmmfbppaaGreat
open Go.ChangeShapes Go.WideShapes Go.ChangeAt Go.RowKit
set_option linter.unusedVariables false
set_option maxRecDepth 100000
set_option linter.unusedSimpArgs false
/-- a list of continuations: the tree at p, n steps to its first leaf; its leaves' boxes -/
inductive Tree (w : World) (Q : Nat → Prop) : Nat → Nat → List Nat → Prop where
  | leaf (p b : Nat) : Q p → Blk w p 249 #[.pointer none, .pointer none, cloV 135 #[pV b]] → Tree w Q 0 p [b]
  | node (n m p a b : Nat) (fs gs : List Nat) : Q p → Blk w p 249 #[pV a, pV b, .nilFunc] → Tree w Q n a fs → Tree w Q m b gs → Tree w Q (n + 1) p (fs ++ gs)
theorem Tree.keep {w w1 : World} {Q F : Nat → Prop} {n p : Nat} {fs : List Nat} (h : Tree w Q n p fs) (hk : Keep F w w1) (hd : ∀ b, Q b → ¬ F b) : Tree w1 Q n p fs := by
  induction h with
  | leaf p b h1 h2 => exact .leaf p b h1 (h2.keep hk (hd p h1))
  | node n m p a b fs gs h1 h2 h3 h4 i3 i4 => exact .node n m p a b fs gs h1 (h2.keep hk (hd p h1)) i3 i4
theorem Tree.mono {w : World} {Q Q' : Nat → Prop} {n p : Nat} {fs : List Nat} (h : Tree w Q n p fs) (hd : ∀ b, b < w.heap.size → Q b → Q' b) : Tree w Q' n p fs := by
  induction h with
  | leaf p b h1 h2 => exact .leaf p b (hd p h2.lt h1) h2
  | node n m p a b fs gs h1 h2 h3 h4 i3 i4 => exact .node n m p a b fs gs (hd p h2.lt h1) h2 i3 i4
theorem Tree.ne {w : World} {Q : Nat → Prop} {n p : Nat} {fs : List Nat} (h : Tree w Q n p fs) : fs ≠ [] := by
  induction h with
  | leaf p b h1 h2 => simp
  | node n m p a b fs gs h1 h2 h3 h4 i3 i4 => simp [i3]
/-- .. or none -/
def TreeO (w : World) (Q : Nat → Prop) (v : Value) (fs : List Nat) : Prop := (v = .pointer none ∧ fs = []) ∨ ∃ n p, v = pV p ∧ Tree w Q n p fs
theorem TreeO.keep {w w1 : World} {Q F : Nat → Prop} {v : Value} {fs : List Nat} (h : TreeO w Q v fs) (hk : Keep F w w1) (hd : ∀ b, Q b → ¬ F b) : TreeO w1 Q v fs := by
  rcases h with ⟨rfl, rfl⟩ | ⟨n, p, rfl, h⟩
  · exact .inl ⟨rfl, rfl⟩
  · exact .inr ⟨n, p, rfl, h.keep hk hd⟩
theorem TreeO.mono {w : World} {Q Q' : Nat → Prop} {v : Value} {fs : List Nat} (h : TreeO w Q v fs) (hd : ∀ b, b < w.heap.size → Q b → Q' b) : TreeO w Q' v fs := by
  rcases h with ⟨rfl, rfl⟩ | ⟨n, p, rfl, h⟩
  · exact .inl ⟨rfl, rfl⟩
  · exact .inr ⟨n, p, rfl, h.mono hd⟩
theorem TreeO.ptr {w : World} {Q : Nat → Prop} {v : Value} {fs : List Nat} (h : TreeO w Q v fs) : v = .pointer none ∨ ∃ p, v = pV p := by
  rcases h with ⟨rfl, rfl⟩ | ⟨n, p, rfl, h⟩
  · exact .inl rfl
  · exact .inr ⟨p, rfl⟩
theorem TreeO.is {w : World} {Q : Nat → Prop} {v : Value} {fs : List Nat} (h : TreeO w Q v fs) : ∃ u, v = .pointer u := by
  rcases h with ⟨rfl, rfl⟩ | ⟨n, p, rfl, h⟩
  · exact ⟨_, rfl⟩
  · exact ⟨_, rfl⟩
theorem join_trees (a b : Value) (fs gs : List Nat) (Q : Nat → Prop) (w : World) (ha : TreeO w Q a fs) (hb : TreeO w Q b gs) (hQ : ∀ k, w.heap.size ≤ k → Q k) :
    Calls Tryz.prog 161 #[a, b] w fun e w' => ∃ j, e = .returned j ∧ TreeO w' Q j (fs ++ gs) ∧ Below w.heap.size w w' := by
  rcases ha with ⟨rfl, rfl⟩ | ⟨n, p, rfl, ha⟩
  · refine (join_left b w hb.ptr).mono ?_
    rintro e w' ⟨rfl, rfl⟩
    exact ⟨b, rfl, by simpa using hb, Below.refl _ _⟩
  · rcases hb with ⟨rfl, rfl⟩ | ⟨m, q, rfl, hb⟩
    · refine (join_right p w).mono ?_
      rintro e w' ⟨rfl, rfl⟩
      exact ⟨_, rfl, .inr ⟨n, p, rfl, by simpa using ha⟩, Below.refl _ _⟩
    · refine (join_both p q w).mono ?_
      rintro e w' ⟨r, rfl, hr, hB, hw⟩
      have hk : Keep (fun _ => False) w w' := Keep.ofBelow hw
      exact ⟨_, rfl, .inr ⟨_, r, rfl, .node n m r p q fs gs (hQ r hr) hB (ha.keep hk fun _ _ h => h) (hb.keep hk fun _ _ h => h)⟩, hw⟩
theorem first_any (n p f : Nat) (fs : List Nat) (Q : Nat → Prop) (w : World) (h : Tree w Q n p (f :: fs)) (hQ : ∀ k, w.heap.size ≤ k → Q k) :
    Calls Tryz.prog 160 #[pV p] w fun e w' => ∃ rest, e = .returned (.tuple #[cloV 135 #[pV f], rest]) ∧ TreeO w' Q rest fs ∧ Below w.heap.size w w' := by
  have HQ := Lib.hid hQ
  have H := Lib.hid h
  clear h hQ
  go_enter Tryz.func160, Tryz.ntmps160
  go_wp2
  go_loopg [0, 4] n (fun k l o wr => ∃ p gs hs, l = pV p ∧ Tree wr Q k p gs ∧ TreeO wr Q o hs ∧ Hid (gs ++ hs = f :: fs) ∧ Below w.heap.size w wr)
  case atStart => exact ⟨p, f :: fs, [], rfl, H.out, .inl ⟨rfl, rfl⟩, Lib.hid (by simp), Below.refl _ _⟩
  case round =>
    obtain ⟨p, gs, hs, rfl, hT, hO, hE, hB⟩ := hrel
    have hsz := hB.size
    cases hT with
    | leaf p b h1 h2 =>
      have c0 : wr.cell? ⟨p, 0, none⟩ = some (.pointer none) := h2.cell 0 _ rfl
      have c2 : wr.cell? ⟨p, 2, none⟩ = some (cloV 135 #[pV b]) := h2.cell 2 _ rfl
      have he := hE.out
      simp only [List.cons_append, List.nil_append, List.cons.injEq] at he
      obtain ⟨rfl, rfl⟩ := he
      have HO := Lib.hid hO
      have ho := hO.ptr
      clear hO h2 hE
      rcases ho with rfl | ⟨q, rfl⟩
      · go_wp2
        refine bodyPost_ret (v := .tuple #[cloV 135 #[pV b], .pointer none]) (by simp [results, Tryz.results160, go_sem]) rfl ?_
        exact ⟨_, rfl, HO.out, hB⟩
      · go_wp2
        refine bodyPost_ret (v := .tuple #[cloV 135 #[pV b], pV q]) (by simp [results, Tryz.results160, go_sem]) rfl ?_
        exact ⟨_, rfl, HO.out, hB⟩
    | node k m p a b gs1 gs2 h1 h2 h3 h4 =>
      have c0 : wr.cell? ⟨p, 0, none⟩ = some (pV a) := h2.cell 0 _ rfl
      have c1 : wr.cell? ⟨p, 1, none⟩ = some (pV b) := h2.cell 1 _ rfl
      have hJ := Lib.hid (join_trees (pV b) _ gs2 hs Q wr (.inr ⟨m, b, rfl, h4⟩) hO (fun k hk => HQ.out k (by omega)))
      have HP := Lib.hid h2
      have H3 := Lib.hid h3
      have ho := hO.ptr
      clear hO h2 h3 h4
      rcases ho with rfl | ⟨q, rfl⟩
      · go_wp2_with (go_at_call 161; refine hJ.out.mono ?_; rintro e w2 ⟨j, rfl, hj, hb2⟩; clear c1; have c3 : w2.cell? ⟨p, 0, none⟩ = some (pV a) := (HP.out.below hb2 HP.out.lt).cell 0 _ rfl; clear c0)
        go_roundg k
        case measure => omega
        case rel => exact ⟨a, gs1, gs2 ++ hs, rfl, H3.out.keep (Keep.ofBelow (Q := fun _ => False) hb2) fun _ _ h => h, hj, Lib.hid (by rw [← List.append_assoc]; exact hE.out), hB.trans (hb2.mono hsz)⟩
      · go_wp2_with (go_at_call 161; refine hJ.out.mono ?_; rintro e w2 ⟨j, rfl, hj, hb2⟩; clear c1; have c3 : w2.cell? ⟨p, 0, none⟩ = some (pV a) := (HP.out.below hb2 HP.out.lt).cell 0 _ rfl; clear c0)
        go_roundg k
        case measure => omega
        case rel => exact ⟨a, gs1, gs2 ++ hs, rfl, H3.out.keep (Keep.ofBelow (Q := fun _ => False) hb2) fun _ _ h => h, hj, Lib.hid (by rw [← List.append_assoc]; exact hE.out), hB.trans (hb2.mono hsz)⟩
end Go.Proofs.YtmknnjjmmfbppaaGreat
