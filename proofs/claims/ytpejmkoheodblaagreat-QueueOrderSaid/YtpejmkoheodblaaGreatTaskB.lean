/- Package task: lists of continuations. -/
import Derived.Test.YtpejmkoheodblaaGreatTaskA
import Derived.Deep.LoopGhost
namespace Go.Proofs.YtpejmkoheodblaaGreat
open Go.ChangeShapes Go.WideShapes Go.ChangeAt Go.RowKit
set_option linter.unusedVariables false
set_option maxRecDepth 100000
set_option linter.unusedSimpArgs false
/-- a list of continuations: the tree at p, n steps to its first leaf; its leaves' boxes -/
inductive Tree (w : World) (Q : Nat → Prop) : Nat → Nat → List Nat → Prop where
  | leaf (p b : Nat) : Q p → Blk w p 140 #[.pointer none, .pointer none, cloV 113 #[pV b]] → Tree w Q 0 p [b]
  | node (n m p a b : Nat) (fs gs : List Nat) : Q p → Blk w p 140 #[pV a, pV b, .nilFunc] → Tree w Q n a fs → Tree w Q m b gs → Tree w Q (n + 1) p (fs ++ gs)
theorem Tree.keep {w w1 : World} {Q F : Nat → Prop} {n p : Nat} {fs : List Nat} (h : Tree w Q n p fs) (hk : Keep F w w1) (hd : ∀ b, Q b → ¬ F b) : Tree w1 Q n p fs := by
  induction h with
  | leaf p b h1 h2 => exact .leaf p b h1 (h2.keep hk (hd p h1))
  | node n m p a b fs gs h1 h2 h3 h4 i3 i4 => exact .node n m p a b fs gs h1 (h2.keep hk (hd p h1)) i3 i4
theorem Tree.mono {w : World} {Q Q' : Nat → Prop} {n p : Nat} {fs : List Nat} (h : Tree w Q n p fs) (hd : ∀ b, b < w.heap.size → Q b → Q' b) : Tree w Q' n p fs := by
  induction h with
  | leaf p b h1 h2 => exact .leaf p b (hd p h2.lt h1) h2
  | node n m p a b fs gs h1 h2 h3 h4 i3 i4 => exact .node n m p a b fs gs (hd p h2.lt h1) h2 i3 i4
theorem Tree.ne {w : World} {Q : Nat → Prop} {n p : Nat} {fs : List Nat} (h : Tree w Q n p fs) : fs ≠ [] := by
  induction h with
  | leaf p b h1 h2 => simp
  | node n m p a b fs gs h1 h2 h3 h4 i3 i4 => simp [i3]
/-- .. or none -/
def TreeO (w : World) (Q : Nat → Prop) (v : Value) (fs : List Nat) : Prop := (v = .pointer none ∧ fs = []) ∨ ∃ n p, v = pV p ∧ Tree w Q n p fs
theorem TreeO.keep {w w1 : World} {Q F : Nat → Prop} {v : Value} {fs : List Nat} (h : TreeO w Q v fs) (hk : Keep F w w1) (hd : ∀ b, Q b → ¬ F b) : TreeO w1 Q v fs := by
  rcases h with ⟨rfl, rfl⟩ | ⟨n, p, rfl, h⟩
  · exact .inl ⟨rfl, rfl⟩
  · exact .inr ⟨n, p, rfl, h.keep hk hd⟩
theorem TreeO.mono {w : World} {Q Q' : Nat → Prop} {v : Value} {fs : List Nat} (h : TreeO w Q v fs) (hd : ∀ b, b < w.heap.size → Q b → Q' b) : TreeO w Q' v fs := by
  rcases h with ⟨rfl, rfl⟩ | ⟨n, p, rfl, h⟩
  · exact .inl ⟨rfl, rfl⟩
  · exact .inr ⟨n, p, rfl, h.mono hd⟩
theorem TreeO.ptr {w : World} {Q : Nat → Prop} {v : Value} {fs : List Nat} (h : TreeO w Q v fs) : v = .pointer none ∨ ∃ p, v = pV p := by
  rcases h with ⟨rfl, rfl⟩ | ⟨n, p, rfl, h⟩
  · exact .inl rfl
  · exact .inr ⟨p, rfl⟩
theorem TreeO.is {w : World} {Q : Nat → Prop} {v : Value} {fs : List Nat} (h : TreeO w Q v fs) : ∃ u, v = .pointer u := by
  rcases h with ⟨rfl, rfl⟩ | ⟨n, p, rfl, h⟩
  · exact ⟨_, rfl⟩
  · exact ⟨_, rfl⟩
theorem join_trees (a b : Value) (fs gs : List Nat) (Q : Nat → Prop) (w : World) (ha : TreeO w Q a fs) (hb : TreeO w Q b gs) (hQ : ∀ k, w.heap.size ≤ k → Q k) :
    Calls Tryz.prog 103 #[a, b] w fun e w' => ∃ j, e = .returned j ∧ TreeO w' Q j (fs ++ gs) ∧ Below w.heap.size w w' := by
  rcases ha with ⟨rfl, rfl⟩ | ⟨n, p, rfl, ha⟩
  · refine (join_left b w hb.ptr).mono ?_
    rintro e w' ⟨rfl, rfl⟩
    exact ⟨b, rfl, by simpa using hb, Below.refl _ _⟩
  · rcases hb with ⟨rfl, rfl⟩ | ⟨m, q, rfl, hb⟩
    · refine (join_right p w).mono ?_
      rintro e w' ⟨rfl, rfl⟩
      exact ⟨_, rfl, .inr ⟨n, p, rfl, by simpa using ha⟩, Below.refl _ _⟩
    · refine (join_both p q w).mono ?_
      rintro e w' ⟨r, rfl, hr, hB, hw⟩
      have hk : Keep (fun _ => False) w w' := Keep.ofBelow hw
      exact ⟨_, rfl, .inr ⟨_, r, rfl, .node n m r p q fs gs (hQ r hr) hB (ha.keep hk fun _ _ h => h) (hb.keep hk fun _ _ h => h)⟩, hw⟩
theorem first_any (n p f : Nat) (fs : List Nat) (Q : Nat → Prop) (w : World) (h : Tree w Q n p (f :: fs)) (hQ : ∀ k, w.heap.size ≤ k → Q k) :
    Calls Tryz.prog 102 #[pV p] w fun e w' => ∃ rest, e = .returned (.tuple #[cloV 113 #[pV f], rest]) ∧ TreeO w' Q rest fs ∧ Below w.heap.size w w' := by
  have HQ := Lib.hid hQ
  have H := Lib.hid h
  clear h hQ
  go_enter Tryz.func102, Tryz.ntmps102
  go_wp2
  go_loopg [0, 4] n (fun k l o wr => ∃ p gs hs, l = pV p ∧ Tree wr Q k p gs ∧ TreeO wr Q o hs ∧ Hid (gs ++ hs = f :: fs) ∧ Below w.heap.size w wr)
  case atStart => exact ⟨p, f :: fs, [], rfl, H.out, .inl ⟨rfl, rfl⟩, Lib.hid (by simp), Below.refl _ _⟩
  case round =>
    obtain ⟨p, gs, hs, rfl, hT, hO, hE, hB⟩ := hrel
    have hsz := hB.size
    cases hT with
    | leaf p b h1 h2 =>
      have c0 : wr.cell? ⟨p, 0, none⟩ = some (.pointer none) := h2.cell 0 _ rfl
      have c2 : wr.cell? ⟨p, 2, none⟩ = some (cloV 113 #[pV b]) := h2.cell 2 _ rfl
      have he := hE.out
      simp only [List.cons_append, List.nil_append, List.cons.injEq] at he
      obtain ⟨rfl, rfl⟩ := he
      have HO := Lib.hid hO
      have ho := hO.ptr
      clear hO h2 hE
      rcases ho with rfl | ⟨q, rfl⟩
      · go_wp2
        refine bodyPost_ret (v := .tuple #[cloV 113 #[pV b], .pointer none]) (by simp [results, Tryz.results102, go_sem]) rfl ?_
        exact ⟨_, rfl, HO.out, hB⟩
      · go_wp2
        refine bodyPost_ret (v := .tuple #[cloV 113 #[pV b], pV q]) (by simp [results, Tryz.results102, go_sem]) rfl ?_
        exact ⟨_, rfl, HO.out, hB⟩
    | node k m p a b gs1 gs2 h1 h2 h3 h4 =>
      have c0 : wr.cell? ⟨p, 0, none⟩ = some (pV a) := h2.cell 0 _ rfl
      have c1 : wr.cell? ⟨p, 1, none⟩ = some (pV b) := h2.cell 1 _ rfl
      have hJ := Lib.hid (join_trees (pV b) _ gs2 hs Q wr (.inr ⟨m, b, rfl, h4⟩) hO (fun k hk => HQ.out k (by omega)))
      have HP := Lib.hid h2
      have H3 := Lib.hid h3
      have ho := hO.ptr
      clear hO h2 h3 h4
      rcases ho with rfl | ⟨q, rfl⟩
      · go_wp2_with (go_at_call 103; refine hJ.out.mono ?_; rintro e w2 ⟨j, rfl, hj, hb2⟩; clear c1; have c3 : w2.cell? ⟨p, 0, none⟩ = some (pV a) := (HP.out.below hb2 HP.out.lt).cell 0 _ rfl; clear c0)
        go_roundg k
        case measure => omega
        case rel => exact ⟨a, gs1, gs2 ++ hs, rfl, H3.out.keep (Keep.ofBelow (Q := fun _ => False) hb2) fun _ _ h => h, hj, Lib.hid (by rw [← List.append_assoc]; exact hE.out), hB.trans (hb2.mono hsz)⟩
      · go_wp2_with (go_at_call 103; refine hJ.out.mono ?_; rintro e w2 ⟨j, rfl, hj, hb2⟩; clear c1; have c3 : w2.cell? ⟨p, 0, none⟩ = some (pV a) := (HP.out.below hb2 HP.out.lt).cell 0 _ rfl; clear c0)
        go_roundg k
        case measure => omega
        case rel => exact ⟨a, gs1, gs2 ++ hs, rfl, H3.out.keep (Keep.ofBelow (Q := fun _ => False) hb2) fun _ _ h => h, hj, Lib.hid (by rw [← List.append_assoc]; exact hE.out), hB.trans (hb2.mono hsz)⟩
end Go.Proofs.YtpejmkoheodblaaGreat
