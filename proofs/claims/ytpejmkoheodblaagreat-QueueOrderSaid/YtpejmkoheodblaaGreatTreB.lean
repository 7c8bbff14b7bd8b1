/- Package task: goOn, Then and Step of tasks by what they may yet do. -/
import Derived.Test.YtpejmkoheodblaaGreatTreA
import Derived.Test.YtpejmkoheodblaaGreatTaskM
namespace Go.Proofs.YtpejmkoheodblaaGreat
open Go.ChangeShapes Go.WideShapes Go.ChangeAt Go.RowKit
set_option linter.unusedVariables false
set_option maxRecDepth 100000
set_option linter.unusedSimpArgs false
/-- what is to come of a task at hand and of what follows it -/
def JotT {A : Type} (O : Ops A) (Q : Nat → Prop) (t : Nat) (R : Tre A) (a : World) (n : Option Addr) (fs : List Nat) : Prop :=
  ∃ T, TaskF O a Q n T ∧ InQ (fun k => k ≠ t) n ∧ Behind (ContT O a Q) fs T R
theorem goon_tree {A : Type} (O : Ops A) (t : Nat) (n : Option Addr) (d0 p0 r0 : Value) (fs : List Nat) (Q : Nat → Prop) (R : Tre A) (w : World) (ht : Blk w t 96 #[d0, p0, r0, .int .i64 0]) (hr : TreeO w Q r0 fs) (hQ : ∀ k, w.heap.size ≤ k → Q k) (hQt : ¬ Q t) (hJ : JotT O Q t R w n fs) :
    Calls Tryz.prog 68 #[pV t, .pointer n] w fun e w' => e = .returned (.tuple #[]) ∧ Keep (fun k => k = t) w w' ∧ TaskF O w' Q (some ⟨t, 0, none⟩) R := by
  have hlt := ht.lt
  have hd : ∀ b, Q b → ¬ (b = t) := fun b hb e => hQt (e ▸ hb)
  refine (goon_ptr t n d0 p0 r0 0 fs Q (JotT O Q t R) w ht hr hQ hQt hJ ?_ ?_ ?_).mono ?_
  · rintro a b n fs hs ⟨T, h1, h2, h3⟩ hk
    exact ⟨T, h1.keep hk hd (fun k e => h2 k e) (fun _ _ h => h), h2, h3.keep hk hd (fun _ _ h => h)⟩
  · rintro a n fs ⟨T, h1, h2, h3⟩
    refine ⟨fun e => h2 t e rfl, ?_⟩
    rcases h1 with ⟨v, e, h⟩ | ⟨x, g, k, d, p, rest, gs, e, rfl, g1, g2, g3, g4⟩
    · exact .inl ⟨v, h⟩
    · exact .inr ⟨k, d, p, rest, gs, rfl, g1, g2⟩
  · rintro a n f fs v hs ⟨T, h1, h2, k, κ, h3, rfl, h5⟩ hv
    obtain ⟨v', rfl, hv'⟩ : ∃ v', T = retT v' ∧ DoneV a n v' := by
      rcases h1 with ⟨v', e, h⟩ | ⟨x, g, k, d, p, rest, gs, e, rfl, g1, g2, g3, g4⟩
      · exact ⟨v', e, h⟩
      · exact (hv.live g1).elim
    obtain rfl := hv.val hv'
    refine (h3.unfold.2.2 v' a (Keep.refl _ a)).mono ?_
    rintro e b ⟨n', rfl, hb, hT, hn⟩
    have hqq : ∀ j, (Q j ∧ j < a.heap.size) ∨ a.heap.size ≤ j → Q j := fun j hj => hj.elim (fun h => h.1) (fun h => hQ j (by omega))
    refine ⟨n', rfl, ⟨k v', hT.keep (fun f k h => h.keep (Keep.refl (fun _ => False) b) (fun _ _ h => h) (fun j _ h => hqq j h)) (Keep.refl (fun _ => False) b) (fun _ _ h => h) (fun _ _ h => h) (fun j _ h => hqq j h), fun j e e2 => hQt (e2 ▸ hqq j (hn j e)), ?_⟩, hb⟩
    rw [bindT_ret]
    exact (h5 v').keep (Keep.ofBelow (Q := fun _ => False) hb) (fun _ _ h => h) (fun _ _ h => h)
  · rintro e w' ⟨rfl, hk, n', fs', ⟨T, h1, h2, h3⟩, hp⟩
    refine ⟨rfl, hk, ?_⟩
    rcases hp with ⟨rfl, v, hv, hB⟩ | ⟨k1, d, p, r, g1, j, rfl, hL, hT, hT2, hB⟩
    · obtain rfl : R = T := h3
      obtain ⟨v', rfl, hv'⟩ : ∃ v', R = retT v' ∧ DoneV w' n' v' := by
        rcases h1 with ⟨v', e, h⟩ | ⟨x, g, k, d, p, rest, gs, e, rfl, g1, g2, g3, g4⟩
        · exact ⟨v', e, h⟩
        · exact (hv.live g1).elim
      obtain rfl := hv.val hv'
      exact .inl ⟨v', rfl, .inr ⟨t, rfl, hB⟩⟩
    · rcases h1 with ⟨v', e, h⟩ | ⟨x, g, k, d', p', rest, gs, rfl, e, q1, q2, q3, q4⟩
      · exact (h.live hL).elim
      · obtain rfl : k1 = k := by simpa using e
        obtain ⟨rfl, rfl, rfl⟩ := hL.unique q1
        obtain rfl := hT.unique q2
        obtain ⟨g', rfl, h5⟩ := Behind.op q4 h3
        exact .inr ⟨x, g', t, _, _, j, g1 ++ fs', rfl, rfl, ⟨hB, hL.op⟩, hT2, q3, h5⟩
/-- Then: of any task, and of a closure whose box is told of -/
theorem thenT_any {A : Type} (O : Ops A) (n : Option Addr) (F : Nat) (caps : Array Value) (T : Tre A) (k : Int → Tre A) (Q : Nat → Prop) (w : World) (hT : TaskF O w Q n T) (hn : ∀ j, n = some ⟨j, 0, none⟩ → j < w.heap.size) (hQ : ∀ k, w.heap.size ≤ k → Q k)
    (hk : ∀ w1 (Q1 : Nat → Prop) f, Below w.heap.size w w1 → Blk w1 f 86 #[cloV F caps] → w.heap.size ≤ f → Q1 f → (∀ b, b < w.heap.size → Q b → Q1 b) → ContT O w1 Q1 f k) :
    Calls Tryz.prog 81 #[.pointer n, cloV F caps] w fun e w' => ∃ t, e = .returned (pV t) ∧ w.heap.size ≤ t ∧ TaskF O w' (fun b => Q b ∧ b ≠ t) (some ⟨t, 0, none⟩) (bindT k T) ∧ Below w.heap.size w w' := by
  have hmf : ∀ (fn : Fn) (first cap : Array Value) (w : World), (Instr.makeFunc fn first cap).run Tryz.prog w = .ok (.func fn first cap) w := fun _ _ _ _ => rfl
  have HQ := Lib.hid hQ
  have HT := Lib.hid hT
  have HK := Lib.hid hk
  have HN := Lib.hid hn
  clear hQ hT hk hn
  go_enter Tryz.func81, Tryz.ntmps81
  go_upto_region 1 with fail
  generalize hW : (w.alloc _) = W
  have bW : Below w.heap.size w W := by rw [← hW]; go_grown
  have q0 : Blk W w.heap.size 86 #[cloV F caps] := by rw [← hW]; exact Blk.new w _ _
  clear hW
  go_upto_region 2 with (go_at_call 112; refine (only_any _ _ _).mono ?_; rintro e w2 ⟨lp, rfl, l1, l2, l3⟩)
  have hs2 := l3.size
  have hsW := bW.size
  generalize hW3 : (w2.alloc _) = W3
  have b3 : Below W.heap.size W W3 := by rw [← hW3]; exact l3.alloc (by omega) _
  have s3 : W3.heap.size = w2.heap.size + 1 := by rw [← hW3]; simp
  have qt : Blk W3 w2.heap.size 96 #[.nilFunc, .pointer none, pV lp, .int .i64 0] := by rw [← hW3]; exact Blk.new w2 _ _
  have ql : Blk W3 lp 140 #[.pointer none, .pointer none, cloV 113 #[pV w.heap.size]] := by rw [← hW3]; exact l2.alloc _
  have hlp := l2.lt
  clear hW3
  have bw3 : Below w.heap.size w W3 := bW.trans (b3.mono hsW)
  have qf := q0.below b3 q0.lt
  have kk : Keep (fun _ => False) w W3 := Keep.ofBelow bw3
  have hqf := q0.lt
  have T3 : TaskF O W3 (fun b => Q b ∧ b ≠ w2.heap.size) n T := HT.out.keep kk (fun _ _ h => h) (fun _ _ h => h) (fun b hb h => ⟨h, by omega⟩)
  have C3 : ContT O W3 (fun b => Q b ∧ b ≠ w2.heap.size) w.heap.size k := HK.out W3 _ _ bw3 qf (Nat.le_refl _) ⟨HQ.out _ (Nat.le_refl _), by omega⟩ (fun b hb h => ⟨h, by omega⟩)
  have HG := Lib.hid (goon_tree O w2.heap.size n .nilFunc (.pointer none) (pV lp) [w.heap.size] (fun b => Q b ∧ b ≠ w2.heap.size) (bindT k T) W3
    qt (.inr ⟨0, lp, rfl, .leaf lp _ ⟨HQ.out _ (by omega), by omega⟩ ql⟩) (fun j hj => ⟨HQ.out _ (by omega), by omega⟩) (fun h => h.2 rfl)
    ⟨T, T3, fun j e => by have := HN.out j e; omega, k, k, C3, rfl, fun v => rfl⟩)
  clear qt ql qf
  go_wp2_with (go_at_call 68; refine HG.out.mono ?_; rintro e w4 ⟨rfl, k4, hT4⟩)
  go_ret
  have b4 : Below w.heap.size w w4 := bw3.trans (k4.below bw3.size (fun i _ h => by omega))
  exact ⟨w2.heap.size, rfl, by omega, hT4, b4⟩
end Go.Proofs.YtpejmkoheodblaaGreat
