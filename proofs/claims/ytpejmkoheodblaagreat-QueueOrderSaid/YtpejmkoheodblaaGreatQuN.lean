/- Package queue: remove: a loop over a state. -/
import Derived.Test.YtpejmkoheodblaaGreatQuM
namespace Go.Proofs.YtpejmkoheodblaaGreat
open Go.ChangeShapes Go.WideShapes Go.ChangeAt Go.RowKit
set_option linter.unusedVariables false
set_option maxRecDepth 100000
set_option linter.unusedSimpArgs false
/-- what remove may yet do: behind p, when these were seen -/
def remP (m : Mp) (a : Nat) (t : Int) : List Int → Int → List Int → Nd Itm
  | [], p, L => .op (ldI (behN m a p))
  | v :: r, p, L => if thrS m v = t then bindT (fun _ => retT 1) (unlinkT m a p t) r
    else if thrS m v = -1 ∨ thrS m v ∈ L then retT 0 r else remP m a t r (thrS m v) (thrS m v :: L)
def remT (m : Mp) (a : Nat) (t p : Int) (L : List Int) : Tre Itm := fun r => remP m a t r p L
def ansR (m : Mp) (a : Nat) (t p : Int) (L : List Int) (v : Int) : Tre Itm := if thrS m v = t then bindT (fun _ => retT 1) (unlinkT m a p t) else if thrS m v = -1 ∨ thrS m v ∈ L then retT 0 else remT m a t (thrS m v) (thrS m v :: L)
def loopR (m : Mp) (a : Nat) (t p : Int) (L : List Int) (v : Int) : Tre Itm := if v = -2147483648 then remT m a t p L else retT v
theorem remT_eq (m : Mp) (a : Nat) (t p : Int) (L : List Int) : remT m a t p L = opT (ldI (behN m a p)) (ansR m a t p L) := by
  funext r
  cases r with
  | nil => rfl
  | cons v r =>
    show remP m a t (v :: r) p L = ansR m a t p L v r
    unfold remP ansR
    split
    · rfl
    · split
      · rfl
      · rfl
theorem loopR_is (m : Mp) (a : Nat) (t p : Int) (L : List Int) : bindT (loopR m a t p L) (seqT [unlinkT m a p t, retT 1]) = bindT (fun _ => retT 1) (unlinkT m a p t) := by
  have e : seqT [unlinkT m a p t, retT 1] = bindT (fun _ => retT 1) (unlinkT m a p t) := by simp only [seqT, bindT_ret]
  rw [e, bindT_assoc]
  congr 1
  funext v
  rw [bindT_ret]
  unfold loopR
  rw [if_neg (by omega)]
abbrev remM (ba bm : Nat) : Nat → Prop := fun b => b = ba ∨ b = bm
/-- what Loop made of it -/
structure LoopAt (w0 w : World) (C a : Nat) (m : Mp) (Q : Nat → Prop) (p : Int) (bl bt ba bs bm t : Nat) (d r : Value) (f br bl2 f2 bb : Nat) : Prop where
  new : w0.heap.size ≤ t ∧ w0.heap.size ≤ f ∧ w0.heap.size ≤ br ∧ w0.heap.size ≤ bl2 ∧ w0.heap.size ≤ f2 ∧ w0.heap.size ≤ bb
  ne : f ≠ t ∧ br ≠ t ∧ bl2 ≠ t ∧ f2 ≠ t ∧ bb ≠ t
  live : Live w t d (.pointer none) r
  op : ∃ b F caps, d = cloV 129 #[pV b] ∧ Q b ∧ b ≠ t ∧ Blk w b 28 #[cloV F caps] ∧ CloAt w C (fun b => Q b ∧ b ≠ t) (ldI (behN m a p)) F caps
  tree : TreeO w (fun b => (Q b ∧ b ≠ t) ∧ ¬ remM ba bm b) r [f, f2]
  box : Blk w f 86 #[cloV 118 #[pV br, pV bl2]]
  fn : Blk w br 86 #[rem11V bl bt ba bs]
  line : Blk w bl2 88 (lineCs C a m)
  box2 : Blk w f2 86 #[cloV 120 #[pV bb]]
  body : Blk w bb 90 #[rem1V bl bt ba bs]
set_option maxHeartbeats 1000000 in
theorem loopR_any (C a : Nat) (m : Mp) (Q : Nat → Prop) (t p : Int) (L : List Int) (bl bt ba bs bm : Nat) (w : World) (hR : RemAt w C a m t bl bt ba bs bm p L) (hp : -1 ≤ p ∧ p < m.t) (hm : m.ok) (hQ : ∀ k, w.heap.size ≤ k → Q k) :
    Calls Tryz.prog 88 #[rem1V bl bt ba bs] w fun e w' => ∃ t' d r f br bl2 f2 bb, e = .returned (pV t') ∧ LoopAt w w' C a m Q p bl bt ba bs bm t' d r f br bl2 f2 bb ∧ Below w.heap.size w w' := by
  have hmf : ∀ (fn : Fn) (first cap : Array Value) (w : World), (Instr.makeFunc fn first cap).run Tryz.prog w = .ok (.func fn first cap) w := fun _ _ _ _ => rfl
  have HQ := Lib.hid hQ
  have hba := hR.ahead.lt
  have hbm := hR.set.lt
  have HA := Lib.hid fun W (hb : Below w.heap.size w W) => answerT_any 89 #[pV bl, pV ba, pV bt, pV bs] W (fun t' w' => ∃ V d r f br bl2, Below W.heap.size W V ∧ ReadAt V w' C a m (fun b => Q b ∧ ¬ remM ba bm b) (behN m a p) (rem11V bl bt ba bs) t' d r f br bl2 ∧ Below W.heap.size W w') call_rem1
    ((rem1_any C a m (fun b => Q b ∧ ¬ remM ba bm b) t p L bl bt ba bs bm W (hR.keep (Keep.ofBelow (Q := fun _ => False) hb) (fun h => h) (fun h => h) (fun h => h) (fun h => h) (fun h => h)) hp hm (fun k hk => ⟨hQ k (Nat.le_trans hb.size hk), fun h => by have := hb.size; rcases h with h | h <;> omega⟩)).mono (by
      rintro e w' ⟨t', V, d, r, f, br, bl2, rfl, h1, h2, h3⟩
      exact ⟨t', rfl, V, d, r, f, br, bl2, h1, h2, h3⟩))
  clear hQ hR
  go_enter Tryz.func88, Tryz.ntmps88
  go_upto_region 1 with fail
  generalize hW : (w.alloc _) = W
  have bW : Below w.heap.size w W := by rw [← hW]; go_grown
  have sW : W.heap.size = w.heap.size + 1 := by rw [← hW]; simp
  have q0 : Blk W w.heap.size 90 #[rem1V bl bt ba bs] := by rw [← hW]; exact Blk.new w _ _
  clear hW
  have c0 : W.cell? ⟨w.heap.size, 0, none⟩ = some (rem1V bl bt ba bs) := q0.cell 0 _ rfl
  have HA2 := Lib.hid (HA.out W bW)
  clear HA
  go_upto_region 2 with (go_at_call 114; refine HA2.out.mono ?_; rintro e w2 ⟨t1, rfl, V, d, r, f, br, bl2, g1, g2, g3⟩)
  have sV := g1.size
  have s2 := g3.size
  obtain ⟨m1, m2, m3, m4, m5, m6, m7⟩ := g2.new
  have HD := Lib.hid (live_done t1 _ _ _ w2 g2.live)
  have HT := Lib.hid (then_raw t1 120 #[pV w.heap.size] d _ r [f] (fun b => Q b ∧ ¬ remM ba bm b) w2 g2.live (g2.tree.mono fun b _ h => h.1) (fun k hk => ⟨HQ.out k (by omega), fun h => by rcases h with h | h <;> omega⟩))
  have Q0 := q0.below g3 q0.lt
  have G2 := Lib.hid g2
  have htl := g2.live.blk.lt
  clear c0 g2
  go_wp2_with (first | (go_at_call 37; refine HD.out.mono ?_; rintro e w3 ⟨rfl, rfl⟩) | (go_at_call 81; refine HT.out.mono ?_; rintro e w3 ⟨t2, f2, j2, rfl, k1, k2, k3, k4, k5, kft, k6⟩))
  go_ret
  have g2 := G2.out
  have kk : Keep (fun _ => False) w2 w3 := Keep.ofBelow k6
  have l1 := g2.box.lt
  have l2 := g2.fn.lt
  have l3 := g2.line.lt
  obtain ⟨b, F, caps, o1, o2, o3, o4, o5⟩ := g2.op
  have l4 := o4.lt
  refine ⟨t2, d, j2, f, br, bl2, f2, w.heap.size, rfl, ⟨⟨by omega, by omega, by omega, by omega, by omega, Nat.le_refl _⟩, ⟨by omega, by omega, by omega, kft, by omega⟩, k4, ⟨b, F, caps, o1, o2.1, by omega, o4.keep kk (fun h => h), o5.keep kk (fun _ _ h => h) (fun b hb h => ⟨h.1.1, by omega⟩)⟩, k5.mono (fun b _ h => ⟨⟨h.1.1, h.2⟩, h.1.2⟩), g2.box.keep kk (fun h => h), g2.fn.keep kk (fun h => h), g2.line.keep kk (fun h => h), k3, Q0.keep kk (fun h => h)⟩, (bW.trans (g3.mono bW.size)).trans (k6.mono (by omega))⟩
end Go.Proofs.YtpejmkoheodblaaGreat
