/- Package queue: remove, as a task by what it may yet do. -/
import Derived.Test.YtpejmkoheodblaaGreatQuN
namespace Go.Proofs.YtpejmkoheodblaaGreat
open Go.ChangeShapes Go.WideShapes Go.ChangeAt Go.RowKit
set_option linter.unusedVariables false
set_option maxRecDepth 100000
set_option linter.unusedSimpArgs false
theorem nodup_len : ∀ (k : Nat) (L : List Int), L.Nodup → (∀ u ∈ L, 0 ≤ u ∧ u < k) → L.length ≤ k
  | 0, L, _, h => by
    cases L with
    | nil => simp
    | cons u L => have := h u (by simp); omega
  | k + 1, L, hn, h => by
    by_cases hk : (k : Int) ∈ L
    · have h1 := nodup_len k (L.erase (k : Int)) (hn.erase _) (fun u hu => by
        have h2 := (hn.mem_erase_iff).1 hu
        have := h u h2.2
        have h3 := h2.1
        omega)
      rw [List.length_erase_of_mem hk] at h1
      omega
    · have := nodup_len k L hn (fun u hu => by
        have h1 := h u hu
        have h2 : u ≠ k := fun e => hk (e ▸ hu)
        omega)
      omega
theorem loop1_again (C a : Nat) (m : Mp) (Q : Nat → Prop) (t p : Int) (L : List Int) (bl bt ba bs bm bb : Nat) (w : World) (hb : Blk w bb 90 #[rem1V bl bt ba bs]) (hR : RemAt w C a m t bl bt ba bs bm p L) (hp : -1 ≤ p ∧ p < m.t) (hm : m.ok) (hQ : ∀ k, w.heap.size ≤ k → Q k) :
    Calls Tryz.prog 120 #[.int .i64 (-2147483648), pV bb] w fun e w' => ∃ t' d r f br bl2 f2 bb, e = .returned (pV t') ∧ LoopAt w w' C a m Q p bl bt ba bs bm t' d r f br bl2 f2 bb ∧ Below w.heap.size w w' := by
  have c0 : w.cell? ⟨bb, 0, none⟩ = some (rem1V bl bt ba bs) := hb.cell 0 _ rfl
  have HL := Lib.hid (loopR_any C a m Q t p L bl bt ba bs bm w hR hp hm hQ)
  clear hQ hR hm hp hb
  go_enter Tryz.func120, Tryz.ntmps120
  go_wp2_with (go_at_call 88; refine HL.out.mono ?_; rintro e w2 ⟨t', d, r, f, br, bl2, f2, bb2, rfl, h1, h2⟩)
  go_ret
  exact ⟨t', d, r, f, br, bl2, f2, bb2, rfl, h1, h2⟩
theorem loop1_else (v : Int) (bb : Nat) (w : World) (h : v ≠ -2147483648) :
    Calls Tryz.prog 120 #[.int .i64 v, pV bb] w fun e w' => ∃ t, e = .returned (pV t) ∧ w.heap.size ≤ t ∧ DoneV w' (some ⟨t, 0, none⟩) v ∧ Below w.heap.size w w' := by
  go_enter Tryz.func120, Tryz.ntmps120
  go_wp2_with (go_at_call 53; refine (ready_any _ _).mono ?_; rintro e w2 ⟨t, rfl, h1, h2, h3⟩)
  go_ret
  exact ⟨t, rfl, h1, .inr ⟨t, rfl, h2⟩, h3⟩
/-- remove's continuations, over their state -/
def RemK (C P : Nat) (m : Mp) (a : Nat) (t : Int) : MRel Itm := fun w Q M fs κ =>
  (∃ bl bt ba bs bm p L f2 bb, M = remM ba bm ∧ RemAt w C a m t bl bt ba bs bm p L ∧ (Q bl ∧ Q bt ∧ Q ba ∧ Q bs ∧ Q bm ∧ Q f2 ∧ Q bb) ∧ (¬ remM ba bm f2 ∧ ¬ remM ba bm bb) ∧ (-1 ≤ p ∧ p < m.t) ∧ (L.Nodup ∧ ∀ u ∈ L, 0 ≤ u ∧ u < (m.t : Int)) ∧
    Blk w f2 86 #[cloV 120 #[pV bb]] ∧ Blk w bb 90 #[rem1V bl bt ba bs] ∧
    ((fs = [f2] ∧ κ = loopR m a t p L) ∨ ∃ f br bl2, fs = [f, f2] ∧ κ = ansR m a t p L ∧ (Q f ∧ Q br ∧ Q bl2) ∧ (¬ remM ba bm f ∧ ¬ remM ba bm br ∧ ¬ remM ba bm bl2) ∧ Blk w f 86 #[cloV 118 #[pV br, pV bl2]] ∧ Blk w br 86 #[rem11V bl bt ba bs] ∧ Blk w bl2 88 (lineCs C a m))) ∨
  ContsM (cellOps C P) w Q M fs κ
theorem remK_few {C P : Nat} {m : Mp} {a : Nat} {t : Int} (w : World) (Q M : Nat → Prop) (fs : List Nat) (κ : Int → Tre Itm) (h : RemK C P m a t w Q M fs κ) : ∀ b, M b → Q b ∧ b < w.heap.size := by
  rcases h with ⟨bl, bt, ba, bs, bm, p, L, f2, bb, rfl, hR, ⟨q1, q2, q3, q4, q5, q6, q7⟩, _⟩ | h
  · intro b hb
    rcases hb with rfl | rfl
    · exact ⟨q3, hR.ahead.lt⟩
    · exact ⟨q5, hR.set.lt⟩
  · exact h.few
theorem remK_keep {C P : Nat} {m : Mp} {a : Nat} {t : Int} (w w1 : World) (Q Q' M F : Nat → Prop) (fs : List Nat) (κ : Int → Tre Itm) (h : RemK C P m a t w Q M fs κ) (hk : Keep F w w1) (hd : ∀ b, Q b → ¬ F b) (hq : ∀ b, b < w.heap.size → Q b → Q' b) : RemK C P m a t w1 Q' M fs κ := by
  rcases h with ⟨bl, bt, ba, bs, bm, p, L, f2, bb, rfl, hR, ⟨q1, q2, q3, q4, q5, q6, q7⟩, hn, hp, hL, h1, h2, h3⟩ | h
  · refine .inl ⟨bl, bt, ba, bs, bm, p, L, f2, bb, rfl, hR.keep hk (hd _ q1) (hd _ q2) (hd _ q3) (hd _ q4) (hd _ q5), ⟨hq _ hR.line.lt q1, hq _ hR.thr.lt q2, hq _ hR.ahead.lt q3, hq _ hR.seen.lt q4, hq _ hR.set.lt q5, hq _ h1.lt q6, hq _ h2.lt q7⟩, hn, hp, hL, h1.keep hk (hd _ q6), h2.keep hk (hd _ q7), ?_⟩
    rcases h3 with h3 | ⟨f, br, bl2, e1, e2, ⟨r1, r2, r3⟩, hn2, g1, g2, g3⟩
    · exact .inl h3
    · exact .inr ⟨f, br, bl2, e1, e2, ⟨hq _ g1.lt r1, hq _ g2.lt r2, hq _ g3.lt r3⟩, hn2, g1.keep hk (hd _ r1), g2.keep hk (hd _ r2), g3.keep hk (hd _ r3)⟩
  · exact .inr (h.keep hk hd hq)
set_option maxHeartbeats 1000000 in
theorem remK_step {C P : Nat} {m : Mp} (hm : m.ok) {a : Nat} {t : Int} (ht : 0 ≤ t ∧ t < m.t) (w : World) (Q M : Nat → Prop) (fs : List Nat) (κ : Int → Tre Itm) (h : RemK C P m a t w Q M fs κ) : StepM (cellOps C P) (Mix (cellOps C P) (RemK C P m a t)) w Q M fs κ := by
  have hfw := remK_few w Q M fs κ h
  rcases h with ⟨bl, bt, ba, bs, bm, p, L, f2, bb, rfl, hR, ⟨q1, q2, q3, q4, q5, q6, q7⟩, ⟨hn1, hn2⟩, hp, hL, h1, h2, h3⟩ | h
  · refine ⟨hfw, ?_⟩
    have nq : ∀ b, Q b → ¬ ¬ Q b := fun b h hn => hn h
    rcases h3 with ⟨rfl, rfl⟩ | ⟨f, br, bl2, rfl, rfl, ⟨r1, r2, r3⟩, ⟨o1, o2, o3⟩, g1, g2, g3⟩
    · refine ⟨q6, h1.lt, fun v w1 hw => ?_⟩
      have hs1 := hw.size
      have hR1 := hR.keep hw (nq _ q1) (nq _ q2) (nq _ q3) (nq _ q4) (nq _ q5)
      have hB1 := h1.keep hw (nq _ q6)
      have hB2 := h2.keep hw (nq _ q7)
      have hM1 : ∀ b, remM ba bm b → b < w1.heap.size := fun b hb => Nat.lt_of_lt_of_le (hfw b hb).2 hs1
      have hM2 : ∀ b, remM ba bm b → (Q b ∧ b < w.heap.size) ∨ w1.heap.size ≤ b := fun b hb => .inl (hfw b hb)
      by_cases hv : v = -2147483648
      · subst hv
        refine (then1P_any f2 120 #[pV bb] (-2147483648) w1 (fun n w' => ∃ t' d r f br bl2 f2 bb, n = some ⟨t', 0, none⟩ ∧ LoopAt w1 w' C a m (fun b => w1.heap.size ≤ b) p bl bt ba bs bm t' d r f br bl2 f2 bb ∧ Below w1.heap.size w1 w') hB1 call_loop1 fun w2 hb => ?_).mono ?_
        · have hb0 : Keep (fun _ => False) w1 w2 := Keep.ofBelow hb
          have s2 := hb.size
          refine (loop1_again C a m (fun b => w2.heap.size ≤ b) t p L bl bt ba bs bm bb w2 (hB2.keep hb0 (fun h => h)) (hR1.keep hb0 (fun h => h) (fun h => h) (fun h => h) (fun h => h) (fun h => h)) hp hm (fun _ h => h)).mono ?_
          rintro e w' ⟨t', d, r, f, br, bl2, f3, bb2, rfl, hA, hb2⟩
          obtain ⟨b, F, caps, x1, x2, x3, x4, x5⟩ := hA.op
          exact ⟨_, rfl, t', d, r, f, br, bl2, f3, bb2, rfl, ⟨⟨by have := hA.new; omega, by have := hA.new; omega, by have := hA.new; omega, by have := hA.new; omega, by have := hA.new; omega, by have := hA.new; omega⟩, hA.ne, hA.live, ⟨b, F, caps, x1, Nat.le_trans s2 x2, x3, x4, x5.keep (Keep.refl (fun _ => False) w') (fun _ _ h => h) (fun b _ h => ⟨Nat.le_trans s2 h.1, h.2⟩)⟩, hA.tree.mono (fun b _ h => ⟨⟨Nat.le_trans s2 h.1.1, h.1.2⟩, h.2⟩), hA.box, hA.fn, hA.line, hA.box2, hA.body⟩, hb.trans (hb2.mono s2)⟩
        · rintro e w' ⟨_, rfl, t', d, r, f, br, bl2, f3, bb2, rfl, hA, hb⟩
          have hk : Keep (fun _ => False) w1 w' := Keep.ofBelow hb
          obtain ⟨n1, n2, n3, n4, n5, n6⟩ := hA.new
          obtain ⟨b, F, caps, x1, x2, x3, x4, x5⟩ := hA.op
          have nm : ∀ b, w1.heap.size ≤ b → ¬ remM ba bm b := fun b hb h => by have := hM1 b h; omega
          refine ⟨_, remM ba bm, rfl, Keep.ofBelow hb, fun _ _ h => h, fun j e => by injection e with e; injection e with e; exact .inr (e ▸ n1), .inr ⟨ldI (behN m a p), ansR m a t p L, t', d, _, r, [f, f3], ?_, rfl, hA.live, hA.tree.mono (fun b _ h => ⟨.inr h.1.1, h.2⟩), .inl ⟨b, F, caps, x1, rfl, .inr x2, x4, x5.keep (Keep.refl (fun _ => False) w') (fun _ _ h => h) (fun b _ h => .inr h.1)⟩, Mix.of (.inl ⟨bl, bt, ba, bs, bm, p, L, f3, bb2, rfl, hR1.keep hk (fun h => h) (fun h => h) (fun h => h) (fun h => h) (fun h => h), ⟨.inl ⟨q1, hR.line.lt⟩, .inl ⟨q2, hR.thr.lt⟩, .inl ⟨q3, hR.ahead.lt⟩, .inl ⟨q4, hR.seen.lt⟩, .inl ⟨q5, hR.set.lt⟩, .inr n5, .inr n6⟩, ⟨nm _ n5, nm _ n6⟩, hp, hL, hA.box2, hA.body, .inr ⟨f, br, bl2, rfl, rfl, ⟨.inr n2, .inr n3, .inr n4⟩, ⟨nm _ n2, nm _ n3, nm _ n4⟩, hA.box, hA.fn, hA.line⟩⟩)⟩⟩
          unfold loopR
          rw [if_pos rfl, remT_eq]
      · refine (then1P_any f2 120 #[pV bb] v w1 (fun n w' => ∃ t', n = some ⟨t', 0, none⟩ ∧ w1.heap.size ≤ t' ∧ DoneV w' (some ⟨t', 0, none⟩) v ∧ Below w1.heap.size w1 w') hB1 call_loop1 fun w2 hb => ?_).mono ?_
        · refine (loop1_else v bb w2 hv).mono ?_
          rintro e w' ⟨t', rfl, x1, x2, x3⟩
          exact ⟨_, rfl, t', rfl, Nat.le_trans hb.size x1, x2, hb.trans (x3.mono hb.size)⟩
        · rintro e w' ⟨_, rfl, t', rfl, x1, x2, x3⟩
          refine ⟨_, remM ba bm, rfl, Keep.ofBelow x3, fun _ _ h => h, fun j e => by injection e with e; injection e with e; exact .inr (e ▸ x1), .inl ⟨v, retT, x2, Mix.of (.inr (ContsM.nil fun b hb => ⟨hM2 b hb, Nat.lt_of_lt_of_le (hM1 b hb) x3.size⟩)), ?_⟩⟩
          unfold loopR
          rw [if_neg hv]
    · refine ⟨r1, g1.lt, fun v w1 hw => ?_⟩
      have hs1 := hw.size
      have hR1 := hR.keep hw (nq _ q1) (nq _ q2) (nq _ q3) (nq _ q4) (nq _ q5)
      have hM1 : ∀ b, remM ba bm b → b < w1.heap.size := fun b hb => Nat.lt_of_lt_of_le (hfw b hb).2 hs1
      have nm : ∀ b, w1.heap.size ≤ b → ¬ remM ba bm b := fun b hb h => by have := hM1 b h; omega
      have hu := thrS_range m v
      obtain ⟨u, hue⟩ : ∃ u, u = thrS m v := ⟨_, rfl⟩
      rw [← hue] at hu
      refine (then1P_any f 118 #[pV br, pV bl2] v w1 (fun n w' => ∃ t' W, n = some ⟨t', 0, none⟩ ∧ Below w1.heap.size w1 W ∧ Keep (remM ba bm) W w' ∧ ((u = t ∧ MadeQ (cellOps C P) W (fun b => W.heap.size ≤ b) (seqT [unlinkT m a p t, retT 1]) t' w') ∨ (u ≠ t ∧ (u = -1 ∨ u ∈ L) ∧ W.heap.size ≤ t' ∧ DoneV w' (some ⟨t', 0, none⟩) 0 ∧ Below W.heap.size W w') ∨
        (u ≠ t ∧ ¬ (u = -1 ∨ u ∈ L) ∧ W.heap.size ≤ t' ∧ DoneV w' (some ⟨t', 0, none⟩) (-2147483648) ∧ RemAt w' C a m t bl bt ba bs bm u (u :: L)))) (g1.keep hw (nq _ r1)) call_read1 fun w2 hb => ?_).mono ?_
      · have hb0 : Keep (fun _ => False) w1 w2 := Keep.ofBelow hb
        have s2 := hb.size
        have hR2 := hR1.keep hb0 (fun h => h) (fun h => h) (fun h => h) (fun h => h) (fun h => h)
        refine (read1_any C a m v br bl2 90 #[pV bt, pV bl, pV ba, pV bs] w2 (remM ba bm) (fun W t' w' => (u = t ∧ MadeQ (cellOps C P) W (fun b => W.heap.size ≤ b) (seqT [unlinkT m a p t, retT 1]) t' w') ∨ (u ≠ t ∧ (u = -1 ∨ u ∈ L) ∧ W.heap.size ≤ t' ∧ DoneV w' (some ⟨t', 0, none⟩) 0 ∧ Below W.heap.size W w') ∨
          (u ≠ t ∧ ¬ (u = -1 ∨ u ∈ L) ∧ W.heap.size ≤ t' ∧ DoneV w' (some ⟨t', 0, none⟩) (-2147483648) ∧ RemAt w' C a m t bl bt ba bs bm u (u :: L))) hm ((g2.keep hw (nq _ r2)).keep hb0 (fun h => h)) ((g3.keep hw (nq _ r3)).keep hb0 (fun h => h)) o2 o3 call_rem11 fun W hW => ?_).mono ?_
        · have hR3 := hR2.keep (F := fun _ => False) (Keep.ofBelow hW) (fun h => h) (fun h => h) (fun h => h) (fun h => h) (fun h => h)
          rw [← hue]
          by_cases e1 : u = t
          · rw [e1]
            refine (rem11_is C P a m (fun b => W.heap.size ≤ b) t p L bl bt ba bs bm W hR3 hp ht hm (fun _ h => h)).mono ?_
            rintro e w' ⟨t', rfl, hM⟩
            exact ⟨t', rfl, Keep.ofBelow hM.2.2, .inl ⟨rfl, hM⟩⟩
          · by_cases e2 : u = -1 ∨ u ∈ L
            · refine (rem11_end C P a m (fun _ => True) t p u L bl bt ba bs bm W hR3 hu hm e1 e2).mono ?_
              rintro e w' ⟨t', rfl, x1, x2, x3⟩
              exact ⟨t', rfl, Keep.ofBelow x3, .inr (.inl ⟨e1, e2, x1, x2, x3⟩)⟩
            · have hlen := nodup_len m.t L hL.1 hL.2
              refine (rem11_on C P a m (fun _ => True) t p u L bl bt ba bs bm W hR3 hu hm e1 (fun h => e2 (.inl h)) (fun h => e2 (.inr h)) (by have := hm.t; unfold maxLen; omega)).mono ?_
              rintro e w' ⟨t', rfl, x1, x2, x3, x4⟩
              exact ⟨t', rfl, x4, .inr (.inr ⟨e1, e2, x1, x2, x3⟩)⟩
        · rintro e w' ⟨t', W, rfl, hW, hk, hr⟩
          exact ⟨_, rfl, t', W, rfl, hb.trans (hW.mono s2), hk, hr⟩
      · rintro e w' ⟨_, rfl, t', W, rfl, hW, hk, hr⟩
        have sW := hW.size
        have kW : Keep (remM ba bm) w1 w' := (Keep.ofBelow hW).trans hk
        have ht' : w1.heap.size ≤ t' := by
          rcases hr with ⟨_, hM⟩ | ⟨_, _, h, _⟩ | ⟨_, _, h, _⟩
          · exact Nat.le_trans sW hM.1
          · exact Nat.le_trans sW h
          · exact Nat.le_trans sW h
        have hK : ∀ p' L', RemAt w' C a m t bl bt ba bs bm p' L' → (-1 ≤ p' ∧ p' < (m.t : Int)) → (L'.Nodup ∧ ∀ u ∈ L', 0 ≤ u ∧ u < (m.t : Int)) → RemK C P m a t w' (fun b => (Q b ∧ b < w.heap.size) ∨ w1.heap.size ≤ b) (remM ba bm) [f2] (loopR m a t p' L') := fun p' L' hR' hp' hL' =>
          .inl ⟨bl, bt, ba, bs, bm, p', L', f2, bb, rfl, hR', ⟨.inl ⟨q1, hR.line.lt⟩, .inl ⟨q2, hR.thr.lt⟩, .inl ⟨q3, hR.ahead.lt⟩, .inl ⟨q4, hR.seen.lt⟩, .inl ⟨q5, hR.set.lt⟩, .inl ⟨q6, h1.lt⟩, .inl ⟨q7, h2.lt⟩⟩, ⟨hn1, hn2⟩, hp', hL', (h1.keep hw (nq _ q6)).keep kW hn1, (h2.keep hw (nq _ q7)).keep kW hn2, .inl ⟨rfl, rfl⟩⟩
        refine ⟨_, remM ba bm, rfl, kW, fun _ _ h => h, fun j e => by injection e with e; injection e with e; exact .inr (e ▸ ht'), ?_⟩
        have hRW := hR1.keep (F := fun _ => False) (Keep.ofBelow hW) (fun h => h) (fun h => h) (fun h => h) (fun h => h) (fun h => h)
        rcases hr with ⟨e1, hM⟩ | ⟨e1, e2, x1, x2, x3⟩ | ⟨e1, e2, x1, x2, x3⟩
        · have := jm_mix (cellOps C P) (RemK C P m a t) (bindT (loopR m a t p L)) (fun x g => bindT_op _ x g) (Q := fun b => (Q b ∧ b < w.heap.size) ∨ w1.heap.size ≤ b) (Q0 := fun b => W.heap.size ≤ b) (M := remM ba bm) (fun v => bindT_ret _ v) (hK p L (hRW.keep (F := fun _ => False) (Keep.ofBelow hM.2.2) (fun h => h) (fun h => h) (fun h => h) (fun h => h) (fun h => h)) hp hL) (fun b hb => ⟨.inr (Nat.le_trans sW hb), nm b (Nat.le_trans sW hb)⟩) hM.task
          rw [loopR_is] at this
          have ea : ansR m a t p L v = bindT (fun _ => retT 1) (unlinkT m a p t) := by
            unfold ansR
            rw [← hue, if_pos e1]
          rw [ea]
          exact this
        · refine .inl ⟨0, loopR m a t p L, x2, Mix.of (hK p L (hRW.keep (F := fun _ => False) (Keep.ofBelow x3) (fun h => h) (fun h => h) (fun h => h) (fun h => h) (fun h => h)) hp hL), ?_⟩
          unfold ansR loopR
          rw [← hue, if_neg e1, if_pos e2, if_neg (by omega)]
        · refine .inl ⟨-2147483648, loopR m a t u (u :: L), x2, Mix.of (hK u (u :: L) x3 hu ⟨List.nodup_cons.2 ⟨fun h => e2 (.inr h), hL.1⟩, fun z hz => ?_⟩), ?_⟩
          · rcases List.mem_cons.1 hz with rfl | hz
            · have : z ≠ -1 := fun h => e2 (.inl h)
              omega
            · exact hL.2 z hz
          · unfold ansR loopR
            rw [← hue, if_neg e1, if_neg e2, if_pos rfl]
  · exact h.unfold.mono fun _ _ _ _ _ h => Mix.of (.inr h)
theorem remK_conts {C P : Nat} {m : Mp} (hm : m.ok) {a : Nat} {t : Int} (ht : 0 ≤ t ∧ t < m.t) {w : World} {Q M : Nat → Prop} {fs : List Nat} {κ : Int → Tre Itm} (h : RemK C P m a t w Q M fs κ) : ContsM (cellOps C P) w Q M fs κ :=
  contsM_upto (cellOps C P) (RemK C P m a t) remK_few remK_keep (remK_step hm ht) (Mix.of h)
end Go.Proofs.YtpejmkoheodblaaGreat
