/- Package task: goOn, Then and Step of tasks by what they may yet do. -/
import Derived.Test.YtmknnjjmmfbppaaGreatMgBegAZ
import Derived.Test.YtmknnjjmmfbppaaGreatMgBegBA
namespace Go.Proofs.YtmknnjjmmfbppaaGreat
open Go.ChangeShapes Go.WideShapes Go.ChangeAt Go.RowKit
set_option linter.unusedVariables false
set_option maxRecDepth 100000
set_option linter.unusedSimpArgs false
/-- what is to come of a task at hand and of what follows it -/
def JotT {A : Type} (O : Ops A) (Q : Nat → Prop) (t : Nat) (R : Tre A) (a : World) (n : Option Addr) (fs : List Nat) : Prop :=
  ∃ T, TaskF O a Q n T ∧ InQ (fun k => k ≠ t) n ∧ Behind (ContT O a Q) fs T R
theorem goon_tree {A : Type} (O : Ops A) (t : Nat) (n : Option Addr) (d0 p0 r0 : Value) (fs : List Nat) (Q : Nat → Prop) (R : Tre A) (w : World) (ht : Blk w t 134 #[d0, p0, r0, .int .i64 0]) (hr : TreeO w Q r0 fs) (hQ : ∀ k, w.heap.size ≤ k → Q k) (hQt : ¬ Q t) (hJ : JotT O Q t R w n fs) :
    Calls Tryz.prog 87 #[pV t, .pointer n] w fun e w' => e = .returned (.tuple #[]) ∧ Keep (fun k => k = t) w w' ∧ TaskF O w' Q (some ⟨t, 0, none⟩) R := by
  have hlt := ht.lt
  have hd : ∀ b, Q b → ¬ (b = t) := fun b hb e => hQt (e ▸ hb)
  refine (goon_ptr t n d0 p0 r0 0 fs Q (JotT O Q t R) w ht hr hQ hQt hJ ?_ ?_ ?_).mono ?_
  · rintro a b n fs hs ⟨T, h1, h2, h3⟩ hk
    exact ⟨T, h1.keep hk hd (fun k e => h2 k e) (fun _ _ h => h), h2, h3.keep hk hd (fun _ _ h => h)⟩
  · rintro a n fs ⟨T, h1, h2, h3⟩
    refine ⟨fun e => h2 t e rfl, ?_⟩
    rcases h1 with ⟨v, e, h⟩ | ⟨x, g, k, d, p, rest, gs, e, rfl, g1, g2, g3, g4⟩
    · exact .inl ⟨v, h⟩
    · exact .inr ⟨k, d, p, rest, gs, rfl, g1, g2⟩
  · rintro a n f fs v hs ⟨T, h1, h2, k, κ, h3, rfl, h5⟩ hv
    obtain ⟨v', rfl, hv'⟩ : ∃ v', T = retT v' ∧ DoneV a n v' := by
      rcases h1 with ⟨v', e, h⟩ | ⟨x, g, k, d, p, rest, gs, e, rfl, g1, g2, g3, g4⟩
      · exact ⟨v', e, h⟩
      · exact (hv.live g1).elim
    obtain rfl := hv.val hv'
    refine (h3.unfold.2.2 v' a (Keep.refl _ a)).mono ?_
    rintro e b ⟨n', rfl, hb, hT, hn⟩
    have hqq : ∀ j, (Q j ∧ j < a.heap.size) ∨ a.heap.size ≤ j → Q j := fun j hj => hj.elim (fun h => h.1) (fun h => hQ j (by omega))
    refine ⟨n', rfl, ⟨k v', hT.keep (fun f k h => h.keep (Keep.refl (fun _ => False) b) (fun _ _ h => h) (fun j _ h => hqq j h)) (Keep.refl (fun _ => False) b) (fun _ _ h => h) (fun _ _ h => h) (fun j _ h => hqq j h), fun j e e2 => hQt (e2 ▸ hqq j (hn j e)), ?_⟩, hb⟩
    rw [bindT_ret]
    exact (h5 v').keep (Keep.ofBelow (Q := fun _ => False) hb) (fun _ _ h => h) (fun _ _ h => h)
  · rintro e w' ⟨rfl, hk, n', fs', ⟨T, h1, h2, h3⟩, hp⟩
    refine ⟨rfl, hk, ?_⟩
    rcases hp with ⟨rfl, v, hv, hB⟩ | ⟨k1, d, p, r, g1, j, rfl, hL, hT, hT2, hB⟩
    · obtain rfl : R = T := h3
      obtain ⟨v', rfl, hv'⟩ : ∃ v', R = retT v' ∧ DoneV w' n' v' := by
        rcases h1 with ⟨v', e, h⟩ | ⟨x, g, k, d, p, rest, gs, e, rfl, g1, g2, g3, g4⟩
        · exact ⟨v', e, h⟩
        · exact (hv.live g1).elim
      obtain rfl := hv.val hv'
      exact .inl ⟨v', rfl, .inr ⟨t, rfl, hB⟩⟩
    · rcases h1 with ⟨v', e, h⟩ | ⟨x, g, k, d', p', rest, gs, rfl, e, q1, q2, q3, q4⟩
      · exact (h.live hL).elim
      · obtain rfl : k1 = k := by simpa using e
        obtain ⟨rfl, rfl, rfl⟩ := hL.unique q1
        obtain rfl := hT.unique q2
        obtain ⟨g', rfl, h5⟩ := Behind.op q4 h3
        exact .inr ⟨x, g', t, _, _, j, g1 ++ fs', rfl, rfl, ⟨hB, hL.op⟩, hT2, q3, h5⟩
/-- Then: of any task, and of a closure whose box is told of -/
theorem thenT_any {A : Type} (O : Ops A) (n : Option Addr) (F : Nat) (caps : Array Value) (T : Tre A) (k : Int → Tre A) (Q : Nat → Prop) (w : World) (hT : TaskF O w Q n T) (hn : ∀ j, n = some ⟨j, 0, none⟩ → j < w.heap.size) (hQ : ∀ k, w.heap.size ≤ k → Q k)
    (hk : ∀ w1 (Q1 : Nat → Prop) f, Below w.heap.size w w1 → Blk w1 f 157 #[cloV F caps] → w.heap.size ≤ f → Q1 f → (∀ b, b < w.heap.size → Q b → Q1 b) → ContT O w1 Q1 f k) :
    Calls Tryz.prog 79 #[.pointer n, cloV F caps] w fun e w' => ∃ t, e = .returned (pV t) ∧ w.heap.size ≤ t ∧ TaskF O w' (fun b => Q b ∧ b ≠ t) (some ⟨t, 0, none⟩) (bindT k T) ∧ Below w.heap.size w w' := by
  have hmf : ∀ (fn : Fn) (first cap : Array Value) (w : World), (Instr.makeFunc fn first cap).run Tryz.prog w = .ok (.func fn first cap) w := fun _ _ _ _ => rfl
  have HQ := Lib.hid hQ
  have HT := Lib.hid hT
  have HK := Lib.hid hk
  have HN := Lib.hid hn
  clear hQ hT hk hn
  go_enter Tryz.func79, Tryz.ntmps79
  go_upto_region 1 with fail
  generalize hW : (w.alloc _) = W
  have bW : Below w.heap.size w W := by rw [← hW]; go_grown
  have q0 : Blk W w.heap.size 157 #[cloV F caps] := by rw [← hW]; exact Blk.new w _ _
  clear hW
  go_upto_region 2 with (go_at_call 134; refine (only_any _ _ _).mono ?_; rintro e w2 ⟨lp, rfl, l1, l2, l3⟩)
  have hs2 := l3.size
  have hsW := bW.size
  generalize hW3 : (w2.alloc _) = W3
  have b3 : Below W.heap.size W W3 := by rw [← hW3]; exact l3.alloc (by omega) _
  have s3 : W3.heap.size = w2.heap.size + 1 := by rw [← hW3]; simp
  have qt : Blk W3 w2.heap.size 134 #[.nilFunc, .pointer none, pV lp, .int .i64 0] := by rw [← hW3]; exact Blk.new w2 _ _
  have ql : Blk W3 lp 249 #[.pointer none, .pointer none, cloV 135 #[pV w.heap.size]] := by rw [← hW3]; exact l2.alloc _
  have hlp := l2.lt
  clear hW3
  have bw3 : Below w.heap.size w W3 := bW.trans (b3.mono hsW)
  have qf := q0.below b3 q0.lt
  have kk : Keep (fun _ => False) w W3 := Keep.ofBelow bw3
  have hqf := q0.lt
  have T3 : TaskF O W3 (fun b => Q b ∧ b ≠ w2.heap.size) n T := HT.out.keep kk (fun _ _ h => h) (fun _ _ h => h) (fun b hb h => ⟨h, by omega⟩)
  have C3 : ContT O W3 (fun b => Q b ∧ b ≠ w2.heap.size) w.heap.size k := HK.out W3 _ _ bw3 qf (Nat.le_refl _) ⟨HQ.out _ (Nat.le_refl _), by omega⟩ (fun b hb h => ⟨h, by omega⟩)
  have HG := Lib.hid (goon_tree O w2.heap.size n .nilFunc (.pointer none) (pV lp) [w.heap.size] (fun b => Q b ∧ b ≠ w2.heap.size) (bindT k T) W3
    qt (.inr ⟨0, lp, rfl, .leaf lp _ ⟨HQ.out _ (by omega), by omega⟩ ql⟩) (fun j hj => ⟨HQ.out _ (by omega), by omega⟩) (fun h => h.2 rfl)
    ⟨T, T3, fun j e => by have := HN.out j e; omega, k, k, C3, rfl, fun v => rfl⟩)
  clear qt ql qf
  go_wp2_with (go_at_call 87; refine HG.out.mono ?_; rintro e w4 ⟨rfl, k4, hT4⟩)
  go_ret
  have b4 : Below w.heap.size w w4 := bw3.trans (k4.below bw3.size (fun i _ h => by omega))
  exact ⟨w2.heap.size, rfl, by omega, hT4, b4⟩
end Go.Proofs.YtmknnjjmmfbppaaGreat
/- Package task: tasks of items are tasks by what they may yet do; a task of a caller's own, its steps. -/
namespace Go.Proofs.YtmknnjjmmfbppaaGreat
open Go.ChangeShapes Go.WideShapes Go.ChangeAt Go.RowKit
set_option linter.unusedVariables false
set_option maxRecDepth 100000
set_option linter.unusedSimpArgs false
/-- operations on cells, and parkings -/
def cellOps (C P : Nat) : Ops Itm where
  is := fun w Q x d p => (∃ b F caps, d = cloV 280 #[pV b] ∧ p = .pointer none ∧ Q b ∧ Blk w b 52 #[cloV F caps] ∧ CloAt w C Q x F caps) ∨ ((x.kind = 5 ∨ x.kind = 6) ∧ d = .nilFunc ∧ ∃ pb, p = pV pb ∧ Q pb ∧ Blk w pb 255 #[pV P, .int .i64 x.at', .bool (x.kind == 6)]) ∨ (x.kind = 8 ∧ p = .pointer none ∧ ∃ F caps, d = cloV F caps)
  keep := fun {w w1 Q Q' F x d p} h hk hd hq => by
    rcases h with ⟨b, G, caps, e1, e2, h1, h2, h3⟩ | ⟨e1, e2, pb, e4, h1, h2⟩ | h
    · exact .inl ⟨b, G, caps, e1, e2, hq _ h2.lt h1, h2.keep hk (hd _ h1), h3.keep hk hd hq⟩
    · exact .inr (.inl ⟨e1, e2, pb, e4, hq _ h2.lt h1, h2.keep hk (hd _ h1)⟩)
    · exact .inr (.inr h)
  op := fun {w Q x d p} h => by
    rcases h with ⟨b, G, caps, e1, e2, h1, h2, h3⟩ | ⟨e1, e2, pb, e4, h1, h2⟩ | ⟨_, e2, G, caps, e1⟩
    · exact .inl ⟨_, _, e1, e2⟩
    · exact .inr ⟨_, e2, e4⟩
    · exact .inl ⟨_, _, e1, e2⟩
/-- continuations of tasks of items -/
def K0 (C P : Nat) (w : World) (Q : Nat → Prop) (f : Nat) (k : Int → Tre Itm) : Prop :=
  (∃ s, Cont w C P Q f s ∧ k = itmT s) ∨ (∃ x, x.kind = 4 ∧ Link2 w C Q x f ∧ k = loopK x) ∨ (Link3 w Q f ∧ k = spinK)
theorem conts_behind {C P : Nat} {w : World} {Q : Nat → Prop} : ∀ (fs : List Nat) (r : List Itm), Conts (Cont w C P Q) fs r → ∀ s u, Behind (K0 C P w Q) fs (itmT s u) (itmT (s ++ r) u)
  | [], r, e, s, u => by
    simp only [Conts] at e
    subst e
    rw [List.append_nil]
    exact rfl
  | f :: fs, r, ⟨s1, r2, h1, h2, e⟩, s, u => by
    subst e
    exact ⟨itmT s1, itmT (s1 ++ r2), .inl ⟨s1, h1, rfl⟩, itmT_append _ _ _, fun v => conts_behind fs r2 h2 s1 v⟩
theorem task_tree {C P : Nat} {w : World} {Q : Nat → Prop} {t : Nat} {r : List Itm} {v : Int} (h : TaskC w C P Q t r v) : TaskT (cellOps C P) (K0 C P w Q) w Q (some ⟨t, 0, none⟩) (itmT r v) := by
  rcases h.view with ⟨rfl, hd⟩ | ⟨x, r', d, p, rest, gs, fs, rfl, hL, hT, hO, hC⟩
  · exact .inl ⟨v, rfl, hd⟩
  · have h7 := hO.kind
    have hb := conts_behind fs r' hC
    rcases hO with ⟨hO, ⟨h4, rfl⟩ | ⟨h4, k3, k2, rfl, l3, l2⟩⟩ | ⟨h5, rfl, rfl, hO⟩
    · refine .inr ⟨x, itmT r', t, d, p, rest, fs, ?_, rfl, hL, hT, .inl hO, fun u => hb [] u⟩
      simp only [itmT]
      rw [if_neg (by omega), if_neg h4]
    · refine .inr ⟨x, fun u => bindT (itmT r') (bindT (loopK x) (spinK u)), t, d, p, rest, _, ?_, rfl, hL, hT, .inl hO, fun u => ?_⟩
      · simp only [itmT]
        rw [if_neg (by omega), if_pos h4, spinT_eq2, bindT_op]
      · refine ⟨spinK, fun u => bindT (itmT r') (bindT (loopK x) (spinK u)), .inr (.inr ⟨l3, rfl⟩), by rw [bindT_ret], fun u => ⟨loopK x, fun u => bindT (itmT r') (loopK x u), .inr (.inl ⟨x, h4, l2, rfl⟩), by exact bindT_assoc _ _ _, fun u => ?_⟩⟩
        show Behind (K0 C P w Q) fs (loopK x u) (bindT (itmT r') (loopK x u))
        unfold loopK
        by_cases hu : u = -2147483648
        · rw [if_pos hu]
          have e1 : itmT [x] 0 = spinT x := by
            simp only [itmT]
            rw [if_neg (by omega), if_pos h4]
            exact spin_end x
          have := hb [x] 0
          rwa [itmT_append, e1] at this
        · rw [if_neg hu, bindT_ret]
          exact hb [] u
    · refine .inr ⟨x, itmT r', t, _, p, rest, fs, ?_, rfl, hL, hT, .inr (.inl ⟨h5, rfl, hO⟩), fun u => hb [] u⟩
      simp only [itmT]
      rw [if_neg (by omega), if_neg (by omega)]
theorem k0_step (C P : Nat) (w : World) (Q : Nat → Prop) (f : Nat) (k : Int → Tre Itm) (h : K0 C P w Q f k) : ContS (cellOps C P) (K0 C P) w Q f k := by
  have hd : ∀ b, Q b → ¬ ¬ Q b := fun b h hn => hn h
  rcases h with ⟨s, hc, rfl⟩ | ⟨x, h4, l2, rfl⟩ | ⟨l3, rfl⟩
  · obtain ⟨h1, bl, B, o, cap, L, h2, _⟩ := hc.unfold
    refine ⟨h1, h2.lt, fun v w1 hw => ?_⟩
    refine (cont_call C P (fun b => (Q b ∧ b < w.heap.size) ∨ w1.heap.size ≤ b) f s v w1 (hc.keep hw hd (fun b hb h => .inl ⟨h, hb⟩)) (fun k hk => .inr hk)).mono ?_
    rintro e w2 ⟨t, rfl, hM⟩
    have := task_tree hM.task
    rw [itmT_on] at this
    refine ⟨some ⟨t, 0, none⟩, rfl, hM.2.2, this, fun j e => ?_⟩
    injection e with e
    injection e with e
    exact .inr (e ▸ hM.1)
  · obtain ⟨q1, bb, body, q2, q3, q4, q5⟩ := l2
    refine ⟨q1, q2.lt, fun v w1 hw => ?_⟩
    refine then1P_any f 133 #[pV bb] v w1 _ (q2.keep hw (fun h => h q1)) call_loop1 fun w2 hb => ?_
    have hsz := hb.size
    have hw2 : Keep (fun b => ¬ Q b) w w2 := hw.step (Q' := fun _ => False) (Keep.ofBelow hb) (fun _ _ h => h.elim)
    refine (loop1_any C P (fun b => (Q b ∧ b < w.heap.size) ∨ w1.heap.size ≤ b) x bb body v w2 h4 (q4.keep hw2 (fun h => h q3)) (q5.keep hw2 hd (fun b hb h => .inl ⟨h, hb⟩)) (fun k hk => .inr (by omega))).mono ?_
    have hn : ∀ t, w2.heap.size ≤ t → InQ (fun b => (Q b ∧ b < w.heap.size) ∨ w1.heap.size ≤ b) (some ⟨t, 0, none⟩) := fun t ht j e => by
      injection e with e
      injection e with e
      exact .inr (by omega)
    unfold loopK
    rintro e w3 ⟨t, rfl, ⟨rfl, hM⟩ | ⟨hv, hM⟩⟩
    · have := task_tree hM.task
      simp only [itmT] at this
      rw [if_neg (by omega), if_pos h4, show (fun v => retT v : Int → Tre Itm) = retT from rfl, spin_end] at this
      exact ⟨some ⟨t, 0, none⟩, rfl, hb.trans (hM.2.2.mono hsz), by rw [if_pos rfl]; exact this, hn t hM.1⟩
    · exact ⟨some ⟨t, 0, none⟩, rfl, hb.trans (hM.2.2.mono hsz), by rw [if_neg hv]; exact task_tree hM.task, hn t hM.1⟩
  · obtain ⟨q1, q2⟩ := l3
    refine ⟨q1, q2.lt, fun v w1 hw => ?_⟩
    refine then1P_any f 257 #[] v w1 _ (q2.keep hw (fun h => h q1)) call_spin11 fun w2 hb => ?_
    have hsz := hb.size
    refine (spin11_any v w2).mono ?_
    rintro e w3 ⟨t, rfl, g1, g2, g3⟩
    refine ⟨some ⟨t, 0, none⟩, rfl, hb.trans (g3.mono hsz), .inl ⟨_, ?_, g2⟩, fun j e => ?_⟩
    · unfold spinK
      split <;> rfl
    · injection e with e
      injection e with e
      exact .inr (by omega)
theorem TaskC.tree {C P : Nat} {w : World} {Q : Nat → Prop} {t : Nat} {r : List Itm} {v : Int} (h : TaskC w C P Q t r v) : TaskF (cellOps C P) w Q (some ⟨t, 0, none⟩) (itmT r v) :=
  TaskT.keep (task_tree h) (fun f k h => ⟨K0 C P, k0_step C P, h⟩) (Keep.refl (fun _ => False) w) (fun _ _ h => h) (fun _ _ h => h) (fun _ _ h => h)
/-- a task of a caller's own, at block t, of the blocks of which Q is said -/
def TkT {A : Type} (O : Ops A) (w : World) (t : Nat) (Q : Nat → Prop) (T : Tre A) : Prop :=
  ∃ Q1 : Nat → Prop, TaskF O w Q1 (some ⟨t, 0, none⟩) T ∧ ¬ Q1 t ∧ (∀ b, Q1 b ∨ b = t → Q b) ∧ ∀ b, Q b → b < w.heap.size
theorem TkT.keep {A : Type} {O : Ops A} {w w1 : World} {t : Nat} {Q F : Nat → Prop} {T : Tre A} (h : TkT O w t Q T) (hk : Keep F w w1) (hn : ∀ b, Q b → ¬ F b) : TkT O w1 t Q T := by
  obtain ⟨Q1, h1, h2, h3, h4⟩ := h
  exact ⟨Q1, TaskF.keep h1 hk (fun b hb => hn b (h3 b (.inl hb))) (fun k e => by injection e with e; injection e with e; exact e ▸ hn t (h3 t (.inr rfl))) (fun _ _ h => h), h2, h3, fun b hb => Nat.lt_of_lt_of_le (h4 b hb) hk.size⟩
theorem TkT.still {A : Type} {O : Ops A} {w w1 : World} {t : Nat} {Q : Nat → Prop} {T : Tre A} (h : TkT O w t Q T) (hk : Keep (fun _ => False) w w1) : TkT O w1 t Q T := h.keep hk (fun _ _ h => h)
theorem TkT.lt {A : Type} {O : Ops A} {w : World} {t : Nat} {Q : Nat → Prop} {T : Tre A} (h : TkT O w t Q T) : ∀ b, Q b → b < w.heap.size := by
  obtain ⟨Q1, h1, h2, h3, h4⟩ := h
  exact h4
theorem TkT.own {A : Type} {O : Ops A} {w : World} {t : Nat} {Q : Nat → Prop} {T : Tre A} (h : TkT O w t Q T) : Q t := by
  obtain ⟨Q1, h1, h2, h3, h4⟩ := h
  exact h3 t (.inr rfl)
/-- a new one -/
theorem TkT.new {A : Type} {O : Ops A} {w' : World} {t : Nat} {Q : Nat → Prop} {T : Tre A} (h : TaskF O w' (fun b => Q b ∧ b ≠ t) (some ⟨t, 0, none⟩) T) (hq : Q t) : TkT O w' t (fun b => Q b ∧ b < w'.heap.size) T :=
  ⟨fun b => (Q b ∧ b ≠ t) ∧ b < w'.heap.size, TaskF.keep h (Keep.refl (fun _ => False) w') (fun _ _ h => h) (fun _ _ h => h) (fun b hb h => ⟨h, hb⟩), fun h => h.1.2 rfl, fun b hb => by
    rcases hb with hb | rfl
    · exact ⟨hb.1.1, hb.2⟩
    · exact ⟨hq, TaskT.lt h⟩, fun b hb => hb.2⟩
theorem Made6.tkT {w w' : World} {C P : Nat} {Q : Nat → Prop} {r : List Itm} {v : Int} {t : Nat} (h : Made6 w C P Q r v t w') (hq : Q t) : TkT (cellOps C P) w' t (fun b => Q b ∧ b < w'.heap.size) (itmT r v) := TkT.new (TaskC.tree h.2.1) hq
theorem TkT.from {A : Type} {O : Ops A} {w w' : World} {t : Nat} {Q Q1 : Nat → Prop} {T : Tre A} (ht : t < w.heap.size) (hw : w.heap.size ≤ w'.heap.size) (h1 : ∀ b, Q1 b ∨ b = t → Q b) (h2 : ¬ Q1 t) (h : TaskF O w' (fun b => Q1 b ∨ w.heap.size ≤ b) (some ⟨t, 0, none⟩) T) :
    ∃ Q', TkT O w' t Q' T ∧ ∀ b, Q' b → Q b ∨ w.heap.size ≤ b :=
  ⟨fun b => (Q b ∨ w.heap.size ≤ b) ∧ b < w'.heap.size, ⟨fun b => (Q1 b ∨ w.heap.size ≤ b) ∧ b < w'.heap.size, TaskF.keep h (Keep.refl (fun _ => False) w') (fun _ _ h => h) (fun _ _ h => h) (fun b hb hq => ⟨hq, hb⟩),
    fun hh => by rcases hh.1 with hh | hh
                 · exact h2 hh
                 · omega,
    fun b hb => by
      rcases hb with ⟨hb | hb, hlt⟩ | rfl
      · exact ⟨.inl (h1 b (.inl hb)), hlt⟩
      · exact ⟨.inr hb, hlt⟩
      · exact ⟨.inl (h1 b (.inr rfl)), by omega⟩, fun b hb => hb.2⟩, fun b hb => hb.1⟩
theorem TkT.done {A : Type} {O : Ops A} {w : World} {t : Nat} {Q : Nat → Prop} {v : Int} (h : TkT O w t Q (retT v)) : DoneV w (some ⟨t, 0, none⟩) v := by
  obtain ⟨Q1, h1, h2, h3, h4⟩ := h
  rcases h1 with ⟨u, e, h⟩ | ⟨x, κ, k, d, p, rest, fs, e, _⟩
  · rw [retT_inj e]; exact h
  · exact (ret_op e).elim
theorem TkT.live {A : Type} {O : Ops A} {w : World} {t : Nat} {Q : Nat → Prop} {x : A} {κ : Int → Tre A} (h : TkT O w t Q (opT x κ)) :
    ∃ Q1 : Nat → Prop, ¬ Q1 t ∧ (∀ b, Q1 b ∨ b = t → Q b) ∧ t < w.heap.size ∧ ∃ d p rest fs, Live w t d p rest ∧ TreeO w Q1 rest fs ∧ O.is w Q1 x d p ∧ ∀ v, Behind (ContT O w Q1) fs (retT v) (κ v) := by
  obtain ⟨Q1, h1, h2, h3, h4⟩ := h
  refine ⟨Q1, h2, h3, h4 t (h3 t (.inr rfl)), ?_⟩
  rcases h1 with ⟨u, e, h⟩ | ⟨x', κ', k, d, p, rest, fs, e, e2, g1, g2, g3, g4⟩
  · exact (ret_op e.symm).elim
  · obtain ⟨rfl, rfl⟩ := opT_inj e
    injection e2 with e2
    injection e2 with e2
    subst e2
    exact ⟨d, p, rest, fs, g1, g2, g3, g4⟩
theorem tdoneT_ret {A : Type} {O : Ops A} (t : Nat) (Q : Nat → Prop) (v : Int) (w : World) (h : TkT O w t Q (retT v)) : Calls Tryz.prog 38 #[pV t] w fun e w' => e = .returned (.bool true) ∧ w = w' := doneV_done _ v w h.done
theorem tdoneT_op {A : Type} {O : Ops A} (t : Nat) (Q : Nat → Prop) (x : A) (κ : Int → Tre A) (w : World) (h : TkT O w t Q (opT x κ)) : Calls Tryz.prog 38 #[pV t] w fun e w' => e = .returned (.bool false) ∧ w = w' := by
  obtain ⟨_, _, _, _, d, p, rest, fs, hL, _⟩ := h.live
  exact live_done t d p rest w hL
theorem tvalueT_ret {A : Type} {O : Ops A} (t : Nat) (Q : Nat → Prop) (v : Int) (w : World) (h : TkT O w t Q (retT v)) : Calls Tryz.prog 25 #[pV t] w fun e w' => e = .returned (.int .i64 v) ∧ w = w' := doneV_value _ v w h.done
theorem tvalueT_op {A : Type} {O : Ops A} (t : Nat) (Q : Nat → Prop) (x : A) (κ : Int → Tre A) (w : World) (h : TkT O w t Q (opT x κ)) : Calls Tryz.prog 25 #[pV t] w fun e w' => e = .returned (.int .i64 0) ∧ w = w' := by
  obtain ⟨_, _, _, _, d, p, rest, fs, hL, _⟩ := h.live
  exact value_any t _ _ _ 0 w hL.blk
theorem tstepT_ret {A : Type} {O : Ops A} (t : Nat) (Q : Nat → Prop) (v k : Int) (w : World) (h : TkT O w t Q (retT v)) : Calls Tryz.prog 32 #[pV t, .int .i64 k] w fun e w' => e = .returned (.bool false) ∧ w = w' := step_done _ v k w h.done
/-- a step that does an operation on cells -/
theorem tstepT_op (C P S t : Nat) (Q : Nat → Prop) (x : Itm) (κ : Int → Tre Itm) (m : List Int) (n : Int) (w : World) (h : TkT (cellOps C P) w t Q (opT x κ)) (hC : CellsAt w C S m n) (hk : x.kind < 5) (hQ : ∀ b, Q b → b ≠ C ∧ b ≠ S) (hn : 0 ≤ n ∧ n ≤ 2000000) :
    Calls Tryz.prog 32 #[pV t, .int .i64 0] w fun e w' => e = .returned (.bool true) ∧ (∃ Q', TkT (cellOps C P) w' t Q' (κ (operS m x).2.1) ∧ ∀ b, Q' b → Q b ∨ w.heap.size ≤ b) ∧
      CellsAt w' C S (operS m x).1 (n + countS m x) ∧ Keep (fun b => b = t ∨ ofCells C S b) w w' := by
  obtain ⟨Q1, q1, q2, hlt, d, p, rest, fs, hL, hT, hO, hc⟩ := h.live
  have hcq : ∀ b, Q1 b → ¬ ofCells C S b := fun b hb hf => by
    have := hQ b (q2 b (.inl hb))
    rcases hf with hf | hf
    · exact this.1 hf
    · exact this.2 hf
  have htc : ¬ ofCells C S t := fun hf => by
    have := hQ t (q2 t (.inr rfl))
    rcases hf with hf | hf
    · exact this.1 hf
    · exact this.2 hf
  obtain ⟨b, F, caps, rfl, rfl, b1, b2, b3⟩ : ∃ b F caps, d = cloV 280 #[pV b] ∧ p = .pointer none ∧ Q1 b ∧ Blk w b _ #[cloV F caps] ∧ CloAt w C Q1 x F caps := by
    rcases hO with hO | ⟨hO, _⟩ | ⟨hO, _⟩
    · exact hO
    · omega
    · omega
  refine step_yes t _ _ rest 0 w (fun v' w2 => v' = (operS m x).2.1 ∧ CellsAt w2 C S (operS m x).1 (n + countS m x) ∧ Keep (ofCells C S) w w2)
    (fun w' => (∃ Q', TkT (cellOps C P) w' t Q' (κ (operS m x).2.1) ∧ ∀ b, Q' b → Q b ∨ w.heap.size ≤ b) ∧ CellsAt w' C S (operS m x).1 (n + countS m x) ∧ Keep (fun b => b = t ∨ ofCells C S b) w w') hL ?_ ?_
  · refine opend_do b w _ fun W hb => ?_
    have kW : Keep (fun _ => False) w W := Keep.ofBelow hb
    refine (do6_any C S Q1 m n x b F caps W (b2.below hb b2.lt) (b3.keep kW (fun _ _ h => h) (fun _ _ h => h)) (hC.keep kW (fun h => h) (fun h => h)) hn.1 (by omega)).mono ?_
    rintro e w' ⟨v', rfl, e1, e2, e3⟩
    exact ⟨v', rfl, e1, e2, (Keep.ofBelow hb).trans e3⟩
  · rintro v' w2 w3 k ⟨rfl, hC2, hk2⟩ g1 g2 g3
    have k3 : Keep (ofCells C S) w w3 := hk2.trans (Keep.ofBelow g3)
    have s2 := hk2.size
    have hT3 : TreeO w3 (fun b => Q1 b ∨ w.heap.size ≤ b) rest fs := (hT.keep k3 hcq).mono (fun b _ h => .inl h)
    have hJ : JotT (cellOps C P) (fun b => Q1 b ∨ w.heap.size ≤ b) t (κ (operS m x).2.1) w3 (some ⟨k, 0, none⟩) fs :=
      ⟨_, .inl ⟨_, rfl, g2⟩, fun j e => by injection e with e; injection e with e; omega, (hc _).keep k3 hcq (fun b _ h => .inl h)⟩
    refine (goon_tree (cellOps C P) t _ _ _ rest fs (fun b => Q1 b ∨ w.heap.size ≤ b) _ w3 (hL.blk.keep k3 htc) hT3 (fun j hj => .inr (by have := k3.size; omega)) (fun hh => hh.elim q1 (fun h => by omega)) hJ).mono ?_
    rintro e w' ⟨rfl, k4, hT4⟩
    have k5 : Keep (fun b => b = t ∨ ofCells C S b) w w' := (k3.mono (fun _ _ h => .inr h)).trans (k4.mono (fun _ _ h => .inl h))
    refine ⟨rfl, TkT.from hlt k5.size q2 q1 hT4, ?_, k5⟩
    have hC3 := hC2.keep (Keep.ofBelow (Q := fun _ => False) g3) (fun h => h) (fun h => h)
    exact hC3.keep k4 (fun e => htc (.inl e.symm)) (fun e => htc (.inr e.symm))
end Go.Proofs.YtmknnjjmmfbppaaGreat
