/- Package task: tasks of items are tasks by what they may yet do; a task of a caller's own, its steps. -/
import Derived.Test.YtpejmkoheodblaaGreatTreB
namespace Go.Proofs.YtpejmkoheodblaaGreat
open Go.ChangeShapes Go.WideShapes Go.ChangeAt Go.RowKit
set_option linter.unusedVariables false
set_option maxRecDepth 100000
set_option linter.unusedSimpArgs false
/-- operations on cells, and parkings -/
def cellOps (C P : Nat) : Ops Itm where
  is := fun w Q x d p => (∃ b F caps, d = cloV 129 #[pV b] ∧ p = .pointer none ∧ Q b ∧ Blk w b 28 #[cloV F caps] ∧ CloAt w C Q x F caps) ∨ ((x.kind = 5 ∨ x.kind = 6) ∧ d = .nilFunc ∧ ∃ pb, p = pV pb ∧ Q pb ∧ Blk w pb 138 #[pV P, .int .i64 x.at', .bool (x.kind == 6)]) ∨ (x.kind = 8 ∧ p = .pointer none ∧ ∃ F caps, d = cloV F caps)
  keep := fun {w w1 Q Q' F x d p} h hk hd hq => by
    rcases h with ⟨b, G, caps, e1, e2, h1, h2, h3⟩ | ⟨e1, e2, pb, e4, h1, h2⟩ | h
    · exact .inl ⟨b, G, caps, e1, e2, hq _ h2.lt h1, h2.keep hk (hd _ h1), h3.keep hk hd hq⟩
    · exact .inr (.inl ⟨e1, e2, pb, e4, hq _ h2.lt h1, h2.keep hk (hd _ h1)⟩)
    · exact .inr (.inr h)
  op := fun {w Q x d p} h => by
    rcases h with ⟨b, G, caps, e1, e2, h1, h2, h3⟩ | ⟨e1, e2, pb, e4, h1, h2⟩ | ⟨_, e2, G, caps, e1⟩
    · exact .inl ⟨_, _, e1, e2⟩
    · exact .inr ⟨_, e2, e4⟩
    · exact .inl ⟨_, _, e1, e2⟩
/-- continuations of tasks of items -/
def K0 (C P : Nat) (w : World) (Q : Nat → Prop) (f : Nat) (k : Int → Tre Itm) : Prop :=
  (∃ s, Cont w C P Q f s ∧ k = itmT s) ∨ (∃ x, x.kind = 4 ∧ Link2 w C Q x f ∧ k = loopK x) ∨ (Link3 w Q f ∧ k = spinK)
theorem conts_behind {C P : Nat} {w : World} {Q : Nat → Prop} : ∀ (fs : List Nat) (r : List Itm), Conts (Cont w C P Q) fs r → ∀ s u, Behind (K0 C P w Q) fs (itmT s u) (itmT (s ++ r) u)
  | [], r, e, s, u => by
    simp only [Conts] at e
    subst e
    rw [List.append_nil]
    exact rfl
  | f :: fs, r, ⟨s1, r2, h1, h2, e⟩, s, u => by
    subst e
    exact ⟨itmT s1, itmT (s1 ++ r2), .inl ⟨s1, h1, rfl⟩, itmT_append _ _ _, fun v => conts_behind fs r2 h2 s1 v⟩
theorem task_tree {C P : Nat} {w : World} {Q : Nat → Prop} {t : Nat} {r : List Itm} {v : Int} (h : TaskC w C P Q t r v) : TaskT (cellOps C P) (K0 C P w Q) w Q (some ⟨t, 0, none⟩) (itmT r v) := by
  rcases h.view with ⟨rfl, hd⟩ | ⟨x, r', d, p, rest, gs, fs, rfl, hL, hT, hO, hC⟩
  · exact .inl ⟨v, rfl, hd⟩
  · have h7 := hO.kind
    have hb := conts_behind fs r' hC
    rcases hO with ⟨hO, ⟨h4, rfl⟩ | ⟨h4, k3, k2, rfl, l3, l2⟩⟩ | ⟨h5, rfl, rfl, hO⟩
    · refine .inr ⟨x, itmT r', t, d, p, rest, fs, ?_, rfl, hL, hT, .inl hO, fun u => hb [] u⟩
      simp only [itmT]
      rw [if_neg (by omega), if_neg h4]
    · refine .inr ⟨x, fun u => bindT (itmT r') (bindT (loopK x) (spinK u)), t, d, p, rest, _, ?_, rfl, hL, hT, .inl hO, fun u => ?_⟩
      · simp only [itmT]
        rw [if_neg (by omega), if_pos h4, spinT_eq2, bindT_op]
      · refine ⟨spinK, fun u => bindT (itmT r') (bindT (loopK x) (spinK u)), .inr (.inr ⟨l3, rfl⟩), by rw [bindT_ret], fun u => ⟨loopK x, fun u => bindT (itmT r') (loopK x u), .inr (.inl ⟨x, h4, l2, rfl⟩), by exact bindT_assoc _ _ _, fun u => ?_⟩⟩
        show Behind (K0 C P w Q) fs (loopK x u) (bindT (itmT r') (loopK x u))
        unfold loopK
        by_cases hu : u = -2147483648
        · rw [if_pos hu]
          have e1 : itmT [x] 0 = spinT x := by
            simp only [itmT]
            rw [if_neg (by omega), if_pos h4]
            exact spin_end x
          have := hb [x] 0
          rwa [itmT_append, e1] at this
        · rw [if_neg hu, bindT_ret]
          exact hb [] u
    · refine .inr ⟨x, itmT r', t, _, p, rest, fs, ?_, rfl, hL, hT, .inr (.inl ⟨h5, rfl, hO⟩), fun u => hb [] u⟩
      simp only [itmT]
      rw [if_neg (by omega), if_neg (by omega)]
theorem k0_step (C P : Nat) (w : World) (Q : Nat → Prop) (f : Nat) (k : Int → Tre Itm) (h : K0 C P w Q f k) : ContS (cellOps C P) (K0 C P) w Q f k := by
  have hd : ∀ b, Q b → ¬ ¬ Q b := fun b h hn => hn h
  rcases h with ⟨s, hc, rfl⟩ | ⟨x, h4, l2, rfl⟩ | ⟨l3, rfl⟩
  · obtain ⟨h1, bl, B, o, cap, L, h2, _⟩ := hc.unfold
    refine ⟨h1, h2.lt, fun v w1 hw => ?_⟩
    refine (cont_call C P (fun b => (Q b ∧ b < w.heap.size) ∨ w1.heap.size ≤ b) f s v w1 (hc.keep hw hd (fun b hb h => .inl ⟨h, hb⟩)) (fun k hk => .inr hk)).mono ?_
    rintro e w2 ⟨t, rfl, hM⟩
    have := task_tree hM.task
    rw [itmT_on] at this
    refine ⟨some ⟨t, 0, none⟩, rfl, hM.2.2, this, fun j e => ?_⟩
    injection e with e
    injection e with e
    exact .inr (e ▸ hM.1)
  · obtain ⟨q1, bb, body, q2, q3, q4, q5⟩ := l2
    refine ⟨q1, q2.lt, fun v w1 hw => ?_⟩
    refine then1P_any f 120 #[pV bb] v w1 _ (q2.keep hw (fun h => h q1)) call_loop1 fun w2 hb => ?_
    have hsz := hb.size
    have hw2 : Keep (fun b => ¬ Q b) w w2 := hw.step (Q' := fun _ => False) (Keep.ofBelow hb) (fun _ _ h => h.elim)
    refine (loop1_any C P (fun b => (Q b ∧ b < w.heap.size) ∨ w1.heap.size ≤ b) x bb body v w2 h4 (q4.keep hw2 (fun h => h q3)) (q5.keep hw2 hd (fun b hb h => .inl ⟨h, hb⟩)) (fun k hk => .inr (by omega))).mono ?_
    have hn : ∀ t, w2.heap.size ≤ t → InQ (fun b => (Q b ∧ b < w.heap.size) ∨ w1.heap.size ≤ b) (some ⟨t, 0, none⟩) := fun t ht j e => by
      injection e with e
      injection e with e
      exact .inr (by omega)
    unfold loopK
    rintro e w3 ⟨t, rfl, ⟨rfl, hM⟩ | ⟨hv, hM⟩⟩
    · have := task_tree hM.task
      simp only [itmT] at this
      rw [if_neg (by omega), if_pos h4, show (fun v => retT v : Int → Tre Itm) = retT from rfl, spin_end] at this
      exact ⟨some ⟨t, 0, none⟩, rfl, hb.trans (hM.2.2.mono hsz), by rw [if_pos rfl]; exact this, hn t hM.1⟩
    · exact ⟨some ⟨t, 0, none⟩, rfl, hb.trans (hM.2.2.mono hsz), by rw [if_neg hv]; exact task_tree hM.task, hn t hM.1⟩
  · obtain ⟨q1, q2⟩ := l3
    refine ⟨q1, q2.lt, fun v w1 hw => ?_⟩
    refine then1P_any f 148 #[] v w1 _ (q2.keep hw (fun h => h q1)) call_spin11 fun w2 hb => ?_
    have hsz := hb.size
    refine (spin11_any v w2).mono ?_
    rintro e w3 ⟨t, rfl, g1, g2, g3⟩
    refine ⟨some ⟨t, 0, none⟩, rfl, hb.trans (g3.mono hsz), .inl ⟨_, ?_, g2⟩, fun j e => ?_⟩
    · unfold spinK
      split <;> rfl
    · injection e with e
      injection e with e
      exact .inr (by omega)
theorem TaskC.tree {C P : Nat} {w : World} {Q : Nat → Prop} {t : Nat} {r : List Itm} {v : Int} (h : TaskC w C P Q t r v) : TaskF (cellOps C P) w Q (some ⟨t, 0, none⟩) (itmT r v) :=
  TaskT.keep (task_tree h) (fun f k h => ⟨K0 C P, k0_step C P, h⟩) (Keep.refl (fun _ => False) w) (fun _ _ h => h) (fun _ _ h => h) (fun _ _ h => h)
/-- a task of a caller's own, at block t, of the blocks of which Q is said -/
def TkT {A : Type} (O : Ops A) (w : World) (t : Nat) (Q : Nat → Prop) (T : Tre A) : Prop :=
  ∃ Q1 : Nat → Prop, TaskF O w Q1 (some ⟨t, 0, none⟩) T ∧ ¬ Q1 t ∧ (∀ b, Q1 b ∨ b = t → Q b) ∧ ∀ b, Q b → b < w.heap.size
theorem TkT.keep {A : Type} {O : Ops A} {w w1 : World} {t : Nat} {Q F : Nat → Prop} {T : Tre A} (h : TkT O w t Q T) (hk : Keep F w w1) (hn : ∀ b, Q b → ¬ F b) : TkT O w1 t Q T := by
  obtain ⟨Q1, h1, h2, h3, h4⟩ := h
  exact ⟨Q1, TaskF.keep h1 hk (fun b hb => hn b (h3 b (.inl hb))) (fun k e => by injection e with e; injection e with e; exact e ▸ hn t (h3 t (.inr rfl))) (fun _ _ h => h), h2, h3, fun b hb => Nat.lt_of_lt_of_le (h4 b hb) hk.size⟩
theorem TkT.still {A : Type} {O : Ops A} {w w1 : World} {t : Nat} {Q : Nat → Prop} {T : Tre A} (h : TkT O w t Q T) (hk : Keep (fun _ => False) w w1) : TkT O w1 t Q T := h.keep hk (fun _ _ h => h)
theorem TkT.lt {A : Type} {O : Ops A} {w : World} {t : Nat} {Q : Nat → Prop} {T : Tre A} (h : TkT O w t Q T) : ∀ b, Q b → b < w.heap.size := by
  obtain ⟨Q1, h1, h2, h3, h4⟩ := h
  exact h4
theorem TkT.own {A : Type} {O : Ops A} {w : World} {t : Nat} {Q : Nat → Prop} {T : Tre A} (h : TkT O w t Q T) : Q t := by
  obtain ⟨Q1, h1, h2, h3, h4⟩ := h
  exact h3 t (.inr rfl)
/-- a new one -/
theorem TkT.new {A : Type} {O : Ops A} {w' : World} {t : Nat} {Q : Nat → Prop} {T : Tre A} (h : TaskF O w' (fun b => Q b ∧ b ≠ t) (some ⟨t, 0, none⟩) T) (hq : Q t) : TkT O w' t (fun b => Q b ∧ b < w'.heap.size) T :=
  ⟨fun b => (Q b ∧ b ≠ t) ∧ b < w'.heap.size, TaskF.keep h (Keep.refl (fun _ => False) w') (fun _ _ h => h) (fun _ _ h => h) (fun b hb h => ⟨h, hb⟩), fun h => h.1.2 rfl, fun b hb => by
    rcases hb with hb | rfl
    · exact ⟨hb.1.1, hb.2⟩
    · exact ⟨hq, TaskT.lt h⟩, fun b hb => hb.2⟩
theorem Made6.tkT {w w' : World} {C P : Nat} {Q : Nat → Prop} {r : List Itm} {v : Int} {t : Nat} (h : Made6 w C P Q r v t w') (hq : Q t) : TkT (cellOps C P) w' t (fun b => Q b ∧ b < w'.heap.size) (itmT r v) := TkT.new (TaskC.tree h.2.1) hq
theorem TkT.from {A : Type} {O : Ops A} {w w' : World} {t : Nat} {Q Q1 : Nat → Prop} {T : Tre A} (ht : t < w.heap.size) (hw : w.heap.size ≤ w'.heap.size) (h1 : ∀ b, Q1 b ∨ b = t → Q b) (h2 : ¬ Q1 t) (h : TaskF O w' (fun b => Q1 b ∨ w.heap.size ≤ b) (some ⟨t, 0, none⟩) T) :
    ∃ Q', TkT O w' t Q' T ∧ ∀ b, Q' b → Q b ∨ w.heap.size ≤ b :=
  ⟨fun b => (Q b ∨ w.heap.size ≤ b) ∧ b < w'.heap.size, ⟨fun b => (Q1 b ∨ w.heap.size ≤ b) ∧ b < w'.heap.size, TaskF.keep h (Keep.refl (fun _ => False) w') (fun _ _ h => h) (fun _ _ h => h) (fun b hb hq => ⟨hq, hb⟩),
    fun hh => by rcases hh.1 with hh | hh
                 · exact h2 hh
                 · omega,
    fun b hb => by
      rcases hb with ⟨hb | hb, hlt⟩ | rfl
      · exact ⟨.inl (h1 b (.inl hb)), hlt⟩
      · exact ⟨.inr hb, hlt⟩
      · exact ⟨.inl (h1 b (.inr rfl)), by omega⟩, fun b hb => hb.2⟩, fun b hb => hb.1⟩
theorem TkT.done {A : Type} {O : Ops A} {w : World} {t : Nat} {Q : Nat → Prop} {v : Int} (h : TkT O w t Q (retT v)) : DoneV w (some ⟨t, 0, none⟩) v := by
  obtain ⟨Q1, h1, h2, h3, h4⟩ := h
  rcases h1 with ⟨u, e, h⟩ | ⟨x, κ, k, d, p, rest, fs, e, _⟩
  · rw [retT_inj e]; exact h
  · exact (ret_op e).elim
theorem TkT.live {A : Type} {O : Ops A} {w : World} {t : Nat} {Q : Nat → Prop} {x : A} {κ : Int → Tre A} (h : TkT O w t Q (opT x κ)) :
    ∃ Q1 : Nat → Prop, ¬ Q1 t ∧ (∀ b, Q1 b ∨ b = t → Q b) ∧ t < w.heap.size ∧ ∃ d p rest fs, Live w t d p rest ∧ TreeO w Q1 rest fs ∧ O.is w Q1 x d p ∧ ∀ v, Behind (ContT O w Q1) fs (retT v) (κ v) := by
  obtain ⟨Q1, h1, h2, h3, h4⟩ := h
  refine ⟨Q1, h2, h3, h4 t (h3 t (.inr rfl)), ?_⟩
  rcases h1 with ⟨u, e, h⟩ | ⟨x', κ', k, d, p, rest, fs, e, e2, g1, g2, g3, g4⟩
  · exact (ret_op e.symm).elim
  · obtain ⟨rfl, rfl⟩ := opT_inj e
    injection e2 with e2
    injection e2 with e2
    subst e2
    exact ⟨d, p, rest, fs, g1, g2, g3, g4⟩
theorem tdoneT_ret {A : Type} {O : Ops A} (t : Nat) (Q : Nat → Prop) (v : Int) (w : World) (h : TkT O w t Q (retT v)) : Calls Tryz.prog 37 #[pV t] w fun e w' => e = .returned (.bool true) ∧ w = w' := doneV_done _ v w h.done
theorem tdoneT_op {A : Type} {O : Ops A} (t : Nat) (Q : Nat → Prop) (x : A) (κ : Int → Tre A) (w : World) (h : TkT O w t Q (opT x κ)) : Calls Tryz.prog 37 #[pV t] w fun e w' => e = .returned (.bool false) ∧ w = w' := by
  obtain ⟨_, _, _, _, d, p, rest, fs, hL, _⟩ := h.live
  exact live_done t d p rest w hL
theorem tvalueT_ret {A : Type} {O : Ops A} (t : Nat) (Q : Nat → Prop) (v : Int) (w : World) (h : TkT O w t Q (retT v)) : Calls Tryz.prog 23 #[pV t] w fun e w' => e = .returned (.int .i64 v) ∧ w = w' := doneV_value _ v w h.done
theorem tvalueT_op {A : Type} {O : Ops A} (t : Nat) (Q : Nat → Prop) (x : A) (κ : Int → Tre A) (w : World) (h : TkT O w t Q (opT x κ)) : Calls Tryz.prog 23 #[pV t] w fun e w' => e = .returned (.int .i64 0) ∧ w = w' := by
  obtain ⟨_, _, _, _, d, p, rest, fs, hL, _⟩ := h.live
  exact value_any t _ _ _ 0 w hL.blk
theorem tstepT_ret {A : Type} {O : Ops A} (t : Nat) (Q : Nat → Prop) (v k : Int) (w : World) (h : TkT O w t Q (retT v)) : Calls Tryz.prog 36 #[pV t, .int .i64 k] w fun e w' => e = .returned (.bool false) ∧ w = w' := step_done _ v k w h.done
/-- a step that does an operation on cells -/
theorem tstepT_op (C P S t : Nat) (Q : Nat → Prop) (x : Itm) (κ : Int → Tre Itm) (m : List Int) (n : Int) (w : World) (h : TkT (cellOps C P) w t Q (opT x κ)) (hC : CellsAt w C S m n) (hk : x.kind < 5) (hQ : ∀ b, Q b → b ≠ C ∧ b ≠ S) (hn : 0 ≤ n ∧ n ≤ 2000000) :
    Calls Tryz.prog 36 #[pV t, .int .i64 0] w fun e w' => e = .returned (.bool true) ∧ (∃ Q', TkT (cellOps C P) w' t Q' (κ (operS m x).2.1) ∧ ∀ b, Q' b → Q b ∨ w.heap.size ≤ b) ∧
      CellsAt w' C S (operS m x).1 (n + countS m x) ∧ Keep (fun b => b = t ∨ ofCells C S b) w w' := by
  obtain ⟨Q1, q1, q2, hlt, d, p, rest, fs, hL, hT, hO, hc⟩ := h.live
  have hcq : ∀ b, Q1 b → ¬ ofCells C S b := fun b hb hf => by
    have := hQ b (q2 b (.inl hb))
    rcases hf with hf | hf
    · exact this.1 hf
    · exact this.2 hf
  have htc : ¬ ofCells C S t := fun hf => by
    have := hQ t (q2 t (.inr rfl))
    rcases hf with hf | hf
    · exact this.1 hf
    · exact this.2 hf
  obtain ⟨b, F, caps, rfl, rfl, b1, b2, b3⟩ : ∃ b F caps, d = cloV 129 #[pV b] ∧ p = .pointer none ∧ Q1 b ∧ Blk w b _ #[cloV F caps] ∧ CloAt w C Q1 x F caps := by
    rcases hO with hO | ⟨hO, _⟩ | ⟨hO, _⟩
    · exact hO
    · omega
    · omega
  refine step_yes t _ _ rest 0 w (fun v' w2 => v' = (operS m x).2.1 ∧ CellsAt w2 C S (operS m x).1 (n + countS m x) ∧ Keep (ofCells C S) w w2)
    (fun w' => (∃ Q', TkT (cellOps C P) w' t Q' (κ (operS m x).2.1) ∧ ∀ b, Q' b → Q b ∨ w.heap.size ≤ b) ∧ CellsAt w' C S (operS m x).1 (n + countS m x) ∧ Keep (fun b => b = t ∨ ofCells C S b) w w') hL ?_ ?_
  · refine opend_do b w _ fun W hb => ?_
    have kW : Keep (fun _ => False) w W := Keep.ofBelow hb
    refine (do6_any C S Q1 m n x b F caps W (b2.below hb b2.lt) (b3.keep kW (fun _ _ h => h) (fun _ _ h => h)) (hC.keep kW (fun h => h) (fun h => h)) hn.1 (by omega)).mono ?_
    rintro e w' ⟨v', rfl, e1, e2, e3⟩
    exact ⟨v', rfl, e1, e2, (Keep.ofBelow hb).trans e3⟩
  · rintro v' w2 w3 k ⟨rfl, hC2, hk2⟩ g1 g2 g3
    have k3 : Keep (ofCells C S) w w3 := hk2.trans (Keep.ofBelow g3)
    have s2 := hk2.size
    have hT3 : TreeO w3 (fun b => Q1 b ∨ w.heap.size ≤ b) rest fs := (hT.keep k3 hcq).mono (fun b _ h => .inl h)
    have hJ : JotT (cellOps C P) (fun b => Q1 b ∨ w.heap.size ≤ b) t (κ (operS m x).2.1) w3 (some ⟨k, 0, none⟩) fs :=
      ⟨_, .inl ⟨_, rfl, g2⟩, fun j e => by injection e with e; injection e with e; omega, (hc _).keep k3 hcq (fun b _ h => .inl h)⟩
    refine (goon_tree (cellOps C P) t _ _ _ rest fs (fun b => Q1 b ∨ w.heap.size ≤ b) _ w3 (hL.blk.keep k3 htc) hT3 (fun j hj => .inr (by have := k3.size; omega)) (fun hh => hh.elim q1 (fun h => by omega)) hJ).mono ?_
    rintro e w' ⟨rfl, k4, hT4⟩
    have k5 : Keep (fun b => b = t ∨ ofCells C S b) w w' := (k3.mono (fun _ _ h => .inr h)).trans (k4.mono (fun _ _ h => .inl h))
    refine ⟨rfl, TkT.from hlt k5.size q2 q1 hT4, ?_, k5⟩
    have hC3 := hC2.keep (Keep.ofBelow (Q := fun _ => False) g3) (fun h => h) (fun h => h)
    exact hC3.keep k4 (fun e => htc (.inl e.symm)) (fun e => htc (.inr e.symm))
end Go.Proofs.YtpejmkoheodblaaGreat
