/- Package task: going on behind a step. -/
import Derived.Test.YtpejmkoheodblaaGreatTaskJ
namespace Go.Proofs.YtpejmkoheodblaaGreat
open Go.ChangeShapes Go.WideShapes Go.ChangeAt Go.RowKit
set_option linter.unusedVariables false
set_option maxRecDepth 100000
set_option linter.unusedSimpArgs false
theorem DoneV.val {w : World} {n : Option Addr} {v v' : Int} (h : DoneV w n v) (h' : DoneV w n v') : v' = v := by
  rcases h with ⟨e1, e2⟩ | ⟨k1, e1, e2⟩
  · rcases h' with ⟨e3, e4⟩ | ⟨k3, e3, e4⟩
    · rw [e4, e2]
    · rw [e1] at e3; cases e3
  · rcases h' with ⟨e3, e4⟩ | ⟨k3, e3, e4⟩
    · rw [e1] at e3; cases e3
    · rw [e1] at e3; obtain rfl : k1 = k3 := by simpa using e3
      have e := (show w.heap[k1]? = _ from e4).symm.trans e2
      simpa using e
/-- between a step's operation and its end: the task at hand, what follows, and what is to come of both -/
def Jot (C P : Nat) (Q : Nat → Prop) (t : Nat) (R : List Itm) (V : Int) (a : World) (n : Option Addr) (fs : List Nat) : Prop :=
  (∃ k r v r', n = some ⟨k, 0, none⟩ ∧ k ≠ t ∧ TaskC a C P Q k r v ∧ Conts (Cont a C P Q) fs r' ∧ (r = [] → onS r' v = (R, V)) ∧ (r ≠ [] → R = r ++ r')) ∨
  (∃ k v x k2 gs r', n = some ⟨k, 0, none⟩ ∧ k ≠ t ∧ fs = k2 :: gs ∧ DoneV a n v ∧ x.kind = 4 ∧ Link2 a C Q x k2 ∧ Conts (Cont a C P Q) gs r' ∧ (v = -2147483648 → R = x :: r') ∧ (v ≠ -2147483648 → onS r' v = (R, V))) ∨
  (∃ k v x k3 k2 gs r', n = some ⟨k, 0, none⟩ ∧ k ≠ t ∧ fs = k3 :: k2 :: gs ∧ DoneV a n v ∧ x.kind = 4 ∧ Link3 a Q k3 ∧ Link2 a C Q x k2 ∧ Conts (Cont a C P Q) gs r' ∧ (v = 0 → R = x :: r') ∧ (v ≠ 0 → v ≠ -2147483648 ∧ onS r' v = (R, V)))
theorem Jot.keep {C P : Nat} {Q : Nat → Prop} {t : Nat} {R : List Itm} {V : Int} {a b : World} {n : Option Addr} {fs : List Nat} (h : Jot C P Q t R V a n fs) (hk : Keep (fun k => k = t) a b) (hQt : ¬ Q t) : Jot C P Q t R V b n fs := by
  have hd : ∀ b, Q b → ¬ (b = t) := fun b hb e => hQt (e ▸ hb)
  have hq : ∀ b, b < a.heap.size → Q b → Q b := fun _ _ h => h
  rcases h with ⟨k, r, v, r', e, h1, h2, h3, h4⟩ | ⟨k, v, x, k2, gs, r', e, h1, h2, h3, h4, h5, h6, h7⟩ | ⟨k, v, x, k3, k2, gs, r', e, h1, h2, h3, h4, h5, h6, h7, h8⟩
  · exact .inl ⟨k, r, v, r', e, h1, h2.keep hk hd h1 hq, h3.keep hk hd hq, h4⟩
  · exact .inr (.inl ⟨k, v, x, k2, gs, r', e, h1, h2, h3.keep hk (fun j ej => by rw [e] at ej; injection ej with ej; injection ej with ej; omega), h4, h5.keep hk hd hq, h6.keep hk hd hq, h7⟩)
  · exact .inr (.inr ⟨k, v, x, k3, k2, gs, r', e, h1, h2, h3.keep hk (fun j ej => by rw [e] at ej; injection ej with ej; injection ej with ej; omega), h4, h5.keep hk hd hq, h6.keep hk hd hq, h7.keep hk hd hq, h8⟩)
theorem done_task {C P : Nat} {Q : Nat → Prop} {k : Nat} {v : Int} {w : World} (h : DoneV w (some ⟨k, 0, none⟩) v) : TaskC w C P Q k [] v := by
  obtain ⟨k', e, h⟩ := h.resolve_left (fun h => by cases h.1)
  obtain rfl : k = k' := by simpa using e
  exact ⟨_, _, _, _, h, rfl, rfl, rfl, rfl⟩
/-- what is called next leaves as much -/
theorem Jot.next {C P : Nat} {Q : Nat → Prop} {t : Nat} {R : List Itm} {V : Int} {a : World} {n : Option Addr} {f : Nat} {fs : List Nat} {v : Int} (h : Jot C P Q t R V a n (f :: fs)) (hd : DoneV a n v) (ht : t < a.heap.size) (hQ : ∀ k, a.heap.size ≤ k → Q k) :
    Calls Tryz.prog 113 #[.int .i64 v, pV f] a fun e b => ∃ k, e = .returned (pV k) ∧ Jot C P Q t R V b (some ⟨k, 0, none⟩) fs ∧ Below a.heap.size a b := by
  rcases h with ⟨k, r, v', r', rfl, h1, h2, h3, h4, h5⟩ | ⟨k, v', x, k2, gs, r', e, h1, h2, h3, h4, h5, h6, h7, h8⟩ | ⟨k, v', x, k3, k2, gs, r', e, h1, h2, h3, h4, h5, h6, h7, h8, h9⟩
  · obtain ⟨s, r2, hc, hcs, rfl⟩ := h3
    have hr : r = [] ∧ v' = v := by
      rcases h2.view with ⟨rfl, hd'⟩ | ⟨x, r', d, p, rest, gs, fs, rfl, hL, _⟩
      · exact ⟨rfl, hd.val hd'⟩
      · exact (hd.live hL).elim
    obtain ⟨rfl, rfl⟩ := hr
    refine (cont_call C P Q f s v' a hc hQ).mono ?_
    rintro e b ⟨k', rfl, hM⟩
    have g2 := hM.task
    obtain ⟨g1, _, g3⟩ := hM
    have hk : Keep (fun _ => False) a b := Keep.ofBelow g3
    refine ⟨k', rfl, .inl ⟨k', _, _, r2, rfl, by omega, g2, hcs.keep hk (fun _ _ h => h) (fun _ _ h => h), fun he => ?_, fun he => ?_⟩, g3⟩
    · have := h4 rfl
      rwa [onS_append, if_pos he] at this
    · have := h4 rfl
      rw [onS_append, if_neg he] at this
      exact (congrArg Prod.fst this).symm
  · obtain rfl : v' = v := hd.val h3
    simp only [List.cons.injEq] at h2
    obtain ⟨rfl, rfl⟩ := h2
    obtain ⟨q1, bb, body, q2, q3, q4, q5⟩ := h5
    refine (then1_any f 120 #[pV bb] v' a (fun k b => Below a.heap.size a b ∧ a.heap.size ≤ k ∧ ((v' = -2147483648 ∧ TaskC b C P Q k [x] 0) ∨ (v' ≠ -2147483648 ∧ TaskC b C P Q k [] v'))) q2 call_loop1 fun w1 hb => ?_).mono ?_
    · have hsz := hb.size
      refine (loop1_any C P Q x bb body v' w1 h4 (q4.below hb q4.lt) (q5.keep (Keep.ofBelow (Q := fun _ => False) hb) (fun _ _ h => h) (fun _ _ h => h)) (fun k hk => hQ k (by omega))).mono ?_
      rintro e w2 ⟨k', rfl, ⟨e1, hM⟩ | ⟨e1, hM⟩⟩
      · exact ⟨k', rfl, hb.trans (hM.2.2.mono hsz), Nat.le_trans hsz hM.1, .inl ⟨e1, hM.task⟩⟩
      · exact ⟨k', rfl, hb.trans (hM.2.2.mono hsz), Nat.le_trans hsz hM.1, .inr ⟨e1, hM.task⟩⟩
    · rintro e b ⟨k', rfl, g1, g2, ⟨e1, g3⟩ | ⟨e1, g3⟩⟩
      · refine ⟨k', rfl, .inl ⟨k', [x], 0, r', rfl, by omega, g3, h6.keep (Keep.ofBelow (Q := fun _ => False) g1) (fun _ _ h => h) (fun _ _ h => h), fun he => (by cases he), fun _ => h7 e1⟩, g1⟩
      · refine ⟨k', rfl, .inl ⟨k', [], v', r', rfl, by omega, g3, h6.keep (Keep.ofBelow (Q := fun _ => False) g1) (fun _ _ h => h) (fun _ _ h => h), fun _ => h8 e1, fun he => absurd rfl he⟩, g1⟩
  · obtain rfl : v' = v := hd.val h3
    simp only [List.cons.injEq] at h2
    obtain ⟨rfl, rfl⟩ := h2
    obtain ⟨q1, q2⟩ := h5
    refine (then1_any f 148 #[] v' a (fun k b => Below a.heap.size a b ∧ a.heap.size ≤ k ∧ DoneV b (some ⟨k, 0, none⟩) (if v' = 0 then -2147483648 else v')) q2 call_spin11 fun w1 hb => ?_).mono ?_
    · have hsz := hb.size
      refine (spin11_any v' w1).mono ?_
      rintro e w2 ⟨k', rfl, g1, g2, g3⟩
      exact ⟨k', rfl, hb.trans (g3.mono hsz), by omega, g2⟩
    · rintro e b ⟨k', rfl, g1, g2, g3⟩
      refine ⟨k', rfl, .inr (.inl ⟨k', _, x, k2, gs, r', rfl, by omega, rfl, g3, h4, h6.keep (Keep.ofBelow (Q := fun _ => False) g1) (fun _ _ h => h) (fun _ _ h => h), h7.keep (Keep.ofBelow (Q := fun _ => False) g1) (fun _ _ h => h) (fun _ _ h => h), fun he => ?_, fun he => ?_⟩), g1⟩
      · by_cases hv : v' = 0
        · exact h8 hv
        · rw [if_neg hv] at he
          exact absurd he (h9 hv).1
      · by_cases hv : v' = 0
        · rw [if_pos hv] at he; exact absurd rfl he
        · rw [if_neg hv]; exact (h9 hv).2
theorem Jot.view {C P : Nat} {Q : Nat → Prop} {t : Nat} {R : List Itm} {V : Int} {a : World} {n : Option Addr} {fs : List Nat} (h : Jot C P Q t R V a n fs) :
    n ≠ some ⟨t, 0, none⟩ ∧ ((∃ v, DoneV a n v) ∨ ∃ k d p r gs, n = some ⟨k, 0, none⟩ ∧ Live a k d p r ∧ TreeO a Q r gs) := by
  rcases h with ⟨k, r, v', r', rfl, h1, h2, h3, h4, h5⟩ | ⟨k, v', x, k2, gs, r', rfl, h1, h2, h3, h4, h5, h6, h7, h8⟩ | ⟨k, v', x, k3, k2, gs, r', rfl, h1, h2, h3, h4, h5, h6, h7, h8, h9⟩
  · refine ⟨fun e => by injection e with e; injection e with e; exact h1 e, ?_⟩
    rcases h2.view with ⟨rfl, hd'⟩ | ⟨x, r', d, p, rest, gs, fs, rfl, hL, hT, _⟩
    · exact .inl ⟨_, hd'⟩
    · exact .inr ⟨k, d, p, rest, gs ++ fs, rfl, hL, hT⟩
  · exact ⟨fun e => by injection e with e; injection e with e; exact h1 e, .inl ⟨_, h3⟩⟩
  · exact ⟨fun e => by injection e with e; injection e with e; exact h1 e, .inl ⟨_, h3⟩⟩
theorem goon_task (C P : Nat) (Q : Nat → Prop) (t k : Nat) (R : List Itm) (V : Int) (d0 p0 r0 : Value) (fs : List Nat) (w : World) (ht : Blk w t 96 #[d0, p0, r0, .int .i64 0]) (hr : TreeO w Q r0 fs) (hQ : ∀ k, w.heap.size ≤ k → Q k) (hQt : ¬ Q t)
    (hJ : Jot C P Q t R V w (some ⟨k, 0, none⟩) fs) :
    Calls Tryz.prog 68 #[pV t, pV k] w fun e w' => e = .returned (.tuple #[]) ∧ Keep (fun k => k = t) w w' ∧ TaskC w' C P Q t R V := by
  have hlt := ht.lt
  refine (goon_gen t (some ⟨k, 0, none⟩) d0 p0 r0 0 fs Q (Jot C P Q t R V) w ht hr hQ hQt hJ (fun a b n fs _ h hk => h.keep hk hQt) (fun a n fs h => h.view) (fun a n f fs v ha h hd => h.next hd (by omega) (fun k hk => hQ k (by omega)))).mono ?_
  rintro e w' ⟨rfl, hk, n, gs, hj, hp⟩
  refine ⟨rfl, hk, ?_⟩
  rcases hp with ⟨rfl, v, hd, hB⟩ | ⟨k1, d, p, r, g1, j, rfl, hL, hT, hT2, hB⟩
  · rcases hj with ⟨k, r, v', r', rfl, h1, h2, h3, h4, h5⟩ | ⟨_, _, _, _, _, _, _, _, h2, _⟩ | ⟨_, _, _, _, _, _, _, _, _, h2, _⟩
    · rcases h2.view with ⟨rfl, hd'⟩ | ⟨x, r', d, p, rest, gs, fs, rfl, hL, hT, _⟩
      · obtain rfl := hd.val hd'
        have e := h4 rfl
        simp only [Conts] at h3
        subst h3
        simp only [onS, Prod.mk.injEq] at e
        obtain ⟨rfl, rfl⟩ := e
        exact ⟨_, _, _, _, hB, rfl, rfl, rfl, rfl⟩
      · exact (hd.live hL).elim
    · cases h2
    · cases h2
  · rcases hj with ⟨k, r', v', r2, e, h1, h2, h3, h4, h5⟩ | ⟨_, _, _, _, _, _, _, _, _, hd, _⟩ | ⟨_, _, _, _, _, _, _, _, _, _, hd, _⟩
    · obtain rfl : k1 = k := by simpa using e
      rcases h2.view with ⟨rfl, hd'⟩ | ⟨x, r3, d', p', rest, gs', fs', rfl, hL', hT', hO, hC⟩
      · exact (hd'.live hL).elim
      · obtain ⟨rfl, rfl, rfl⟩ := hL.unique hL'
        obtain rfl := hT.unique hT'
        rw [h5 (by simp)]
        exact ⟨_, _, j, 0, hB, rfl, gs', fs' ++ gs, by rw [← List.append_assoc]; exact hT2, hO, Conts.append _ _ _ _ hC h3⟩
    · exact (hd.live hL).elim
    · exact (hd.live hL).elim
end Go.Proofs.YtpejmkoheodblaaGreat
