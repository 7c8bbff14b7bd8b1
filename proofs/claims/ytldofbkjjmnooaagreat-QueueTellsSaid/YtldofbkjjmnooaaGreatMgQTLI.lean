/- Package task: tasks by what they may yet do, where what is behind an operation may turn blocks of its own (closures with a state). -/
import Derived.Test.YtldofbkjjmnooaaGreatMgQTLH
import Derived.Test.YtldofbkjjmnooaaGreatMgQTLG
import Derived.Maps.Own
import Derived.Maps.OwnSet
import Derived.Maps.Views
namespace Go.Proofs.YtldofbkjjmnooaaGreat
open Go.ChangeShapes Go.WideShapes Go.ChangeAt Go.RowKit
set_option linter.unusedVariables false
set_option maxRecDepth 100000
set_option linter.unusedSimpArgs false
/-- what is said of all that is behind an operation -/
abbrev MRel (A : Type) := World → (Nat → Prop) → (Nat → Prop) → List Nat → (Int → Tre A) → Prop
/-- a task at hand, and what is behind it, are together R -/
def JM {A : Type} (O : Ops A) (K : MRel A) (w : World) (Q M : Nat → Prop) (n : Option Addr) (fs : List Nat) (R : Tre A) : Prop :=
  (∃ u κ, DoneV w n u ∧ K w Q M fs κ ∧ R = κ u) ∨
  ∃ x g k d p rest gs, R = opT x g ∧ n = some ⟨k, 0, none⟩ ∧ Live w k d p rest ∧ TreeO w (fun b => Q b ∧ ¬ M b) rest gs ∧ O.is w Q x d p ∧ K w Q M (gs ++ fs) g
theorem JM.mono {A : Type} {O : Ops A} {K K' : MRel A} {w : World} {Q Q' M : Nat → Prop} {n : Option Addr} {fs : List Nat} {R : Tre A} (h : JM O K w Q M n fs R) (hK : ∀ fs κ, K w Q M fs κ → K' w Q' M fs κ) (hq : ∀ b, b < w.heap.size → Q b → Q' b) : JM O K' w Q' M n fs R := by
  rcases h with ⟨u, κ, h1, h2, e⟩ | ⟨x, g, k, d, p, rest, gs, e, e2, h1, h2, h3, h4⟩
  · exact .inl ⟨u, κ, h1, hK _ _ h2, e⟩
  · exact .inr ⟨x, g, k, d, p, rest, gs, e, e2, h1, h2.mono (fun b hb h => ⟨hq b hb h.1, h.2⟩), O.keep h3 (Keep.refl (fun _ => False) w) (fun _ _ h => h) hq, hK _ _ h4⟩
def StepM {A : Type} (O : Ops A) (K : MRel A) (w : World) (Q M : Nat → Prop) (fs : List Nat) (κ : Int → Tre A) : Prop :=
  (∀ b, M b → Q b ∧ b < w.heap.size) ∧ match fs with
  | [] => κ = retT
  | f :: fs => Q f ∧ f < w.heap.size ∧ ∀ v w1, Keep (fun b => ¬ Q b) w w1 → Calls Tryz.prog 221 #[.int .i64 v, pV f] w1 fun e w2 => ∃ n M2, e = .returned (.pointer n) ∧ Keep M w1 w2 ∧ (∀ b, b < w1.heap.size → M2 b → M b) ∧
      InQ (fun b => (Q b ∧ b < w.heap.size) ∨ w1.heap.size ≤ b) n ∧ JM O K w2 (fun b => (Q b ∧ b < w.heap.size) ∨ w1.heap.size ≤ b) M2 n fs (κ v)
theorem StepM.mono {A : Type} {O : Ops A} {K K' : MRel A} (hK : ∀ w Q M fs κ, K w Q M fs κ → K' w Q M fs κ) {w : World} {Q M : Nat → Prop} {fs : List Nat} {κ : Int → Tre A} (h : StepM O K w Q M fs κ) : StepM O K' w Q M fs κ := by
  refine ⟨h.1, ?_⟩
  cases fs with
  | nil => exact h.2
  | cons f fs =>
    obtain ⟨h1, h2, h3⟩ := h.2
    refine ⟨h1, h2, fun v w1 hw => (h3 v w1 hw).mono ?_⟩
    rintro e w2 ⟨n, M2, rfl, g1, g2, g3, g4⟩
    exact ⟨n, M2, rfl, g1, g2, g3, g4.mono (fun fs κ h => hK _ _ _ _ _ h) (fun _ _ h => h)⟩
/-- .. the greatest there is -/
def ContsM {A : Type} (O : Ops A) : MRel A := fun w Q M fs κ => ∃ K : MRel A, (∀ w Q M fs κ, K w Q M fs κ → StepM O K w Q M fs κ) ∧ K w Q M fs κ
theorem ContsM.unfold {A : Type} {O : Ops A} {w : World} {Q M : Nat → Prop} {fs : List Nat} {κ : Int → Tre A} (h : ContsM O w Q M fs κ) : StepM O (ContsM O) w Q M fs κ := by
  obtain ⟨K, h1, h2⟩ := h
  exact (h1 w Q M fs κ h2).mono fun w Q M fs κ h => ⟨K, h1, h⟩
theorem ContsM.fold {A : Type} {O : Ops A} {w : World} {Q M : Nat → Prop} {fs : List Nat} {κ : Int → Tre A} (h : StepM O (ContsM O) w Q M fs κ) : ContsM O w Q M fs κ :=
  ⟨StepM O (ContsM O), fun w Q M fs κ h => h.mono fun w Q M fs κ h => h.unfold, h⟩
theorem ContsM.nil {A : Type} {O : Ops A} {w : World} {Q M : Nat → Prop} (h : ∀ b, M b → Q b ∧ b < w.heap.size) : ContsM O w Q M [] retT := ContsM.fold ⟨h, rfl⟩
theorem ContsM.ret {A : Type} {O : Ops A} {w : World} {Q M : Nat → Prop} {κ : Int → Tre A} (h : ContsM O w Q M [] κ) : κ = retT := h.unfold.2
theorem ContsM.few {A : Type} {O : Ops A} {w : World} {Q M : Nat → Prop} {fs : List Nat} {κ : Int → Tre A} (h : ContsM O w Q M fs κ) : ∀ b, M b → Q b ∧ b < w.heap.size := h.unfold.1
theorem ContsM.keep {A : Type} {O : Ops A} {w w1 : World} {Q Q' M F : Nat → Prop} {fs : List Nat} {κ : Int → Tre A} (h : ContsM O w Q M fs κ) (hk : Keep F w w1) (hd : ∀ b, Q b → ¬ F b) (hq : ∀ b, b < w.heap.size → Q b → Q' b) : ContsM O w1 Q' M fs κ := by
  refine ⟨fun w1 Q' M fs κ => ∃ w Q F, ContsM O w Q M fs κ ∧ Keep F w w1 ∧ (∀ b, Q b → ¬ F b) ∧ ∀ b, b < w.heap.size → Q b → Q' b, ?_, w, Q, F, h, hk, hd, hq⟩
  rintro w1 Q' M fs κ ⟨w, Q, F, h, hk, hd, hq⟩
  have hs := hk.size
  obtain ⟨hm, hr⟩ := h.unfold
  refine ⟨fun b hb => ⟨hq b (hm b hb).2 (hm b hb).1, Nat.lt_of_lt_of_le (hm b hb).2 hs⟩, ?_⟩
  cases fs with
  | nil => exact hr
  | cons f fs =>
    obtain ⟨h1, h2, h3⟩ := hr
    refine ⟨hq f h2 h1, Nat.lt_of_lt_of_le h2 hs, fun v w2 hw => ?_⟩
    have hK : Keep (fun b => ¬ Q b) w w2 := ⟨hw.os.trans hk.os, hw.tape.trans hk.tape, hw.output.trans hk.output, Nat.le_trans hs hw.size, fun b hb hn => by
      have hQ : Q b := Classical.not_not.1 hn
      rw [hw.block b (by omega) (fun h => h (hq b hb hQ)), hk.block b hb (hd b hQ)]⟩
    refine (h3 v w2 hK).mono ?_
    rintro e w3 ⟨n, M2, rfl, g1, g2, g3, g4⟩
    have hqq : ∀ b, (Q b ∧ b < w.heap.size) ∨ w2.heap.size ≤ b → (Q' b ∧ b < w1.heap.size) ∨ w2.heap.size ≤ b := fun b hb => hb.imp (fun h => ⟨hq b h.2 h.1, by omega⟩) id
    exact ⟨n, M2, rfl, g1, g2, fun k e => hqq k (g3 k e), g4.mono (fun fs κ h => ⟨w3, _, fun _ => False, h, Keep.refl _ _, fun _ _ h => h, fun b _ h => hqq b h⟩) (fun b _ h => hqq b h)⟩
/-- a task, with all that is behind it, and more -/
abbrev JmF {A : Type} (O : Ops A) (w : World) (Q M : Nat → Prop) (n : Option Addr) (fs : List Nat) (R : Tre A) : Prop := JM O (ContsM O) w Q M n fs R
theorem JmF.keep {A : Type} {O : Ops A} {w w1 : World} {Q Q' M F : Nat → Prop} {n : Option Addr} {fs : List Nat} {R : Tre A} (h : JmF O w Q M n fs R) (hk : Keep F w w1) (hd : ∀ b, Q b → ¬ F b) (hn : InQ (fun k => ¬ F k) n) (hq : ∀ b, b < w.heap.size → Q b → Q' b) : JmF O w1 Q' M n fs R := by
  rcases h with ⟨u, κ, h1, h2, e⟩ | ⟨x, g, k, d, p, rest, gs, e, rfl, h1, h2, h3, h4⟩
  · exact .inl ⟨u, κ, h1.keep hk hn, h2.keep hk hd hq, e⟩
  · refine .inr ⟨x, g, k, d, p, rest, gs, e, rfl, h1.keep hk (hn k rfl), ?_, O.keep h3 hk hd hq, h4.keep hk hd hq⟩
    exact ((h2.mono (Q' := fun b => Q b ∧ Q' b ∧ ¬ M b) fun b hb h => ⟨h.1, hq b hb h.1, h.2⟩).keep hk fun b h => hd b h.1).mono fun b _ h => h.2
theorem JmF.few {A : Type} {O : Ops A} {w : World} {Q M : Nat → Prop} {n : Option Addr} {fs : List Nat} {R : Tre A} (h : JmF O w Q M n fs R) : ∀ b, M b → Q b ∧ b < w.heap.size := by
  rcases h with ⟨u, κ, h1, h2, e⟩ | ⟨x, g, k, d, p, rest, gs, e, rfl, h1, h2, h3, h4⟩
  · exact h2.few
  · exact h4.few
theorem JmF.lt {A : Type} {O : Ops A} {w : World} {Q M : Nat → Prop} {k : Nat} {fs : List Nat} {R : Tre A} (h : JmF O w Q M (some ⟨k, 0, none⟩) fs R) : k < w.heap.size := by
  rcases h with ⟨u, κ, h1, h2, e⟩ | ⟨x, g, k', d, p, rest, gs, e, e2, h1, h2, h3, h4⟩
  · rcases h1 with ⟨h, _⟩ | ⟨k', e2, h⟩
    · cases h
    · injection e2 with e2; injection e2 with e2; rw [e2]; exact h.lt
  · injection e2 with e2; injection e2 with e2; rw [e2]; exact h1.blk.lt
theorem Behind.func {A : Type} {K : Nat → (Int → Tre A) → Prop} {fs : List Nat} {u : Int} {R : Tre A} (h : Behind K fs (retT u) R) : ∃ κ : Int → Tre A, R = κ u ∧ ∀ v, Behind K fs (retT v) (κ v) := by
  cases fs with
  | nil => exact ⟨retT, h, fun v => rfl⟩
  | cons f fs =>
    obtain ⟨k, κ, h1, e, h2⟩ := h
    rw [bindT_ret] at e
    exact ⟨κ, e, fun v => ⟨k, κ, h1, (bindT_ret κ v).symm, h2⟩⟩
/-- what turns nothing, ahead of what may -/
def Mix {A : Type} (O : Ops A) (K : MRel A) : MRel A := fun w Q M L κ => ∃ (B : Tre A → Tre A) (gs fs : List Nat) (κ1 : Int → Tre A) (Q0 : Nat → Prop), (∀ x g, B (opT x g) = opT x fun v => B (g v)) ∧ L = gs ++ fs ∧ K w Q M fs (fun v => B (retT v)) ∧ (∀ b, Q0 b → Q b ∧ ¬ M b) ∧ (∀ v, Behind (ContT O w Q0) gs (retT v) (κ1 v)) ∧ κ = fun v => B (κ1 v)
theorem Mix.of {A : Type} {O : Ops A} {K : MRel A} {w : World} {Q M : Nat → Prop} {L : List Nat} {κ : Int → Tre A} (h : K w Q M L κ) : Mix O K w Q M L κ := by
  have e : (fun v => bindT κ (retT v)) = κ := funext fun v => bindT_ret κ v
  exact ⟨bindT κ, [], L, retT, fun _ => False, fun x g => bindT_op κ x g, rfl, by rw [e]; exact h, fun _ h => h.elim, fun v => rfl, e.symm⟩
/-- a relation that stands while others move, and whose steps lead to it, or to what turns nothing ahead of it -/
theorem contsM_upto {A : Type} (O : Ops A) (K : MRel A) (hfew : ∀ w Q M fs κ, K w Q M fs κ → ∀ b, M b → Q b ∧ b < w.heap.size)
    (hkeep : ∀ (w w1 : World) (Q Q' M F : Nat → Prop) fs κ, K w Q M fs κ → Keep F w w1 → (∀ b, Q b → ¬ F b) → (∀ b, b < w.heap.size → Q b → Q' b) → K w1 Q' M fs κ)
    (hstep : ∀ w Q M fs κ, K w Q M fs κ → StepM O (Mix O K) w Q M fs κ) {w : World} {Q M : Nat → Prop} {fs : List Nat} {κ : Int → Tre A} (h : Mix O K w Q M fs κ) : ContsM O w Q M fs κ := by
  refine ⟨Mix O K, ?_, h⟩
  rintro w Q M L κ ⟨B, gs, fs, κ1, Q0, hB1, rfl, h2, hq, h1, rfl⟩
  cases gs with
  | nil =>
    have : (fun v => B (κ1 v)) = fun v => B (retT v) := by
      funext v
      rw [show κ1 v = retT v from h1 v]
    rw [this]
    exact hstep _ _ _ _ _ h2
  | cons f gs =>
    obtain ⟨k0, κ0, c0, _, _⟩ := h1 0
    have hfw := hfew _ _ _ _ _ h2
    refine ⟨hfw, (hq f c0.own.1).1, c0.own.2, fun v w1 hw => ?_⟩
    obtain ⟨k, κ', c, e, hb⟩ := h1 v
    rw [bindT_ret] at e
    refine (c.unfold.2.2 v w1 (hw.mono fun b _ hn h => hn (hq b h).1)).mono ?_
    rintro e2 w2 ⟨n, rfl, g1, g2, g3⟩
    have s1 := hw.size
    have s2 := g1.size
    have hq0 : ∀ b, (Q0 b ∧ b < w.heap.size) ∨ w1.heap.size ≤ b → ((Q b ∧ b < w.heap.size) ∨ w1.heap.size ≤ b) ∧ ¬ M b := fun b hb => by
      rcases hb with hb | hb
      · exact ⟨.inl ⟨(hq b hb.1).1, hb.2⟩, (hq b hb.1).2⟩
      · exact ⟨.inr hb, fun h => by have := (hfw b h).2; omega⟩
    have k12 : Keep (fun _ => False) w1 w2 := Keep.ofBelow g1
    have hC : K w2 (fun b => (Q b ∧ b < w.heap.size) ∨ w1.heap.size ≤ b) M fs (fun v => B (retT v)) := hkeep _ _ _ _ _ _ _ _ (hkeep _ _ _ (fun b => Q b ∧ b < w.heap.size) _ _ _ _ h2 hw (fun b h hn => hn h) (fun b hb h => ⟨h, hb⟩)) k12 (fun _ _ h => h) (fun b _ h => .inl h)
    have hBk : ∀ (gs : List Nat) (T R : Tre A), Behind (ContT O w Q0) gs T R → Behind (ContT O w2 fun b => (Q0 b ∧ b < w.heap.size) ∨ w1.heap.size ≤ b) gs T R := fun gs T R h => (h.keep (Q' := fun b => Q0 b ∧ b < w.heap.size) hw (fun b h hn => hn (hq b h).1) (fun b hb h => ⟨h, hb⟩)).keep k12 (fun _ _ h => h) (fun b _ h => .inl h)
    refine ⟨n, M, rfl, Keep.ofBelow g1, fun _ _ h => h, fun j e => (hq0 j (g3 j e)).1, ?_⟩
    rcases g2 with ⟨u, eu, hd⟩ | ⟨x, g, k1, d, p, rest, g1s, ex, rfl, l1, l2, l3, l4⟩
    · have hbv := hBk _ _ _ (hb v)
      rw [eu] at hbv
      obtain ⟨κ'', e3, h3⟩ := hbv.func
      exact .inl ⟨u, fun u' => B (κ'' u'), hd, ⟨B, gs, fs, κ'', _, hB1, rfl, hC, hq0, h3, rfl⟩, by show B (κ1 v) = _; rw [e, e3]⟩
    · have hbv := hBk _ _ _ (hb v)
      rw [ex] at hbv
      obtain ⟨g', e3, h3⟩ := Behind.op l4 hbv
      refine .inr ⟨x, fun u => B (g' u), k1, d, p, rest, g1s, by show B (κ1 v) = _; rw [e, e3, hB1], rfl, l1, l2.mono fun b _ h => hq0 b h, O.keep l3 (Keep.refl (fun _ => False) w2) (fun _ _ h => h) (fun b _ h => (hq0 b h).1), ⟨B, g1s ++ gs, fs, g', _, hB1, (List.append_assoc _ _ _).symm, hC, hq0, h3, rfl⟩⟩
/-- a task that turns nothing, ahead of what may -/
theorem jm_mix {A : Type} (O : Ops A) (K : MRel A) (B : Tre A → Tre A) (hB1 : ∀ x g, B (opT x g) = opT x fun v => B (g v)) {w : World} {Q Q0 M : Nat → Prop} {n : Option Addr} {fs : List Nat} {T : Tre A} {κ2 : Int → Tre A} (hB2 : ∀ v, B (retT v) = κ2 v) (h2 : K w Q M fs κ2)
    (hq : ∀ b, Q0 b → Q b ∧ ¬ M b) (h1 : TaskF O w Q0 n T) : JM O (Mix O K) w Q M n fs (B T) := by
  have e : (fun v => B (retT v)) = κ2 := funext hB2
  rcases h1 with ⟨u, rfl, hd⟩ | ⟨x, g, k1, d, p, rest, gs, rfl, rfl, l1, l2, l3, l4⟩
  · exact .inl ⟨u, κ2, hd, Mix.of h2, hB2 u⟩
  · exact .inr ⟨x, _, k1, d, p, rest, gs, hB1 x g, rfl, l1, l2.mono fun b _ h => hq b h, O.keep l3 (Keep.refl (fun _ => False) w) (fun _ _ h => h) (fun b _ h => (hq b h).1), ⟨B, gs, fs, g, Q0, hB1, rfl, by rw [e]; exact h2, hq, l4, rfl⟩⟩
theorem contsM_of_mix {A : Type} (O : Ops A) {w : World} {Q M : Nat → Prop} {fs : List Nat} {κ : Int → Tre A} (h : Mix O (ContsM O) w Q M fs κ) : ContsM O w Q M fs κ :=
  contsM_upto O (ContsM O) (fun _ _ _ _ _ h => h.few) (fun _ _ _ _ _ _ _ _ h hk hd hq => h.keep hk hd hq) (fun _ _ _ _ _ h => h.unfold.mono fun _ _ _ _ _ h => Mix.of h) h
theorem jmF_mix {A : Type} (O : Ops A) (B : Tre A → Tre A) (hB1 : ∀ x g, B (opT x g) = opT x fun v => B (g v)) {w : World} {Q Q0 M : Nat → Prop} {n : Option Addr} {fs : List Nat} {T : Tre A} {κ2 : Int → Tre A} (hB2 : ∀ v, B (retT v) = κ2 v) (h2 : ContsM O w Q M fs κ2)
    (hq : ∀ b, Q0 b → Q b ∧ ¬ M b) (h1 : TaskF O w Q0 n T) : JmF O w Q M n fs (B T) :=
  (jm_mix O (ContsM O) B hB1 hB2 h2 hq h1).mono (fun _ _ h => contsM_of_mix O h) (fun _ _ h => h)
theorem jmF_pure {A : Type} (O : Ops A) {w : World} {Q : Nat → Prop} {n : Option Addr} {T : Tre A} (h1 : TaskF O w Q n T) : JmF O w Q (fun _ => False) n [] T :=
  jmF_mix O id (fun _ _ => rfl) (fun v => rfl) (ContsM.nil (fun b h => h.elim)) (fun b h => ⟨h, fun h => h⟩) h1
theorem goon_treeM {A : Type} (O : Ops A) (t : Nat) (n : Option Addr) (d0 p0 r0 : Value) (fs : List Nat) (Q M : Nat → Prop) (R : Tre A) (w : World) (ht : Blk w t 161 #[d0, p0, r0, .int .i64 0]) (hr : TreeO w (fun b => Q b ∧ ¬ M b) r0 fs) (hQ : ∀ k, w.heap.size ≤ k → Q k) (hQt : ¬ Q t) (hn : InQ (fun k => k ≠ t) n) (hJ : JmF O w Q M n fs R) :
    Calls Tryz.prog 119 #[pV t, .pointer n] w fun e w' => e = .returned (.tuple #[]) ∧ Keep (fun k => k = t ∨ M k) w w' ∧ ∃ M2, (∀ x, x < w.heap.size → M2 x → M x) ∧ JmF O w' Q M2 (some ⟨t, 0, none⟩) [] R := by
  have hlt := ht.lt
  have hd : ∀ b, Q b → ¬ (b = t) := fun b hb e => hQt (e ▸ hb)
  refine (goon_mut t n d0 p0 r0 0 fs Q M (fun a n fs M => InQ (fun k => k ≠ t) n ∧ JmF O a Q M n fs R) w ht hr hQ hQt ⟨hn, hJ⟩ ?_ ?_ ?_ ?_).mono ?_
  · rintro a n fs M ⟨_, h⟩
    exact h.few
  · rintro a b n fs M hs ⟨h1, h2⟩ hk
    exact ⟨h1, h2.keep hk hd (fun k e => h1 k e) (fun _ _ h => h)⟩
  · rintro a n fs M ⟨h1, h2⟩
    refine ⟨fun e => h1 t e rfl, ?_⟩
    rcases h2 with ⟨u, κ, g1, g2, e⟩ | ⟨x, g, k, d, p, rest, gs, e, rfl, g1, g2, g3, g4⟩
    · exact .inl ⟨u, g1⟩
    · exact .inr ⟨k, d, p, rest, gs, rfl, g1, g2⟩
  · rintro a n f fs M v hs ⟨h1, h2⟩ hv
    rcases h2 with ⟨u, κ, g1, g2, rfl⟩ | ⟨x, g, k, d, p, rest, gs, e, rfl, g1, g2, g3, g4⟩
    · obtain rfl := hv.val g1
      refine (g2.unfold.2.2.2 _ a (Keep.refl _ a)).mono ?_
      rintro e b ⟨n', M2, rfl, q1, q2, q3, q4⟩
      have hqq : ∀ j, (Q j ∧ j < a.heap.size) ∨ a.heap.size ≤ j → Q j := fun j hj => hj.elim (fun h => h.1) (fun h => hQ j (by omega))
      exact ⟨n', M2, rfl, ⟨fun j e e2 => hQt (e2 ▸ hqq j (q3 j e)), JmF.keep q4 (Keep.refl (fun _ => False) b) (fun _ _ h => h) (fun _ _ h => h) (fun j _ h => hqq j h)⟩, q1, q2⟩
    · exact (hv.live g1).elim
  · rintro e w' ⟨rfl, hk, n', fs', M2, ⟨h1, h2⟩, hm, hp⟩
    refine ⟨rfl, hk, M2, hm, ?_⟩
    rcases hp with ⟨rfl, v, hv, hB⟩ | ⟨k1, d, p, r, g1, j, rfl, hL, hT, hT2, hB⟩
    · rcases h2 with ⟨u, κ, g1, g2, rfl⟩ | ⟨x, g, k, d, p, rest, gs, e, rfl, g1, g2, g3, g4⟩
      · obtain rfl := hv.val g1
        exact .inl ⟨_, κ, .inr ⟨t, rfl, hB⟩, g2, rfl⟩
      · exact (hv.live g1).elim
    · rcases h2 with ⟨u, κ, g1, g2, rfl⟩ | ⟨x, g, k, d', p', rest, gs, rfl, e, q1, q2, q3, q4⟩
      · exact (g1.live hL).elim
      · obtain rfl : k1 = k := by simpa using e
        obtain ⟨rfl, rfl, rfl⟩ := hL.unique q1
        obtain rfl := hT.unique q2
        exact .inr ⟨x, g, t, _, _, j, g1 ++ fs', rfl, rfl, ⟨hB, hL.op⟩, hT2, q3, by rw [List.append_nil]; exact q4⟩
/-- Then: of any task, and a closure of which, with the task, is told when its box is laid -/
theorem thenM_any {A : Type} (O : Ops A) (n : Option Addr) (F : Nat) (caps : Array Value) (R : Tre A) (Q M : Nat → Prop) (w : World) (hn : ∀ j, n = some ⟨j, 0, none⟩ → j < w.heap.size) (hQ : ∀ k, w.heap.size ≤ k → Q k)
    (hJ : ∀ w1 (Q1 : Nat → Prop) f, Below w.heap.size w w1 → Blk w1 f 89 #[cloV F caps] → w.heap.size ≤ f → f < w1.heap.size → Q1 f → (∀ b, b < w.heap.size → Q b → Q1 b) → JmF O w1 Q1 M n [f] R) :
    Calls Tryz.prog 137 #[.pointer n, cloV F caps] w fun e w' => ∃ t M2, e = .returned (pV t) ∧ w.heap.size ≤ t ∧ JmF O w' (fun b => Q b ∧ b ≠ t) M2 (some ⟨t, 0, none⟩) [] R ∧ (∀ x, x < w.heap.size → M2 x → M x) ∧ Keep M w w' := by
  have hmf : ∀ (fn : Fn) (first cap : Array Value) (w : World), (Instr.makeFunc fn first cap).run Tryz.prog w = .ok (.func fn first cap) w := fun _ _ _ _ => rfl
  have HQ := Lib.hid hQ
  have HK := Lib.hid hJ
  have HN := Lib.hid hn
  clear hQ hJ hn
  go_enter Tryz.func137, Tryz.ntmps137
  go_upto_region 1 with fail
  generalize hW : (w.alloc _) = W
  have bW : Below w.heap.size w W := by rw [← hW]; go_grown
  have q0 : Blk W w.heap.size 89 #[cloV F caps] := by rw [← hW]; exact Blk.new w _ _
  clear hW
  go_upto_region 2 with (go_at_call 220; refine (only_any _ _ _).mono ?_; rintro e w2 ⟨lp, rfl, l1, l2, l3⟩)
  have hs2 := l3.size
  have hsW := bW.size
  generalize hW3 : (w2.alloc _) = W3
  have b3 : Below W.heap.size W W3 := by rw [← hW3]; exact l3.alloc (by omega) _
  have s3 : W3.heap.size = w2.heap.size + 1 := by rw [← hW3]; simp
  have qt : Blk W3 w2.heap.size 161 #[.nilFunc, .pointer none, pV lp, .int .i64 0] := by rw [← hW3]; exact Blk.new w2 _ _
  have ql : Blk W3 lp 305 #[.pointer none, .pointer none, cloV 221 #[pV w.heap.size]] := by rw [← hW3]; exact l2.alloc _
  have hlp := l2.lt
  clear hW3
  have bw3 : Below w.heap.size w W3 := bW.trans (b3.mono hsW)
  have qf := q0.below b3 q0.lt
  have hqf := q0.lt
  have J3 := HK.out W3 (fun b => Q b ∧ b ≠ w2.heap.size) w.heap.size bw3 qf (Nat.le_refl _) qf.lt ⟨HQ.out _ (Nat.le_refl _), by omega⟩ (fun b hb h => ⟨h, by omega⟩)
  have HM := Lib.hid (show ∀ b, M b → b < w.heap.size → True from fun _ _ _ => trivial)
  obtain ⟨hml⟩ : Nonempty (Hid (¬ M lp)) := ⟨Lib.hid fun h => by
    have J4 := HK.out W3 (fun b => Q b ∧ b ≠ w2.heap.size ∧ b ≠ lp) w.heap.size bw3 qf (Nat.le_refl _) qf.lt ⟨HQ.out _ (Nat.le_refl _), by omega, by omega⟩ (fun b hb h => ⟨h, by omega, by omega⟩)
    exact (J4.few lp h).1.2.2 rfl⟩
  have HG := Lib.hid (goon_treeM O w2.heap.size n .nilFunc (.pointer none) (pV lp) [w.heap.size] (fun b => Q b ∧ b ≠ w2.heap.size) M R W3
    qt (.inr ⟨0, lp, rfl, .leaf lp _ ⟨⟨HQ.out _ (by omega), by omega⟩, hml.out⟩ ql⟩) (fun j hj => ⟨HQ.out _ (by omega), by omega⟩) (fun h => h.2 rfl)
    (fun j e => by have := HN.out j e; omega) J3)
  have HF := Lib.hid J3.few
  clear qt ql qf J3
  go_wp2_with (go_at_call 119; refine HG.out.mono ?_; rintro e w4 ⟨rfl, k4, M2, hm, hT4⟩)
  go_ret
  refine ⟨w2.heap.size, M2, rfl, by omega, hT4, fun x hx h => hm x (by have := bw3.size; omega) h, (Keep.ofBelow bw3).step k4 (fun i hi h => ?_)⟩
  rcases h with h | h
  · omega
  · exact h
/-- a task of a caller's own, at block t, of the blocks of which Q is said -/
def TkM {A : Type} (O : Ops A) (w : World) (t : Nat) (Q : Nat → Prop) (T : Tre A) : Prop :=
  ∃ Q1 M : Nat → Prop, JmF O w Q1 M (some ⟨t, 0, none⟩) [] T ∧ ¬ Q1 t ∧ (∀ b, Q1 b ∨ b = t → Q b) ∧ ∀ b, Q b → b < w.heap.size
theorem TkM.keep {A : Type} {O : Ops A} {w w1 : World} {t : Nat} {Q F : Nat → Prop} {T : Tre A} (h : TkM O w t Q T) (hk : Keep F w w1) (hn : ∀ b, Q b → ¬ F b) : TkM O w1 t Q T := by
  obtain ⟨Q1, M, h1, h2, h3, h4⟩ := h
  exact ⟨Q1, M, h1.keep hk (fun b hb => hn b (h3 b (.inl hb))) (fun k e => by injection e with e; injection e with e; exact e ▸ hn t (h3 t (.inr rfl))) (fun _ _ h => h), h2, h3, fun b hb => Nat.lt_of_lt_of_le (h4 b hb) hk.size⟩
theorem TkM.lt {A : Type} {O : Ops A} {w : World} {t : Nat} {Q : Nat → Prop} {T : Tre A} (h : TkM O w t Q T) : ∀ b, Q b → b < w.heap.size := by
  obtain ⟨Q1, M, h1, h2, h3, h4⟩ := h
  exact h4
theorem TkM.own {A : Type} {O : Ops A} {w : World} {t : Nat} {Q : Nat → Prop} {T : Tre A} (h : TkM O w t Q T) : Q t := by
  obtain ⟨Q1, M, h1, h2, h3, h4⟩ := h
  exact h3 t (.inr rfl)
theorem TkM.new {A : Type} {O : Ops A} {w' : World} {t : Nat} {Q M : Nat → Prop} {T : Tre A} (h : JmF O w' (fun b => Q b ∧ b ≠ t) M (some ⟨t, 0, none⟩) [] T) (hq : Q t) : TkM O w' t (fun b => Q b ∧ b < w'.heap.size) T :=
  ⟨fun b => (Q b ∧ b ≠ t) ∧ b < w'.heap.size, M, h.keep (Keep.refl (fun _ => False) w') (fun _ _ h => h) (fun _ _ h => h) (fun b hb h => ⟨h, hb⟩), fun h => h.1.2 rfl, fun b hb => by
    rcases hb with hb | rfl
    · exact ⟨hb.1.1, hb.2⟩
    · exact ⟨hq, h.lt⟩, fun b hb => hb.2⟩
theorem TkT.tkM {A : Type} {O : Ops A} {w : World} {t : Nat} {Q : Nat → Prop} {T : Tre A} (h : TkT O w t Q T) : TkM O w t Q T := by
  obtain ⟨Q1, h1, h2, h3, h4⟩ := h
  exact ⟨Q1, _, jmF_pure O h1, h2, h3, h4⟩
theorem TkM.done {A : Type} {O : Ops A} {w : World} {t : Nat} {Q : Nat → Prop} {v : Int} (h : TkM O w t Q (retT v)) : DoneV w (some ⟨t, 0, none⟩) v := by
  obtain ⟨Q1, M, h1, h2, h3, h4⟩ := h
  rcases h1 with ⟨u, κ, g1, g2, e⟩ | ⟨x, κ, k, d, p, rest, fs, e, _⟩
  · obtain rfl := g2.ret
    rw [retT_inj e]; exact g1
  · exact (ret_op e).elim
theorem TkM.live {A : Type} {O : Ops A} {w : World} {t : Nat} {Q : Nat → Prop} {x : A} {κ : Int → Tre A} (h : TkM O w t Q (opT x κ)) :
    ∃ Q1 M : Nat → Prop, ¬ Q1 t ∧ (∀ b, Q1 b ∨ b = t → Q b) ∧ t < w.heap.size ∧ ∃ d p rest fs, Live w t d p rest ∧ TreeO w (fun b => Q1 b ∧ ¬ M b) rest fs ∧ O.is w Q1 x d p ∧ ContsM O w Q1 M fs κ := by
  obtain ⟨Q1, M, h1, h2, h3, h4⟩ := h
  refine ⟨Q1, M, h2, h3, h4 t (h3 t (.inr rfl)), ?_⟩
  rcases h1 with ⟨u, κ', g1, g2, e⟩ | ⟨x', κ', k, d, p, rest, fs, e, e2, g1, g2, g3, g4⟩
  · obtain rfl := g2.ret
    exact (ret_op e.symm).elim
  · obtain ⟨rfl, rfl⟩ := opT_inj e
    injection e2 with e2
    injection e2 with e2
    subst e2
    rw [List.append_nil] at g4
    exact ⟨d, p, rest, fs, g1, g2, g3, g4⟩
theorem tdoneM_ret {A : Type} {O : Ops A} (t : Nat) (Q : Nat → Prop) (v : Int) (w : World) (h : TkM O w t Q (retT v)) : Calls Tryz.prog 38 #[pV t] w fun e w' => e = .returned (.bool true) ∧ w = w' := doneV_done _ v w h.done
theorem tdoneM_op {A : Type} {O : Ops A} (t : Nat) (Q : Nat → Prop) (x : A) (κ : Int → Tre A) (w : World) (h : TkM O w t Q (opT x κ)) : Calls Tryz.prog 38 #[pV t] w fun e w' => e = .returned (.bool false) ∧ w = w' := by
  obtain ⟨_, _, _, _, _, d, p, rest, fs, hL, _⟩ := h.live
  exact live_done t d p rest w hL
theorem tvalueM_ret {A : Type} {O : Ops A} (t : Nat) (Q : Nat → Prop) (v : Int) (w : World) (h : TkM O w t Q (retT v)) : Calls Tryz.prog 27 #[pV t] w fun e w' => e = .returned (.int .i64 v) ∧ w = w' := doneV_value _ v w h.done
theorem tvalueM_op {A : Type} {O : Ops A} (t : Nat) (Q : Nat → Prop) (x : A) (κ : Int → Tre A) (w : World) (h : TkM O w t Q (opT x κ)) : Calls Tryz.prog 27 #[pV t] w fun e w' => e = .returned (.int .i64 0) ∧ w = w' := by
  obtain ⟨_, _, _, _, _, d, p, rest, fs, hL, _⟩ := h.live
  exact value_any t _ _ _ 0 w hL.blk
theorem tstepM_ret {A : Type} {O : Ops A} (t : Nat) (Q : Nat → Prop) (v k : Int) (w : World) (h : TkM O w t Q (retT v)) : Calls Tryz.prog 37 #[pV t, .int .i64 k] w fun e w' => e = .returned (.bool false) ∧ w = w' := step_done _ v k w h.done
/-- a step that does an operation on cells -/
theorem tstepM_op (C P S t : Nat) (Q : Nat → Prop) (x : Itm) (κ : Int → Tre Itm) (m : List Int) (n : Int) (w : World) (h : TkM (cellOps C P) w t Q (opT x κ)) (hC : CellsAt w C S m n) (hk : x.kind < 5) (hQ : ∀ b, Q b → b ≠ C ∧ b ≠ S) (hn : 0 ≤ n ∧ n ≤ 2000000) :
    Calls Tryz.prog 37 #[pV t, .int .i64 0] w fun e w' => e = .returned (.bool true) ∧ (∃ Q', TkM (cellOps C P) w' t Q' (κ (operS m x).2.1) ∧ ∀ b, Q' b → Q b ∨ w.heap.size ≤ b) ∧
      CellsAt w' C S (operS m x).1 (n + countS m x) ∧ Keep (fun b => Q b ∨ ofCells C S b) w w' := by
  obtain ⟨Q1, M, q1, q2, hlt, d, p, rest, fs, hL, hT, hO, hc⟩ := h.live
  have hcq : ∀ b, Q1 b → ¬ ofCells C S b := fun b hb hf => by
    have := hQ b (q2 b (.inl hb))
    rcases hf with hf | hf
    · exact this.1 hf
    · exact this.2 hf
  have htc : ¬ ofCells C S t := fun hf => by
    have := hQ t (q2 t (.inr rfl))
    rcases hf with hf | hf
    · exact this.1 hf
    · exact this.2 hf
  obtain ⟨b, F, caps, rfl, rfl, b1, b2, b3⟩ : ∃ b F caps, d = cloV 260 #[pV b] ∧ p = .pointer none ∧ Q1 b ∧ Blk w b _ #[cloV F caps] ∧ CloAt w C Q1 x F caps := by
    rcases hO with hO | ⟨hO, _⟩ | ⟨hO, _⟩
    · exact hO
    · omega
    · omega
  have hM := hc.few
  refine step_yes t _ _ rest 0 w (fun v' w2 => v' = (operS m x).2.1 ∧ CellsAt w2 C S (operS m x).1 (n + countS m x) ∧ Keep (ofCells C S) w w2)
    (fun w' => (∃ Q', TkM (cellOps C P) w' t Q' (κ (operS m x).2.1) ∧ ∀ b, Q' b → Q b ∨ w.heap.size ≤ b) ∧ CellsAt w' C S (operS m x).1 (n + countS m x) ∧ Keep (fun b => Q b ∨ ofCells C S b) w w') hL ?_ ?_
  · refine opend_do b w _ fun W hb => ?_
    have kW : Keep (fun _ => False) w W := Keep.ofBelow hb
    refine (do6_any C S Q1 m n x b F caps W (b2.below hb b2.lt) (b3.keep kW (fun _ _ h => h) (fun _ _ h => h)) (hC.keep kW (fun h => h) (fun h => h)) hn.1 (by omega)).mono ?_
    rintro e w' ⟨v', rfl, e1, e2, e3⟩
    exact ⟨v', rfl, e1, e2, (Keep.ofBelow hb).trans e3⟩
  · rintro v' w2 w3 k ⟨rfl, hC2, hk2⟩ g1 g2 g3
    have k3 : Keep (ofCells C S) w w3 := hk2.trans (Keep.ofBelow g3)
    have s2 := hk2.size
    have s3 := k3.size
    have hT3 : TreeO w3 (fun b => (Q1 b ∨ w.heap.size ≤ b) ∧ ¬ M b) rest fs := (hT.keep k3 (fun b hb => hcq b hb.1)).mono (fun b _ h => ⟨.inl h.1, h.2⟩)
    have hC3 : ContsM (cellOps C P) w3 (fun b => Q1 b ∨ w.heap.size ≤ b) M fs κ := hc.keep k3 hcq (fun b _ h => .inl h)
    refine (goon_treeM (cellOps C P) t (some ⟨k, 0, none⟩) _ _ rest fs (fun b => Q1 b ∨ w.heap.size ≤ b) M _ w3 (hL.blk.keep k3 htc) hT3 (fun j hj => .inr (by omega)) (fun hh => hh.elim q1 (fun h => by omega)) (fun j e => by injection e with e; injection e with e; omega) (.inl ⟨_, κ, g2, hC3, rfl⟩)).mono ?_
    rintro e w' ⟨rfl, k4, M2, hm2, hT4⟩
    have s4 := k4.size
    have k5 : Keep (fun b => Q b ∨ ofCells C S b) w w' := by
      refine (k3.mono (fun _ _ h => .inr h)).step k4 (fun i hi h => .inl ?_)
      rcases h with h | h
      · exact q2 i (.inr h)
      · exact q2 i (.inl (hM i h).1)
    refine ⟨rfl, ⟨fun b => (Q b ∨ w.heap.size ≤ b) ∧ b < w'.heap.size, ⟨fun b => (Q1 b ∨ w.heap.size ≤ b) ∧ b < w'.heap.size, M2, hT4.keep (Keep.refl (fun _ => False) w') (fun _ _ h => h) (fun _ _ h => h) (fun b hb hq => ⟨hq, hb⟩), fun hh => ?_, fun b hb => ?_, fun b hb => hb.2⟩, fun b hb => hb.1⟩, ?_, k5⟩
    · rcases hh.1 with hh | hh
      · exact q1 hh
      · omega
    · rcases hb with ⟨hb | hb, hlt2⟩ | rfl
      · exact ⟨.inl (q2 b (.inl hb)), hlt2⟩
      · exact ⟨.inr hb, hlt2⟩
      · exact ⟨.inl (q2 b (.inr rfl)), by omega⟩
    · have hC4 := hC2.keep (Keep.ofBelow (Q := fun _ => False) g3) (fun h => h) (fun h => h)
      refine hC4.keep k4 (fun e => ?_) (fun e => ?_)
      · rcases e with e | e
        · exact htc (.inl e.symm)
        · exact hcq C (hM C e).1 (.inl rfl)
      · rcases e with e | e
        · exact htc (.inr e.symm)
        · exact hcq S (hM S e).1 (.inr rfl)
end Go.Proofs.YtldofbkjjmnooaaGreat
/- Package queue: the threads that were seen; remove's own functions. -/
namespace Go.Proofs.YtldofbkjjmnooaaGreat
open Go.ChangeShapes Go.WideShapes Go.ChangeAt Go.RowKit Go.Maps
set_option linter.unusedVariables false
set_option maxRecDepth 100000
set_option linter.unusedSimpArgs false
/-- a map of the call's own in which these numbers are true -/
def SetAt (w : World) (bm : Nat) (L : List Int) : Prop := ∃ D : DataW Unit, w.ownsMap Tryz.prog 3 (plainElem Tryz.prog 4) bm L.length D ∧ IsMap D ∧ ∀ u : Int, -9223372036854775808 ≤ u ∧ u ≤ 9223372036854775807 → D.atKey (.int .i64 u) (.lit (.bool false)) = .lit (.bool (decide (u ∈ L)))
theorem lawSet : Keyed Tryz.prog 3 := int_keyed Tryz.underlying3
theorem zeroB (w : World) : (zeroValue 4).run Tryz.prog w = .ok (.bool false) w := by kernel_rfl
theorem int_wf {u : Int} (h : -9223372036854775808 ≤ u ∧ u ≤ 9223372036854775807) : (Lit.int .i64 u).wf = true := by
  simp [Lit.wf, IntKind.min, IntKind.max, IntKind.signed, IntKind.bits]
  omega
theorem SetAt.lt {w : World} {bm : Nat} {L : List Int} (h : SetAt w bm L) : bm < w.heap.size := by
  obtain ⟨D, h1, _⟩ := h
  exact h1.lt
theorem SetAt.keep {w w1 : World} {F : Nat → Prop} {bm : Nat} {L : List Int} (h : SetAt w bm L) (hk : Keep F w w1) (hn : ¬ F bm) : SetAt w1 bm L := by
  obtain ⟨D, h1, h2, h3⟩ := h
  have hlt := h1.lt
  obtain ⟨es, clock, hb, hr⟩ := h1
  exact ⟨D, ⟨es, clock, (hk.block bm hlt hn).trans hb, hr⟩, h2, h3⟩
theorem SetAt.made (w : World) : SetAt (w.alloc (.map #[] 0)) w.heap.size [] :=
  ⟨.map [], World.ownsMap_made w _ _ _, isMap_empty, fun u _ => by simp [DataW.atKey]⟩
theorem SetAt.look {w : World} {bm : Nat} {L : List Int} (h : SetAt w bm L) {u : Int} (hu : -9223372036854775808 ≤ u ∧ u ≤ 9223372036854775807) :
    (Instr.lookup 241 (.map (some bm)) (.int .i64 u) false).run Tryz.prog w = .ok (.bool (decide (u ∈ L))) w := by
  obtain ⟨D, h1, h2, h3⟩ := h
  obtain ⟨v, ps, hrun, hv⟩ := h1.lookup lawSet Tryz.underlying241 (zeroB w) (plainElem_bool Tryz.underlying4 false) (keyOf_int_mk Tryz.underlying3 (int_wf hu))
  rw [h3 u hu] at hv
  rw [hrun]
  cases v <;> simp [plainElem, Tryz.underlying4] at hv
  rw [hv.1]
theorem SetAt.put {w : World} {bm : Nat} {L : List Int} (h : SetAt w bm L) {u : Int} (hu : -9223372036854775808 ≤ u ∧ u ≤ 9223372036854775807) (hL : L.length < maxLen) :
    ∃ w', (Instr.mapUpdate 241 (.map (some bm)) (.int .i64 u) (.bool true)).run Tryz.prog w = .ok () w' ∧ SetAt w' bm (u :: L) ∧ w.grownBy w' (some bm) := by
  obtain ⟨D, h1, h2, h3⟩ := h
  obtain ⟨w', hrun, h4, h5⟩ := h1.update lawSet Tryz.underlying241 hL (keyOf_int_mk Tryz.underlying3 (int_wf hu)) (plainElem_bool Tryz.underlying4 true)
  refine ⟨w', hrun, ⟨_, h4, h2.put _ _, fun x hx => ?_⟩, h5⟩
  by_cases e : x = u
  · subst e
    rw [atKey_put_same h2 (by exact trivial)]
    simp
  · rw [atKey_put_other (by simpa using e), h3 x hx]
    simp [e]
/-- what remove's functions share: the line, the thread, the thread ahead, those that were seen -/
structure RemAt (w : World) (C a : Nat) (m : Mp) (t : Int) (bl bt ba bs bm : Nat) (p : Int) (L : List Int) : Prop where
  line : Blk w bl 153 (lineCs C a m)
  thr : Blk w bt 3 #[.int .i64 t]
  ahead : Blk w ba 3 #[.int .i64 p]
  seen : Blk w bs 241 #[.map (some bm)]
  set : SetAt w bm L
  ne : ba ≠ bl ∧ ba ≠ bt ∧ ba ≠ bs ∧ ba ≠ bm ∧ bm ≠ bl ∧ bm ≠ bt ∧ bm ≠ bs
theorem RemAt.keep {w w1 : World} {F : Nat → Prop} {C a : Nat} {m : Mp} {t : Int} {bl bt ba bs bm : Nat} {p : Int} {L : List Int} (h : RemAt w C a m t bl bt ba bs bm p L) (hk : Keep F w w1) (h1 : ¬ F bl) (h2 : ¬ F bt) (h3 : ¬ F ba) (h4 : ¬ F bs) (h5 : ¬ F bm) : RemAt w1 C a m t bl bt ba bs bm p L :=
  ⟨h.line.keep hk h1, h.thr.keep hk h2, h.ahead.keep hk h3, h.seen.keep hk h4, h.set.keep hk h5, h.ne⟩
theorem rem11_on (C P a : Nat) (m : Mp) (Q : Nat → Prop) (t p u : Int) (L : List Int) (bl bt ba bs bm : Nat) (w : World) (hR : RemAt w C a m t bl bt ba bs bm p L) (hu : -1 ≤ u ∧ u < m.t) (hm : m.ok) (h1 : u ≠ t) (h2 : u ≠ -1) (h3 : u ∉ L) (hL : L.length < maxLen) :
    Calls Tryz.prog 188 #[.int .i64 u, pV bt, pV bl, pV ba, pV bs] w fun e w' => ∃ t', e = .returned (pV t') ∧ w.heap.size ≤ t' ∧ DoneV w' (some ⟨t', 0, none⟩) (-2147483648) ∧ RemAt w' C a m t bl bt ba bs bm u (u :: L) ∧ Keep (fun b => b = ba ∨ b = bm) w w' := by
  have hmt := hm.t
  have hub : -9223372036854775808 ≤ u ∧ u ≤ 9223372036854775807 := by omega
  have c0 : w.cell? ⟨bt, 0, none⟩ = some (.int .i64 t) := hR.thr.cell 0 _ rfl
  have c1 : w.cell? ⟨bs, 0, none⟩ = some (.map (some bm)) := hR.seen.cell 0 _ rfl
  have hlk := hR.set.look hub
  rw [show decide (u ∈ L) = false by simpa using h3] at hlk
  have e1 : (u == t) = false := by simpa using h1
  have e2 : (u == -1) = false := by simpa using h2
  have HR := Lib.hid hR
  have HL := Lib.hid hL
  clear hR hL h3 hu hmt hm h1 h2
  go_enter Tryz.func188, Tryz.ntmps188
  go_upto_region 5 with fail
  have z0 := HR.out.ahead.free 0
  obtain ⟨n1, n2, n3, n4, n5, n6, n7⟩ := HR.out.ne
  have ks : Keep (fun b => b = ba) w ((w.setCell ⟨ba, 0, none⟩ (.int .i64 u)).drew) := ((Keep.refl (fun b => b = ba) w).set (p := ⟨ba, 0, none⟩) (fun _ => rfl) _).drew
  have hSa : SetAt ((w.setCell ⟨ba, 0, none⟩ (.int .i64 u)).drew) bm L := HR.out.set.keep ks (fun e => n4 e.symm)
  have c2 : w.cell? ⟨ba, 0, none⟩ = some (.int .i64 p) := HR.out.ahead.cell 0 _ rfl
  obtain ⟨w5, hup, hs5, hg5⟩ := hSa.put hub HL.out
  clear hSa hlk
  go_region
  have k5 : Keep (fun b => b = bm) ((w.setCell ⟨ba, 0, none⟩ (.int .i64 u)).drew) w5 := ⟨hg5.os, hg5.tape, hg5.output, hg5.size, fun k hk hn => hg5.block k hk (fun e => hn (by injection e))⟩
  have kA : Keep (fun b => b = ba ∨ b = bm) w w5 := (ks.mono (fun _ _ h => .inl h)).trans (k5.mono (fun _ _ h => .inr h))
  have hA : Blk w5 ba 3 #[.int .i64 u] := ((HR.out.ahead.set 0 (.int .i64 u)).keep ((Keep.refl (fun _ => False) _).drew) (fun h => h)).keep k5 n4
  have HA := Lib.hid hA
  have HS5 := Lib.hid hs5
  clear hup hA hs5 hg5 c0 c1 c2 z0 ks k5
  go_wp2_with (go_at_call 102; refine (ready_any _ _).mono ?_; rintro e w6 ⟨t', rfl, h1, h2, h3⟩)
  go_ret
  have k6 : Keep (fun _ => False) w5 w6 := Keep.ofBelow h3
  refine ⟨t', rfl, Nat.le_trans kA.size h1, .inr ⟨t', rfl, h2⟩, ⟨(HR.out.line.keep kA ?_).keep k6 (fun h => h), (HR.out.thr.keep kA ?_).keep k6 (fun h => h), HA.out.keep k6 (fun h => h), (HR.out.seen.keep kA ?_).keep k6 (fun h => h), HS5.out.keep k6 (fun h => h), HR.out.ne⟩, kA.trans (Keep.ofBelow h3)⟩
  · exact fun h => h.elim (fun e => n1 e.symm) (fun e => n5 e.symm)
  · exact fun h => h.elim (fun e => n2 e.symm) (fun e => n6 e.symm)
  · exact fun h => h.elim (fun e => n3 e.symm) (fun e => n7 e.symm)
theorem rem11_end (C P a : Nat) (m : Mp) (Q : Nat → Prop) (t p u : Int) (L : List Int) (bl bt ba bs bm : Nat) (w : World) (hR : RemAt w C a m t bl bt ba bs bm p L) (hu : -1 ≤ u ∧ u < m.t) (hm : m.ok) (h1 : u ≠ t) (h2 : u = -1 ∨ u ∈ L) :
    Calls Tryz.prog 188 #[.int .i64 u, pV bt, pV bl, pV ba, pV bs] w fun e w' => ∃ t', e = .returned (pV t') ∧ w.heap.size ≤ t' ∧ DoneV w' (some ⟨t', 0, none⟩) 0 ∧ Below w.heap.size w w' := by
  have hmt := hm.t
  have hub : -9223372036854775808 ≤ u ∧ u ≤ 9223372036854775807 := by omega
  have c0 : w.cell? ⟨bt, 0, none⟩ = some (.int .i64 t) := hR.thr.cell 0 _ rfl
  have c1 : w.cell? ⟨bs, 0, none⟩ = some (.map (some bm)) := hR.seen.cell 0 _ rfl
  have hlk := hR.set.look hub
  have e1 : (u == t) = false := by simpa using h1
  clear hR hu hmt hm
  by_cases h : u = -1
  · subst h
    clear h2 h1 hlk c1
    go_enter Tryz.func188, Tryz.ntmps188
    go_wp2_with (go_at_call 102; refine (ready_any _ _).mono ?_; rintro e w6 ⟨t', rfl, h1, h2, h3⟩)
    go_ret
    exact ⟨t', rfl, h1, .inr ⟨t', rfl, h2⟩, h3⟩
  · have e2 : (u == -1) = false := by simpa using h
    rw [show decide (u ∈ L) = true by simpa using h2.resolve_left h] at hlk
    clear h2 h1 h
    go_enter Tryz.func188, Tryz.ntmps188
    go_wp2_with (go_at_call 102; refine (ready_any _ _).mono ?_; rintro e w6 ⟨t', rfl, h1, h2, h3⟩)
    go_ret
    exact ⟨t', rfl, h1, .inr ⟨t', rfl, h2⟩, h3⟩
theorem rem11_is (C P a : Nat) (m : Mp) (Q : Nat → Prop) (t p : Int) (L : List Int) (bl bt ba bs bm : Nat) (w : World) (hR : RemAt w C a m t bl bt ba bs bm p L) (hp : -1 ≤ p ∧ p < m.t) (ht : 0 ≤ t ∧ t < m.t) (hm : m.ok) (hQ : ∀ k, w.heap.size ≤ k → Q k) :
    Calls Tryz.prog 188 #[.int .i64 t, pV bt, pV bl, pV ba, pV bs] w fun e w' => ∃ t', e = .returned (pV t') ∧ MadeQ (cellOps C P) w Q (seqT [unlinkT m a p t, retT 1]) t' w' := by
  have c0 : w.cell? ⟨bt, 0, none⟩ = some (.int .i64 t) := hR.thr.cell 0 _ rfl
  have c1 : w.cell? ⟨ba, 0, none⟩ = some (.int .i64 p) := hR.ahead.cell 0 _ rfl
  have d0 : w.cell? ⟨bl, 0, none⟩ = some (cellsV C) := hR.line.cell 0 _ rfl
  have d1 : w.cell? ⟨bl, 1, none⟩ = some (.int .i64 (a : Int)) := hR.line.cell 1 _ rfl
  have d2 : w.cell? ⟨bl, 2, none⟩ = some (.int .i64 ((a : Int) + 1)) := hR.line.cell 2 _ rfl
  have d3 : w.cell? ⟨bl, 3, none⟩ = some (nextV m) := hR.line.cell 3 _ rfl
  have d4 : w.cell? ⟨bl, 4, none⟩ = some (.int .i64 (m.t : Int)) := hR.line.cell 4 _ rfl
  have HU := Lib.hid (unlink_any C P a m Q p t w hm hp ht hQ)
  have HR := Lib.hid fun W => readyQ C P Q 1 W
  have HQ := Lib.hid hQ
  have HSQ := Lib.hid fun V t1 t2 (hV : Below w.heap.size w V) h1 h2 q1 q2 => seqT_two (cellOps C P) Q (unlinkT m a p t) (retT 1) t1 t2 V h1 h2 q1 q2 (fun k hk => HQ.out k (by have := hV.size; omega))
  clear hR hm hp ht hQ
  go_enter Tryz.func188, Tryz.ntmps188
  go_wp2_with (first
    | (go_at_call 185; refine HU.out.mono ?_; rintro e w2 ⟨t1, rfl, hM1⟩; have HR2 := Lib.hid (HR.out w2))
    | (go_at_call 102; refine HR2.out.mono ?_; rintro e w3 ⟨t2, rfl, hM2⟩; have b3 : Below w.heap.size w w3 := hM1.2.2.trans (hM2.2.2.mono hM1.2.2.size); have HSQ2 := Lib.hid (HSQ.out w3 t1 t2 b3 (hM1.task.at hM2.2.2) hM2.task (HQ.out _ hM1.1) (HQ.out _ (Nat.le_trans hM1.2.2.size hM2.1))))
    | (go_at_call 138; refine HSQ2.out.mono ?_; rintro e w5 ⟨t3, rfl, hM3⟩))
  go_ret
  exact ⟨t3, rfl, hM3.of b3⟩
theorem call_rem1 : ∀ (W : World) (args : Array Value), (callFunc 187 args).run Tryz.prog W = .ok (.enter 187 args) W := by
  intro W args
  go_simp
theorem call_rem11 : ∀ (W : World) (args : Array Value), (callFunc 188 args).run Tryz.prog W = .ok (.enter 188 args) W := by
  intro W args
  go_simp
abbrev rem1V (bl bt ba bs : Nat) : Value := cloV 187 #[pV bl, pV ba, pV bt, pV bs]
abbrev rem11V (bl bt ba bs : Nat) : Value := cloV 188 #[pV bt, pV bl, pV ba, pV bs]
theorem rem1_any (C a : Nat) (m : Mp) (Q : Nat → Prop) (t p : Int) (L : List Int) (bl bt ba bs bm : Nat) (w : World) (hR : RemAt w C a m t bl bt ba bs bm p L) (hp : -1 ≤ p ∧ p < m.t) (hm : m.ok) (hQ : ∀ k, w.heap.size ≤ k → Q k) :
    Calls Tryz.prog 187 #[pV bl, pV ba, pV bt, pV bs] w fun e w' => ∃ t' W d r f br bl2, e = .returned (pV t') ∧ Below w.heap.size w W ∧ ReadAt W w' C a m Q (behN m a p) (rem11V bl bt ba bs) t' d r f br bl2 ∧ Below w.heap.size w w' := by
  have hmf : ∀ (fn : Fn) (first cap : Array Value) (w : World), (Instr.makeFunc fn first cap).run Tryz.prog w = .ok (.func fn first cap) w := fun _ _ _ _ => rfl
  have HB := Lib.hid fun W => behind_any C a m p W hm hp
  have HD := Lib.hid fun W (h : w.heap.size ≤ W.heap.size) => read_raw C a m (behN m a p) 188 #[pV bt, pV bl, pV ba, pV bs] Q W (fun k hk => hQ k (by omega))
  have SK := Lib.hid (show ∀ V, Below w.heap.size w V → (V.cell? ⟨bl, 0, none⟩ = some (cellsV C) ∧ V.cell? ⟨bl, 1, none⟩ = some (.int .i64 (a : Int)) ∧ V.cell? ⟨bl, 2, none⟩ = some (.int .i64 ((a : Int) + 1)) ∧ V.cell? ⟨bl, 3, none⟩ = some (nextV m) ∧ V.cell? ⟨bl, 4, none⟩ = some (.int .i64 (m.t : Int))) ∧ V.cell? ⟨ba, 0, none⟩ = some (.int .i64 p) from fun V hk => ⟨lineE_of (hR.line.below hk hR.line.lt), (hR.ahead.below hk hR.ahead.lt).cell 0 _ rfl⟩)
  have bd := bdrewE w
  clear hR hp hm hQ
  go_enter Tryz.func187, Tryz.ntmps187
  go_upto_region 1 with fail
  go_region_held3 (fun V => (V.cell? ⟨bl, 0, none⟩ = some (cellsV C) ∧ V.cell? ⟨bl, 1, none⟩ = some (.int .i64 (a : Int)) ∧ V.cell? ⟨bl, 2, none⟩ = some (.int .i64 ((a : Int) + 1)) ∧ V.cell? ⟨bl, 3, none⟩ = some (nextV m) ∧ V.cell? ⟨bl, 4, none⟩ = some (.int .i64 (m.t : Int))) ∧ V.cell? ⟨ba, 0, none⟩ = some (.int .i64 p)) (first | exact SK.out _ b3 | exact SK.out _ b2 | exact SK.out _ bd) (first
    | (go_at_call 182; refine (HB.out _).mono ?_; rintro e w2 ⟨rfl, hb2⟩; have b2 : Below w.heap.size w w2 := bd.trans hb2; have HD2 := Lib.hid (HD.out w2 b2.size))
    | (go_at_call 183; refine HD2.out.mono ?_; rintro e w3 ⟨t', d, r, f, br, bl2, rfl, hA, hb3⟩; have b3 : Below w.heap.size w w3 := b2.trans (hb3.mono b2.size)))
  all_goals go_wp2
  all_goals go_ret
  all_goals exact ⟨t', w2, d, r, f, br, bl2, rfl, b2, hA, b3⟩
end Go.Proofs.YtldofbkjjmnooaaGreat
/- Package queue: remove: a loop over a state. -/
namespace Go.Proofs.YtldofbkjjmnooaaGreat
open Go.ChangeShapes Go.WideShapes Go.ChangeAt Go.RowKit
set_option linter.unusedVariables false
set_option maxRecDepth 100000
set_option linter.unusedSimpArgs false
/-- what remove may yet do: behind p, when these were seen -/
def remP (m : Mp) (a : Nat) (t : Int) : List Int → Int → List Int → Nd Itm
  | [], p, L => .op (ldI (behN m a p))
  | v :: r, p, L => if thrS m v = t then bindT (fun _ => retT 1) (unlinkT m a p t) r
    else if thrS m v = -1 ∨ thrS m v ∈ L then retT 0 r else remP m a t r (thrS m v) (thrS m v :: L)
def remT (m : Mp) (a : Nat) (t p : Int) (L : List Int) : Tre Itm := fun r => remP m a t r p L
def ansR (m : Mp) (a : Nat) (t p : Int) (L : List Int) (v : Int) : Tre Itm := if thrS m v = t then bindT (fun _ => retT 1) (unlinkT m a p t) else if thrS m v = -1 ∨ thrS m v ∈ L then retT 0 else remT m a t (thrS m v) (thrS m v :: L)
def loopR (m : Mp) (a : Nat) (t p : Int) (L : List Int) (v : Int) : Tre Itm := if v = -2147483648 then remT m a t p L else retT v
theorem remT_eq (m : Mp) (a : Nat) (t p : Int) (L : List Int) : remT m a t p L = opT (ldI (behN m a p)) (ansR m a t p L) := by
  funext r
  cases r with
  | nil => rfl
  | cons v r =>
    show remP m a t (v :: r) p L = ansR m a t p L v r
    unfold remP ansR
    split
    · rfl
    · split
      · rfl
      · rfl
theorem loopR_is (m : Mp) (a : Nat) (t p : Int) (L : List Int) : bindT (loopR m a t p L) (seqT [unlinkT m a p t, retT 1]) = bindT (fun _ => retT 1) (unlinkT m a p t) := by
  have e : seqT [unlinkT m a p t, retT 1] = bindT (fun _ => retT 1) (unlinkT m a p t) := by simp only [seqT, bindT_ret]
  rw [e, bindT_assoc]
  congr 1
  funext v
  rw [bindT_ret]
  unfold loopR
  rw [if_neg (by omega)]
abbrev remM (ba bm : Nat) : Nat → Prop := fun b => b = ba ∨ b = bm
/-- what Loop made of it -/
structure LoopAt (w0 w : World) (C a : Nat) (m : Mp) (Q : Nat → Prop) (p : Int) (bl bt ba bs bm t : Nat) (d r : Value) (f br bl2 f2 bb : Nat) : Prop where
  new : w0.heap.size ≤ t ∧ w0.heap.size ≤ f ∧ w0.heap.size ≤ br ∧ w0.heap.size ≤ bl2 ∧ w0.heap.size ≤ f2 ∧ w0.heap.size ≤ bb
  ne : f ≠ t ∧ br ≠ t ∧ bl2 ≠ t ∧ f2 ≠ t ∧ bb ≠ t
  live : Live w t d (.pointer none) r
  op : ∃ b F caps, d = cloV 260 #[pV b] ∧ Q b ∧ b ≠ t ∧ Blk w b 28 #[cloV F caps] ∧ CloAt w C (fun b => Q b ∧ b ≠ t) (ldI (behN m a p)) F caps
  tree : TreeO w (fun b => (Q b ∧ b ≠ t) ∧ ¬ remM ba bm b) r [f, f2]
  box : Blk w f 89 #[cloV 272 #[pV br, pV bl2]]
  fn : Blk w br 89 #[rem11V bl bt ba bs]
  line : Blk w bl2 153 (lineCs C a m)
  box2 : Blk w f2 89 #[cloV 274 #[pV bb]]
  body : Blk w bb 155 #[rem1V bl bt ba bs]
set_option maxHeartbeats 1000000 in
theorem loopR_any (C a : Nat) (m : Mp) (Q : Nat → Prop) (t p : Int) (L : List Int) (bl bt ba bs bm : Nat) (w : World) (hR : RemAt w C a m t bl bt ba bs bm p L) (hp : -1 ≤ p ∧ p < m.t) (hm : m.ok) (hQ : ∀ k, w.heap.size ≤ k → Q k) :
    Calls Tryz.prog 186 #[rem1V bl bt ba bs] w fun e w' => ∃ t' d r f br bl2 f2 bb, e = .returned (pV t') ∧ LoopAt w w' C a m Q p bl bt ba bs bm t' d r f br bl2 f2 bb ∧ Below w.heap.size w w' := by
  have hmf : ∀ (fn : Fn) (first cap : Array Value) (w : World), (Instr.makeFunc fn first cap).run Tryz.prog w = .ok (.func fn first cap) w := fun _ _ _ _ => rfl
  have HQ := Lib.hid hQ
  have hba := hR.ahead.lt
  have hbm := hR.set.lt
  have HA := Lib.hid fun W (hb : Below w.heap.size w W) => answerT_any 187 #[pV bl, pV ba, pV bt, pV bs] W (fun t' w' => ∃ V d r f br bl2, Below W.heap.size W V ∧ ReadAt V w' C a m (fun b => Q b ∧ ¬ remM ba bm b) (behN m a p) (rem11V bl bt ba bs) t' d r f br bl2 ∧ Below W.heap.size W w') call_rem1
    ((rem1_any C a m (fun b => Q b ∧ ¬ remM ba bm b) t p L bl bt ba bs bm W (hR.keep (Keep.ofBelow (Q := fun _ => False) hb) (fun h => h) (fun h => h) (fun h => h) (fun h => h) (fun h => h)) hp hm (fun k hk => ⟨hQ k (Nat.le_trans hb.size hk), fun h => by have := hb.size; rcases h with h | h <;> omega⟩)).mono (by
      rintro e w' ⟨t', V, d, r, f, br, bl2, rfl, h1, h2, h3⟩
      exact ⟨t', rfl, V, d, r, f, br, bl2, h1, h2, h3⟩))
  clear hQ hR
  go_enter Tryz.func186, Tryz.ntmps186
  go_upto_region 1 with fail
  generalize hW : (w.alloc _) = W
  have bW : Below w.heap.size w W := by rw [← hW]; go_grown
  have sW : W.heap.size = w.heap.size + 1 := by rw [← hW]; simp
  have q0 : Blk W w.heap.size 155 #[rem1V bl bt ba bs] := by rw [← hW]; exact Blk.new w _ _
  clear hW
  have c0 : W.cell? ⟨w.heap.size, 0, none⟩ = some (rem1V bl bt ba bs) := q0.cell 0 _ rfl
  have HA2 := Lib.hid (HA.out W bW)
  clear HA
  go_upto_region 2 with (go_at_call 222; refine HA2.out.mono ?_; rintro e w2 ⟨t1, rfl, V, d, r, f, br, bl2, g1, g2, g3⟩)
  have sV := g1.size
  have s2 := g3.size
  obtain ⟨m1, m2, m3, m4, m5, m6, m7⟩ := g2.new
  have HD := Lib.hid (live_done t1 _ _ _ w2 g2.live)
  have HT := Lib.hid (then_raw t1 274 #[pV w.heap.size] d _ r [f] (fun b => Q b ∧ ¬ remM ba bm b) w2 g2.live (g2.tree.mono fun b _ h => h.1) (fun k hk => ⟨HQ.out k (by omega), fun h => by rcases h with h | h <;> omega⟩))
  have Q0 := q0.below g3 q0.lt
  have G2 := Lib.hid g2
  have htl := g2.live.blk.lt
  clear c0 g2
  go_wp2_with (first | (go_at_call 38; refine HD.out.mono ?_; rintro e w3 ⟨rfl, rfl⟩) | (go_at_call 137; refine HT.out.mono ?_; rintro e w3 ⟨t2, f2, j2, rfl, k1, k2, k3, k4, k5, kft, k6⟩))
  go_ret
  have g2 := G2.out
  have kk : Keep (fun _ => False) w2 w3 := Keep.ofBelow k6
  have l1 := g2.box.lt
  have l2 := g2.fn.lt
  have l3 := g2.line.lt
  obtain ⟨b, F, caps, o1, o2, o3, o4, o5⟩ := g2.op
  have l4 := o4.lt
  refine ⟨t2, d, j2, f, br, bl2, f2, w.heap.size, rfl, ⟨⟨by omega, by omega, by omega, by omega, by omega, Nat.le_refl _⟩, ⟨by omega, by omega, by omega, kft, by omega⟩, k4, ⟨b, F, caps, o1, o2.1, by omega, o4.keep kk (fun h => h), o5.keep kk (fun _ _ h => h) (fun b hb h => ⟨h.1.1, by omega⟩)⟩, k5.mono (fun b _ h => ⟨⟨h.1.1, h.2⟩, h.1.2⟩), g2.box.keep kk (fun h => h), g2.fn.keep kk (fun h => h), g2.line.keep kk (fun h => h), k3, Q0.keep kk (fun h => h)⟩, (bW.trans (g3.mono bW.size)).trans (k6.mono (by omega))⟩
end Go.Proofs.YtldofbkjjmnooaaGreat
/- Package queue: remove, as a task by what it may yet do. -/
namespace Go.Proofs.YtldofbkjjmnooaaGreat
open Go.ChangeShapes Go.WideShapes Go.ChangeAt Go.RowKit
set_option linter.unusedVariables false
set_option maxRecDepth 100000
set_option linter.unusedSimpArgs false
theorem nodup_len : ∀ (k : Nat) (L : List Int), L.Nodup → (∀ u ∈ L, 0 ≤ u ∧ u < k) → L.length ≤ k
  | 0, L, _, h => by
    cases L with
    | nil => simp
    | cons u L => have := h u (by simp); omega
  | k + 1, L, hn, h => by
    by_cases hk : (k : Int) ∈ L
    · have h1 := nodup_len k (L.erase (k : Int)) (hn.erase _) (fun u hu => by
        have h2 := (hn.mem_erase_iff).1 hu
        have := h u h2.2
        have h3 := h2.1
        omega)
      rw [List.length_erase_of_mem hk] at h1
      omega
    · have := nodup_len k L hn (fun u hu => by
        have h1 := h u hu
        have h2 : u ≠ k := fun e => hk (e ▸ hu)
        omega)
      omega
theorem loop1_again (C a : Nat) (m : Mp) (Q : Nat → Prop) (t p : Int) (L : List Int) (bl bt ba bs bm bb : Nat) (w : World) (hb : Blk w bb 155 #[rem1V bl bt ba bs]) (hR : RemAt w C a m t bl bt ba bs bm p L) (hp : -1 ≤ p ∧ p < m.t) (hm : m.ok) (hQ : ∀ k, w.heap.size ≤ k → Q k) :
    Calls Tryz.prog 274 #[.int .i64 (-2147483648), pV bb] w fun e w' => ∃ t' d r f br bl2 f2 bb, e = .returned (pV t') ∧ LoopAt w w' C a m Q p bl bt ba bs bm t' d r f br bl2 f2 bb ∧ Below w.heap.size w w' := by
  have c0 : w.cell? ⟨bb, 0, none⟩ = some (rem1V bl bt ba bs) := hb.cell 0 _ rfl
  have HL := Lib.hid (loopR_any C a m Q t p L bl bt ba bs bm w hR hp hm hQ)
  clear hQ hR hm hp hb
  go_enter Tryz.func274, Tryz.ntmps274
  go_wp2_with (go_at_call 186; refine HL.out.mono ?_; rintro e w2 ⟨t', d, r, f, br, bl2, f2, bb2, rfl, h1, h2⟩)
  go_ret
  exact ⟨t', d, r, f, br, bl2, f2, bb2, rfl, h1, h2⟩
theorem loop1_else (v : Int) (bb : Nat) (w : World) (h : v ≠ -2147483648) :
    Calls Tryz.prog 274 #[.int .i64 v, pV bb] w fun e w' => ∃ t, e = .returned (pV t) ∧ w.heap.size ≤ t ∧ DoneV w' (some ⟨t, 0, none⟩) v ∧ Below w.heap.size w w' := by
  go_enter Tryz.func274, Tryz.ntmps274
  go_wp2_with (go_at_call 102; refine (ready_any _ _).mono ?_; rintro e w2 ⟨t, rfl, h1, h2, h3⟩)
  go_ret
  exact ⟨t, rfl, h1, .inr ⟨t, rfl, h2⟩, h3⟩
/-- remove's continuations, over their state -/
def RemK (C P : Nat) (m : Mp) (a : Nat) (t : Int) : MRel Itm := fun w Q M fs κ =>
  (∃ bl bt ba bs bm p L f2 bb, M = remM ba bm ∧ RemAt w C a m t bl bt ba bs bm p L ∧ (Q bl ∧ Q bt ∧ Q ba ∧ Q bs ∧ Q bm ∧ Q f2 ∧ Q bb) ∧ (¬ remM ba bm f2 ∧ ¬ remM ba bm bb) ∧ (-1 ≤ p ∧ p < m.t) ∧ (L.Nodup ∧ ∀ u ∈ L, 0 ≤ u ∧ u < (m.t : Int)) ∧
    Blk w f2 89 #[cloV 274 #[pV bb]] ∧ Blk w bb 155 #[rem1V bl bt ba bs] ∧
    ((fs = [f2] ∧ κ = loopR m a t p L) ∨ ∃ f br bl2, fs = [f, f2] ∧ κ = ansR m a t p L ∧ (Q f ∧ Q br ∧ Q bl2) ∧ (¬ remM ba bm f ∧ ¬ remM ba bm br ∧ ¬ remM ba bm bl2) ∧ Blk w f 89 #[cloV 272 #[pV br, pV bl2]] ∧ Blk w br 89 #[rem11V bl bt ba bs] ∧ Blk w bl2 153 (lineCs C a m))) ∨
  ContsM (cellOps C P) w Q M fs κ
theorem remK_few {C P : Nat} {m : Mp} {a : Nat} {t : Int} (w : World) (Q M : Nat → Prop) (fs : List Nat) (κ : Int → Tre Itm) (h : RemK C P m a t w Q M fs κ) : ∀ b, M b → Q b ∧ b < w.heap.size := by
  rcases h with ⟨bl, bt, ba, bs, bm, p, L, f2, bb, rfl, hR, ⟨q1, q2, q3, q4, q5, q6, q7⟩, _⟩ | h
  · intro b hb
    rcases hb with rfl | rfl
    · exact ⟨q3, hR.ahead.lt⟩
    · exact ⟨q5, hR.set.lt⟩
  · exact h.few
theorem remK_keep {C P : Nat} {m : Mp} {a : Nat} {t : Int} (w w1 : World) (Q Q' M F : Nat → Prop) (fs : List Nat) (κ : Int → Tre Itm) (h : RemK C P m a t w Q M fs κ) (hk : Keep F w w1) (hd : ∀ b, Q b → ¬ F b) (hq : ∀ b, b < w.heap.size → Q b → Q' b) : RemK C P m a t w1 Q' M fs κ := by
  rcases h with ⟨bl, bt, ba, bs, bm, p, L, f2, bb, rfl, hR, ⟨q1, q2, q3, q4, q5, q6, q7⟩, hn, hp, hL, h1, h2, h3⟩ | h
  · refine .inl ⟨bl, bt, ba, bs, bm, p, L, f2, bb, rfl, hR.keep hk (hd _ q1) (hd _ q2) (hd _ q3) (hd _ q4) (hd _ q5), ⟨hq _ hR.line.lt q1, hq _ hR.thr.lt q2, hq _ hR.ahead.lt q3, hq _ hR.seen.lt q4, hq _ hR.set.lt q5, hq _ h1.lt q6, hq _ h2.lt q7⟩, hn, hp, hL, h1.keep hk (hd _ q6), h2.keep hk (hd _ q7), ?_⟩
    rcases h3 with h3 | ⟨f, br, bl2, e1, e2, ⟨r1, r2, r3⟩, hn2, g1, g2, g3⟩
    · exact .inl h3
    · exact .inr ⟨f, br, bl2, e1, e2, ⟨hq _ g1.lt r1, hq _ g2.lt r2, hq _ g3.lt r3⟩, hn2, g1.keep hk (hd _ r1), g2.keep hk (hd _ r2), g3.keep hk (hd _ r3)⟩
  · exact .inr (h.keep hk hd hq)
set_option maxHeartbeats 1000000 in
theorem remK_step {C P : Nat} {m : Mp} (hm : m.ok) {a : Nat} {t : Int} (ht : 0 ≤ t ∧ t < m.t) (w : World) (Q M : Nat → Prop) (fs : List Nat) (κ : Int → Tre Itm) (h : RemK C P m a t w Q M fs κ) : StepM (cellOps C P) (Mix (cellOps C P) (RemK C P m a t)) w Q M fs κ := by
  have hfw := remK_few w Q M fs κ h
  rcases h with ⟨bl, bt, ba, bs, bm, p, L, f2, bb, rfl, hR, ⟨q1, q2, q3, q4, q5, q6, q7⟩, ⟨hn1, hn2⟩, hp, hL, h1, h2, h3⟩ | h
  · refine ⟨hfw, ?_⟩
    have nq : ∀ b, Q b → ¬ ¬ Q b := fun b h hn => hn h
    rcases h3 with ⟨rfl, rfl⟩ | ⟨f, br, bl2, rfl, rfl, ⟨r1, r2, r3⟩, ⟨o1, o2, o3⟩, g1, g2, g3⟩
    · refine ⟨q6, h1.lt, fun v w1 hw => ?_⟩
      have hs1 := hw.size
      have hR1 := hR.keep hw (nq _ q1) (nq _ q2) (nq _ q3) (nq _ q4) (nq _ q5)
      have hB1 := h1.keep hw (nq _ q6)
      have hB2 := h2.keep hw (nq _ q7)
      have hM1 : ∀ b, remM ba bm b → b < w1.heap.size := fun b hb => Nat.lt_of_lt_of_le (hfw b hb).2 hs1
      have hM2 : ∀ b, remM ba bm b → (Q b ∧ b < w.heap.size) ∨ w1.heap.size ≤ b := fun b hb => .inl (hfw b hb)
      by_cases hv : v = -2147483648
      · subst hv
        refine (then1P_any f2 274 #[pV bb] (-2147483648) w1 (fun n w' => ∃ t' d r f br bl2 f2 bb, n = some ⟨t', 0, none⟩ ∧ LoopAt w1 w' C a m (fun b => w1.heap.size ≤ b) p bl bt ba bs bm t' d r f br bl2 f2 bb ∧ Below w1.heap.size w1 w') hB1 call_loop1 fun w2 hb => ?_).mono ?_
        · have hb0 : Keep (fun _ => False) w1 w2 := Keep.ofBelow hb
          have s2 := hb.size
          refine (loop1_again C a m (fun b => w2.heap.size ≤ b) t p L bl bt ba bs bm bb w2 (hB2.keep hb0 (fun h => h)) (hR1.keep hb0 (fun h => h) (fun h => h) (fun h => h) (fun h => h) (fun h => h)) hp hm (fun _ h => h)).mono ?_
          rintro e w' ⟨t', d, r, f, br, bl2, f3, bb2, rfl, hA, hb2⟩
          obtain ⟨b, F, caps, x1, x2, x3, x4, x5⟩ := hA.op
          exact ⟨_, rfl, t', d, r, f, br, bl2, f3, bb2, rfl, ⟨⟨by have := hA.new; omega, by have := hA.new; omega, by have := hA.new; omega, by have := hA.new; omega, by have := hA.new; omega, by have := hA.new; omega⟩, hA.ne, hA.live, ⟨b, F, caps, x1, Nat.le_trans s2 x2, x3, x4, x5.keep (Keep.refl (fun _ => False) w') (fun _ _ h => h) (fun b _ h => ⟨Nat.le_trans s2 h.1, h.2⟩)⟩, hA.tree.mono (fun b _ h => ⟨⟨Nat.le_trans s2 h.1.1, h.1.2⟩, h.2⟩), hA.box, hA.fn, hA.line, hA.box2, hA.body⟩, hb.trans (hb2.mono s2)⟩
        · rintro e w' ⟨_, rfl, t', d, r, f, br, bl2, f3, bb2, rfl, hA, hb⟩
          have hk : Keep (fun _ => False) w1 w' := Keep.ofBelow hb
          obtain ⟨n1, n2, n3, n4, n5, n6⟩ := hA.new
          obtain ⟨b, F, caps, x1, x2, x3, x4, x5⟩ := hA.op
          have nm : ∀ b, w1.heap.size ≤ b → ¬ remM ba bm b := fun b hb h => by have := hM1 b h; omega
          refine ⟨_, remM ba bm, rfl, Keep.ofBelow hb, fun _ _ h => h, fun j e => by injection e with e; injection e with e; exact .inr (e ▸ n1), .inr ⟨ldI (behN m a p), ansR m a t p L, t', d, _, r, [f, f3], ?_, rfl, hA.live, hA.tree.mono (fun b _ h => ⟨.inr h.1.1, h.2⟩), .inl ⟨b, F, caps, x1, rfl, .inr x2, x4, x5.keep (Keep.refl (fun _ => False) w') (fun _ _ h => h) (fun b _ h => .inr h.1)⟩, Mix.of (.inl ⟨bl, bt, ba, bs, bm, p, L, f3, bb2, rfl, hR1.keep hk (fun h => h) (fun h => h) (fun h => h) (fun h => h) (fun h => h), ⟨.inl ⟨q1, hR.line.lt⟩, .inl ⟨q2, hR.thr.lt⟩, .inl ⟨q3, hR.ahead.lt⟩, .inl ⟨q4, hR.seen.lt⟩, .inl ⟨q5, hR.set.lt⟩, .inr n5, .inr n6⟩, ⟨nm _ n5, nm _ n6⟩, hp, hL, hA.box2, hA.body, .inr ⟨f, br, bl2, rfl, rfl, ⟨.inr n2, .inr n3, .inr n4⟩, ⟨nm _ n2, nm _ n3, nm _ n4⟩, hA.box, hA.fn, hA.line⟩⟩)⟩⟩
          unfold loopR
          rw [if_pos rfl, remT_eq]
      · refine (then1P_any f2 274 #[pV bb] v w1 (fun n w' => ∃ t', n = some ⟨t', 0, none⟩ ∧ w1.heap.size ≤ t' ∧ DoneV w' (some ⟨t', 0, none⟩) v ∧ Below w1.heap.size w1 w') hB1 call_loop1 fun w2 hb => ?_).mono ?_
        · refine (loop1_else v bb w2 hv).mono ?_
          rintro e w' ⟨t', rfl, x1, x2, x3⟩
          exact ⟨_, rfl, t', rfl, Nat.le_trans hb.size x1, x2, hb.trans (x3.mono hb.size)⟩
        · rintro e w' ⟨_, rfl, t', rfl, x1, x2, x3⟩
          refine ⟨_, remM ba bm, rfl, Keep.ofBelow x3, fun _ _ h => h, fun j e => by injection e with e; injection e with e; exact .inr (e ▸ x1), .inl ⟨v, retT, x2, Mix.of (.inr (ContsM.nil fun b hb => ⟨hM2 b hb, Nat.lt_of_lt_of_le (hM1 b hb) x3.size⟩)), ?_⟩⟩
          unfold loopR
          rw [if_neg hv]
    · refine ⟨r1, g1.lt, fun v w1 hw => ?_⟩
      have hs1 := hw.size
      have hR1 := hR.keep hw (nq _ q1) (nq _ q2) (nq _ q3) (nq _ q4) (nq _ q5)
      have hM1 : ∀ b, remM ba bm b → b < w1.heap.size := fun b hb => Nat.lt_of_lt_of_le (hfw b hb).2 hs1
      have nm : ∀ b, w1.heap.size ≤ b → ¬ remM ba bm b := fun b hb h => by have := hM1 b h; omega
      have hu := thrS_range m v
      obtain ⟨u, hue⟩ : ∃ u, u = thrS m v := ⟨_, rfl⟩
      rw [← hue] at hu
      refine (then1P_any f 272 #[pV br, pV bl2] v w1 (fun n w' => ∃ t' W, n = some ⟨t', 0, none⟩ ∧ Below w1.heap.size w1 W ∧ Keep (remM ba bm) W w' ∧ ((u = t ∧ MadeQ (cellOps C P) W (fun b => W.heap.size ≤ b) (seqT [unlinkT m a p t, retT 1]) t' w') ∨ (u ≠ t ∧ (u = -1 ∨ u ∈ L) ∧ W.heap.size ≤ t' ∧ DoneV w' (some ⟨t', 0, none⟩) 0 ∧ Below W.heap.size W w') ∨
        (u ≠ t ∧ ¬ (u = -1 ∨ u ∈ L) ∧ W.heap.size ≤ t' ∧ DoneV w' (some ⟨t', 0, none⟩) (-2147483648) ∧ RemAt w' C a m t bl bt ba bs bm u (u :: L)))) (g1.keep hw (nq _ r1)) call_read1 fun w2 hb => ?_).mono ?_
      · have hb0 : Keep (fun _ => False) w1 w2 := Keep.ofBelow hb
        have s2 := hb.size
        have hR2 := hR1.keep hb0 (fun h => h) (fun h => h) (fun h => h) (fun h => h) (fun h => h)
        refine (read1_any C a m v br bl2 188 #[pV bt, pV bl, pV ba, pV bs] w2 (remM ba bm) (fun W t' w' => (u = t ∧ MadeQ (cellOps C P) W (fun b => W.heap.size ≤ b) (seqT [unlinkT m a p t, retT 1]) t' w') ∨ (u ≠ t ∧ (u = -1 ∨ u ∈ L) ∧ W.heap.size ≤ t' ∧ DoneV w' (some ⟨t', 0, none⟩) 0 ∧ Below W.heap.size W w') ∨
          (u ≠ t ∧ ¬ (u = -1 ∨ u ∈ L) ∧ W.heap.size ≤ t' ∧ DoneV w' (some ⟨t', 0, none⟩) (-2147483648) ∧ RemAt w' C a m t bl bt ba bs bm u (u :: L))) hm ((g2.keep hw (nq _ r2)).keep hb0 (fun h => h)) ((g3.keep hw (nq _ r3)).keep hb0 (fun h => h)) o2 o3 call_rem11 fun W hW => ?_).mono ?_
        · have hR3 := hR2.keep (F := fun _ => False) (Keep.ofBelow hW) (fun h => h) (fun h => h) (fun h => h) (fun h => h) (fun h => h)
          rw [← hue]
          by_cases e1 : u = t
          · rw [e1]
            refine (rem11_is C P a m (fun b => W.heap.size ≤ b) t p L bl bt ba bs bm W hR3 hp ht hm (fun _ h => h)).mono ?_
            rintro e w' ⟨t', rfl, hM⟩
            exact ⟨t', rfl, Keep.ofBelow hM.2.2, .inl ⟨rfl, hM⟩⟩
          · by_cases e2 : u = -1 ∨ u ∈ L
            · refine (rem11_end C P a m (fun _ => True) t p u L bl bt ba bs bm W hR3 hu hm e1 e2).mono ?_
              rintro e w' ⟨t', rfl, x1, x2, x3⟩
              exact ⟨t', rfl, Keep.ofBelow x3, .inr (.inl ⟨e1, e2, x1, x2, x3⟩)⟩
            · have hlen := nodup_len m.t L hL.1 hL.2
              refine (rem11_on C P a m (fun _ => True) t p u L bl bt ba bs bm W hR3 hu hm e1 (fun h => e2 (.inl h)) (fun h => e2 (.inr h)) (by have := hm.t; unfold maxLen; omega)).mono ?_
              rintro e w' ⟨t', rfl, x1, x2, x3, x4⟩
              exact ⟨t', rfl, x4, .inr (.inr ⟨e1, e2, x1, x2, x3⟩)⟩
        · rintro e w' ⟨t', W, rfl, hW, hk, hr⟩
          exact ⟨_, rfl, t', W, rfl, hb.trans (hW.mono s2), hk, hr⟩
      · rintro e w' ⟨_, rfl, t', W, rfl, hW, hk, hr⟩
        have sW := hW.size
        have kW : Keep (remM ba bm) w1 w' := (Keep.ofBelow hW).trans hk
        have ht' : w1.heap.size ≤ t' := by
          rcases hr with ⟨_, hM⟩ | ⟨_, _, h, _⟩ | ⟨_, _, h, _⟩
          · exact Nat.le_trans sW hM.1
          · exact Nat.le_trans sW h
          · exact Nat.le_trans sW h
        have hK : ∀ p' L', RemAt w' C a m t bl bt ba bs bm p' L' → (-1 ≤ p' ∧ p' < (m.t : Int)) → (L'.Nodup ∧ ∀ u ∈ L', 0 ≤ u ∧ u < (m.t : Int)) → RemK C P m a t w' (fun b => (Q b ∧ b < w.heap.size) ∨ w1.heap.size ≤ b) (remM ba bm) [f2] (loopR m a t p' L') := fun p' L' hR' hp' hL' =>
          .inl ⟨bl, bt, ba, bs, bm, p', L', f2, bb, rfl, hR', ⟨.inl ⟨q1, hR.line.lt⟩, .inl ⟨q2, hR.thr.lt⟩, .inl ⟨q3, hR.ahead.lt⟩, .inl ⟨q4, hR.seen.lt⟩, .inl ⟨q5, hR.set.lt⟩, .inl ⟨q6, h1.lt⟩, .inl ⟨q7, h2.lt⟩⟩, ⟨hn1, hn2⟩, hp', hL', (h1.keep hw (nq _ q6)).keep kW hn1, (h2.keep hw (nq _ q7)).keep kW hn2, .inl ⟨rfl, rfl⟩⟩
        refine ⟨_, remM ba bm, rfl, kW, fun _ _ h => h, fun j e => by injection e with e; injection e with e; exact .inr (e ▸ ht'), ?_⟩
        have hRW := hR1.keep (F := fun _ => False) (Keep.ofBelow hW) (fun h => h) (fun h => h) (fun h => h) (fun h => h) (fun h => h)
        rcases hr with ⟨e1, hM⟩ | ⟨e1, e2, x1, x2, x3⟩ | ⟨e1, e2, x1, x2, x3⟩
        · have := jm_mix (cellOps C P) (RemK C P m a t) (bindT (loopR m a t p L)) (fun x g => bindT_op _ x g) (Q := fun b => (Q b ∧ b < w.heap.size) ∨ w1.heap.size ≤ b) (Q0 := fun b => W.heap.size ≤ b) (M := remM ba bm) (fun v => bindT_ret _ v) (hK p L (hRW.keep (F := fun _ => False) (Keep.ofBelow hM.2.2) (fun h => h) (fun h => h) (fun h => h) (fun h => h) (fun h => h)) hp hL) (fun b hb => ⟨.inr (Nat.le_trans sW hb), nm b (Nat.le_trans sW hb)⟩) hM.task
          rw [loopR_is] at this
          have ea : ansR m a t p L v = bindT (fun _ => retT 1) (unlinkT m a p t) := by
            unfold ansR
            rw [← hue, if_pos e1]
          rw [ea]
          exact this
        · refine .inl ⟨0, loopR m a t p L, x2, Mix.of (hK p L (hRW.keep (F := fun _ => False) (Keep.ofBelow x3) (fun h => h) (fun h => h) (fun h => h) (fun h => h) (fun h => h)) hp hL), ?_⟩
          unfold ansR loopR
          rw [← hue, if_neg e1, if_pos e2, if_neg (by omega)]
        · refine .inl ⟨-2147483648, loopR m a t u (u :: L), x2, Mix.of (hK u (u :: L) x3 hu ⟨List.nodup_cons.2 ⟨fun h => e2 (.inr h), hL.1⟩, fun z hz => ?_⟩), ?_⟩
          · rcases List.mem_cons.1 hz with rfl | hz
            · have : z ≠ -1 := fun h => e2 (.inl h)
              omega
            · exact hL.2 z hz
          · unfold ansR loopR
            rw [← hue, if_neg e1, if_neg e2, if_pos rfl]
  · exact h.unfold.mono fun _ _ _ _ _ h => Mix.of (.inr h)
theorem remK_conts {C P : Nat} {m : Mp} (hm : m.ok) {a : Nat} {t : Int} (ht : 0 ≤ t ∧ t < m.t) {w : World} {Q M : Nat → Prop} {fs : List Nat} {κ : Int → Tre Itm} (h : RemK C P m a t w Q M fs κ) : ContsM (cellOps C P) w Q M fs κ :=
  contsM_upto (cellOps C P) (RemK C P m a t) remK_few remK_keep (remK_step hm ht) (Mix.of h)
end Go.Proofs.YtldofbkjjmnooaaGreat
/- Package queue: push, unlink, pop. -/
namespace Go.Proofs.YtldofbkjjmnooaaGreat
open Go.ChangeShapes Go.WideShapes Go.ChangeAt Go.RowKit
set_option linter.unusedVariables false
set_option maxRecDepth 100000
set_option linter.unusedSimpArgs false
/-- the cells of a line's box, and of another one's -/
def LineC (V : World) (C a : Nat) (m : Mp) (bl : Nat) : Prop := V.cell? ⟨bl, 0, none⟩ = some (cellsV C) ∧ V.cell? ⟨bl, 1, none⟩ = some (.int .i64 (a : Int)) ∧ V.cell? ⟨bl, 2, none⟩ = some (.int .i64 ((a : Int) + 1)) ∧ V.cell? ⟨bl, 3, none⟩ = some (nextV m) ∧ V.cell? ⟨bl, 4, none⟩ = some (.int .i64 (m.t : Int))
theorem lineC_of {V : World} {C a : Nat} {m : Mp} {bl : Nat} (h : Blk V bl 153 (lineCs C a m)) : LineC V C a m bl := ⟨h.cell 0 _ rfl, h.cell 1 _ rfl, h.cell 2 _ rfl, h.cell 3 _ rfl, h.cell 4 _ rfl⟩
theorem bdrew (w : World) : Below w.heap.size w w.drew := ⟨rfl, rfl, rfl, Nat.le_refl _, fun _ _ => rfl⟩
theorem push1_any (C P a : Nat) (m : Mp) (Q : Nat → Prop) (u t : Int) (bl bt : Nat) (w : World) (hm : m.ok) (hu : -1 ≤ u ∧ u < m.t) (ht : 0 ≤ t ∧ t < m.t) (hl : Blk w bl 153 (lineCs C a m)) (hb : Blk w bt 3 #[.int .i64 t]) (hQ : ∀ k, w.heap.size ≤ k → Q k) :
    Calls Tryz.prog 181 #[.int .i64 u, pV bl, pV bt] w fun e w' => ∃ t', e = .returned (pV t') ∧ MadeQ (cellOps C P) w Q (stT (behN m a u) (t + 1)) t' w' := by
  have HB := Lib.hid fun W => behind_any C a m u W hm hu
  have HM := Lib.hid fun W => mark_any t W (by have := hm.t; omega)
  have HS := Lib.hid fun W (h : w.heap.size ≤ W.heap.size) => storeQ C P Q (behN m a u) (t + 1) W (fun k hk => hQ k (by omega))
  have SK := Lib.hid (show ∀ V, Below w.heap.size w V → (V.cell? ⟨bl, 0, none⟩ = some (cellsV C) ∧ V.cell? ⟨bl, 1, none⟩ = some (.int .i64 (a : Int)) ∧ V.cell? ⟨bl, 2, none⟩ = some (.int .i64 ((a : Int) + 1)) ∧ V.cell? ⟨bl, 3, none⟩ = some (nextV m) ∧ V.cell? ⟨bl, 4, none⟩ = some (.int .i64 (m.t : Int))) ∧ V.cell? ⟨bt, 0, none⟩ = some (.int .i64 t) from fun V hk => ⟨lineC_of (hl.below hk hl.lt), (hb.below hk hb.lt).cell 0 _ rfl⟩)
  have bd := bdrew w
  clear hm hu ht hl hb hQ
  go_enter Tryz.func181, Tryz.ntmps181
  go_upto_region 1 with fail
  go_region_held3 (fun V => (V.cell? ⟨bl, 0, none⟩ = some (cellsV C) ∧ V.cell? ⟨bl, 1, none⟩ = some (.int .i64 (a : Int)) ∧ V.cell? ⟨bl, 2, none⟩ = some (.int .i64 ((a : Int) + 1)) ∧ V.cell? ⟨bl, 3, none⟩ = some (nextV m) ∧ V.cell? ⟨bl, 4, none⟩ = some (.int .i64 (m.t : Int))) ∧ V.cell? ⟨bt, 0, none⟩ = some (.int .i64 t)) (first | exact SK.out _ b3 | exact SK.out _ b2 | exact SK.out _ bd) (first
    | (go_at_call 182; refine (HB.out _).mono ?_; rintro e w2 ⟨rfl, hb2⟩; have b2 : Below w.heap.size w w2 := bd.trans hb2; have HS2 := Lib.hid (HS.out w2 b2.size))
    | (go_at_call 179; refine (HM.out _).mono ?_; rintro e w2b ⟨rfl, rfl⟩)
    | (go_at_call 178; refine HS2.out.mono ?_; rintro e w3 ⟨t', rfl, hM⟩; have b3 : Below w.heap.size w w3 := b2.trans (hM.2.2.mono b2.size)))
  go_wp2
  go_ret
  exact ⟨t', rfl, hM.of b2⟩
theorem call_push1 : ∀ (W : World) (args : Array Value), (callFunc 181 args).run Tryz.prog W = .ok (.enter 181 args) W := by
  intro W args
  go_simp
/-- at numbers that are no threads -/
theorem thread_free (m : Mp) (u : Int) (w : World) : Calls Tryz.prog 108 #[mapV m, .int .i64 u] w fun e w' => ∃ z, e = .returned (.int .i64 z) ∧ Below w.heap.size w w' := by
  go_enter Tryz.func108, Tryz.ntmps108
  go_wp2
  go_ret
  exact ⟨_, rfl, by go_grown⟩
theorem next_free (m : Mp) (u : Int) (w : World) : Calls Tryz.prog 30 #[mapV m, .int .i64 u] w fun e w' => ∃ z, e = .returned (.int .i64 z) ∧ Below w.heap.size w w' := by
  go_enter Tryz.func30, Tryz.ntmps30
  go_wp2_with (go_at_call 108; refine (thread_free m u _).mono ?_; rintro e w2 ⟨z, rfl, b2⟩)
  go_ret
  exact ⟨z, rfl, ((Below.refl _ w).alloc (Nat.le_refl _) _).trans (b2.mono (by simp))⟩
theorem behind_free (C a : Nat) (m : Mp) (u : Int) (w : World) : Calls Tryz.prog 182 #[lineV C a m, .int .i64 u] w fun e w' => ∃ z, e = .returned (.int .i64 z) ∧ Below w.heap.size w w' := by
  by_cases hu : u = -1
  · subst hu
    go_enter Tryz.func182, Tryz.ntmps182
    go_wp2
    go_ret
    exact ⟨_, rfl, by go_grown⟩
  · go_enter Tryz.func182, Tryz.ntmps182
    go_wp2_with (go_at_call 30; refine (next_free m u _).mono ?_; rintro e w2 ⟨z, rfl, b2⟩)
    go_ret
    exact ⟨z, rfl, ((Below.refl _ w).alloc (Nat.le_refl _) _).trans (b2.mono (by simp))⟩
theorem store_free (C : Nat) (z v : Int) (w : World) : Calls Tryz.prog 178 #[cellsV C, .int .i64 z, .int .u64 v] w fun e w' => ∃ t b, e = .returned (pV t) ∧ w.heap.size ≤ t ∧ Blk w' t 161 #[cloV 260 #[pV b], .pointer none, .pointer none, .int .i64 0] ∧ Below w.heap.size w w' := by
  have hmf : ∀ (fn : Fn) (first cap : Array Value) (w : World), (Instr.makeFunc fn first cap).run Tryz.prog w = .ok (.func fn first cap) w := fun _ _ _ _ => rfl
  go_enter Tryz.func178, Tryz.ntmps178
  go_upto_region 1 with fail
  generalize hW : ((w.alloc _).alloc _).alloc _ = W
  have bW : Below w.heap.size w W := by rw [← hW]; go_grown
  have sW : W.heap.size = w.heap.size + 3 := by rw [← hW]; simp
  clear hW
  have HO := Lib.hid (one_any 269 #[pV w.heap.size, pV (w.heap.size + 1), pV (w.heap.size + 2)] W)
  go_wp2_with (go_at_call 167; refine HO.out.mono ?_; rintro e w1 ⟨t, b, rfl, h1, h2, h3, h4, h5⟩)
  go_ret
  exact ⟨t, b, rfl, by omega, h4, bW.trans (h5.mono bW.size)⟩
def junkT : Tre Itm := opT ⟨8, 0, 0, 0⟩ retT
theorem push1_free (C P a : Nat) (m : Mp) (Q : Nat → Prop) (u t : Int) (bl bt : Nat) (w : World) (ht : 0 ≤ t ∧ t ≤ 32766) (hl : Blk w bl 153 (lineCs C a m)) (hb : Blk w bt 3 #[.int .i64 t]) :
    Calls Tryz.prog 181 #[.int .i64 u, pV bl, pV bt] w fun e w' => ∃ t', e = .returned (pV t') ∧ MadeQ (cellOps C P) w Q junkT t' w' := by
  have HB := Lib.hid fun W => behind_free C a m u W
  have HM := Lib.hid fun W => mark_any t W (by omega)
  have HS := Lib.hid fun W z => store_free C z (t + 1) W
  have SK := Lib.hid (show ∀ V, Below w.heap.size w V → (V.cell? ⟨bl, 0, none⟩ = some (cellsV C) ∧ V.cell? ⟨bl, 1, none⟩ = some (.int .i64 (a : Int)) ∧ V.cell? ⟨bl, 2, none⟩ = some (.int .i64 ((a : Int) + 1)) ∧ V.cell? ⟨bl, 3, none⟩ = some (nextV m) ∧ V.cell? ⟨bl, 4, none⟩ = some (.int .i64 (m.t : Int))) ∧ V.cell? ⟨bt, 0, none⟩ = some (.int .i64 t) from fun V hk => ⟨lineC_of (hl.below hk hl.lt), (hb.below hk hb.lt).cell 0 _ rfl⟩)
  have bd := bdrew w
  clear ht hl hb
  go_enter Tryz.func181, Tryz.ntmps181
  go_upto_region 1 with fail
  go_region_held3 (fun V => (V.cell? ⟨bl, 0, none⟩ = some (cellsV C) ∧ V.cell? ⟨bl, 1, none⟩ = some (.int .i64 (a : Int)) ∧ V.cell? ⟨bl, 2, none⟩ = some (.int .i64 ((a : Int) + 1)) ∧ V.cell? ⟨bl, 3, none⟩ = some (nextV m) ∧ V.cell? ⟨bl, 4, none⟩ = some (.int .i64 (m.t : Int))) ∧ V.cell? ⟨bt, 0, none⟩ = some (.int .i64 t)) (first | exact SK.out _ b3 | exact SK.out _ b2 | exact SK.out _ bd) (first
    | (go_at_call 182; refine (HB.out _).mono ?_; rintro e w2 ⟨z, rfl, hb2⟩; have b2 : Below w.heap.size w w2 := bd.trans hb2; have HS2 := Lib.hid (HS.out w2 z))
    | (go_at_call 179; refine (HM.out _).mono ?_; rintro e w2b ⟨rfl, rfl⟩)
    | (go_at_call 178; refine HS2.out.mono ?_; rintro e w3 ⟨t', b', rfl, h1, h2, h3⟩; have b3 : Below w.heap.size w w3 := b2.trans (h3.mono b2.size)))
  go_wp2
  go_ret
  have := b2.size
  exact ⟨t', rfl, by omega, .inr ⟨⟨8, 0, 0, 0⟩, retT, t', _, _, _, [], rfl, rfl, ⟨h2, .inl ⟨_, _, rfl, rfl⟩⟩, .inl ⟨rfl, rfl⟩, .inr (.inr ⟨rfl, rfl, _, _, rfl⟩), fun v => rfl⟩, b3⟩
def pushK (m : Mp) (a : Nat) (t u : Int) : Tre Itm := if -1 ≤ u ∧ u < m.t then stT (behN m a u) (t + 1) else junkT
def pushT (m : Mp) (a : Nat) (t : Int) : Tre Itm := seqT [stT (nxN m t) 0, bindT (pushK m a t) (endT m a), stT (a + 1) (t + 1), retT 0]
set_option maxHeartbeats 4000000 in
theorem lpush_any (C P a : Nat) (m : Mp) (Q : Nat → Prop) (t : Int) (w : World) (hm : m.ok) (ht : 0 ≤ t ∧ t < m.t) (hQ : ∀ k, w.heap.size ≤ k → Q k) :
    Calls Tryz.prog 104 #[lineV C a m, .int .i64 t] w fun e w' => ∃ t', e = .returned (pV t') ∧ MadeQ (cellOps C P) w Q (pushT m a t) t' w' := by
  have hmf : ∀ (fn : Fn) (first cap : Array Value) (w : World), (Instr.makeFunc fn first cap).run Tryz.prog w = .ok (.func fn first cap) w := fun _ _ _ _ => rfl
  have HQ := Lib.hid hQ
  have HM := Lib.hid hm
  have Ht := Lib.hid ht
  clear hQ hm ht
  go_enter Tryz.func104, Tryz.ntmps104
  go_upto_region 1 with fail
  generalize hW : ((w.alloc _).alloc _) = W
  have bW : Below w.heap.size w W := by rw [← hW]; go_grown
  have sW : W.heap.size = w.heap.size + 2 := by rw [← hW]; simp
  have q0 : Blk W w.heap.size 153 (lineCs C a m) := by rw [← hW]; exact (Blk.new w _ _).alloc _
  have q1 : Blk W (w.heap.size + 1) 3 #[.int .i64 t] := by rw [← hW]; exact blk_two w _ _ _
  clear hW
  have HX := Lib.hid fun V => next_any m t V HM.out Ht.out
  have HK := Lib.hid fun V => mark_any (-1) V (by omega)
  have HK2 := Lib.hid fun V => mark_any t V (by have := HM.out.t; have := Ht.out; omega)
  have HS := Lib.hid fun V (h : W.heap.size ≤ V.heap.size) => storeQ C P Q (nxN m t) 0 V (fun k hk => HQ.out k (by omega))
  have HS2 := Lib.hid fun V (h : W.heap.size ≤ V.heap.size) => storeQ C P Q (a + 1) (t + 1) V (fun k hk => HQ.out k (by omega))
  rw [show (((a + 1 : Nat) : Int)) = (a : Int) + 1 by omega] at HS2
  have HE := Lib.hid fun V (h : W.heap.size ≤ V.heap.size) => end_any C P a m Q V HM.out (fun k hk => HQ.out k (by omega))
  have HR := Lib.hid fun V => readyQ C P Q 0 V
  have HT := Lib.hid fun V T tt (hV : Below W.heap.size W V) (h1 : TaskF (cellOps C P) V Q (some ⟨tt, 0, none⟩) T) => thenT_any (cellOps C P) (some ⟨tt, 0, none⟩) 181 #[pV w.heap.size, pV (w.heap.size + 1)] T (pushK m a t) Q V h1 (fun j e => by injection e with e; injection e with e; rw [← e]; exact TaskT.lt h1) (fun k hk => HQ.out k (by have := hV.size; omega)) (by
    intro w3 Q1 f hb hf hlo hqf hqq
    have hV3 := hV.trans (hb.mono hV.size)
    have p0 := q0.below hV3 q0.lt
    have p1 := q1.below hV3 q1.lt
    have n0 : ¬ ¬ Q1 w.heap.size := fun h => h (hqq _ (by have := hV.size; omega) (HQ.out _ (Nat.le_refl _)))
    have n1 : ¬ ¬ Q1 (w.heap.size + 1) := fun h => h (hqq _ (by have := hV.size; omega) (HQ.out _ (by omega)))
    refine contT_of (cellOps C P) w3 Q1 f 181 _ _ hqf hf call_push1 fun u w4 hw => ?_
    have hG : Calls Tryz.prog 181 (#[.int .i64 u] ++ #[pV w.heap.size, pV (w.heap.size + 1)]) w4 fun e w' => ∃ t', e = .returned (pV t') ∧ MadeQ (cellOps C P) w4 (fun b => (Q1 b ∧ b < w3.heap.size) ∨ w4.heap.size ≤ b) (pushK m a t u) t' w' := by
      unfold pushK
      by_cases hu : -1 ≤ u ∧ u < m.t
      · rw [if_pos hu]
        exact push1_any C P a m _ u t _ _ w4 HM.out hu Ht.out (p0.keep hw n0) (p1.keep hw n1) (fun k hk => .inr hk)
      · rw [if_neg hu]
        exact push1_free C P a m _ u t _ _ w4 (by have := Ht.out; have := HM.out.t; omega) (p0.keep hw n0) (p1.keep hw n1)
    refine hG.mono ?_
    rintro e w5 ⟨t', rfl, hM⟩
    exact ⟨some ⟨t', 0, none⟩, rfl, hM.2.2, hM.task, fun j e => by injection e with e; injection e with e; rw [← e]; exact .inr hM.1⟩)
  have HSQ := Lib.hid fun V t1 t2 t3 t4 (hV : Below W.heap.size W V) h1 h2 h3 h4 q1 q2 q3 q4 => seqT_four (cellOps C P) Q (stT (nxN m t) 0) (bindT (pushK m a t) (endT m a)) (stT (a + 1) (t + 1)) (retT 0) t1 t2 t3 t4 V h1 h2 h3 h4 q1 q2 q3 q4 (fun k hk => HQ.out k (by have := hV.size; omega))
  have SK := Lib.hid (show ∀ V, Below W.heap.size W V → (V.cell? ⟨w.heap.size, 0, none⟩ = some (cellsV C) ∧ V.cell? ⟨w.heap.size, 1, none⟩ = some (.int .i64 (a : Int)) ∧ V.cell? ⟨w.heap.size, 2, none⟩ = some (.int .i64 ((a : Int) + 1)) ∧ V.cell? ⟨w.heap.size, 3, none⟩ = some (nextV m) ∧ V.cell? ⟨w.heap.size, 4, none⟩ = some (.int .i64 (m.t : Int))) ∧ V.cell? ⟨w.heap.size + 1, 0, none⟩ = some (.int .i64 t) from fun V hk => ⟨lineC_of (q0.below hk q0.lt), (q1.below hk q1.lt).cell 0 _ rfl⟩)
  have bd := bdrew W
  go_region_held3 (fun V => (V.cell? ⟨w.heap.size, 0, none⟩ = some (cellsV C) ∧ V.cell? ⟨w.heap.size, 1, none⟩ = some (.int .i64 (a : Int)) ∧ V.cell? ⟨w.heap.size, 2, none⟩ = some (.int .i64 ((a : Int) + 1)) ∧ V.cell? ⟨w.heap.size, 3, none⟩ = some (nextV m) ∧ V.cell? ⟨w.heap.size, 4, none⟩ = some (.int .i64 (m.t : Int))) ∧ V.cell? ⟨w.heap.size + 1, 0, none⟩ = some (.int .i64 t)) (first | exact SK.out _ b10 | exact SK.out _ bA | exact SK.out _ b9 | exact SK.out _ b7 | exact SK.out _ b6 | exact SK.out _ b5 | exact SK.out _ b4 | exact SK.out _ b3 | exact SK.out _ b2 | exact SK.out _ bd) (first
    | (go_at_call 30; refine (HX.out _).mono ?_; rintro e w2 ⟨rfl, hb2⟩; have b2 : Below W.heap.size W w2 := bd.trans hb2; have HSa := Lib.hid (HS.out w2 b2.size))
    | (go_at_call 179; (with_reducible refine (HK.out _).mono ?_); rintro e w3 ⟨rfl, rfl⟩)
    | (go_at_call 178; (with_reducible refine HSa.out.mono ?_); rintro e w4 ⟨t1, rfl, hM1⟩; have b4 : Below W.heap.size W w4 := b2.trans (hM1.2.2.mono b2.size); have HEa := Lib.hid (HE.out w4 b4.size))
    | (go_at_call 180; refine HEa.out.mono ?_; rintro e w5 ⟨t2, rfl, hM2⟩; have b5 : Below W.heap.size W w5 := b4.trans (hM2.2.2.mono b4.size); have HTa := Lib.hid (HT.out w5 _ t2 b5 hM2.task))
    | (go_at_call 137; refine HTa.out.mono ?_; rintro e w6 ⟨t3, rfl, hM3⟩; have b6 : Below W.heap.size W w6 := b5.trans (hM3.2.2.mono b5.size); have HSb := Lib.hid (HS2.out w6 b6.size))
    | (go_at_call 179; (with_reducible refine (HK2.out _).mono ?_); rintro e w7 ⟨rfl, rfl⟩)
    | (go_at_call 178; (with_reducible refine HSb.out.mono ?_); rintro e w8 ⟨t4, rfl, hM4⟩; have b7 : Below W.heap.size W w8 := b6.trans (hM4.2.2.mono b6.size))
    | (go_at_call 102; refine (HR.out _).mono ?_; rintro e w9 ⟨t5, rfl, hM5⟩; have b9 : Below W.heap.size W w9 := b7.trans (hM5.2.2.mono b7.size); have b95 : Below w5.heap.size w5 w9 := (hM3.2.2.trans (hM4.2.2.mono hM3.2.2.size)).trans (hM5.2.2.mono (Nat.le_trans hM3.2.2.size hM4.2.2.size)); have b94 : Below w4.heap.size w4 w9 := hM2.2.2.trans (b95.mono hM2.2.2.size); have b98 : Below w8.heap.size w8 w9 := hM5.2.2; have b96 : Below w6.heap.size w6 w9 := hM4.2.2.trans (b98.mono hM4.2.2.size); have HSQ2 := Lib.hid (HSQ.out w9 t1 t3 t4 t5 b9 (hM1.task.at b94) ((MadeQ.task hM3).at b96) (hM4.task.at b98) hM5.task (HQ.out _ (by have := b2.size; have := hM1.1; omega)) (HQ.out _ (by have := b5.size; have := hM3.1; omega)) (HQ.out _ (by have := b6.size; have := hM4.1; omega)) (HQ.out _ (by have := b7.size; have := hM5.1; omega))); have bA : Below W.heap.size W (w9.alloc (.cells #[pV t1, pV t3, pV t4, pV t5] 40)) := b9.trans (((Below.refl _ w9).alloc (Nat.le_refl _) _).mono b9.size))
    | (go_at_call 138; refine HSQ2.out.mono ?_; rintro e w10 ⟨t6, rfl, hM6⟩; have b10 : Below W.heap.size W w10 := b9.trans (hM6.2.2.mono b9.size)))
  all_goals go_wp2
  all_goals go_ret
  all_goals exact ⟨t6, rfl, hM6.of (bW.trans (b9.mono bW.size))⟩
end Go.Proofs.YtldofbkjjmnooaaGreat
