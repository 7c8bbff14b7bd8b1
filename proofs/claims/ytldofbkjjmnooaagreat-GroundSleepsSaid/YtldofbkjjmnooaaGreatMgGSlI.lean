/- Package task: tasks by what they may yet do, where what is behind an operation may turn blocks of its own, and note in memory that all share. -/
import Derived.Test.YtldofbkjjmnooaaGreatMgGSlB
import Derived.Test.YtldofbkjjmnooaaGreatMgGSlH
import Derived.Test.YtldofbkjjmnooaaGreatMgGSlD
import Derived.LoopTactic
namespace Go.Proofs.YtldofbkjjmnooaaGreat
open Go.ChangeShapes Go.WideShapes Go.ChangeAt Go.RowKit
set_option linter.unusedVariables false
set_option maxRecDepth 100000
set_option linter.unusedSimpArgs false
/-- memory that all share: what it is (s), just in the blocks B; what becomes of it when something is noted -/
structure Shr (S E : Type) where
  at' : World → (Nat → Prop) → S → Prop
  keep : ∀ {w w1 : World} {B F : Nat → Prop} {s : S}, at' w B s → Keep F w w1 → (∀ b, B b → ¬ F b) → at' w1 B s
  lt : ∀ {w : World} {B : Nat → Prop} {s : S}, at' w B s → ∀ b, B b → b < w.heap.size
  note : S → List E → S
  nil : ∀ s, note s [] = s
  app : ∀ s a b, note (note s a) b = note s (a ++ b)
/-- what is said of all that is behind an operation -/
abbrev ERel (A E : Type) := World → (Nat → Prop) → (Nat → Prop) → List Nat → (Int → TrE A E) → Prop
section
variable {A S E : Type}
/-- a task at hand, and what is behind it, are together R -/
def JE (O : Ops A) (K : ERel A E) (w : World) (Q M : Nat → Prop) (n : Option Addr) (fs : List Nat) (R : TrE A E) : Prop :=
  (∃ u κ, DoneV w n u ∧ K w Q M fs κ ∧ R = κ u) ∨
  ∃ x g k d p rest gs, R = opE x g ∧ n = some ⟨k, 0, none⟩ ∧ Live w k d p rest ∧ TreeO w (fun b => Q b ∧ ¬ M b) rest gs ∧ O.is w Q x d p ∧ K w Q M (gs ++ fs) g
theorem JE.mono {O : Ops A} {K K' : ERel A E} {w : World} {Q Q' M : Nat → Prop} {n : Option Addr} {fs : List Nat} {R : TrE A E} (h : JE O K w Q M n fs R) (hK : ∀ fs κ, K w Q M fs κ → K' w Q' M fs κ) (hq : ∀ b, b < w.heap.size → Q b → Q' b) : JE O K' w Q' M n fs R := by
  rcases h with ⟨u, κ, h1, h2, e⟩ | ⟨x, g, k, d, p, rest, gs, e, e2, h1, h2, h3, h4⟩
  · exact .inl ⟨u, κ, h1, hK _ _ h2, e⟩
  · exact .inr ⟨x, g, k, d, p, rest, gs, e, e2, h1, h2.mono (fun b hb h => ⟨hq b hb h.1, h.2⟩), O.keep h3 (Keep.refl (fun _ => False) w) (fun _ _ h => h) hq, hK _ _ h4⟩
def StepE (H : Shr S E) (O : Ops A) (K : ERel A E) (w : World) (Q M : Nat → Prop) (fs : List Nat) (κ : Int → TrE A E) : Prop :=
  (∀ b, M b → Q b ∧ b < w.heap.size) ∧ match fs with
  | [] => κ = retE
  | f :: fs => Q f ∧ f < w.heap.size ∧ ∀ v w1 B s, Keep (fun b => ¬ Q b) w w1 → H.at' w1 B s → (∀ b, B b → b < w.heap.size → ¬ Q b) → Calls Tryz.prog 221 #[.int .i64 v, pV f] w1 fun e w2 => ∃ n M2 B2 l R, e = .returned (.pointer n) ∧ Keep (fun b => M b ∨ B b) w1 w2 ∧ (∀ b, b < w1.heap.size → M2 b → M b) ∧
      H.at' w2 B2 (H.note s l) ∧ (∀ b, b < w1.heap.size → B2 b → B b) ∧ InQ (fun b => ((Q b ∧ b < w.heap.size) ∨ w1.heap.size ≤ b) ∧ ¬ B2 b) n ∧ JE O K w2 (fun b => ((Q b ∧ b < w.heap.size) ∨ w1.heap.size ≤ b) ∧ ¬ B2 b) M2 n fs R ∧ κ v = emE l R
theorem StepE.mono {H : Shr S E} {O : Ops A} {K K' : ERel A E} (hK : ∀ w Q M fs κ, K w Q M fs κ → K' w Q M fs κ) {w : World} {Q M : Nat → Prop} {fs : List Nat} {κ : Int → TrE A E} (h : StepE H O K w Q M fs κ) : StepE H O K' w Q M fs κ := by
  refine ⟨h.1, ?_⟩
  cases fs with
  | nil => exact h.2
  | cons f fs =>
    obtain ⟨h1, h2, h3⟩ := h.2
    refine ⟨h1, h2, fun v w1 B s hw hB hd => (h3 v w1 B s hw hB hd).mono ?_⟩
    rintro e w2 ⟨n, M2, B2, l, R, rfl, g1, g2, g3, g4, g5, g6, g7⟩
    exact ⟨n, M2, B2, l, R, rfl, g1, g2, g3, g4, g5, g6.mono (fun fs κ h => hK _ _ _ _ _ h) (fun _ _ h => h), g7⟩
/-- .. the greatest there is -/
def ContsE (H : Shr S E) (O : Ops A) : ERel A E := fun w Q M fs κ => ∃ K : ERel A E, (∀ w Q M fs κ, K w Q M fs κ → StepE H O K w Q M fs κ) ∧ K w Q M fs κ
theorem ContsE.unfold {H : Shr S E} {O : Ops A} {w : World} {Q M : Nat → Prop} {fs : List Nat} {κ : Int → TrE A E} (h : ContsE H O w Q M fs κ) : StepE H O (ContsE H O) w Q M fs κ := by
  obtain ⟨K, h1, h2⟩ := h
  exact (h1 w Q M fs κ h2).mono fun w Q M fs κ h => ⟨K, h1, h⟩
theorem ContsE.fold {H : Shr S E} {O : Ops A} {w : World} {Q M : Nat → Prop} {fs : List Nat} {κ : Int → TrE A E} (h : StepE H O (ContsE H O) w Q M fs κ) : ContsE H O w Q M fs κ :=
  ⟨StepE H O (ContsE H O), fun w Q M fs κ h => h.mono fun w Q M fs κ h => h.unfold, h⟩
theorem ContsE.nil {H : Shr S E} {O : Ops A} {w : World} {Q M : Nat → Prop} (h : ∀ b, M b → Q b ∧ b < w.heap.size) : ContsE H O w Q M [] retE := ContsE.fold ⟨h, rfl⟩
theorem ContsE.ret {H : Shr S E} {O : Ops A} {w : World} {Q M : Nat → Prop} {κ : Int → TrE A E} (h : ContsE H O w Q M [] κ) : κ = retE := h.unfold.2
theorem ContsE.few {H : Shr S E} {O : Ops A} {w : World} {Q M : Nat → Prop} {fs : List Nat} {κ : Int → TrE A E} (h : ContsE H O w Q M fs κ) : ∀ b, M b → Q b ∧ b < w.heap.size := h.unfold.1
theorem ContsE.keep {H : Shr S E} {O : Ops A} {w w1 : World} {Q Q' M F : Nat → Prop} {fs : List Nat} {κ : Int → TrE A E} (h : ContsE H O w Q M fs κ) (hk : Keep F w w1) (hd : ∀ b, Q b → ¬ F b) (hq : ∀ b, b < w.heap.size → Q b → Q' b) : ContsE H O w1 Q' M fs κ := by
  refine ⟨fun w1 Q' M fs κ => ∃ w Q F, ContsE H O w Q M fs κ ∧ Keep F w w1 ∧ (∀ b, b < w.heap.size → Q b → ¬ F b) ∧ ∀ b, b < w.heap.size → Q b → Q' b, ?_, w, Q, F, h, hk, fun b _ => hd b, hq⟩
  rintro w1 Q' M fs κ ⟨w, Q, F, h, hk, hd, hq⟩
  have hs := hk.size
  obtain ⟨hm, hr⟩ := h.unfold
  refine ⟨fun b hb => ⟨hq b (hm b hb).2 (hm b hb).1, Nat.lt_of_lt_of_le (hm b hb).2 hs⟩, ?_⟩
  cases fs with
  | nil => exact hr
  | cons f fs =>
    obtain ⟨h1, h2, h3⟩ := hr
    refine ⟨hq f h2 h1, Nat.lt_of_lt_of_le h2 hs, fun v w2 B s hw hB hBd => ?_⟩
    have hK : Keep (fun b => ¬ Q b) w w2 := ⟨hw.os.trans hk.os, hw.tape.trans hk.tape, hw.output.trans hk.output, Nat.le_trans hs hw.size, fun b hb hn => by
      have hQ : Q b := Classical.not_not.1 hn
      rw [hw.block b (by omega) (fun h => h (hq b hb hQ)), hk.block b hb (hd b hb hQ)]⟩
    refine (h3 v w2 B s hK hB (fun b hb hl hQ => hBd b hb (by omega) (hq b hl hQ))).mono ?_
    rintro e w3 ⟨n, M2, B2, l, R, rfl, g1, g2, g3, g4, g5, g6, g7⟩
    have hqq : ∀ b, ((Q b ∧ b < w.heap.size) ∨ w2.heap.size ≤ b) ∧ ¬ B2 b → ((Q' b ∧ b < w1.heap.size) ∨ w2.heap.size ≤ b) ∧ ¬ B2 b := fun b hb => ⟨hb.1.imp (fun h => ⟨hq b h.2 h.1, by omega⟩) id, hb.2⟩
    exact ⟨n, M2, B2, l, R, rfl, g1, g2, g3, g4, fun k e => hqq k (g5 k e), g6.mono (fun fs κ h => ⟨w3, _, fun _ => False, h, Keep.refl _ _, fun _ _ _ h => h, fun b _ h => hqq b h⟩) (fun b _ h => hqq b h), g7⟩
/-- a task, with all that is behind it, and more -/
abbrev JeF (H : Shr S E) (O : Ops A) (w : World) (Q M : Nat → Prop) (n : Option Addr) (fs : List Nat) (R : TrE A E) : Prop := JE O (ContsE H O) w Q M n fs R
theorem JeF.keep {H : Shr S E} {O : Ops A} {w w1 : World} {Q Q' M F : Nat → Prop} {n : Option Addr} {fs : List Nat} {R : TrE A E} (h : JeF H O w Q M n fs R) (hk : Keep F w w1) (hd : ∀ b, Q b → ¬ F b) (hn : InQ (fun k => ¬ F k) n) (hq : ∀ b, b < w.heap.size → Q b → Q' b) : JeF H O w1 Q' M n fs R := by
  rcases h with ⟨u, κ, h1, h2, e⟩ | ⟨x, g, k, d, p, rest, gs, e, rfl, h1, h2, h3, h4⟩
  · exact .inl ⟨u, κ, h1.keep hk hn, h2.keep hk hd hq, e⟩
  · refine .inr ⟨x, g, k, d, p, rest, gs, e, rfl, h1.keep hk (hn k rfl), ?_, O.keep h3 hk hd hq, h4.keep hk hd hq⟩
    exact ((h2.mono (Q' := fun b => Q b ∧ Q' b ∧ ¬ M b) fun b hb h => ⟨h.1, hq b hb h.1, h.2⟩).keep hk fun b h => hd b h.1).mono fun b _ h => h.2
theorem JeF.few {H : Shr S E} {O : Ops A} {w : World} {Q M : Nat → Prop} {n : Option Addr} {fs : List Nat} {R : TrE A E} (h : JeF H O w Q M n fs R) : ∀ b, M b → Q b ∧ b < w.heap.size := by
  rcases h with ⟨u, κ, h1, h2, e⟩ | ⟨x, g, k, d, p, rest, gs, e, rfl, h1, h2, h3, h4⟩
  · exact h2.few
  · exact h4.few
theorem JeF.lt {H : Shr S E} {O : Ops A} {w : World} {Q M : Nat → Prop} {k : Nat} {fs : List Nat} {R : TrE A E} (h : JeF H O w Q M (some ⟨k, 0, none⟩) fs R) : k < w.heap.size := by
  rcases h with ⟨v, κ, h, _⟩ | ⟨x, κ, k', d, p, rest, fs, e, e2, h1, _⟩
  · rcases h with ⟨h, _⟩ | ⟨k', e2, h⟩
    · cases h
    · injection e2 with e2; injection e2 with e2; rw [e2]; exact h.lt
  · injection e2 with e2; injection e2 with e2; rw [e2]; exact h1.blk.lt
/-- it is done, or ahead of an operation -/
theorem JeF.root {H : Shr S E} {O : Ops A} {w : World} {Q M : Nat → Prop} {n : Option Addr} {R : TrE A E} (h : JeF H O w Q M n [] R) : (∃ v, R = retE v ∧ DoneV w n v) ∨ ∃ x g, R = opE x g := by
  rcases h with ⟨v, κ, h, h2, rfl⟩ | ⟨x, g, k', d, p, rest, fs, e, e2, h1, _⟩
  · obtain rfl := h2.ret
    exact .inl ⟨v, rfl, h⟩
  · exact .inr ⟨x, g, e⟩
/-- one list behind the other -/
def AppE (H : Shr S E) (O : Ops A) : ERel A E := fun w Q M L κ => ContsE H O w Q M L κ ∨ ∃ (fs gs : List Nat) (Q1 M1 Q2 M2 : Nat → Prop) (κ1 k2 : Int → TrE A E), L = fs ++ gs ∧ κ = (fun v => bindE k2 (κ1 v)) ∧ ContsE H O w Q1 M1 fs κ1 ∧ ContsE H O w Q2 M2 gs k2 ∧
  (∀ b, b < w.heap.size → Q1 b → Q b) ∧ (∀ b, b < w.heap.size → Q2 b → Q b) ∧ (∀ b, M1 b → ¬ Q2 b) ∧ (∀ b, M2 b → ¬ Q1 b) ∧ M = fun b => M1 b ∨ M2 b
theorem JE.app {H : Shr S E} {O : Ops A} {w : World} {Q Q1 M1 Q2 M2 : Nat → Prop} {n : Option Addr} {fs gs : List Nat} {R : TrE A E} {k2 : Int → TrE A E} (h1 : JE O (ContsE H O) w Q1 M1 n fs R) (h2 : ContsE H O w Q2 M2 gs k2)
    (hq1 : ∀ b, b < w.heap.size → Q1 b → Q b) (hq2 : ∀ b, b < w.heap.size → Q2 b → Q b) (hm1 : ∀ b, M1 b → ¬ Q2 b) (hm2 : ∀ b, M2 b → ¬ Q1 b) : JE O (AppE H O) w Q (fun b => M1 b ∨ M2 b) n (fs ++ gs) (bindE k2 R) := by
  rcases h1 with ⟨u, κ, g1, g2, rfl⟩ | ⟨x, g, k, d, p, rest, gs', rfl, rfl, g1, g2, g3, g4⟩
  · exact .inl ⟨u, fun v => bindE k2 (κ v), g1, .inr ⟨fs, gs, Q1, M1, Q2, M2, κ, k2, rfl, rfl, g2, h2, hq1, hq2, hm1, hm2, rfl⟩, rfl⟩
  · refine .inr ⟨x, fun v => bindE k2 (g v), k, d, p, rest, gs', bindE_op _ _ _, rfl, g1, g2.mono (fun b hb h => ⟨hq1 b hb h.1, fun hm => hm.elim h.2 (fun hm => hm2 b hm h.1)⟩), O.keep g3 (Keep.refl (fun _ => False) w) (fun _ _ h => h) hq1, .inr ⟨gs' ++ fs, gs, Q1, M1, Q2, M2, g, k2, by rw [List.append_assoc], rfl, g4, h2, hq1, hq2, hm1, hm2, rfl⟩⟩
theorem appE_step (H : Shr S E) (O : Ops A) (w : World) (Q M : Nat → Prop) (L : List Nat) (κ : Int → TrE A E) (h : AppE H O w Q M L κ) : StepE H O (AppE H O) w Q M L κ := by
  rcases h with h | ⟨fs, gs, Q1, M1, Q2, M2, κ1, k2, rfl, rfl, h1, h2, hq1, hq2, hm1, hm2, rfl⟩
  · exact h.unfold.mono fun _ _ _ _ _ h => .inl h
  · have f1 := h1.few
    have f2 := h2.few
    refine ⟨fun b hb => ?_, ?_⟩
    · rcases hb with hb | hb
      · exact ⟨hq1 b (f1 b hb).2 (f1 b hb).1, (f1 b hb).2⟩
      · exact ⟨hq2 b (f2 b hb).2 (f2 b hb).1, (f2 b hb).2⟩
    · cases fs with
      | nil =>
        obtain rfl := h1.ret
        have e : (fun v => bindE k2 (retE v)) = k2 := funext fun v => bindE_ret k2 v
        rw [e]
        obtain ⟨_, hr⟩ := h2.unfold
        cases gs with
        | nil => exact hr
        | cons f gs =>
          obtain ⟨a1, a2, a3⟩ := hr
          refine ⟨hq2 f a2 a1, a2, fun v w1 B s hw hB hd => ?_⟩
          refine (a3 v w1 B s ⟨hw.os, hw.tape, hw.output, hw.size, fun b hb hn => hw.block b hb fun h => h (hq2 b hb (Classical.not_not.1 hn))⟩ hB (fun b hb hl hQ => hd b hb hl (hq2 b hl hQ))).mono ?_
          rintro e w2 ⟨n, M3, B2, l, R, rfl, g1, g2, g3, g4, g5, g6, g7⟩
          have hs := hw.size
          have hqq : ∀ b, ((Q2 b ∧ b < w.heap.size) ∨ w1.heap.size ≤ b) ∧ ¬ B2 b → ((Q b ∧ b < w.heap.size) ∨ w1.heap.size ≤ b) ∧ ¬ B2 b := fun b hb => ⟨hb.1.imp (fun h => ⟨hq2 b h.2 h.1, h.2⟩) id, hb.2⟩
          refine ⟨n, M3, B2, l, R, rfl, g1.mono (fun b _ h => h.imp .inr id), fun b hb h => .inr (g2 b hb h), g3, g4, fun k e => hqq k (g5 k e), ?_, g7⟩
          exact g6.mono (fun fs κ h => .inl (h.keep (Keep.refl (fun _ => False) w2) (fun _ _ h => h) (fun b _ h => hqq b h))) (fun b _ h => hqq b h)
      | cons f fs =>
        obtain ⟨_, a1, a2, a3⟩ := h1.unfold
        refine ⟨hq1 f a2 a1, a2, fun v w1 B s hw hB hd => ?_⟩
        refine (a3 v w1 B s ⟨hw.os, hw.tape, hw.output, hw.size, fun b hb hn => hw.block b hb fun h => h (hq1 b hb (Classical.not_not.1 hn))⟩ hB (fun b hb hl hQ => hd b hb hl (hq1 b hl hQ))).mono ?_
        rintro e w2 ⟨n, M3, B2, l, R, rfl, g1, g2, g3, g4, g5, g6, g7⟩
        have hs := hw.size
        have hs2 := g1.size
        have hC : ContsE H O w2 (fun b => Q2 b ∧ b < w.heap.size ∧ ¬ B2 b) M2 gs k2 := by
          have c1 : ContsE H O w1 (fun b => Q2 b ∧ b < w.heap.size ∧ ¬ B2 b) M2 gs k2 := by
            refine ⟨fun w1 Q' M fs κ => ∃ w Q F, ContsE H O w Q M fs κ ∧ Keep F w w1 ∧ (∀ b, b < w.heap.size → Q b → ¬ F b) ∧ ∀ b, b < w.heap.size → Q b → Q' b, ?_, w, Q2, fun b => ¬ Q b, h2, hw, fun b hb h hn => hn (hq2 b hb h), fun b hb h => ⟨h, hb, fun hB2 => hd b (g4 b (by omega) hB2) hb (hq2 b hb h)⟩⟩
            rintro w1 Q' M fs κ ⟨w, Q, F, h, hk, hd, hq⟩
            have h' := ContsE.keep (Q := fun b => Q b ∧ b < w.heap.size) (F := fun b => F b ∨ w.heap.size ≤ b) (Q' := Q') (h.keep (Keep.refl (fun _ => False) w) (fun _ _ h => h) (fun b hb h => ⟨h, hb⟩)) (hk.mono fun _ _ h => .inl h) (fun b h hn => hn.elim (hd b h.2 h.1) (fun hn => by omega)) (fun b hb h => hq b hb h.1)
            exact h'.unfold.mono fun w Q M fs κ h => ⟨w, Q, fun _ => False, h, Keep.refl _ _, fun _ _ _ h => h, fun _ _ h => h⟩
          refine c1.keep g1 (fun b hb hn => ?_) (fun b _ h => h)
          rcases hn with hn | hn
          · exact hm1 b hn hb.1
          · exact hd b hn hb.2.1 (hq2 b hb.2.1 hb.1)
        refine ⟨n, fun b => M3 b ∨ M2 b, B2, l, bindE k2 R, rfl, g1.mono (fun b _ h => h.imp .inl id), fun b hb h => h.imp (g2 b hb) id, g3, g4, fun k e => ⟨(g5 k e).1.imp (fun h => ⟨hq1 k h.2 h.1, h.2⟩) id, (g5 k e).2⟩, ?_, by
          show bindE k2 (κ1 v) = _
          rw [g7, bindE_em]⟩
        refine JE.app (Q := fun b => ((Q b ∧ b < w.heap.size) ∨ w1.heap.size ≤ b) ∧ ¬ B2 b) g6 hC (fun b _ h => ⟨h.1.imp (fun h => ⟨hq1 b h.2 h.1, h.2⟩) id, h.2⟩) (fun b _ h => ⟨.inl ⟨hq2 b h.2.1 h.1, h.2.1⟩, h.2.2⟩) (fun b hb h => ?_) (fun b hb h => ?_)
        · exact hm1 b (g2 b (by omega) hb) h.1
        · rcases h.1 with h | h
          · exact hm2 b hb h.1
          · have := (f2 b hb).2
            omega
theorem contsE_app (H : Shr S E) (O : Ops A) {w : World} {Q Q1 M1 Q2 M2 : Nat → Prop} {fs gs : List Nat} {κ1 k2 : Int → TrE A E} (h1 : ContsE H O w Q1 M1 fs κ1) (h2 : ContsE H O w Q2 M2 gs k2)
    (hq1 : ∀ b, b < w.heap.size → Q1 b → Q b) (hq2 : ∀ b, b < w.heap.size → Q2 b → Q b) (hm1 : ∀ b, M1 b → ¬ Q2 b) (hm2 : ∀ b, M2 b → ¬ Q1 b) : ContsE H O w Q (fun b => M1 b ∨ M2 b) (fs ++ gs) (fun v => bindE k2 (κ1 v)) :=
  ⟨AppE H O, appE_step H O, .inr ⟨fs, gs, Q1, M1, Q2, M2, κ1, k2, rfl, rfl, h1, h2, hq1, hq2, hm1, hm2, rfl⟩⟩
/-- a task, and what is behind it -/
theorem jeF_app (H : Shr S E) (O : Ops A) {w : World} {Q Q1 M1 Q2 M2 : Nat → Prop} {n : Option Addr} {fs gs : List Nat} {R : TrE A E} {k2 : Int → TrE A E} (h1 : JeF H O w Q1 M1 n fs R) (h2 : ContsE H O w Q2 M2 gs k2)
    (hq1 : ∀ b, b < w.heap.size → Q1 b → Q b) (hq2 : ∀ b, b < w.heap.size → Q2 b → Q b) (hm1 : ∀ b, M1 b → ¬ Q2 b) (hm2 : ∀ b, M2 b → ¬ Q1 b) : JeF H O w Q (fun b => M1 b ∨ M2 b) n (fs ++ gs) (bindE k2 R) :=
  (JE.app h1 h2 hq1 hq2 hm1 hm2).mono (fun fs κ h => ⟨AppE H O, appE_step H O, h⟩) (fun _ _ h => h)
/-- what notes nothing: by another way to say what operations are, which the first one is within -/
theorem contsE_up (H : Shr S E) (O O' : Ops A) (hO : ∀ w Q x d p, O.is w Q x d p → O'.is w Q x d p) {w : World} {Q M : Nat → Prop} {fs : List Nat} {κ : Int → Tre A} (h : ContsM O w Q M fs κ) : ContsE H O' w Q M fs (fun v => upE (κ v)) := by
  refine ⟨fun w Q M fs κ => ∃ κ0 : Int → Tre A, ContsM O w Q M fs κ0 ∧ κ = fun v => upE (κ0 v), ?_, κ, h, rfl⟩
  rintro w Q M fs κ ⟨κ0, h, rfl⟩
  obtain ⟨hm, hr⟩ := h.unfold
  refine ⟨hm, ?_⟩
  cases fs with
  | nil => rw [hr]; rfl
  | cons f fs =>
    obtain ⟨a1, a2, a3⟩ := hr
    refine ⟨a1, a2, fun v w1 B s hw hB hd => (a3 v w1 hw).mono ?_⟩
    rintro e w2 ⟨n, M2, rfl, g1, g2, g3, g4⟩
    have hs := hw.size
    have hB1 := H.lt hB
    have hB2 : ∀ b, B b → ¬ M b := fun b hb hM => hd b hb (hm b hM).2 (hm b hM).1
    have hnb : ∀ b, (Q b ∧ b < w.heap.size) ∨ w1.heap.size ≤ b → ¬ B b := fun b hb h => by
      rcases hb with hb | hb
      · exact hd b h hb.2 hb.1
      · have := hB1 b h; omega
    refine ⟨n, M2, B, [], upE (κ0 v), rfl, g1.mono (fun b _ h => .inl h), g2, by rw [H.nil]; exact H.keep hB g1 hB2, fun b _ h => h, fun k e => ⟨g3 k e, hnb k (g3 k e)⟩, ?_, (emE_nil _).symm⟩
    rcases g4 with ⟨u, κ', q1, q2, e⟩ | ⟨x, g, k, d, p, rest, gs, e, rfl, q1, q2, q3, q4⟩
    · exact .inl ⟨u, fun v => upE (κ' v), q1, ⟨κ', q2.keep (Keep.refl (fun _ => False) w2) (fun _ _ h => h) (fun b _ h => ⟨h, hnb b h⟩), rfl⟩, by rw [e]⟩
    · exact .inr ⟨x, fun v => upE (g v), k, d, p, rest, gs, by rw [e, upE_op], rfl, q1, q2.mono (fun b _ h => ⟨⟨h.1, hnb b h.1⟩, h.2⟩), hO _ _ _ _ _ (O.keep q3 (Keep.refl (fun _ => False) w2) (fun _ _ h => h) (fun b _ h => ⟨h, hnb b h⟩)), g, q4.keep (Keep.refl (fun _ => False) w2) (fun _ _ h => h) (fun b _ h => ⟨h, hnb b h⟩), rfl⟩
theorem jeF_up (H : Shr S E) (O O' : Ops A) (hO : ∀ w Q x d p, O.is w Q x d p → O'.is w Q x d p) {w : World} {Q M : Nat → Prop} {n : Option Addr} {fs : List Nat} {R : Tre A} (h : JmF O w Q M n fs R) : JeF H O' w Q M n fs (upE R) := by
  rcases h with ⟨u, κ', q1, q2, e⟩ | ⟨x, g, k, d, p, rest, gs, e, rfl, q1, q2, q3, q4⟩
  · exact .inl ⟨u, fun v => upE (κ' v), q1, contsE_up H O O' hO q2, by rw [e]⟩
  · exact .inr ⟨x, fun v => upE (g v), k, d, p, rest, gs, by rw [e, upE_op], rfl, q1, q2, hO _ _ _ _ _ q3, contsE_up H O O' hO q4⟩
end
theorem goon_treeE {A S E : Type} (H : Shr S E) (O : Ops A) (t : Nat) (n : Option Addr) (d0 p0 r0 : Value) (fs : List Nat) (Q M B : Nat → Prop) (s : S) (R : TrE A E) (w : World) (ht : Blk w t 161 #[d0, p0, r0, .int .i64 0]) (hr : TreeO w (fun b => Q b ∧ ¬ M b) r0 fs) (hQ : ∀ k, w.heap.size ≤ k → Q k) (hQt : ¬ Q t) (hn : InQ (fun k => k ≠ t) n) (hJ : JeF H O w Q M n fs R)
    (hB : H.at' w B s) (hBQ : ∀ b, B b → ¬ Q b) (hBt : ¬ B t) :
    Calls Tryz.prog 119 #[pV t, .pointer n] w fun e w' => e = .returned (.tuple #[]) ∧ ∃ M2 B2 l R2, Keep (fun k => k = t ∨ M k ∨ B k) w w' ∧ (∀ x, x < w.heap.size → M2 x → M x) ∧ (∀ x, x < w.heap.size → B2 x → B x) ∧ H.at' w' B2 (H.note s l) ∧ JeF H O w' (fun b => Q b ∧ ¬ B2 b) M2 (some ⟨t, 0, none⟩) [] R2 ∧ R = emE l R2 := by
  have hlt := ht.lt
  have hd : ∀ b, Q b → ¬ (b = t) := fun b hb e => hQt (e ▸ hb)
  have hBlt := H.lt hB
  refine (goon_mut t n d0 p0 r0 0 fs (fun b => Q b ∨ B b) (fun b => M b ∨ (B b ∨ B b)) (fun a n fs Mg => InQ (fun k => k ≠ t) n ∧ w.heap.size ≤ a.heap.size ∧ ∃ M' B' l R', Mg = (fun b => M' b ∨ (B' b ∨ B b)) ∧ H.at' a B' (H.note s l) ∧ (∀ b, b < w.heap.size → B' b → B b) ∧ (∀ b, b < w.heap.size → M' b → M b) ∧ JeF H O a (fun b => Q b ∧ ¬ B' b) M' n fs R' ∧ R = emE l R') w ht (hr.mono fun b _ h => ⟨.inl h.1, fun hh => hh.elim h.2 fun hh => hh.elim (fun hh => hBQ b hh h.1) fun hh => hBQ b hh h.1⟩) (fun k hk => .inl (hQ k hk)) (fun h => h.elim hQt hBt)
    ⟨hn, Nat.le_refl _, M, B, [], R, rfl, by rw [H.nil]; exact hB, fun _ _ h => h, fun _ _ h => h, hJ.keep (Keep.refl (fun _ => False) w) (fun _ _ h => h) (fun _ _ h => h) (fun b _ h => ⟨h, fun hb => hBQ b hb h⟩), (emE_nil R).symm⟩ ?_ ?_ ?_ ?_).mono ?_
  · rintro a n fs Mg ⟨_, hsa, M', B', l, R', rfl, g1, g2, g3, g4, g5⟩ b hb
    rcases hb with hb | hb | hb
    · exact ⟨.inl (g4.few b hb).1.1, (g4.few b hb).2⟩
    · refine ⟨?_, H.lt g1 b hb⟩
      by_cases hl : b < w.heap.size
      · exact .inr (g2 b hl hb)
      · exact .inl (hQ b (by omega))
    · exact ⟨.inr hb, by have := hBlt b hb; omega⟩
  · rintro a b n fs Mg hs ⟨h1, hsa, M', B', l, R', rfl, g1, g2, g3, g4, g5⟩ hk
    exact ⟨h1, Nat.le_trans hsa hk.size, M', B', l, R', rfl, H.keep g1 hk (fun c hc e => hBt (g2 t hlt (e ▸ hc))), g2, g3, JeF.keep g4 hk (fun c hc => hd c hc.1) (fun k e => h1 k e) (fun _ _ h => h), g5⟩
  · rintro a n fs Mg ⟨h1, hsa, M', B', l, R', rfl, g1, g2, g3, g4, g5⟩
    refine ⟨fun e => h1 t e rfl, ?_⟩
    rcases g4 with ⟨u, κ, q1, q2, e⟩ | ⟨x, g, k, d, p, rest, gs, e, rfl, q1, q2, q3, q4⟩
    · exact .inl ⟨u, q1⟩
    · exact .inr ⟨k, d, p, rest, gs, rfl, q1, q2.mono fun b _ h => ⟨.inl h.1.1, fun hh => hh.elim h.2 fun hh => hh.elim h.1.2 fun hh => hBQ b hh h.1.1⟩⟩
  · rintro a n f fs Mg v hs ⟨h1, hsa, M', B', l, R', rfl, g1, g2, g3, g4, g5⟩ hv
    rcases g4 with ⟨u, κ, q1, q2, rfl⟩ | ⟨x, g, k, d, p, rest, gs, e, rfl, q1, q2, q3, q4⟩
    · obtain rfl := hv.val q1
      refine (q2.unfold.2.2.2 _ a B' _ (Keep.refl _ a) g1 (fun b hb _ h => h.2 hb)).mono ?_
      rintro e b ⟨n', M2, B2, l2, R2, rfl, r1, r2, r3, r4, r5, r6, r7⟩
      have hqq : ∀ j, (((Q j ∧ ¬ B' j) ∧ j < a.heap.size) ∨ a.heap.size ≤ j) ∧ ¬ B2 j → Q j ∧ ¬ B2 j := fun j hj => ⟨hj.1.elim (fun h => h.1.1) (fun h => hQ j (by omega)), hj.2⟩
      refine ⟨n', fun b => M2 b ∨ (B2 b ∨ B b), rfl, ⟨fun j e e2 => hQt (e2 ▸ (hqq j (r5 j e)).1), Nat.le_trans hsa r1.size, M2, B2, l ++ l2, R2, rfl, by rw [← H.app]; exact r3, fun b hb h => g2 b hb (r4 b (by omega) h), fun b hb h => g3 b hb (r2 b (by omega) h), JeF.keep r6 (Keep.refl (fun _ => False) b) (fun _ _ h => h) (fun _ _ h => h) (fun j _ h => hqq j h), by rw [g5, r7, emE_emE]⟩, r1.mono fun _ _ h => h.imp id .inl, fun x hx h => h.imp (r2 x hx) (fun h => h.imp (r4 x hx) id)⟩
    · exact (hv.live q1).elim
  · rintro e w' ⟨rfl, hk, n', fs', Mg, ⟨h1, hsa, M', B', l, R', rfl, g1, g2, g3, g4, g5⟩, hm, hp⟩
    refine ⟨rfl, M', B', l, R', hk.mono fun _ _ h => h.imp id fun h => h.imp id fun h => h.elim id id, g3, g2, g1, ?_, g5⟩
    rcases hp with ⟨rfl, v, hv, hBk⟩ | ⟨k1, d, p, r, gl, j, rfl, hL, hT, hT2, hBk⟩
    · rcases g4 with ⟨u, κ, q1, q2, rfl⟩ | ⟨x, g, k, d, p, rest, gs, e, rfl, q1, q2, q3, q4⟩
      · obtain rfl := hv.val q1
        exact .inl ⟨_, κ, .inr ⟨t, rfl, hBk⟩, q2, rfl⟩
      · exact (hv.live q1).elim
    · rcases g4 with ⟨u, κ, q1, q2, rfl⟩ | ⟨x, g, k, d', p', rest, gs, rfl, e, q1, q2, q3, q4⟩
      · exact (q1.live hL).elim
      · obtain rfl : k1 = k := by simpa using e
        obtain ⟨rfl, rfl, rfl⟩ := hL.unique q1
        obtain rfl := hT.unique (q2.mono (Q' := fun b => (Q b ∨ B b) ∧ ¬ (M' b ∨ (B' b ∨ B b))) fun b _ h => ⟨.inl h.1.1, fun hh => hh.elim h.2 fun hh => hh.elim h.1.2 fun hh => hBQ b hh h.1.1⟩)
        refine .inr ⟨x, g, t, _, _, j, gl ++ fs', rfl, rfl, ⟨hBk, hL.op⟩, hT2.mono fun b _ h => ⟨⟨?_, fun hb => h.2 (.inr (.inl hb))⟩, fun hm => h.2 (.inl hm)⟩, q3, by rw [List.append_nil]; exact q4⟩
        exact h.1.resolve_right fun hb => h.2 (.inr (.inr hb))
end Go.Proofs.YtldofbkjjmnooaaGreat
/- Package task: Then, closures behind operations, steps, of tasks that note in memory that all share. -/
namespace Go.Proofs.YtldofbkjjmnooaaGreat
open Go.ChangeShapes Go.WideShapes Go.ChangeAt Go.RowKit
set_option linter.unusedVariables false
set_option maxRecDepth 100000
set_option linter.unusedSimpArgs false
/-- Then: of any task, and a closure of which, with the task, is told when its box is laid -/
theorem thenE_any {A S E : Type} (H : Shr S E) (O : Ops A) (n : Option Addr) (F : Nat) (caps : Array Value) (R : TrE A E) (Q M B : Nat → Prop) (s : S) (w : World) (hn : ∀ j, n = some ⟨j, 0, none⟩ → j < w.heap.size) (hQ : ∀ k, w.heap.size ≤ k → Q k) (hB : H.at' w B s) (hBQ : ∀ b, B b → ¬ Q b)
    (hJ : ∀ w1 (Q1 : Nat → Prop) f, Below w.heap.size w w1 → Blk w1 f 89 #[cloV F caps] → w.heap.size ≤ f → f < w1.heap.size → Q1 f → (∀ b, b < w.heap.size → Q b → Q1 b) → JeF H O w1 Q1 M n [f] R) :
    Calls Tryz.prog 137 #[.pointer n, cloV F caps] w fun e w' => ∃ t M2 B2 l R2, e = .returned (pV t) ∧ w.heap.size ≤ t ∧ JeF H O w' (fun b => (Q b ∧ b ≠ t) ∧ ¬ B2 b) M2 (some ⟨t, 0, none⟩) [] R2 ∧ (∀ x, x < w.heap.size → M2 x → M x) ∧ (∀ x, x < w.heap.size → B2 x → B x) ∧ H.at' w' B2 (H.note s l) ∧ R = emE l R2 ∧ Keep (fun b => M b ∨ B b) w w' ∧ ¬ B2 t := by
  have hmf : ∀ (fn : Fn) (first cap : Array Value) (w : World), (Instr.makeFunc fn first cap).run Tryz.prog w = .ok (.func fn first cap) w := fun _ _ _ _ => rfl
  have HQ := Lib.hid hQ
  have HK := Lib.hid hJ
  have HN := Lib.hid hn
  have HB := Lib.hid hB
  have HBQ := Lib.hid hBQ
  have HBL := Lib.hid (H.lt hB)
  clear hQ hJ hn hB hBQ
  go_enter Tryz.func137, Tryz.ntmps137
  go_upto_region 1 with fail
  generalize hW : (w.alloc _) = W
  have bW : Below w.heap.size w W := by rw [← hW]; go_grown
  have q0 : Blk W w.heap.size 89 #[cloV F caps] := by rw [← hW]; exact Blk.new w _ _
  clear hW
  go_upto_region 2 with (go_at_call 220; refine (only_any _ _ _).mono ?_; rintro e w2 ⟨lp, rfl, l1, l2, l3⟩)
  have hs2 := l3.size
  have hsW := bW.size
  generalize hW3 : (w2.alloc _) = W3
  have b3 : Below W.heap.size W W3 := by rw [← hW3]; exact l3.alloc (by omega) _
  have s3 : W3.heap.size = w2.heap.size + 1 := by rw [← hW3]; simp
  have qt : Blk W3 w2.heap.size 161 #[.nilFunc, .pointer none, pV lp, .int .i64 0] := by rw [← hW3]; exact Blk.new w2 _ _
  have ql : Blk W3 lp 305 #[.pointer none, .pointer none, cloV 221 #[pV w.heap.size]] := by rw [← hW3]; exact l2.alloc _
  have hlp := l2.lt
  clear hW3
  have bw3 : Below w.heap.size w W3 := bW.trans (b3.mono hsW)
  have qf := q0.below b3 q0.lt
  have hqf := q0.lt
  have J3 := HK.out W3 (fun b => Q b ∧ b ≠ w2.heap.size) w.heap.size bw3 qf (Nat.le_refl _) qf.lt ⟨HQ.out _ (Nat.le_refl _), by omega⟩ (fun b hb h => ⟨h, by omega⟩)
  obtain ⟨hml⟩ : Nonempty (Hid (¬ M lp)) := ⟨Lib.hid fun h => by
    have J4 := HK.out W3 (fun b => Q b ∧ b ≠ w2.heap.size ∧ b ≠ lp) w.heap.size bw3 qf (Nat.le_refl _) qf.lt ⟨HQ.out _ (Nat.le_refl _), by omega, by omega⟩ (fun b hb h => ⟨h, by omega, by omega⟩)
    exact (J4.few lp h).1.2.2 rfl⟩
  have HG := Lib.hid (goon_treeE H O w2.heap.size n .nilFunc (.pointer none) (pV lp) [w.heap.size] (fun b => Q b ∧ b ≠ w2.heap.size) M B s R W3
    qt (.inr ⟨0, lp, rfl, .leaf lp _ ⟨⟨HQ.out _ (by omega), by omega⟩, hml.out⟩ ql⟩) (fun j hj => ⟨HQ.out _ (by omega), by omega⟩) (fun h => h.2 rfl)
    (fun j e => by have := HN.out j e; omega) J3 (H.keep HB.out (Keep.ofBelow (Q := fun _ => False) bw3) (fun _ _ h => h)) (fun b hb h => HBQ.out b hb h.1) (fun hb => by have := HBL.out _ hb; omega))
  clear qt ql qf J3
  go_wp2_with (go_at_call 119; refine HG.out.mono ?_; rintro e w4 ⟨rfl, M2, B2, l, R2, k4, hm, hb2, hB2, hT4, hR⟩)
  go_ret
  refine ⟨w2.heap.size, M2, B2, l, R2, rfl, by omega, hT4, fun x hx h => hm x (by have := bw3.size; omega) h, fun x hx h => hb2 x (by have := bw3.size; omega) h, hB2, hR, (Keep.ofBelow bw3).step k4 (fun i hi h => ?_), fun h => by have := HBL.out _ (hb2 _ (by omega) h); omega⟩
  rcases h with h | h
  · omega
  · exact h
/-- a closure in a box -/
theorem contE_of {A S E : Type} (H : Shr S E) (O : Ops A) (w : World) (Q M : Nat → Prop) (f G : Nat) (caps : Array Value) (k : Int → TrE A E) (hq : Q f) (hf : Blk w f 89 #[cloV G caps]) (hM : ∀ b, M b → Q b ∧ b < w.heap.size)
    (hcall : ∀ (W : World) (args : Array Value), (callFunc G args).run Tryz.prog W = .ok (.enter G args) W)
    (hG : ∀ v w1 B s, Keep (fun b => ¬ Q b) w w1 → H.at' w1 B s → (∀ b, B b → b < w.heap.size → ¬ Q b) → Calls Tryz.prog G (#[.int .i64 v] ++ caps) w1 fun e w' => ∃ n, e = .returned (.pointer n) ∧ ∃ M2 B2 l R, Keep (fun b => M b ∨ B b) w1 w' ∧ (∀ b, b < w1.heap.size → M2 b → M b) ∧
      H.at' w' B2 (H.note s l) ∧ (∀ b, b < w1.heap.size → B2 b → B b) ∧ InQ (fun b => ((Q b ∧ b < w.heap.size) ∨ w1.heap.size ≤ b) ∧ ¬ B2 b) n ∧ JeF H O w' (fun b => ((Q b ∧ b < w.heap.size) ∨ w1.heap.size ≤ b) ∧ ¬ B2 b) M2 n [] R ∧ k v = emE l R) : ContsE H O w Q M [f] k := by
  refine ContsE.fold ⟨hM, hq, hf.lt, fun v w1 B s hw hB hd => ?_⟩
  have hBl := H.lt hB
  refine (then1P_any f G caps v w1 (fun n w' => ∃ M2 B2 l R, Keep (fun b => M b ∨ B b) w1 w' ∧ (∀ b, b < w1.heap.size → M2 b → M b) ∧ H.at' w' B2 (H.note s l) ∧ (∀ b, b < w1.heap.size → B2 b → B b) ∧ InQ (fun b => ((Q b ∧ b < w.heap.size) ∨ w1.heap.size ≤ b) ∧ ¬ B2 b) n ∧ JeF H O w' (fun b => ((Q b ∧ b < w.heap.size) ∨ w1.heap.size ≤ b) ∧ ¬ B2 b) M2 n [] R ∧ k v = emE l R) (hf.keep hw (fun h => h hq)) hcall fun w2 hb => ?_).mono ?_
  · have hs := hb.size
    have hs0 := hw.size
    refine (hG v w2 B s (hw.step (Q' := fun _ => False) (Keep.ofBelow hb) (fun _ _ h => h.elim)) (H.keep hB (Keep.ofBelow (Q := fun _ => False) hb) (fun _ _ h => h)) hd).mono ?_
    rintro e w' ⟨n, rfl, M2, B2, l, R, g1, g2, g3, g4, g5, g6, g7⟩
    have hqq : ∀ b, ((Q b ∧ b < w.heap.size) ∨ w2.heap.size ≤ b) ∧ ¬ B2 b → ((Q b ∧ b < w.heap.size) ∨ w1.heap.size ≤ b) ∧ ¬ B2 b := fun b hb => ⟨hb.1.imp id (fun h => by omega), hb.2⟩
    refine ⟨n, rfl, M2, B2, l, R, (Keep.ofBelow hb).trans g1, fun b hb h => g2 b (by omega) h, g3, fun b hb h => g4 b (by omega) h, fun k e => hqq k (g5 k e), g6.keep (Keep.refl (fun _ => False) w') (fun _ _ h => h) (fun _ _ h => h) (fun b _ h => hqq b h), g7⟩
  · rintro e w' ⟨n, rfl, M2, B2, l, R, g1, g2, g3, g4, g5, g6, g7⟩
    exact ⟨n, M2, B2, l, R, rfl, g1, g2, g3, g4, g5, g6, g7⟩
/-- a task of a caller's own, at block t, of the blocks of which Q is said -/
def TkE {A S E : Type} (H : Shr S E) (O : Ops A) (w : World) (t : Nat) (Q : Nat → Prop) (T : TrE A E) : Prop :=
  ∃ Q1 M : Nat → Prop, JeF H O w Q1 M (some ⟨t, 0, none⟩) [] T ∧ ¬ Q1 t ∧ (∀ b, Q1 b ∨ b = t → Q b) ∧ ∀ b, Q b → b < w.heap.size
section
variable {A S E : Type} {H : Shr S E} {O : Ops A}
theorem TkE.keep {w w1 : World} {t : Nat} {Q F : Nat → Prop} {T : TrE A E} (h : TkE H O w t Q T) (hk : Keep F w w1) (hn : ∀ b, Q b → ¬ F b) : TkE H O w1 t Q T := by
  obtain ⟨Q1, M, h1, h2, h3, h4⟩ := h
  exact ⟨Q1, M, h1.keep hk (fun b hb => hn b (h3 b (.inl hb))) (fun k e => by injection e with e; injection e with e; exact e ▸ hn t (h3 t (.inr rfl))) (fun _ _ h => h), h2, h3, fun b hb => Nat.lt_of_lt_of_le (h4 b hb) hk.size⟩
theorem TkE.lt {w : World} {t : Nat} {Q : Nat → Prop} {T : TrE A E} (h : TkE H O w t Q T) : ∀ b, Q b → b < w.heap.size := by
  obtain ⟨Q1, M, h1, h2, h3, h4⟩ := h
  exact h4
theorem TkE.own {w : World} {t : Nat} {Q : Nat → Prop} {T : TrE A E} (h : TkE H O w t Q T) : Q t := by
  obtain ⟨Q1, M, h1, h2, h3, h4⟩ := h
  exact h3 t (.inr rfl)
theorem TkE.new {w' : World} {t : Nat} {Q M : Nat → Prop} {T : TrE A E} (h : JeF H O w' (fun b => Q b ∧ b ≠ t) M (some ⟨t, 0, none⟩) [] T) (hq : Q t) : TkE H O w' t (fun b => Q b ∧ b < w'.heap.size) T :=
  ⟨fun b => (Q b ∧ b ≠ t) ∧ b < w'.heap.size, M, h.keep (Keep.refl (fun _ => False) w') (fun _ _ h => h) (fun _ _ h => h) (fun b hb h => ⟨h, hb⟩), fun h => h.1.2 rfl, fun b hb => by
    rcases hb with hb | rfl
    · exact ⟨hb.1.1, hb.2⟩
    · exact ⟨hq, h.lt⟩, fun b hb => hb.2⟩
theorem TkM.tkE {O0 : Ops A} {w : World} {t : Nat} {Q : Nat → Prop} {T : Tre A} (hO : ∀ w Q x d p, O0.is w Q x d p → O.is w Q x d p) (h : TkM O0 w t Q T) : TkE H O w t Q (upE T) := by
  obtain ⟨Q1, M, h1, h2, h3, h4⟩ := h
  exact ⟨Q1, M, jeF_up H O0 O hO h1, h2, h3, h4⟩
theorem TkE.root {w : World} {t : Nat} {Q : Nat → Prop} {T : TrE A E} (h : TkE H O w t Q T) : (∃ v, T = retE v) ∨ ∃ x g, T = opE x g := by
  obtain ⟨Q1, M, h1, h2, h3, h4⟩ := h
  rcases h1.root with ⟨v, e, _⟩ | h
  · exact .inl ⟨v, e⟩
  · exact .inr h
theorem TkE.done {w : World} {t : Nat} {Q : Nat → Prop} {v : Int} (h : TkE H O w t Q (retE v)) : DoneV w (some ⟨t, 0, none⟩) v := by
  obtain ⟨Q1, M, h1, h2, h3, h4⟩ := h
  rcases h1.root with ⟨u, e, h⟩ | ⟨x, g, e⟩
  · rw [retE_inj e]; exact h
  · exact (retE_opE (e := []) (f := []) (by rw [emE_nil, emE_nil]; exact e)).elim
theorem TkE.live {w : World} {t : Nat} {Q : Nat → Prop} {x : A} {κ : Int → TrE A E} (h : TkE H O w t Q (opE x κ)) :
    ∃ Q1 M : Nat → Prop, ¬ Q1 t ∧ (∀ b, Q1 b ∨ b = t → Q b) ∧ t < w.heap.size ∧ ∃ d p rest fs, Live w t d p rest ∧ TreeO w (fun b => Q1 b ∧ ¬ M b) rest fs ∧ O.is w Q1 x d p ∧ ContsE H O w Q1 M fs κ := by
  obtain ⟨Q1, M, h1, h2, h3, h4⟩ := h
  refine ⟨Q1, M, h2, h3, h4 t (h3 t (.inr rfl)), ?_⟩
  rcases h1 with ⟨u, κ', g1, g2, e⟩ | ⟨x', κ', k, d, p, rest, fs, e, e2, g1, g2, g3, g4⟩
  · obtain rfl := g2.ret
    exact (retE_opE (e := []) (f := []) (by rw [emE_nil, emE_nil]; exact e.symm)).elim
  · obtain ⟨rfl, rfl⟩ := opE_inj e
    injection e2 with e2
    injection e2 with e2
    subst e2
    rw [List.append_nil] at g4
    exact ⟨d, p, rest, fs, g1, g2, g3, g4⟩
end
theorem tdoneE_ret {A S E : Type} {H : Shr S E} {O : Ops A} (t : Nat) (Q : Nat → Prop) (v : Int) (w : World) (h : TkE H O w t Q (retE v)) : Calls Tryz.prog 38 #[pV t] w fun e w' => e = .returned (.bool true) ∧ w = w' := doneV_done _ v w h.done
theorem tdoneE_op {A S E : Type} {H : Shr S E} {O : Ops A} (t : Nat) (Q : Nat → Prop) (x : A) (κ : Int → TrE A E) (w : World) (h : TkE H O w t Q (opE x κ)) : Calls Tryz.prog 38 #[pV t] w fun e w' => e = .returned (.bool false) ∧ w = w' := by
  obtain ⟨_, _, _, _, _, d, p, rest, fs, hL, _⟩ := h.live
  exact live_done t d p rest w hL
theorem tvalueE_ret {A S E : Type} {H : Shr S E} {O : Ops A} (t : Nat) (Q : Nat → Prop) (v : Int) (w : World) (h : TkE H O w t Q (retE v)) : Calls Tryz.prog 27 #[pV t] w fun e w' => e = .returned (.int .i64 v) ∧ w = w' := doneV_value _ v w h.done
theorem tvalueE_op {A S E : Type} {H : Shr S E} {O : Ops A} (t : Nat) (Q : Nat → Prop) (x : A) (κ : Int → TrE A E) (w : World) (h : TkE H O w t Q (opE x κ)) : Calls Tryz.prog 27 #[pV t] w fun e w' => e = .returned (.int .i64 0) ∧ w = w' := by
  obtain ⟨_, _, _, _, _, d, p, rest, fs, hL, _⟩ := h.live
  exact value_any t _ _ _ 0 w hL.blk
theorem tstepE_ret {A S E : Type} {H : Shr S E} {O : Ops A} (t : Nat) (Q : Nat → Prop) (v k : Int) (w : World) (h : TkE H O w t Q (retE v)) : Calls Tryz.prog 37 #[pV t, .int .i64 k] w fun e w' => e = .returned (.bool false) ∧ w = w' := step_done _ v k w h.done
/-- a step that does what is at hand: what that does to memory that all share, and its value, is told by a contract of its own -/
theorem tstepE_op {A S E : Type} {H : Shr S E} {O : Ops A} (t : Nat) (Q B : Nat → Prop) (s s2 : S) (x : A) (κ : Int → TrE A E) (kind v : Int) (w : World) (h : TkE H O w t Q (opE x κ)) (hB : H.at' w B s) (hBQ : ∀ b, B b → ¬ Q b)
    (hop : ∀ Q1 d p, O.is w Q1 x d p → (∀ b, Q1 b → ¬ B b) → Calls Tryz.prog 118 #[.agg #[d, p], .int .i64 kind] w fun e w2 => e = .returned (.tuple #[.int .i64 v, .bool true]) ∧ ∃ B2, H.at' w2 B2 s2 ∧ (∀ b, b < w.heap.size → B2 b → B b) ∧ Keep B w w2) :
    Calls Tryz.prog 37 #[pV t, .int .i64 kind] w fun e w' => e = .returned (.bool true) ∧ ∃ Q' B' l T', TkE H O w' t Q' T' ∧ (∀ b, Q' b → Q b ∨ w.heap.size ≤ b) ∧ H.at' w' B' (H.note s2 l) ∧ (∀ b, b < w.heap.size → B' b → B b) ∧ (∀ b, B' b → ¬ Q' b) ∧ Keep (fun b => Q b ∨ B b) w w' ∧ κ v = emE l T' := by
  obtain ⟨Q1, M, q1, q2, hlt, d, p, rest, fs, hL, hT, hO, hc⟩ := h.live
  have hM := hc.few
  have hqB : ∀ b, Q1 b → ¬ B b := fun b hb hB => hBQ b hB (q2 b (.inl hb))
  have htB : ¬ B t := fun hB => hBQ t hB (q2 t (.inr rfl))
  refine step_yes t _ _ rest kind w (fun v' w2 => v' = v ∧ ∃ B2, H.at' w2 B2 s2 ∧ (∀ b, b < w.heap.size → B2 b → B b) ∧ Keep B w w2)
    (fun w' => ∃ Q' B' l T', TkE H O w' t Q' T' ∧ (∀ b, Q' b → Q b ∨ w.heap.size ≤ b) ∧ H.at' w' B' (H.note s2 l) ∧ (∀ b, b < w.heap.size → B' b → B b) ∧ (∀ b, B' b → ¬ Q' b) ∧ Keep (fun b => Q b ∨ B b) w w' ∧ κ v = emE l T') hL ?_ ?_
  · refine (hop Q1 d p hO hqB).mono ?_
    rintro e w2 ⟨rfl, g⟩
    exact ⟨v, rfl, rfl, g⟩
  · rintro v' w2 w3 k ⟨rfl, B2, hB2, hb2, hk2⟩ g1 g2 g3
    have k3 : Keep B w w3 := hk2.trans (Keep.ofBelow g3)
    have s2' := hk2.size
    have s3 := k3.size
    have hB3 : H.at' w3 B2 s2 := H.keep hB2 (Keep.ofBelow (Q := fun _ => False) g3) (fun _ _ h => h)
    have hl2 := H.lt hB2
    have hQ3 : ∀ b, (Q1 b ∨ w.heap.size ≤ b) ∧ ¬ B2 b → (Q1 b ∨ w.heap.size ≤ b) := fun _ h => h.1
    have hq0 : ∀ b, b < w.heap.size → Q1 b → ¬ B2 b := fun b hb h hh => hqB b h (hb2 b hb hh)
    have hT3 : TreeO w3 (fun b => ((Q1 b ∨ w.heap.size ≤ b) ∧ ¬ B2 b) ∧ ¬ M b) rest fs := ((hT.mono (Q' := fun b => (Q1 b ∧ b < w.heap.size) ∧ ¬ M b) fun b hb h => ⟨⟨h.1, hb⟩, h.2⟩).keep k3 (fun b hb => hqB b hb.1.1)).mono (fun b _ h => ⟨⟨.inl h.1.1, hq0 b h.1.2 h.1.1⟩, h.2⟩)
    have hC3 : ContsE H O w3 (fun b => (Q1 b ∨ w.heap.size ≤ b) ∧ ¬ B2 b) M fs κ := hc.keep k3 hqB (fun b hb h => ⟨.inl h, hq0 b hb h⟩)
    have hkB : ¬ B2 k := fun h => by have := hl2 k h; omega
    refine (goon_treeE H O t (some ⟨k, 0, none⟩) _ _ rest fs (fun b => (Q1 b ∨ w.heap.size ≤ b) ∧ ¬ B2 b) M B2 s2 _ w3 (hL.blk.keep k3 htB) hT3 (fun j hj => ⟨.inr (by omega), fun h => by have := H.lt hB3 j h; omega⟩) (fun hh => hh.1.elim q1 (fun h => by omega)) (fun j e => by injection e with e; injection e with e; omega) (.inl ⟨_, κ, g2, hC3, rfl⟩) hB3 (fun b hb h => h.2 hb) (fun h => htB (hb2 t hlt h))).mono ?_
    rintro e w' ⟨rfl, M4, B4, l, R2, k4, hm4, hb4, hB4, hT4, hR⟩
    have s4 := k4.size
    have hl4 := H.lt hB4
    have k5 : Keep (fun b => Q b ∨ B b) w w' := by
      refine (k3.mono (fun _ _ h => .inr h)).step k4 (fun i hi h => ?_)
      rcases h with h | h | h
      · exact .inl (q2 i (.inr h))
      · exact .inl (q2 i (.inl (hM i h).1))
      · exact .inr (hb2 i hi h)
    refine ⟨rfl, fun b => ((Q b ∨ w.heap.size ≤ b) ∧ ¬ B4 b) ∧ b < w'.heap.size, B4, l, R2, ⟨fun b => (((Q1 b ∨ w.heap.size ≤ b) ∧ ¬ B2 b) ∧ ¬ B4 b) ∧ b < w'.heap.size, M4, hT4.keep (Keep.refl (fun _ => False) w') (fun _ _ h => h) (fun _ _ h => h) (fun b hb hq => ⟨hq, hb⟩), fun hh => ?_, fun b hb => ?_, fun b hb => hb.2⟩, fun b hb => hb.1.1, hB4, fun b hb h => hb2 b hb (hb4 b (by omega) h), fun b hb h => h.1.2 hb, k5, hR⟩
    · rcases hh.1.1.1 with hh | hh
      · exact q1 hh
      · omega
    · rcases hb with ⟨⟨⟨hb | hb, hn2⟩, hn4⟩, hlt2⟩ | rfl
      · exact ⟨⟨.inl (q2 b (.inl hb)), hn4⟩, hlt2⟩
      · exact ⟨⟨.inr hb, hn4⟩, hlt2⟩
      · exact ⟨⟨.inl (q2 b (.inr rfl)), fun h => htB (hb2 b hlt (hb4 b (by omega) h))⟩, by omega⟩
/-- .. or does not -/
theorem tstepE_no {A S E : Type} {H : Shr S E} {O : Ops A} (t : Nat) (Q : Nat → Prop) (x : A) (κ : Int → TrE A E) (kind v : Int) (w : World) (h : TkE H O w t Q (opE x κ))
    (hop : ∀ Q1 d p, O.is w Q1 x d p → (∀ b, Q1 b → Q b) → Calls Tryz.prog 118 #[.agg #[d, p], .int .i64 kind] w fun e w2 => e = .returned (.tuple #[.int .i64 v, .bool false]) ∧ Keep (fun _ => False) w w2) :
    Calls Tryz.prog 37 #[pV t, .int .i64 kind] w fun e w' => e = .returned (.bool false) ∧ Keep (fun _ => False) w w' := by
  obtain ⟨Q1, M, q1, q2, hlt, d, p, rest, fs, hL, hT, hO, hc⟩ := h.live
  exact step_no t _ _ rest kind v w hL (hop Q1 d p hO fun b hb => q2 b (.inl hb))
end Go.Proofs.YtldofbkjjmnooaaGreat
/- Maps: which cell is what. -/
namespace Go.Proofs.YtldofbkjjmnooaaGreat
open Go.ChangeShapes Go.WideShapes Go.ChangeAt Go.RowKit
set_option linter.unusedVariables false
set_option maxRecDepth 100000
set_option linter.unusedSimpArgs false
theorem bdrewP (w : World) : Below w.heap.size w w.drew := ⟨rfl, rfl, rfl, Nat.le_refl _, fun _ _ => rfl⟩
/-- a map -/
structure Mp where
  t : Nat
  o : Nat
  n : Nat
structure Mp.ok (m : Mp) : Prop where
  t : 1 ≤ m.t ∧ m.t ≤ 32766
  o : 1 ≤ m.o ∧ m.o ≤ 65536
  n : m.n ≤ 4096
abbrev mapV (m : Mp) : Value := .agg #[.int .i64 (m.t : Int), .int .i64 (m.o : Int), .int .i64 (m.n : Int)]
/-- the cell of the thread behind u; what is behind u, or ahead of all -/
def nxN (m : Mp) (u : Int) : Nat := 2 + m.o + 6 * u.toNat
def sizeN (m : Mp) : Nat := 2 + m.o + 6 * m.t + 8 * m.n
/-- the first cell of a monitor; its Link, its Gen -/
def monN (m : Mp) (k : Int) : Nat := 2 + m.o + 6 * m.t + 8 * k.toNat
def linkN (m : Mp) (k : Int) : Nat := monN m k + 7
def genN (m : Mp) (k : Int) : Nat := monN m k + 6
def wordN (o : Int) : Nat := 2 + o.toNat
def safeN (m : Mp) (u : Int) : Nat := nxN m u + 4
def stateN (m : Mp) (u : Int) : Nat := nxN m u + 1
def holdN (m : Mp) (k : Int) : Nat := monN m k + 1
theorem linkN_eq {m : Mp} {k : Int} (h : 0 ≤ k) : ((linkN m k : Nat) : Int) = 2 + (m.o : Int) + 6 * (m.t : Int) + 8 * k + 7 := by unfold linkN monN; omega
theorem genN_eq {m : Mp} {k : Int} (h : 0 ≤ k) : ((genN m k : Nat) : Int) = 2 + (m.o : Int) + 6 * (m.t : Int) + 8 * k + 6 := by unfold genN monN; omega
theorem linkN_lt {m : Mp} {k : Int} (h : 0 ≤ k ∧ k < m.n) : linkN m k < sizeN m := by unfold linkN monN sizeN; omega
theorem genN_lt {m : Mp} {k : Int} (h : 0 ≤ k ∧ k < m.n) : genN m k < sizeN m := by unfold genN monN sizeN; omega
theorem linkN_inj {m : Mp} {j k : Int} (hj : 0 ≤ j) (hk : 0 ≤ k) (h : linkN m j = linkN m k) : j = k := by unfold linkN monN at h; omega
theorem linkN_gen {m : Mp} {j k : Int} (hj : 0 ≤ j) (hk : 0 ≤ k) : linkN m j ≠ genN m k := by unfold linkN genN monN; omega
theorem linkN_two {m : Mp} {k : Int} : 9 ≤ linkN m k := by unfold linkN monN; omega
theorem genN_two {m : Mp} {k : Int} : 8 ≤ genN m k := by unfold genN monN; omega
theorem thread_any (m : Mp) (u : Int) (w : World) (hm : m.ok) (h : 0 ≤ u ∧ u < m.t) : Calls Tryz.prog 108 #[mapV m, .int .i64 u] w fun e w' => e = .returned (.int .i64 (nxN m u : Int)) ∧ Below w.heap.size w w' := by
  have e1 : ((nxN m u : Nat) : Int) = 2 + (m.o : Int) + 6 * u := by unfold nxN; omega
  have h1 := hm.t
  have h2 := hm.o
  rw [e1]
  clear e1 hm
  go_enter Tryz.func108, Tryz.ntmps108
  go_wp2
  go_ret
  exact ⟨rfl, by go_grown⟩
theorem size_any (m : Mp) (w : World) (hm : m.ok) : Calls Tryz.prog 14 #[mapV m] w fun e w' => e = .returned (.int .i64 (sizeN m : Int)) ∧ Below w.heap.size w w' := by
  have e1 : ((sizeN m : Nat) : Int) = 2 + (m.o : Int) + 6 * (m.t : Int) + 8 * (m.n : Int) := by unfold sizeN; omega
  have h1 := hm.t
  have h2 := hm.o
  have h3 := hm.n
  rw [e1]
  clear e1 hm
  go_enter Tryz.func14, Tryz.ntmps14
  go_wp2
  go_ret
  exact ⟨rfl, by go_grown⟩
/-- may there be such a map? -/
def rightS (t o n : Int) : Bool := decide (1 ≤ t ∧ t ≤ 32766 ∧ 1 ≤ o ∧ o ≤ 65536 ∧ 0 ≤ n ∧ n ≤ 4096)
theorem right_any (t o n : Int) (w : World) : Calls Tryz.prog 52 #[.agg #[.int .i64 t, .int .i64 o, .int .i64 n]] w fun e w' => e = .returned (.bool (rightS t o n)) ∧ Below w.heap.size w w' := by
  by_cases h1 : 1 ≤ t
  · by_cases h2 : t ≤ 32766
    · by_cases h3 : 1 ≤ o
      · by_cases h4 : o ≤ 65536
        · by_cases h5 : 0 ≤ n
          · by_cases h6 : n ≤ 4096
            · have e : rightS t o n = true := by simp [rightS, *]
              rw [e]
              clear e
              go_enter Tryz.func52, Tryz.ntmps52
              go_wp2
              go_ret
              exact ⟨rfl, by go_grown⟩
            · have e : rightS t o n = false := by simp [rightS, *]
              rw [e]
              clear e
              go_enter Tryz.func52, Tryz.ntmps52
              go_wp2
              go_ret
              exact ⟨rfl, by go_grown⟩
          · have e : rightS t o n = false := by simp [rightS, *]
            rw [e]
            clear e
            go_enter Tryz.func52, Tryz.ntmps52
            go_wp2
            go_ret
            exact ⟨rfl, by go_grown⟩
        · have e : rightS t o n = false := by simp [rightS, *]
          rw [e]
          clear e
          go_enter Tryz.func52, Tryz.ntmps52
          go_wp2
          go_ret
          exact ⟨rfl, by go_grown⟩
      · have e : rightS t o n = false := by simp [rightS, *]
        rw [e]
        clear e
        go_enter Tryz.func52, Tryz.ntmps52
        go_wp2
        go_ret
        exact ⟨rfl, by go_grown⟩
    · have e : rightS t o n = false := by simp [rightS, *]
      rw [e]
      clear e
      go_enter Tryz.func52, Tryz.ntmps52
      go_wp2
      go_ret
      exact ⟨rfl, by go_grown⟩
  · have e : rightS t o n = false := by simp [rightS, *]
    rw [e]
    clear e
    go_enter Tryz.func52, Tryz.ntmps52
    go_wp2
    go_ret
    exact ⟨rfl, by go_grown⟩
theorem safe_any (m : Mp) (u : Int) (w : World) (hm : m.ok) (h : 0 ≤ u ∧ u < m.t) : Calls Tryz.prog 54 #[mapV m, .int .i64 u] w fun e w' => e = .returned (.int .i64 (safeN m u : Int)) ∧ Below w.heap.size w w' := by
  have HT := Lib.hid fun W => thread_any m u W hm h
  have e1 : ((safeN m u : Nat) : Int) = (nxN m u : Int) + 4 := by unfold safeN; omega
  have e2 : (nxN m u : Int) ≤ 1000000 := by have := hm.t; have := hm.o; unfold nxN; omega
  rw [e1]
  clear hm h e1
  generalize nxN m u = x at *
  go_enter Tryz.func54, Tryz.ntmps54
  go_wp2_with (go_at_call 108; refine (HT.out _).mono ?_; rintro e w2 ⟨rfl, b2⟩)
  go_ret
  exact ⟨rfl, ((Below.refl _ w).alloc (Nat.le_refl _) _).trans (b2.mono (by simp))⟩
theorem state_any (m : Mp) (u : Int) (w : World) (hm : m.ok) (h : 0 ≤ u ∧ u < m.t) : Calls Tryz.prog 134 #[mapV m, .int .i64 u] w fun e w' => e = .returned (.int .i64 (stateN m u : Int)) ∧ Below w.heap.size w w' := by
  have HT := Lib.hid fun W => thread_any m u W hm h
  have e1 : ((stateN m u : Nat) : Int) = (nxN m u : Int) + 1 := by unfold stateN; omega
  have e2 : (nxN m u : Int) ≤ 1000000 := by have := hm.t; have := hm.o; unfold nxN; omega
  rw [e1]
  clear hm h e1
  generalize nxN m u = x at *
  go_enter Tryz.func134, Tryz.ntmps134
  go_wp2_with (go_at_call 108; refine (HT.out _).mono ?_; rintro e w2 ⟨rfl, b2⟩)
  go_ret
  exact ⟨rfl, ((Below.refl _ w).alloc (Nat.le_refl _) _).trans (b2.mono (by simp))⟩
theorem mword_any (m : Mp) (u : Int) (w : World) (h : 0 ≤ u ∧ u ≤ 100000) : Calls Tryz.prog 126 #[mapV m, .int .i64 u] w fun e w' => e = .returned (.int .i64 (wordN u : Int)) ∧ Below w.heap.size w w' := by
  have e1 : ((wordN u : Nat) : Int) = 2 + u := by unfold wordN; omega
  rw [e1]
  clear e1
  go_enter Tryz.func126, Tryz.ntmps126
  go_wp2
  go_ret
  exact ⟨rfl, by go_grown⟩
theorem mon_any (m : Mp) (k : Int) (w : World) (hm : m.ok) (h : 0 ≤ k ∧ k ≤ 5000) : Calls Tryz.prog 128 #[mapV m, .int .i64 k] w fun e w' => e = .returned (.int .i64 (2 + (m.o : Int) + 6 * (m.t : Int) + 8 * k)) ∧ Below w.heap.size w w' := by
  have h1 := hm.t
  have h2 := hm.o
  clear hm
  go_enter Tryz.func128, Tryz.ntmps128
  go_wp2
  go_ret
  exact ⟨rfl, by go_grown⟩
theorem link_any (m : Mp) (k : Int) (w : World) (hm : m.ok) (h : 0 ≤ k ∧ k ≤ 5000) : Calls Tryz.prog 47 #[mapV m, .int .i64 k] w fun e w' => e = .returned (.int .i64 (linkN m k : Nat)) ∧ Below w.heap.size w w' := by
  have h1 := hm.t
  have h2 := hm.o
  rw [linkN_eq h.1]
  have HT := Lib.hid fun W => mon_any m k W hm h
  clear hm
  go_enter Tryz.func47, Tryz.ntmps47
  go_wp2_with (go_at_call 128; refine (HT.out _).mono ?_; rintro e w2 ⟨rfl, b2⟩)
  go_ret
  exact ⟨rfl, ((Below.refl _ w).alloc (Nat.le_refl _) _).trans (b2.mono (by simp))⟩
theorem hold_any (m : Mp) (k : Int) (w : World) (hm : m.ok) (h : 0 ≤ k ∧ k ≤ 5000) : Calls Tryz.prog 72 #[mapV m, .int .i64 k] w fun e w' => e = .returned (.int .i64 (holdN m k : Nat)) ∧ Below w.heap.size w w' := by
  have h1 := hm.t
  have h2 := hm.o
  rw [show ((holdN m k : Nat) : Int) = 2 + (m.o : Int) + 6 * (m.t : Int) + 8 * k + 1 by unfold holdN monN; omega]
  have HT := Lib.hid fun W => mon_any m k W hm h
  clear hm
  go_enter Tryz.func72, Tryz.ntmps72
  go_wp2_with (go_at_call 128; refine (HT.out _).mono ?_; rintro e w2 ⟨rfl, b2⟩)
  go_ret
  exact ⟨rfl, ((Below.refl _ w).alloc (Nat.le_refl _) _).trans (b2.mono (by simp))⟩
theorem head_any (m : Mp) (w : World) : Calls Tryz.prog 36 #[mapV m] w fun e w' => e = .returned (.int .i64 1) ∧ Below w.heap.size w w' := by
  go_enter Tryz.func36, Tryz.ntmps36
  go_wp2
  go_ret
  exact ⟨rfl, by go_grown⟩
theorem pmark_any (u : Int) (w : World) (h : -1 ≤ u ∧ u ≤ 100000) : Calls Tryz.prog 114 #[.int .i64 u] w fun e w' => e = .returned (.int .u64 (u + 1)) ∧ w = w' := by
  have e1 : IntKind.u64.wrap (u + 1) = u + 1 := by rw [IntKind.wrap_u64]; omega
  go_enter Tryz.func114, Tryz.ntmps114
  go_wp2
  go_ret
  exact ⟨rfl, rfl⟩
theorem pright_yes (m : Mp) (n : Int) (w : World) (hm : m.ok) : Calls Tryz.prog 113 #[.int .i64 n, mapV m] w fun e w' => e = .returned (.bool (decide ((sizeN m : Int) ≤ n))) ∧ Below w.heap.size w w' := by
  have HR := Lib.hid fun W => right_any (m.t : Int) (m.o : Int) (m.n : Int) W
  have e : rightS (m.t : Int) (m.o : Int) (m.n : Int) = true := by
    have h1 := hm.t
    have h2 := hm.o
    have h3 := hm.n
    simp [rightS]
    omega
  rw [e] at HR
  have HS := Lib.hid fun W => size_any m W hm
  clear hm e
  go_enter Tryz.func113, Tryz.ntmps113
  go_upto_region 1 with fail
  generalize hW : (w.alloc _) = W
  have bW : Below w.heap.size w W := by rw [← hW]; go_grown
  have m0 : Blk W w.heap.size 24 #[.int .i64 (m.t : Int), .int .i64 (m.o : Int), .int .i64 (m.n : Int)] := by rw [← hW]; exact Blk.new w _ _
  clear hW
  have c0 := m0.cell 0 _ rfl
  have c1 := m0.cell 1 _ rfl
  have c2 := m0.cell 2 _ rfl
  go_wp2_with (first
    | (go_at_call 52; refine (HR.out _).mono ?_; rintro e w2 ⟨rfl, b2⟩; have m2 := m0.below b2 m0.lt; clear c0 c1 c2; have c0 := m2.cell 0 _ rfl; have c1 := m2.cell 1 _ rfl; have c2 := m2.cell 2 _ rfl)
    | (go_at_call 14; refine (HS.out _).mono ?_; rintro e w3 ⟨rfl, b3⟩))
  go_ret
  exact ⟨rfl, bW.trans ((b2.trans (b3.mono b2.size)).mono bW.size)⟩
theorem pright_no (n t o k : Int) (w : World) (h : rightS t o k = false) : Calls Tryz.prog 113 #[.int .i64 n, .agg #[.int .i64 t, .int .i64 o, .int .i64 k]] w fun e w' => e = .returned (.bool false) ∧ Below w.heap.size w w' := by
  have HR := Lib.hid fun W => right_any t o k W
  rw [h] at HR
  clear h
  go_enter Tryz.func113, Tryz.ntmps113
  go_upto_region 1 with fail
  generalize hW : (w.alloc _) = W
  have bW : Below w.heap.size w W := by rw [← hW]; go_grown
  have m0 : Blk W w.heap.size 24 #[.int .i64 t, .int .i64 o, .int .i64 k] := by rw [← hW]; exact Blk.new w _ _
  clear hW
  have c0 := m0.cell 0 _ rfl
  have c1 := m0.cell 1 _ rfl
  have c2 := m0.cell 2 _ rfl
  go_wp2_with (first
    | (go_at_call 52; refine (HR.out _).mono ?_; rintro e w2 ⟨rfl, b2⟩))
  go_ret
  exact ⟨rfl, bW.trans (b2.mono bW.size)⟩
end Go.Proofs.YtldofbkjjmnooaaGreat
/- Package pool: Lay. -/
namespace Go.Proofs.YtldofbkjjmnooaaGreat
open Go.ChangeShapes Go.WideShapes Go.ChangeAt Go.RowKit
set_option linter.unusedVariables false
set_option maxRecDepth 100000
set_option linter.unusedSimpArgs false
def bhN (n j : Nat) : Int := if j = 0 then 0 else (n : Int) - j + 1
def layGo (m : Mp) (mm : List Int) : Nat → List Int
  | 0 => mm
  | j + 1 => (layGo m mm j).set (linkN m ((m.n : Int) - 1 - j)) (bhN m.n j)
def layL (m : Mp) (mm : List Int) : List Int := (layGo m mm m.n).set 1 (bhN m.n m.n)
theorem layGo_len (m : Mp) (mm : List Int) : ∀ j, (layGo m mm j).length = mm.length
  | 0 => rfl
  | j + 1 => by simp [layGo, layGo_len m mm j]
theorem layL_len (m : Mp) (mm : List Int) : (layL m mm).length = mm.length := by simp [layL, layGo_len]
theorem layGo_other (m : Mp) (mm : List Int) (i : Nat) (h : ∀ k : Int, 0 ≤ k → k < m.n → i ≠ linkN m k) : ∀ j, j ≤ m.n → (layGo m mm j)[i]? = mm[i]?
  | 0, _ => rfl
  | j + 1, hj => by
    rw [layGo, List.getElem?_set_ne (Ne.symm (h _ (by omega) (by omega)))]
    exact layGo_other m mm i h j (by omega)
theorem layGo_link (m : Mp) (mm : List Int) (hs : sizeN m ≤ mm.length) (k : Nat) (hk : k < m.n) : ∀ j, j ≤ m.n → m.n - j ≤ k → (layGo m mm j)[linkN m (k : Int)]? = some (bhN m.n (m.n - 1 - k))
  | 0, _, h => by omega
  | j + 1, hj, h => by
    rw [layGo]
    by_cases e : k = m.n - 1 - j
    · have e2 : (m.n : Int) - 1 - (j : Int) = (k : Int) := by omega
      rw [e2, List.getElem?_set_self (by rw [layGo_len]; have := linkN_lt (m := m) (k := (k : Int)) ⟨by omega, by omega⟩; omega)]
      rw [show m.n - 1 - k = j by omega]
    · rw [List.getElem?_set_ne (fun h2 => e (by have := linkN_inj (m := m) (by omega) (by omega) h2; omega))]
      exact layGo_link m mm hs k hk j (by omega) (by omega)
abbrev mapCs (m : Mp) : Array Value := #[.int .i64 (m.t : Int), .int .i64 (m.o : Int), .int .i64 (m.n : Int)]
theorem map3 {w : World} {b : Nat} {m : Mp} (h : Blk w b 24 (mapCs m)) : w.cell? ⟨b, 0, none⟩ = some (.int .i64 (m.t : Int)) ∧ w.cell? ⟨b, 1, none⟩ = some (.int .i64 (m.o : Int)) ∧ w.cell? ⟨b, 2, none⟩ = some (.int .i64 (m.n : Int)) := ⟨h.cell 0 _ rfl, h.cell 1 _ rfl, h.cell 2 _ rfl⟩
theorem bhN_eq (n j : Nat) (h : 0 < j) : bhN n j = (n : Int) - j + 1 := by unfold bhN; rw [if_neg (by omega)]
set_option maxHeartbeats 4000000 in
theorem lay_any (C S : Nat) (m : Mp) (mm : List Int) (k0 : Int) (w : World) (hm : m.ok) (hC : CellsAt w C S mm k0) (hs : sizeN m ≤ mm.length) (h0 : 0 ≤ k0 ∧ k0 ≤ 1000000) :
    Calls Tryz.prog 32 #[cellsV C, mapV m] w fun e w' => e = .returned (.bool true) ∧ CellsAt w' C S (layL m mm) (k0 + m.n + 1) ∧ Keep (ofCells C S) w w' := by
  have HR := Lib.hid fun V => pright_yes m (mm.length : Int) V hm
  rw [show decide ((sizeN m : Int) ≤ (mm.length : Int)) = true by simp; omega] at HR
  have hmn := hm.n
  have HL := Lib.hid fun V (hV : Below w.heap.size w V) => len_any C S mm k0 V (hC.keep (Keep.ofBelow (Q := fun _ => False) hV) (fun h => h) (fun h => h))
  have HC := Lib.hid hC
  have HM := Lib.hid hm
  have HS := Lib.hid hs
  have hCl := hC.own.lt
  have hSl := hC.row.lt
  clear hC hm hs
  go_enter Tryz.func32, Tryz.ntmps32
  go_upto_region 1 with fail
  generalize hW : (w.alloc _) = W
  have bW : Below w.heap.size w W := by rw [← hW]; go_grown
  have m0 : Blk W w.heap.size 24 (mapCs m) := by rw [← hW]; exact Blk.new w _ _
  clear hW
  have hml := m0.lt
  have SK := Lib.hid (show ∀ V, Below W.heap.size W V → V.cell? ⟨w.heap.size, 0, none⟩ = some (.int .i64 (m.t : Int)) ∧ V.cell? ⟨w.heap.size, 1, none⟩ = some (.int .i64 (m.o : Int)) ∧ V.cell? ⟨w.heap.size, 2, none⟩ = some (.int .i64 (m.n : Int)) from fun V hk => map3 (m0.below hk hml))
  have bd := bdrewP W
  have HL1 := Lib.hid (HL.out W.drew (bW.trans (bd.mono bW.size)))
  go_region_held3 (fun V => V.cell? ⟨w.heap.size, 0, none⟩ = some (.int .i64 (m.t : Int)) ∧ V.cell? ⟨w.heap.size, 1, none⟩ = some (.int .i64 (m.o : Int)) ∧ V.cell? ⟨w.heap.size, 2, none⟩ = some (.int .i64 (m.n : Int))) (first | exact SK.out _ b3 | exact SK.out _ b2 | exact SK.out _ bd) (first
    | (go_at_call 101; refine HL1.out.mono ?_; rintro e w2 ⟨rfl, hb2⟩; have b2 : Below W.heap.size W w2 := bd.trans hb2)
    | (go_at_call 113; refine (HR.out _).mono ?_; rintro e w3 ⟨rfl, hb3⟩; have b3 : Below W.heap.size W w3 := b2.trans (hb3.mono b2.size)))
  have m3 := m0.below b3 hml
  have kW : Keep (ofCells C S) w w3 := (Keep.ofBelow bW).trans (Keep.ofBelow b3)
  have C3 := HC.out.keep (Keep.ofBelow (Q := fun _ => False) (bW.trans (b3.mono bW.size))) (fun h => h) (fun h => h)
  obtain ⟨c0, c1, c2⟩ := map3 m3
  clear m0 SK HL HL1 bd b2 b3 hb2 hb3 bW
  go_wp2_with (go_at_call 114; refine (pmark_any (-1) _ (by omega)).mono ?_; rintro e w4 ⟨rfl, rfl⟩)
  have HM3 := Lib.hid m3
  have HC3 := Lib.hid C3
  have HKW := Lib.hid kW
  clear m3 C3 kW c0 c1 c2
  go_loopw [5, 6] (fun v5 v6 wr => ∃ (j : Nat) (b z : Int), j ≤ m.n ∧ b = bhN m.n j ∧ z = (m.n : Int) - 1 - j ∧ v5 = .int .u64 b ∧ v6 = .int .i64 z ∧ CellsAt wr C S (layGo m mm j) (k0 + j) ∧ Blk wr w.heap.size 24 (mapCs m) ∧ Keep (ofCells C S) w wr)
    (fun _ v6 _ => (intOf v6 + 1).toNat)
  case atStart => exact ⟨0, 0, (m.n : Int) - 1, by omega, rfl, by omega, rfl, rfl, by simpa [layGo] using HC3.out, HM3.out, HKW.out⟩
  case round =>
    obtain ⟨j, b, z, hj, hb, hz, rfl, rfl, hC, hB, hk⟩ := hrel
    obtain ⟨c0, c1, c2⟩ := map3 hB
    have HCr := Lib.hid hC
    have HBr := Lib.hid hB
    have HKr := Lib.hid hk
    by_cases hlt : j < m.n
    · have hzr : 0 ≤ z ∧ z ≤ 5000 := by omega
      have hzn : z < m.n := by omega
      have HX := Lib.hid fun V => link_any m z V HM.out hzr
      have hin : linkN m z < (layGo m mm j).length := by rw [layGo_len]; have := linkN_lt (m := m) ⟨hzr.1, hzn⟩; have := HS.out; omega
      have hbl : w.heap.size < wr.heap.size := hB.lt
      have HST := Lib.hid fun V (hV : Below wr.heap.size wr V) => store_yes C S (layGo m mm j) (k0 + j) (linkN m z) _ b V (HCr.out.keep (Keep.ofBelow (Q := fun _ => False) hV) (fun h => h) (fun h => h)) (List.getElem?_eq_getElem hin) (by omega) (by omega)
      have HK := Lib.hid fun V => pmark_any z V (by omega)
      have Hb := Lib.hid hb
      have Hz := Lib.hid hz
      have HJ := Lib.hid hlt
      clear hC hB hk hb hz hzn hin hlt hj
      go_wp2_with (first
        | (go_at_call 47; refine (HX.out _).mono ?_; rintro e w5 ⟨rfl, b5⟩; have HST2 := Lib.hid (HST.out w5 b5))
        | (go_at_call 59; refine HST2.out.mono ?_; rintro e w6 ⟨rfl, h6, k6⟩)
        | (go_at_call 114; refine (HK.out _).mono ?_; rintro e w7 ⟨rfl, rfl⟩))
      go_roundw
      case rel =>
        have hz := Hz.out
        have hb := Hb.out
        have hlt := HJ.out
        have k56 : Keep (ofCells C S) wr w6 := (Keep.ofBelow b5).trans k6
        refine ⟨j + 1, z + 1, z - 1, hlt, ?_, by omega, rfl, rfl, ?_, HBr.out.keep k56 (fun h => by rcases h with h | h <;> omega), HKr.out.trans k56⟩
        · rw [bhN_eq _ _ (by omega)]
          omega
        · rw [layGo, ← hz, ← hb, Int.natCast_add, ← Int.add_assoc]
          exact h6
      case measure => simp [intOf]; omega
    · obtain rfl : j = m.n := by omega
      have hzr : ¬ (0 ≤ z) := by omega
      have hin : 1 < (layGo m mm m.n).length := by rw [layGo_len]; have := HS.out; unfold sizeN at this; omega
      have HST := Lib.hid fun V (hV : Below wr.heap.size wr V) => (show Calls Tryz.prog 59 #[cellsV C, .int .i64 1, .int .u64 b] V fun e w' => e = .returned (.bool true) ∧ CellsAt w' C S ((layGo m mm m.n).set 1 b) (k0 + m.n + 1) ∧ Keep (ofCells C S) V w' from store_yes C S (layGo m mm m.n) (k0 + m.n) 1 _ b V (HCr.out.keep (Keep.ofBelow (Q := fun _ => False) hV) (fun h => h) (fun h => h)) (List.getElem?_eq_getElem hin) (by omega) (by omega))
      have Hb := Lib.hid hb
      clear hC hB hk hb hz hin hlt hj
      go_wp2_with (first
        | (go_at_call 36; refine (head_any m _).mono ?_; rintro e w5 ⟨rfl, b5⟩; have HST2 := Lib.hid (HST.out w5 b5))
        | (go_at_call 59; refine HST2.out.mono ?_; rintro e w6 ⟨rfl, h6, k6⟩))
      go_ret
      refine ⟨rfl, ?_, HKr.out.trans ((Keep.ofBelow b5).trans k6)⟩
      rw [Hb.out] at h6
      exact h6
end Go.Proofs.YtldofbkjjmnooaaGreat
