/- Package task: what a task is in memory: its operation at hand, and the list of what follows. -/
import Derived.Test.YtmknnjjmmfbppaaGreatMgBegAU
import Derived.Test.YtmknnjjmmfbppaaGreatMgBegAS
import Derived.Test.YtmknnjjmmfbppaaGreatMgBegAC
namespace Go.Proofs.YtmknnjjmmfbppaaGreat
open Go.ChangeShapes Go.WideShapes Go.ChangeAt Go.RowKit
set_option linter.unusedVariables false
set_option maxRecDepth 100000
set_option linter.unusedSimpArgs false
/-- going on past values -/
structure Equiv6 (s r : List Itm) (v : Int) : Prop where
  fresh : Fresh r
  on : ∀ x, (onS s x).1 = r ∧ (r = [] → (onS s x).2 = v)
theorem onS_append (s r : List Itm) (v : Int) : onS (s ++ r) v = if (onS s v).1 = [] then onS r (onS s v).2 else ((onS s v).1 ++ r, (onS s v).2) := by
  induction s generalizing v with
  | nil => simp [onS]
  | cons x s ih =>
    by_cases h : x.kind = 7
    · rw [List.cons_append, onS_ready h, onS_ready h]; exact ih _
    · rw [List.cons_append, onS_other h, onS_other h]; simp
theorem Fresh.append {r s : List Itm} (h : Fresh r) (hn : r ≠ []) : Fresh (r ++ s) := by
  cases r with
  | nil => exact absurd rfl hn
  | cons x r => simpa [Fresh] using h
theorem Equiv6.ne {s r : List Itm} {v : Int} (h : Equiv6 s r v) : s ≠ [] := by
  rintro rfl
  have h0 := h.on (v + 1)
  have h1 := h0.1
  simp only [onS] at h1 h0
  have := h0.2 h1.symm
  omega
/-- a closure's own work, as an item's -/
def CloAt (w : World) (C : Nat) (Q : Nat → Prop) (x : Itm) (F : Nat) (caps : Array Value) : Prop :=
  ∃ bc bi, Q bc ∧ Q bi ∧ Blk w bc 36 #[cellsV C] ∧ Blk w bi 3 #[.int .i64 x.at'] ∧
    ((x.kind = 0 ∧ F = 282 ∧ caps = #[pV bc, pV bi]) ∨
     (x.kind = 1 ∧ F = 253 ∧ ∃ bv, caps = #[pV bc, pV bi, pV bv] ∧ Q bv ∧ Blk w bv 55 #[.int .u64 x.a]) ∨
     ((x.kind = 2 ∨ x.kind = 4) ∧ F = 286 ∧ ∃ bo bn, caps = #[pV bc, pV bi, pV bo, pV bn] ∧ Q bo ∧ Q bn ∧ Blk w bo 55 #[.int .u64 x.a] ∧ Blk w bn 55 #[.int .u64 x.b]) ∨
     (x.kind = 3 ∧ False ∧ ∃ bv, caps = #[pV bc, pV bi, pV bv] ∧ Q bv ∧ Blk w bv 55 #[.int .u64 x.a]))
theorem CloAt.keep {w w1 : World} {C : Nat} {Q Q' F : Nat → Prop} {x : Itm} {G : Nat} {caps : Array Value} (h : CloAt w C Q x G caps) (hk : Keep F w w1) (hd : ∀ b, Q b → ¬ F b) (hq : ∀ b, b < w.heap.size → Q b → Q' b) : CloAt w1 C Q' x G caps := by
  obtain ⟨bc, bi, h1, h2, h3, h4, h⟩ := h
  refine ⟨bc, bi, hq _ h3.lt h1, hq _ h4.lt h2, h3.keep hk (hd _ h1), h4.keep hk (hd _ h2), ?_⟩
  rcases h with h | ⟨a, b, bv, c, d, e⟩ | ⟨a, b, bo, bn, c, d, e, f, g⟩ | ⟨a, b, bv, c, d, e⟩
  · exact .inl h
  · exact .inr (.inl ⟨a, b, bv, c, hq _ e.lt d, e.keep hk (hd _ d)⟩)
  · exact .inr (.inr (.inl ⟨a, b, bo, bn, c, hq _ f.lt d, hq _ g.lt e, f.keep hk (hd _ d), g.keep hk (hd _ e)⟩))
  · exact .inr (.inr (.inr ⟨a, b, bv, c, hq _ e.lt d, e.keep hk (hd _ d)⟩))
/-- the body of a spin's loop -/
def SpinB (w : World) (C : Nat) (Q : Nat → Prop) (x : Itm) (body : Value) : Prop :=
  ∃ bc bi bo bn, body = cloV 255 #[pV bc, pV bi, pV bo, pV bn] ∧ Q bc ∧ Q bi ∧ Q bo ∧ Q bn ∧ Blk w bc 36 #[cellsV C] ∧ Blk w bi 3 #[.int .i64 x.at'] ∧ Blk w bo 55 #[.int .u64 x.a] ∧ Blk w bn 55 #[.int .u64 x.b]
theorem SpinB.keep {w w1 : World} {C : Nat} {Q Q' F : Nat → Prop} {x : Itm} {body : Value} (h : SpinB w C Q x body) (hk : Keep F w w1) (hd : ∀ b, Q b → ¬ F b) (hq : ∀ b, b < w.heap.size → Q b → Q' b) : SpinB w1 C Q' x body := by
  obtain ⟨bc, bi, bo, bn, e, h1, h2, h3, h4, b1, b2, b3, b4⟩ := h
  exact ⟨bc, bi, bo, bn, e, hq _ b1.lt h1, hq _ b2.lt h2, hq _ b3.lt h3, hq _ b4.lt h4, b1.keep hk (hd _ h1), b2.keep hk (hd _ h2), b3.keep hk (hd _ h3), b4.keep hk (hd _ h4)⟩
/-- what follows an operation of a spin -/
def Link3 (w : World) (Q : Nat → Prop) (f : Nat) : Prop := Q f ∧ Blk w f 157 #[cloV 257 #[]]
def Link2 (w : World) (C : Nat) (Q : Nat → Prop) (x : Itm) (f : Nat) : Prop := Q f ∧ ∃ bb body, Blk w f 157 #[cloV 133 #[pV bb]] ∧ Q bb ∧ Blk w bb 150 #[body] ∧ SpinB w C Q x body
theorem Link3.keep {w w1 : World} {Q Q' F : Nat → Prop} {f : Nat} (h : Link3 w Q f) (hk : Keep F w w1) (hd : ∀ b, Q b → ¬ F b) (hq : ∀ b, b < w.heap.size → Q b → Q' b) : Link3 w1 Q' f := ⟨hq _ h.2.lt h.1, h.2.keep hk (hd _ h.1)⟩
theorem Link2.keep {w w1 : World} {C : Nat} {Q Q' F : Nat → Prop} {x : Itm} {f : Nat} (h : Link2 w C Q x f) (hk : Keep F w w1) (hd : ∀ b, Q b → ¬ F b) (hq : ∀ b, b < w.heap.size → Q b → Q' b) : Link2 w1 C Q' x f := by
  obtain ⟨h1, bb, body, h2, h3, h4, h5⟩ := h
  exact ⟨hq _ h2.lt h1, bb, body, h2.keep hk (hd _ h1), hq _ h4.lt h3, h4.keep hk (hd _ h3), h5.keep hk hd hq⟩
/-- the operation at hand of a task: 'do', 'park', and what follows of its own -/
def OpAt (w : World) (C P : Nat) (Q : Nat → Prop) (x : Itm) (d p : Value) (gs : List Nat) : Prop :=
  ((∃ b F caps, d = cloV 280 #[pV b] ∧ p = .pointer none ∧ Q b ∧ Blk w b 52 #[cloV F caps] ∧ CloAt w C Q x F caps) ∧ ((x.kind ≠ 4 ∧ gs = []) ∨ (x.kind = 4 ∧ ∃ k3 k2, gs = [k3, k2] ∧ Link3 w Q k3 ∧ Link2 w C Q x k2))) ∨
  ((x.kind = 5 ∨ x.kind = 6) ∧ d = .nilFunc ∧ gs = [] ∧ ∃ pb, p = pV pb ∧ Q pb ∧ Blk w pb 255 #[pV P, .int .i64 x.at', .bool (x.kind == 6)])
theorem OpAt.keep {w w1 : World} {C P : Nat} {Q Q' F : Nat → Prop} {x : Itm} {d p : Value} {gs : List Nat} (h : OpAt w C P Q x d p gs) (hk : Keep F w w1) (hd : ∀ b, Q b → ¬ F b) (hq : ∀ b, b < w.heap.size → Q b → Q' b) : OpAt w1 C P Q' x d p gs := by
  rcases h with ⟨⟨b, G, caps, e1, e2, h1, h2, h3⟩, h4⟩ | ⟨e1, e2, e3, pb, e4, h1, h2⟩
  · refine .inl ⟨⟨b, G, caps, e1, e2, hq _ h2.lt h1, h2.keep hk (hd _ h1), h3.keep hk hd hq⟩, ?_⟩
    rcases h4 with h4 | ⟨h4, k3, k2, e3, l3, l2⟩
    · exact .inl h4
    · exact .inr ⟨h4, k3, k2, e3, l3.keep hk hd hq, l2.keep hk hd hq⟩
  · exact .inr ⟨e1, e2, e3, pb, e4, hq _ h2.lt h1, h2.keep hk (hd _ h1)⟩
theorem OpAt.kind {w : World} {C P : Nat} {Q : Nat → Prop} {x : Itm} {d p : Value} {gs : List Nat} (h : OpAt w C P Q x d p gs) : x.kind < 7 := by
  rcases h with ⟨⟨b, G, caps, e1, e2, h1, h2, bc, bi, _, _, _, _, h3⟩, h4⟩ | ⟨e1, e2, e3, pb, e4, h1, h2⟩
  · rcases h3 with ⟨h3, _⟩ | ⟨h3, _⟩ | ⟨h3, _⟩ | ⟨h3, _⟩ <;> omega
  · omega
/-- continuations, one behind the other -/
def Conts (K : Nat → List Itm → Prop) : List Nat → List Itm → Prop
  | [], r => r = []
  | f :: fs, r => ∃ s r2, K f s ∧ Conts K fs r2 ∧ r = s ++ r2
theorem Conts.mono {K K' : Nat → List Itm → Prop} (h : ∀ f s, K f s → K' f s) : ∀ (fs : List Nat) (r : List Itm), Conts K fs r → Conts K' fs r
  | [], r, e => e
  | f :: fs, r, ⟨s, r2, h1, h2, e⟩ => ⟨s, r2, h f s h1, Conts.mono h fs r2 h2, e⟩
theorem Conts.append {K : Nat → List Itm → Prop} : ∀ (fs gs : List Nat) (r s : List Itm), Conts K fs r → Conts K gs s → Conts K (fs ++ gs) (r ++ s)
  | [], gs, r, s, e, h => by simp only [Conts] at e; subst e; simpa using h
  | f :: fs, gs, r, s, ⟨s1, r2, h1, h2, e⟩, h => ⟨s1, r2 ++ s, h1, Conts.append fs gs r2 s h2 h, by rw [e, List.append_assoc]⟩
def Shape (K : Nat → List Itm → Prop) (w : World) (C P : Nat) (Q : Nat → Prop) (d p rest : Value) (val : Int) (r : List Itm) (v : Int) : Prop :=
  match r with
  | [] => d = .nilFunc ∧ p = .pointer none ∧ rest = .pointer none ∧ val = v
  | x :: r' => val = 0 ∧ ∃ gs fs, TreeO w Q rest (gs ++ fs) ∧ OpAt w C P Q x d p gs ∧ Conts K fs r'
/-- the task at block t: what is left of it, and its value when nothing is -/
def TaskIn (K : Nat → List Itm → Prop) (w : World) (C P : Nat) (Q : Nat → Prop) (t : Nat) (r : List Itm) (v : Int) : Prop :=
  ∃ d p rest val, Blk w t 134 #[d, p, rest, .int .i64 val] ∧ Shape K w C P Q d p rest val r v
theorem Shape.keep {K K' : Nat → List Itm → Prop} {w w1 : World} {C P : Nat} {Q Q' F : Nat → Prop} {d p rest : Value} {val : Int} {r : List Itm} {v : Int} (h : Shape K w C P Q d p rest val r v) (hK : ∀ f s, K f s → K' f s) (hk : Keep F w w1) (hd : ∀ b, Q b → ¬ F b) (hq : ∀ b, b < w.heap.size → Q b → Q' b) : Shape K' w1 C P Q' d p rest val r v := by
  cases r with
  | nil => exact h
  | cons x r =>
    obtain ⟨e, gs, fs, h1, h2, h3⟩ := h
    refine ⟨e, gs, fs, ?_, h2.keep hk hd hq, Conts.mono hK _ _ h3⟩
    exact ((h1.mono (Q' := fun b => Q b ∧ Q' b) fun b hb h => ⟨h, hq b hb h⟩).keep hk fun b h => hd b h.1).mono fun b _ h => h.2
theorem TaskIn.keep {K K' : Nat → List Itm → Prop} {w w1 : World} {C P : Nat} {Q Q' F : Nat → Prop} {t : Nat} {r : List Itm} {v : Int} (h : TaskIn K w C P Q t r v) (hK : ∀ f s, K f s → K' f s) (hk : Keep F w w1) (hd : ∀ b, Q b → ¬ F b) (ht : ¬ F t) (hq : ∀ b, b < w.heap.size → Q b → Q' b) : TaskIn K' w1 C P Q' t r v := by
  obtain ⟨d, p, rest, val, h1, h2⟩ := h
  exact ⟨d, p, rest, val, h1.keep hk ht, h2.keep hK hk hd hq⟩
theorem TaskIn.fresh {K : Nat → List Itm → Prop} {w : World} {C P : Nat} {Q : Nat → Prop} {t : Nat} {r : List Itm} {v : Int} (h : TaskIn K w C P Q t r v) : Fresh r := by
  obtain ⟨d, p, rest, val, h1, h2⟩ := h
  cases r with
  | nil => simp [Fresh]
  | cons x r =>
    obtain ⟨_, gs, fs, _, h3, _⟩ := h2
    have := h3.kind
    simp [Fresh]; omega
theorem TaskIn.value {K : Nat → List Itm → Prop} {w : World} {C P : Nat} {Q : Nat → Prop} {t : Nat} {r : List Itm} {v : Int} (h : TaskIn K w C P Q t r v) (u : Int) (hu : r = [] → u = v) : TaskIn K w C P Q t r u := by
  obtain ⟨d, p, rest, val, h1, h2⟩ := h
  cases r with
  | nil => obtain ⟨a, b, c, e⟩ := h2; exact ⟨d, p, rest, val, h1, a, b, c, by rw [e, hu rfl]⟩
  | cons x r => exact ⟨d, p, rest, val, h1, h2⟩
/-- a task in a list of tasks, or none -/
def Elem (K : Nat → List Itm → Prop) (w : World) (C P : Nat) (Q : Nat → Prop) (u : Option Addr) (s : List Itm) : Prop :=
  (u = none ∧ Equiv6 s [] 0) ∨ ∃ t r v, u = some ⟨t, 0, none⟩ ∧ Q t ∧ TaskIn K w C P Q t r v ∧ Equiv6 s r v
theorem Elem.keep {K K' : Nat → List Itm → Prop} {w w1 : World} {C P : Nat} {Q Q' F : Nat → Prop} {u : Option Addr} {s : List Itm} (h : Elem K w C P Q u s) (hK : ∀ f s, K f s → K' f s) (hk : Keep F w w1) (hd : ∀ b, Q b → ¬ F b) (hq : ∀ b, b < w.heap.size → Q b → Q' b) : Elem K' w1 C P Q' u s := by
  rcases h with h | ⟨t, r, v, e, h1, h2, h3⟩
  · exact .inl h
  · have hlt : t < w.heap.size := by obtain ⟨_, _, _, _, hb, _⟩ := h2; exact hb.lt
    exact .inr ⟨t, r, v, e, hq t hlt h1, h2.keep hK hk hd (hd t h1) hq, h3⟩
theorem Elem.ne {K : Nat → List Itm → Prop} {w : World} {C P : Nat} {Q : Nat → Prop} {u : Option Addr} {s : List Itm} (h : Elem K w C P Q u s) : s ≠ [] := by
  rcases h with ⟨_, h⟩ | ⟨t, r, v, e, h1, h2, h3⟩
  · exact h.ne
  · exact h3.ne
/-- a row of tasks, from place o of block B -/
def RowAt (K : Nat → List Itm → Prop) (w : World) (C P : Nat) (Q : Nat → Prop) (B o : Nat) (L : List (Option Addr × List Itm)) : Prop :=
  ∀ i x, L[i]? = some x → w.cell? ⟨B, o + i, none⟩ = some (.pointer x.1) ∧ Elem K w C P Q x.1 x.2
theorem cell_keep6 {w w1 : World} {F : Nat → Prop} {p : Addr} {v : Value} (h : w.cell? p = some v) (hk : Keep F w w1) (hn : ¬ F p.block) : w1.cell? p = some v := by
  have hb : p.block < w.heap.size := by
    unfold World.cell? at h
    cases hb : w.heap[p.block]? with
    | none => rw [hb] at h; cases h
    | some y => exact (Array.getElem?_eq_some_iff.1 hb).1
  unfold World.cell? at h ⊢
  rw [hk.block p.block hb hn]
  exact h
theorem RowAt.keep {K K' : Nat → List Itm → Prop} {w w1 : World} {C P : Nat} {Q Q' F : Nat → Prop} {B o : Nat} {L : List (Option Addr × List Itm)} (h : RowAt K w C P Q B o L) (hK : ∀ f s, K f s → K' f s) (hk : Keep F w w1) (hd : ∀ b, Q b → ¬ F b) (hB : ¬ F B) (hq : ∀ b, b < w.heap.size → Q b → Q' b) : RowAt K' w1 C P Q' B o L :=
  fun i x hx => ⟨cell_keep6 (h i x hx).1 hk hB, (h i x hx).2.keep hK hk hd hq⟩
def flat (L : List (Option Addr × List Itm)) : List Itm := (L.map (·.2)).flatten
/-- one continuation, over what deeper ones are -/
def ContStep (K : Nat → List Itm → Prop) (w : World) (C P : Nat) (Q : Nat → Prop) (f : Nat) (s : List Itm) : Prop :=
  Q f ∧ ∃ bl B o cap L, Blk w f 157 #[cloV 252 #[pV bl]] ∧ Q bl ∧ Blk w bl 250 #[.slice (some ⟨B, o, none⟩) (L.length + 1) cap] ∧ (L ≠ [] → Q B) ∧ L.length < 1000 ∧ L.length + 1 ≤ cap ∧ cap ≤ maxLen ∧ RowAt K w C P Q B (o + 1) L ∧ s = flat L
theorem ContStep.keep {K K' : Nat → List Itm → Prop} {w w1 : World} {C P : Nat} {Q Q' F : Nat → Prop} {f : Nat} {s : List Itm} (h : ContStep K w C P Q f s) (hK : ∀ f s, K f s → K' f s) (hk : Keep F w w1) (hd : ∀ b, Q b → ¬ F b) (hq : ∀ b, b < w.heap.size → Q b → Q' b) : ContStep K' w1 C P Q' f s := by
  obtain ⟨h1, bl, B, o, cap, L, h2, h3, h4, h5, h6, h7, h7b, h8, h9⟩ := h
  refine ⟨hq _ h2.lt h1, bl, B, o, cap, L, h2.keep hk (hd _ h1), hq _ h4.lt h3, h4.keep hk (hd _ h3), fun hL => ?_, h6, h7, h7b, ?_, h9⟩
  · cases L with
    | nil => exact absurd rfl hL
    | cons x L =>
      have hc := (h8 0 x rfl).1
      have hb : B < w.heap.size := by
        unfold World.cell? at hc
        cases hb : w.heap[B]? with
        | none => simp [hb] at hc
        | some y => exact (Array.getElem?_eq_some_iff.1 hb).1
      exact hq B hb (h5 hL)
  · cases L with
    | nil => intro i x hx; simp at hx
    | cons x L => exact h8.keep hK hk hd (hd _ (h5 (by simp))) hq
/-- a continuation: the least there is -/
def Cont (w : World) (C P : Nat) (Q : Nat → Prop) (f : Nat) (s : List Itm) : Prop :=
  ∀ K : Nat → List Itm → Prop, (∀ f s, ContStep K w C P Q f s → K f s) → K f s
theorem Cont.fold {w : World} {C P : Nat} {Q : Nat → Prop} {f : Nat} {s : List Itm} (h : ContStep (Cont w C P Q) w C P Q f s) : Cont w C P Q f s :=
  fun K hK => hK f s (h.keep (F := fun _ => False) (fun f s h => h K hK) (Keep.refl _ _) (fun _ _ h => h) (fun _ _ h => h))
theorem Cont.unfold {w : World} {C P : Nat} {Q : Nat → Prop} {f : Nat} {s : List Itm} (h : Cont w C P Q f s) : ContStep (Cont w C P Q) w C P Q f s :=
  h _ fun f s hs => hs.keep (F := fun _ => False) (fun f s h => Cont.fold h) (Keep.refl _ _) (fun _ _ h => h) (fun _ _ h => h)
theorem Cont.keep {w w1 : World} {C P : Nat} {Q Q' F : Nat → Prop} {f : Nat} {s : List Itm} (h : Cont w C P Q f s) (hk : Keep F w w1) (hd : ∀ b, Q b → ¬ F b) (hq : ∀ b, b < w.heap.size → Q b → Q' b) : Cont w1 C P Q' f s :=
  h _ fun f s hs => Cont.fold (hs.keep (fun _ _ h => h) hk hd hq)
/-- a task with all that is behind it -/
def TaskC (w : World) (C P : Nat) (Q : Nat → Prop) (t : Nat) (r : List Itm) (v : Int) : Prop := TaskIn (Cont w C P Q) w C P Q t r v
theorem TaskC.keep {w w1 : World} {C P : Nat} {Q Q' F : Nat → Prop} {t : Nat} {r : List Itm} {v : Int} (h : TaskC w C P Q t r v) (hk : Keep F w w1) (hd : ∀ b, Q b → ¬ F b) (ht : ¬ F t) (hq : ∀ b, b < w.heap.size → Q b → Q' b) : TaskC w1 C P Q' t r v :=
  TaskIn.keep h (fun _ _ h => h.keep hk hd hq) hk hd ht hq
theorem TaskC.lt {w : World} {C P : Nat} {Q : Nat → Prop} {t : Nat} {r : List Itm} {v : Int} (h : TaskC w C P Q t r v) : t < w.heap.size := by
  obtain ⟨_, _, _, _, hb, _⟩ := h
  exact hb.lt
/-- done, or in need of a step -/
theorem TaskC.view {w : World} {C P : Nat} {Q : Nat → Prop} {t : Nat} {r : List Itm} {v : Int} (h : TaskC w C P Q t r v) :
    (r = [] ∧ DoneV w (some ⟨t, 0, none⟩) v) ∨ ∃ x r' d p rest gs fs, r = x :: r' ∧ Live w t d p rest ∧ TreeO w Q rest (gs ++ fs) ∧ OpAt w C P Q x d p gs ∧ Conts (Cont w C P Q) fs r' := by
  obtain ⟨d, p, rest, val, h1, h2⟩ := h
  cases r with
  | nil => obtain ⟨rfl, rfl, rfl, rfl⟩ := h2; exact .inl ⟨rfl, .inr ⟨t, rfl, h1⟩⟩
  | cons x r =>
    obtain ⟨rfl, gs, fs, h3, h4, h5⟩ := h2
    refine .inr ⟨x, r, d, p, rest, gs, fs, rfl, ⟨h1, ?_⟩, h3, h4, h5⟩
    rcases h4 with ⟨⟨b, G, caps, e1, e2, _⟩, _⟩ | ⟨_, e2, _, pb, e4, _⟩
    · exact .inl ⟨_, _, e1, e2⟩
    · exact .inr ⟨pb, e2, e4⟩
end Go.Proofs.YtmknnjjmmfbppaaGreat
/- Package task: operations on cells, done. -/
namespace Go.Proofs.YtmknnjjmmfbppaaGreat
open Go.ChangeShapes Go.WideShapes Go.ChangeAt Go.RowKit
set_option linter.unusedVariables false
set_option maxRecDepth 100000
set_option linter.unusedSimpArgs false
/-- what an operation leaves -/
def DoneOp (C S : Nat) (m : List Int) (n : Int) (x : Itm) (w : World) (v : Int) (w' : World) : Prop :=
  v = (operS m x).2.1 ∧ CellsAt w' C S (operS m x).1 (n + countS m x) ∧ Keep (ofCells C S) w w'
theorem clo_load (C S : Nat) (Q : Nat → Prop) (m : List Int) (n : Int) (x : Itm) (bc bi : Nat) (w : World) (hk : x.kind = 0) (hc : Blk w bc 36 #[cellsV C]) (hi : Blk w bi 3 #[.int .i64 x.at'])
    (hC : CellsAt w C S m n) (h0 : 0 ≤ n) (h1 : n < 9223372036854775807) :
    Calls Tryz.prog 282 #[pV bc, pV bi] w fun e w' => ∃ v, e = .returned (.int .i64 v) ∧ DoneOp C S m n x w v w' := by
  have c0 : w.cell? ⟨bc, 0, none⟩ = some (cellsV C) := hc.cell 0 _ rfl
  have c1 : w.cell? ⟨bi, 0, none⟩ = some (.int .i64 x.at') := hi.cell 0 _ rfl
  cases hx : m[x.at']? with
  | some c =>
    have HL := Lib.hid (load_yes C S m n x.at' c w hC hx h0 h1)
    have HX := Lib.hid hx
    have hlt : x.at' < m.length := (List.getElem?_eq_some_iff.1 hx).1
    have HE := Lib.hid hlt
    clear hC hx h1 hlt hc hi
    go_enter Tryz.func282, Tryz.ntmps282
    go_wp2_with (go_at_call 283; refine HL.out.mono ?_; rintro e w2 ⟨rfl, hC2, hk2⟩)
    go_ret
    refine ⟨_, rfl, ?_, ?_, hk2⟩
    · simp [operS, HX.out, hk, wrap64]
    · have := HE.out
      simpa [operS, HX.out, hk, countS, this] using hC2
  | none =>
    have hge : m.length ≤ x.at' := List.getElem?_eq_none_iff.1 hx
    have HL := Lib.hid (load_no C S m n x.at' w hC (.inr (by omega)))
    have HX := Lib.hid hx
    have HC := Lib.hid hC
    have HE := Lib.hid hge
    clear hC hx h1 hge hc hi
    go_enter Tryz.func282, Tryz.ntmps282
    go_wp2_with (go_at_call 283; refine HL.out.mono ?_; rintro e w2 ⟨rfl, hk2⟩)
    go_ret
    have hge := HE.out
    refine ⟨_, rfl, ?_, ?_, Keep.ofBelow hk2⟩
    · simp [operS, HX.out, hk, wrap64]
    · have h3 := HC.out.keep (Keep.ofBelow (Q := fun _ => False) hk2) (fun h => h) (fun h => h)
      have e1 : (operS m x).1 = m := by simp [operS, HX.out]
      have e2 : countS m x = 0 := by simp [countS]; omega
      rw [e1, e2]; simpa using h3
theorem clo_store (C S : Nat) (Q : Nat → Prop) (m : List Int) (n : Int) (x : Itm) (bc bi bv : Nat) (w : World) (hk : x.kind = 1) (hc : Blk w bc 36 #[cellsV C]) (hi : Blk w bi 3 #[.int .i64 x.at']) (hv : Blk w bv 55 #[.int .u64 x.a])
    (hC : CellsAt w C S m n) (h0 : 0 ≤ n) (h1 : n < 9223372036854775807) :
    Calls Tryz.prog 253 #[pV bc, pV bi, pV bv] w fun e w' => ∃ v, e = .returned (.int .i64 v) ∧ DoneOp C S m n x w v w' := by
  have c0 : w.cell? ⟨bc, 0, none⟩ = some (cellsV C) := hc.cell 0 _ rfl
  have c1 : w.cell? ⟨bi, 0, none⟩ = some (.int .i64 x.at') := hi.cell 0 _ rfl
  have c2 : w.cell? ⟨bv, 0, none⟩ = some (.int .u64 x.a) := hv.cell 0 _ rfl
  cases hx : m[x.at']? with
  | some c =>
    have HL := Lib.hid (store_yes C S m n x.at' c x.a w hC hx h0 h1)
    have HX := Lib.hid hx
    have HE := Lib.hid (List.getElem?_eq_some_iff.1 hx).1
    clear hC hx h1 hc hi hv
    go_enter Tryz.func253, Tryz.ntmps253
    go_wp2_with (first | (go_at_call 40; refine HL.out.mono ?_; rintro e w2 ⟨rfl, hC2, hk2⟩) | (go_at_call 254; refine (truth_any _ _).mono ?_; rintro e w3 ⟨rfl, rfl⟩))
    go_ret
    refine ⟨_, rfl, ?_, ?_, hk2⟩
    · simp [operS, HX.out, hk]
    · have := HE.out
      simpa [operS, HX.out, hk, countS, this] using hC2
  | none =>
    have hge : m.length ≤ x.at' := List.getElem?_eq_none_iff.1 hx
    have HL := Lib.hid (store_no C S m n x.at' x.a w hC (.inr (by omega)))
    have HX := Lib.hid hx
    have HC := Lib.hid hC
    have HE := Lib.hid hge
    clear hC hx h1 hge hc hi hv
    go_enter Tryz.func253, Tryz.ntmps253
    go_wp2_with (first | (go_at_call 40; refine HL.out.mono ?_; rintro e w2 ⟨rfl, hk2⟩) | (go_at_call 254; refine (truth_any _ _).mono ?_; rintro e w3 ⟨rfl, rfl⟩))
    go_ret
    have hge := HE.out
    refine ⟨_, rfl, ?_, ?_, Keep.ofBelow hk2⟩
    · simp [operS, HX.out, hk]
    · have h3 := HC.out.keep (Keep.ofBelow (Q := fun _ => False) hk2) (fun h => h) (fun h => h)
      have e1 : (operS m x).1 = m := by simp [operS, HX.out]
      have e2 : countS m x = 0 := by simp [countS]; omega
      rw [e1, e2]; simpa using h3
theorem clo_swap (C S : Nat) (Q : Nat → Prop) (m : List Int) (n : Int) (x : Itm) (bc bi bo bn : Nat) (w : World) (hk : x.kind = 2 ∨ x.kind = 4) (hc : Blk w bc 36 #[cellsV C]) (hi : Blk w bi 3 #[.int .i64 x.at']) (hv : Blk w bo 55 #[.int .u64 x.a]) (hv2 : Blk w bn 55 #[.int .u64 x.b])
    (hC : CellsAt w C S m n) (h0 : 0 ≤ n) (h1 : n < 9223372036854775807) :
    Calls Tryz.prog 286 #[pV bc, pV bi, pV bo, pV bn] w fun e w' => ∃ v, e = .returned (.int .i64 v) ∧ DoneOp C S m n x w v w' := by
  have c0 : w.cell? ⟨bc, 0, none⟩ = some (cellsV C) := hc.cell 0 _ rfl
  have c1 : w.cell? ⟨bi, 0, none⟩ = some (.int .i64 x.at') := hi.cell 0 _ rfl
  have c2 : w.cell? ⟨bo, 0, none⟩ = some (.int .u64 x.a) := hv.cell 0 _ rfl
  have c3 : w.cell? ⟨bn, 0, none⟩ = some (.int .u64 x.b) := hv2.cell 0 _ rfl
  have HK := Lib.hid hk
  have e13 : x.kind ≠ 1 ∧ x.kind ≠ 3 := by omega
  cases hx : m[x.at']? with
  | some c =>
    have HX := Lib.hid hx
    have HE := Lib.hid (List.getElem?_eq_some_iff.1 hx).1
    by_cases hca : c = x.a
    · have HL := Lib.hid (swap_yes C S m n x.at' x.a x.b w hC (by rw [hx, hca]) h0 h1)
      have HA := Lib.hid hca
      have HN := Lib.hid e13
      clear hC hx h1 hc hi hv hv2 hca hk e13
      go_enter Tryz.func286, Tryz.ntmps286
      go_wp2_with (first | (go_at_call 287; refine HL.out.mono ?_; rintro e w2 ⟨rfl, hC2, hk2⟩) | (go_at_call 254; refine (truth_any _ _).mono ?_; rintro e w3 ⟨rfl, rfl⟩))
      go_ret
      refine ⟨_, rfl, ?_, ?_, hk2⟩
      · simp [operS, HX.out, HK.out, HN.out, HA.out]
      · rw [show (operS m x).1 = m.set x.at' x.b by simp [operS, HX.out, HK.out, HN.out, HA.out], show countS m x = 1 by simp [countS, HE.out]]; exact hC2
    · have HL := Lib.hid (swap_other C S m n x.at' c x.a x.b w hC hx hca h0 h1)
      have HA := Lib.hid hca
      have HN := Lib.hid e13
      clear hC hx h1 hc hi hv hv2 hca hk e13
      go_enter Tryz.func286, Tryz.ntmps286
      go_wp2_with (first | (go_at_call 287; refine HL.out.mono ?_; rintro e w2 ⟨rfl, hC2, hk2⟩) | (go_at_call 254; refine (truth_any _ _).mono ?_; rintro e w3 ⟨rfl, rfl⟩))
      go_ret
      refine ⟨_, rfl, ?_, ?_, hk2⟩
      · simp [operS, HX.out, HK.out, HN.out, HA.out]
      · rw [show (operS m x).1 = m by simp [operS, HX.out, HK.out, HN.out, HA.out], show countS m x = 1 by simp [countS, HE.out]]; exact hC2
  | none =>
    have hge : m.length ≤ x.at' := List.getElem?_eq_none_iff.1 hx
    have HL := Lib.hid (swap_no C S m n x.at' x.a x.b w hC (.inr (by omega)))
    have HX := Lib.hid hx
    have HC := Lib.hid hC
    have HE := Lib.hid hge
    clear hC hx h1 hge hc hi hv hv2 hk e13
    go_enter Tryz.func286, Tryz.ntmps286
    go_wp2_with (first | (go_at_call 287; refine HL.out.mono ?_; rintro e w2 ⟨rfl, hk2⟩) | (go_at_call 254; refine (truth_any _ _).mono ?_; rintro e w3 ⟨rfl, rfl⟩))
    go_ret
    have hge := HE.out
    refine ⟨_, rfl, ?_, ?_, Keep.ofBelow hk2⟩
    · simp [operS, HX.out]
    · have h3 := HC.out.keep (Keep.ofBelow (Q := fun _ => False) hk2) (fun h => h) (fun h => h)
      have e1 : (operS m x).1 = m := by simp [operS, HX.out]
      have e2 : countS m x = 0 := by simp [countS]; omega
      rw [e1, e2]; simpa using h3
theorem call_load1 : ∀ (W : World) (args : Array Value), (callFunc 282 args).run Tryz.prog W = .ok (.enter 282 args) W := by
  intro W args
  go_simp
theorem call_store1 : ∀ (W : World) (args : Array Value), (callFunc 253 args).run Tryz.prog W = .ok (.enter 253 args) W := by
  intro W args
  go_simp
theorem call_swap1 : ∀ (W : World) (args : Array Value), (callFunc 286 args).run Tryz.prog W = .ok (.enter 286 args) W := by
  intro W args
  go_simp
/-- what a task's 'do' does -/
theorem do6_any (C S : Nat) (Q : Nat → Prop) (m : List Int) (n : Int) (x : Itm) (b F : Nat) (caps : Array Value) (w : World) (hb : Blk w b 52 #[cloV F caps]) (hx : CloAt w C Q x F caps)
    (hC : CellsAt w C S m n) (h0 : 0 ≤ n) (h1 : n < 9223372036854775807) :
    Calls Tryz.prog 280 #[pV b] w fun e w' => ∃ v, e = .returned (.int .i64 v) ∧ DoneOp C S m n x w v w' := by
  have c0 : w.cell? ⟨b, 0, none⟩ = some (cloV F caps) := hb.cell 0 _ rfl
  have HH : Hid (Calls Tryz.prog 281 #[cloV F caps] w fun e w' => ∃ v, e = .returned (.int .i64 v) ∧ DoneOp C S m n x w v w') := by
    refine Lib.hid ?_
    obtain ⟨bc, bi, _, _, hc, hi, ⟨hk, rfl, rfl⟩ | ⟨hk, rfl, bv, rfl, _, hv⟩ | ⟨hk, rfl, bo, bn, rfl, _, _, hv, hv2⟩ | ⟨hk, hno, bv, rfl, _, hv⟩⟩ := hx
    · exact answerI_any _ _ w (DoneOp C S m n x w) call_load1 (clo_load C S Q m n x bc bi w hk hc hi hC h0 h1)
    · exact answerI_any _ _ w (DoneOp C S m n x w) call_store1 (clo_store C S Q m n x bc bi bv w hk hc hi hv hC h0 h1)
    · exact answerI_any _ _ w (DoneOp C S m n x w) call_swap1 (clo_swap C S Q m n x bc bi bo bn w hk hc hi hv hv2 hC h0 h1)
    · exact hno.elim
  clear hx hC h1 hb
  go_enter Tryz.func280, Tryz.ntmps280
  go_wp2_with (go_at_call 281; refine HH.out.mono ?_; rintro e w2 ⟨v, rfl, hp⟩)
  go_ret
  exact ⟨v, rfl, hp⟩
end Go.Proofs.YtmknnjjmmfbppaaGreat
