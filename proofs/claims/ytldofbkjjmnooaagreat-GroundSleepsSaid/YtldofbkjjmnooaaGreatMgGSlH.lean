/- Package task: a task that belongs to a caller: its steps. -/
import Derived.Test.YtldofbkjjmnooaaGreatMgGSlG
import Derived.Test.YtldofbkjjmnooaaGreatMgGSlC
namespace Go.Proofs.YtldofbkjjmnooaaGreat
open Go.ChangeShapes Go.WideShapes Go.ChangeAt Go.RowKit
set_option linter.unusedVariables false
set_option maxRecDepth 100000
set_option linter.unusedSimpArgs false
/-- a task at block t, of the blocks of which Q is said; what is left of it; its value when nothing is -/
def TaskG (w : World) (C P : Nat) (t : Nat) (Q : Nat → Prop) (r : List Itm) (v : Int) : Prop :=
  ∃ Q1 : Nat → Prop, TaskC w C P Q1 t r v ∧ ¬ Q1 t ∧ (∀ b, Q1 b ∨ b = t → Q b) ∧ ∀ b, Q b → b < w.heap.size
theorem TaskG.keep {w w1 : World} {C P t : Nat} {Q : Nat → Prop} {r : List Itm} {v : Int} {F : Nat → Prop} (h : TaskG w C P t Q r v) (hk : Keep F w w1) (hn : ∀ b, Q b → ¬ F b) : TaskG w1 C P t Q r v := by
  obtain ⟨Q1, h1, h2, h3, h4⟩ := h
  exact ⟨Q1, h1.keep hk (fun b hb => hn b (h3 b (.inl hb))) (hn t (h3 t (.inr rfl))) (fun _ _ h => h), h2, h3, fun b hb => Nat.lt_of_lt_of_le (h4 b hb) hk.size⟩
theorem TaskG.lt {w : World} {C P t : Nat} {Q : Nat → Prop} {r : List Itm} {v : Int} (h : TaskG w C P t Q r v) : ∀ b, Q b → b < w.heap.size := by
  obtain ⟨Q1, h1, h2, h3, h4⟩ := h
  exact h4
theorem TaskG.own {w : World} {C P t : Nat} {Q : Nat → Prop} {r : List Itm} {v : Int} (h : TaskG w C P t Q r v) : Q t := by
  obtain ⟨Q1, h1, h2, h3, h4⟩ := h
  exact h3 t (.inr rfl)
theorem TaskG.fresh {w : World} {C P t : Nat} {Q : Nat → Prop} {r : List Itm} {v : Int} (h : TaskG w C P t Q r v) : Fresh r := by
  obtain ⟨Q1, h1, h2, h3, h4⟩ := h
  exact TaskIn.fresh h1
/-- of a new one -/
theorem Made6.taskG {w w' : World} {C P t : Nat} {Q : Nat → Prop} {r : List Itm} {v : Int} (h : Made6 w C P Q r v t w') (hq : Q t) : TaskG w' C P t (fun b => Q b ∧ b < w'.heap.size) r v :=
  ⟨fun b => (Q b ∧ b ≠ t) ∧ b < w'.heap.size, TaskC.keep (F := fun _ => False) h.2.1 (Keep.refl _ _) (fun _ _ h => h) (fun h => h) (fun b hb hq => ⟨hq, hb⟩), fun h => h.1.2 rfl,
    fun b hb => by
      rcases hb with hb | rfl
      · exact ⟨hb.1.1, hb.2⟩
      · exact ⟨hq, h.2.1.lt⟩, fun b hb => hb.2⟩
/-- what was made, behind a step -/
theorem TaskG.from {w w' : World} {C P t : Nat} {Q Q1 : Nat → Prop} {r : List Itm} {v : Int} (ht : t < w.heap.size) (hw : w.heap.size ≤ w'.heap.size) (h1 : ∀ b, Q1 b ∨ b = t → Q b) (h2 : ¬ Q1 t) (h : TaskC w' C P (fun b => Q1 b ∨ w.heap.size ≤ b) t r v) :
    ∃ Q', TaskG w' C P t Q' r v ∧ ∀ b, Q' b → Q b ∨ w.heap.size ≤ b :=
  ⟨fun b => (Q b ∨ w.heap.size ≤ b) ∧ b < w'.heap.size, ⟨fun b => (Q1 b ∨ w.heap.size ≤ b) ∧ b < w'.heap.size, TaskC.keep (F := fun _ => False) h (Keep.refl _ _) (fun _ _ h => h) (fun h => h) (fun b hb hq => ⟨hq, hb⟩),
    fun hh => by rcases hh.1 with hh | hh
                 · exact h2 hh
                 · omega,
    fun b hb => by
      rcases hb with ⟨hb | hb, hlt⟩ | rfl
      · exact ⟨.inl (h1 b (.inl hb)), hlt⟩
      · exact ⟨.inr hb, hlt⟩
      · exact ⟨.inl (h1 b (.inr rfl)), by omega⟩, fun b hb => hb.2⟩, fun b hb => hb.1⟩
theorem TaskG.view {w : World} {C P t : Nat} {Q : Nat → Prop} {x : Itm} {r : List Itm} {v : Int} (h : TaskG w C P t Q (x :: r) v) :
    ∃ Q1 : Nat → Prop, ¬ Q1 t ∧ (∀ b, Q1 b ∨ b = t → Q b) ∧ t < w.heap.size ∧ ∃ d p rest gs fs, Live w t d p rest ∧ TreeO w Q1 rest (gs ++ fs) ∧ OpAt w C P Q1 x d p gs ∧ Conts (Cont w C P Q1) fs r := by
  obtain ⟨Q1, h1, h2, h3, h4⟩ := h
  refine ⟨Q1, h2, h3, h4 t (h3 t (.inr rfl)), ?_⟩
  rcases h1.view with ⟨e, _⟩ | ⟨x', r', d, p, rest, gs, fs, e, g1, g2, g3, g4⟩
  · cases e
  · obtain ⟨rfl, rfl⟩ := List.cons.inj e
    exact ⟨d, p, rest, gs, fs, g1, g2, g3, g4⟩
theorem TaskG.done {w : World} {C P t : Nat} {Q : Nat → Prop} {v : Int} (h : TaskG w C P t Q [] v) : DoneV w (some ⟨t, 0, none⟩) v := by
  obtain ⟨Q1, h1, h2, h3, h4⟩ := h
  rcases h1.view with ⟨_, h⟩ | ⟨x', r', d, p, rest, gs, fs, e, _⟩
  · exact h
  · cases e
theorem oper_spin {m : List Int} {x : Itm} (h : x.kind = 4) : ((operS m x).2.2 = true ∧ (operS m x).2.1 = 1) ∨ ((operS m x).2.2 = false ∧ (operS m x).2.1 = 0) := by
  unfold operS
  cases m[x.at']? with
  | none => right; simp [h]
  | some c =>
    by_cases hc : c = x.a
    · left; simp [h, hc]
    · right; simp [h, hc]
theorem oper_else {m : List Int} {x : Itm} (h : x.kind < 4) : (operS m x).2.2 = true := by
  unfold operS
  cases m[x.at']? with
  | none => have : x.kind ≠ 4 := by omega
            simp [this]
  | some c =>
    have : x.kind ≠ 4 := by omega
    dsimp only
    split
    · rfl
    · split
      · split
        · rfl
        · have : x.kind = 2 := by omega
          simp [this]
      · split <;> rfl
/-- a step that does an operation -/
theorem op_yes (C P S t : Nat) (Q : Nat → Prop) (x : Itm) (r : List Itm) (v : Int) (m : List Int) (n : Int) (w : World) (h : TaskG w C P t Q (x :: r) v) (hC : CellsAt w C S m n) (hk : x.kind < 5) (hQ : ∀ b, Q b → b ≠ C ∧ b ≠ S) (hn : 0 ≤ n ∧ n ≤ 2000000) :
    Calls Tryz.prog 37 #[pV t, .int .i64 0] w fun e w' => e = .returned (.bool true) ∧ (∃ Q', TaskG w' C P t Q' (if (operS m x).2.2 then onS r (operS m x).2.1 else (x :: r, v)).1 (if (operS m x).2.2 then onS r (operS m x).2.1 else (x :: r, v)).2 ∧ ∀ b, Q' b → Q b ∨ w.heap.size ≤ b) ∧
      CellsAt w' C S (operS m x).1 (n + countS m x) ∧ Keep (fun b => b = t ∨ ofCells C S b) w w' := by
  obtain ⟨Q1, q1, q2, hlt, d, p, rest, gs, fs, hL, hT, hO, hc⟩ := h.view
  have hcq : ∀ b, Q1 b → ¬ ofCells C S b := fun b hb hf => by
    have := hQ b (q2 b (.inl hb))
    rcases hf with hf | hf
    · exact this.1 hf
    · exact this.2 hf
  have htc : ¬ ofCells C S t := fun hf => by
    have := hQ t (q2 t (.inr rfl))
    rcases hf with hf | hf
    · exact this.1 hf
    · exact this.2 hf
  obtain ⟨⟨b, F, caps, rfl, rfl, b1, b2, b3⟩, hO2⟩ : (∃ b F caps, d = cloV 260 #[pV b] ∧ p = .pointer none ∧ Q1 b ∧ Blk w b _ #[cloV F caps] ∧ CloAt w C Q1 x F caps) ∧ ((x.kind ≠ 4 ∧ gs = []) ∨ (x.kind = 4 ∧ ∃ k3 k2, gs = [k3, k2] ∧ Link3 w Q1 k3 ∧ Link2 w C Q1 x k2)) := by
    rcases hO with hO | ⟨hO, _⟩
    · exact hO
    · omega
  obtain ⟨RV, hRV⟩ : ∃ RV, (if (operS m x).2.2 then onS r (operS m x).2.1 else (x :: r, v)) = RV := ⟨_, rfl⟩
  rw [hRV]
  refine step_yes t _ _ rest 0 w (fun v' w2 => v' = (operS m x).2.1 ∧ CellsAt w2 C S (operS m x).1 (n + countS m x) ∧ Keep (ofCells C S) w w2)
    (fun w' => (∃ Q', TaskG w' C P t Q' RV.1 RV.2 ∧ ∀ b, Q' b → Q b ∨ w.heap.size ≤ b) ∧ CellsAt w' C S (operS m x).1 (n + countS m x) ∧ Keep (fun b => b = t ∨ ofCells C S b) w w') hL ?_ ?_
  · refine opend_do b w _ fun W hb => ?_
    have kW : Keep (fun _ => False) w W := Keep.ofBelow hb
    refine (do6_any C S Q1 m n x b F caps W (b2.below hb b2.lt) (b3.keep kW (fun _ _ h => h) (fun _ _ h => h)) (hC.keep kW (fun h => h) (fun h => h)) hn.1 (by omega)).mono ?_
    rintro e w' ⟨v', rfl, e1, e2, e3⟩
    exact ⟨v', rfl, e1, e2, (Keep.ofBelow hb).trans e3⟩
  · rintro v' w2 w3 k ⟨rfl, hC2, hk2⟩ g1 g2 g3
    have k3 : Keep (ofCells C S) w w3 := hk2.trans (Keep.ofBelow g3)
    have s2 := hk2.size
    have hq : ∀ b, b < w.heap.size → Q1 b → (Q1 b ∨ w.heap.size ≤ b) := fun b _ h => .inl h
    have hc3 : Conts (Cont w3 C P (fun b => Q1 b ∨ w.heap.size ≤ b)) fs r := hc.keep k3 hcq hq
    have hT3 : TreeO w3 (fun b => Q1 b ∨ w.heap.size ≤ b) rest (gs ++ fs) := (hT.keep k3 hcq).mono (fun b _ h => .inl h)
    have hJ : Jot C P (fun b => Q1 b ∨ w.heap.size ≤ b) t RV.1 RV.2 w3 (some ⟨k, 0, none⟩) (gs ++ fs) := by
      rcases hO2 with ⟨h4, rfl⟩ | ⟨h4, k3', k2', rfl, l3, l2⟩
      · rw [oper_else (by omega), if_pos rfl] at hRV
        exact .inl ⟨k, [], _, r, rfl, by omega, done_task g2, hc3, fun _ => hRV, fun h => absurd rfl h⟩
      · refine .inr (.inr ⟨k, _, x, k3', k2', fs, r, rfl, by omega, rfl, g2, h4, l3.keep k3 hcq hq, l2.keep k3 hcq hq, hc3, fun hv => ?_, fun hv => ?_⟩)
        · rcases oper_spin (m := m) h4 with ⟨e1, e2⟩ | ⟨e1, e2⟩
          · rw [e2] at hv; cases hv
          · rw [e1, if_neg (by simp)] at hRV
            rw [← hRV]
        · rcases oper_spin (m := m) h4 with ⟨e1, e2⟩ | ⟨e1, e2⟩
          · rw [e1, if_pos rfl] at hRV
            exact ⟨by rw [e2]; decide, hRV⟩
          · exact absurd e2 hv
    refine (goon_task C P (fun b => Q1 b ∨ w.heap.size ≤ b) t k RV.1 RV.2 _ _ rest (gs ++ fs) w3 (hL.blk.keep k3 htc) hT3 (fun j hj => .inr (by have := k3.size; omega)) (fun hh => hh.elim q1 (fun h => by omega)) hJ).mono ?_
    rintro e w' ⟨rfl, k4, hT4⟩
    have k5 : Keep (fun b => b = t ∨ ofCells C S b) w w' := (k3.mono (fun _ _ h => .inr h)).trans (k4.mono (fun _ _ h => .inl h))
    refine ⟨rfl, TaskG.from hlt k5.size q2 q1 hT4, ?_, k5⟩
    have hC3 := hC2.keep (Keep.ofBelow (Q := fun _ => False) g3) (fun h => h) (fun h => h)
    exact hC3.keep k4 (fun e => htc (.inl e.symm)) (fun e => htc (.inr e.symm))
/-- a step that ends a parking -/
theorem park_yes (C P R t : Nat) (cs : List Nat) (ps : List Bool) (Q : Nat → Prop) (x : Itm) (r : List Itm) (v k : Int) (b : Bool) (w : World) (h : TaskG w C P t Q (x :: r) v) (hP : PermitsAt w P R cs ps) (hk : x.kind = 5 ∨ x.kind = 6) (hx : ps[x.at']? = some b) (he : endsS b (x.kind == 6) k = true) (hQ : ∀ b, Q b → b ∉ cs) :
    Calls Tryz.prog 37 #[pV t, .int .i64 k] w fun e w' => e = .returned (.bool true) ∧ (∃ Q', TaskG w' C P t Q' (onS r k).1 (onS r k).2 ∧ ∀ b, Q' b → Q b ∨ w.heap.size ≤ b) ∧
      PermitsAt w' P R cs (if k = 0 then ps.set x.at' false else ps) ∧ Keep (fun b => b = t ∨ b ∈ cs) w w' := by
  obtain ⟨Q1, q1, q2, hlt, d, p, rest, gs, fs, hL, hT, hO, hc⟩ := h.view
  have hcq : ∀ b, Q1 b → ¬ (b ∈ cs) := fun b hb => hQ b (q2 b (.inl hb))
  have htc : ¬ (t ∈ cs) := hQ t (q2 t (.inr rfl))
  obtain ⟨rfl, rfl, pb, rfl, p1, p2⟩ : d = .nilFunc ∧ gs = [] ∧ ∃ pb, p = pV pb ∧ Q1 pb ∧ Blk w pb _ #[pV P, .int .i64 x.at', .bool (x.kind == 6)] := by
    rcases hO with ⟨⟨b, F, caps, _, _, _, _, bc, bi, _, _, _, _, hO⟩, _⟩ | hO
    · rcases hO with ⟨h, _⟩ | ⟨h, _⟩ | ⟨h, _⟩ | ⟨h, _⟩ <;> omega
    · exact ⟨hO.2.1, hO.2.2.1, hO.2.2.2⟩
  refine step_yes t _ _ rest k w (fun v' w2 => v' = k ∧ PermitsAt w2 P R cs (if k = 0 then ps.set x.at' false else ps) ∧ Keep (fun b => b ∈ cs) w w2)
    (fun w' => (∃ Q', TaskG w' C P t Q' (onS r k).1 (onS r k).2 ∧ ∀ b, Q' b → Q b ∨ w.heap.size ≤ b) ∧ PermitsAt w' P R cs (if k = 0 then ps.set x.at' false else ps) ∧ Keep (fun b => b = t ∨ b ∈ cs) w w') hL ?_ ?_
  · refine (opend_park pb k k true w (fun w2 => PermitsAt w2 P R cs (if k = 0 then ps.set x.at' false else ps) ∧ Keep (fun b => b ∈ cs) w w2) fun W hb => ?_).mono ?_
    · have kW : Keep (fun _ => False) w W := Keep.ofBelow hb
      have hPW := hP.keep kW (fun h => h) (fun h => h) (fun _ _ h => h)
      by_cases h0 : k = 0
      · subst h0
        obtain rfl : b = true := by simpa [endsS] using he
        refine (pend_take P R cs ps pb x.at' _ W (p2.below hb p2.lt) hPW hx).mono ?_
        rintro e w' ⟨rfl, g1, g2⟩
        exact ⟨rfl, by simpa using g1, (Keep.ofBelow hb).trans g2⟩
      · refine (pend_kind P R cs ps pb x.at' _ b k W (p2.below hb p2.lt) hPW hx he h0).mono ?_
        rintro e w' ⟨rfl, g1⟩
        exact ⟨rfl, by rw [if_neg h0]; exact hPW.keep g1 (fun h => h) (fun h => h) (fun _ _ h => h), (Keep.ofBelow hb).trans (g1.mono (fun _ _ h => h.elim))⟩
    · rintro e w' ⟨rfl, g1, g2⟩
      exact ⟨k, rfl, rfl, g1, g2⟩
  · rintro v' w2 w3 n ⟨rfl, hP2, hk2⟩ g1 g2 g3
    have k3 : Keep (fun b => b ∈ cs) w w3 := hk2.trans (Keep.ofBelow g3)
    have s2 := hk2.size
    have hq : ∀ b, b < w.heap.size → Q1 b → (Q1 b ∨ w.heap.size ≤ b) := fun b _ h => .inl h
    have hc3 : Conts (Cont w3 C P (fun b => Q1 b ∨ w.heap.size ≤ b)) fs r := hc.keep k3 hcq hq
    have hT3 : TreeO w3 (fun b => Q1 b ∨ w.heap.size ≤ b) rest ([] ++ fs) := (hT.keep k3 hcq).mono (fun b _ h => .inl h)
    have hJ : Jot C P (fun b => Q1 b ∨ w.heap.size ≤ b) t (onS r v').1 (onS r v').2 w3 (some ⟨n, 0, none⟩) ([] ++ fs) :=
      .inl ⟨n, [], _, r, rfl, by omega, done_task g2, hc3, fun _ => rfl, fun h => absurd rfl h⟩
    refine (goon_task C P (fun b => Q1 b ∨ w.heap.size ≤ b) t n (onS r v').1 (onS r v').2 _ _ rest ([] ++ fs) w3 (hL.blk.keep k3 htc) hT3 (fun j hj => .inr (by have := k3.size; omega)) (fun hh => hh.elim q1 (fun h => by omega)) hJ).mono ?_
    rintro e w' ⟨rfl, k4, hT4⟩
    have k5 : Keep (fun b => b = t ∨ b ∈ cs) w w' := (k3.mono (fun _ _ h => .inr h)).trans (k4.mono (fun _ _ h => .inl h))
    refine ⟨rfl, TaskG.from hlt k5.size q2 q1 hT4, ?_, k5⟩
    have hP3 := hP2.keep (Keep.ofBelow (Q := fun _ => False) g3) (fun h => h) (fun h => h) (fun _ _ h => h)
    exact hP3.keep k4 (hP.own.apart hL.blk (by decide)) (hP.row.apart hL.blk (by decide)) (fun c hc e => htc (e ▸ hc))
end Go.Proofs.YtldofbkjjmnooaaGreat
/- Package task: goOn, Then and Step of tasks by what they may yet do. -/
namespace Go.Proofs.YtldofbkjjmnooaaGreat
open Go.ChangeShapes Go.WideShapes Go.ChangeAt Go.RowKit
set_option linter.unusedVariables false
set_option maxRecDepth 100000
set_option linter.unusedSimpArgs false
/-- what is to come of a task at hand and of what follows it -/
def JotT {A : Type} (O : Ops A) (Q : Nat → Prop) (t : Nat) (R : Tre A) (a : World) (n : Option Addr) (fs : List Nat) : Prop :=
  ∃ T, TaskF O a Q n T ∧ InQ (fun k => k ≠ t) n ∧ Behind (ContT O a Q) fs T R
theorem goon_tree {A : Type} (O : Ops A) (t : Nat) (n : Option Addr) (d0 p0 r0 : Value) (fs : List Nat) (Q : Nat → Prop) (R : Tre A) (w : World) (ht : Blk w t 161 #[d0, p0, r0, .int .i64 0]) (hr : TreeO w Q r0 fs) (hQ : ∀ k, w.heap.size ≤ k → Q k) (hQt : ¬ Q t) (hJ : JotT O Q t R w n fs) :
    Calls Tryz.prog 119 #[pV t, .pointer n] w fun e w' => e = .returned (.tuple #[]) ∧ Keep (fun k => k = t) w w' ∧ TaskF O w' Q (some ⟨t, 0, none⟩) R := by
  have hlt := ht.lt
  have hd : ∀ b, Q b → ¬ (b = t) := fun b hb e => hQt (e ▸ hb)
  refine (goon_ptr t n d0 p0 r0 0 fs Q (JotT O Q t R) w ht hr hQ hQt hJ ?_ ?_ ?_).mono ?_
  · rintro a b n fs hs ⟨T, h1, h2, h3⟩ hk
    exact ⟨T, h1.keep hk hd (fun k e => h2 k e) (fun _ _ h => h), h2, h3.keep hk hd (fun _ _ h => h)⟩
  · rintro a n fs ⟨T, h1, h2, h3⟩
    refine ⟨fun e => h2 t e rfl, ?_⟩
    rcases h1 with ⟨v, e, h⟩ | ⟨x, g, k, d, p, rest, gs, e, rfl, g1, g2, g3, g4⟩
    · exact .inl ⟨v, h⟩
    · exact .inr ⟨k, d, p, rest, gs, rfl, g1, g2⟩
  · rintro a n f fs v hs ⟨T, h1, h2, k, κ, h3, rfl, h5⟩ hv
    obtain ⟨v', rfl, hv'⟩ : ∃ v', T = retT v' ∧ DoneV a n v' := by
      rcases h1 with ⟨v', e, h⟩ | ⟨x, g, k, d, p, rest, gs, e, rfl, g1, g2, g3, g4⟩
      · exact ⟨v', e, h⟩
      · exact (hv.live g1).elim
    obtain rfl := hv.val hv'
    refine (h3.unfold.2.2 v' a (Keep.refl _ a)).mono ?_
    rintro e b ⟨n', rfl, hb, hT, hn⟩
    have hqq : ∀ j, (Q j ∧ j < a.heap.size) ∨ a.heap.size ≤ j → Q j := fun j hj => hj.elim (fun h => h.1) (fun h => hQ j (by omega))
    refine ⟨n', rfl, ⟨k v', hT.keep (fun f k h => h.keep (Keep.refl (fun _ => False) b) (fun _ _ h => h) (fun j _ h => hqq j h)) (Keep.refl (fun _ => False) b) (fun _ _ h => h) (fun _ _ h => h) (fun j _ h => hqq j h), fun j e e2 => hQt (e2 ▸ hqq j (hn j e)), ?_⟩, hb⟩
    rw [bindT_ret]
    exact (h5 v').keep (Keep.ofBelow (Q := fun _ => False) hb) (fun _ _ h => h) (fun _ _ h => h)
  · rintro e w' ⟨rfl, hk, n', fs', ⟨T, h1, h2, h3⟩, hp⟩
    refine ⟨rfl, hk, ?_⟩
    rcases hp with ⟨rfl, v, hv, hB⟩ | ⟨k1, d, p, r, g1, j, rfl, hL, hT, hT2, hB⟩
    · obtain rfl : R = T := h3
      obtain ⟨v', rfl, hv'⟩ : ∃ v', R = retT v' ∧ DoneV w' n' v' := by
        rcases h1 with ⟨v', e, h⟩ | ⟨x, g, k, d, p, rest, gs, e, rfl, g1, g2, g3, g4⟩
        · exact ⟨v', e, h⟩
        · exact (hv.live g1).elim
      obtain rfl := hv.val hv'
      exact .inl ⟨v', rfl, .inr ⟨t, rfl, hB⟩⟩
    · rcases h1 with ⟨v', e, h⟩ | ⟨x, g, k, d', p', rest, gs, rfl, e, q1, q2, q3, q4⟩
      · exact (h.live hL).elim
      · obtain rfl : k1 = k := by simpa using e
        obtain ⟨rfl, rfl, rfl⟩ := hL.unique q1
        obtain rfl := hT.unique q2
        obtain ⟨g', rfl, h5⟩ := Behind.op q4 h3
        exact .inr ⟨x, g', t, _, _, j, g1 ++ fs', rfl, rfl, ⟨hB, hL.op⟩, hT2, q3, h5⟩
/-- Then: of any task, and of a closure whose box is told of -/
theorem thenT_any {A : Type} (O : Ops A) (n : Option Addr) (F : Nat) (caps : Array Value) (T : Tre A) (k : Int → Tre A) (Q : Nat → Prop) (w : World) (hT : TaskF O w Q n T) (hn : ∀ j, n = some ⟨j, 0, none⟩ → j < w.heap.size) (hQ : ∀ k, w.heap.size ≤ k → Q k)
    (hk : ∀ w1 (Q1 : Nat → Prop) f, Below w.heap.size w w1 → Blk w1 f 89 #[cloV F caps] → w.heap.size ≤ f → Q1 f → (∀ b, b < w.heap.size → Q b → Q1 b) → ContT O w1 Q1 f k) :
    Calls Tryz.prog 137 #[.pointer n, cloV F caps] w fun e w' => ∃ t, e = .returned (pV t) ∧ w.heap.size ≤ t ∧ TaskF O w' (fun b => Q b ∧ b ≠ t) (some ⟨t, 0, none⟩) (bindT k T) ∧ Below w.heap.size w w' := by
  have hmf : ∀ (fn : Fn) (first cap : Array Value) (w : World), (Instr.makeFunc fn first cap).run Tryz.prog w = .ok (.func fn first cap) w := fun _ _ _ _ => rfl
  have HQ := Lib.hid hQ
  have HT := Lib.hid hT
  have HK := Lib.hid hk
  have HN := Lib.hid hn
  clear hQ hT hk hn
  go_enter Tryz.func137, Tryz.ntmps137
  go_upto_region 1 with fail
  generalize hW : (w.alloc _) = W
  have bW : Below w.heap.size w W := by rw [← hW]; go_grown
  have q0 : Blk W w.heap.size 89 #[cloV F caps] := by rw [← hW]; exact Blk.new w _ _
  clear hW
  go_upto_region 2 with (go_at_call 220; refine (only_any _ _ _).mono ?_; rintro e w2 ⟨lp, rfl, l1, l2, l3⟩)
  have hs2 := l3.size
  have hsW := bW.size
  generalize hW3 : (w2.alloc _) = W3
  have b3 : Below W.heap.size W W3 := by rw [← hW3]; exact l3.alloc (by omega) _
  have s3 : W3.heap.size = w2.heap.size + 1 := by rw [← hW3]; simp
  have qt : Blk W3 w2.heap.size 161 #[.nilFunc, .pointer none, pV lp, .int .i64 0] := by rw [← hW3]; exact Blk.new w2 _ _
  have ql : Blk W3 lp 305 #[.pointer none, .pointer none, cloV 221 #[pV w.heap.size]] := by rw [← hW3]; exact l2.alloc _
  have hlp := l2.lt
  clear hW3
  have bw3 : Below w.heap.size w W3 := bW.trans (b3.mono hsW)
  have qf := q0.below b3 q0.lt
  have kk : Keep (fun _ => False) w W3 := Keep.ofBelow bw3
  have hqf := q0.lt
  have T3 : TaskF O W3 (fun b => Q b ∧ b ≠ w2.heap.size) n T := HT.out.keep kk (fun _ _ h => h) (fun _ _ h => h) (fun b hb h => ⟨h, by omega⟩)
  have C3 : ContT O W3 (fun b => Q b ∧ b ≠ w2.heap.size) w.heap.size k := HK.out W3 _ _ bw3 qf (Nat.le_refl _) ⟨HQ.out _ (Nat.le_refl _), by omega⟩ (fun b hb h => ⟨h, by omega⟩)
  have HG := Lib.hid (goon_tree O w2.heap.size n .nilFunc (.pointer none) (pV lp) [w.heap.size] (fun b => Q b ∧ b ≠ w2.heap.size) (bindT k T) W3
    qt (.inr ⟨0, lp, rfl, .leaf lp _ ⟨HQ.out _ (by omega), by omega⟩ ql⟩) (fun j hj => ⟨HQ.out _ (by omega), by omega⟩) (fun h => h.2 rfl)
    ⟨T, T3, fun j e => by have := HN.out j e; omega, k, k, C3, rfl, fun v => rfl⟩)
  clear qt ql qf
  go_wp2_with (go_at_call 119; refine HG.out.mono ?_; rintro e w4 ⟨rfl, k4, hT4⟩)
  go_ret
  have b4 : Below w.heap.size w w4 := bw3.trans (k4.below bw3.size (fun i _ h => by omega))
  exact ⟨w2.heap.size, rfl, by omega, hT4, b4⟩
end Go.Proofs.YtldofbkjjmnooaaGreat
/- Package task: tasks of items are tasks by what they may yet do; a task of a caller's own, its steps. -/
namespace Go.Proofs.YtldofbkjjmnooaaGreat
open Go.ChangeShapes Go.WideShapes Go.ChangeAt Go.RowKit
set_option linter.unusedVariables false
set_option maxRecDepth 100000
set_option linter.unusedSimpArgs false
/-- operations on cells, and parkings -/
def cellOps (C P : Nat) : Ops Itm where
  is := fun w Q x d p => (∃ b F caps, d = cloV 260 #[pV b] ∧ p = .pointer none ∧ Q b ∧ Blk w b 28 #[cloV F caps] ∧ CloAt w C Q x F caps) ∨ ((x.kind = 5 ∨ x.kind = 6) ∧ d = .nilFunc ∧ ∃ pb, p = pV pb ∧ Q pb ∧ Blk w pb 265 #[pV P, .int .i64 x.at', .bool (x.kind == 6)]) ∨ (x.kind = 8 ∧ p = .pointer none ∧ ∃ F caps, d = cloV F caps)
  keep := fun {w w1 Q Q' F x d p} h hk hd hq => by
    rcases h with ⟨b, G, caps, e1, e2, h1, h2, h3⟩ | ⟨e1, e2, pb, e4, h1, h2⟩ | h
    · exact .inl ⟨b, G, caps, e1, e2, hq _ h2.lt h1, h2.keep hk (hd _ h1), h3.keep hk hd hq⟩
    · exact .inr (.inl ⟨e1, e2, pb, e4, hq _ h2.lt h1, h2.keep hk (hd _ h1)⟩)
    · exact .inr (.inr h)
  op := fun {w Q x d p} h => by
    rcases h with ⟨b, G, caps, e1, e2, h1, h2, h3⟩ | ⟨e1, e2, pb, e4, h1, h2⟩ | ⟨_, e2, G, caps, e1⟩
    · exact .inl ⟨_, _, e1, e2⟩
    · exact .inr ⟨_, e2, e4⟩
    · exact .inl ⟨_, _, e1, e2⟩
/-- continuations of tasks of items -/
def K0 (C P : Nat) (w : World) (Q : Nat → Prop) (f : Nat) (k : Int → Tre Itm) : Prop :=
  (∃ s, Cont w C P Q f s ∧ k = itmT s) ∨ (∃ x, x.kind = 4 ∧ Link2 w C Q x f ∧ k = loopK x) ∨ (Link3 w Q f ∧ k = spinK)
theorem conts_behind {C P : Nat} {w : World} {Q : Nat → Prop} : ∀ (fs : List Nat) (r : List Itm), Conts (Cont w C P Q) fs r → ∀ s u, Behind (K0 C P w Q) fs (itmT s u) (itmT (s ++ r) u)
  | [], r, e, s, u => by
    simp only [Conts] at e
    subst e
    rw [List.append_nil]
    exact rfl
  | f :: fs, r, ⟨s1, r2, h1, h2, e⟩, s, u => by
    subst e
    exact ⟨itmT s1, itmT (s1 ++ r2), .inl ⟨s1, h1, rfl⟩, itmT_append _ _ _, fun v => conts_behind fs r2 h2 s1 v⟩
theorem task_tree {C P : Nat} {w : World} {Q : Nat → Prop} {t : Nat} {r : List Itm} {v : Int} (h : TaskC w C P Q t r v) : TaskT (cellOps C P) (K0 C P w Q) w Q (some ⟨t, 0, none⟩) (itmT r v) := by
  rcases h.view with ⟨rfl, hd⟩ | ⟨x, r', d, p, rest, gs, fs, rfl, hL, hT, hO, hC⟩
  · exact .inl ⟨v, rfl, hd⟩
  · have h7 := hO.kind
    have hb := conts_behind fs r' hC
    rcases hO with ⟨hO, ⟨h4, rfl⟩ | ⟨h4, k3, k2, rfl, l3, l2⟩⟩ | ⟨h5, rfl, rfl, hO⟩
    · refine .inr ⟨x, itmT r', t, d, p, rest, fs, ?_, rfl, hL, hT, .inl hO, fun u => hb [] u⟩
      simp only [itmT]
      rw [if_neg (by omega), if_neg h4]
    · refine .inr ⟨x, fun u => bindT (itmT r') (bindT (loopK x) (spinK u)), t, d, p, rest, _, ?_, rfl, hL, hT, .inl hO, fun u => ?_⟩
      · simp only [itmT]
        rw [if_neg (by omega), if_pos h4, spinT_eq2, bindT_op]
      · refine ⟨spinK, fun u => bindT (itmT r') (bindT (loopK x) (spinK u)), .inr (.inr ⟨l3, rfl⟩), by rw [bindT_ret], fun u => ⟨loopK x, fun u => bindT (itmT r') (loopK x u), .inr (.inl ⟨x, h4, l2, rfl⟩), by exact bindT_assoc _ _ _, fun u => ?_⟩⟩
        show Behind (K0 C P w Q) fs (loopK x u) (bindT (itmT r') (loopK x u))
        unfold loopK
        by_cases hu : u = -2147483648
        · rw [if_pos hu]
          have e1 : itmT [x] 0 = spinT x := by
            simp only [itmT]
            rw [if_neg (by omega), if_pos h4]
            exact spin_end x
          have := hb [x] 0
          rwa [itmT_append, e1] at this
        · rw [if_neg hu, bindT_ret]
          exact hb [] u
    · refine .inr ⟨x, itmT r', t, _, p, rest, fs, ?_, rfl, hL, hT, .inr (.inl ⟨h5, rfl, hO⟩), fun u => hb [] u⟩
      simp only [itmT]
      rw [if_neg (by omega), if_neg (by omega)]
theorem k0_step (C P : Nat) (w : World) (Q : Nat → Prop) (f : Nat) (k : Int → Tre Itm) (h : K0 C P w Q f k) : ContS (cellOps C P) (K0 C P) w Q f k := by
  have hd : ∀ b, Q b → ¬ ¬ Q b := fun b h hn => hn h
  rcases h with ⟨s, hc, rfl⟩ | ⟨x, h4, l2, rfl⟩ | ⟨l3, rfl⟩
  · obtain ⟨h1, bl, B, o, cap, L, h2, _⟩ := hc.unfold
    refine ⟨h1, h2.lt, fun v w1 hw => ?_⟩
    refine (cont_call C P (fun b => (Q b ∧ b < w.heap.size) ∨ w1.heap.size ≤ b) f s v w1 (hc.keep hw hd (fun b hb h => .inl ⟨h, hb⟩)) (fun k hk => .inr hk)).mono ?_
    rintro e w2 ⟨t, rfl, hM⟩
    have := task_tree hM.task
    rw [itmT_on] at this
    refine ⟨some ⟨t, 0, none⟩, rfl, hM.2.2, this, fun j e => ?_⟩
    injection e with e
    injection e with e
    exact .inr (e ▸ hM.1)
  · obtain ⟨q1, bb, body, q2, q3, q4, q5⟩ := l2
    refine ⟨q1, q2.lt, fun v w1 hw => ?_⟩
    refine then1P_any f 274 #[pV bb] v w1 _ (q2.keep hw (fun h => h q1)) call_loop1 fun w2 hb => ?_
    have hsz := hb.size
    have hw2 : Keep (fun b => ¬ Q b) w w2 := hw.step (Q' := fun _ => False) (Keep.ofBelow hb) (fun _ _ h => h.elim)
    refine (loop1_any C P (fun b => (Q b ∧ b < w.heap.size) ∨ w1.heap.size ≤ b) x bb body v w2 h4 (q4.keep hw2 (fun h => h q3)) (q5.keep hw2 hd (fun b hb h => .inl ⟨h, hb⟩)) (fun k hk => .inr (by omega))).mono ?_
    have hn : ∀ t, w2.heap.size ≤ t → InQ (fun b => (Q b ∧ b < w.heap.size) ∨ w1.heap.size ≤ b) (some ⟨t, 0, none⟩) := fun t ht j e => by
      injection e with e
      injection e with e
      exact .inr (by omega)
    unfold loopK
    rintro e w3 ⟨t, rfl, ⟨rfl, hM⟩ | ⟨hv, hM⟩⟩
    · have := task_tree hM.task
      simp only [itmT] at this
      rw [if_neg (by omega), if_pos h4, show (fun v => retT v : Int → Tre Itm) = retT from rfl, spin_end] at this
      exact ⟨some ⟨t, 0, none⟩, rfl, hb.trans (hM.2.2.mono hsz), by rw [if_pos rfl]; exact this, hn t hM.1⟩
    · exact ⟨some ⟨t, 0, none⟩, rfl, hb.trans (hM.2.2.mono hsz), by rw [if_neg hv]; exact task_tree hM.task, hn t hM.1⟩
  · obtain ⟨q1, q2⟩ := l3
    refine ⟨q1, q2.lt, fun v w1 hw => ?_⟩
    refine then1P_any f 218 #[] v w1 _ (q2.keep hw (fun h => h q1)) call_spin11 fun w2 hb => ?_
    have hsz := hb.size
    refine (spin11_any v w2).mono ?_
    rintro e w3 ⟨t, rfl, g1, g2, g3⟩
    refine ⟨some ⟨t, 0, none⟩, rfl, hb.trans (g3.mono hsz), .inl ⟨_, ?_, g2⟩, fun j e => ?_⟩
    · unfold spinK
      split <;> rfl
    · injection e with e
      injection e with e
      exact .inr (by omega)
theorem TaskC.tree {C P : Nat} {w : World} {Q : Nat → Prop} {t : Nat} {r : List Itm} {v : Int} (h : TaskC w C P Q t r v) : TaskF (cellOps C P) w Q (some ⟨t, 0, none⟩) (itmT r v) :=
  TaskT.keep (task_tree h) (fun f k h => ⟨K0 C P, k0_step C P, h⟩) (Keep.refl (fun _ => False) w) (fun _ _ h => h) (fun _ _ h => h) (fun _ _ h => h)
/-- a task of a caller's own, at block t, of the blocks of which Q is said -/
def TkT {A : Type} (O : Ops A) (w : World) (t : Nat) (Q : Nat → Prop) (T : Tre A) : Prop :=
  ∃ Q1 : Nat → Prop, TaskF O w Q1 (some ⟨t, 0, none⟩) T ∧ ¬ Q1 t ∧ (∀ b, Q1 b ∨ b = t → Q b) ∧ ∀ b, Q b → b < w.heap.size
theorem TkT.keep {A : Type} {O : Ops A} {w w1 : World} {t : Nat} {Q F : Nat → Prop} {T : Tre A} (h : TkT O w t Q T) (hk : Keep F w w1) (hn : ∀ b, Q b → ¬ F b) : TkT O w1 t Q T := by
  obtain ⟨Q1, h1, h2, h3, h4⟩ := h
  exact ⟨Q1, TaskF.keep h1 hk (fun b hb => hn b (h3 b (.inl hb))) (fun k e => by injection e with e; injection e with e; exact e ▸ hn t (h3 t (.inr rfl))) (fun _ _ h => h), h2, h3, fun b hb => Nat.lt_of_lt_of_le (h4 b hb) hk.size⟩
theorem TkT.still {A : Type} {O : Ops A} {w w1 : World} {t : Nat} {Q : Nat → Prop} {T : Tre A} (h : TkT O w t Q T) (hk : Keep (fun _ => False) w w1) : TkT O w1 t Q T := h.keep hk (fun _ _ h => h)
theorem TkT.lt {A : Type} {O : Ops A} {w : World} {t : Nat} {Q : Nat → Prop} {T : Tre A} (h : TkT O w t Q T) : ∀ b, Q b → b < w.heap.size := by
  obtain ⟨Q1, h1, h2, h3, h4⟩ := h
  exact h4
theorem TkT.own {A : Type} {O : Ops A} {w : World} {t : Nat} {Q : Nat → Prop} {T : Tre A} (h : TkT O w t Q T) : Q t := by
  obtain ⟨Q1, h1, h2, h3, h4⟩ := h
  exact h3 t (.inr rfl)
/-- a new one -/
theorem TkT.new {A : Type} {O : Ops A} {w' : World} {t : Nat} {Q : Nat → Prop} {T : Tre A} (h : TaskF O w' (fun b => Q b ∧ b ≠ t) (some ⟨t, 0, none⟩) T) (hq : Q t) : TkT O w' t (fun b => Q b ∧ b < w'.heap.size) T :=
  ⟨fun b => (Q b ∧ b ≠ t) ∧ b < w'.heap.size, TaskF.keep h (Keep.refl (fun _ => False) w') (fun _ _ h => h) (fun _ _ h => h) (fun b hb h => ⟨h, hb⟩), fun h => h.1.2 rfl, fun b hb => by
    rcases hb with hb | rfl
    · exact ⟨hb.1.1, hb.2⟩
    · exact ⟨hq, TaskT.lt h⟩, fun b hb => hb.2⟩
theorem Made6.tkT {w w' : World} {C P : Nat} {Q : Nat → Prop} {r : List Itm} {v : Int} {t : Nat} (h : Made6 w C P Q r v t w') (hq : Q t) : TkT (cellOps C P) w' t (fun b => Q b ∧ b < w'.heap.size) (itmT r v) := TkT.new (TaskC.tree h.2.1) hq
theorem TkT.from {A : Type} {O : Ops A} {w w' : World} {t : Nat} {Q Q1 : Nat → Prop} {T : Tre A} (ht : t < w.heap.size) (hw : w.heap.size ≤ w'.heap.size) (h1 : ∀ b, Q1 b ∨ b = t → Q b) (h2 : ¬ Q1 t) (h : TaskF O w' (fun b => Q1 b ∨ w.heap.size ≤ b) (some ⟨t, 0, none⟩) T) :
    ∃ Q', TkT O w' t Q' T ∧ ∀ b, Q' b → Q b ∨ w.heap.size ≤ b :=
  ⟨fun b => (Q b ∨ w.heap.size ≤ b) ∧ b < w'.heap.size, ⟨fun b => (Q1 b ∨ w.heap.size ≤ b) ∧ b < w'.heap.size, TaskF.keep h (Keep.refl (fun _ => False) w') (fun _ _ h => h) (fun _ _ h => h) (fun b hb hq => ⟨hq, hb⟩),
    fun hh => by rcases hh.1 with hh | hh
                 · exact h2 hh
                 · omega,
    fun b hb => by
      rcases hb with ⟨hb | hb, hlt⟩ | rfl
      · exact ⟨.inl (h1 b (.inl hb)), hlt⟩
      · exact ⟨.inr hb, hlt⟩
      · exact ⟨.inl (h1 b (.inr rfl)), by omega⟩, fun b hb => hb.2⟩, fun b hb => hb.1⟩
theorem TkT.done {A : Type} {O : Ops A} {w : World} {t : Nat} {Q : Nat → Prop} {v : Int} (h : TkT O w t Q (retT v)) : DoneV w (some ⟨t, 0, none⟩) v := by
  obtain ⟨Q1, h1, h2, h3, h4⟩ := h
  rcases h1 with ⟨u, e, h⟩ | ⟨x, κ, k, d, p, rest, fs, e, _⟩
  · rw [retT_inj e]; exact h
  · exact (ret_op e).elim
theorem TkT.live {A : Type} {O : Ops A} {w : World} {t : Nat} {Q : Nat → Prop} {x : A} {κ : Int → Tre A} (h : TkT O w t Q (opT x κ)) :
    ∃ Q1 : Nat → Prop, ¬ Q1 t ∧ (∀ b, Q1 b ∨ b = t → Q b) ∧ t < w.heap.size ∧ ∃ d p rest fs, Live w t d p rest ∧ TreeO w Q1 rest fs ∧ O.is w Q1 x d p ∧ ∀ v, Behind (ContT O w Q1) fs (retT v) (κ v) := by
  obtain ⟨Q1, h1, h2, h3, h4⟩ := h
  refine ⟨Q1, h2, h3, h4 t (h3 t (.inr rfl)), ?_⟩
  rcases h1 with ⟨u, e, h⟩ | ⟨x', κ', k, d, p, rest, fs, e, e2, g1, g2, g3, g4⟩
  · exact (ret_op e.symm).elim
  · obtain ⟨rfl, rfl⟩ := opT_inj e
    injection e2 with e2
    injection e2 with e2
    subst e2
    exact ⟨d, p, rest, fs, g1, g2, g3, g4⟩
theorem tdoneT_ret {A : Type} {O : Ops A} (t : Nat) (Q : Nat → Prop) (v : Int) (w : World) (h : TkT O w t Q (retT v)) : Calls Tryz.prog 38 #[pV t] w fun e w' => e = .returned (.bool true) ∧ w = w' := doneV_done _ v w h.done
theorem tdoneT_op {A : Type} {O : Ops A} (t : Nat) (Q : Nat → Prop) (x : A) (κ : Int → Tre A) (w : World) (h : TkT O w t Q (opT x κ)) : Calls Tryz.prog 38 #[pV t] w fun e w' => e = .returned (.bool false) ∧ w = w' := by
  obtain ⟨_, _, _, _, d, p, rest, fs, hL, _⟩ := h.live
  exact live_done t d p rest w hL
theorem tvalueT_ret {A : Type} {O : Ops A} (t : Nat) (Q : Nat → Prop) (v : Int) (w : World) (h : TkT O w t Q (retT v)) : Calls Tryz.prog 27 #[pV t] w fun e w' => e = .returned (.int .i64 v) ∧ w = w' := doneV_value _ v w h.done
theorem tvalueT_op {A : Type} {O : Ops A} (t : Nat) (Q : Nat → Prop) (x : A) (κ : Int → Tre A) (w : World) (h : TkT O w t Q (opT x κ)) : Calls Tryz.prog 27 #[pV t] w fun e w' => e = .returned (.int .i64 0) ∧ w = w' := by
  obtain ⟨_, _, _, _, d, p, rest, fs, hL, _⟩ := h.live
  exact value_any t _ _ _ 0 w hL.blk
theorem tstepT_ret {A : Type} {O : Ops A} (t : Nat) (Q : Nat → Prop) (v k : Int) (w : World) (h : TkT O w t Q (retT v)) : Calls Tryz.prog 37 #[pV t, .int .i64 k] w fun e w' => e = .returned (.bool false) ∧ w = w' := step_done _ v k w h.done
/-- a step that does an operation on cells -/
theorem tstepT_op (C P S t : Nat) (Q : Nat → Prop) (x : Itm) (κ : Int → Tre Itm) (m : List Int) (n : Int) (w : World) (h : TkT (cellOps C P) w t Q (opT x κ)) (hC : CellsAt w C S m n) (hk : x.kind < 5) (hQ : ∀ b, Q b → b ≠ C ∧ b ≠ S) (hn : 0 ≤ n ∧ n ≤ 2000000) :
    Calls Tryz.prog 37 #[pV t, .int .i64 0] w fun e w' => e = .returned (.bool true) ∧ (∃ Q', TkT (cellOps C P) w' t Q' (κ (operS m x).2.1) ∧ ∀ b, Q' b → Q b ∨ w.heap.size ≤ b) ∧
      CellsAt w' C S (operS m x).1 (n + countS m x) ∧ Keep (fun b => b = t ∨ ofCells C S b) w w' := by
  obtain ⟨Q1, q1, q2, hlt, d, p, rest, fs, hL, hT, hO, hc⟩ := h.live
  have hcq : ∀ b, Q1 b → ¬ ofCells C S b := fun b hb hf => by
    have := hQ b (q2 b (.inl hb))
    rcases hf with hf | hf
    · exact this.1 hf
    · exact this.2 hf
  have htc : ¬ ofCells C S t := fun hf => by
    have := hQ t (q2 t (.inr rfl))
    rcases hf with hf | hf
    · exact this.1 hf
    · exact this.2 hf
  obtain ⟨b, F, caps, rfl, rfl, b1, b2, b3⟩ : ∃ b F caps, d = cloV 260 #[pV b] ∧ p = .pointer none ∧ Q1 b ∧ Blk w b _ #[cloV F caps] ∧ CloAt w C Q1 x F caps := by
    rcases hO with hO | ⟨hO, _⟩ | ⟨hO, _⟩
    · exact hO
    · omega
    · omega
  refine step_yes t _ _ rest 0 w (fun v' w2 => v' = (operS m x).2.1 ∧ CellsAt w2 C S (operS m x).1 (n + countS m x) ∧ Keep (ofCells C S) w w2)
    (fun w' => (∃ Q', TkT (cellOps C P) w' t Q' (κ (operS m x).2.1) ∧ ∀ b, Q' b → Q b ∨ w.heap.size ≤ b) ∧ CellsAt w' C S (operS m x).1 (n + countS m x) ∧ Keep (fun b => b = t ∨ ofCells C S b) w w') hL ?_ ?_
  · refine opend_do b w _ fun W hb => ?_
    have kW : Keep (fun _ => False) w W := Keep.ofBelow hb
    refine (do6_any C S Q1 m n x b F caps W (b2.below hb b2.lt) (b3.keep kW (fun _ _ h => h) (fun _ _ h => h)) (hC.keep kW (fun h => h) (fun h => h)) hn.1 (by omega)).mono ?_
    rintro e w' ⟨v', rfl, e1, e2, e3⟩
    exact ⟨v', rfl, e1, e2, (Keep.ofBelow hb).trans e3⟩
  · rintro v' w2 w3 k ⟨rfl, hC2, hk2⟩ g1 g2 g3
    have k3 : Keep (ofCells C S) w w3 := hk2.trans (Keep.ofBelow g3)
    have s2 := hk2.size
    have hT3 : TreeO w3 (fun b => Q1 b ∨ w.heap.size ≤ b) rest fs := (hT.keep k3 hcq).mono (fun b _ h => .inl h)
    have hJ : JotT (cellOps C P) (fun b => Q1 b ∨ w.heap.size ≤ b) t (κ (operS m x).2.1) w3 (some ⟨k, 0, none⟩) fs :=
      ⟨_, .inl ⟨_, rfl, g2⟩, fun j e => by injection e with e; injection e with e; omega, (hc _).keep k3 hcq (fun b _ h => .inl h)⟩
    refine (goon_tree (cellOps C P) t _ _ _ rest fs (fun b => Q1 b ∨ w.heap.size ≤ b) _ w3 (hL.blk.keep k3 htc) hT3 (fun j hj => .inr (by have := k3.size; omega)) (fun hh => hh.elim q1 (fun h => by omega)) hJ).mono ?_
    rintro e w' ⟨rfl, k4, hT4⟩
    have k5 : Keep (fun b => b = t ∨ ofCells C S b) w w' := (k3.mono (fun _ _ h => .inr h)).trans (k4.mono (fun _ _ h => .inl h))
    refine ⟨rfl, TkT.from hlt k5.size q2 q1 hT4, ?_, k5⟩
    have hC3 := hC2.keep (Keep.ofBelow (Q := fun _ => False) g3) (fun h => h) (fun h => h)
    exact hC3.keep k4 (fun e => htc (.inl e.symm)) (fun e => htc (.inr e.symm))
end Go.Proofs.YtldofbkjjmnooaaGreat
/- Package task: tasks by what they may yet do, where what is behind an operation may turn blocks of its own (closures with a state). -/
namespace Go.Proofs.YtldofbkjjmnooaaGreat
open Go.ChangeShapes Go.WideShapes Go.ChangeAt Go.RowKit
set_option linter.unusedVariables false
set_option maxRecDepth 100000
set_option linter.unusedSimpArgs false
/-- what is said of all that is behind an operation -/
abbrev MRel (A : Type) := World → (Nat → Prop) → (Nat → Prop) → List Nat → (Int → Tre A) → Prop
/-- a task at hand, and what is behind it, are together R -/
def JM {A : Type} (O : Ops A) (K : MRel A) (w : World) (Q M : Nat → Prop) (n : Option Addr) (fs : List Nat) (R : Tre A) : Prop :=
  (∃ u κ, DoneV w n u ∧ K w Q M fs κ ∧ R = κ u) ∨
  ∃ x g k d p rest gs, R = opT x g ∧ n = some ⟨k, 0, none⟩ ∧ Live w k d p rest ∧ TreeO w (fun b => Q b ∧ ¬ M b) rest gs ∧ O.is w Q x d p ∧ K w Q M (gs ++ fs) g
theorem JM.mono {A : Type} {O : Ops A} {K K' : MRel A} {w : World} {Q Q' M : Nat → Prop} {n : Option Addr} {fs : List Nat} {R : Tre A} (h : JM O K w Q M n fs R) (hK : ∀ fs κ, K w Q M fs κ → K' w Q' M fs κ) (hq : ∀ b, b < w.heap.size → Q b → Q' b) : JM O K' w Q' M n fs R := by
  rcases h with ⟨u, κ, h1, h2, e⟩ | ⟨x, g, k, d, p, rest, gs, e, e2, h1, h2, h3, h4⟩
  · exact .inl ⟨u, κ, h1, hK _ _ h2, e⟩
  · exact .inr ⟨x, g, k, d, p, rest, gs, e, e2, h1, h2.mono (fun b hb h => ⟨hq b hb h.1, h.2⟩), O.keep h3 (Keep.refl (fun _ => False) w) (fun _ _ h => h) hq, hK _ _ h4⟩
def StepM {A : Type} (O : Ops A) (K : MRel A) (w : World) (Q M : Nat → Prop) (fs : List Nat) (κ : Int → Tre A) : Prop :=
  (∀ b, M b → Q b ∧ b < w.heap.size) ∧ match fs with
  | [] => κ = retT
  | f :: fs => Q f ∧ f < w.heap.size ∧ ∀ v w1, Keep (fun b => ¬ Q b) w w1 → Calls Tryz.prog 221 #[.int .i64 v, pV f] w1 fun e w2 => ∃ n M2, e = .returned (.pointer n) ∧ Keep M w1 w2 ∧ (∀ b, b < w1.heap.size → M2 b → M b) ∧
      InQ (fun b => (Q b ∧ b < w.heap.size) ∨ w1.heap.size ≤ b) n ∧ JM O K w2 (fun b => (Q b ∧ b < w.heap.size) ∨ w1.heap.size ≤ b) M2 n fs (κ v)
theorem StepM.mono {A : Type} {O : Ops A} {K K' : MRel A} (hK : ∀ w Q M fs κ, K w Q M fs κ → K' w Q M fs κ) {w : World} {Q M : Nat → Prop} {fs : List Nat} {κ : Int → Tre A} (h : StepM O K w Q M fs κ) : StepM O K' w Q M fs κ := by
  refine ⟨h.1, ?_⟩
  cases fs with
  | nil => exact h.2
  | cons f fs =>
    obtain ⟨h1, h2, h3⟩ := h.2
    refine ⟨h1, h2, fun v w1 hw => (h3 v w1 hw).mono ?_⟩
    rintro e w2 ⟨n, M2, rfl, g1, g2, g3, g4⟩
    exact ⟨n, M2, rfl, g1, g2, g3, g4.mono (fun fs κ h => hK _ _ _ _ _ h) (fun _ _ h => h)⟩
/-- .. the greatest there is -/
def ContsM {A : Type} (O : Ops A) : MRel A := fun w Q M fs κ => ∃ K : MRel A, (∀ w Q M fs κ, K w Q M fs κ → StepM O K w Q M fs κ) ∧ K w Q M fs κ
theorem ContsM.unfold {A : Type} {O : Ops A} {w : World} {Q M : Nat → Prop} {fs : List Nat} {κ : Int → Tre A} (h : ContsM O w Q M fs κ) : StepM O (ContsM O) w Q M fs κ := by
  obtain ⟨K, h1, h2⟩ := h
  exact (h1 w Q M fs κ h2).mono fun w Q M fs κ h => ⟨K, h1, h⟩
theorem ContsM.fold {A : Type} {O : Ops A} {w : World} {Q M : Nat → Prop} {fs : List Nat} {κ : Int → Tre A} (h : StepM O (ContsM O) w Q M fs κ) : ContsM O w Q M fs κ :=
  ⟨StepM O (ContsM O), fun w Q M fs κ h => h.mono fun w Q M fs κ h => h.unfold, h⟩
theorem ContsM.nil {A : Type} {O : Ops A} {w : World} {Q M : Nat → Prop} (h : ∀ b, M b → Q b ∧ b < w.heap.size) : ContsM O w Q M [] retT := ContsM.fold ⟨h, rfl⟩
theorem ContsM.ret {A : Type} {O : Ops A} {w : World} {Q M : Nat → Prop} {κ : Int → Tre A} (h : ContsM O w Q M [] κ) : κ = retT := h.unfold.2
theorem ContsM.few {A : Type} {O : Ops A} {w : World} {Q M : Nat → Prop} {fs : List Nat} {κ : Int → Tre A} (h : ContsM O w Q M fs κ) : ∀ b, M b → Q b ∧ b < w.heap.size := h.unfold.1
theorem ContsM.keep {A : Type} {O : Ops A} {w w1 : World} {Q Q' M F : Nat → Prop} {fs : List Nat} {κ : Int → Tre A} (h : ContsM O w Q M fs κ) (hk : Keep F w w1) (hd : ∀ b, Q b → ¬ F b) (hq : ∀ b, b < w.heap.size → Q b → Q' b) : ContsM O w1 Q' M fs κ := by
  refine ⟨fun w1 Q' M fs κ => ∃ w Q F, ContsM O w Q M fs κ ∧ Keep F w w1 ∧ (∀ b, Q b → ¬ F b) ∧ ∀ b, b < w.heap.size → Q b → Q' b, ?_, w, Q, F, h, hk, hd, hq⟩
  rintro w1 Q' M fs κ ⟨w, Q, F, h, hk, hd, hq⟩
  have hs := hk.size
  obtain ⟨hm, hr⟩ := h.unfold
  refine ⟨fun b hb => ⟨hq b (hm b hb).2 (hm b hb).1, Nat.lt_of_lt_of_le (hm b hb).2 hs⟩, ?_⟩
  cases fs with
  | nil => exact hr
  | cons f fs =>
    obtain ⟨h1, h2, h3⟩ := hr
    refine ⟨hq f h2 h1, Nat.lt_of_lt_of_le h2 hs, fun v w2 hw => ?_⟩
    have hK : Keep (fun b => ¬ Q b) w w2 := ⟨hw.os.trans hk.os, hw.tape.trans hk.tape, hw.output.trans hk.output, Nat.le_trans hs hw.size, fun b hb hn => by
      have hQ : Q b := Classical.not_not.1 hn
      rw [hw.block b (by omega) (fun h => h (hq b hb hQ)), hk.block b hb (hd b hQ)]⟩
    refine (h3 v w2 hK).mono ?_
    rintro e w3 ⟨n, M2, rfl, g1, g2, g3, g4⟩
    have hqq : ∀ b, (Q b ∧ b < w.heap.size) ∨ w2.heap.size ≤ b → (Q' b ∧ b < w1.heap.size) ∨ w2.heap.size ≤ b := fun b hb => hb.imp (fun h => ⟨hq b h.2 h.1, by omega⟩) id
    exact ⟨n, M2, rfl, g1, g2, fun k e => hqq k (g3 k e), g4.mono (fun fs κ h => ⟨w3, _, fun _ => False, h, Keep.refl _ _, fun _ _ h => h, fun b _ h => hqq b h⟩) (fun b _ h => hqq b h)⟩
/-- a task, with all that is behind it, and more -/
abbrev JmF {A : Type} (O : Ops A) (w : World) (Q M : Nat → Prop) (n : Option Addr) (fs : List Nat) (R : Tre A) : Prop := JM O (ContsM O) w Q M n fs R
theorem JmF.keep {A : Type} {O : Ops A} {w w1 : World} {Q Q' M F : Nat → Prop} {n : Option Addr} {fs : List Nat} {R : Tre A} (h : JmF O w Q M n fs R) (hk : Keep F w w1) (hd : ∀ b, Q b → ¬ F b) (hn : InQ (fun k => ¬ F k) n) (hq : ∀ b, b < w.heap.size → Q b → Q' b) : JmF O w1 Q' M n fs R := by
  rcases h with ⟨u, κ, h1, h2, e⟩ | ⟨x, g, k, d, p, rest, gs, e, rfl, h1, h2, h3, h4⟩
  · exact .inl ⟨u, κ, h1.keep hk hn, h2.keep hk hd hq, e⟩
  · refine .inr ⟨x, g, k, d, p, rest, gs, e, rfl, h1.keep hk (hn k rfl), ?_, O.keep h3 hk hd hq, h4.keep hk hd hq⟩
    exact ((h2.mono (Q' := fun b => Q b ∧ Q' b ∧ ¬ M b) fun b hb h => ⟨h.1, hq b hb h.1, h.2⟩).keep hk fun b h => hd b h.1).mono fun b _ h => h.2
theorem JmF.few {A : Type} {O : Ops A} {w : World} {Q M : Nat → Prop} {n : Option Addr} {fs : List Nat} {R : Tre A} (h : JmF O w Q M n fs R) : ∀ b, M b → Q b ∧ b < w.heap.size := by
  rcases h with ⟨u, κ, h1, h2, e⟩ | ⟨x, g, k, d, p, rest, gs, e, rfl, h1, h2, h3, h4⟩
  · exact h2.few
  · exact h4.few
theorem JmF.lt {A : Type} {O : Ops A} {w : World} {Q M : Nat → Prop} {k : Nat} {fs : List Nat} {R : Tre A} (h : JmF O w Q M (some ⟨k, 0, none⟩) fs R) : k < w.heap.size := by
  rcases h with ⟨u, κ, h1, h2, e⟩ | ⟨x, g, k', d, p, rest, gs, e, e2, h1, h2, h3, h4⟩
  · rcases h1 with ⟨h, _⟩ | ⟨k', e2, h⟩
    · cases h
    · injection e2 with e2; injection e2 with e2; rw [e2]; exact h.lt
  · injection e2 with e2; injection e2 with e2; rw [e2]; exact h1.blk.lt
theorem Behind.func {A : Type} {K : Nat → (Int → Tre A) → Prop} {fs : List Nat} {u : Int} {R : Tre A} (h : Behind K fs (retT u) R) : ∃ κ : Int → Tre A, R = κ u ∧ ∀ v, Behind K fs (retT v) (κ v) := by
  cases fs with
  | nil => exact ⟨retT, h, fun v => rfl⟩
  | cons f fs =>
    obtain ⟨k, κ, h1, e, h2⟩ := h
    rw [bindT_ret] at e
    exact ⟨κ, e, fun v => ⟨k, κ, h1, (bindT_ret κ v).symm, h2⟩⟩
/-- what turns nothing, ahead of what may -/
def Mix {A : Type} (O : Ops A) (K : MRel A) : MRel A := fun w Q M L κ => ∃ (B : Tre A → Tre A) (gs fs : List Nat) (κ1 : Int → Tre A) (Q0 : Nat → Prop), (∀ x g, B (opT x g) = opT x fun v => B (g v)) ∧ L = gs ++ fs ∧ K w Q M fs (fun v => B (retT v)) ∧ (∀ b, Q0 b → Q b ∧ ¬ M b) ∧ (∀ v, Behind (ContT O w Q0) gs (retT v) (κ1 v)) ∧ κ = fun v => B (κ1 v)
theorem Mix.of {A : Type} {O : Ops A} {K : MRel A} {w : World} {Q M : Nat → Prop} {L : List Nat} {κ : Int → Tre A} (h : K w Q M L κ) : Mix O K w Q M L κ := by
  have e : (fun v => bindT κ (retT v)) = κ := funext fun v => bindT_ret κ v
  exact ⟨bindT κ, [], L, retT, fun _ => False, fun x g => bindT_op κ x g, rfl, by rw [e]; exact h, fun _ h => h.elim, fun v => rfl, e.symm⟩
/-- a relation that stands while others move, and whose steps lead to it, or to what turns nothing ahead of it -/
theorem contsM_upto {A : Type} (O : Ops A) (K : MRel A) (hfew : ∀ w Q M fs κ, K w Q M fs κ → ∀ b, M b → Q b ∧ b < w.heap.size)
    (hkeep : ∀ (w w1 : World) (Q Q' M F : Nat → Prop) fs κ, K w Q M fs κ → Keep F w w1 → (∀ b, Q b → ¬ F b) → (∀ b, b < w.heap.size → Q b → Q' b) → K w1 Q' M fs κ)
    (hstep : ∀ w Q M fs κ, K w Q M fs κ → StepM O (Mix O K) w Q M fs κ) {w : World} {Q M : Nat → Prop} {fs : List Nat} {κ : Int → Tre A} (h : Mix O K w Q M fs κ) : ContsM O w Q M fs κ := by
  refine ⟨Mix O K, ?_, h⟩
  rintro w Q M L κ ⟨B, gs, fs, κ1, Q0, hB1, rfl, h2, hq, h1, rfl⟩
  cases gs with
  | nil =>
    have : (fun v => B (κ1 v)) = fun v => B (retT v) := by
      funext v
      rw [show κ1 v = retT v from h1 v]
    rw [this]
    exact hstep _ _ _ _ _ h2
  | cons f gs =>
    obtain ⟨k0, κ0, c0, _, _⟩ := h1 0
    have hfw := hfew _ _ _ _ _ h2
    refine ⟨hfw, (hq f c0.own.1).1, c0.own.2, fun v w1 hw => ?_⟩
    obtain ⟨k, κ', c, e, hb⟩ := h1 v
    rw [bindT_ret] at e
    refine (c.unfold.2.2 v w1 (hw.mono fun b _ hn h => hn (hq b h).1)).mono ?_
    rintro e2 w2 ⟨n, rfl, g1, g2, g3⟩
    have s1 := hw.size
    have s2 := g1.size
    have hq0 : ∀ b, (Q0 b ∧ b < w.heap.size) ∨ w1.heap.size ≤ b → ((Q b ∧ b < w.heap.size) ∨ w1.heap.size ≤ b) ∧ ¬ M b := fun b hb => by
      rcases hb with hb | hb
      · exact ⟨.inl ⟨(hq b hb.1).1, hb.2⟩, (hq b hb.1).2⟩
      · exact ⟨.inr hb, fun h => by have := (hfw b h).2; omega⟩
    have k12 : Keep (fun _ => False) w1 w2 := Keep.ofBelow g1
    have hC : K w2 (fun b => (Q b ∧ b < w.heap.size) ∨ w1.heap.size ≤ b) M fs (fun v => B (retT v)) := hkeep _ _ _ _ _ _ _ _ (hkeep _ _ _ (fun b => Q b ∧ b < w.heap.size) _ _ _ _ h2 hw (fun b h hn => hn h) (fun b hb h => ⟨h, hb⟩)) k12 (fun _ _ h => h) (fun b _ h => .inl h)
    have hBk : ∀ (gs : List Nat) (T R : Tre A), Behind (ContT O w Q0) gs T R → Behind (ContT O w2 fun b => (Q0 b ∧ b < w.heap.size) ∨ w1.heap.size ≤ b) gs T R := fun gs T R h => (h.keep (Q' := fun b => Q0 b ∧ b < w.heap.size) hw (fun b h hn => hn (hq b h).1) (fun b hb h => ⟨h, hb⟩)).keep k12 (fun _ _ h => h) (fun b _ h => .inl h)
    refine ⟨n, M, rfl, Keep.ofBelow g1, fun _ _ h => h, fun j e => (hq0 j (g3 j e)).1, ?_⟩
    rcases g2 with ⟨u, eu, hd⟩ | ⟨x, g, k1, d, p, rest, g1s, ex, rfl, l1, l2, l3, l4⟩
    · have hbv := hBk _ _ _ (hb v)
      rw [eu] at hbv
      obtain ⟨κ'', e3, h3⟩ := hbv.func
      exact .inl ⟨u, fun u' => B (κ'' u'), hd, ⟨B, gs, fs, κ'', _, hB1, rfl, hC, hq0, h3, rfl⟩, by show B (κ1 v) = _; rw [e, e3]⟩
    · have hbv := hBk _ _ _ (hb v)
      rw [ex] at hbv
      obtain ⟨g', e3, h3⟩ := Behind.op l4 hbv
      refine .inr ⟨x, fun u => B (g' u), k1, d, p, rest, g1s, by show B (κ1 v) = _; rw [e, e3, hB1], rfl, l1, l2.mono fun b _ h => hq0 b h, O.keep l3 (Keep.refl (fun _ => False) w2) (fun _ _ h => h) (fun b _ h => (hq0 b h).1), ⟨B, g1s ++ gs, fs, g', _, hB1, (List.append_assoc _ _ _).symm, hC, hq0, h3, rfl⟩⟩
/-- a task that turns nothing, ahead of what may -/
theorem jm_mix {A : Type} (O : Ops A) (K : MRel A) (B : Tre A → Tre A) (hB1 : ∀ x g, B (opT x g) = opT x fun v => B (g v)) {w : World} {Q Q0 M : Nat → Prop} {n : Option Addr} {fs : List Nat} {T : Tre A} {κ2 : Int → Tre A} (hB2 : ∀ v, B (retT v) = κ2 v) (h2 : K w Q M fs κ2)
    (hq : ∀ b, Q0 b → Q b ∧ ¬ M b) (h1 : TaskF O w Q0 n T) : JM O (Mix O K) w Q M n fs (B T) := by
  have e : (fun v => B (retT v)) = κ2 := funext hB2
  rcases h1 with ⟨u, rfl, hd⟩ | ⟨x, g, k1, d, p, rest, gs, rfl, rfl, l1, l2, l3, l4⟩
  · exact .inl ⟨u, κ2, hd, Mix.of h2, hB2 u⟩
  · exact .inr ⟨x, _, k1, d, p, rest, gs, hB1 x g, rfl, l1, l2.mono fun b _ h => hq b h, O.keep l3 (Keep.refl (fun _ => False) w) (fun _ _ h => h) (fun b _ h => (hq b h).1), ⟨B, gs, fs, g, Q0, hB1, rfl, by rw [e]; exact h2, hq, l4, rfl⟩⟩
theorem contsM_of_mix {A : Type} (O : Ops A) {w : World} {Q M : Nat → Prop} {fs : List Nat} {κ : Int → Tre A} (h : Mix O (ContsM O) w Q M fs κ) : ContsM O w Q M fs κ :=
  contsM_upto O (ContsM O) (fun _ _ _ _ _ h => h.few) (fun _ _ _ _ _ _ _ _ h hk hd hq => h.keep hk hd hq) (fun _ _ _ _ _ h => h.unfold.mono fun _ _ _ _ _ h => Mix.of h) h
theorem jmF_mix {A : Type} (O : Ops A) (B : Tre A → Tre A) (hB1 : ∀ x g, B (opT x g) = opT x fun v => B (g v)) {w : World} {Q Q0 M : Nat → Prop} {n : Option Addr} {fs : List Nat} {T : Tre A} {κ2 : Int → Tre A} (hB2 : ∀ v, B (retT v) = κ2 v) (h2 : ContsM O w Q M fs κ2)
    (hq : ∀ b, Q0 b → Q b ∧ ¬ M b) (h1 : TaskF O w Q0 n T) : JmF O w Q M n fs (B T) :=
  (jm_mix O (ContsM O) B hB1 hB2 h2 hq h1).mono (fun _ _ h => contsM_of_mix O h) (fun _ _ h => h)
theorem jmF_pure {A : Type} (O : Ops A) {w : World} {Q : Nat → Prop} {n : Option Addr} {T : Tre A} (h1 : TaskF O w Q n T) : JmF O w Q (fun _ => False) n [] T :=
  jmF_mix O id (fun _ _ => rfl) (fun v => rfl) (ContsM.nil (fun b h => h.elim)) (fun b h => ⟨h, fun h => h⟩) h1
theorem goon_treeM {A : Type} (O : Ops A) (t : Nat) (n : Option Addr) (d0 p0 r0 : Value) (fs : List Nat) (Q M : Nat → Prop) (R : Tre A) (w : World) (ht : Blk w t 161 #[d0, p0, r0, .int .i64 0]) (hr : TreeO w (fun b => Q b ∧ ¬ M b) r0 fs) (hQ : ∀ k, w.heap.size ≤ k → Q k) (hQt : ¬ Q t) (hn : InQ (fun k => k ≠ t) n) (hJ : JmF O w Q M n fs R) :
    Calls Tryz.prog 119 #[pV t, .pointer n] w fun e w' => e = .returned (.tuple #[]) ∧ Keep (fun k => k = t ∨ M k) w w' ∧ ∃ M2, (∀ x, x < w.heap.size → M2 x → M x) ∧ JmF O w' Q M2 (some ⟨t, 0, none⟩) [] R := by
  have hlt := ht.lt
  have hd : ∀ b, Q b → ¬ (b = t) := fun b hb e => hQt (e ▸ hb)
  refine (goon_mut t n d0 p0 r0 0 fs Q M (fun a n fs M => InQ (fun k => k ≠ t) n ∧ JmF O a Q M n fs R) w ht hr hQ hQt ⟨hn, hJ⟩ ?_ ?_ ?_ ?_).mono ?_
  · rintro a n fs M ⟨_, h⟩
    exact h.few
  · rintro a b n fs M hs ⟨h1, h2⟩ hk
    exact ⟨h1, h2.keep hk hd (fun k e => h1 k e) (fun _ _ h => h)⟩
  · rintro a n fs M ⟨h1, h2⟩
    refine ⟨fun e => h1 t e rfl, ?_⟩
    rcases h2 with ⟨u, κ, g1, g2, e⟩ | ⟨x, g, k, d, p, rest, gs, e, rfl, g1, g2, g3, g4⟩
    · exact .inl ⟨u, g1⟩
    · exact .inr ⟨k, d, p, rest, gs, rfl, g1, g2⟩
  · rintro a n f fs M v hs ⟨h1, h2⟩ hv
    rcases h2 with ⟨u, κ, g1, g2, rfl⟩ | ⟨x, g, k, d, p, rest, gs, e, rfl, g1, g2, g3, g4⟩
    · obtain rfl := hv.val g1
      refine (g2.unfold.2.2.2 _ a (Keep.refl _ a)).mono ?_
      rintro e b ⟨n', M2, rfl, q1, q2, q3, q4⟩
      have hqq : ∀ j, (Q j ∧ j < a.heap.size) ∨ a.heap.size ≤ j → Q j := fun j hj => hj.elim (fun h => h.1) (fun h => hQ j (by omega))
      exact ⟨n', M2, rfl, ⟨fun j e e2 => hQt (e2 ▸ hqq j (q3 j e)), JmF.keep q4 (Keep.refl (fun _ => False) b) (fun _ _ h => h) (fun _ _ h => h) (fun j _ h => hqq j h)⟩, q1, q2⟩
    · exact (hv.live g1).elim
  · rintro e w' ⟨rfl, hk, n', fs', M2, ⟨h1, h2⟩, hm, hp⟩
    refine ⟨rfl, hk, M2, hm, ?_⟩
    rcases hp with ⟨rfl, v, hv, hB⟩ | ⟨k1, d, p, r, g1, j, rfl, hL, hT, hT2, hB⟩
    · rcases h2 with ⟨u, κ, g1, g2, rfl⟩ | ⟨x, g, k, d, p, rest, gs, e, rfl, g1, g2, g3, g4⟩
      · obtain rfl := hv.val g1
        exact .inl ⟨_, κ, .inr ⟨t, rfl, hB⟩, g2, rfl⟩
      · exact (hv.live g1).elim
    · rcases h2 with ⟨u, κ, g1, g2, rfl⟩ | ⟨x, g, k, d', p', rest, gs, rfl, e, q1, q2, q3, q4⟩
      · exact (g1.live hL).elim
      · obtain rfl : k1 = k := by simpa using e
        obtain ⟨rfl, rfl, rfl⟩ := hL.unique q1
        obtain rfl := hT.unique q2
        exact .inr ⟨x, g, t, _, _, j, g1 ++ fs', rfl, rfl, ⟨hB, hL.op⟩, hT2, q3, by rw [List.append_nil]; exact q4⟩
/-- Then: of any task, and a closure of which, with the task, is told when its box is laid -/
theorem thenM_any {A : Type} (O : Ops A) (n : Option Addr) (F : Nat) (caps : Array Value) (R : Tre A) (Q M : Nat → Prop) (w : World) (hn : ∀ j, n = some ⟨j, 0, none⟩ → j < w.heap.size) (hQ : ∀ k, w.heap.size ≤ k → Q k)
    (hJ : ∀ w1 (Q1 : Nat → Prop) f, Below w.heap.size w w1 → Blk w1 f 89 #[cloV F caps] → w.heap.size ≤ f → f < w1.heap.size → Q1 f → (∀ b, b < w.heap.size → Q b → Q1 b) → JmF O w1 Q1 M n [f] R) :
    Calls Tryz.prog 137 #[.pointer n, cloV F caps] w fun e w' => ∃ t M2, e = .returned (pV t) ∧ w.heap.size ≤ t ∧ JmF O w' (fun b => Q b ∧ b ≠ t) M2 (some ⟨t, 0, none⟩) [] R ∧ (∀ x, x < w.heap.size → M2 x → M x) ∧ Keep M w w' := by
  have hmf : ∀ (fn : Fn) (first cap : Array Value) (w : World), (Instr.makeFunc fn first cap).run Tryz.prog w = .ok (.func fn first cap) w := fun _ _ _ _ => rfl
  have HQ := Lib.hid hQ
  have HK := Lib.hid hJ
  have HN := Lib.hid hn
  clear hQ hJ hn
  go_enter Tryz.func137, Tryz.ntmps137
  go_upto_region 1 with fail
  generalize hW : (w.alloc _) = W
  have bW : Below w.heap.size w W := by rw [← hW]; go_grown
  have q0 : Blk W w.heap.size 89 #[cloV F caps] := by rw [← hW]; exact Blk.new w _ _
  clear hW
  go_upto_region 2 with (go_at_call 220; refine (only_any _ _ _).mono ?_; rintro e w2 ⟨lp, rfl, l1, l2, l3⟩)
  have hs2 := l3.size
  have hsW := bW.size
  generalize hW3 : (w2.alloc _) = W3
  have b3 : Below W.heap.size W W3 := by rw [← hW3]; exact l3.alloc (by omega) _
  have s3 : W3.heap.size = w2.heap.size + 1 := by rw [← hW3]; simp
  have qt : Blk W3 w2.heap.size 161 #[.nilFunc, .pointer none, pV lp, .int .i64 0] := by rw [← hW3]; exact Blk.new w2 _ _
  have ql : Blk W3 lp 305 #[.pointer none, .pointer none, cloV 221 #[pV w.heap.size]] := by rw [← hW3]; exact l2.alloc _
  have hlp := l2.lt
  clear hW3
  have bw3 : Below w.heap.size w W3 := bW.trans (b3.mono hsW)
  have qf := q0.below b3 q0.lt
  have hqf := q0.lt
  have J3 := HK.out W3 (fun b => Q b ∧ b ≠ w2.heap.size) w.heap.size bw3 qf (Nat.le_refl _) qf.lt ⟨HQ.out _ (Nat.le_refl _), by omega⟩ (fun b hb h => ⟨h, by omega⟩)
  have HM := Lib.hid (show ∀ b, M b → b < w.heap.size → True from fun _ _ _ => trivial)
  obtain ⟨hml⟩ : Nonempty (Hid (¬ M lp)) := ⟨Lib.hid fun h => by
    have J4 := HK.out W3 (fun b => Q b ∧ b ≠ w2.heap.size ∧ b ≠ lp) w.heap.size bw3 qf (Nat.le_refl _) qf.lt ⟨HQ.out _ (Nat.le_refl _), by omega, by omega⟩ (fun b hb h => ⟨h, by omega, by omega⟩)
    exact (J4.few lp h).1.2.2 rfl⟩
  have HG := Lib.hid (goon_treeM O w2.heap.size n .nilFunc (.pointer none) (pV lp) [w.heap.size] (fun b => Q b ∧ b ≠ w2.heap.size) M R W3
    qt (.inr ⟨0, lp, rfl, .leaf lp _ ⟨⟨HQ.out _ (by omega), by omega⟩, hml.out⟩ ql⟩) (fun j hj => ⟨HQ.out _ (by omega), by omega⟩) (fun h => h.2 rfl)
    (fun j e => by have := HN.out j e; omega) J3)
  have HF := Lib.hid J3.few
  clear qt ql qf J3
  go_wp2_with (go_at_call 119; refine HG.out.mono ?_; rintro e w4 ⟨rfl, k4, M2, hm, hT4⟩)
  go_ret
  refine ⟨w2.heap.size, M2, rfl, by omega, hT4, fun x hx h => hm x (by have := bw3.size; omega) h, (Keep.ofBelow bw3).step k4 (fun i hi h => ?_)⟩
  rcases h with h | h
  · omega
  · exact h
/-- a task of a caller's own, at block t, of the blocks of which Q is said -/
def TkM {A : Type} (O : Ops A) (w : World) (t : Nat) (Q : Nat → Prop) (T : Tre A) : Prop :=
  ∃ Q1 M : Nat → Prop, JmF O w Q1 M (some ⟨t, 0, none⟩) [] T ∧ ¬ Q1 t ∧ (∀ b, Q1 b ∨ b = t → Q b) ∧ ∀ b, Q b → b < w.heap.size
theorem TkM.keep {A : Type} {O : Ops A} {w w1 : World} {t : Nat} {Q F : Nat → Prop} {T : Tre A} (h : TkM O w t Q T) (hk : Keep F w w1) (hn : ∀ b, Q b → ¬ F b) : TkM O w1 t Q T := by
  obtain ⟨Q1, M, h1, h2, h3, h4⟩ := h
  exact ⟨Q1, M, h1.keep hk (fun b hb => hn b (h3 b (.inl hb))) (fun k e => by injection e with e; injection e with e; exact e ▸ hn t (h3 t (.inr rfl))) (fun _ _ h => h), h2, h3, fun b hb => Nat.lt_of_lt_of_le (h4 b hb) hk.size⟩
theorem TkM.lt {A : Type} {O : Ops A} {w : World} {t : Nat} {Q : Nat → Prop} {T : Tre A} (h : TkM O w t Q T) : ∀ b, Q b → b < w.heap.size := by
  obtain ⟨Q1, M, h1, h2, h3, h4⟩ := h
  exact h4
theorem TkM.own {A : Type} {O : Ops A} {w : World} {t : Nat} {Q : Nat → Prop} {T : Tre A} (h : TkM O w t Q T) : Q t := by
  obtain ⟨Q1, M, h1, h2, h3, h4⟩ := h
  exact h3 t (.inr rfl)
theorem TkM.new {A : Type} {O : Ops A} {w' : World} {t : Nat} {Q M : Nat → Prop} {T : Tre A} (h : JmF O w' (fun b => Q b ∧ b ≠ t) M (some ⟨t, 0, none⟩) [] T) (hq : Q t) : TkM O w' t (fun b => Q b ∧ b < w'.heap.size) T :=
  ⟨fun b => (Q b ∧ b ≠ t) ∧ b < w'.heap.size, M, h.keep (Keep.refl (fun _ => False) w') (fun _ _ h => h) (fun _ _ h => h) (fun b hb h => ⟨h, hb⟩), fun h => h.1.2 rfl, fun b hb => by
    rcases hb with hb | rfl
    · exact ⟨hb.1.1, hb.2⟩
    · exact ⟨hq, h.lt⟩, fun b hb => hb.2⟩
theorem TkT.tkM {A : Type} {O : Ops A} {w : World} {t : Nat} {Q : Nat → Prop} {T : Tre A} (h : TkT O w t Q T) : TkM O w t Q T := by
  obtain ⟨Q1, h1, h2, h3, h4⟩ := h
  exact ⟨Q1, _, jmF_pure O h1, h2, h3, h4⟩
theorem TkM.done {A : Type} {O : Ops A} {w : World} {t : Nat} {Q : Nat → Prop} {v : Int} (h : TkM O w t Q (retT v)) : DoneV w (some ⟨t, 0, none⟩) v := by
  obtain ⟨Q1, M, h1, h2, h3, h4⟩ := h
  rcases h1 with ⟨u, κ, g1, g2, e⟩ | ⟨x, κ, k, d, p, rest, fs, e, _⟩
  · obtain rfl := g2.ret
    rw [retT_inj e]; exact g1
  · exact (ret_op e).elim
theorem TkM.live {A : Type} {O : Ops A} {w : World} {t : Nat} {Q : Nat → Prop} {x : A} {κ : Int → Tre A} (h : TkM O w t Q (opT x κ)) :
    ∃ Q1 M : Nat → Prop, ¬ Q1 t ∧ (∀ b, Q1 b ∨ b = t → Q b) ∧ t < w.heap.size ∧ ∃ d p rest fs, Live w t d p rest ∧ TreeO w (fun b => Q1 b ∧ ¬ M b) rest fs ∧ O.is w Q1 x d p ∧ ContsM O w Q1 M fs κ := by
  obtain ⟨Q1, M, h1, h2, h3, h4⟩ := h
  refine ⟨Q1, M, h2, h3, h4 t (h3 t (.inr rfl)), ?_⟩
  rcases h1 with ⟨u, κ', g1, g2, e⟩ | ⟨x', κ', k, d, p, rest, fs, e, e2, g1, g2, g3, g4⟩
  · obtain rfl := g2.ret
    exact (ret_op e.symm).elim
  · obtain ⟨rfl, rfl⟩ := opT_inj e
    injection e2 with e2
    injection e2 with e2
    subst e2
    rw [List.append_nil] at g4
    exact ⟨d, p, rest, fs, g1, g2, g3, g4⟩
theorem tdoneM_ret {A : Type} {O : Ops A} (t : Nat) (Q : Nat → Prop) (v : Int) (w : World) (h : TkM O w t Q (retT v)) : Calls Tryz.prog 38 #[pV t] w fun e w' => e = .returned (.bool true) ∧ w = w' := doneV_done _ v w h.done
theorem tdoneM_op {A : Type} {O : Ops A} (t : Nat) (Q : Nat → Prop) (x : A) (κ : Int → Tre A) (w : World) (h : TkM O w t Q (opT x κ)) : Calls Tryz.prog 38 #[pV t] w fun e w' => e = .returned (.bool false) ∧ w = w' := by
  obtain ⟨_, _, _, _, _, d, p, rest, fs, hL, _⟩ := h.live
  exact live_done t d p rest w hL
theorem tvalueM_ret {A : Type} {O : Ops A} (t : Nat) (Q : Nat → Prop) (v : Int) (w : World) (h : TkM O w t Q (retT v)) : Calls Tryz.prog 27 #[pV t] w fun e w' => e = .returned (.int .i64 v) ∧ w = w' := doneV_value _ v w h.done
theorem tvalueM_op {A : Type} {O : Ops A} (t : Nat) (Q : Nat → Prop) (x : A) (κ : Int → Tre A) (w : World) (h : TkM O w t Q (opT x κ)) : Calls Tryz.prog 27 #[pV t] w fun e w' => e = .returned (.int .i64 0) ∧ w = w' := by
  obtain ⟨_, _, _, _, _, d, p, rest, fs, hL, _⟩ := h.live
  exact value_any t _ _ _ 0 w hL.blk
theorem tstepM_ret {A : Type} {O : Ops A} (t : Nat) (Q : Nat → Prop) (v k : Int) (w : World) (h : TkM O w t Q (retT v)) : Calls Tryz.prog 37 #[pV t, .int .i64 k] w fun e w' => e = .returned (.bool false) ∧ w = w' := step_done _ v k w h.done
/-- a step that does an operation on cells -/
theorem tstepM_op (C P S t : Nat) (Q : Nat → Prop) (x : Itm) (κ : Int → Tre Itm) (m : List Int) (n : Int) (w : World) (h : TkM (cellOps C P) w t Q (opT x κ)) (hC : CellsAt w C S m n) (hk : x.kind < 5) (hQ : ∀ b, Q b → b ≠ C ∧ b ≠ S) (hn : 0 ≤ n ∧ n ≤ 2000000) :
    Calls Tryz.prog 37 #[pV t, .int .i64 0] w fun e w' => e = .returned (.bool true) ∧ (∃ Q', TkM (cellOps C P) w' t Q' (κ (operS m x).2.1) ∧ ∀ b, Q' b → Q b ∨ w.heap.size ≤ b) ∧
      CellsAt w' C S (operS m x).1 (n + countS m x) ∧ Keep (fun b => Q b ∨ ofCells C S b) w w' := by
  obtain ⟨Q1, M, q1, q2, hlt, d, p, rest, fs, hL, hT, hO, hc⟩ := h.live
  have hcq : ∀ b, Q1 b → ¬ ofCells C S b := fun b hb hf => by
    have := hQ b (q2 b (.inl hb))
    rcases hf with hf | hf
    · exact this.1 hf
    · exact this.2 hf
  have htc : ¬ ofCells C S t := fun hf => by
    have := hQ t (q2 t (.inr rfl))
    rcases hf with hf | hf
    · exact this.1 hf
    · exact this.2 hf
  obtain ⟨b, F, caps, rfl, rfl, b1, b2, b3⟩ : ∃ b F caps, d = cloV 260 #[pV b] ∧ p = .pointer none ∧ Q1 b ∧ Blk w b _ #[cloV F caps] ∧ CloAt w C Q1 x F caps := by
    rcases hO with hO | ⟨hO, _⟩ | ⟨hO, _⟩
    · exact hO
    · omega
    · omega
  have hM := hc.few
  refine step_yes t _ _ rest 0 w (fun v' w2 => v' = (operS m x).2.1 ∧ CellsAt w2 C S (operS m x).1 (n + countS m x) ∧ Keep (ofCells C S) w w2)
    (fun w' => (∃ Q', TkM (cellOps C P) w' t Q' (κ (operS m x).2.1) ∧ ∀ b, Q' b → Q b ∨ w.heap.size ≤ b) ∧ CellsAt w' C S (operS m x).1 (n + countS m x) ∧ Keep (fun b => Q b ∨ ofCells C S b) w w') hL ?_ ?_
  · refine opend_do b w _ fun W hb => ?_
    have kW : Keep (fun _ => False) w W := Keep.ofBelow hb
    refine (do6_any C S Q1 m n x b F caps W (b2.below hb b2.lt) (b3.keep kW (fun _ _ h => h) (fun _ _ h => h)) (hC.keep kW (fun h => h) (fun h => h)) hn.1 (by omega)).mono ?_
    rintro e w' ⟨v', rfl, e1, e2, e3⟩
    exact ⟨v', rfl, e1, e2, (Keep.ofBelow hb).trans e3⟩
  · rintro v' w2 w3 k ⟨rfl, hC2, hk2⟩ g1 g2 g3
    have k3 : Keep (ofCells C S) w w3 := hk2.trans (Keep.ofBelow g3)
    have s2 := hk2.size
    have s3 := k3.size
    have hT3 : TreeO w3 (fun b => (Q1 b ∨ w.heap.size ≤ b) ∧ ¬ M b) rest fs := (hT.keep k3 (fun b hb => hcq b hb.1)).mono (fun b _ h => ⟨.inl h.1, h.2⟩)
    have hC3 : ContsM (cellOps C P) w3 (fun b => Q1 b ∨ w.heap.size ≤ b) M fs κ := hc.keep k3 hcq (fun b _ h => .inl h)
    refine (goon_treeM (cellOps C P) t (some ⟨k, 0, none⟩) _ _ rest fs (fun b => Q1 b ∨ w.heap.size ≤ b) M _ w3 (hL.blk.keep k3 htc) hT3 (fun j hj => .inr (by omega)) (fun hh => hh.elim q1 (fun h => by omega)) (fun j e => by injection e with e; injection e with e; omega) (.inl ⟨_, κ, g2, hC3, rfl⟩)).mono ?_
    rintro e w' ⟨rfl, k4, M2, hm2, hT4⟩
    have s4 := k4.size
    have k5 : Keep (fun b => Q b ∨ ofCells C S b) w w' := by
      refine (k3.mono (fun _ _ h => .inr h)).step k4 (fun i hi h => .inl ?_)
      rcases h with h | h
      · exact q2 i (.inr h)
      · exact q2 i (.inl (hM i h).1)
    refine ⟨rfl, ⟨fun b => (Q b ∨ w.heap.size ≤ b) ∧ b < w'.heap.size, ⟨fun b => (Q1 b ∨ w.heap.size ≤ b) ∧ b < w'.heap.size, M2, hT4.keep (Keep.refl (fun _ => False) w') (fun _ _ h => h) (fun _ _ h => h) (fun b hb hq => ⟨hq, hb⟩), fun hh => ?_, fun b hb => ?_, fun b hb => hb.2⟩, fun b hb => hb.1⟩, ?_, k5⟩
    · rcases hh.1 with hh | hh
      · exact q1 hh
      · omega
    · rcases hb with ⟨hb | hb, hlt2⟩ | rfl
      · exact ⟨.inl (q2 b (.inl hb)), hlt2⟩
      · exact ⟨.inr hb, hlt2⟩
      · exact ⟨.inl (q2 b (.inr rfl)), by omega⟩
    · have hC4 := hC2.keep (Keep.ofBelow (Q := fun _ => False) g3) (fun h => h) (fun h => h)
      refine hC4.keep k4 (fun e => ?_) (fun e => ?_)
      · rcases e with e | e
        · exact htc (.inl e.symm)
        · exact hcq C (hM C e).1 (.inl rfl)
      · rcases e with e | e
        · exact htc (.inr e.symm)
        · exact hcq S (hM S e).1 (.inr rfl)
end Go.Proofs.YtldofbkjjmnooaaGreat
