/- Package task: a task that belongs to a caller: its steps. -/
import Derived.Test.YtpejmkoheodblaaGreatTaskL
namespace Go.Proofs.YtpejmkoheodblaaGreat
open Go.ChangeShapes Go.WideShapes Go.ChangeAt Go.RowKit
set_option linter.unusedVariables false
set_option maxRecDepth 100000
set_option linter.unusedSimpArgs false
/-- a task at block t, of the blocks of which Q is said; what is left of it; its value when nothing is -/
def TaskG (w : World) (C P : Nat) (t : Nat) (Q : Nat → Prop) (r : List Itm) (v : Int) : Prop :=
  ∃ Q1 : Nat → Prop, TaskC w C P Q1 t r v ∧ ¬ Q1 t ∧ (∀ b, Q1 b ∨ b = t → Q b) ∧ ∀ b, Q b → b < w.heap.size
theorem TaskG.keep {w w1 : World} {C P t : Nat} {Q : Nat → Prop} {r : List Itm} {v : Int} {F : Nat → Prop} (h : TaskG w C P t Q r v) (hk : Keep F w w1) (hn : ∀ b, Q b → ¬ F b) : TaskG w1 C P t Q r v := by
  obtain ⟨Q1, h1, h2, h3, h4⟩ := h
  exact ⟨Q1, h1.keep hk (fun b hb => hn b (h3 b (.inl hb))) (hn t (h3 t (.inr rfl))) (fun _ _ h => h), h2, h3, fun b hb => Nat.lt_of_lt_of_le (h4 b hb) hk.size⟩
theorem TaskG.lt {w : World} {C P t : Nat} {Q : Nat → Prop} {r : List Itm} {v : Int} (h : TaskG w C P t Q r v) : ∀ b, Q b → b < w.heap.size := by
  obtain ⟨Q1, h1, h2, h3, h4⟩ := h
  exact h4
theorem TaskG.own {w : World} {C P t : Nat} {Q : Nat → Prop} {r : List Itm} {v : Int} (h : TaskG w C P t Q r v) : Q t := by
  obtain ⟨Q1, h1, h2, h3, h4⟩ := h
  exact h3 t (.inr rfl)
theorem TaskG.fresh {w : World} {C P t : Nat} {Q : Nat → Prop} {r : List Itm} {v : Int} (h : TaskG w C P t Q r v) : Fresh r := by
  obtain ⟨Q1, h1, h2, h3, h4⟩ := h
  exact TaskIn.fresh h1
/-- of a new one -/
theorem Made6.taskG {w w' : World} {C P t : Nat} {Q : Nat → Prop} {r : List Itm} {v : Int} (h : Made6 w C P Q r v t w') (hq : Q t) : TaskG w' C P t (fun b => Q b ∧ b < w'.heap.size) r v :=
  ⟨fun b => (Q b ∧ b ≠ t) ∧ b < w'.heap.size, TaskC.keep (F := fun _ => False) h.2.1 (Keep.refl _ _) (fun _ _ h => h) (fun h => h) (fun b hb hq => ⟨hq, hb⟩), fun h => h.1.2 rfl,
    fun b hb => by
      rcases hb with hb | rfl
      · exact ⟨hb.1.1, hb.2⟩
      · exact ⟨hq, h.2.1.lt⟩, fun b hb => hb.2⟩
/-- what was made, behind a step -/
theorem TaskG.from {w w' : World} {C P t : Nat} {Q Q1 : Nat → Prop} {r : List Itm} {v : Int} (ht : t < w.heap.size) (hw : w.heap.size ≤ w'.heap.size) (h1 : ∀ b, Q1 b ∨ b = t → Q b) (h2 : ¬ Q1 t) (h : TaskC w' C P (fun b => Q1 b ∨ w.heap.size ≤ b) t r v) :
    ∃ Q', TaskG w' C P t Q' r v ∧ ∀ b, Q' b → Q b ∨ w.heap.size ≤ b :=
  ⟨fun b => (Q b ∨ w.heap.size ≤ b) ∧ b < w'.heap.size, ⟨fun b => (Q1 b ∨ w.heap.size ≤ b) ∧ b < w'.heap.size, TaskC.keep (F := fun _ => False) h (Keep.refl _ _) (fun _ _ h => h) (fun h => h) (fun b hb hq => ⟨hq, hb⟩),
    fun hh => by rcases hh.1 with hh | hh
                 · exact h2 hh
                 · omega,
    fun b hb => by
      rcases hb with ⟨hb | hb, hlt⟩ | rfl
      · exact ⟨.inl (h1 b (.inl hb)), hlt⟩
      · exact ⟨.inr hb, hlt⟩
      · exact ⟨.inl (h1 b (.inr rfl)), by omega⟩, fun b hb => hb.2⟩, fun b hb => hb.1⟩
theorem TaskG.view {w : World} {C P t : Nat} {Q : Nat → Prop} {x : Itm} {r : List Itm} {v : Int} (h : TaskG w C P t Q (x :: r) v) :
    ∃ Q1 : Nat → Prop, ¬ Q1 t ∧ (∀ b, Q1 b ∨ b = t → Q b) ∧ t < w.heap.size ∧ ∃ d p rest gs fs, Live w t d p rest ∧ TreeO w Q1 rest (gs ++ fs) ∧ OpAt w C P Q1 x d p gs ∧ Conts (Cont w C P Q1) fs r := by
  obtain ⟨Q1, h1, h2, h3, h4⟩ := h
  refine ⟨Q1, h2, h3, h4 t (h3 t (.inr rfl)), ?_⟩
  rcases h1.view with ⟨e, _⟩ | ⟨x', r', d, p, rest, gs, fs, e, g1, g2, g3, g4⟩
  · cases e
  · obtain ⟨rfl, rfl⟩ := List.cons.inj e
    exact ⟨d, p, rest, gs, fs, g1, g2, g3, g4⟩
theorem TaskG.done {w : World} {C P t : Nat} {Q : Nat → Prop} {v : Int} (h : TaskG w C P t Q [] v) : DoneV w (some ⟨t, 0, none⟩) v := by
  obtain ⟨Q1, h1, h2, h3, h4⟩ := h
  rcases h1.view with ⟨_, h⟩ | ⟨x', r', d, p, rest, gs, fs, e, _⟩
  · exact h
  · cases e
theorem oper_spin {m : List Int} {x : Itm} (h : x.kind = 4) : ((operS m x).2.2 = true ∧ (operS m x).2.1 = 1) ∨ ((operS m x).2.2 = false ∧ (operS m x).2.1 = 0) := by
  unfold operS
  cases m[x.at']? with
  | none => right; simp [h]
  | some c =>
    by_cases hc : c = x.a
    · left; simp [h, hc]
    · right; simp [h, hc]
theorem oper_else {m : List Int} {x : Itm} (h : x.kind < 4) : (operS m x).2.2 = true := by
  unfold operS
  cases m[x.at']? with
  | none => have : x.kind ≠ 4 := by omega
            simp [this]
  | some c =>
    have : x.kind ≠ 4 := by omega
    dsimp only
    split
    · rfl
    · split
      · split
        · rfl
        · have : x.kind = 2 := by omega
          simp [this]
      · split <;> rfl
/-- a step that does an operation -/
theorem op_yes (C P S t : Nat) (Q : Nat → Prop) (x : Itm) (r : List Itm) (v : Int) (m : List Int) (n : Int) (w : World) (h : TaskG w C P t Q (x :: r) v) (hC : CellsAt w C S m n) (hk : x.kind < 5) (hQ : ∀ b, Q b → b ≠ C ∧ b ≠ S) (hn : 0 ≤ n ∧ n ≤ 2000000) :
    Calls Tryz.prog 36 #[pV t, .int .i64 0] w fun e w' => e = .returned (.bool true) ∧ (∃ Q', TaskG w' C P t Q' (if (operS m x).2.2 then onS r (operS m x).2.1 else (x :: r, v)).1 (if (operS m x).2.2 then onS r (operS m x).2.1 else (x :: r, v)).2 ∧ ∀ b, Q' b → Q b ∨ w.heap.size ≤ b) ∧
      CellsAt w' C S (operS m x).1 (n + countS m x) ∧ Keep (fun b => b = t ∨ ofCells C S b) w w' := by
  obtain ⟨Q1, q1, q2, hlt, d, p, rest, gs, fs, hL, hT, hO, hc⟩ := h.view
  have hcq : ∀ b, Q1 b → ¬ ofCells C S b := fun b hb hf => by
    have := hQ b (q2 b (.inl hb))
    rcases hf with hf | hf
    · exact this.1 hf
    · exact this.2 hf
  have htc : ¬ ofCells C S t := fun hf => by
    have := hQ t (q2 t (.inr rfl))
    rcases hf with hf | hf
    · exact this.1 hf
    · exact this.2 hf
  obtain ⟨⟨b, F, caps, rfl, rfl, b1, b2, b3⟩, hO2⟩ : (∃ b F caps, d = cloV 129 #[pV b] ∧ p = .pointer none ∧ Q1 b ∧ Blk w b _ #[cloV F caps] ∧ CloAt w C Q1 x F caps) ∧ ((x.kind ≠ 4 ∧ gs = []) ∨ (x.kind = 4 ∧ ∃ k3 k2, gs = [k3, k2] ∧ Link3 w Q1 k3 ∧ Link2 w C Q1 x k2)) := by
    rcases hO with hO | ⟨hO, _⟩
    · exact hO
    · omega
  obtain ⟨RV, hRV⟩ : ∃ RV, (if (operS m x).2.2 then onS r (operS m x).2.1 else (x :: r, v)) = RV := ⟨_, rfl⟩
  rw [hRV]
  refine step_yes t _ _ rest 0 w (fun v' w2 => v' = (operS m x).2.1 ∧ CellsAt w2 C S (operS m x).1 (n + countS m x) ∧ Keep (ofCells C S) w w2)
    (fun w' => (∃ Q', TaskG w' C P t Q' RV.1 RV.2 ∧ ∀ b, Q' b → Q b ∨ w.heap.size ≤ b) ∧ CellsAt w' C S (operS m x).1 (n + countS m x) ∧ Keep (fun b => b = t ∨ ofCells C S b) w w') hL ?_ ?_
  · refine opend_do b w _ fun W hb => ?_
    have kW : Keep (fun _ => False) w W := Keep.ofBelow hb
    refine (do6_any C S Q1 m n x b F caps W (b2.below hb b2.lt) (b3.keep kW (fun _ _ h => h) (fun _ _ h => h)) (hC.keep kW (fun h => h) (fun h => h)) hn.1 (by omega)).mono ?_
    rintro e w' ⟨v', rfl, e1, e2, e3⟩
    exact ⟨v', rfl, e1, e2, (Keep.ofBelow hb).trans e3⟩
  · rintro v' w2 w3 k ⟨rfl, hC2, hk2⟩ g1 g2 g3
    have k3 : Keep (ofCells C S) w w3 := hk2.trans (Keep.ofBelow g3)
    have s2 := hk2.size
    have hq : ∀ b, b < w.heap.size → Q1 b → (Q1 b ∨ w.heap.size ≤ b) := fun b _ h => .inl h
    have hc3 : Conts (Cont w3 C P (fun b => Q1 b ∨ w.heap.size ≤ b)) fs r := hc.keep k3 hcq hq
    have hT3 : TreeO w3 (fun b => Q1 b ∨ w.heap.size ≤ b) rest (gs ++ fs) := (hT.keep k3 hcq).mono (fun b _ h => .inl h)
    have hJ : Jot C P (fun b => Q1 b ∨ w.heap.size ≤ b) t RV.1 RV.2 w3 (some ⟨k, 0, none⟩) (gs ++ fs) := by
      rcases hO2 with ⟨h4, rfl⟩ | ⟨h4, k3', k2', rfl, l3, l2⟩
      · rw [oper_else (by omega), if_pos rfl] at hRV
        exact .inl ⟨k, [], _, r, rfl, by omega, done_task g2, hc3, fun _ => hRV, fun h => absurd rfl h⟩
      · refine .inr (.inr ⟨k, _, x, k3', k2', fs, r, rfl, by omega, rfl, g2, h4, l3.keep k3 hcq hq, l2.keep k3 hcq hq, hc3, fun hv => ?_, fun hv => ?_⟩)
        · rcases oper_spin (m := m) h4 with ⟨e1, e2⟩ | ⟨e1, e2⟩
          · rw [e2] at hv; cases hv
          · rw [e1, if_neg (by simp)] at hRV
            rw [← hRV]
        · rcases oper_spin (m := m) h4 with ⟨e1, e2⟩ | ⟨e1, e2⟩
          · rw [e1, if_pos rfl] at hRV
            exact ⟨by rw [e2]; decide, hRV⟩
          · exact absurd e2 hv
    refine (goon_task C P (fun b => Q1 b ∨ w.heap.size ≤ b) t k RV.1 RV.2 _ _ rest (gs ++ fs) w3 (hL.blk.keep k3 htc) hT3 (fun j hj => .inr (by have := k3.size; omega)) (fun hh => hh.elim q1 (fun h => by omega)) hJ).mono ?_
    rintro e w' ⟨rfl, k4, hT4⟩
    have k5 : Keep (fun b => b = t ∨ ofCells C S b) w w' := (k3.mono (fun _ _ h => .inr h)).trans (k4.mono (fun _ _ h => .inl h))
    refine ⟨rfl, TaskG.from hlt k5.size q2 q1 hT4, ?_, k5⟩
    have hC3 := hC2.keep (Keep.ofBelow (Q := fun _ => False) g3) (fun h => h) (fun h => h)
    exact hC3.keep k4 (fun e => htc (.inl e.symm)) (fun e => htc (.inr e.symm))
/-- a step that ends a parking -/
theorem park_yes (C P R t : Nat) (cs : List Nat) (ps : List Bool) (Q : Nat → Prop) (x : Itm) (r : List Itm) (v k : Int) (b : Bool) (w : World) (h : TaskG w C P t Q (x :: r) v) (hP : PermitsAt w P R cs ps) (hk : x.kind = 5 ∨ x.kind = 6) (hx : ps[x.at']? = some b) (he : endsS b (x.kind == 6) k = true) (hQ : ∀ b, Q b → b ∉ cs) :
    Calls Tryz.prog 36 #[pV t, .int .i64 k] w fun e w' => e = .returned (.bool true) ∧ (∃ Q', TaskG w' C P t Q' (onS r k).1 (onS r k).2 ∧ ∀ b, Q' b → Q b ∨ w.heap.size ≤ b) ∧
      PermitsAt w' P R cs (if k = 0 then ps.set x.at' false else ps) ∧ Keep (fun b => b = t ∨ b ∈ cs) w w' := by
  obtain ⟨Q1, q1, q2, hlt, d, p, rest, gs, fs, hL, hT, hO, hc⟩ := h.view
  have hcq : ∀ b, Q1 b → ¬ (b ∈ cs) := fun b hb => hQ b (q2 b (.inl hb))
  have htc : ¬ (t ∈ cs) := hQ t (q2 t (.inr rfl))
  obtain ⟨rfl, rfl, pb, rfl, p1, p2⟩ : d = .nilFunc ∧ gs = [] ∧ ∃ pb, p = pV pb ∧ Q1 pb ∧ Blk w pb _ #[pV P, .int .i64 x.at', .bool (x.kind == 6)] := by
    rcases hO with ⟨⟨b, F, caps, _, _, _, _, bc, bi, _, _, _, _, hO⟩, _⟩ | hO
    · rcases hO with ⟨h, _⟩ | ⟨h, _⟩ | ⟨h, _⟩ | ⟨h, _⟩ <;> omega
    · exact ⟨hO.2.1, hO.2.2.1, hO.2.2.2⟩
  refine step_yes t _ _ rest k w (fun v' w2 => v' = k ∧ PermitsAt w2 P R cs (if k = 0 then ps.set x.at' false else ps) ∧ Keep (fun b => b ∈ cs) w w2)
    (fun w' => (∃ Q', TaskG w' C P t Q' (onS r k).1 (onS r k).2 ∧ ∀ b, Q' b → Q b ∨ w.heap.size ≤ b) ∧ PermitsAt w' P R cs (if k = 0 then ps.set x.at' false else ps) ∧ Keep (fun b => b = t ∨ b ∈ cs) w w') hL ?_ ?_
  · refine (opend_park pb k k true w (fun w2 => PermitsAt w2 P R cs (if k = 0 then ps.set x.at' false else ps) ∧ Keep (fun b => b ∈ cs) w w2) fun W hb => ?_).mono ?_
    · have kW : Keep (fun _ => False) w W := Keep.ofBelow hb
      have hPW := hP.keep kW (fun h => h) (fun h => h) (fun _ _ h => h)
      by_cases h0 : k = 0
      · subst h0
        obtain rfl : b = true := by simpa [endsS] using he
        refine (pend_take P R cs ps pb x.at' _ W (p2.below hb p2.lt) hPW hx).mono ?_
        rintro e w' ⟨rfl, g1, g2⟩
        exact ⟨rfl, by simpa using g1, (Keep.ofBelow hb).trans g2⟩
      · refine (pend_kind P R cs ps pb x.at' _ b k W (p2.below hb p2.lt) hPW hx he h0).mono ?_
        rintro e w' ⟨rfl, g1⟩
        exact ⟨rfl, by rw [if_neg h0]; exact hPW.keep g1 (fun h => h) (fun h => h) (fun _ _ h => h), (Keep.ofBelow hb).trans (g1.mono (fun _ _ h => h.elim))⟩
    · rintro e w' ⟨rfl, g1, g2⟩
      exact ⟨k, rfl, rfl, g1, g2⟩
  · rintro v' w2 w3 n ⟨rfl, hP2, hk2⟩ g1 g2 g3
    have k3 : Keep (fun b => b ∈ cs) w w3 := hk2.trans (Keep.ofBelow g3)
    have s2 := hk2.size
    have hq : ∀ b, b < w.heap.size → Q1 b → (Q1 b ∨ w.heap.size ≤ b) := fun b _ h => .inl h
    have hc3 : Conts (Cont w3 C P (fun b => Q1 b ∨ w.heap.size ≤ b)) fs r := hc.keep k3 hcq hq
    have hT3 : TreeO w3 (fun b => Q1 b ∨ w.heap.size ≤ b) rest ([] ++ fs) := (hT.keep k3 hcq).mono (fun b _ h => .inl h)
    have hJ : Jot C P (fun b => Q1 b ∨ w.heap.size ≤ b) t (onS r v').1 (onS r v').2 w3 (some ⟨n, 0, none⟩) ([] ++ fs) :=
      .inl ⟨n, [], _, r, rfl, by omega, done_task g2, hc3, fun _ => rfl, fun h => absurd rfl h⟩
    refine (goon_task C P (fun b => Q1 b ∨ w.heap.size ≤ b) t n (onS r v').1 (onS r v').2 _ _ rest ([] ++ fs) w3 (hL.blk.keep k3 htc) hT3 (fun j hj => .inr (by have := k3.size; omega)) (fun hh => hh.elim q1 (fun h => by omega)) hJ).mono ?_
    rintro e w' ⟨rfl, k4, hT4⟩
    have k5 : Keep (fun b => b = t ∨ b ∈ cs) w w' := (k3.mono (fun _ _ h => .inr h)).trans (k4.mono (fun _ _ h => .inl h))
    refine ⟨rfl, TaskG.from hlt k5.size q2 q1 hT4, ?_, k5⟩
    have hP3 := hP2.keep (Keep.ofBelow (Q := fun _ => False) g3) (fun h => h) (fun h => h) (fun _ _ h => h)
    exact hP3.keep k4 (hP.own.apart hL.blk (by decide)) (hP.row.apart hL.blk (by decide)) (fun c hc e => htc (e ▸ hc))
end Go.Proofs.YtpejmkoheodblaaGreat
