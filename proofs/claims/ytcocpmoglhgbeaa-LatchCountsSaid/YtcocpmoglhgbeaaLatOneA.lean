/- LatchOne: the state of its loop. -/
import Derived.Test.YtcocpmoglhgbeaaLatTurn
namespace Go.Proofs.Ytcocpmoglhgbeaa
open Go.ChangeShapes Go.WideShapes Go.ChangeAt Go.RowKit
set_option linter.unusedVariables false
set_option maxRecDepth 100000
set_option linter.unusedSimpArgs false
abbrev ptV (x : Option Nat) : Value := .pointer (x.map fun k => ⟨k, 0, none⟩)
abbrev ptsV (l : List (Option Nat)) : Array Value := (l.map ptV).toArray
abbrev intsV (l : List Nat) : Array Value := (l.map fun k : Nat => Value.int .i64 (k : Int)).toArray
theorem ptsV_set (l : List (Option Nat)) (t : Nat) (x : Option Nat) : (ptsV l).setIfInBounds t (ptV x) = ptsV (l.set t x) := by
  simp [ptsV, List.map_set]
theorem intsV_set (l : List Nat) (t x : Nat) : (intsV l).setIfInBounds t (.int .i64 (x : Int)) = intsV (l.set t x) := by
  simp [intsV, List.map_set]
theorem ptsV_at {l : List (Option Nat)} {t : Nat} {x : Option Nat} (h : l[t]? = some x) : (ptsV l)[t]? = some (ptV x) := by simp [ptsV, h]
theorem intsV_at {l : List Nat} {t x : Nat} (h : l[t]? = some x) : (intsV l)[t]? = some (.int .i64 (x : Int)) := by simp [intsV, h]
theorem int_info9 : (Try.prog.info? 3).map (fun i => (i.zero, i.size, i.bytes)) = some (some (.int .i64 0), 1, 8) := by kernel_rfl
theorem make_pts (n : Nat) (w : World) (hn : n ≤ 1000) : (Instr.makeSlice 44 (.int .i64 (n : Int)) (.int .i64 (n : Int))).run Try.prog w = .ok (.slice (some ⟨w.heap.size, 0, none⟩) n n) (w.alloc (.cells (ptsV (List.replicate n none)) 29)) := by
  obtain ⟨i, hi, hz0, hz1, hz2⟩ := info_parts ptask_info
  have h := run_make (P := Try.prog) w 44 29 i _ Try.underlying44 hi hz0 .i64 .i64 n n (by omega) (by omega) (by rw [hz2]; omega) (by omega)
  have e : madeCells #[Value.pointer none] n = ptsV (List.replicate n none) := by
    rw [← Array.toList_inj, toList_madeCells_one]
    simp [ptsV]
  rw [h, hz1, Nat.mul_one]
  simp only [Int.toNat_natCast, ← e]
  rfl
theorem make_ints (n : Nat) (w : World) (hn : n ≤ 1000) : (Instr.makeSlice 45 (.int .i64 (n : Int)) (.int .i64 (n : Int))).run Try.prog w = .ok (.slice (some ⟨w.heap.size, 0, none⟩) n n) (w.alloc (.cells (intsV (List.replicate n 0)) 3)) := by
  obtain ⟨i, hi, hz0, hz1, hz2⟩ := info_parts int_info9
  have h := run_make (P := Try.prog) w 45 3 i _ Try.underlying45 hi hz0 .i64 .i64 n n (by omega) (by omega) (by rw [hz2]; omega) (by omega)
  have e : madeCells #[Value.int .i64 0] n = intsV (List.replicate n 0) := by
    rw [← Array.toList_inj, toList_madeCells_one]
    simp [intsV]
  rw [h, hz1, Nat.mul_one]
  simp only [Int.toNat_natCast, ← e]
  rfl
theorem idx_pts (n B i : Nat) (h : i < n) : ∀ W, (Instr.indexAt 44 (.slice (some ⟨B, 0, none⟩) n n) (.int .i64 (i : Int))).run Try.prog W = .ok (.pointer (some ⟨B, i, none⟩)) W := by
  intro W
  go_simp
theorem idx_ints9 (n B i : Nat) (h : i < n) : ∀ W, (Instr.indexAt 45 (.slice (some ⟨B, 0, none⟩) n n) (.int .i64 (i : Int))).run Try.prog W = .ok (.pointer (some ⟨B, i, none⟩)) W := by
  intro W
  go_simp
/-- where all lies -/
structure G1 where
  n0 : Nat
  C : Nat
  S : Nat
  A : Nat
  B : Nat
  D : Nat
  Y : Nat
  n : Nat
  K : Nat
  Lb : Nat
  cap : Nat
  a : Option Addr
abbrev G1.X (g : G1) : Nat → Prop := fun b => b = g.A ∨ b = g.B ∨ b = g.D ∨ b = g.Y
def cellO : Option Nat → Int
  | none => 0
  | some t => (t : Int) + 1
def ownO : Option Nat → Int
  | none => -1
  | some t => (t : Int)
/-- how far the threads are -/
def prog1 (V : List Nat) (o : Option Nat) : List (Nat × Nat) := V.mapIdx fun t v => (v, if o = some t then 1 else 0)
theorem prog1_at {V : List Nat} {o : Option Nat} {t v : Nat} (h : V[t]? = some v) : (prog1 V o)[t]? = some (v, if o = some t then 1 else 0) := by simp [prog1, h]
theorem prog1_len (V : List Nat) (o : Option Nat) : (prog1 V o).length = V.length := by simp [prog1]
theorem prog1_in {V : List Nat} {t v : Nat} (h : V[t]? = some v) : prog1 V (some t) = (prog1 V none).set t (v, 1) := by
  apply List.ext_getElem?
  intro j
  have hl := (List.getElem?_eq_some_iff.1 h).1
  by_cases e : t = j
  · subst e
    rw [List.getElem?_set_self (by rw [prog1_len]; exact hl), prog1_at h]
    simp
  · rw [List.getElem?_set_ne e]
    simp [prog1, e]
theorem prog1_out {V : List Nat} {t v : Nat} (h : V[t]? = some v) : prog1 (V.set t (v + 1)) none = (prog1 V (some t)).set t (v + 1, 0) := by
  apply List.ext_getElem?
  intro j
  have hl := (List.getElem?_eq_some_iff.1 h).1
  by_cases e : t = j
  · subst e
    rw [List.getElem?_set_self (by rw [prog1_len]; exact hl), prog1_at (v := v + 1) (by rw [List.getElem?_set_self hl])]
    simp
  · rw [List.getElem?_set_ne e]
    simp [prog1, e, List.getElem?_set_ne e]
theorem Wld.bare {n0 : Nat} {X : Nat → Prop} {w w1 : World} {C S : Nat} {m : List Int} {n : Int} (h : Wld n0 X w C S m n (fun _ => none)) (hb : Below w.heap.size w w1) (X' : Nat → Prop) (hX : ∀ b, X' b → b ≠ C ∧ b ≠ S ∧ b < w1.heap.size) : Wld n0 X' w1 C S m n (fun _ => none) := by
  have h1 := h.below hb
  exact ⟨h1.cells, h1.lo, hX, fun _ => 0, fun k t T e => by cases e⟩
structure L1 (g : G1) (w : World) (V : List Nat) (TA TD : List (Option Nat)) (o : Option Nat) (j : Nat) (τ : Nat → Option (Nat × Tre Itm)) (nn : Int) : Prop where
  wld : Wld g.n0 g.X w g.C g.S [cellO o] nn τ
  ba : Blk w g.A 29 (ptsV TA)
  bb : Blk w g.B 29 (ptsV TD)
  bd : Blk w g.D 3 (intsV V)
  bY : Blk w g.Y 43 (turnsV g.a g.Lb g.cap g.n j)
  bytes : BytesAt w g.n0 g.a g.Lb
  ne : g.A ≠ g.B ∧ g.A ≠ g.D ∧ g.A ≠ g.Y ∧ g.B ≠ g.D ∧ g.B ≠ g.Y ∧ g.D ≠ g.Y
  lo : g.n0 ≤ g.A ∧ g.n0 ≤ g.B ∧ g.n0 ≤ g.D ∧ g.n0 ≤ g.Y
  len : TA.length = g.n ∧ TD.length = g.n ∧ V.length = g.n
  sm : 1 ≤ g.n ∧ g.n ≤ 6 ∧ 1 ≤ g.K ∧ g.K ≤ 4 ∧ g.Lb ≤ 200
  cnt : 0 ≤ nn ∧ nn ≤ j
  ta : ∀ t k, TA[t]? = some (some k) → TD[t]? = some none → τ (2 * t) = some (k, spinT (takeI 0 t))
  td : ∀ t k, TD[t]? = some (some k) → o = some t ∧ τ (2 * t + 1) = some (k, itmT [dropI 0 t] 0)
  ow : ∀ t, o = some t → (∃ k, TD[t]? = some (some k)) ∧ ∃ v, V[t]? = some v ∧ v < g.K
  vk : ∀ v ∈ V, v ≤ g.K
theorem L1.xlo {g : G1} {w : World} {V : List Nat} {TA TD : List (Option Nat)} {o : Option Nat} {j : Nat} {τ : Nat → Option (Nat × Tre Itm)} {nn : Int} (h : L1 g w V TA TD o j τ nn) : ∀ b, g.X b → g.n0 ≤ b := by
  have := h.lo
  rintro b (rfl | rfl | rfl | rfl) <;> omega
/-- what is kept where only the program's own blocks turn -/
theorem L1.other {g : G1} {w w1 : World} {V : List Nat} {TA TD : List (Option Nat)} {o o' : Option Nat} {j : Nat} {τ τ' : Nat → Option (Nat × Tre Itm)} {nn nn' : Int} (h : L1 g w V TA TD o j τ nn) (hk : Keep (fun b => g.n0 ≤ b ∧ ¬ g.X b) w w1) (hW : Wld g.n0 g.X w1 g.C g.S [cellO o'] nn' τ') (hn : 0 ≤ nn' ∧ nn' ≤ j)
    (hta : ∀ t k, TA[t]? = some (some k) → TD[t]? = some none → τ' (2 * t) = some (k, spinT (takeI 0 t))) (htd : ∀ t k, TD[t]? = some (some k) → o' = some t ∧ τ' (2 * t + 1) = some (k, itmT [dropI 0 t] 0)) (how : ∀ t, o' = some t → (∃ k, TD[t]? = some (some k)) ∧ ∃ v, V[t]? = some v ∧ v < g.K) : L1 g w1 V TA TD o' j τ' nn' := by
  have nx : ∀ b, g.X b → ¬ (g.n0 ≤ b ∧ ¬ g.X b) := fun b hb hh => hh.2 hb
  exact ⟨hW, h.ba.keep hk (nx _ (.inl rfl)), h.bb.keep hk (nx _ (.inr (.inl rfl))), h.bd.keep hk (nx _ (.inr (.inr (.inl rfl)))), h.bY.keep hk (nx _ (.inr (.inr (.inr rfl)))), h.bytes.keep hk (fun b hb => hb.1), h.ne, h.lo, h.len, h.sm, hn, hta, htd, how, h.vk⟩
theorem L1.below {g : G1} {w w1 : World} {V : List Nat} {TA TD : List (Option Nat)} {o : Option Nat} {j : Nat} {τ : Nat → Option (Nat × Tre Itm)} {nn : Int} (h : L1 g w V TA TD o j τ nn) (hb : Below w.heap.size w w1) : L1 g w1 V TA TD o j τ nn :=
  h.other ((Keep.ofBelow (Q := fun _ => False) hb).mono (fun _ _ h => h.elim)) (h.wld.below hb) h.cnt h.ta h.td h.ow
/-- whose turn it is -/
theorem l1_next {g : G1} {w : World} {V : List Nat} {TA TD : List (Option Nat)} {o : Option Nat} {j : Nat} {τ : Nat → Option (Nat × Tre Itm)} {nn : Int} (h : L1 g w V TA TD o j τ nn) (hj : j ≤ 100000) :
    Calls Try.prog 21 #[pV g.Y] w fun e w' => ∃ t : Nat, e = .returned (.int .i64 (t : Int)) ∧ t < g.n ∧ (g.Lb ≤ j → t = (j + 1) % g.n) ∧ L1 g w' V TA TD o (j + 1) τ nn ∧ Below g.n0 w w' := by
  have hlo := h.lo
  have hlt := h.wld.lo.2.2
  refine (next_any g.Y g.n j g.Lb g.cap g.n0 g.a w h.bY h.bytes hlo.2.2.2 ⟨h.sm.1, h.sm.2.1⟩ hj h.sm.2.2.2.2).mono ?_
  rintro e w' ⟨t, rfl, h1, h2, h3, hk⟩
  have hne := h.ne
  refine ⟨t, rfl, h1, h2, ⟨h.wld.keep hk (fun b hb => .inr (.inr (.inr hb))), h.ba.keep hk (by omega), h.bb.keep hk (by omega), h.bd.keep hk (by omega), h3, h.bytes.keep hk (fun b hb => by omega), h.ne, h.lo, h.len, h.sm, ⟨h.cnt.1, by have := h.cnt.2; omega⟩, h.ta, h.td, h.ow, h.vk⟩, hk.below hlt (fun b _ hb => by omega)⟩
theorem set_at {α : Type} {l : List α} {t u : Nat} {x y : α} (h : (l.set t x)[u]? = some y) : (u = t ∧ y = x) ∨ (u ≠ t ∧ l[u]? = some y) := by
  by_cases e : t = u
  · subst e
    left
    have hl : t < l.length := by
      have := (List.getElem?_eq_some_iff.1 h).1
      simpa using this
    rw [List.getElem?_set_self hl] at h
    exact ⟨rfl, (Option.some.inj h).symm⟩
  · right
    rw [List.getElem?_set_ne e] at h
    exact ⟨fun hh => e hh.symm, h⟩
/-- a task for it was made -/
theorem L1.make {g : G1} {w w1 : World} {V : List Nat} {TA TD : List (Option Nat)} {o : Option Nat} {j t k : Nat} {τ : Nat → Option (Nat × Tre Itm)} {nn : Int} (h : L1 g w V TA TD o j τ nn) (hb : Below w.heap.size w w1) (hW : Wld g.n0 g.X w1 g.C g.S [cellO o] nn (upd τ (2 * t) (some (k, spinT (takeI 0 t))))) :
    L1 g (w1.setCell ⟨g.A, t, none⟩ (pV k)) V (TA.set t (some k)) TD o j (upd τ (2 * t) (some (k, spinT (takeI 0 t)))) nn := by
  have kb : Keep (fun _ => False) w w1 := Keep.ofBelow hb
  have k1 : Keep (fun b => b = g.A) w1 (w1.setCell ⟨g.A, t, none⟩ (pV k)) := (Keep.refl (fun b => b = g.A) w1).set (p := ⟨g.A, t, none⟩) (fun _ => rfl) _
  have hne := h.ne
  have hlo := h.lo
  have e1 := (h.ba.keep kb (fun h => h)).set t (ptV (some k))
  rw [ptsV_set] at e1
  refine ⟨hW.keep k1 (fun b hb => .inl hb), e1, (h.bb.keep kb (fun h => h)).keep k1 (by omega), (h.bd.keep kb (fun h => h)).keep k1 (by omega), (h.bY.keep kb (fun h => h)).keep k1 (by omega), (h.bytes.keep kb (fun _ h => h.elim)).keep k1 (fun b hb => by omega), h.ne, h.lo, ⟨by simpa using h.len.1, h.len.2⟩, h.sm, h.cnt, fun u q hu hd => ?_, fun u q hu => ?_, h.ow, h.vk⟩
  · rcases set_at hu with ⟨rfl, e⟩ | ⟨e, hu⟩
    · rw [upd_same, Option.some.inj e]
    · rw [upd_ne _ _ _ _ (by omega)]
      exact h.ta u q hu hd
  · rw [upd_ne _ _ _ _ (by omega)]
    exact h.td u q hu
/-- its Take ended, and its Drop was made -/
theorem L1.taken {g : G1} {w w1 : World} {V : List Nat} {TA TD : List (Option Nat)} {j t d v : Nat} {τ τ' : Nat → Option (Nat × Tre Itm)} {nn : Int} (h : L1 g w V TA TD none j τ nn) (hk : Keep (fun b => g.n0 ≤ b ∧ ¬ g.X b) w w1) (hW : Wld g.n0 g.X w1 g.C g.S [cellO (some t)] (nn + 1) τ') (hτ : ∀ u, u ≠ 2 * t → u ≠ 2 * t + 1 → τ' u = τ u) (hd : τ' (2 * t + 1) = some (d, itmT [dropI 0 t] 0)) (hnn : nn + 1 ≤ j) (htn : t < g.n) (hv : V[t]? = some v) (hvk : v < g.K) :
    L1 g (w1.setCell ⟨g.B, t, none⟩ (pV d)) V TA (TD.set t (some d)) (some t) j τ' (nn + 1) := by
  have k1 : Keep (fun b => b = g.B) w1 (w1.setCell ⟨g.B, t, none⟩ (pV d)) := (Keep.refl (fun b => b = g.B) w1).set (p := ⟨g.B, t, none⟩) (fun _ => rfl) _
  have hne := h.ne
  have hlo := h.lo
  have nx : ∀ b, g.X b → ¬ (g.n0 ≤ b ∧ ¬ g.X b) := fun b hb hh => hh.2 hb
  have e1 := (h.bb.keep hk (nx _ (.inr (.inl rfl)))).set t (ptV (some d))
  rw [ptsV_set] at e1
  have hlen : t < TD.length := by rw [h.len.2.1]; exact htn
  have hnone : ∀ (u q : Nat), TD[u]? = some (some q) → False := fun u q hu => by
    have := (h.td u q hu).1
    cases this
  refine ⟨hW.keep k1 (fun b hb => .inr (.inl hb)), (h.ba.keep hk (nx _ (.inl rfl))).keep k1 (by omega), e1, (h.bd.keep hk (nx _ (.inr (.inr (.inl rfl))))).keep k1 (by omega), (h.bY.keep hk (nx _ (.inr (.inr (.inr rfl))))).keep k1 (by omega), (h.bytes.keep hk (fun b hb => hb.1)).keep k1 (fun b hb => by omega), h.ne, h.lo, ⟨h.len.1, by simpa using h.len.2.1, h.len.2.2⟩, h.sm, ⟨by have := h.cnt.1; omega, hnn⟩, fun u q hu hd' => ?_, fun u q hu => ?_, fun u hu => ?_, h.vk⟩
  · rcases set_at hd' with ⟨rfl, e⟩ | ⟨e, hd'⟩
    · cases e
    · rw [hτ _ (by omega) (by omega)]
      exact h.ta u q hu hd'
  · rcases set_at hu with ⟨rfl, e⟩ | ⟨e, hu⟩
    · rw [Option.some.inj e]
      exact ⟨rfl, hd⟩
    · exact (hnone u q hu).elim
  · obtain rfl := Option.some.inj hu
    exact ⟨⟨d, List.getElem?_set_self hlen⟩, v, hv, hvk⟩
/-- its Drop ended -/
theorem L1.dropped {g : G1} {w w1 : World} {V : List Nat} {TA TD : List (Option Nat)} {j t v : Nat} {τ τ' : Nat → Option (Nat × Tre Itm)} {nn : Int} (h : L1 g w V TA TD (some t) j τ nn) (hk : Keep (fun b => g.n0 ≤ b ∧ ¬ g.X b) w w1) (hW : Wld g.n0 g.X w1 g.C g.S [cellO none] (nn + 1) τ') (hτ : ∀ u, u ≠ 2 * t + 1 → τ' u = τ u) (hnn : nn + 1 ≤ j) (hv : V[t]? = some v) (hvk : v < g.K) :
    L1 g (((w1.setCell ⟨g.B, t, none⟩ (.pointer none)).setCell ⟨g.A, t, none⟩ (.pointer none)).setCell ⟨g.D, t, none⟩ (.int .i64 ((v + 1 : Nat) : Int))) (V.set t (v + 1)) (TA.set t none) (TD.set t none) none j τ' (nn + 1) := by
  have hne := h.ne
  have hlo := h.lo
  have nx : ∀ b, g.X b → ¬ (g.n0 ≤ b ∧ ¬ g.X b) := fun b hb hh => hh.2 hb
  have b1 := h.bb.keep hk (nx _ (.inr (.inl rfl)))
  have a1 := h.ba.keep hk (nx _ (.inl rfl))
  have d1 := h.bd.keep hk (nx _ (.inr (.inr (.inl rfl))))
  have y1 := h.bY.keep hk (nx _ (.inr (.inr (.inr rfl))))
  have z1 := h.bytes.keep hk (fun b hb => hb.1)
  have kB : Keep (fun b => b = g.B) w1 (w1.setCell ⟨g.B, t, none⟩ (ptV none)) := (Keep.refl (fun b => b = g.B) w1).set (p := ⟨g.B, t, none⟩) (fun _ => rfl) _
  have kA : Keep (fun b => b = g.A) (w1.setCell ⟨g.B, t, none⟩ (ptV none)) ((w1.setCell ⟨g.B, t, none⟩ (ptV none)).setCell ⟨g.A, t, none⟩ (ptV none)) := (Keep.refl (fun b => b = g.A) _).set (p := ⟨g.A, t, none⟩) (fun _ => rfl) _
  have kD : Keep (fun b => b = g.D) ((w1.setCell ⟨g.B, t, none⟩ (ptV none)).setCell ⟨g.A, t, none⟩ (ptV none)) (((w1.setCell ⟨g.B, t, none⟩ (ptV none)).setCell ⟨g.A, t, none⟩ (ptV none)).setCell ⟨g.D, t, none⟩ (.int .i64 ((v + 1 : Nat) : Int))) := (Keep.refl (fun b => b = g.D) _).set (p := ⟨g.D, t, none⟩) (fun _ => rfl) _
  have b2 := ((b1.set t (ptV none)).keep kA (by omega)).keep kD (by omega)
  have a2 := ((a1.keep kB (by omega)).set t (ptV none)).keep kD (by omega)
  have d2 := ((d1.keep kB (by omega)).keep kA (by omega)).set t (.int .i64 ((v + 1 : Nat) : Int))
  rw [ptsV_set] at b2 a2
  rw [intsV_set] at d2
  refine ⟨((hW.keep kB (fun b hb => .inr (.inl hb))).keep kA (fun b hb => .inl hb)).keep kD (fun b hb => .inr (.inr (.inl hb))), a2, b2, d2, ((y1.keep kB (by omega)).keep kA (by omega)).keep kD (by omega), ((z1.keep kB (fun b hb => by omega)).keep kA (fun b hb => by omega)).keep kD (fun b hb => by omega), h.ne, h.lo, ⟨by simpa using h.len.1, by simpa using h.len.2.1, by simpa using h.len.2.2⟩, h.sm, ⟨by have := h.cnt.1; omega, hnn⟩, fun u q hu hd => ?_, fun u q hu => ?_, fun u hu => (by cases hu), fun x hx => ?_⟩
  · rcases set_at hu with ⟨rfl, e⟩ | ⟨e, hu⟩
    · cases e
    · rcases set_at hd with ⟨e2, _⟩ | ⟨_, hd⟩
      · exact absurd e2 e
      · rw [hτ _ (by omega)]
        exact h.ta u q hu hd
  · exfalso
    rcases set_at hu with ⟨rfl, e⟩ | ⟨e, hu⟩
    · cases e
    · have := (h.td u q hu).1
      exact e (Option.some.inj this).symm
  · rcases List.mem_or_eq_of_mem_set hx with hx | rfl
    · exact h.vk x hx
    · omega
theorem prog1_new (n : Nat) : prog1 (List.replicate n 0) none = List.replicate n (0, 0) := by
  apply List.ext_getElem?
  intro j
  by_cases h : j < n
  · simp [prog1, h]
  · simp [prog1, h]
theorem L1.init {g : G1} {w2 wc w4 : World} (hW : Wld g.n0 (fun _ => False) w2 g.C g.S [0] 0 (fun _ => none)) (hY : Blk w2 g.Y 43 (turnsV g.a g.Lb g.cap g.n 0)) (hCY : g.Y < g.C ∧ g.Y < g.S) (hlo : g.n0 ≤ g.Y) (hA : w2.heap.size ≤ g.A) (hB : w2.heap.size ≤ g.B) (hAB : g.A ≠ g.B) (hD : g.D = wc.heap.size)
    (bA : Blk wc g.A 29 (ptsV (List.replicate g.n none))) (bB : Blk wc g.B 29 (ptsV (List.replicate g.n none))) (b3 : Below w2.heap.size w2 wc) (bD : Blk w4 g.D 3 (intsV (List.replicate g.n 0))) (b4 : Below wc.heap.size wc w4) (hby : BytesAt w2 g.n0 g.a g.Lb) (sm : 1 ≤ g.n ∧ g.n ≤ 6 ∧ 1 ≤ g.K ∧ g.K ≤ 4 ∧ g.Lb ≤ 200) :
    L1 g w4 (List.replicate g.n 0) (List.replicate g.n none) (List.replicate g.n none) none 0 (fun _ => none) 0 := by
  have s3 := b3.size
  have s4 := b4.size
  have b24 : Below w2.heap.size w2 w4 := b3.trans (b4.mono s3)
  have hC := hW.cells.own.lt
  have hS := hW.cells.row.lt
  have hn0 := hW.lo.2.2
  have lA := bA.lt
  have lB := bB.lt
  have lY := hY.lt
  have lD := bD.lt
  refine ⟨hW.bare b24 g.X (fun b hb => ?_), bA.below b4 lA, bB.below b4 lB, bD, hY.below b24 lY, hby.keep (Keep.ofBelow (Q := fun _ => False) b24) (fun _ h => h.elim), by omega, by omega, by simp, sm, by simp, fun t k h => ?_, fun t k h => ?_, fun t h => (by cases h), fun v hv => ?_⟩
  · rcases hb with rfl | rfl | rfl | rfl <;> omega
  · have := List.mem_of_getElem? h
    simp at this
  · have := List.mem_of_getElem? h
    simp at this
  · have := List.eq_of_mem_replicate hv
    omega
end Go.Proofs.Ytcocpmoglhgbeaa
