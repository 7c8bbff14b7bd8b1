/- Layer 6's law: several tasks of the program's and of the document's, over the same cells and permits: who owns which block. -/
import Derived.Test.YtmkgbbbhmbejnaaTaskAlike
namespace Go.Proofs.Ytmkgbbbhmbejnaa
open Go.ChangeShapes Go.WideShapes Go.ChangeAt Go.RowKit
set_option linter.unusedVariables false
set_option maxRecDepth 100000
set_option linter.unusedSimpArgs false
structure Rec where
  t : Nat
  T : Nat
  I : Nat
  Q : Nat → Prop
  l : List Itm
  r : List Itm
  v : Int
  r2 : List Itm
  v2 : Int
/-- blocks by owner: 0 nobody's, 1 cells, permits, the document's world; 10 + i the i-th task; 20 + i the document's i-th; 30 items; 40 rows of the law's -/
structure Trio (n0 : Nat) (w : World) (c : Ids) (L : List Rec) (lab : Nat → Nat) (m m2 : List Int) (ps qs : List Bool) (k n : Int) : Prop where
  set : Setup w c m m2 ps qs k n
  ids : lab c.C = 1 ∧ lab c.S = 1 ∧ lab c.P = 1 ∧ lab c.R = 1 ∧ (∀ x ∈ c.cs, lab x = 1) ∧ lab c.D = 1 ∧ lab c.W = 1 ∧ lab c.V = 1
  tasks : ∀ (i : Nat) (x : Rec), L[i]? = some x → TaskAt w c x.t x.Q x.r x.v ∧ RTask w x.T x.I x.l x.r2 x.v2 ∧ (∀ b, x.Q b → lab b = 10 + i) ∧ lab x.T = 20 + i ∧ lab x.I = 30
  few : L.length ≤ 3
  all : ∀ b, lab b ≠ 0 → n0 ≤ b ∧ b < w.heap.size
theorem Trio.keep {n0 : Nat} {w w1 : World} {c : Ids} {L : List Rec} {lab : Nat → Nat} {m m2 : List Int} {ps qs : List Bool} {k n : Int} {F : Nat → Prop} (h : Trio n0 w c L lab m m2 ps qs k n) (hk : Keep F w w1) (hF : ∀ b, F b → lab b = 0 ∨ lab b = 40) : Trio n0 w1 c L lab m m2 ps qs k n := by
  obtain ⟨i1, i2, i3, i4, i5, i6, i7, i8⟩ := h.ids
  have key : ∀ {b : Nat}, lab b ≠ 0 → lab b ≠ 40 → ¬ F b := fun h0 h4 hb => by rcases hF _ hb with e | e <;> omega
  refine ⟨h.set.keep hk (key (by omega) (by omega)) (key (by omega) (by omega)) (key (by omega) (by omega)) (key (by omega) (by omega)) (fun x hx => key (by rw [i5 x hx]; omega) (by rw [i5 x hx]; omega)) (key (by omega) (by omega)) (key (by omega) (by omega)) (key (by omega) (by omega)), h.ids, fun i x hx => ?_, h.few, fun b hb => ⟨(h.all b hb).1, Nat.lt_of_lt_of_le (h.all b hb).2 hk.size⟩⟩
  obtain ⟨a1, a2, a3, a4, a5⟩ := h.tasks i x hx
  have hi : i < 3 := Nat.lt_of_lt_of_le (List.getElem?_eq_some_iff.1 hx).1 h.few
  exact ⟨a1.keep hk (fun b hb => key (by rw [a3 b hb]; omega) (by rw [a3 b hb]; omega)), a2.keep hk (key (by omega) (by omega)) (key (by omega) (by omega)), a3, a4, a5⟩
theorem Trio.still {n0 : Nat} {w w1 : World} {c : Ids} {L : List Rec} {lab : Nat → Nat} {m m2 : List Int} {ps qs : List Bool} {k n : Int} (h : Trio n0 w c L lab m m2 ps qs k n) (hk : Keep (fun _ => False) w w1) : Trio n0 w1 c L lab m m2 ps qs k n :=
  h.keep hk (fun _ h => h.elim)
/-- a step of the program's i-th task -/
theorem Trio.stepT {n0 : Nat} {w w1 : World} {c : Ids} {L : List Rec} {lab : Nat → Nat} {m m2 m' : List Int} {ps qs ps' : List Bool} {k k' n : Int} {i : Nat} {x : Rec} {r' : List Itm} {v' : Int} {Q' : Nat → Prop} (h : Trio n0 w c L lab m m2 ps qs k n) (hx : L[i]? = some x) (h0 : n0 ≤ w.heap.size)
    (hT : TaskAt w1 c x.t Q' r' v') (hQ : ∀ b, Q' b → x.Q b ∨ w.heap.size ≤ b) (hC : CellsAt w1 c.C c.S m' k') (hP : PermitsAt w1 c.P c.R c.cs ps') (hk : Keep (OfStep c x.Q) w w1) :
    ∃ lab', Trio n0 w1 c (L.set i { x with Q := Q', r := r', v := v' }) lab' m' m2 ps' qs k' n ∧ (∀ b, lab b ≠ 0 → lab' b = lab b) ∧ Below n0 w w1 := by
  obtain ⟨i1, i2, i3, i4, i5, i6, i7, i8⟩ := h.ids
  obtain ⟨a1, a2, a3, a4, a5⟩ := h.tasks i x hx
  have hi : i < L.length := (List.getElem?_eq_some_iff.1 hx).1
  have hi3 : i < 3 := Nat.lt_of_lt_of_le hi h.few
  have hF : ∀ b, OfStep c x.Q b → lab b = 1 ∨ lab b = 10 + i := fun b hb => by
    rcases hb with hb | (rfl | rfl) | hb
    · exact .inr (a3 b hb)
    · exact .inl i1
    · exact .inl i2
    · exact .inl (i5 b hb)
  have key : ∀ {b : Nat}, lab b ≠ 1 → lab b ≠ 10 + i → ¬ OfStep c x.Q b := fun h1 h2 hb => by rcases hF _ hb with e | e <;> omega
  have hB : Below n0 w w1 := hk.below h0 (fun b _ hb => by
    have := hF b hb
    exact (h.all b (by omega)).1)
  have one : lab c.D = 1 → True := fun _ => trivial
  -- the document's world is not the program's
  have sub : ∀ b, OfStep c x.Q b → b ≠ c.D ∧ b ≠ c.W ∧ b ≠ c.V := fun b hb => by
    obtain ⟨cap, ho⟩ := h.set.ref.own
    obtain ⟨cur, hc, _⟩ := h.set.ref.cells
    rcases hb with hb | hb | hb
    · have := a3 b hb
      refine ⟨?_, ?_, ?_⟩ <;> rintro rfl <;> omega
    · rcases hb with rfl | rfl
      · exact ⟨h.set.cells.own.apart ho (by decide), h.set.cells.own.apart hc (by decide), h.set.cells.own.apart h.set.ref.perms (by decide)⟩
      · exact ⟨h.set.cells.row.apart ho (by decide), h.set.apart, h.set.cells.row.apart h.set.ref.perms (by decide)⟩
    · obtain ⟨j, hj⟩ := List.mem_iff_getElem?.1 hb
      have hlt := (List.getElem?_eq_some_iff.1 hj).1
      have hch := h.set.perms.chan j b (ps[j]'(by rw [← h.set.perms.len]; exact hlt)) hj (by simp)
      exact ⟨hch.apart ho, hch.apart hc, hch.apart h.set.ref.perms⟩
  refine ⟨fun b => if b < w.heap.size then lab b else if b < w1.heap.size then 10 + i else 0, ⟨⟨hC, hP, h.set.ref.keep hk (fun hb => (sub _ hb).1 rfl) (fun hb => (sub _ hb).2.1 rfl) (fun hb => (sub _ hb).2.2 rfl), h.set.apart⟩, ?_, fun j y hy => ?_, by rw [List.length_set]; exact h.few, fun b hb => ?_⟩, fun b hb => ?_, hB⟩
  · have hl : ∀ b, lab b = 1 → (if b < w.heap.size then lab b else if b < w1.heap.size then 10 + i else 0) = 1 := fun b hb => by
      rw [if_pos (h.all b (by omega)).2]; exact hb
    exact ⟨hl _ i1, hl _ i2, hl _ i3, hl _ i4, fun y hy => hl _ (i5 y hy), hl _ i6, hl _ i7, hl _ i8⟩
  · have hl : ∀ b, lab b ≠ 0 → (if b < w.heap.size then lab b else if b < w1.heap.size then 10 + i else 0) = lab b := fun b hb => by
      rw [if_pos (h.all b hb).2]
    by_cases e : j = i
    · subst e
      rw [List.getElem?_set_self hi] at hy
      obtain rfl := Option.some.inj hy
      refine ⟨hT, a2.keep hk (key (b := x.T) (by omega) (by omega)) (key (b := x.I) (by omega) (by omega)), fun b hb => ?_, (hl x.T (by omega)).trans a4, (hl x.I (by omega)).trans a5⟩
      have hlt := hT.lt b hb
      rcases hQ b hb with hb | hb
      · rw [hl _ (by rw [a3 b hb]; omega)]; exact a3 b hb
      · rw [if_neg (by omega), if_pos hlt]
    · rw [List.getElem?_set_ne (Ne.symm e)] at hy
      obtain ⟨b1, b2, b3, b4, b5⟩ := h.tasks j y hy
      have hj3 : j < 3 := Nat.lt_of_lt_of_le (List.getElem?_eq_some_iff.1 hy).1 h.few
      exact ⟨b1.keep hk (fun b hb => key (by rw [b3 b hb]; omega) (by rw [b3 b hb]; omega)), b2.keep hk (key (by omega) (by omega)) (key (by omega) (by omega)), fun b hb => by rw [hl _ (by rw [b3 b hb]; omega)]; exact b3 b hb, by rw [hl _ (by omega)]; exact b4, by rw [hl _ (by omega)]; exact b5⟩
  · by_cases hs : b < w.heap.size
    · rw [if_pos hs] at hb
      exact ⟨(h.all b hb).1, Nat.lt_of_lt_of_le hs hk.size⟩
    · rw [if_neg hs] at hb
      by_cases hs1 : b < w1.heap.size
      · exact ⟨by omega, hs1⟩
      · rw [if_neg hs1] at hb; exact absurd rfl hb
  · show (if b < w.heap.size then lab b else _) = _
    rw [if_pos (h.all b hb).2]
/-- a step of the document's i-th task -/
theorem Trio.stepR {n0 : Nat} {w w1 : World} {c : Ids} {L : List Rec} {lab : Nat → Nat} {m m2 m2' : List Int} {ps qs qs' : List Bool} {k n n' : Int} {i : Nat} {x : Rec} {r' : List Itm} {v' : Int} (h : Trio n0 w c L lab m m2 ps qs k n) (hx : L[i]? = some x) (h0 : n0 ≤ w.heap.size)
    (hT : RTask w1 x.T x.I x.l r' v') (hR : RWorld w1 c.D c.W c.V m2' qs' n') (hk : Keep (fun b => b = x.T ∨ b = c.D ∨ b = c.W ∨ b = c.V) w w1) :
    Trio n0 w1 c (L.set i { x with r2 := r', v2 := v' }) lab m m2' ps qs' k n' ∧ Below n0 w w1 := by
  obtain ⟨i1, i2, i3, i4, i5, i6, i7, i8⟩ := h.ids
  obtain ⟨a1, a2, a3, a4, a5⟩ := h.tasks i x hx
  have hi : i < L.length := (List.getElem?_eq_some_iff.1 hx).1
  have hi3 : i < 3 := Nat.lt_of_lt_of_le hi h.few
  have hF : ∀ b, (b = x.T ∨ b = c.D ∨ b = c.W ∨ b = c.V) → lab b = 1 ∨ lab b = 20 + i := fun b hb => by
    rcases hb with rfl | rfl | rfl | rfl
    · exact .inr a4
    · exact .inl i6
    · exact .inl i7
    · exact .inl i8
  have key : ∀ {b : Nat}, lab b ≠ 1 → lab b ≠ 20 + i → ¬ (b = x.T ∨ b = c.D ∨ b = c.W ∨ b = c.V) := fun h1 h2 hb => by rcases hF _ hb with e | e <;> omega
  have hB : Below n0 w w1 := hk.below h0 (fun b _ hb => by
    have := hF b hb
    exact (h.all b (by omega)).1)
  obtain ⟨cap, ho⟩ := h.set.ref.own
  obtain ⟨cur, hc, _⟩ := h.set.ref.cells
  have sub : ∀ {b : Nat} {ty : TypeId} {xs : Array Value}, Blk w b ty xs → lab b = 1 → ty ≠ 68 → ty ≠ 3 → b ≠ c.W → ¬ (b = x.T ∨ b = c.D ∨ b = c.W ∨ b = c.V) := fun hb h1 h2 h3 h4 hq => by
    rcases hq with rfl | rfl | rfl | rfl
    · omega
    · exact hb.apart ho h2 rfl
    · exact h4 rfl
    · exact hb.apart h.set.ref.perms h3 rfl
  refine ⟨⟨⟨h.set.cells.keep hk (sub h.set.cells.own i1 (by decide) (by decide) (h.set.cells.own.apart hc (by decide))) (sub h.set.cells.row i2 (by decide) (by decide) h.set.apart),
    h.set.perms.keep hk (sub h.set.perms.own i3 (by decide) (by decide) (h.set.perms.own.apart hc (by decide))) (sub h.set.perms.row i4 (by decide) (by decide) (h.set.perms.row.apart hc (by decide))) (fun b hb hq => ?_), hR, h.set.apart⟩, h.ids, fun j y hy => ?_, by rw [List.length_set]; exact h.few, fun b hb => ⟨(h.all b hb).1, Nat.lt_of_lt_of_le (h.all b hb).2 hk.size⟩⟩, hB⟩
  · obtain ⟨j, hj⟩ := List.mem_iff_getElem?.1 hb
    have hlt := (List.getElem?_eq_some_iff.1 hj).1
    have hch := h.set.perms.chan j b (ps[j]'(by rw [← h.set.perms.len]; exact hlt)) hj (by simp)
    rcases hq with rfl | rfl | rfl | rfl
    · have := i5 _ hb; omega
    · exact hch.apart ho rfl
    · exact hch.apart hc rfl
    · exact hch.apart h.set.ref.perms rfl
  · by_cases e : j = i
    · subst e
      rw [List.getElem?_set_self hi] at hy
      obtain rfl := Option.some.inj hy
      exact ⟨a1.keep hk (fun b hb => key (by rw [a3 b hb]; omega) (by rw [a3 b hb]; omega)), hT, a3, a4, a5⟩
    · rw [List.getElem?_set_ne (Ne.symm e)] at hy
      obtain ⟨b1, b2, b3, b4, b5⟩ := h.tasks j y hy
      have hj3 : j < 3 := Nat.lt_of_lt_of_le (List.getElem?_eq_some_iff.1 hy).1 h.few
      exact ⟨b1.keep hk (fun b hb => key (by rw [b3 b hb]; omega) (by rw [b3 b hb]; omega)), b2.keep hk (key (by omega) (by omega)) (key (by omega) (by omega)), b3, b4, b5⟩
open Classical in
/-- a task more, and its rows -/
theorem Trio.add {n0 : Nat} {w w1 : World} {c : Ids} {L : List Rec} {lab : Nat → Nat} {m m2 : List Int} {ps qs : List Bool} {k n : Int} {F : Nat → Prop} (h : Trio n0 w c L lab m m2 ps qs k n) (h0 : n0 ≤ w.heap.size) (hk : Keep F w w1) (hF : ∀ b, F b → lab b = 40) (x : Rec)
    (hT : TaskAt w1 c x.t x.Q x.r x.v) (hQ : ∀ b, x.Q b → w.heap.size ≤ b) (hR : RTask w1 x.T x.I x.l x.r2 x.v2) (hTl : w.heap.size ≤ x.T ∧ x.T < w1.heap.size) (hI : (w.heap.size ≤ x.I ∧ x.I < w1.heap.size) ∨ lab x.I = 30) (hd : ¬ x.Q x.T ∧ ¬ x.Q x.I)
    (g1 g2 : Nat) (hg1 : lab g1 = 40 ∨ (w.heap.size ≤ g1 ∧ g1 < w1.heap.size ∧ ¬ x.Q g1 ∧ g1 ≠ x.T ∧ g1 ≠ x.I)) (hg2 : lab g2 = 40 ∨ (w.heap.size ≤ g2 ∧ g2 < w1.heap.size ∧ ¬ x.Q g2 ∧ g2 ≠ x.T ∧ g2 ≠ x.I)) (hlen : L.length < 3) :
    ∃ lab', Trio n0 w1 c (L ++ [x]) lab' m m2 ps qs k n ∧ lab' g1 = 40 ∧ lab' g2 = 40 ∧ (∀ b, lab b ≠ 0 → lab' b = lab b) := by
  have hK := h.keep hk (fun b hb => .inr (hF b hb))
  obtain ⟨i1, i2, i3, i4, i5, i6, i7, i8⟩ := h.ids
  have old : ∀ b, lab b ≠ 0 → b < w.heap.size := fun b hb => (h.all b hb).2
  let lab' : Nat → Nat := fun b => if b < w.heap.size then lab b else if b = g1 ∨ b = g2 then 40 else if b = x.T then 20 + L.length else if b = x.I then 30 else if x.Q b then 10 + L.length else 0
  have hl : ∀ b, lab b ≠ 0 → lab' b = lab b := fun b hb => if_pos (old b hb)
  have hne := hR.ne
  refine ⟨lab', ⟨hK.set, ⟨(hl _ (by omega)).trans i1, (hl _ (by omega)).trans i2, (hl _ (by omega)).trans i3, (hl _ (by omega)).trans i4, fun y hy => (hl _ (by rw [i5 y hy]; omega)).trans (i5 y hy), (hl _ (by omega)).trans i6, (hl _ (by omega)).trans i7, (hl _ (by omega)).trans i8⟩, fun j y hy => ?_, by simp; omega, fun b hb => ?_⟩, ?_, ?_, hl⟩
  · by_cases e : j < L.length
    · rw [List.getElem?_append_left e] at hy
      obtain ⟨b1, b2, b3, b4, b5⟩ := hK.tasks j y hy
      exact ⟨b1, b2, fun b hb => (hl b (by rw [b3 b hb]; omega)).trans (b3 b hb), (hl _ (by omega)).trans b4, (hl _ (by omega)).trans b5⟩
    · rw [List.getElem?_append_right (by omega)] at hy
      have hj : j - L.length = 0 := by
        have := (List.getElem?_eq_some_iff.1 hy).1
        simp at this; omega
      rw [hj] at hy
      obtain rfl : x = y := by simpa using hy
      obtain rfl : j = L.length := by omega
      have hgT : ¬ (x.T = g1 ∨ x.T = g2) := by
        rintro (e | e)
        · rcases hg1 with h1 | h1
          · have := old g1 (by omega); omega
          · exact h1.2.2.2.1 e.symm
        · rcases hg2 with h1 | h1
          · have := old g2 (by omega); omega
          · exact h1.2.2.2.1 e.symm
      refine ⟨hT, hR, fun b hb => ?_, ?_, ?_⟩
      · have hb1 := hQ b hb
        have hgb : ¬ (b = g1 ∨ b = g2) := by
          rintro (rfl | rfl)
          · rcases hg1 with h1 | h1
            · have := old b (by omega); omega
            · exact h1.2.2.1 hb
          · rcases hg2 with h1 | h1
            · have := old b (by omega); omega
            · exact h1.2.2.1 hb
        show (if b < w.heap.size then lab b else _) = _
        rw [if_neg (by omega), if_neg hgb, if_neg (fun (e : b = x.T) => hd.1 (by rw [← e]; exact hb)), if_neg (fun (e : b = x.I) => hd.2 (by rw [← e]; exact hb)), if_pos hb]
      · show (if x.T < w.heap.size then lab x.T else _) = _
        rw [if_neg (by omega), if_neg hgT, if_pos rfl]
      · show (if x.I < w.heap.size then lab x.I else _) = _
        rcases hI with hI | hI
        · have hgI : ¬ (x.I = g1 ∨ x.I = g2) := by
            rintro (e | e)
            · rcases hg1 with h1 | h1
              · have := old g1 (by omega); omega
              · exact h1.2.2.2.2 e.symm
            · rcases hg2 with h1 | h1
              · have := old g2 (by omega); omega
              · exact h1.2.2.2.2 e.symm
          rw [if_neg (by omega), if_neg hgI, if_neg (Ne.symm hne), if_pos rfl]
        · rw [if_pos (old _ (by omega))]; exact hI
  · have hb' : (if b < w.heap.size then lab b else if b = g1 ∨ b = g2 then 40 else if b = x.T then 20 + L.length else if b = x.I then 30 else if x.Q b then 10 + L.length else 0) ≠ 0 := hb
    by_cases hs : b < w.heap.size
    · rw [if_pos hs] at hb'
      exact ⟨(h.all b hb').1, Nat.lt_of_lt_of_le hs hk.size⟩
    · rw [if_neg hs] at hb'
      refine ⟨by omega, ?_⟩
      by_cases e1 : b = g1 ∨ b = g2
      · rcases e1 with rfl | rfl
        · rcases hg1 with h1 | h1
          · exact absurd (old b (by omega)) hs
          · exact h1.2.1
        · rcases hg2 with h1 | h1
          · exact absurd (old b (by omega)) hs
          · exact h1.2.1
      · rw [if_neg e1] at hb'
        by_cases e2 : b = x.T
        · rw [e2]; exact hTl.2
        · rw [if_neg e2] at hb'
          by_cases e3 : b = x.I
          · rcases hI with hI | hI
            · rw [e3]; exact hI.2
            · have := old x.I (by omega); omega
          · rw [if_neg e3] at hb'
            by_cases e4 : x.Q b
            · exact hT.lt b e4
            · rw [if_neg e4] at hb'; exact absurd rfl hb'
  · rcases hg1 with h1 | h1
    · exact (hl g1 (by omega)).trans h1
    · show (if g1 < w.heap.size then lab g1 else _) = _
      rw [if_neg (by omega), if_pos (.inl rfl)]
  · rcases hg2 with h1 | h1
    · exact (hl g2 (by omega)).trans h1
    · show (if g2 < w.heap.size then lab g2 else _) = _
      rw [if_neg (by omega), if_pos (.inr rfl)]
/-- none yet -/
theorem Trio.begin {n0 z : Nat} {w : World} {c : Ids} {m m2 : List Int} {ps qs : List Bool} {k n : Int} (h : Setup w c m m2 ps qs k n) (hz : n0 ≤ z ∧ z < w.heap.size) (hids : ∀ b, (b = c.C ∨ b = c.S ∨ b = c.P ∨ b = c.R ∨ b ∈ c.cs ∨ b = c.D ∨ b = c.W ∨ b = c.V) → n0 ≤ b ∧ b < w.heap.size ∧ b ≠ z) :
    ∃ lab, Trio n0 w c [] lab m m2 ps qs k n ∧ lab z = 30 := by
  classical
  let lab : Nat → Nat := fun b => if b = z then 30 else if (b = c.C ∨ b = c.S ∨ b = c.P ∨ b = c.R ∨ b ∈ c.cs ∨ b = c.D ∨ b = c.W ∨ b = c.V) then 1 else 0
  have h1 : ∀ b, (b = c.C ∨ b = c.S ∨ b = c.P ∨ b = c.R ∨ b ∈ c.cs ∨ b = c.D ∨ b = c.W ∨ b = c.V) → lab b = 1 := fun b hb => by
    show (if b = z then 30 else _) = _
    rw [if_neg (hids b hb).2.2, if_pos hb]
  refine ⟨lab, ⟨h, ⟨h1 _ (.inl rfl), h1 _ (.inr (.inl rfl)), h1 _ (.inr (.inr (.inl rfl))), h1 _ (.inr (.inr (.inr (.inl rfl)))), fun x hx => h1 x (.inr (.inr (.inr (.inr (.inl hx))))), h1 _ (.inr (.inr (.inr (.inr (.inr (.inl rfl)))))), h1 _ (.inr (.inr (.inr (.inr (.inr (.inr (.inl rfl))))))), h1 _ (.inr (.inr (.inr (.inr (.inr (.inr (.inr rfl))))))) ⟩, fun i x hx => by simp at hx, by simp, fun b hb => ?_⟩, if_pos rfl⟩
  have hb' : (if b = z then 30 else if (b = c.C ∨ b = c.S ∨ b = c.P ∨ b = c.R ∨ b ∈ c.cs ∨ b = c.D ∨ b = c.W ∨ b = c.V) then 1 else 0) ≠ 0 := hb
  by_cases e : b = z
  · rw [e]; exact hz
  · rw [if_neg e] at hb'
    by_cases e2 : (b = c.C ∨ b = c.S ∨ b = c.P ∨ b = c.R ∨ b ∈ c.cs ∨ b = c.D ∨ b = c.W ∨ b = c.V)
    · exact ⟨(hids b e2).1, (hids b e2).2.1⟩
    · rw [if_neg e2] at hb'; exact absurd rfl hb'
/-- a permit comes, to both -/
theorem Trio.give {n0 : Nat} {w w1 : World} {c : Ids} {L : List Rec} {lab : Nat → Nat} {m m2 : List Int} {ps qs ps' : List Bool} {k n : Int} (h : Trio n0 w c L lab m m2 ps qs k n) (h0 : n0 ≤ w.heap.size)
    (hP : PermitsAt w1 c.P c.R c.cs ps') (hk : Keep (fun b => b ∈ c.cs) w w1) : Trio n0 w1 c L lab m m2 ps' qs k n ∧ Below n0 w w1 := by
  obtain ⟨i1, i2, i3, i4, i5, i6, i7, i8⟩ := h.ids
  refine ⟨⟨h.set.ofPerms hk hP, h.ids, fun i x hx => ?_, h.few, fun b hb => ⟨(h.all b hb).1, Nat.lt_of_lt_of_le (h.all b hb).2 hk.size⟩⟩, hk.below h0 (fun b _ hb => (h.all b (by rw [i5 b hb]; omega)).1)⟩
  obtain ⟨a1, a2, a3, a4, a5⟩ := h.tasks i x hx
  have hi : i < 3 := Nat.lt_of_lt_of_le (List.getElem?_eq_some_iff.1 hx).1 h.few
  exact ⟨a1.keep hk (fun b hb hq => by have := a3 b hb; have := i5 b hq; omega), a2.keep hk (fun hq => by have := i5 _ hq; omega) (fun hq => by have := i5 _ hq; omega), a3, a4, a5⟩
theorem Trio.grant {n0 : Nat} {w : World} {c : Ids} {L : List Rec} {lab : Nat → Nat} {m m2 : List Int} {ps qs : List Bool} {k n : Int} (h : Trio n0 w c L lab m m2 ps qs k n) (h0 : n0 ≤ w.heap.size) (i : Nat) (b : Bool) :
    Trio n0 (w.setCell ⟨c.V, i, none⟩ (.int .i64 (if b then 1 else 0))) c L lab m m2 ps (qs.set i b) k n ∧ Below n0 w (w.setCell ⟨c.V, i, none⟩ (.int .i64 (if b then 1 else 0))) := by
  obtain ⟨i1, i2, i3, i4, i5, i6, i7, i8⟩ := h.ids
  have hk : Keep (fun b => b = c.V) w (w.setCell ⟨c.V, i, none⟩ (.int .i64 (if b then 1 else 0))) := (Keep.refl (fun b => b = c.V) w).set (p := ⟨c.V, i, none⟩) (fun _ => rfl) _
  refine ⟨⟨h.set.ofRef hk (fun b hb => .inr (.inr (.inl hb))) (h.set.ref.grant i b), h.ids, fun j x hx => ?_, h.few, fun b hb => ⟨(h.all b hb).1, Nat.lt_of_lt_of_le (h.all b hb).2 hk.size⟩⟩, hk.below h0 (fun b _ hb => (h.all b (by rw [hb, i8]; omega)).1)⟩
  obtain ⟨a1, a2, a3, a4, a5⟩ := h.tasks j x hx
  have hj : j < 3 := Nat.lt_of_lt_of_le (List.getElem?_eq_some_iff.1 hx).1 h.few
  exact ⟨a1.keep hk (fun b hb hq => by have := a3 b hb; rw [hq] at this; omega), a2.keep hk (fun hq => by rw [hq] at a4; omega) (fun hq => by rw [hq] at a5; omega), a3, a4, a5⟩
end Go.Proofs.Ytmkgbbbhmbejnaa
