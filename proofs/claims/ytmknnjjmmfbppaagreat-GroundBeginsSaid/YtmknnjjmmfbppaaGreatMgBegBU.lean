/- GroundBegins: a ground of either kind of cells, by what a law asks of it. -/
import Derived.Test.YtmknnjjmmfbppaaGreatMgBegAR
import Derived.Test.YtmknnjjmmfbppaaGreatMgBegAQ
import Derived.Test.YtmknnjjmmfbppaaGreatMgBegBK
import Derived.Test.YtmknnjjmmfbppaaGreatMgBegBL
import Derived.Test.YtmknnjjmmfbppaaGreatMgBegBS
import Derived.Test.YtmknnjjmmfbppaaGreatMgBegBT
import Derived.Test.YtmknnjjmmfbppaaGreatMgBegAN
namespace Go.Proofs.YtmknnjjmmfbppaaGreat
open Go.ChangeShapes Go.WideShapes Go.ChangeAt Go.RowKit Wd
set_option linter.unusedVariables false
set_option maxRecDepth 100000
set_option linter.unusedSimpArgs false
/-- a ground, by what is asked of it: K says that it stands in a world -/
structure KG (K : World → Prop) (G : Nat) (m : Mp) (mm : List Int) (sz : Nat) (cv pv : Value) : Prop where
  below : ∀ {V V' : World}, K V → Below V.heap.size V V' → K V'
  lt : ∀ {V : World}, K V → G < V.heap.size
  cell : ∀ {V : World}, K V → V.cell? ⟨G, 0, none⟩ = some (.int .i64 (m.t : Int)) ∧ V.cell? ⟨G, 1, none⟩ = some (.int .i64 (m.o : Int)) ∧ V.cell? ⟨G, 2, none⟩ = some (.int .i64 (m.n : Int)) ∧ V.cell? ⟨G, 3, none⟩ = some cv ∧ V.cell? ⟨G, 4, none⟩ = some pv
  all : ∀ {V : World}, K V → Calls Tryz.prog 12 #[cv] V fun e w' => ∃ g cap, e = .returned (.slice (some ⟨g, 0, none⟩) sz cap) ∧ RowC w' g mm ∧ V.heap.size ≤ g ∧ Below V.heap.size V w'
  free : ∀ {V : World}, K V → Calls Tryz.prog 13 #[cv, mapV m] V fun e w' => ∃ a c, e = .returned (.slice a m.n c) ∧ Below V.heap.size V w'
  plen : ∀ {V : World}, K V → Calls Tryz.prog 14 #[pv] V fun e w' => e = .returned (.int .i64 (m.t : Int)) ∧ V = w'
  ev : ∀ {V : World}, K V → Calls Tryz.prog 15 #[.pointer (some ⟨G, 0, none⟩)] V fun e w' => ∃ a c, e = .returned (.slice a 0 c) ∧ K w' ∧ Keep (fun b => b = G) V w'
  vin : ∀ {V : World}, K V → ∀ o : Nat, o < m.o → Calls Tryz.prog 19 #[.pointer (some ⟨G, 0, none⟩), .int .i64 (o : Int)] V fun e w' => e = .returned (viewV (-1) 0 (.slice none 0 0)) ∧ Below V.heap.size V w'
  vout : ∀ {V : World}, K V → ∀ o : Int, (o < 0 ∨ (m.o : Int) ≤ o) → Calls Tryz.prog 19 #[.pointer (some ⟨G, 0, none⟩), .int .i64 o] V fun e w' => e = .returned (viewV (-1) 0 (.slice none 0 0)) ∧ Below V.heap.size V w'
theorem size_pos (m : Mp) : 2 ≤ sizeN m := by unfold sizeN; omega
theorem list_ne {mm : List Int} {m : Mp} (h : mm.length = sizeN m) : mm ≠ [] := fun e => by rw [e] at h; have := size_pos m; simp at h; omega
theorem rng_words {m : Mp} {f : Nat → Int} (hf : ∀ o, o < m.o → 0 ≤ f o ∧ f o < 18446744073709551616) (hm : m.ok) : Rng (mmF m f) := by
  have r0 : Rng (List.replicate (sizeN m) (0 : Int)) := fun i c h => by
    simp [List.getElem?_replicate] at h
    omega
  have r1 : ∀ j, j ≤ m.o → Rng (wordsGo f (List.replicate (sizeN m) 0) j) := fun j => by
    induction j with
    | zero => intro _; exact r0
    | succ j ih => intro hj; exact (ih (by omega)).set _ (hf j (by omega))
  have r2 : ∀ (l : List Int), Rng l → ∀ j, Rng (safesGo m l j) := fun l hl j => by
    induction j with
    | zero => exact hl
    | succ j ih => exact ih.set _ (by omega)
  have r3 : ∀ (l : List Int), Rng l → Rng (layL m l) := fun l hl => by
    have hb : ∀ n j : Nat, n ≤ 4096 → j ≤ n → 0 ≤ bhN n j ∧ bhN n j < 18446744073709551616 := fun n j h1 h2 => by unfold bhN; split <;> omega
    have hn := hm.n
    have : ∀ j, j ≤ m.n → Rng (layGo m l j) := fun j => by
      induction j with
      | zero => intro _; exact hl
      | succ j ih => intro hj; exact (ih (by omega)).set _ (hb _ _ hn (by omega))
    exact (this _ (Nat.le_refl _)).set _ (hb _ _ hn (Nat.le_refl _))
  exact r3 _ (r2 _ (r1 _ (Nat.le_refl _)) _)
theorem kg_plain {w : World} {g : GrP} {m : Mp} {k : Int} {H : List Int} {F : List Bool} (h : GrAt w g m (mm0 m H F) k (List.replicate m.t false) (.slice none 0 0) []) (hg : GoodH m H) :
    KG (fun V => GrAt V g m (mm0 m H F) k (List.replicate m.t false) (.slice none 0 0) []) g.G m (mm0 m H F) (sizeN m) (cellsV g.C) (permitsV g.P) := by
  have hsz := h.size
  have hcm : Came m (mm0 m H F) (upL m.n) := PIs.came (layL_pis m _ (by rw [safesGo_len, wordsGo_len, List.length_replicate]; exact Nat.le_refl _)) (rng_words (fun o ho => by have := pack_lt (hd0_pack (F := F) (hg o ho)); omega) h.ok)
  have hok := h.ok
  clear h
  refine ⟨fun h hb => h.below hb, fun h => h.own.lt, fun h => ⟨h.own.cell 0 _ rfl, h.own.cell 1 _ rfl, h.own.cell 2 _ rfl, h.own.cell 3 _ rfl, h.own.cell 4 _ rfl⟩, fun {V} h => ?_, fun {V} h => ?_, fun {V} h => ?_, fun {V} h => ?_, fun {V} h o ho => ?_, fun {V} h o ho => gview_out h o ho⟩
  · refine (allR_any g.C g.S _ k V h.cells (list_ne hsz)).mono ?_
    rintro e w' ⟨g1, c1, e1, h1, h2, _, h3⟩
    rw [hsz] at e1
    exact ⟨g1, c1, e1, h1, h2, h3⟩
  · refine (free_any g.C g.S m _ _ k V hok h.cells hcm).mono ?_
    rintro e w' ⟨v, rfl, ⟨a, c, rfl, _, _⟩, hb⟩
    rw [upL_len]
    exact ⟨a, c, rfl, hb⟩
  · refine (plen_any g.P g.R g.cs _ V h.perms).mono ?_
    rintro e w' ⟨rfl, rfl⟩
    rw [List.length_replicate]
    exact ⟨rfl, rfl⟩
  · refine (events_any h (by simp)).mono ?_
    rintro e w' ⟨v, rfl, hrow, h2, h3⟩
    rcases hrow.2 with ⟨rfl, _⟩ | ⟨g1, c1, cur, rfl, _⟩
    · exact ⟨none, 0, rfl, h2, h3⟩
    · exact ⟨_, c1, rfl, h2, h3⟩
  · exact gview_new h o ho (hg o ho)
/-- what is defined twice is the same -/
theorem re_lay (m : Mp) (l : List Int) : Re.layL m l = layL m l := by
  have : ∀ j, Re.layGo m l j = layGo m l j := fun j => by
    induction j with
    | zero => rfl
    | succ j ih => show (Re.layGo m l j).set _ _ = (layGo m l j).set _ _; rw [ih]; rfl
  show (Re.layGo m l m.n).set _ _ = (layGo m l m.n).set _ _
  rw [this]
  rfl
theorem re_words (f : Nat → Int) (l : List Int) : ∀ j, Re.wordsGo f l j = wordsGo f l j
  | 0 => rfl
  | j + 1 => by show (Re.wordsGo f l j).set _ _ = (wordsGo f l j).set _ _; rw [re_words f l j]
theorem re_safes (m : Mp) (l : List Int) : ∀ j, Re.safesGo m l j = safesGo m l j
  | 0 => rfl
  | j + 1 => by show (Re.safesGo m l j).set _ _ = (safesGo m l j).set _ _; rw [re_safes m l j]
theorem re_mm0 (m : Mp) (H : List Int) (F : List Bool) : Re.mm0 m H F = mm0 m H F := by
  show Re.layL m (Re.safesGo m (Re.wordsGo _ _ m.o) m.t) = layL m (safesGo m (wordsGo _ _ m.o) m.t)
  rw [re_lay, re_safes, re_words]
  rfl
theorem kg_real {w : World} {g : Re.GrP} {m : Mp} {k : Int} {H : List Int} {F : List Bool} (h : Re.GrAt w g m (mm0 m H F) k (List.replicate m.t false) (.slice none 0 0) []) (hg : GoodH m H) :
    KG (fun V => Re.GrAt V g m (mm0 m H F) k (List.replicate m.t false) (.slice none 0 0) []) g.G m (mm0 m H F) (sizeN m) (Re.cellsV g.C) (permitsV g.P) := by
  have hsz := h.size
  have hcm : Came m (mm0 m H F) (upL m.n) := PIs.came (layL_pis m _ (by rw [safesGo_len, wordsGo_len, List.length_replicate]; exact Nat.le_refl _)) (rng_words (fun o ho => by have := pack_lt (hd0_pack (F := F) (hg o ho)); omega) h.ok)
  have hok := h.ok
  clear h
  refine ⟨fun h hb => h.below hb, fun h => h.own.lt, fun h => ⟨h.own.cell 0 _ rfl, h.own.cell 1 _ rfl, h.own.cell 2 _ rfl, h.own.cell 3 _ rfl, h.own.cell 4 _ rfl⟩, fun {V} h => ?_, fun {V} h => ?_, fun {V} h => ?_, fun {V} h => ?_, fun {V} h o ho => ?_, fun {V} h o ho => Re.gview_out h o ho⟩
  · refine (Re.allR_any g.C g.S _ k V h.cells (list_ne hsz)).mono ?_
    rintro e w' ⟨g1, c1, e1, h1, h2, _, h3⟩
    rw [hsz] at e1
    exact ⟨g1, c1, e1, h1, h2, h3⟩
  · refine (Re.free_any g.C g.S m _ _ k V hok h.cells hcm).mono ?_
    rintro e w' ⟨v, rfl, ⟨a, c, rfl, _, _⟩, hb⟩
    rw [upL_len]
    exact ⟨a, c, rfl, hb⟩
  · refine (plen_any g.P g.R g.cs _ V h.perms).mono ?_
    rintro e w' ⟨rfl, rfl⟩
    rw [List.length_replicate]
    exact ⟨rfl, rfl⟩
  · refine (Re.events_any h (by simp)).mono ?_
    rintro e w' ⟨v, rfl, hrow, h2, h3⟩
    rcases hrow.2 with ⟨rfl, _⟩ | ⟨g1, c1, cur, rfl, _⟩
    · exact ⟨none, 0, rfl, h2, h3⟩
    · exact ⟨_, c1, rfl, h2, h3⟩
  · have h' : Re.GrAt V g m (Re.mm0 m H F) k (List.replicate m.t false) (.slice none 0 0) [] := by rw [re_mm0]; exact h
    exact Re.gview_new h' o ho (hg o ho)
/-- what New and Real give, of good headers -/
def MadeK (V : World) (m : Mp) (mm : List Int) (sz : Nat) (e : Ending) (w' : World) : Prop :=
  ∃ (G : Nat) (K : World → Prop) (cv pv : Value), e = .returned (.pointer (some ⟨G, 0, none⟩)) ∧ KG K G m mm sz cv pv ∧ K w' ∧ Below V.heap.size V w' ∧ V.heap.size ≤ G
theorem knew_any (m : Mp) (H : List Int) (F : List Bool) (hv fv : Value) (V : World) (hm : m.ok) (hg : GoodH m H) (hh : SliceAt (Value.int .i64) V hv H) (hf : SliceAt Value.bool V fv F) :
    Calls Tryz.prog 8 #[mapV m, hv, fv] V (MadeK V m (mm0 m H F) (sizeN m)) := by
  refine (gnew_any m H F hv fv V hm hh hf).mono ?_
  rintro e w' (⟨_, g, rfl, h2, b2, n2⟩ | ⟨hb, _, _⟩)
  · exact ⟨g.G, _, _, _, rfl, kg_plain h2 hg, h2, b2, n2 _ (.inl rfl)⟩
  · exact absurd hg hb
theorem kreal_any (m : Mp) (H : List Int) (F : List Bool) (hv fv : Value) (V : World) (hm : m.ok) (hg : GoodH m H) (hh : SliceAt (Value.int .i64) V hv H) (hf : SliceAt Value.bool V fv F) :
    Calls Tryz.prog 9 #[mapV m, hv, fv] V (MadeK V m (mm0 m H F) (sizeN m)) := by
  refine (Re.gnew_any m H F hv fv V hm hh hf).mono ?_
  rintro e w' (⟨_, g, rfl, h2, b2, n2⟩ | ⟨hb, _, _⟩)
  · have h3 : Re.GrAt w' g m (Re.mm0 m H F) (m.o + m.t + m.n + 1) (List.replicate m.t false) (.slice none 0 0) [] := h2
    rw [re_mm0] at h3
    exact ⟨g.G, _, _, _, rfl, kg_real h3 hg, h3, b2, n2 _ (.inl rfl)⟩
  · exact absurd hg hb
/-- links apart, the document's row is what all cells are -/
theorem mm0_other (m : Mp) (H : List Int) (F : List Bool) (i : Nat) (h1 : i ≠ 1) (h : ∀ k : Int, 0 ≤ k → k < m.n → i ≠ linkN m k) : (mm0 m H F)[i]? = (safesGo m (wordsGo (fun o => ((wordOf (hd0 H F o) : Nat) : Int)) (List.replicate (sizeN m) 0) m.o) m.t)[i]? :=
  layL_other m _ i h1 h
theorem mm0_len (m : Mp) (H : List Int) (F : List Bool) : (mm0 m H F).length = sizeN m := by
  unfold mm0 mmF
  rw [layL_len, safesGo_len, wordsGo_len, List.length_replicate]
end Go.Proofs.YtmknnjjmmfbppaaGreat
/- The document's answer for layer 2: which headers may be. -/
namespace Go.Proofs.YtmknnjjmmfbppaaGreat
open Go.ChangeShapes Go.WideShapes Go.ChangeAt Go.RowKit
set_option linter.unusedVariables false
set_option linter.unusedSimpArgs false
open Wd
theorem from_any (n a b : Int) (w : World) : Calls Tryz.prog 172 #[.int .i64 n, .int .i64 a, .int .i64 b] w fun e w' => e = .returned (.bool (inB a n b)) ∧ w = w' := by
  by_cases h1 : a ≤ n
  · by_cases h2 : n ≤ b
    all_goals
      have h3 : inB a n b = decide (n ≤ b) := by simp [inB, h1]
      have H := Lib.hid h3
      clear h3
      go_enter Tryz.func172, Tryz.ntmps172
      go_wp2
      go_ret
      refine ⟨ret_bool ?_, rfl⟩
      rw [H.out]
      simp [h2]
  · have h3 : inB a n b = false := by simp [inB, h1]
    have H := Lib.hid h3
    clear h3
    go_enter Tryz.func172, Tryz.ntmps172
    go_wp2
    go_ret
    exact ⟨ret_bool H.out.symm, rfl⟩
theorem in_yes {a n b : Int} (h : a ≤ n ∧ n ≤ b) : inB a n b = true := by simp [inB, h.1, h.2]
theorem in_no {a n b : Int} (h : ¬ (a ≤ n ∧ n ≤ b)) : inB a n b = false := by
  rw [Bool.eq_false_iff]; intro e; simp [inB] at e; omega
/-- may this header be? -/
def okB (x : Hd) : Bool := decide (okP x)
theorem ok_yes {x : Hd} (h : okP x) : okB x = true := decide_eq_true h
theorem ok_no {x : Hd} (h : ¬ okP x) : okB x = false := decide_eq_false h
def MayPost (x : Hd) (w : World) (e : Ending) (w' : World) : Prop := e = .returned (.bool (okB x)) ∧ Below w.heap.size w w'
set_option maxRecDepth 100000 in
set_option maxHeartbeats 4000000 in
theorem may_tag (t o c m g h : Int) (w : World) (ht : ¬ (0 ≤ t ∧ t ≤ 4)) : Calls Tryz.prog 104 #[hdV ⟨t, o, c, m, g, h⟩] w (MayPost ⟨t, o, c, m, g, h⟩ w) := by
  have i0 := in_no ht
  have HV : Hid (okB ⟨t, o, c, m, g, h⟩ = false) := Lib.hid (ok_no (by intro h; unfold okP at h; dsimp only at h; omega))
  clear ht
  go_enter Tryz.func104, Tryz.ntmps104
  go_wp2_with (go_at_call 172; (with_reducible refine (from_any _ _ _ _).mono ?_); rintro e w1 ⟨rfl, rfl⟩)
  go_ret
  exact ⟨ret_bool (by rw [HV.out]), by go_grown⟩
set_option maxRecDepth 100000 in
set_option maxHeartbeats 4000000 in
theorem may_hash (t o c m g h : Int) (w : World) (ht : 0 ≤ t ∧ t ≤ 4) (hh : ¬ (0 ≤ h ∧ h ≤ 16777215)) : Calls Tryz.prog 104 #[hdV ⟨t, o, c, m, g, h⟩] w (MayPost ⟨t, o, c, m, g, h⟩ w) := by
  have i0 := in_yes ht
  have i1 := in_no hh
  have HV : Hid (okB ⟨t, o, c, m, g, h⟩ = false) := Lib.hid (ok_no (by intro h; unfold okP at h; dsimp only at h; omega))
  clear ht hh
  go_enter Tryz.func104, Tryz.ntmps104
  go_wp2_with (go_at_call 172; (with_reducible refine (from_any _ _ _ _).mono ?_); rintro e w1 ⟨rfl, rfl⟩)
  go_ret
  exact ⟨ret_bool (by rw [HV.out]), by go_grown⟩
set_option maxRecDepth 100000 in
set_option maxHeartbeats 4000000 in
theorem may_biased (o c m g h : Int) (w : World) (hh : 0 ≤ h ∧ h ≤ 16777215) : Calls Tryz.prog 104 #[hdV ⟨2, o, c, m, g, h⟩] w (MayPost ⟨2, o, c, m, g, h⟩ w) := by
  have it : inB 0 2 4 = true := rfl
  have i1 := in_yes hh
  by_cases ho : 0 ≤ o ∧ o ≤ 32765
  · have i2 := in_yes ho
    by_cases hc : 0 ≤ c ∧ c ≤ 255
    · have i3 := in_yes hc
      by_cases hm : m = 0
      · subst hm
        by_cases hg : g = 0
        · subst hg
          have HV : Hid (okB ⟨2, o, c, 0, 0, h⟩ = true) := Lib.hid (ok_yes (by refine ⟨⟨?_, ?_⟩, ⟨?_, ?_⟩, ?_, ?_, ?_, ?_, ?_⟩ <;> (dsimp only; omega)))
          clear hh ho hc
          go_enter Tryz.func104, Tryz.ntmps104
          go_wp2_with (go_at_call 172; (with_reducible refine (from_any _ _ _ _).mono ?_); rintro e w1 ⟨rfl, rfl⟩)
          go_ret
          exact ⟨ret_bool (by rw [HV.out]), by go_grown⟩
        · have bg : (g == 0) = false := by simp [hg]
          have HV : Hid (okB ⟨2, o, c, 0, g, h⟩ = false) := Lib.hid (ok_no (by intro h; unfold okP at h; dsimp only at h; omega))
          clear hh ho hc
          go_enter Tryz.func104, Tryz.ntmps104
          go_wp2_with (go_at_call 172; (with_reducible refine (from_any _ _ _ _).mono ?_); rintro e w1 ⟨rfl, rfl⟩)
          go_ret
          exact ⟨ret_bool (by rw [HV.out]), by go_grown⟩
      · have bm : (m == 0) = false := by simp [hm]
        have HV : Hid (okB ⟨2, o, c, m, g, h⟩ = false) := Lib.hid (ok_no (by intro h; unfold okP at h; dsimp only at h; omega))
        clear hh ho hc
        go_enter Tryz.func104, Tryz.ntmps104
        go_wp2_with (go_at_call 172; (with_reducible refine (from_any _ _ _ _).mono ?_); rintro e w1 ⟨rfl, rfl⟩)
        go_ret
        exact ⟨ret_bool (by rw [HV.out]), by go_grown⟩
    · have i3 := in_no hc
      have HV : Hid (okB ⟨2, o, c, m, g, h⟩ = false) := Lib.hid (ok_no (by intro h; unfold okP at h; dsimp only at h; omega))
      clear hh ho hc
      go_enter Tryz.func104, Tryz.ntmps104
      go_wp2_with (go_at_call 172; (with_reducible refine (from_any _ _ _ _).mono ?_); rintro e w1 ⟨rfl, rfl⟩)
      go_ret
      exact ⟨ret_bool (by rw [HV.out]), by go_grown⟩
  · have i2 := in_no ho
    have HV : Hid (okB ⟨2, o, c, m, g, h⟩ = false) := Lib.hid (ok_no (by intro h; unfold okP at h; dsimp only at h; omega))
    clear hh ho
    go_enter Tryz.func104, Tryz.ntmps104
    go_wp2_with (go_at_call 172; (with_reducible refine (from_any _ _ _ _).mono ?_); rintro e w1 ⟨rfl, rfl⟩)
    go_ret
    exact ⟨ret_bool (by rw [HV.out]), by go_grown⟩
set_option maxRecDepth 100000 in
set_option maxHeartbeats 4000000 in
theorem may_thin (o c m g h : Int) (w : World) (hh : 0 ≤ h ∧ h ≤ 16777215) : Calls Tryz.prog 104 #[hdV ⟨3, o, c, m, g, h⟩] w (MayPost ⟨3, o, c, m, g, h⟩ w) := by
  have it : inB 0 3 4 = true := rfl
  have i1 := in_yes hh
  by_cases ho : 0 ≤ o ∧ o ≤ 32765
  · have i2 := in_yes ho
    by_cases hc : 0 ≤ c ∧ c ≤ 255
    · have i3 := in_yes hc
      by_cases hz : c = 0
      · subst hz
        have HV : Hid (okB ⟨3, o, 0, m, g, h⟩ = false) := Lib.hid (ok_no (by intro h; unfold okP at h; dsimp only at h; omega))
        clear hh ho hc
        go_enter Tryz.func104, Tryz.ntmps104
        go_wp2_with (go_at_call 172; (with_reducible refine (from_any _ _ _ _).mono ?_); rintro e w1 ⟨rfl, rfl⟩)
        go_ret
        exact ⟨ret_bool (by rw [HV.out]), by go_grown⟩
      · have bz : (c == 0) = false := by simp [hz]
        by_cases hm : m = 0
        · subst hm
          by_cases hg : g = 0
          · subst hg
            have HV : Hid (okB ⟨3, o, c, 0, 0, h⟩ = true) := Lib.hid (ok_yes (by refine ⟨⟨?_, ?_⟩, ⟨?_, ?_⟩, ?_, ?_, ?_, ?_, ?_⟩ <;> (dsimp only; omega)))
            clear hh ho hc
            go_enter Tryz.func104, Tryz.ntmps104
            go_wp2_with (go_at_call 172; (with_reducible refine (from_any _ _ _ _).mono ?_); rintro e w1 ⟨rfl, rfl⟩)
            go_ret
            exact ⟨ret_bool (by rw [HV.out]), by go_grown⟩
          · have bg : (g == 0) = false := by simp [hg]
            have HV : Hid (okB ⟨3, o, c, 0, g, h⟩ = false) := Lib.hid (ok_no (by intro h; unfold okP at h; dsimp only at h; omega))
            clear hh ho hc
            go_enter Tryz.func104, Tryz.ntmps104
            go_wp2_with (go_at_call 172; (with_reducible refine (from_any _ _ _ _).mono ?_); rintro e w1 ⟨rfl, rfl⟩)
            go_ret
            exact ⟨ret_bool (by rw [HV.out]), by go_grown⟩
        · have bm : (m == 0) = false := by simp [hm]
          have HV : Hid (okB ⟨3, o, c, m, g, h⟩ = false) := Lib.hid (ok_no (by intro h; unfold okP at h; dsimp only at h; omega))
          clear hh ho hc
          go_enter Tryz.func104, Tryz.ntmps104
          go_wp2_with (go_at_call 172; (with_reducible refine (from_any _ _ _ _).mono ?_); rintro e w1 ⟨rfl, rfl⟩)
          go_ret
          exact ⟨ret_bool (by rw [HV.out]), by go_grown⟩
    · have i3 := in_no hc
      have HV : Hid (okB ⟨3, o, c, m, g, h⟩ = false) := Lib.hid (ok_no (by intro h; unfold okP at h; dsimp only at h; omega))
      clear hh ho hc
      go_enter Tryz.func104, Tryz.ntmps104
      go_wp2_with (go_at_call 172; (with_reducible refine (from_any _ _ _ _).mono ?_); rintro e w1 ⟨rfl, rfl⟩)
      go_ret
      exact ⟨ret_bool (by rw [HV.out]), by go_grown⟩
  · have i2 := in_no ho
    have HV : Hid (okB ⟨3, o, c, m, g, h⟩ = false) := Lib.hid (ok_no (by intro h; unfold okP at h; dsimp only at h; omega))
    clear hh ho
    go_enter Tryz.func104, Tryz.ntmps104
    go_wp2_with (go_at_call 172; (with_reducible refine (from_any _ _ _ _).mono ?_); rintro e w1 ⟨rfl, rfl⟩)
    go_ret
    exact ⟨ret_bool (by rw [HV.out]), by go_grown⟩
set_option maxRecDepth 100000 in
set_option maxHeartbeats 4000000 in
theorem may_fat (o c m g h : Int) (w : World) (hh : 0 ≤ h ∧ h ≤ 16777215) : Calls Tryz.prog 104 #[hdV ⟨4, o, c, m, g, h⟩] w (MayPost ⟨4, o, c, m, g, h⟩ w) := by
  have it : inB 0 4 4 = true := rfl
  have i1 := in_yes hh
  by_cases ho : o = 0
  · subst ho
    by_cases hc : c = 0
    · subst hc
      by_cases hm : 0 ≤ m ∧ m ≤ 4095
      · have i2 := in_yes hm
        by_cases hg : 0 ≤ g ∧ g ≤ 4095
        · have i3 := in_yes hg
          have HV : Hid (okB ⟨4, 0, 0, m, g, h⟩ = true) := Lib.hid (ok_yes (by refine ⟨⟨?_, ?_⟩, ⟨?_, ?_⟩, ?_, ?_, ?_, ?_, ?_⟩ <;> (dsimp only; omega)))
          clear hh hm hg
          go_enter Tryz.func104, Tryz.ntmps104
          go_wp2_with (go_at_call 172; (with_reducible refine (from_any _ _ _ _).mono ?_); rintro e w1 ⟨rfl, rfl⟩)
          go_ret
          exact ⟨ret_bool (by rw [HV.out]), by go_grown⟩
        · have i3 := in_no hg
          have HV : Hid (okB ⟨4, 0, 0, m, g, h⟩ = false) := Lib.hid (ok_no (by intro h; unfold okP at h; dsimp only at h; omega))
          clear hh hm hg
          go_enter Tryz.func104, Tryz.ntmps104
          go_wp2_with (go_at_call 172; (with_reducible refine (from_any _ _ _ _).mono ?_); rintro e w1 ⟨rfl, rfl⟩)
          go_ret
          exact ⟨ret_bool (by rw [HV.out]), by go_grown⟩
      · have i2 := in_no hm
        have HV : Hid (okB ⟨4, 0, 0, m, g, h⟩ = false) := Lib.hid (ok_no (by intro h; unfold okP at h; dsimp only at h; omega))
        clear hh hm
        go_enter Tryz.func104, Tryz.ntmps104
        go_wp2_with (go_at_call 172; (with_reducible refine (from_any _ _ _ _).mono ?_); rintro e w1 ⟨rfl, rfl⟩)
        go_ret
        exact ⟨ret_bool (by rw [HV.out]), by go_grown⟩
    · have bc : (c != 0) = true := by simp [hc]
      have HV : Hid (okB ⟨4, 0, c, m, g, h⟩ = false) := Lib.hid (ok_no (by intro h; unfold okP at h; dsimp only at h; omega))
      clear hh
      go_enter Tryz.func104, Tryz.ntmps104
      go_wp2_with (go_at_call 172; (with_reducible refine (from_any _ _ _ _).mono ?_); rintro e w1 ⟨rfl, rfl⟩)
      go_ret
      exact ⟨ret_bool (by rw [HV.out]), by go_grown⟩
  · have bo : (o != 0) = true := by simp [ho]
    have HV : Hid (okB ⟨4, o, c, m, g, h⟩ = false) := Lib.hid (ok_no (by intro h; unfold okP at h; dsimp only at h; omega))
    clear hh
    go_enter Tryz.func104, Tryz.ntmps104
    go_wp2_with (go_at_call 172; (with_reducible refine (from_any _ _ _ _).mono ?_); rintro e w1 ⟨rfl, rfl⟩)
    go_ret
    exact ⟨ret_bool (by rw [HV.out]), by go_grown⟩
set_option maxRecDepth 100000 in
set_option maxHeartbeats 4000000 in
theorem may_free (t o c m g h : Int) (w : World) (ht : 0 ≤ t ∧ t ≤ 4) (h2 : ¬ t = 2) (h3 : ¬ t = 3) (h4 : ¬ t = 4) (hh : 0 ≤ h ∧ h ≤ 16777215) : Calls Tryz.prog 104 #[hdV ⟨t, o, c, m, g, h⟩] w (MayPost ⟨t, o, c, m, g, h⟩ w) := by
  have it := in_yes ht
  have i1 := in_yes hh
  have b2 : (t == 2) = false := by simp [h2]
  have b3 : (t == 3) = false := by simp [h3]
  have b4 : (t == 4) = false := by simp [h4]
  by_cases ho : o = 0
  · subst ho
    by_cases hc : c = 0
    · subst hc
      by_cases hm : m = 0
      · subst hm
        by_cases hg : g = 0
        · subst hg
          have HV : Hid (okB ⟨t, 0, 0, 0, 0, h⟩ = true) := Lib.hid (ok_yes (by refine ⟨⟨?_, ?_⟩, ⟨?_, ?_⟩, ?_, ?_, ?_, ?_, ?_⟩ <;> (dsimp only; omega)))
          clear ht hh
          go_enter Tryz.func104, Tryz.ntmps104
          go_wp2_with (go_at_call 172; (with_reducible refine (from_any _ _ _ _).mono ?_); rintro e w1 ⟨rfl, rfl⟩)
          go_ret
          exact ⟨ret_bool (by rw [HV.out]), by go_grown⟩
        · have bg : (g == 0) = false := by simp [hg]
          have HV : Hid (okB ⟨t, 0, 0, 0, g, h⟩ = false) := Lib.hid (ok_no (by intro h; unfold okP at h; dsimp only at h; omega))
          clear ht hh
          go_enter Tryz.func104, Tryz.ntmps104
          go_wp2_with (go_at_call 172; (with_reducible refine (from_any _ _ _ _).mono ?_); rintro e w1 ⟨rfl, rfl⟩)
          go_ret
          exact ⟨ret_bool (by rw [HV.out]), by go_grown⟩
      · have bm : (m == 0) = false := by simp [hm]
        have HV : Hid (okB ⟨t, 0, 0, m, g, h⟩ = false) := Lib.hid (ok_no (by intro h; unfold okP at h; dsimp only at h; omega))
        clear ht hh
        go_enter Tryz.func104, Tryz.ntmps104
        go_wp2_with (go_at_call 172; (with_reducible refine (from_any _ _ _ _).mono ?_); rintro e w1 ⟨rfl, rfl⟩)
        go_ret
        exact ⟨ret_bool (by rw [HV.out]), by go_grown⟩
    · have bc : (c != 0) = true := by simp [hc]
      have HV : Hid (okB ⟨t, 0, c, m, g, h⟩ = false) := Lib.hid (ok_no (by intro h; unfold okP at h; dsimp only at h; omega))
      clear ht hh
      go_enter Tryz.func104, Tryz.ntmps104
      go_wp2_with (go_at_call 172; (with_reducible refine (from_any _ _ _ _).mono ?_); rintro e w1 ⟨rfl, rfl⟩)
      go_ret
      exact ⟨ret_bool (by rw [HV.out]), by go_grown⟩
  · have bo : (o != 0) = true := by simp [ho]
    have HV : Hid (okB ⟨t, o, c, m, g, h⟩ = false) := Lib.hid (ok_no (by intro h; unfold okP at h; dsimp only at h; omega))
    clear ht hh
    go_enter Tryz.func104, Tryz.ntmps104
    go_wp2_with (go_at_call 172; (with_reducible refine (from_any _ _ _ _).mono ?_); rintro e w1 ⟨rfl, rfl⟩)
    go_ret
    exact ⟨ret_bool (by rw [HV.out]), by go_grown⟩
theorem may_any (x : Hd) (w : World) : Calls Tryz.prog 104 #[hdV x] w (MayPost x w) := by
  obtain ⟨t, o, c, m, g, h⟩ := x
  by_cases ht : 0 ≤ t ∧ t ≤ 4
  · by_cases hh : 0 ≤ h ∧ h ≤ 16777215
    · by_cases h2 : t = 2
      · subst h2; exact may_biased o c m g h w hh
      · by_cases h3 : t = 3
        · subst h3; exact may_thin o c m g h w hh
        · by_cases h4 : t = 4
          · subst h4; exact may_fat o c m g h w hh
          · exact may_free t o c m g h w ht h2 h3 h4 hh
    · exact may_hash t o c m g h w ht hh
  · exact may_tag t o c m g h w ht
end Go.Proofs.YtmknnjjmmfbppaaGreat
