/- Package task, as the law's walks take it: a task of items that were drawn. -/
import Derived.Test.YtmkgbbbhmbejnaaTaskR
namespace Go.Proofs.Ytmkgbbbhmbejnaa
open Go.ChangeShapes Go.WideShapes Go.ChangeAt Go.RowKit
set_option linter.unusedVariables false
set_option maxRecDepth 100000
set_option linter.unusedSimpArgs false
/-- a task over the cells and permits c, of items as laws draw them, thirty at most -/
structure TaskAt (w : World) (c : Ids) (t : Nat) (Q : Nat → Prop) (r : List Itm) (v : Int) : Prop where
  g : TaskG w c.C c.P t Q r v
  ok : ∀ x ∈ r, x.ok
  few : r.length ≤ 30
theorem TaskAt.keep {w w1 : World} {c : Ids} {t : Nat} {Q : Nat → Prop} {r : List Itm} {v : Int} {F : Nat → Prop} (h : TaskAt w c t Q r v) (hk : Keep F w w1) (hn : ∀ b, Q b → ¬ F b) : TaskAt w1 c t Q r v := ⟨h.g.keep hk hn, h.ok, h.few⟩
theorem TaskAt.lt {w : World} {c : Ids} {t : Nat} {Q : Nat → Prop} {r : List Itm} {v : Int} (h : TaskAt w c t Q r v) : ∀ b, Q b → b < w.heap.size := h.g.lt
theorem TaskAt.fresh {w : World} {c : Ids} {t : Nat} {Q : Nat → Prop} {r : List Itm} {v : Int} (h : TaskAt w c t Q r v) : Fresh r := h.g.fresh
theorem TaskG.at {w : World} {c : Ids} {t : Nat} {Q : Nat → Prop} {r l : List Itm} {v : Int} (h : TaskG w c.C c.P t Q r v) (hs : r <:+ l) (ho : ∀ x ∈ l, x.ok) (hf : l.length ≤ 30) : TaskAt w c t Q r v :=
  ⟨h, fun x hx => ho x (hs.subset hx), Nat.le_trans hs.length_le hf⟩
theorem keep0 (w : World) : Keep (fun _ => False) w w := Keep.refl _ w
theorem tdone_any (c : Ids) (t : Nat) (Q : Nat → Prop) (r : List Itm) (v : Int) (w : World) (h : TaskAt w c t Q r v) :
    Calls Try.prog 29 #[ptrV t] w fun e w' => e = .returned (.bool r.isEmpty) ∧ Keep (fun _ => False) w w' :=
  (isdone_any c.C c.P t Q r v w h.g).mono (by rintro e w' ⟨rfl, rfl⟩; exact ⟨rfl, keep0 _⟩)
theorem tvalue_any (c : Ids) (t : Nat) (Q : Nat → Prop) (r : List Itm) (v : Int) (w : World) (h : TaskAt w c t Q r v) :
    Calls Try.prog 32 #[ptrV t] w fun e w' => e = .returned (.int .i64 (valueS r v)) ∧ Keep (fun _ => False) w w' :=
  (isvalue_any c.C c.P t Q r v w h.g).mono (by rintro e w' ⟨rfl, rfl⟩; exact ⟨rfl, keep0 _⟩)
theorem tparked_any (c : Ids) (t : Nat) (Q : Nat → Prop) (r : List Itm) (v : Int) (w : World) (h : TaskAt w c t Q r v) :
    Calls Try.prog 30 #[ptrV t] w fun e w' => e = .returned (.bool (parkedS r)) ∧ Keep (fun _ => False) w w' :=
  (isparked_any c.C c.P t Q r v w h.g).mono (by rintro e w' ⟨rfl, rfl⟩; exact ⟨rfl, keep0 _⟩)
theorem kind_of {w : World} {C P t : Nat} {Q : Nat → Prop} {x : Itm} {r : List Itm} {v : Int} (h : TaskG w C P t Q (x :: r) v) : x.kind < 5 ∨ x.kind = 5 ∨ x.kind = 6 := by
  rcases h.kinds with ⟨h, _⟩ | ⟨h, _⟩
  · exact .inl h
  · exact .inr h
theorem canS_op {ps : List Bool} {x : Itm} {r : List Itm} {k : Int} (h : x.kind < 5) : canS ps (x :: r) k = (k == 0) := by
  have : ¬ (x.kind = 5 ∨ x.kind = 6) := by omega
  simp [canS, this]
theorem canS_park {ps : List Bool} {x : Itm} {r : List Itm} {k : Int} {b : Bool} (h : x.kind = 5 ∨ x.kind = 6) (hb : ps[x.at']? = some b) : canS ps (x :: r) k = endsS b (x.kind == 6) k := by
  simp [canS, h, endsS, List.getD_eq_getElem?_getD, hb]
theorem permit_of {ps : List Bool} {x : Itm} (h3 : ps.length = 3) (hx : x.ok) (hk : x.kind = 5 ∨ x.kind = 6) : ∃ b, ps[x.at']? = some b := by
  have := hx.park hk
  exact ⟨ps[x.at']'(by omega), by simp⟩
theorem tcan_any (c : Ids) (t : Nat) (Q : Nat → Prop) (r : List Itm) (v : Int) (ps : List Bool) (k : Int) (w : World) (h : TaskAt w c t Q r v) (hP : PermitsAt w c.P c.R c.cs ps) (h3 : ps.length = 3) :
    Calls Try.prog 38 #[ptrV t, .int .i64 k] w fun e w' => e = .returned (.bool (canS ps r k)) ∧ Keep (fun _ => False) w w' := by
  cases r with
  | nil => exact (can_done c.C c.P t Q v k w h.g).mono (by rintro e w' ⟨rfl, rfl⟩; exact ⟨rfl, keep0 _⟩)
  | cons x r =>
    rcases kind_of h.g with hk | hk
    · rw [canS_op hk]
      exact (can_op c.C c.P t Q x r v k w h.g hk).mono (by rintro e w' ⟨rfl, rfl⟩; exact ⟨rfl, keep0 _⟩)
    · obtain ⟨b, hb⟩ := permit_of h3 (h.ok x (by simp)) hk
      rw [canS_park hk hb]
      exact can_park c.C c.P c.R t c.cs ps Q x r v k b w h.g hP hk hb
theorem tstep_no (c : Ids) (t : Nat) (Q : Nat → Prop) (r : List Itm) (v : Int) (ps : List Bool) (k : Int) (w : World) (h : TaskAt w c t Q r v) (hP : PermitsAt w c.P c.R c.cs ps) (h3 : ps.length = 3) (hk : canS ps r k = false) :
    Calls Try.prog 27 #[ptrV t, .int .i64 k] w fun e w' => e = .returned (.bool false) ∧ Keep (fun _ => False) w w' := by
  cases r with
  | nil => exact (step_done (some ⟨t, 0, none⟩) v k w h.g.done).mono (by rintro e w' ⟨rfl, rfl⟩; exact ⟨rfl, keep0 _⟩)
  | cons x r =>
    rcases kind_of h.g with hx | hx
    · rw [canS_op hx] at hk
      exact op_no c.C c.P t Q x r v k w h.g hx (by simpa using hk)
    · obtain ⟨b, hb⟩ := permit_of h3 (h.ok x (by simp)) hx
      rw [canS_park hx hb] at hk
      exact park_no c.C c.P c.R t c.cs ps Q x r v k b w h.g hP hx hb hk
/-- what belongs to a step: the task's own, the cells', the permits' -/
def OfStep (c : Ids) (Q : Nat → Prop) (b : Nat) : Prop := Q b ∨ ofCells c.C c.S b ∨ b ∈ c.cs
theorem stepS_op {m : List Int} {ps : List Bool} {x : Itm} {r : List Itm} {v k : Int} (h : x.kind < 5) : stepS m ps (x :: r) v k = ((operS m x).1, ps, (if (operS m x).2.2 then onS r (operS m x).2.1 else (x :: r, v))) := by
  have : ¬ (x.kind = 5 ∨ x.kind = 6) := by omega
  simp only [stepS, this, if_false]
  split <;> rfl
theorem stepS_park {m : List Int} {ps : List Bool} {x : Itm} {r : List Itm} {v k : Int} (h : x.kind = 5 ∨ x.kind = 6) : stepS m ps (x :: r) v k = (m, (if k = 0 then ps.set x.at' false else ps), onS r k) := by
  simp only [stepS, h, if_true]
theorem stepCount_op {m : List Int} {x : Itm} {r : List Itm} (h : x.kind < 5) : stepCount m (x :: r) = countS m x := by
  have : ¬ (x.kind = 5 ∨ x.kind = 6) := by omega
  simp [stepCount, this]
theorem step_suffix (m : List Int) (x : Itm) (r : List Itm) (v : Int) : (if (operS m x).2.2 then onS r (operS m x).2.1 else (x :: r, v)).1 <:+ x :: r := by
  split
  · exact (onS_suffix r _).trans (List.suffix_cons x r)
  · exact List.suffix_refl _
theorem tstep_yes (c : Ids) (t : Nat) (Q : Nat → Prop) (r : List Itm) (v : Int) (m : List Int) (ps : List Bool) (k n : Int) (w : World) (h : TaskAt w c t Q r v) (hC : CellsAt w c.C c.S m n) (hP : PermitsAt w c.P c.R c.cs ps)
    (hQ : ∀ b, Q b → b ≠ c.C ∧ b ≠ c.S ∧ b ≠ c.P ∧ b ≠ c.R ∧ b ∉ c.cs) (h4 : m.length = 4) (h3 : ps.length = 3) (hk : canS ps r k = true) (hn : 0 ≤ n ∧ n ≤ 1000000) :
    Calls Try.prog 27 #[ptrV t, .int .i64 k] w fun e w' => e = .returned (.bool true) ∧ (∃ Q', TaskAt w' c t Q' (stepS m ps r v k).2.2.1 (stepS m ps r v k).2.2.2 ∧ ∀ b, Q' b → Q b ∨ w.heap.size ≤ b) ∧
      CellsAt w' c.C c.S (stepS m ps r v k).1 (n + stepCount m r) ∧ PermitsAt w' c.P c.R c.cs (stepS m ps r v k).2.1 ∧ Keep (OfStep c Q) w w' := by
  have hown := h.g.own
  have htq := hQ t hown
  cases r with
  | nil => simp [canS] at hk
  | cons x r =>
    rcases kind_of h.g with hx | hx
    · rw [canS_op hx] at hk
      obtain rfl : k = 0 := by simpa using hk
      rw [stepS_op hx, stepCount_op hx]
      refine (op_yes c.C c.P c.S t Q x r v m n w h.g hC hx (fun b hb => ⟨(hQ b hb).1, (hQ b hb).2.1⟩) ⟨hn.1, by omega⟩).mono ?_
      rintro e w' ⟨rfl, ⟨Q', g1, g2⟩, g3, g4⟩
      refine ⟨rfl, ⟨Q', g1.at (step_suffix m x r v) h.ok h.few, g2⟩, g3, ?_, g4.mono (fun b _ hb => ?_)⟩
      · have hCo := hC.own
        have hCr := hC.row
        refine hP.keep g4 ?_ ?_ ?_
        · rintro (e | e | e)
          · exact htq.2.2.1 e.symm
          · exact hP.own.apart hCo (by decide) e
          · exact hP.own.apart hCr (by decide) e
        · rintro (e | e | e)
          · exact htq.2.2.2.1 e.symm
          · exact hP.row.apart hCo (by decide) e
          · exact hP.row.apart hCr (by decide) e
        · rintro b hb (e | e | e)
          · exact htq.2.2.2.2 (e ▸ hb)
          · exact hP.notin hCo (e ▸ hb)
          · exact hP.notin hCr (e ▸ hb)
      · rcases hb with rfl | hb
        · exact .inl hown
        · exact .inr (.inl hb)
    · obtain ⟨b, hb⟩ := permit_of h3 (h.ok x (by simp)) hx
      rw [canS_park hx hb] at hk
      rw [stepS_park hx]
      have hc0 : stepCount m (x :: r) = 0 := by simp [stepCount, hx]
      rw [hc0]
      refine (park_yes c.C c.P c.R t c.cs ps Q x r v k b w h.g hP hx hb hk (fun b hb => (hQ b hb).2.2.2.2)).mono ?_
      rintro e w' ⟨rfl, ⟨Q', g1, g2⟩, g3, g4⟩
      refine ⟨rfl, ⟨Q', g1.at ((onS_suffix r k).trans (List.suffix_cons x r)) h.ok h.few, g2⟩, ?_, g3, g4.mono (fun b _ hb => ?_)⟩
      · rw [Int.add_zero]
        refine hC.keep g4 ?_ ?_
        · rintro (e | e)
          · exact htq.1 e.symm
          · exact hP.notin hC.own e
        · rintro (e | e)
          · exact htq.2.1 e.symm
          · exact hP.notin hC.row e
      · rcases hb with rfl | hb
        · exact .inl hown
        · exact .inr (.inr hb)
theorem all_tasks (c : Ids) (I : Nat) (u : Value) (l : List Itm) (piece : Int) (m : List Int) (ps : List Bool) (n : Int) (w : World) (hI : ItemsAt w I u l) (hC : CellsAt w c.C c.S m n) (hP : PermitsAt w c.P c.R c.cs ps) (hp : 1 ≤ piece ∧ piece ≤ 30) :
    Calls Try.prog 22 #[cellsV c.C, permitsV c.P, u, .int .i64 piece] w fun e w' => ∃ t Q, e = .returned (ptrV t) ∧ TaskAt w' c t Q (onS l 0).1 (onS l 0).2 ∧ (∀ b, Q b → w.heap.size ≤ b) ∧ Below w.heap.size w w' := by
  obtain ⟨a, cap, rfl, _⟩ := hI.is
  obtain ⟨p, rfl⟩ : ∃ p : Nat, piece = p := ⟨piece.toNat, by omega⟩
  refine (all_made c.C c.P I a cap l p w hI ⟨by omega, by omega⟩).mono ?_
  rintro e w' ⟨t, rfl, hM⟩
  exact ⟨t, _, rfl, (hM.taskG hM.1).at (onS_suffix l 0) hI.ok hI.few, fun b hb => hb.1, hM.2.2⟩
theorem trun_any (c : Ids) (t : Nat) (Q : Nat → Prop) (r : List Itm) (v : Int) (m : List Int) (ps : List Bool) (n : Int) (w : World) (h : TaskAt w c t Q r v) (hC : CellsAt w c.C c.S m n) (hP : PermitsAt w c.P c.R c.cs ps)
    (hQ : ∀ b, Q b → b ≠ c.C ∧ b ≠ c.S ∧ b ≠ c.P ∧ b ≠ c.R ∧ b ∉ c.cs) (h4 : m.length = 4) (hr : ∀ x ∈ r, Plain6 x) (hn : 0 ≤ n ∧ n ≤ 1000000) :
    Calls Try.prog 31 #[ptrV t] w fun e w' => e = .returned (.int .i64 (runS m r v).2) ∧ (∃ Q', TaskAt w' c t Q' [] (runS m r v).2 ∧ ∀ b, Q' b → Q b ∨ w.heap.size ≤ b) ∧ CellsAt w' c.C c.S (runS m r v).1 (n + opsS r) ∧ PermitsAt w' c.P c.R c.cs ps ∧ Keep (OfStep c Q) w w' := by
  have hown := h.g.own
  have htq := hQ t hown
  have hfew := h.few
  refine (run_gen c.C c.P c.S t Q r v m n w h.g hC (fun b hb => ⟨(hQ b hb).1, (hQ b hb).2.1⟩) h4 hr ⟨hn.1, by omega⟩).mono ?_
  rintro e w' ⟨rfl, ⟨Q', g1, g2⟩, g3, g4⟩
  refine ⟨rfl, ⟨Q', ⟨g1, fun x hx => by simp at hx, by simp⟩, g2⟩, g3, ?_, g4.mono (fun b _ hb => ?_)⟩
  · have hCo := hC.own
    have hCr := hC.row
    refine hP.keep g4 ?_ ?_ ?_
    · rintro (e | e | e)
      · exact htq.2.2.1 e.symm
      · exact hP.own.apart hCo (by decide) e
      · exact hP.own.apart hCr (by decide) e
    · rintro (e | e | e)
      · exact htq.2.2.2.1 e.symm
      · exact hP.row.apart hCo (by decide) e
      · exact hP.row.apart hCr (by decide) e
    · rintro b hb (e | e | e)
      · exact htq.2.2.2.2 (e ▸ hb)
      · exact hP.notin hCo (e ▸ hb)
      · exact hP.notin hCr (e ▸ hb)
  · rcases hb with rfl | hb
    · exact .inl hown
    · exact .inr (.inl hb)
/-- the ids of cells without permits -/
def lone (C S : Nat) : Ids := ⟨C, S, C, C, [], C, C, C⟩
theorem spin_new (C S : Nat) (old new : Int) (m : List Int) (k : Int) (w : World) (hC : CellsAt w C S m k) (ho : 0 ≤ old ∧ old ≤ 18446744073709551615) (hn : 0 ≤ new ∧ new ≤ 18446744073709551615) :
    Calls Try.prog 37 #[cellsV C, .int .i64 0, .int .u64 old, .int .u64 new] w fun e w' => ∃ t Q, e = .returned (ptrV t) ∧ TaskAt w' (lone C S) t Q [⟨4, 0, old, new⟩] 0 ∧ (∀ b, Q b → w.heap.size ≤ b) ∧ Below w.heap.size w w' := by
  refine (tspin_any C C (fun b => w.heap.size ≤ b) ⟨4, 0, old, new⟩ w rfl (fun _ h => h)).mono ?_
  rintro e w' ⟨t, rfl, hM⟩
  refine ⟨t, _, rfl, ⟨hM.taskG hM.1, fun x hx => ?_, by simp⟩, fun b hb => hb.1, hM.2.2⟩
  obtain rfl := List.mem_singleton.1 hx
  exact ⟨by simp, by simp, by simp, ho, hn, by simp⟩
theorem gstep_yes (c : Ids) (t : Nat) (Q : Nat → Prop) (r : List Itm) (v : Int) (m : List Int) (n : Int) (w : World) (h : TaskAt w c t Q r v) (hC : CellsAt w c.C c.S m n) (hQ : ∀ b, Q b → b ≠ c.C ∧ b ≠ c.S) (hr : r ≠ []) (hp : parkedS r = false) (hn : 0 ≤ n ∧ n ≤ 1000000) :
    Calls Try.prog 27 #[ptrV t, .int .i64 0] w fun e w' => e = .returned (.bool true) ∧ (∃ Q', TaskAt w' c t Q' (stepS m [] r v 0).2.2.1 (stepS m [] r v 0).2.2.2 ∧ ∀ b, Q' b → Q b ∨ w.heap.size ≤ b) ∧
      CellsAt w' c.C c.S (stepS m [] r v 0).1 (n + stepCount m r) ∧ Keep (fun b => Q b ∨ ofCells c.C c.S b) w w' := by
  cases r with
  | nil => exact absurd rfl hr
  | cons x r =>
    have hx : x.kind < 5 := by
      rcases kind_of h.g with hx | hx
      · exact hx
      · simp [parkedS] at hp
        omega
    rw [stepS_op hx, stepCount_op hx]
    refine (op_yes c.C c.P c.S t Q x r v m n w h.g hC hx hQ ⟨hn.1, by omega⟩).mono ?_
    rintro e w' ⟨rfl, ⟨Q', g1, g2⟩, g3, g4⟩
    refine ⟨rfl, ⟨Q', g1.at (step_suffix m x r v) h.ok h.few, g2⟩, g3, g4.mono (fun b _ hb => ?_)⟩
    rcases hb with rfl | hb
    · exact .inl h.g.own
    · exact .inr hb
theorem gstep_no (c : Ids) (t : Nat) (Q : Nat → Prop) (r : List Itm) (v k : Int) (w : World) (h : TaskAt w c t Q r v) (hp : parkedS r = false) (hk : k ≠ 0) :
    Calls Try.prog 27 #[ptrV t, .int .i64 k] w fun e w' => e = .returned (.bool false) ∧ Keep (fun _ => False) w w' := by
  cases r with
  | nil => exact (step_done (some ⟨t, 0, none⟩) v k w h.g.done).mono (by rintro e w' ⟨rfl, rfl⟩; exact ⟨rfl, keep0 _⟩)
  | cons x r =>
    have hx : x.kind < 5 := by
      rcases kind_of h.g with hx | hx
      · exact hx
      · simp [parkedS] at hp
        omega
    exact op_no c.C c.P t Q x r v k w h.g hx hk
theorem gcan_none (c : Ids) (t : Nat) (Q : Nat → Prop) (v k : Int) (w : World) (h : TaskAt w c t Q [] v) :
    Calls Try.prog 38 #[ptrV t, .int .i64 k] w fun e w' => e = .returned (.bool false) ∧ Keep (fun _ => False) w w' :=
  (can_done c.C c.P t Q v k w h.g).mono (by rintro e w' ⟨rfl, rfl⟩; exact ⟨rfl, keep0 _⟩)
end Go.Proofs.Ytmkgbbbhmbejnaa
