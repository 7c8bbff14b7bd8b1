/- Layer 6's law: works: the chapter's examples. -/
import Derived.Test.YtmkgbbbhmbejnaaTaskApi
import Derived.Test.YtmkgbbbhmbejnaaTaskHas
namespace Go.Proofs.Ytmkgbbbhmbejnaa
open Go.ChangeShapes Go.WideShapes Go.ChangeAt Go.RowKit
set_option linter.unusedVariables false
set_option maxRecDepth 100000
set_option linter.unusedSimpArgs false
/-- cells and permits that the call made -/
structure Env6 (n0 : Nat) (w : World) (C S P R : Nat) (cs : List Nat) (m : List Int) (ps : List Bool) (n : Int) : Prop where
  c : CellsAt w C S m n
  p : PermitsAt w P R cs ps
  lo : n0 ≤ C ∧ n0 ≤ S ∧ n0 ≤ P ∧ n0 ≤ R ∧ ∀ x ∈ cs, n0 ≤ x
theorem Env6.keep {n0 : Nat} {w w1 : World} {C S P R : Nat} {cs : List Nat} {m : List Int} {ps : List Bool} {n : Int} {F : Nat → Prop} (h : Env6 n0 w C S P R cs m ps n) (hk : Keep F w w1) (h1 : ¬ F C) (h2 : ¬ F S) (h3 : ¬ F P) (h4 : ¬ F R) (h5 : ∀ c ∈ cs, ¬ F c) : Env6 n0 w1 C S P R cs m ps n :=
  ⟨h.c.keep hk h1 h2, h.p.keep hk h3 h4 h5, h.lo⟩
theorem Env6.still {n0 : Nat} {w w1 : World} {C S P R : Nat} {cs : List Nat} {m : List Int} {ps : List Bool} {n : Int} (h : Env6 n0 w C S P R cs m ps n) (hk : Keep (fun _ => False) w w1) : Env6 n0 w1 C S P R cs m ps n :=
  h.keep hk (fun h => h) (fun h => h) (fun h => h) (fun h => h) (fun _ _ h => h)
/-- cells turn, the permits stay -/
theorem Env6.turn {n0 : Nat} {w w1 : World} {C S P R t : Nat} {cs : List Nat} {m m' : List Int} {ps : List Bool} {n n' : Int} (h : Env6 n0 w C S P R cs m ps n) (hk : Keep (fun b => b = t ∨ ofCells C S b) w w1) (ht : t ≠ P ∧ t ≠ R ∧ t ∉ cs) (hC : CellsAt w1 C S m' n') : Env6 n0 w1 C S P R cs m' ps n' := by
  have hCo := h.c.own
  have hCr := h.c.row
  refine ⟨hC, h.p.keep hk ?_ ?_ ?_, h.lo⟩
  · rintro (e | e | e)
    · exact ht.1 e.symm
    · exact h.p.own.apart hCo (by decide) e
    · exact h.p.own.apart hCr (by decide) e
  · rintro (e | e | e)
    · exact ht.2.1 e.symm
    · exact h.p.row.apart hCo (by decide) e
    · exact h.p.row.apart hCr (by decide) e
  · rintro b hb (e | e | e)
    · exact ht.2.2 (e ▸ hb)
    · exact h.p.notin hCo (e ▸ hb)
    · exact h.p.notin hCr (e ▸ hb)
theorem store6 {n0 : Nat} {w : World} {C S P R : Nat} {cs : List Nat} {m : List Int} {ps : List Bool} {n : Int} (h : Env6 n0 w C S P R cs m ps n) (i : Nat) (x u : Int) (hx : m[i]? = some x) (h0 : 0 ≤ n) (h1 : n < 9223372036854775807) :
    Calls Try.prog 36 #[cellsV C, .int .i64 i, .int .u64 u] w fun e w' => e = .returned (.bool true) ∧ Env6 n0 w' C S P R cs (m.set i u) ps (n + 1) ∧ Keep (ofCells C S) w w' := by
  refine (store_yes C S m n i x u w h.c hx h0 h1).mono ?_
  rintro e w' ⟨rfl, h2, h3⟩
  have hCo := h.c.own
  have hCr := h.c.row
  refine ⟨rfl, ⟨h2, h.p.keep h3 ?_ ?_ ?_, h.lo⟩, h3⟩
  · rintro (e | e)
    · exact h.p.own.apart hCo (by decide) e
    · exact h.p.own.apart hCr (by decide) e
  · rintro (e | e)
    · exact h.p.row.apart hCo (by decide) e
    · exact h.p.row.apart hCr (by decide) e
  · rintro b hb (e | e)
    · exact h.p.notin hCo (e ▸ hb)
    · exact h.p.notin hCr (e ▸ hb)
/-- a task apart from them -/
def T6 (n0 : Nat) (w : World) (C S P R : Nat) (cs : List Nat) (t : Nat) (r : List Itm) (v : Int) : Prop :=
  ∃ Q, TaskG w C P t Q r v ∧ ∀ b, Q b → n0 ≤ b ∧ b ≠ C ∧ b ≠ S ∧ b ≠ P ∧ b ≠ R ∧ b ∉ cs
theorem T6.still {n0 : Nat} {w w1 : World} {C S P R t : Nat} {cs : List Nat} {r : List Itm} {v : Int} (h : T6 n0 w C S P R cs t r v) (hk : Keep (fun _ => False) w w1) : T6 n0 w1 C S P R cs t r v := by
  obtain ⟨Q, h1, h2⟩ := h
  exact ⟨Q, h1.keep hk (fun _ _ h => h), h2⟩
theorem T6.cells {n0 : Nat} {w w1 : World} {C S P R t : Nat} {cs : List Nat} {r : List Itm} {v : Int} (h : T6 n0 w C S P R cs t r v) (hk : Keep (ofCells C S) w w1) : T6 n0 w1 C S P R cs t r v := by
  obtain ⟨Q, h1, h2⟩ := h
  exact ⟨Q, h1.keep hk (fun b hb e => by
    have := h2 b hb
    rcases e with e | e
    · exact this.2.1 e
    · exact this.2.2.1 e), h2⟩
/-- a new task lies apart -/
theorem T6.new {n0 : Nat} {w w' : World} {C S P R : Nat} {cs : List Nat} {m : List Int} {ps : List Bool} {n : Int} {Q : Nat → Prop} {r : List Itm} {v : Int} {t : Nat} (h : Env6 n0 w C S P R cs m ps n) (hn : n0 ≤ w.heap.size) (hq : ∀ b, Q b → w.heap.size ≤ b) {w1 : World} (hM : Made6 w1 C P Q r v t w') (ht : Q t) : T6 n0 w' C S P R cs t r v := by
  refine ⟨_, hM.taskG ht, fun b hb => ?_⟩
  have h1 := h.c.own.lt
  have h2 := h.c.row.lt
  have h3 := h.p.own.lt
  have h4 := h.p.row.lt
  have hb1 := hq b hb.1
  refine ⟨by omega, by omega, by omega, by omega, by omega, fun hc => ?_⟩
  obtain ⟨i, hi⟩ := List.mem_iff_getElem?.1 hc
  have hlt := (List.getElem?_eq_some_iff.1 hi).1
  obtain ⟨s, r, hx⟩ := h.p.chan i b (ps[i]'(by rw [← h.p.len]; exact hlt)) hi (by simp)
  have := (Array.getElem?_eq_some_iff.1 hx).1
  omega
theorem step6 {n0 : Nat} {w : World} {C S P R t : Nat} {cs : List Nat} {m : List Int} {ps : List Bool} {n : Int} {x : Itm} {r : List Itm} {v : Int} (h : Env6 n0 w C S P R cs m ps n) (hT : T6 n0 w C S P R cs t (x :: r) v) (hn0 : n0 ≤ w.heap.size) (hk : x.kind < 5) (hn : 0 ≤ n ∧ n ≤ 2000000) :
    Calls Try.prog 27 #[pV t, .int .i64 0] w fun e w' => e = .returned (.bool true) ∧ Env6 n0 w' C S P R cs (operS m x).1 ps (n + countS m x) ∧
      T6 n0 w' C S P R cs t (if (operS m x).2.2 then onS r (operS m x).2.1 else (x :: r, v)).1 (if (operS m x).2.2 then onS r (operS m x).2.1 else (x :: r, v)).2 ∧ Below n0 w w' := by
  obtain ⟨Q, h1, h2⟩ := hT
  have ht := h2 t h1.own
  refine (op_yes C P S t Q x r v m n w h1 h.c hk (fun b hb => ⟨(h2 b hb).2.1, (h2 b hb).2.2.1⟩) hn).mono ?_
  rintro e w' ⟨rfl, ⟨Q', g1, g2⟩, g3, g4⟩
  refine ⟨rfl, h.turn g4 ⟨ht.2.2.2.1, ht.2.2.2.2.1, ht.2.2.2.2.2⟩ g3, ⟨Q', g1, fun b hb => ?_⟩, g4.below hn0 (fun i hi hb => ?_)⟩
  · rcases g2 b hb with hb | hb
    · exact h2 b hb
    · have h1 := h.c.own.lt
      have h2 := h.c.row.lt
      have h3 := h.p.own.lt
      have h4 := h.p.row.lt
      refine ⟨by omega, by omega, by omega, by omega, by omega, fun hc => ?_⟩
      obtain ⟨i, hi⟩ := List.mem_iff_getElem?.1 hc
      have hlt := (List.getElem?_eq_some_iff.1 hi).1
      obtain ⟨s, r, hx⟩ := h.p.chan i b (ps[i]'(by rw [← h.p.len]; exact hlt)) hi (by simp)
      have := (Array.getElem?_eq_some_iff.1 hx).1
      omega
  · rcases hb with rfl | rfl | rfl
    · exact ht.1
    · exact h.lo.1
    · exact h.lo.2.1
theorem row2 (w : World) (a b : Int) : (w.alloc (.cells #[.int .u64 a, .int .u64 b] 22)).ownsRow w.heap.size 22 1 (.slice (some ⟨w.heap.size, 0, none⟩) 2 2) 2 [.int .u64 a, .int .u64 b] :=
  ⟨rfl, .inr ⟨w.heap.size, 2, _, rfl, Nat.le_refl _, Blk.new w _ _, Nat.le_refl _, by unfold maxLen; omega, rfl, rfl⟩⟩
theorem has2 {n0 : Nat} {w : World} {C S P R : Nat} {cs : List Nat} {a b : Int} {ps : List Bool} {n : Int} (h : Env6 n0 w C S P R cs [a, b] ps n) :
    Calls Try.prog 33 #[cellsV C, .slice (some ⟨w.heap.size, 0, none⟩) 2 2] (w.alloc (.cells #[.int .u64 a, .int .u64 b] 22)) fun e w' => e = .returned (.bool true) ∧ Keep (fun _ => False) w w' := by
  have ka : Keep (fun _ => False) w (w.alloc (.cells #[.int .u64 a, .int .u64 b] 22)) := (Keep.refl _ _).alloc _
  refine (has6_any C S w.heap.size [a, b] n _ _ (h.still ka).c (by simp) (row2 w a b)).mono ?_
  rintro e w' ⟨rfl, hk⟩
  exact ⟨rfl, ka.trans hk⟩
theorem seq2 {w2 w4 : World} {C P t1 t2 : Nat} {x y : Itm} {Q : Nat → Prop} {wa : World} (hx : x.kind ≠ 7) (hy : y.kind ≠ 7) (h1 : Made6 wa C P Q [x] 0 t1 w2) (hq1 : Q t1) (h2 : Made6 w2 C P Q [y] 0 t2 w4) (hq2 : Q t2) (hQ : ∀ k, w4.heap.size ≤ k → Q k) :
    Calls Try.prog 40 #[.slice (some ⟨w4.heap.size, 0, none⟩) 2 2] (w4.alloc (.cells #[pV t1, pV t2] 56)) fun e w' => ∃ t, e = .returned (pV t) ∧ Made6 (w4.alloc (.cells #[pV t1, pV t2] 56)) C P Q [x, y] 0 t w' := by
  have hB := Blk.new w4 56 #[pV t1, pV t2]
  have k2 : Keep (fun _ => False) w2 w4 := Keep.ofBelow h2.2.2
  have k4 : Keep (fun _ => False) w4 (w4.alloc (.cells #[pV t1, pV t2] 56)) := (Keep.refl _ _).alloc _
  have e1 : TaskC (w4.alloc (.cells #[pV t1, pV t2] 56)) C P Q t1 [x] 0 := h1.task.keep (k2.trans k4) (fun _ _ h => h) (fun h => h) (fun _ _ h => h)
  have e2 : TaskC (w4.alloc (.cells #[pV t1, pV t2] 56)) C P Q t2 [y] 0 := h2.task.keep k4 (fun _ _ h => h) (fun h => h) (fun _ _ h => h)
  refine (seq_any C P Q [(some ⟨t1, 0, none⟩, [x]), (some ⟨t2, 0, none⟩, [y])] w4.heap.size 0 2 _ (by simp) (by simp) (fun i z hz => ?_) (fun k hk => hQ k (by rw [World.size_alloc] at hk; omega))).mono ?_
  · match i, hz with
    | 0, hz =>
      obtain rfl : z = (some ⟨t1, 0, none⟩, [x]) := by simpa using hz.symm
      exact ⟨hB.cell 0 _ rfl, .inr ⟨t1, [x], 0, rfl, hq1, e1, equiv_one hx⟩⟩
    | 1, hz =>
      obtain rfl : z = (some ⟨t2, 0, none⟩, [y]) := by simpa using hz.symm
      exact ⟨hB.cell 1 _ rfl, .inr ⟨t2, [y], 0, rfl, hq2, e2, equiv_one hy⟩⟩
    | (i + 2), hz => simp at hz
  · rintro e w' ⟨t, r, v, rfl, hM, hR⟩
    refine ⟨t, rfl, ?_⟩
    rcases hR with ⟨h, _⟩ | ⟨_, hR⟩
    · cases h
    · have e0 := (hR.on 0).1
      have ef : flat [((some ⟨t1, 0, none⟩ : Option Addr), [x]), (some ⟨t2, 0, none⟩, [y])] = [x, y] := by simp [flat]
      rw [ef, onS_other hx] at e0
      subst e0
      exact ⟨hM.1, TaskIn.value hM.2.1 0 (fun h => by cases h), hM.2.2⟩
end Go.Proofs.Ytmkgbbbhmbejnaa
