/- Package machine: a thread's step; what is seen of it. -/
import Derived.Test.YtpopcallphbklaaGreatMacB
namespace Go.Proofs.YtpopcallphbklaaGreat
open Go.ChangeShapes Go.WideShapes Go.ChangeAt Go.RowKit
set_option linter.unusedVariables false
set_option maxRecDepth 100000
set_option linter.unusedSimpArgs false
theorem mcan_nil (k : Int) (w : World) : Calls Tryz.prog 40 #[.pointer none, .int .i64 k] w fun e w' => e = .returned (.bool false) ∧ w = w' := by
  go_enter Tryz.func40, Tryz.ntmps40
  go_wp2_with (first | (go_at_call 67; refine (parked_nil _).mono ?_; rintro e w2 ⟨rfl, rfl⟩) | (go_at_call 44; refine (done_nil _).mono ?_; rintro e w2 ⟨rfl, rfl⟩))
  go_ret
  exact ⟨rfl, rfl⟩
/-- the current task, as a caller sees it: its pointer, and what of the thread it is -/
theorem ThrAt.cur {w : World} {C P X : Nat} {O : Nat → Prop} {l : List Tsk} {vs : List Int} (h : ThrAt w C P X O l vs) :
    ∃ c, w.cell? ⟨X, 0, none⟩ = some (.pointer c) ∧ ((l = [] ∧ c = none) ∨ ∃ x l' t Q, l = x :: l' ∧ c = some ⟨t, 0, none⟩ ∧ TaskG w C P t Q x.1 x.2 ∧ ∀ b, Q b → O b ∧ b ≠ X) := by
  obtain ⟨cur, f, u, n0, h1, h2, h3, h4, h5, h6, h7⟩ := h
  rcases h7 with ⟨rfl, rfl⟩ | h7
  · exact ⟨none, h1.cell 0 _ rfl, .inl ⟨rfl, rfl⟩⟩
  · cases l with
    | nil =>
      obtain ⟨k, M, bl, B, sl, e1, _⟩ := h7
      simp at e1
    | cons x l =>
      obtain ⟨t, Q, rfl, hTk, hQ⟩ := live_uns h7
      exact ⟨some ⟨t, 0, none⟩, h1.cell 0 _ rfl, .inr ⟨x, l, t, Q, rfl, rfl, hTk, hQ⟩⟩
theorem thr_done {w : World} {C P X : Nat} {O : Nat → Prop} {x : Thr} (h : ThrAt w C P X O x.1 x.2) (hok : ThrOk x) : ∃ c, w.cell? ⟨X, 0, none⟩ = some (.pointer c) ∧ Calls Tryz.prog 44 #[.pointer c] w fun e w' => e = .returned (.bool x.1.isEmpty) ∧ w = w' := by
  obtain ⟨l, vs⟩ := x
  obtain ⟨c, hc, h⟩ := h.cur
  refine ⟨c, hc, ?_⟩
  rcases h with ⟨rfl, rfl⟩ | ⟨x, l', t, Q, rfl, rfl, hT, _⟩
  · exact done_nil w
  · refine (isdone_any C P t Q x.1 x.2 w hT).mono ?_
    rintro e w' ⟨rfl, rfl⟩
    have := hok x (by simp)
    exact ⟨by cases hx : x.1 with
      | nil => exact absurd hx this
      | cons _ _ => simp, rfl⟩
theorem thr_parked {w : World} {C P X : Nat} {O : Nat → Prop} {x : Thr} (h : ThrAt w C P X O x.1 x.2) : ∃ c, w.cell? ⟨X, 0, none⟩ = some (.pointer c) ∧ Calls Tryz.prog 67 #[.pointer c] w fun e w' => e = .returned (.bool (parkedT x)) ∧ w = w' := by
  obtain ⟨l, vs⟩ := x
  obtain ⟨c, hc, h⟩ := h.cur
  refine ⟨c, hc, ?_⟩
  rcases h with ⟨rfl, rfl⟩ | ⟨x, l', t, Q, rfl, rfl, hT, _⟩
  · exact parked_nil w
  · exact isparked_any C P t Q x.1 x.2 w hT
/-- a task's parking is of a thread that is there -/
def ParkOk (ps : List Bool) (r : List Itm) : Prop := ∀ x ∈ r, x.kind = 5 ∨ x.kind = 6 → x.at' < ps.length
theorem taskg_can {w : World} {C P R t : Nat} {cs : List Nat} {ps : List Bool} {Q : Nat → Prop} {r : List Itm} {v : Int} (k : Int) (h : TaskG w C P t Q r v) (hP : parkedS r = true → PermitsAt w P R cs ps) (hok : ParkOk ps r) :
    Calls Tryz.prog 40 #[pV t, .int .i64 k] w fun e w' => e = .returned (.bool (canS ps r k)) ∧ Keep (fun _ => False) w w' := by
  cases r with
  | nil => exact (can_done C P t Q v k w h).mono (by rintro e w' ⟨rfl, rfl⟩; exact ⟨rfl, Keep.refl _ _⟩)
  | cons x r =>
    rcases (show x.kind < 5 ∨ x.kind = 5 ∨ x.kind = 6 from by
      rcases h.kinds with ⟨h, _⟩ | ⟨h, _⟩
      · exact .inl h
      · exact .inr h) with hx | hx
    · have : ¬ (x.kind = 5 ∨ x.kind = 6) := by omega
      have e : canS ps (x :: r) k = (k == 0) := by simp [canS, this]
      rw [e]
      exact (can_op C P t Q x r v k w h hx).mono (by rintro e w' ⟨rfl, rfl⟩; exact ⟨rfl, Keep.refl _ _⟩)
    · have hlt := hok x (by simp) hx
      have hb : ps[x.at']? = some (ps[x.at']'hlt) := by simp
      have e : canS ps (x :: r) k = endsS (ps[x.at']'hlt) (x.kind == 6) k := by simp [canS, hx, endsS, List.getD_eq_getElem?_getD, hb]
      rw [e]
      exact can_park C P R t cs ps Q x r v k _ w h (hP (by simp [parkedS]; omega)) hx hb
theorem thr_can {w : World} {C P R X : Nat} {cs : List Nat} {ps : List Bool} {O : Nat → Prop} {x : Thr} (k : Int) (h : ThrAt w C P X O x.1 x.2) (hP : parkedT x = true → PermitsAt w P R cs ps) (hok : ∀ t ∈ x.1, ParkOk ps t.1) :
    ∃ c, w.cell? ⟨X, 0, none⟩ = some (.pointer c) ∧ Calls Tryz.prog 40 #[.pointer c, .int .i64 k] w fun e w' => e = .returned (.bool (canT ps x k)) ∧ Keep (fun _ => False) w w' := by
  obtain ⟨l, vs⟩ := x
  obtain ⟨c, hc, h⟩ := h.cur
  refine ⟨c, hc, ?_⟩
  rcases h with ⟨rfl, rfl⟩ | ⟨x, l', t, Q, rfl, rfl, hT, _⟩
  · exact (mcan_nil k w).mono (by rintro e w' ⟨rfl, rfl⟩; exact ⟨rfl, Keep.refl _ _⟩)
  · exact taskg_can k hT hP (hok x (by simp))
/-- no step of this kind -/
theorem taskg_no {w : World} {C P R t : Nat} {cs : List Nat} {ps : List Bool} {Q : Nat → Prop} {r : List Itm} {v : Int} (k : Int) (h : TaskG w C P t Q r v) (hP : parkedS r = true → PermitsAt w P R cs ps) (hok : ParkOk ps r) (hk : canS ps r k = false) :
    Calls Tryz.prog 70 #[pV t, .int .i64 k] w fun e w' => e = .returned (.bool false) ∧ Keep (fun _ => False) w w' := by
  cases r with
  | nil => exact (step_done (some ⟨t, 0, none⟩) v k w h.done).mono (by rintro e w' ⟨rfl, rfl⟩; exact ⟨rfl, Keep.refl _ _⟩)
  | cons x r =>
    rcases (show x.kind < 5 ∨ x.kind = 5 ∨ x.kind = 6 from by
      rcases h.kinds with ⟨h, _⟩ | ⟨h, _⟩
      · exact .inl h
      · exact .inr h) with hx | hx
    · have : ¬ (x.kind = 5 ∨ x.kind = 6) := by omega
      have e : canS ps (x :: r) k = (k == 0) := by simp [canS, this]
      rw [e] at hk
      exact op_no C P t Q x r v k w h hx (by simpa using hk)
    · have hlt := hok x (by simp) hx
      have hb : ps[x.at']? = some (ps[x.at']'hlt) := by simp
      have e : canS ps (x :: r) k = endsS (ps[x.at']'hlt) (x.kind == 6) k := by simp [canS, hx, endsS, List.getD_eq_getElem?_getD, hb]
      rw [e] at hk
      exact park_no C P R t cs ps Q x r v k _ w h (hP (by simp [parkedS]; omega)) hx hb hk
theorem thr_no {w : World} {C P R X : Nat} {cs : List Nat} {ps : List Bool} {O : Nat → Prop} {x : Thr} (k : Int) (h : ThrAt w C P X O x.1 x.2) (hP : parkedT x = true → PermitsAt w P R cs ps) (hok : ∀ t ∈ x.1, ParkOk ps t.1) (hk : canT ps x k = false) :
    Calls Tryz.prog 37 #[pV X, .int .i64 k] w fun e w' => e = .returned (.bool false) ∧ Keep (fun _ => False) w w' := by
  have HS : ∃ c, w.cell? ⟨X, 0, none⟩ = some (.pointer c) ∧ Calls Tryz.prog 70 #[.pointer c, .int .i64 k] w fun e w' => e = .returned (.bool false) ∧ Keep (fun _ => False) w w' := by
    obtain ⟨l, vs⟩ := x
    obtain ⟨c, hc, h⟩ := h.cur
    refine ⟨c, hc, ?_⟩
    rcases h with ⟨rfl, rfl⟩ | ⟨x, l', t, Q, rfl, rfl, hT, _⟩
    · exact (step_done none 0 k w (.inl ⟨rfl, rfl⟩)).mono (by rintro e w' ⟨rfl, rfl⟩; exact ⟨rfl, Keep.refl _ _⟩)
    · exact taskg_no k hT hP (hok x (by simp)) hk
  obtain ⟨c, hc, HS⟩ := HS
  clear h hP hok hk
  go_enter Tryz.func37, Tryz.ntmps37
  go_wp2_with (go_at_call 70; refine HS.mono ?_; rintro e w2 ⟨rfl, hk2⟩)
  go_ret
  exact ⟨rfl, hk2⟩
/-- a step: the current task's, and what follows -/
theorem thr_yes {w : World} {C P X : Nat} {O F : Nat → Prop} {r r' : List Itm} {v v' : Int} {l : List Tsk} {vs : List Int} {R : World → Prop} (k : Int) (h : ThrAt w C P X O ((r, v) :: l) vs) (hn : l.length + 1 + vs.length ≤ 1000)
    (hst : ∀ t Q, TaskG w C P t Q r v → (∀ b, Q b → O b) → Calls Tryz.prog 70 #[pV t, .int .i64 k] w fun e w' => e = .returned (.bool true) ∧ (∃ Q', TaskG w' C P t Q' r' v' ∧ ∀ b, Q' b → Q b ∨ w.heap.size ≤ b) ∧ R w' ∧ Keep (fun b => b = t ∨ F b) w w')
    (hF : ∀ b, O b → ¬ F b) :
    Calls Tryz.prog 37 #[pV X, .int .i64 k] w fun e w' => e = .returned (.bool true) ∧ (∃ O', ThrAt w' C P X O' (goS ((r', v') :: l) vs).1 (goS ((r', v') :: l) vs).2 ∧ ∀ b, O' b → O b ∨ w.heap.size ≤ b) ∧
      (∃ w1, R w1 ∧ Keep (fun b => O b ∨ F b) w w1 ∧ Keep (fun b => O b ∨ w.heap.size ≤ b) w1 w') ∧ Keep (fun b => O b ∨ F b) w w' := by
  obtain ⟨cur, f, u, n0, h1, h2, h3, h4, h5, h6, h7⟩ := h
  have h7 := h7.resolve_left (fun h => by cases h.1)
  obtain ⟨tk, M, bl, B, sl, e1, rfl, e3, g1, g2, g3, g4, g5, g6⟩ := h7
  rw [List.map_cons] at e1
  injection e1 with e1 e1'
  subst e1'
  obtain ⟨t, Q, x⟩ := tk
  obtain rfl : (r, v) = x := e1
  have hTk := g5.1 _ List.mem_cons_self
  have hQ0 := g6 _ List.mem_cons_self
  dsimp only at hTk hQ0
  have c0 : w.cell? ⟨X, 0, none⟩ = some (pV t) := h1.cell 0 _ rfl
  have HS := Lib.hid (hst t Q hTk (fun b hb => (hQ0 b hb).1))
  have tO := hQ0 t hTk.own
  -- what the step leaves of the thread
  have HG : Hid (∀ w2, (∃ Q', TaskG w2 C P t Q' r' v' ∧ ∀ b, Q' b → Q b ∨ w.heap.size ≤ b) → Keep (fun b => b = t ∨ F b) w w2 →
      Calls Tryz.prog 71 #[pV X] w2 fun e w' => e = .returned (.tuple #[]) ∧ (∃ O', ThrAt w' C P X O' (goS ((r', v') :: M.map Tk.x) vs).1 (goS ((r', v') :: M.map Tk.x) vs).2 ∧ ∀ b, O' b → (O b ∨ w.heap.size ≤ b)) ∧ Keep (fun b => O b ∨ w.heap.size ≤ b) w2 w') := Lib.hid (by
    rintro w2 ⟨Q', hT2, hQ'⟩ hk
    have hs := hk.size
    have off : ∀ b, O b → b ≠ t → ¬ (b = t ∨ F b) := fun b hb hbt h => h.elim hbt (hF b hb)
    have nb : bl ≠ t := fun e => (hQ0 t hTk.own).2.2.1 e.symm
    have hThr : ThrAt w2 C P X (fun b => (O b ∨ w.heap.size ≤ b) ∧ b < w2.heap.size) ((r', v') :: M.map Tk.x) vs := by
      refine ⟨pV t, f, u, n0, h1.keep hk (off X h2 (fun e => tO.2.1 e.symm)), ⟨.inl h2, Nat.lt_of_lt_of_le h1.lt hs⟩, row_ownkeep h3 hk (fun g hg => off g (h5 g hg) (fun e => tO.2.2.2.2 (e ▸ hg))), by omega, fun g hg => ⟨.inl (h5 g hg), by have := h6 g (h5 g hg); omega⟩, fun b hb => hb.2, .inr ?_⟩
      refine ⟨⟨t, Q', (r', v')⟩, M, bl, B, sl, rfl, rfl, e3, g1.keep hk (off bl g2 nb), ⟨.inl g2, Nat.lt_of_lt_of_le g1.lt hs⟩, g3.keep hk (fun hM => off B (g4 hM) (fun e => tO.2.2.2.1 hM e.symm)), fun hM => ⟨.inl (g4 hM), by have := h6 B (g4 hM); omega⟩, ⟨fun j hj => ?_, ?_⟩, fun j hj b hb => ?_⟩
      · rcases List.mem_cons.1 hj with rfl | hj
        · exact hT2
        · have hap := (List.pairwise_cons.1 g5.2).1 j hj
          exact (g5.1 j (List.mem_cons_of_mem _ hj)).keep hk (fun b hb h => h.elim (fun e => by subst e; exact hap _ hTk.own hb) (hF b (g6 j (List.mem_cons_of_mem _ hj) b hb).1))
      · refine List.pairwise_cons.2 ⟨fun j hj b hb hj2 => ?_, (List.pairwise_cons.1 g5.2).2⟩
        rcases hQ' b hb with hb | hb
        · exact (List.pairwise_cons.1 g5.2).1 j hj b hb hj2
        · have := h6 b (g6 j (List.mem_cons_of_mem _ hj) b hj2).1
          omega
      · rcases List.mem_cons.1 hj with rfl | hj
        · have hlt := hT2.lt b hb
          rcases hQ' b hb with hb | hb
          · have := hQ0 b hb
            exact ⟨⟨.inl this.1, hlt⟩, this.2⟩
          · refine ⟨⟨.inr hb, hlt⟩, fun e => ?_, fun e => ?_, fun hM e => ?_, fun e => ?_⟩
            · have := h1.lt; omega
            · have := g1.lt; omega
            · have := h6 B (g4 hM); omega
            · have := h6 b (h5 b e); omega
        · have := g6 j (List.mem_cons_of_mem _ hj) b hb
          exact ⟨⟨.inl this.1, by have := h6 b this.1; omega⟩, this.2⟩
    refine (goOn_any C P X _ _ vs w2 hThr (by simp at hn ⊢; omega)).mono ?_
    rintro e w' ⟨rfl, ⟨O', k1, k2⟩, k3⟩
    refine ⟨rfl, ⟨O', k1, fun b hb => ?_⟩, k3.mono (fun b _ h => h.1)⟩
    rcases k2 b hb with h | h
    · exact h.1
    · right; omega)
  clear hst hQ0 hTk h1 h3 g1 g3 g5 g6
  go_enter Tryz.func37, Tryz.ntmps37
  go_wp2_with (first
    | (go_at_call 70; refine HS.out.mono ?_; rintro e w2 ⟨rfl, hq, hR, hk⟩; have HG2 := Lib.hid (HG.out w2 hq hk))
    | (go_at_call 71; refine HG2.out.mono ?_; rintro e w3 ⟨rfl, ⟨O', hT3, hO3⟩, hk3⟩))
  go_ret
  have kw : Keep (fun b => O b ∨ F b) w w2 := hk.mono (fun b _ h => h.elim (fun e => .inl (e ▸ tO.1)) .inr)
  exact ⟨rfl, ⟨O', hT3, hO3⟩, ⟨w2, hR, kw, hk3⟩, kw.step hk3 (fun i hi h => h.elim .inl (fun h => by omega))⟩
end Go.Proofs.YtpopcallphbklaaGreat
