/- Package machine: a machine over cells and permits, as plain lists; what a pick makes of it. -/
import Derived.Test.YtpopcallphbklaaGreatMacF
namespace Go.Proofs.YtpopcallphbklaaGreat
open Go.ChangeShapes Go.WideShapes Go.ChangeAt Go.RowKit
set_option linter.unusedVariables false
set_option maxRecDepth 100000
set_option linter.unusedSimpArgs false
/-- cells, permits, threads, and how many operations were done -/
structure St where
  m : List Int
  ps : List Bool
  ts : List Thr
  n : Int
/-- a pick: what it leaves, and whether it was a step -/
def pickS (s : St) (t k : Int) : St × Bool :=
  if canT s.ps (thrAt s.ts t) k then
    (⟨(stepT s.m s.ps (thrAt s.ts t) k).1, (stepT s.m s.ps (thrAt s.ts t) k).2.1, s.ts.set t.toNat (stepT s.m s.ps (thrAt s.ts t) k).2.2, s.n + countT s.m (thrAt s.ts t)⟩, true)
  else (s, false)
def AllOk (ps : List Bool) (ts : List Thr) : Prop := ∀ x ∈ ts, ∀ t ∈ x.1, ParkOk ps t.1
def NoPark (ts : List Thr) : Prop := ∀ x ∈ ts, ∀ t ∈ x.1, ∀ y ∈ t.1, ¬ (y.kind = 5 ∨ y.kind = 6)
structure MachS (w : World) (C S P R : Nat) (cs : List Nat) (M : Nat) (U : Nat → Prop) (s : St) : Prop where
  mach : ∃ L, thrs L = s.ts ∧ MachAt w C P M U L
  cells : CellsAt w C S s.m s.n
  perm : NoPark s.ts ∨ PermitsAt w P R cs s.ps
  ok : AllOk s.ps s.ts
  apart : ∀ b, U b → b ≠ C ∧ b ≠ S ∧ b ≠ P ∧ b ≠ R ∧ b ∉ cs
  old : P < w.heap.size ∧ R < w.heap.size ∧ ∀ c ∈ cs, c < w.heap.size
theorem MachS.keep {w w1 : World} {C S P R M : Nat} {cs : List Nat} {U F : Nat → Prop} {s : St} (h : MachS w C S P R cs M U s) (hk : Keep F w w1) (hU : ∀ b, U b → ¬ F b) (h1 : ¬ F C) (h2 : ¬ F S) (h3 : ¬ F P) (h4 : ¬ F R) (h5 : ∀ c ∈ cs, ¬ F c) : MachS w1 C S P R cs M U s := by
  obtain ⟨L, e, hM⟩ := h.mach
  exact ⟨⟨L, e, hM.keep hk hU⟩, h.cells.keep hk h1 h2, h.perm.imp id (fun h => h.keep hk h3 h4 h5), h.ok, h.apart, Nat.lt_of_lt_of_le h.old.1 hk.size, Nat.lt_of_lt_of_le h.old.2.1 hk.size, fun c hc => Nat.lt_of_lt_of_le (h.old.2.2 c hc) hk.size⟩
theorem MachS.still {w w1 : World} {C S P R M : Nat} {cs : List Nat} {U : Nat → Prop} {s : St} (h : MachS w C S P R cs M U s) (hk : Keep (fun _ => False) w w1) : MachS w1 C S P R cs M U s :=
  h.keep hk (fun _ _ h => h) (fun h => h) (fun h => h) (fun h => h) (fun h => h) (fun _ _ h => h)
theorem MachS.lt {w : World} {C S P R M : Nat} {cs : List Nat} {U : Nat → Prop} {s : St} (h : MachS w C S P R cs M U s) : ∀ b, U b → b < w.heap.size := by
  obtain ⟨L, e, hM⟩ := h.mach
  exact hM.lt
theorem goS_mem : ∀ (l : List Tsk) (vs : List Int) (t : Tsk), t ∈ (goS l vs).1 → t ∈ l
  | [], vs, t, h => by simp [goS] at h
  | x :: l, vs, t, h => by
    by_cases hx : x.1 = []
    · simp only [goS, hx, if_true] at h
      exact List.mem_cons_of_mem _ (goS_mem l _ t h)
    · simpa [goS, hx] using h
theorem stepS_rest (m : List Int) (ps : List Bool) (x : Itm) (r : List Itm) (v k : Int) : ∀ y ∈ (stepS m ps (x :: r) v k).2.2.1, y ∈ x :: r := by
  intro y hy
  by_cases hx : x.kind = 5 ∨ x.kind = 6
  · simp only [stepS, hx, if_true] at hy
    exact List.mem_cons_of_mem _ ((onS_suffix r k).subset hy)
  · simp only [stepS, hx, if_false] at hy
    split at hy
    · exact List.mem_cons_of_mem _ ((onS_suffix r _).subset hy)
    · exact hy
theorem stepS_len (m : List Int) (ps : List Bool) (r : List Itm) (v k : Int) : (stepS m ps r v k).1.length = m.length ∧ (stepS m ps r v k).2.1.length = ps.length := by
  cases r with
  | nil => exact ⟨rfl, rfl⟩
  | cons x r =>
    simp only [stepS]
    split
    · refine ⟨rfl, ?_⟩
      split <;> simp
    · split
      · exact ⟨operS_size m x, rfl⟩
      · exact ⟨operS_size m x, rfl⟩
theorem ParkOk.len {ps ps' : List Bool} {r : List Itm} (h : ParkOk ps r) (e : ps'.length = ps.length) : ParkOk ps' r := fun x hx hk => by rw [e]; exact h x hx hk
/-- a thread of a list, set -/
theorem mem_set_or {α : Type} {l : List α} {i : Nat} {y x : α} (h : x ∈ l.set i y) : x ∈ l ∨ x = y := List.mem_or_eq_of_mem_set h
theorem mpick_all (C S P R M : Nat) (cs : List Nat) (U : Nat → Prop) (s : St) (t k : Int) (w : World) (h : MachS w C S P R cs M U s) (hn : 0 ≤ s.n ∧ s.n ≤ 2000000) :
    Calls Tryz.prog 8 #[pV M, .agg #[.int .i64 t, .int .i64 k]] w fun e w' => e = .returned (.bool (pickS s t k).2) ∧ (∃ U', MachS w' C S P R cs M U' (pickS s t k).1 ∧ ∀ b, U' b → U b ∨ w.heap.size ≤ b) ∧ Keep (fun b => U b ∨ ofCells C S b ∨ b ∈ cs) w w' := by
  obtain ⟨L, hL, hM⟩ := h.mach
  have hperm : ∀ x ∈ s.ts, parkedT x = true → PermitsAt w P R cs s.ps := fun x hx hp => by
    rcases h.perm with hno | hyes
    · exfalso
      obtain ⟨l, vs⟩ := x
      cases l with
      | nil => simp [parkedT] at hp
      | cons y l =>
        obtain ⟨r, v⟩ := y
        cases r with
        | nil => simp [parkedT, parkedS] at hp
        | cons y r =>
          have := hno _ hx _ List.mem_cons_self y (by simp)
          simp [parkedT, parkedS] at hp
          exact this hp
    · exact hyes
  by_cases hc : canT s.ps (thrAt s.ts t) k = true
  · rw [show pickS s t k = (⟨(stepT s.m s.ps (thrAt s.ts t) k).1, (stepT s.m s.ps (thrAt s.ts t) k).2.1, s.ts.set t.toNat (stepT s.m s.ps (thrAt s.ts t) k).2.2, s.n + countT s.m (thrAt s.ts t)⟩, true) from by simp only [pickS, hc, if_true]]
    have hin : 0 ≤ t ∧ t < (s.ts.length : Int) := by
      rcases Int.lt_or_le t 0 with h0 | h0
      · rw [thrAt_no (.inl h0)] at hc; simp [canT] at hc
      · rcases Int.lt_or_le t s.ts.length with h1 | h1
        · exact ⟨h0, h1⟩
        · rw [thrAt_no (.inr h1)] at hc; simp [canT] at hc
    obtain ⟨i, rfl⟩ := Int.eq_ofNat_of_zero_le hin.1
    have hil : i < L.length := by
      have : s.ts.length = L.length := by rw [← hL]; simp
      omega
    obtain ⟨kk, hkk⟩ : ∃ kk, L[i]? = some kk := ⟨_, List.getElem?_eq_getElem hil⟩
    have hts : s.ts[i]? = some kk.x := by rw [← hL, List.getElem?_map, hkk]; rfl
    have ex : thrAt s.ts (i : Int) = kk.x := thrAt_yes hts
    rw [ex] at hc ⊢
    rw [Int.toNat_natCast]
    have hxm : kk.x ∈ s.ts := List.mem_of_getElem? hts
    obtain ⟨X, O, ⟨todo, vs⟩⟩ := kk
    cases todo with
    | nil => simp [canT] at hc
    | cons tk l =>
      obtain ⟨r, v⟩ := tk
      cases r with
      | nil => simp [canT, canS] at hc
      | cons y r =>
        have hok := h.ok _ hxm
        dsimp only [canT, stepT, countT] at hc ⊢
        -- what a step leaves of the whole
        have fin : ∀ (r' : List Itm) (v' : Int) (m' : List Int) (ps' : List Bool) (n' : Int) (w' : World), (stepS s.m s.ps (y :: r) v k) = (m', ps', (r', v')) → n' = s.n + stepCount s.m (y :: r) →
            (∃ U' O', MachAt w' C P M U' (L.set i ⟨X, O', goS ((r', v') :: l) vs⟩) ∧ ∀ b, U' b → U b ∨ w.heap.size ≤ b) → CellsAt w' C S m' n' → (NoPark s.ts ∨ PermitsAt w' P R cs ps') → w.heap.size ≤ w'.heap.size →
            (∃ U', MachS w' C S P R cs M U' ⟨(stepS s.m s.ps (y :: r) v k).1, (stepS s.m s.ps (y :: r) v k).2.1, s.ts.set i (goS ((stepS s.m s.ps (y :: r) v k).2.2 :: l) vs), s.n + stepCount s.m (y :: r)⟩ ∧ ∀ b, U' b → U b ∨ w.heap.size ≤ b) := by
          rintro r' v' m' ps' n' w' he rfl ⟨U', O', g1, g2⟩ g3 g4 hs
          have hlen : ps'.length = s.ps.length := by have := (stepS_len s.m s.ps (y :: r) v k).2; rw [he] at this; exact this
          have hrest := stepS_rest s.m s.ps y r v k
          rw [he] at hrest ⊢
          have hCl := h.cells.own.lt
          have hSl := h.cells.row.lt
          have hmem : ∀ x ∈ s.ts.set i (goS ((r', v') :: l) vs), ∀ q ∈ x.1, (∃ x0 ∈ s.ts, ∃ q0 ∈ x0.1, ∀ z ∈ q.1, z ∈ q0.1) := fun x hx q hq => by
            rcases mem_set_or hx with hx | rfl
            · exact ⟨x, hx, q, hq, fun z hz => hz⟩
            · rcases List.mem_cons.1 (goS_mem _ _ q hq) with rfl | hq
              · exact ⟨_, hxm, (y :: r, v), List.mem_cons_self, hrest⟩
              · exact ⟨_, hxm, q, List.mem_cons_of_mem _ hq, fun z hz => hz⟩
          refine ⟨fun b => (U b ∨ w.heap.size ≤ b) ∧ U' b, ⟨⟨L.set i ⟨X, O', goS ((r', v') :: l) vs⟩, ?_, ?_⟩, g3, ?_, ?_, ?_, by have := h.old.1; omega, by have := h.old.2.1; omega, fun c hc => Nat.lt_of_lt_of_le (h.old.2.2 c hc) hs⟩, fun b hb => hb.1⟩
          · rw [← hL, thrs, List.map_set]
          · have e : (fun b => (U b ∨ w.heap.size ≤ b) ∧ U' b) = U' := funext fun b => propext ⟨fun h => h.2, fun h => ⟨g2 b h, h⟩⟩
            rw [e]; exact g1
          · rcases g4 with g4 | g4
            · refine .inl fun x hx q hq z hz => ?_
              obtain ⟨x0, h0, q0, h1, h2⟩ := hmem x hx q hq
              exact g4 x0 h0 q0 h1 z (h2 z hz)
            · exact .inr g4
          · intro x hx q hq z hz hk5
            obtain ⟨x0, h0, q0, h1, h2⟩ := hmem x hx q hq
            show z.at' < ps'.length
            rw [hlen]
            exact h.ok x0 h0 q0 h1 z (h2 z hz) hk5
          · rintro b ⟨hb, hU'⟩
            rcases hb with hb | hb
            · exact h.apart b hb
            · exact ⟨by omega, by omega, by have := h.old.1; omega, by have := h.old.2.1; omega, fun hc => by have := h.old.2.2 b hc; omega⟩
        have hPC : ∀ b, ofCells C S b → ∀ ps', PermitsAt w P R cs ps' → b ≠ P ∧ b ≠ R ∧ b ∉ cs := fun b hb ps' hP => by
          rcases hb with rfl | rfl
          · exact ⟨h.cells.own.apart hP.own (by decide), h.cells.own.apart hP.row (by decide), hP.notin h.cells.own⟩
          · exact ⟨h.cells.row.apart hP.own (by decide), h.cells.row.apart hP.row (by decide), hP.notin h.cells.row⟩
        rcases Nat.lt_or_ge y.kind 5 with hy | hy
        · have hnp : ¬ (y.kind = 5 ∨ y.kind = 6) := by omega
          have hk0 : k = 0 := by simpa [canS, hnp] using hc
          subst hk0
          have hC1 := h.cells
          refine (mpick_yes C P M i U (ofCells C S) L ⟨X, O, ((y :: r, v) :: l, vs)⟩ (y :: r) (if (operS s.m y).2.2 then onS r (operS s.m y).2.1 else (y :: r, v)).1 v (if (operS s.m y).2.2 then onS r (operS s.m y).2.1 else (y :: r, v)).2 l 0 (fun w' => CellsAt w' C S (operS s.m y).1 (s.n + countS s.m y)) w hM hkk rfl (fun W hW t Q hT hQ => op_yes C P S t Q y r v s.m s.n W hT (hC1.keep (Keep.ofBelow (Q := fun _ => False) hW) (fun h => h) (fun h => h)) hy (fun b hb => ⟨(h.apart b (hQ b hb)).1, (h.apart b (hQ b hb)).2.1⟩) hn) (fun b hb hf => hf.elim (h.apart b hb).1 (h.apart b hb).2.1) (fun b hb => hb.elim (fun e => e ▸ hC1.own.lt) (fun e => e ▸ hC1.row.lt))).mono ?_
          rintro e w' ⟨rfl, hU, ⟨w1, r1, r2⟩, kk⟩
          have hs := kk.size
          refine ⟨rfl, fin _ _ _ s.ps _ w' (by simp only [stepS, hnp, if_false]; split <;> rfl) (by simp [stepCount, hnp]) hU (r1.keep r2 (fun h' => h'.elim (fun h' => (h.apart C h').1 rfl) (fun h' => by have := hC1.own.lt; omega)) (fun h' => h'.elim (fun h' => (h.apart S h').2.1 rfl) (fun h' => by have := hC1.row.lt; omega))) ?_ hs, kk.mono (fun b _ hb => hb.imp id .inl)⟩
          refine h.perm.imp id (fun hP => hP.keep kk ?_ ?_ ?_)
          · exact fun h' => h'.elim (fun h' => (h.apart P h').2.2.1 rfl) (fun h' => (hPC P h' _ hP).1 rfl)
          · exact fun h' => h'.elim (fun h' => (h.apart R h').2.2.2.1 rfl) (fun h' => (hPC R h' _ hP).2.1 rfl)
          · exact fun c hcs h' => h'.elim (fun h' => (h.apart c h').2.2.2.2 hcs) (fun h' => (hPC c h' _ hP).2.2 hcs)
        · have hyk : y.kind = 5 ∨ y.kind = 6 := by
            have hT := (hM.thr _ (List.mem_of_getElem? hkk)).1
            dsimp only at hT
            obtain ⟨c, _, hcur⟩ := hT.cur
            rcases hcur with ⟨e, _⟩ | ⟨q, l', t', Q, e, _, hTk, _⟩
            · cases e
            · injection e with e _
              subst e
              rcases hTk.kinds with ⟨h1, _⟩ | ⟨h1, _⟩
              · omega
              · exact h1
          have hP := hperm _ hxm (by simp [parkedT, parkedS]; omega)
          have hlt := hok _ List.mem_cons_self y (by simp) hyk
          have hb : s.ps[y.at']? = some (s.ps[y.at']'hlt) := by simp
          have he : endsS (s.ps[y.at']'hlt) (y.kind == 6) k = true := by
            rw [← hc]; simp [canS, hyk, endsS, List.getD_eq_getElem?_getD, hb]
          refine (mpick_yes C P M i U (fun b => b ∈ cs) L ⟨X, O, ((y :: r, v) :: l, vs)⟩ (y :: r) (onS r k).1 v (onS r k).2 l k (fun w' => PermitsAt w' P R cs (if k = 0 then s.ps.set y.at' false else s.ps)) w hM hkk rfl (fun W hW t Q hT hQ => park_yes C P R t cs s.ps Q y r v k _ W hT (hP.keep (Keep.ofBelow (Q := fun _ => False) hW) (fun h => h) (fun h => h) (fun _ _ h => h)) hyk hb he (fun b hb => (h.apart b (hQ b hb)).2.2.2.2)) (fun b hb hf => (h.apart b hb).2.2.2.2 hf) (fun b hb => h.old.2.2 b hb)).mono ?_
          rintro e w' ⟨rfl, hU, ⟨w1, r1, r2⟩, kk⟩
          have hs := kk.size
          have hCl := h.cells.own.lt
          have hSl := h.cells.row.lt
          refine ⟨rfl, fin _ _ s.m _ _ w' (by simp only [stepS, hyk, if_true]) rfl hU ?_ (.inr (r1.keep r2 (fun h' => h'.elim (fun h' => (h.apart P h').2.2.1 rfl) (fun h' => by have := h.old.1; omega)) (fun h' => h'.elim (fun h' => (h.apart R h').2.2.2.1 rfl) (fun h' => by have := h.old.2.1; omega)) (fun c hcs h' => h'.elim (fun h' => (h.apart c h').2.2.2.2 hcs) (fun h' => by have := h.old.2.2 c hcs; omega)))) hs, kk.mono (fun b _ hb => hb.imp id .inr)⟩
          have e0 : stepCount s.m (y :: r) = 0 := by simp [stepCount, hyk]
          rw [e0, Int.add_zero]
          exact h.cells.keep kk (fun h' => h'.elim (fun h' => (h.apart C h').1 rfl) (fun h' => hP.notin h.cells.own h')) (fun h' => h'.elim (fun h' => (h.apart S h').2.1 rfl) (fun h' => hP.notin h.cells.row h'))
  · rw [show pickS s t k = (s, false) from by simp only [pickS, hc]; rfl]
    have hc' : canT s.ps (thrAt s.ts t) k = false := by simpa using hc
    have hokx : ∀ q ∈ (thrAt s.ts t).1, ParkOk s.ps q.1 := by
      intro q hq
      unfold thrAt at hq
      split at hq
      · rw [List.getD_eq_getElem?_getD] at hq
        cases hx : s.ts[t.toNat]? with
        | none => rw [hx] at hq; simp at hq
        | some x => rw [hx] at hq; exact h.ok x (List.mem_of_getElem? hx) q hq
      · simp at hq
    have hpx : parkedT (thrAt s.ts t) = true → PermitsAt w P R cs s.ps := by
      intro hp
      unfold thrAt at hp
      split at hp
      · rw [List.getD_eq_getElem?_getD] at hp
        cases hx : s.ts[t.toNat]? with
        | none => rw [hx] at hp; simp [parkedT] at hp
        | some x => rw [hx] at hp; exact hperm x (List.mem_of_getElem? hx) hp
      · simp [parkedT] at hp
    refine (mpick_no (pV M) (thrAt s.ts t) C P R cs s.ps t k w hpx hokx hc' (fun W hW => by
      have := thread_any C P M U L t W (hM.still (Keep.ofBelow hW))
      rwa [hL] at this)).mono ?_
    rintro e w' ⟨rfl, hb⟩
    exact ⟨rfl, ⟨U, h.still (Keep.ofBelow hb), fun b hb => .inl hb⟩, Keep.ofBelow hb⟩
end Go.Proofs.YtpopcallphbklaaGreat
