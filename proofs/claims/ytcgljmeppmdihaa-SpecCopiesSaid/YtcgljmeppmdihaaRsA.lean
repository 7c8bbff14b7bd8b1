/- The document's automaton (doorkeeperref12): what it is in memory; finish. -/
import Derived.Test.YtcgljmeppmdihaaProg
import Derived.Test.YtcgljmeppmdihaaSpA
import Derived.Test.YtcgljmeppmdihaaRsSpec
namespace Go.Proofs.Ytcgljmeppmdihaa
open Go.ChangeShapes Go.WideShapes Go.ChangeAt Go.RowKit
set_option linter.unusedVariables false
set_option maxRecDepth 100000
set_option linter.unusedSimpArgs false
def rthC (x : RTh) : List Value := [.int .i64 x.calls, .bool x.opn, .int .i64 x.op, .int .i64 x.obj, .int .i64 x.arg, .int .i64 x.far, .int .i64 x.code, .int .i64 x.val, .bool x.flag, .int .i64 x.saved, .int .i64 x.since]
structure RPl where
  P : Nat
  W : Nat
  D : Nat
  T : Nat
  cW : Nat
  cD : Nat
  cT : Nat
/-- threads in a row -/
def RowRT (w : World) (T : Nat) (l : List RTh) : Prop := ∃ cs, Blk w T 91 cs ∧ ∀ (t : Nat) (x : RTh), l[t]? = some x → ∀ (j : Nat) (v : Value), (rthC x)[j]? = some v → cs[t * 11 + j]? = some v
/-- numbers in a row -/
def RowRI (w : World) (B : Nat) (l : List Int) : Prop := ∃ cs, Blk w B 3 cs ∧ ∀ (i : Nat) (x : Int), l[i]? = some x → cs[i]? = some (.int .i64 x)
abbrev rspV (p : RPl) : Value := .pointer (some ⟨p.P, 0, none⟩)
def rB (p : RPl) : Nat → Prop := fun b => b = p.P ∨ b = p.W ∨ b = p.D ∨ b = p.T
structure RsAt (w : World) (p : RPl) (s : RS) : Prop where
  own : Blk w p.P 89 #[.slice (some ⟨p.W, 0, none⟩) s.W.length p.cW, .slice (some ⟨p.D, 0, none⟩) s.D.length p.cD, .slice (some ⟨p.T, 0, none⟩) s.T.length p.cT, .int .i64 s.rel]
  ow : RowRI w p.W s.W
  dp : RowRI w p.D s.D
  th : RowRT w p.T s.T
  ne : p.W ≠ p.D
section
variable {w w1 : World} {p : RPl} {s : RS} {F : Nat → Prop}
theorem RowRI.keep {B : Nat} {l : List Int} (h : RowRI w B l) (hk : Keep F w w1) (hn : ¬ F B) : RowRI w1 B l := by
  obtain ⟨cs, h1, h2⟩ := h
  exact ⟨cs, h1.keep hk hn, h2⟩
theorem RowRT.keep {B : Nat} {l : List RTh} (h : RowRT w B l) (hk : Keep F w w1) (hn : ¬ F B) : RowRT w1 B l := by
  obtain ⟨cs, h1, h2⟩ := h
  exact ⟨cs, h1.keep hk hn, h2⟩
theorem RsAt.keep (h : RsAt w p s) (hk : Keep F w w1) (hn : ∀ b, rB p b → ¬ F b) : RsAt w1 p s :=
  ⟨h.own.keep hk (hn _ (.inl rfl)), h.ow.keep hk (hn _ (.inr (.inl rfl))), h.dp.keep hk (hn _ (.inr (.inr (.inl rfl)))), h.th.keep hk (hn _ (.inr (.inr (.inr rfl)))), h.ne⟩
theorem RsAt.below (h : RsAt w p s) (hb : Below w.heap.size w w1) : RsAt w1 p s := h.keep (F := fun _ => False) (Keep.ofBelow hb) (fun _ _ h => h)
theorem RsAt.alloc (h : RsAt w p s) (o : Obj) : RsAt (w.alloc o) p s := h.below ((Below.refl _ _).alloc (Nat.le_refl _) o)
theorem RsAt.lt (h : RsAt w p s) {b : Nat} (hb : rB p b) : b < w.heap.size := by
  obtain ⟨c1, h1, _⟩ := h.ow
  obtain ⟨c2, h2, _⟩ := h.dp
  obtain ⟨c3, h3, _⟩ := h.th
  rcases hb with rfl | rfl | rfl | rfl
  · exact h.own.lt
  · exact h1.lt
  · exact h2.lt
  · exact h3.lt
theorem RsAt.apart (h : RsAt w p s) : p.P ≠ p.W ∧ p.P ≠ p.D ∧ p.P ≠ p.T ∧ p.W ≠ p.T ∧ p.D ≠ p.T := by
  obtain ⟨c1, h1, _⟩ := h.ow
  obtain ⟨c2, h2, _⟩ := h.dp
  obtain ⟨c3, h3, _⟩ := h.th
  exact ⟨h.own.apart h1 (by decide), h.own.apart h2 (by decide), h.own.apart h3 (by decide), h1.apart h3 (by decide), h2.apart h3 (by decide)⟩
theorem RowRI.cell {B : Nat} {l : List Int} (h : RowRI w B l) {i : Nat} {x : Int} (hx : l[i]? = some x) : w.cell? ⟨B, i, none⟩ = some (.int .i64 x) := by
  obtain ⟨cs, h1, h2⟩ := h
  exact h1.cell _ _ (h2 i x hx)
theorem RowRI.free {B : Nat} {l : List Int} (h : RowRI w B l) (k : Nat) : w.frozen? ⟨B, k, none⟩ = false := by
  obtain ⟨cs, h1, _⟩ := h
  exact h1.free k
theorem RowRT.free {B : Nat} {l : List RTh} (h : RowRT w B l) (k : Nat) : w.frozen? ⟨B, k, none⟩ = false := by
  obtain ⟨cs, h1, _⟩ := h
  exact h1.free k
theorem RowRT.cell {B : Nat} {l : List RTh} (h : RowRT w B l) {t : Nat} {x : RTh} (hx : l[t]? = some x) (j : Nat) (v : Value) (hj : (rthC x)[j]? = some v) : w.cell? ⟨B, t * 11 + j, none⟩ = some v := by
  obtain ⟨cs, h1, h2⟩ := h
  exact h1.cell _ _ (h2 t x hx j v hj)
theorem RowRI.set {B : Nat} {l : List Int} (h : RowRI w B l) {i : Nat} {x : Int} (hx : l[i]? = some x) (v : Int) : RowRI (w.setCell ⟨B, i, none⟩ (.int .i64 v)) B (l.set i v) := by
  obtain ⟨cs, h1, h2⟩ := h
  refine ⟨_, h1.set i _, fun j y hy => ?_⟩
  rw [Array.getElem?_setIfInBounds]
  rcases set_at hy with ⟨rfl, rfl, _⟩ | ⟨hne, hy⟩
  · have := (Array.getElem?_eq_some_iff.1 (h2 j x hx)).1
    simp [this]
  · rw [if_neg (fun e => hne e.symm)]
    exact h2 j y hy
theorem RowRT.set {B : Nat} {l : List RTh} (h : RowRT w B l) {t : Nat} {x : RTh} (hx : l[t]? = some x) (j : Nat) (v : Value) (f : RTh → RTh) (hj : j < 11) (hf : rthC (f x) = (rthC x).set j v) : RowRT (w.setCell ⟨B, t * 11 + j, none⟩ v) B (l.modify t f) := by
  obtain ⟨cs, h1, h2⟩ := h
  refine ⟨_, h1.set _ v, fun u y hy i z hz => ?_⟩
  rw [Array.getElem?_setIfInBounds]
  have h9 : ∀ (y : RTh) (i : Nat) (z : Value), (rthC y)[i]? = some z → i < 11 := fun y i z h => by
    have := (List.getElem?_eq_some_iff.1 h).1
    simpa [rthC] using this
  have hi := h9 y i z hz
  rcases mod_at hx hy with ⟨rfl, rfl⟩ | ⟨hne, hy⟩
  · by_cases hij : i = j
    · subst hij
      rw [hf, List.getElem?_set] at hz
      have hl : i < (rthC x).length := by simp [rthC]; omega
      simp [hl] at hz
      subst hz
      have hin : u * 11 + i < cs.size := by
        obtain ⟨u0, hu0⟩ : ∃ u0, (rthC x)[i]? = some u0 := ⟨_, List.getElem?_eq_getElem hl⟩
        exact (Array.getElem?_eq_some_iff.1 (h2 u x hx i u0 hu0)).1
      simp [hin]
    · rw [if_neg (by omega)]
      rw [hf, List.getElem?_set, if_neg (fun e => hij e.symm)] at hz
      exact h2 u x hx i z hz
  · rw [if_neg (by omega)]
    exact h2 u y hy i z hz
theorem RowRI.far {B C i : Nat} {l : List Int} (h : RowRI w B l) (hne : B ≠ C) (v : Value) : RowRI (w.setCell ⟨C, i, none⟩ v) B l := by
  obtain ⟨cs, h1, h2⟩ := h
  exact ⟨cs, h1.far hne i v, h2⟩
theorem RowRT.far {B C i : Nat} {l : List RTh} (h : RowRT w B l) (hne : B ≠ C) (v : Value) : RowRT (w.setCell ⟨C, i, none⟩ v) B l := by
  obtain ⟨cs, h1, h2⟩ := h
  exact ⟨cs, h1.far hne i v, h2⟩
/-- a thread's field is stored -/
theorem RsAt.mod (h : RsAt w p s) {t : Nat} {x : RTh} (hx : s.T[t]? = some x) (j : Nat) (v : Value) (f : RTh → RTh) (hj : j < 11) (hf : rthC (f x) = (rthC x).set j v) : RsAt (w.setCell ⟨p.T, t * 11 + j, none⟩ v) p (s.mod t f) := by
  obtain ⟨a1, a2, a3, a4, a5⟩ := h.apart
  refine ⟨?_, h.ow.far a4 v, h.dp.far a5 v, h.th.set hx j v f hj hf, h.ne⟩
  have e : (s.mod t f).T.length = s.T.length := by simp [RS.mod]
  rw [e]
  exact h.own.far a3 _ v
theorem RsAt.setW (h : RsAt w p s) {o : Nat} {x : Int} (hx : s.W[o]? = some x) (v : Int) : RsAt (w.setCell ⟨p.W, o, none⟩ (.int .i64 v)) p (s.setW o v) := by
  obtain ⟨a1, a2, a3, a4, a5⟩ := h.apart
  refine ⟨?_, h.ow.set hx v, h.dp.far h.ne.symm _, h.th.far a4.symm _, h.ne⟩
  have e : (s.setW o v).W.length = s.W.length := by simp [RS.setW]
  rw [e]
  exact h.own.far a1 _ _
theorem RsAt.setD (h : RsAt w p s) {o : Nat} {x : Int} (hx : s.D[o]? = some x) (v : Int) : RsAt (w.setCell ⟨p.D, o, none⟩ (.int .i64 v)) p (s.setD o v) := by
  obtain ⟨a1, a2, a3, a4, a5⟩ := h.apart
  refine ⟨?_, h.ow.far h.ne _, h.dp.set hx v, h.th.far a5.symm _, h.ne⟩
  have e : (s.setD o v).D.length = s.D.length := by simp [RS.setD]
  rw [e]
  exact h.own.far a2 _ _
theorem RsAt.setRel (h : RsAt w p s) (v : Int) : RsAt (w.setCell ⟨p.P, 3, none⟩ (.int .i64 v)) p { s with rel := v } := by
  obtain ⟨a1, a2, a3, a4, a5⟩ := h.apart
  exact ⟨h.own.set 3 _, h.ow.far a1.symm _, h.dp.far a2.symm _, h.th.far a3.symm _, h.ne⟩
/-- what is read of the automaton itself -/
structure RCells (w : World) (p : RPl) (s : RS) : Prop where
  c0 : w.cell? ⟨p.P, 0, none⟩ = some (.slice (some ⟨p.W, 0, none⟩) s.W.length p.cW)
  c1 : w.cell? ⟨p.P, 1, none⟩ = some (.slice (some ⟨p.D, 0, none⟩) s.D.length p.cD)
  c2 : w.cell? ⟨p.P, 2, none⟩ = some (.slice (some ⟨p.T, 0, none⟩) s.T.length p.cT)
  c3 : w.cell? ⟨p.P, 3, none⟩ = some (.int .i64 s.rel)
theorem RsAt.c (h : RsAt w p s) : RCells w p s := ⟨h.own.cell 0 _ rfl, h.own.cell 1 _ rfl, h.own.cell 2 _ rfl, h.own.cell 3 _ rfl⟩
/-- a thread's cells -/
structure RThAt (w : World) (T k : Nat) (x : RTh) : Prop where
  calls : w.cell? ⟨T, k, none⟩ = some (.int .i64 x.calls)
  opn : w.cell? ⟨T, k + 1, none⟩ = some (.bool x.opn)
  op : w.cell? ⟨T, k + 2, none⟩ = some (.int .i64 x.op)
  obj : w.cell? ⟨T, k + 3, none⟩ = some (.int .i64 x.obj)
  arg : w.cell? ⟨T, k + 4, none⟩ = some (.int .i64 x.arg)
  far : w.cell? ⟨T, k + 5, none⟩ = some (.int .i64 x.far)
  code : w.cell? ⟨T, k + 6, none⟩ = some (.int .i64 x.code)
  val : w.cell? ⟨T, k + 7, none⟩ = some (.int .i64 x.val)
  flag : w.cell? ⟨T, k + 8, none⟩ = some (.bool x.flag)
  saved : w.cell? ⟨T, k + 9, none⟩ = some (.int .i64 x.saved)
  since : w.cell? ⟨T, k + 10, none⟩ = some (.int .i64 x.since)
theorem RsAt.t (h : RsAt w p s) {t : Nat} {x : RTh} (hx : s.T[t]? = some x) : RThAt w p.T (t * 11) x :=
  ⟨h.th.cell hx 0 _ rfl, h.th.cell hx 1 _ rfl, h.th.cell hx 2 _ rfl, h.th.cell hx 3 _ rfl, h.th.cell hx 4 _ rfl, h.th.cell hx 5 _ rfl, h.th.cell hx 6 _ rfl, h.th.cell hx 7 _ rfl, h.th.cell hx 8 _ rfl, h.th.cell hx 9 _ rfl, h.th.cell hx 10 _ rfl⟩
end
theorem idx_rthrs (T len c t : Nat) (h : t < len) : ∀ W, (Instr.indexAt 87 (.slice (some ⟨T, 0, none⟩) len c) (.int .i64 (t : Int))).run Try.prog W = .ok (.pointer (some ⟨T, t * 11, none⟩)) W := by
  intro W
  go_simp
theorem idx_rints (T len c t : Nat) (h : t < len) : ∀ W, (Instr.indexAt 30 (.slice (some ⟨T, 0, none⟩) len c) (.int .i64 (t : Int))).run Try.prog W = .ok (.pointer (some ⟨T, t, none⟩)) W := by
  intro W
  go_simp
/-- all acts came, with that result -/
theorem finish_any {w : World} {p : RPl} {s : RS} (h : RsAt w p s) {t : Nat} {x : RTh} (hx : s.T[t]? = some x) (c v : Int) :
    Calls Try.prog 64 #[.pointer (some ⟨p.T, t * 11, none⟩), .int .i64 c, .int .i64 v] w fun e w' => e = .returned (.bool true) ∧ RsAt w' p (s.mod t (finR c v)) ∧ Keep (rB p) w w' := by
  have H := Lib.hid h
  have HX := Lib.hid hx
  have f5 := h.th.free (t * 11 + 5)
  have f6 := h.th.free (t * 11 + 6)
  have f7 := h.th.free (t * 11 + 7)
  have q := h.t hx
  have c5 := q.far
  have c6 := q.code
  have c7 := q.val
  clear q h hx
  go_enter Try.func64, Try.ntmps64
  go_wp2_with fail
  go_ret
  refine ⟨rfl, ?_, ?_⟩
  · have h1 := H.out.mod HX.out 5 (.int .i64 5) (fun y => { y with far := 5 }) (by omega) rfl
    have h2 := h1.mod (mod_same HX.out) 6 (.int .i64 c) (fun y => { y with code := c }) (by omega) rfl
    have h3 := h2.mod (mod_same (mod_same HX.out)) 7 (.int .i64 v) (fun y => { y with val := v }) (by omega) rfl
    rw [mod_mod, mod_mod] at h3
    exact h3
  · have hT : rB p p.T := .inr (.inr (.inr rfl))
    exact ((((Keep.refl (rB p) w).set (fun _ => hT) _).set (fun _ => hT) _).set (fun _ => hT) _)
set_option maxHeartbeats 2000000 in
theorem wrong_any {w : World} {p : RPl} {s : RS} (h : RsAt w p s) (op obj arg : Int) :
    Calls Try.prog 45 #[rspV p, .agg #[.int .i64 op, .int .i64 obj, .int .i64 arg]] w fun e w' => e = .returned (.bool (!decide (validR s op obj arg))) ∧ Below w.heap.size w w' := by
  have q := h.c
  have c0 := q.c0
  have c2 := q.c2
  have hb0 : Below w.heap.size w (w.alloc (.cells #[.int .i64 op, .int .i64 obj, .int .i64 arg] 70)) := by go_grown
  have HC := Lib.hid (show ∀ V, Below w.heap.size w V → V.cell? ⟨p.P, 0, none⟩ = some (.slice (some ⟨p.W, 0, none⟩) s.W.length p.cW) ∧ V.cell? ⟨p.P, 2, none⟩ = some (.slice (some ⟨p.T, 0, none⟩) s.T.length p.cT) from fun V hV => by have z := (h.below hV).c; exact ⟨z.c0, z.c2⟩)
  have hcs : (op < 0) ∨ (¬ op < 0 ∧ 9 ≤ op) ∨ (¬ op < 0 ∧ ¬ 9 ≤ op ∧ obj < 0) ∨ (¬ op < 0 ∧ ¬ 9 ≤ op ∧ ¬ obj < 0 ∧ (s.W.length : Int) ≤ obj) ∨ (¬ op < 0 ∧ ¬ 9 ≤ op ∧ ¬ obj < 0 ∧ ¬ (s.W.length : Int) ≤ obj ∧ (op == 6) = false) ∨
      (¬ op < 0 ∧ ¬ 9 ≤ op ∧ ¬ obj < 0 ∧ ¬ (s.W.length : Int) ≤ obj ∧ (op == 6) = true ∧ arg < 0) ∨ (¬ op < 0 ∧ ¬ 9 ≤ op ∧ ¬ obj < 0 ∧ ¬ (s.W.length : Int) ≤ obj ∧ (op == 6) = true ∧ ¬ arg < 0 ∧ (s.T.length : Int) ≤ arg) ∨
      (¬ op < 0 ∧ ¬ 9 ≤ op ∧ ¬ obj < 0 ∧ ¬ (s.W.length : Int) ≤ obj ∧ (op == 6) = true ∧ ¬ arg < 0 ∧ ¬ (s.T.length : Int) ≤ arg) := by
    simp only [beq_iff_eq, beq_eq_false_iff_ne]
    omega
  have hpost : ∀ b : Bool, b = !decide (validR s op obj arg) → ∀ w', Below w.heap.size w w' → (Ending.returned (.bool b) = Ending.returned (.bool (!decide (validR s op obj arg))) ∧ Below w.heap.size w w') := fun b hb w' h' => ⟨by rw [hb], h'⟩
  have HP := Lib.hid hpost
  have HB0 := Lib.hid hb0
  clear q h hpost hb0
  go_enter Try.func45, Try.ntmps45
  go_upto_region 1 with fail
  have b0 := (Blk.new w 70 #[.int .i64 op, .int .i64 obj, .int .i64 arg]).cell 0 _ rfl
  have b1 := (Blk.new w 70 #[.int .i64 op, .int .i64 obj, .int .i64 arg]).cell 1 _ rfl
  have b2 := (Blk.new w 70 #[.int .i64 op, .int .i64 obj, .int .i64 arg]).cell 2 _ rfl
  obtain ⟨c0, c2⟩ := HC.out _ HB0.out
  generalize hW : w.alloc _ = W at *
  obtain ⟨bx, hbx⟩ : ∃ bx, bx = w.heap.size := ⟨_, rfl⟩
  obtain ⟨lW, hlW⟩ : ∃ lW, lW = s.W.length := ⟨_, rfl⟩
  obtain ⟨lT, hlT⟩ : ∃ lT, lT = s.T.length := ⟨_, rfl⟩
  rw [← hbx] at b0 b1 b2 ⊢
  rw [← hlW] at c0 hcs
  rw [← hlT] at c2 hcs
  have HV := Lib.hid (show validR s op obj arg ↔ 0 ≤ op ∧ op < 9 ∧ (0 ≤ obj ∧ obj < (lW : Int)) ∧ (op ≠ 6 ∨ (0 ≤ arg ∧ arg < (lT : Int))) from by rw [hlW, hlT]; exact Iff.rfl)
  clear HC hW hbx hlW hlT
  rcases hcs with h1 | ⟨h1, h2⟩ | ⟨h1, h2, h3⟩ | ⟨h1, h2, h3, h4⟩ | ⟨h1, h2, h3, h4, h5⟩ | ⟨h1, h2, h3, h4, h5, h6⟩ | ⟨h1, h2, h3, h4, h5, h6, h7⟩ | ⟨h1, h2, h3, h4, h5, h6, h7⟩
  all_goals
    go_quiet (fail)
    go_wp2_with fail
    go_ret
    refine HP.out _ ?_ _ (HB0.out.trans ⟨rfl, rfl, rfl, Nat.le_refl _, fun _ _ => rfl⟩)
    have hv := HV.out
    (try simp only [beq_iff_eq, beq_eq_false_iff_ne] at *)
    first
      | (rw [decide_eq_false (by rw [hv]; omega)]; rfl)
      | (rw [decide_eq_true (by rw [hv]; omega)]; rfl)
end Go.Proofs.Ytcgljmeppmdihaa
