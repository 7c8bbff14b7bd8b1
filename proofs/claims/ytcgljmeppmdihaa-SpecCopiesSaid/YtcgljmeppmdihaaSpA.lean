/- Package spec: what an automaton is in memory; its small functions. -/
import Derived.Test.YtcgljmeppmdihaaProg
import Derived.Test.YtcgljmeppmdihaaSpSpec
import Derived.Test.YtcgljmeppmdihaaRowsOwn
import Derived.WalkKit
import Derived.StillTailTactics
import Derived.Deep.CutBlock
import Derived.Deep.RegionHeld3
import Derived.BigGuardPart
import Derived.WalkSpells
import Derived.OwnWalk
import Derived.Lib.Hide
namespace Go.Proofs.Ytcgljmeppmdihaa
open Go.ChangeShapes Go.WideShapes Go.ChangeAt Go.RowKit
set_option linter.unusedVariables false
set_option maxRecDepth 100000
set_option linter.unusedSimpArgs false
abbrev resV (c v : Int) : Value := .agg #[.int .i64 c, .int .i64 v]
abbrev callV (a b c : Int) : Value := .agg #[.int .i64 a, .int .i64 b, .int .i64 c]
abbrev ptrV (B k : Nat) : Value := .pointer (some ⟨B, k, none⟩)
def thC (x : Th) : List Value := [.int .i64 x.op, .int .i64 x.obj, .int .i64 x.arg, .int .i64 x.pr, .int .i64 x.calls, .bool x.flag, .int .i64 x.dep, .int .i64 x.code, .int .i64 x.val]
def obC (b : Ob) (v : Value) : List Value := [.int .i64 b.own, .int .i64 b.dep, v]
abbrev iL (l : List Int) : List Value := l.map (Value.int .i64)
structure Pl where
  P : Nat
  T : Nat
  O : Nat
  cT : Nat
  cO : Nat
/-- threads in a row -/
def RowT (w : World) (T : Nat) (l : List Th) : Prop := ∃ cs, Blk w T 72 cs ∧ ∀ (t : Nat) (x : Th), l[t]? = some x → ∀ (j : Nat) (v : Value), (thC x)[j]? = some v → cs[t * 9 + j]? = some v
/-- objects in a row, with their lines -/
def RowO (w : World) (O : Nat) (l : List Ob) (V : Nat → Value) : Prop := ∃ cs, Blk w O 60 cs ∧ ∀ (o : Nat) (b : Ob), l[o]? = some b → ∀ (j : Nat) (v : Value), (obC b (V o))[j]? = some v → cs[o * 3 + j]? = some v
/-- lines: rows of their own, apart from each other -/
structure Lines (w : World) (A : Nat → Prop) (l : List Ob) (V : Nat → Value) : Prop where
  row : ∀ (o : Nat) (b : Ob), l[o]? = some b → w.ownsRow 0 3 1 (V o) b.line.length (iL b.line)
  mine : ∀ (o : Nat) g, o < l.length → (V o).ownBlock = some g → A g
  apart : ∀ (o u : Nat) g, o < l.length → u < l.length → o ≠ u → (V o).ownBlock = some g → (V u).ownBlock ≠ some g
structure SpecAt (w : World) (A : Nat → Prop) (p : Pl) (s : SS) : Prop where
  own : Blk w p.P 58 #[.slice (some ⟨p.T, 0, none⟩) s.T.length p.cT, .slice (some ⟨p.O, 0, none⟩) s.O.length p.cO]
  thr : RowT w p.T s.T
  obs : ∃ V, RowO w p.O s.O V ∧ Lines w A s.O V
  mine : A p.P ∧ A p.T ∧ A p.O
  lt : ∀ b, A b → b < w.heap.size
abbrev spV (p : Pl) : Value := .pointer (some ⟨p.P, 0, none⟩)
theorem RowT.keep {w w1 : World} {F : Nat → Prop} {T : Nat} {l : List Th} (h : RowT w T l) (hk : Keep F w w1) (hn : ¬ F T) : RowT w1 T l := by
  obtain ⟨cs, h1, h2⟩ := h
  exact ⟨cs, h1.keep hk hn, h2⟩
theorem RowO.keep {w w1 : World} {F : Nat → Prop} {T : Nat} {l : List Ob} {V : Nat → Value} (h : RowO w T l V) (hk : Keep F w w1) (hn : ¬ F T) : RowO w1 T l V := by
  obtain ⟨cs, h1, h2⟩ := h
  exact ⟨cs, h1.keep hk hn, h2⟩
theorem Lines.keep {w w1 : World} {A F : Nat → Prop} {l : List Ob} {V : Nat → Value} (h : Lines w A l V) (hk : Keep F w w1) (hn : ∀ o g, o < l.length → (V o).ownBlock = some g → ¬ F g) : Lines w1 A l V :=
  ⟨fun o b hb => row_ownkeep (h.row o b hb) hk (fun g hg => hn o g (List.getElem?_eq_some_iff.1 hb).1 hg), h.mine, h.apart⟩
theorem SpecAt.keep {w w1 : World} {A F : Nat → Prop} {p : Pl} {s : SS} (h : SpecAt w A p s) (hk : Keep F w w1) (hn : ∀ b, A b → ¬ F b) : SpecAt w1 A p s := by
  obtain ⟨V, h1, h2⟩ := h.obs
  exact ⟨h.own.keep hk (hn _ h.mine.1), h.thr.keep hk (hn _ h.mine.2.1), ⟨V, h1.keep hk (hn _ h.mine.2.2), h2.keep hk (fun o g ho hg => hn g (h2.mine o g ho hg))⟩, h.mine, fun b hb => Nat.lt_of_lt_of_le (h.lt b hb) hk.size⟩
theorem SpecAt.below {w w1 : World} {A : Nat → Prop} {p : Pl} {s : SS} (h : SpecAt w A p s) (hb : Below w.heap.size w w1) : SpecAt w1 A p s := h.keep (F := fun _ => False) (Keep.ofBelow hb) (fun _ _ h => h)
theorem SpecAt.alloc {w : World} {A : Nat → Prop} {p : Pl} {s : SS} (h : SpecAt w A p s) (o : Obj) : SpecAt (w.alloc o) A p s := h.below ((Below.refl _ _).alloc (Nat.le_refl _) o)
theorem SpecAt.drew {w : World} {A : Nat → Prop} {p : Pl} {s : SS} (h : SpecAt w A p s) : SpecAt w.drew A p s := h.below ⟨rfl, rfl, rfl, Nat.le_refl _, fun _ _ => rfl⟩
theorem RowT.cell {w : World} {T : Nat} {l : List Th} (h : RowT w T l) {t : Nat} {x : Th} (hx : l[t]? = some x) (j : Nat) (v : Value) (hj : (thC x)[j]? = some v) : w.cell? ⟨T, t * 9 + j, none⟩ = some v := by
  obtain ⟨cs, h1, h2⟩ := h
  exact h1.cell _ _ (h2 t x hx j v hj)
theorem RowT.free {w : World} {T : Nat} {l : List Th} (h : RowT w T l) (k : Nat) : w.frozen? ⟨T, k, none⟩ = false := by
  obtain ⟨cs, h1, h2⟩ := h
  exact h1.free k
theorem RowO.free {w : World} {T : Nat} {l : List Ob} {V : Nat → Value} (h : RowO w T l V) (k : Nat) : w.frozen? ⟨T, k, none⟩ = false := by
  obtain ⟨cs, h1, h2⟩ := h
  exact h1.free k
theorem RowO.cell {w : World} {T : Nat} {l : List Ob} {V : Nat → Value} (h : RowO w T l V) {o : Nat} {b : Ob} (hb : l[o]? = some b) (j : Nat) (v : Value) (hj : (obC b (V o))[j]? = some v) : w.cell? ⟨T, o * 3 + j, none⟩ = some v := by
  obtain ⟨cs, h1, h2⟩ := h
  exact h1.cell _ _ (h2 o b hb j v hj)
theorem RowT.lt {w : World} {T : Nat} {l : List Th} (h : RowT w T l) : T < w.heap.size := by
  obtain ⟨cs, h1, h2⟩ := h
  exact h1.lt
/-- a thread's field is stored -/
theorem RowT.set {w : World} {T : Nat} {l : List Th} (h : RowT w T l) {t : Nat} {x x' : Th} (hx : l[t]? = some x) (j : Nat) (v : Value) (hj : j < 9) (hx' : thC x' = (thC x).set j v) : RowT (w.setCell ⟨T, t * 9 + j, none⟩ v) T (l.set t x') := by
  obtain ⟨cs, h1, h2⟩ := h
  refine ⟨_, h1.set _ v, fun u y hy i z hz => ?_⟩
  rw [Array.getElem?_setIfInBounds]
  have h9 : ∀ (y : Th) (i : Nat) (z : Value), (thC y)[i]? = some z → i < 9 := fun y i z h => by
    have := (List.getElem?_eq_some_iff.1 h).1
    simpa [thC] using this
  have hi := h9 y i z hz
  rcases set_at hy with ⟨rfl, rfl, _⟩ | ⟨hne, hy⟩
  · by_cases hij : i = j
    · subst hij
      have hz2 := hz
      rw [hx', List.getElem?_set] at hz
      have hl : i < (thC x).length := by simp [thC]; omega
      simp [hl] at hz
      subst hz
      have hin : u * 9 + i < cs.size := by
        obtain ⟨u0, hu0⟩ : ∃ u0, (thC x)[i]? = some u0 := ⟨_, List.getElem?_eq_getElem hl⟩
        exact (Array.getElem?_eq_some_iff.1 (h2 u x hx i u0 hu0)).1
      simp [hin]
    · rw [if_neg (by omega)]
      rw [hx', List.getElem?_set, if_neg (fun e => hij e.symm)] at hz
      exact h2 u x hx i z hz
  · rw [if_neg (by omega)]
    exact h2 u y hy i z hz
theorem RowO.set {w : World} {T : Nat} {l : List Ob} {V V' : Nat → Value} (h : RowO w T l V) {o : Nat} {b b' : Ob} (hb : l[o]? = some b) (j : Nat) (v : Value) (hj : j < 3) (hb' : obC b' (V' o) = (obC b (V o)).set j v) (hV : ∀ u, u ≠ o → V' u = V u) : RowO (w.setCell ⟨T, o * 3 + j, none⟩ v) T (l.set o b') V' := by
  obtain ⟨cs, h1, h2⟩ := h
  refine ⟨_, h1.set _ v, fun u y hy i z hz => ?_⟩
  rw [Array.getElem?_setIfInBounds]
  have h9 : ∀ (y : Ob) (v : Value) (i : Nat) (z : Value), (obC y v)[i]? = some z → i < 3 := fun y v i z h => by
    have := (List.getElem?_eq_some_iff.1 h).1
    simpa [obC] using this
  have hi := h9 y _ i z hz
  rcases set_at hy with ⟨rfl, rfl, _⟩ | ⟨hne, hy⟩
  · by_cases hij : i = j
    · subst hij
      rw [hb', List.getElem?_set] at hz
      have hl : i < (obC b (V u)).length := by simp [obC]; omega
      simp [hl] at hz
      subst hz
      have hin : u * 3 + i < cs.size := by
        obtain ⟨u0, hu0⟩ : ∃ u0, (obC b (V u))[i]? = some u0 := ⟨_, List.getElem?_eq_getElem hl⟩
        exact (Array.getElem?_eq_some_iff.1 (h2 u b hb i u0 hu0)).1
      simp [hin]
    · rw [if_neg (by omega)]
      rw [hb', List.getElem?_set, if_neg (fun e => hij e.symm)] at hz
      exact h2 u b hb i z hz
  · rw [if_neg (by omega)]
    rw [hV u hne] at hz
    exact h2 u y hy i z hz
theorem rowT_far {w : World} {T C i : Nat} {l : List Th} (h : RowT w T l) (hne : T ≠ C) (v : Value) : RowT (w.setCell ⟨C, i, none⟩ v) T l := by
  obtain ⟨cs, h1, h2⟩ := h
  exact ⟨cs, h1.far hne i v, h2⟩
theorem rowO_far {w : World} {T C i : Nat} {l : List Ob} {V : Nat → Value} (h : RowO w T l V) (hne : T ≠ C) (v : Value) : RowO (w.setCell ⟨C, i, none⟩ v) T l V := by
  obtain ⟨cs, h1, h2⟩ := h
  exact ⟨cs, h1.far hne i v, h2⟩
theorem set_keep {w : World} {C i : Nat} (v : Value) : Keep (fun b => b = C) w (w.setCell ⟨C, i, none⟩ v) := (Keep.refl (fun b => b = C) w).set (p := ⟨C, i, none⟩) (fun _ => rfl) v
theorem SpecAt.apart {w : World} {A : Nat → Prop} {p : Pl} {s : SS} (h : SpecAt w A p s) : p.P ≠ p.T ∧ p.P ≠ p.O ∧ p.T ≠ p.O := by
  obtain ⟨cs, h1, h2⟩ := h.thr
  obtain ⟨V, ⟨cs2, h3, h4⟩, _⟩ := h.obs
  exact ⟨h.own.apart h1 (by decide), h.own.apart h3 (by decide), h1.apart h3 (by decide)⟩
theorem line_apart {w : World} {A : Nat → Prop} {p : Pl} {s : SS} (h : SpecAt w A p s) {V : Nat → Value} (hl : Lines w A s.O V) {o g : Nat} (ho : o < s.O.length) (hg : (V o).ownBlock = some g) : g ≠ p.P ∧ g ≠ p.T ∧ g ≠ p.O := by
  obtain ⟨cs, h1, h2⟩ := h.thr
  obtain ⟨V2, ⟨cs2, h3, h4⟩, _⟩ := h.obs
  obtain ⟨b, hb⟩ : ∃ b, s.O[o]? = some b := ⟨_, List.getElem?_eq_getElem ho⟩
  obtain ⟨_, cur, hc⟩ := row_lt (hl.row o b hb) hg
  exact ⟨hc.apart h.own (by decide), hc.apart h1 (by decide), hc.apart h3 (by decide)⟩
/-- a thread's field is stored -/
theorem SpecAt.setT {w : World} {A : Nat → Prop} {p : Pl} {s : SS} (h : SpecAt w A p s) {t : Nat} {x x' : Th} (hx : s.T[t]? = some x) (j : Nat) (v : Value) (hj : j < 9) (hx' : thC x' = (thC x).set j v) : SpecAt (w.setCell ⟨p.T, t * 9 + j, none⟩ v) A p (s.setT t x') := by
  obtain ⟨a1, a2, a3⟩ := h.apart
  obtain ⟨V, h1, h2⟩ := h.obs
  refine ⟨?_, h.thr.set hx j v hj hx', ⟨V, rowO_far h1 (fun e => a3 e.symm) v, h2.keep (set_keep v) (fun o g ho hg => (line_apart h h2 ho hg).2.1)⟩, h.mine, fun b hb => ?_⟩
  · rw [(setT_len s t x').1, (setT_len s t x').2]
    exact h.own.far a1 _ v
  · rw [World.size_setCell]
    exact h.lt b hb
/-- an object's number is stored -/
theorem SpecAt.setO {w : World} {A : Nat → Prop} {p : Pl} {s : SS} (h : SpecAt w A p s) {o : Nat} {b b' : Ob} (hb : s.O[o]? = some b) (j : Nat) (v : Value) (hj : j < 2) (hb' : ∀ u, obC b' u = (obC b u).set j v) (hl : b'.line = b.line) : SpecAt (w.setCell ⟨p.O, o * 3 + j, none⟩ v) A p (s.setO o b') := by
  obtain ⟨a1, a2, a3⟩ := h.apart
  obtain ⟨V, h1, h2⟩ := h.obs
  refine ⟨?_, rowT_far h.thr a3 v, ⟨V, h1.set hb j v (by omega) (hb' _) (fun _ _ => rfl), ?_⟩, h.mine, fun b hb => ?_⟩
  · rw [(setO_len s o b').1, (setO_len s o b').2]
    exact h.own.far a2 _ v
  · have hk : Keep (fun b => b = p.O) w (w.setCell ⟨p.O, o * 3 + j, none⟩ v) := set_keep v
    have h3 := h2.keep hk (fun o g ho hg => (line_apart h h2 ho hg).2.2)
    refine ⟨fun u c hc => ?_, fun u g hu hg => h3.mine u g (by simpa [SS.setO] using hu) hg, fun u k g hu hk => h3.apart u k g (by simpa [SS.setO] using hu) (by simpa [SS.setO] using hk)⟩
    rcases set_at hc with ⟨rfl, rfl, _⟩ | ⟨_, hc⟩
    · rw [hl]; exact h3.row u b hb
    · exact h3.row u c hc
  · rw [World.size_setCell]
    exact h.lt b hb
/-- what is read of the automaton itself -/
theorem SpecAt.c0 {w : World} {A : Nat → Prop} {p : Pl} {s : SS} (h : SpecAt w A p s) : w.cell? ⟨p.P, 0, none⟩ = some (.slice (some ⟨p.T, 0, none⟩) s.T.length p.cT) := h.own.cell 0 _ rfl
theorem SpecAt.c1 {w : World} {A : Nat → Prop} {p : Pl} {s : SS} (h : SpecAt w A p s) : w.cell? ⟨p.P, 1, none⟩ = some (.slice (some ⟨p.O, 0, none⟩) s.O.length p.cO) := h.own.cell 1 _ rfl
/-- a thread's cells -/
structure ThAt (w : World) (T k : Nat) (x : Th) : Prop where
  op : w.cell? ⟨T, k, none⟩ = some (.int .i64 x.op)
  obj : w.cell? ⟨T, k + 1, none⟩ = some (.int .i64 x.obj)
  arg : w.cell? ⟨T, k + 2, none⟩ = some (.int .i64 x.arg)
  pr : w.cell? ⟨T, k + 3, none⟩ = some (.int .i64 x.pr)
  calls : w.cell? ⟨T, k + 4, none⟩ = some (.int .i64 x.calls)
  flag : w.cell? ⟨T, k + 5, none⟩ = some (.bool x.flag)
  dep : w.cell? ⟨T, k + 6, none⟩ = some (.int .i64 x.dep)
  code : w.cell? ⟨T, k + 7, none⟩ = some (.int .i64 x.code)
  val : w.cell? ⟨T, k + 8, none⟩ = some (.int .i64 x.val)
theorem SpecAt.th {w : World} {A : Nat → Prop} {p : Pl} {s : SS} (h : SpecAt w A p s) {t : Nat} {x : Th} (hx : s.T[t]? = some x) : ThAt w p.T (t * 9) x :=
  ⟨h.thr.cell hx 0 _ rfl, h.thr.cell hx 1 _ rfl, h.thr.cell hx 2 _ rfl, h.thr.cell hx 3 _ rfl, h.thr.cell hx 4 _ rfl, h.thr.cell hx 5 _ rfl, h.thr.cell hx 6 _ rfl, h.thr.cell hx 7 _ rfl, h.thr.cell hx 8 _ rfl⟩
theorem SpecAt.freeT {w : World} {A : Nat → Prop} {p : Pl} {s : SS} (h : SpecAt w A p s) (k : Nat) : w.frozen? ⟨p.T, k, none⟩ = false := h.thr.free k
theorem SpecAt.freeO {w : World} {A : Nat → Prop} {p : Pl} {s : SS} (h : SpecAt w A p s) (k : Nat) : w.frozen? ⟨p.O, k, none⟩ = false := by
  obtain ⟨V, h1, _⟩ := h.obs
  exact h1.free k
theorem SpecAt.ob {w : World} {A : Nat → Prop} {p : Pl} {s : SS} (h : SpecAt w A p s) {o : Nat} {b : Ob} (hb : s.O[o]? = some b) : w.cell? ⟨p.O, o * 3, none⟩ = some (.int .i64 b.own) ∧ w.cell? ⟨p.O, o * 3 + 1, none⟩ = some (.int .i64 b.dep) := by
  obtain ⟨V, h1, _⟩ := h.obs
  exact ⟨h1.cell hb 0 _ rfl, h1.cell hb 1 _ rfl⟩
theorem idx_thrs (T len c t : Nat) (h : t < len) : ∀ W, (Instr.indexAt 55 (.slice (some ⟨T, 0, none⟩) len c) (.int .i64 (t : Int))).run Try.prog W = .ok (.pointer (some ⟨T, t * 9, none⟩)) W := by
  intro W
  go_simp
theorem idx_objs (T len c t : Nat) (h : t < len) : ∀ W, (Instr.indexAt 56 (.slice (some ⟨T, 0, none⟩) len c) (.int .i64 (t : Int))).run Try.prog W = .ok (.pointer (some ⟨T, t * 3, none⟩)) W := by
  intro W
  go_simp
end Go.Proofs.Ytcgljmeppmdihaa
