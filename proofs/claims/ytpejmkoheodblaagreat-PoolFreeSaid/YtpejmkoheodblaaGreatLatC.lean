/- Laws over tasks of latches: cells, and tasks over them, each of blocks of its own. -/
import Derived.Test.YtpejmkoheodblaaGreatLatB
import Derived.Test.YtpejmkoheodblaaGreatCellsE
namespace Go.Proofs.YtpejmkoheodblaaGreat
open Go.ChangeShapes Go.WideShapes Go.ChangeAt Go.RowKit
set_option linter.unusedVariables false
set_option maxRecDepth 100000
set_option linter.unusedSimpArgs false
/-- the trees of latches, step by step -/
def outT (a : Nat) (t v : Int) : Tre Itm := opT (dropI a t) fun _ => retT v
def lstT (a : Nat) (t : Int) (i : Nat) (v : Int) : Tre Itm := opT (storeI i v) fun _ => outT a t v
def inT (a : Nat) (t : Int) (i : Nat) : Tre Itm := opT (loadI i) fun v => lstT a t i v
def lsT (i : Nat) (v : Int) : Tre Itm := opT (storeI i v) fun _ => retT v
theorem looseT_eq (i : Nat) : looseT i = opT (loadI i) fun v => lsT i v := rfl
theorem out_eq (a : Nat) (t v : Int) : itmT [dropI a t, readyI v] 0 = outT a t v := rfl
theorem take_eq (i : Nat) (t : Int) : itmT [takeI i t] 0 = spinT (takeI i t) := spin_end _
theorem guardT_eq (i : Nat) (t : Int) (B : Tre Itm) : guardT i t B = opT (takeI i t) (fun v => if v = 0 ∨ v = -2147483648 then guardT i t B else bindT (fun v => outT i t v) B) := by
  have e : guardT i t B = bindT (fun v => itmT [dropI i t, readyI v] 0) (bindT (fun _ => B) (spinT (takeI i t))) := by unfold guardT; rw [take_eq]
  conv => lhs; rw [e, spinT_eq, bindT_op, bindT_op]
  congr 1
  funext v
  by_cases h : v = 0 ∨ v = -2147483648
  · rw [if_pos h, if_pos h, e]
  · rw [if_neg h, if_neg h, bindT_ret]
    rfl
theorem bump_in (a : Nat) (t : Int) (i : Nat) : bindT (fun v => outT a t v) (looseT i) = inT a t i := by
  rw [looseT_eq, bindT_op]
  unfold inT
  congr 1
  funext v
  unfold lsT lstT
  rw [bindT_op]
  congr 1
  funext u
  rw [bindT_ret]
theorem bumpT_eq (a : Nat) (t : Int) (i : Nat) : bumpT a t i = opT (takeI a t) (fun v => if v = 0 ∨ v = -2147483648 then bumpT a t i else inT a t i) := by
  show guardT a t (looseT i) = opT (takeI a t) (fun v => if v = 0 ∨ v = -2147483648 then guardT a t (looseT i) else inT a t i)
  conv => lhs; rw [guardT_eq, bump_in]
theorem none_eq (i : Nat) (t : Int) : guardT i t (retT 0) = opT (takeI i t) (fun v => if v = 0 ∨ v = -2147483648 then guardT i t (retT 0) else outT i t 0) := by
  conv => lhs; rw [guardT_eq, bindT_ret]
theorem oper_take {m : List Int} {i : Nat} {t c : Int} (h : m[i]? = some c) (ht : 0 ≤ t ∧ t ≤ 100000) : operS m (takeI i t) = if c = 0 then (m.set i (t + 1), 1, true) else (m, 0, false) := by
  simp [operS, h, markS_eq ht]
theorem oper_drop {m : List Int} {i : Nat} {t c : Int} (h : m[i]? = some c) (ht : 0 ≤ t ∧ t ≤ 100000) : operS m (dropI i t) = if c = t + 1 then (m.set i 0, 1, true) else (m, 0, true) := by
  simp [operS, h, markS_eq ht]
theorem oper_load {m : List Int} {i : Nat} {c : Int} (h : m[i]? = some c) (hc : 0 ≤ c ∧ c ≤ 1000000000000) : operS m (loadI i) = (m, c, true) := by
  have e : wrap64 c = c := IntWalk.wrap64_in _ ⟨by omega, by omega⟩
  simp [operS, h, e]
theorem oper_store {m : List Int} {i : Nat} {c v : Int} (h : m[i]? = some c) (hv : 0 ≤ v ∧ v ≤ 1000000000000) : operS m (storeI i v) = (m.set i (v + 1), 1, true) := by
  have e : IntKind.u64.wrap (IntKind.u64.wrap v + 1) = v + 1 := by
    rw [IntKind.wrap_u64, IntKind.wrap_u64]
    omega
  simp [operS, h, e]
theorem count_in {m : List Int} {x : Itm} {c : Int} (h : m[x.at']? = some c) : countS m x = 1 := by
  have := (List.getElem?_eq_some_iff.1 h).1
  simp [countS, this]
/-- one of several turned -/
def upd {α : Type} (τ : Nat → Option α) (k : Nat) (x : Option α) : Nat → Option α := fun j => if j = k then x else τ j
theorem upd_same {α : Type} (τ : Nat → Option α) (k : Nat) (x : Option α) : upd τ k x k = x := by simp [upd]
theorem upd_ne {α : Type} (τ : Nat → Option α) (k j : Nat) (x : Option α) (h : j ≠ k) : upd τ k x j = τ j := by simp [upd, h]
theorem upd_id {α : Type} (τ : Nat → Option α) (k : Nat) : upd τ k (τ k) = τ := by
  funext j
  unfold upd
  split
  · next h => rw [h]
  · rfl
/-- cells that the call made, and tasks over them; X: blocks of the law's own -/
structure Wld (n0 : Nat) (X : Nat → Prop) (w : World) (C S : Nat) (m : List Int) (n : Int) (τ : Nat → Option (Nat × Tre Itm)) : Prop where
  cells : CellsAt w C S m n
  lo : n0 ≤ C ∧ n0 ≤ S ∧ n0 ≤ w.heap.size
  x : ∀ b, X b → b ≠ C ∧ b ≠ S ∧ b < w.heap.size
  tasks : ∃ lab : Nat → Nat, ∀ k t T, τ k = some (t, T) → ∃ Q, TkT (cellOps C 0) w t Q T ∧ ∀ b, Q b → n0 ≤ b ∧ ¬ X b ∧ b ≠ C ∧ b ≠ S ∧ lab b = k
theorem Wld.keep {n0 : Nat} {X F : Nat → Prop} {w w1 : World} {C S : Nat} {m : List Int} {n : Int} {τ : Nat → Option (Nat × Tre Itm)} (h : Wld n0 X w C S m n τ) (hk : Keep F w w1) (hF : ∀ b, F b → X b) : Wld n0 X w1 C S m n τ := by
  have hs := hk.size
  obtain ⟨h1, h2, h3, lab, h4⟩ := h
  refine ⟨h1.keep hk (fun hf => (h3 _ (hF _ hf)).1 rfl) (fun hf => (h3 _ (hF _ hf)).2.1 rfl), ⟨h2.1, h2.2.1, by omega⟩, fun b hb => ⟨(h3 b hb).1, (h3 b hb).2.1, by have := (h3 b hb).2.2; omega⟩, lab, fun k t T e => ?_⟩
  obtain ⟨Q, g1, g2⟩ := h4 k t T e
  exact ⟨Q, g1.keep hk (fun b hb hf => (g2 b hb).2.1 (hF b hf)), g2⟩
theorem Wld.below {n0 : Nat} {X : Nat → Prop} {w w1 : World} {C S : Nat} {m : List Int} {n : Int} {τ : Nat → Option (Nat × Tre Itm)} (h : Wld n0 X w C S m n τ) (hb : Below w.heap.size w w1) : Wld n0 X w1 C S m n τ := h.keep (Keep.ofBelow (Q := fun _ => False) hb) (fun _ h => h.elim)
/-- more blocks of the law's own -/
theorem Wld.grow {n0 : Nat} {X : Nat → Prop} {w w1 : World} {C S : Nat} {m : List Int} {n : Int} {τ : Nat → Option (Nat × Tre Itm)} (h : Wld n0 X w C S m n τ) (hb : Below w.heap.size w w1) (X' : Nat → Prop) (hX : ∀ b, X' b → X b ∨ (w.heap.size ≤ b ∧ b < w1.heap.size)) : Wld n0 X' w1 C S m n τ := by
  have hC := h.cells.own.lt
  have hS := h.cells.row.lt
  have h1 := h.below hb
  obtain ⟨a1, a2, a3, lab, a4⟩ := h
  obtain ⟨h1, h2, h3, _⟩ := h1
  refine ⟨h1, h2, fun b hb' => ?_, lab, fun k t T e => ?_⟩
  · rcases hX b hb' with hb' | hb'
    · exact h3 b hb'
    · omega
  · obtain ⟨Q, g1, g2⟩ := a4 k t T e
    refine ⟨Q, g1.still (Keep.ofBelow hb), fun b hb' => ⟨(g2 b hb').1, fun hx => ?_, (g2 b hb').2.2⟩⟩
    rcases hX b hx with hx | hx
    · exact (g2 b hb').2.1 hx
    · have := g1.lt b hb'; omega
theorem Wld.fewer {n0 : Nat} {X : Nat → Prop} {w : World} {C S : Nat} {m : List Int} {n : Int} {τ τ' : Nat → Option (Nat × Tre Itm)} (h : Wld n0 X w C S m n τ) (hs : ∀ k x, τ' k = some x → τ k = some x) : Wld n0 X w C S m n τ' := by
  obtain ⟨h1, h2, h3, lab, h4⟩ := h
  exact ⟨h1, h2, h3, lab, fun k t T e => h4 k t T (hs k _ e)⟩
/-- a task that is new -/
theorem Wld.new {n0 : Nat} {X : Nat → Prop} {w w' : World} {C S t : Nat} {m : List Int} {n : Int} {τ : Nat → Option (Nat × Tre Itm)} {T : Tre Itm} (h : Wld n0 X w C S m n τ) (k : Nat) (hM : MadeT (cellOps C 0) w (fun b => w.heap.size ≤ b) T t w') : Wld n0 X w' C S m n (upd τ k (some (t, T))) := by
  have hC := h.cells.own.lt
  have hS := h.cells.row.lt
  have hb := hM.2.2
  have h1 := h.below hb
  obtain ⟨a1, a2, a3, lab, a4⟩ := h
  obtain ⟨h1, h2, h3, _⟩ := h1
  refine ⟨h1, h2, h3, fun b => if b < w.heap.size then lab b else k, fun j t' T' e => ?_⟩
  unfold upd at e
  split at e
  · next hj =>
    simp only [Option.some.injEq, Prod.mk.injEq] at e
    obtain ⟨rfl, rfl⟩ := e
    refine ⟨_, TkT.new hM.2.1 hM.1, fun b hb' => ?_⟩
    have hge : w.heap.size ≤ b := hb'.1
    exact ⟨by omega, fun hx => by have := (a3 b hx).2.2; omega, by omega, by omega, (if_neg (by omega)).trans hj.symm⟩
  · obtain ⟨Q, g1, g2⟩ := a4 j t' T' e
    refine ⟨Q, g1.still (Keep.ofBelow hb), fun b hb' => ?_⟩
    have := g1.lt b hb'
    obtain ⟨e1, e2, e3, e4, e5⟩ := g2 b hb'
    exact ⟨e1, e2, e3, e4, (if_pos this).trans e5⟩
/-- a step of one of them -/
theorem wstep {n0 : Nat} {X : Nat → Prop} {w : World} {C S t : Nat} {m : List Int} {n : Int} {τ : Nat → Option (Nat × Tre Itm)} {x : Itm} {κ : Int → Tre Itm} (k : Nat) (h : Wld n0 X w C S m n τ) (hτ : τ k = some (t, opT x κ)) (hk : x.kind < 5) (hn : 0 ≤ n ∧ n ≤ 2000000) :
    Calls Tryz.prog 36 #[pV t, .int .i64 0] w fun e w' => e = .returned (.bool true) ∧ Wld n0 X w' C S (operS m x).1 (n + countS m x) (upd τ k (some (t, κ (operS m x).2.1))) ∧ Keep (fun b => n0 ≤ b ∧ ¬ X b) w w' := by
  obtain ⟨a1, a2, a3, lab, a4⟩ := h
  obtain ⟨Q, g1, g2⟩ := a4 k t _ hτ
  have hC := a1.own.lt
  have hS := a1.row.lt
  refine (tstepT_op C 0 S t Q x κ m n w g1 a1 hk (fun b hb => ⟨(g2 b hb).2.2.1, (g2 b hb).2.2.2.1⟩) hn).mono ?_
  rintro e w' ⟨rfl, ⟨Q', q1, q2⟩, q3, q4⟩
  have hs := q4.size
  have ht := g2 t g1.own
  have hfX : ∀ b, (b = t ∨ ofCells C S b) → n0 ≤ b ∧ ¬ X b := fun b hb => by
    rcases hb with rfl | rfl | rfl
    · exact ⟨ht.1, ht.2.1⟩
    · exact ⟨a2.1, fun hx => (a3 _ hx).1 rfl⟩
    · exact ⟨a2.2.1, fun hx => (a3 _ hx).2.1 rfl⟩
  refine ⟨rfl, ⟨q3, ⟨a2.1, a2.2.1, by omega⟩, fun b hb => ⟨(a3 b hb).1, (a3 b hb).2.1, by have := (a3 b hb).2.2; omega⟩, fun b => if b < w.heap.size then lab b else k, fun j t' T' e => ?_⟩, q4.mono (fun b _ hb => hfX b hb)⟩
  unfold upd at e
  split at e
  · next hj =>
    simp only [Option.some.injEq, Prod.mk.injEq] at e
    obtain ⟨rfl, rfl⟩ := e
    refine ⟨Q', q1, fun b hb => ?_⟩
    by_cases hlt : b < w.heap.size
    · rcases q2 b hb with hb | hb
      · obtain ⟨e1, e2, e3, e4, e5⟩ := g2 b hb
        exact ⟨e1, e2, e3, e4, (if_pos hlt).trans (e5.trans hj.symm)⟩
      · omega
    · exact ⟨by omega, fun hx => by have := (a3 b hx).2.2; omega, by omega, by omega, (if_neg hlt).trans hj.symm⟩
  · next hj =>
    obtain ⟨Q2, r1, r2⟩ := a4 j t' T' e
    refine ⟨Q2, r1.keep q4 (fun b hb hf => ?_), fun b hb => ?_⟩
    · obtain ⟨e1, e2, e3, e4, e5⟩ := r2 b hb
      rcases hf with rfl | rfl | rfl
      · exact hj (e5.symm.trans ht.2.2.2.2)
      · exact e3 rfl
      · exact e4 rfl
    · have := r1.lt b hb
      obtain ⟨e1, e2, e3, e4, e5⟩ := r2 b hb
      exact ⟨e1, e2, e3, e4, (if_pos this).trans e5⟩
theorem wdone_ret {n0 : Nat} {X : Nat → Prop} {w : World} {C S t : Nat} {m : List Int} {n v : Int} {τ : Nat → Option (Nat × Tre Itm)} (k : Nat) (h : Wld n0 X w C S m n τ) (hτ : τ k = some (t, retT v)) : Calls Tryz.prog 37 #[pV t] w fun e w' => e = .returned (.bool true) ∧ w = w' := by
  obtain ⟨a1, a2, a3, lab, a4⟩ := h
  obtain ⟨Q, g1, g2⟩ := a4 k t _ hτ
  exact tdoneT_ret t Q v w g1
theorem wdone_op {n0 : Nat} {X : Nat → Prop} {w : World} {C S t : Nat} {m : List Int} {n : Int} {τ : Nat → Option (Nat × Tre Itm)} {x : Itm} {κ : Int → Tre Itm} (k : Nat) (h : Wld n0 X w C S m n τ) (hτ : τ k = some (t, opT x κ)) : Calls Tryz.prog 37 #[pV t] w fun e w' => e = .returned (.bool false) ∧ w = w' := by
  obtain ⟨a1, a2, a3, lab, a4⟩ := h
  obtain ⟨Q, g1, g2⟩ := a4 k t _ hτ
  exact tdoneT_op t Q x κ w g1
theorem wvalue_ret {n0 : Nat} {X : Nat → Prop} {w : World} {C S t : Nat} {m : List Int} {n v : Int} {τ : Nat → Option (Nat × Tre Itm)} (k : Nat) (h : Wld n0 X w C S m n τ) (hτ : τ k = some (t, retT v)) : Calls Tryz.prog 23 #[pV t] w fun e w' => e = .returned (.int .i64 v) ∧ w = w' := by
  obtain ⟨a1, a2, a3, lab, a4⟩ := h
  obtain ⟨Q, g1, g2⟩ := a4 k t _ hτ
  exact tvalueT_ret t Q v w g1
theorem wstep_ret {n0 : Nat} {X : Nat → Prop} {w : World} {C S t : Nat} {m : List Int} {n v : Int} {τ : Nat → Option (Nat × Tre Itm)} (k : Nat) (h : Wld n0 X w C S m n τ) (hτ : τ k = some (t, retT v)) : Calls Tryz.prog 36 #[pV t, .int .i64 0] w fun e w' => e = .returned (.bool false) ∧ w = w' := by
  obtain ⟨a1, a2, a3, lab, a4⟩ := h
  obtain ⟨Q, g1, g2⟩ := a4 k t _ hτ
  exact tstepT_ret t Q v 0 w g1
/-- the law's own calls on the cells -/
theorem Wld.cell {n0 : Nat} {X : Nat → Prop} {w w' : World} {C S : Nat} {m m' : List Int} {n n' : Int} {τ : Nat → Option (Nat × Tre Itm)} (h : Wld n0 X w C S m n τ) (hk : Keep (ofCells C S) w w') (hC : CellsAt w' C S m' n') : Wld n0 X w' C S m' n' τ ∧ Keep (fun b => n0 ≤ b ∧ ¬ X b) w w' := by
  obtain ⟨a1, a2, a3, lab, a4⟩ := h
  have hs := hk.size
  refine ⟨⟨hC, ⟨a2.1, a2.2.1, by omega⟩, fun b hb => ⟨(a3 b hb).1, (a3 b hb).2.1, by have := (a3 b hb).2.2; omega⟩, lab, fun j t' T' e => ?_⟩, hk.mono (fun b _ hb => ?_)⟩
  · obtain ⟨Q2, r1, r2⟩ := a4 j t' T' e
    refine ⟨Q2, r1.keep hk (fun b hb hf => ?_), r2⟩
    obtain ⟨e1, e2, e3, e4, e5⟩ := r2 b hb
    rcases hf with rfl | rfl
    · exact e3 rfl
    · exact e4 rfl
  · rcases hb with rfl | rfl
    · exact ⟨a2.1, fun hx => (a3 _ hx).1 rfl⟩
    · exact ⟨a2.2.1, fun hx => (a3 _ hx).2.1 rfl⟩
theorem wload {a : Int} {n0 : Nat} {X : Nat → Prop} {w : World} {C S : Nat} {m : List Int} {n : Int} {τ : Nat → Option (Nat × Tre Itm)} (i : Nat) (ha : a = i) (c : Int) (h : Wld n0 X w C S m n τ) (hi : m[i]? = some c) (hn : 0 ≤ n ∧ n ≤ 2000000) :
    Calls Tryz.prog 123 #[cellsV C, .int .i64 a] w fun e w' => e = .returned (.int .u64 c) ∧ Wld n0 X w' C S m (n + 1) τ ∧ Keep (fun b => n0 ≤ b ∧ ¬ X b) w w' := by
  subst ha
  refine (load_yes C S m n i c w h.cells hi hn.1 (by omega)).mono ?_
  rintro e w' ⟨rfl, h1, h2⟩
  exact ⟨rfl, h.cell h2 h1⟩
theorem wstore {a : Int} {n0 : Nat} {X : Nat → Prop} {w : World} {C S : Nat} {m : List Int} {n : Int} {τ : Nat → Option (Nat × Tre Itm)} (i : Nat) (ha : a = i) (c u : Int) (h : Wld n0 X w C S m n τ) (hi : m[i]? = some c) (hn : 0 ≤ n ∧ n ≤ 2000000) :
    Calls Tryz.prog 40 #[cellsV C, .int .i64 a, .int .u64 u] w fun e w' => e = .returned (.bool true) ∧ Wld n0 X w' C S (m.set i u) (n + 1) τ ∧ Keep (fun b => n0 ≤ b ∧ ¬ X b) w w' := by
  subst ha
  refine (store_yes C S m n i c u w h.cells hi hn.1 (by omega)).mono ?_
  rintro e w' ⟨rfl, h1, h2⟩
  exact ⟨rfl, h.cell h2 h1⟩
theorem wsteps {n0 : Nat} {X : Nat → Prop} {w : World} {C S : Nat} {m : List Int} {n : Int} {τ : Nat → Option (Nat × Tre Itm)} (h : Wld n0 X w C S m n τ) :
    Calls Tryz.prog 14 #[cellsV C] w fun e w' => e = .returned (.int .i64 n) ∧ w = w' := steps_any C S m n w h.cells
theorem wall {n0 : Nat} {X : Nat → Prop} {w : World} {C S : Nat} {m : List Int} {n : Int} {τ : Nat → Option (Nat × Tre Itm)} (h : Wld n0 X w C S m n τ) (hm : m ≠ []) :
    Calls Tryz.prog 13 #[cellsV C] w fun e w' => ∃ g cap, e = .returned (.slice (some ⟨g, 0, none⟩) m.length cap) ∧ (∀ (i : Nat) c, m[i]? = some c → w'.cell? ⟨g, i, none⟩ = some (.int .u64 c)) ∧ w.heap.size ≤ g ∧ Below w.heap.size w w' := by
  refine (all_any C S m n w h.cells).mono ?_
  rintro e w' ⟨u, rfl, hb, hrow⟩
  rcases id hrow.2 with ⟨rfl, h0⟩ | ⟨g, cap, cur, rfl, h1, _⟩
  · exfalso
    have : m.length = 0 := by simpa using h0
    exact hm (List.length_eq_zero_iff.1 this)
  · refine ⟨g, cap, rfl, fun i c hc => ?_, h1, hb⟩
    have := hrow.cells (g := g) rfl i (.int .u64 c) (by rw [List.getElem?_map, hc]; rfl)
    rw [addr_add, Nat.zero_add] at this
    exact this
end Go.Proofs.YtpejmkoheodblaaGreat
