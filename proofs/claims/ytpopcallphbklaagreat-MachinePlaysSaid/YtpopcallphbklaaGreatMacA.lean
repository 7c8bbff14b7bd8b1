/- Package machine: what a thread is in memory; what supplies its tasks; going past tasks that are done. -/
import Derived.Test.YtpopcallphbklaaGreatTaskN
import Derived.Test.YtpopcallphbklaaGreatMacSpec
namespace Go.Proofs.YtpopcallphbklaaGreat
open Go.ChangeShapes Go.WideShapes Go.ChangeAt Go.RowKit
set_option linter.unusedVariables false
set_option maxRecDepth 100000
set_option linter.unusedSimpArgs false
/-- a task of a thread: where it lies, its blocks, what it is -/
structure Tk where
  t : Nat
  Q : Nat → Prop
  x : Tsk
/-- tasks that lie apart from one another -/
def TksAt (w : World) (C P : Nat) (L : List Tk) : Prop := (∀ k ∈ L, TaskG w C P k.t k.Q k.x.1 k.x.2) ∧ L.Pairwise (fun k j => ∀ b, k.Q b → ¬ j.Q b)
/-- a row of pointers to them, in block B if there are any -/
def RowT (w : World) (B : Nat) (sl : Value) (L : List Tk) : Prop :=
  ∃ a cap, sl = .slice a L.length cap ∧ L.length ≤ cap ∧ (L ≠ [] → ∃ o, a = some ⟨B, o, none⟩ ∧ (∃ cs, Blk w B 66 cs) ∧ ∀ i k, L[i]? = some k → w.cell? ⟨B, o + i, none⟩ = some (pV k.t))
/-- a thread whose current task is there -/
def LiveT (w : World) (C P X : Nat) (O : Nat → Prop) (cur f u : Value) (l : List Tsk) : Prop :=
  ∃ k M bl B sl, l = (k :: M).map Tk.x ∧ cur = pV k.t ∧ f = cloV 95 #[pV bl] ∧ Blk w bl 61 #[sl] ∧ O bl ∧ RowT w B sl M ∧ (M ≠ [] → O B) ∧ TksAt w C P (k :: M) ∧
    ∀ j ∈ k :: M, ∀ b, j.Q b → O b ∧ b ≠ X ∧ b ≠ bl ∧ (M ≠ [] → b ≠ B) ∧ u.ownBlock ≠ some b
/-- the thread at block X, of the blocks of which O is said: the tasks that it has not gone past, and the values of those that it has -/
def ThrAt (w : World) (C P X : Nat) (O : Nat → Prop) (l : List Tsk) (vs : List Int) : Prop :=
  ∃ cur f u n0, Blk w X 86 #[cur, f, u] ∧ O X ∧ w.ownsRow n0 3 1 u vs.length (vs.map (.int .i64)) ∧ n0 ≤ w.heap.size ∧ (∀ g, u.ownBlock = some g → O g) ∧ (∀ b, O b → b < w.heap.size) ∧
    ((l = [] ∧ cur = .pointer none) ∨ LiveT w C P X O cur f u l)
theorem TksAt.keep {w w1 : World} {C P : Nat} {L : List Tk} {F : Nat → Prop} (h : TksAt w C P L) (hk : Keep F w w1) (hn : ∀ k ∈ L, ∀ b, k.Q b → ¬ F b) : TksAt w1 C P L :=
  ⟨fun k hk' => (h.1 k hk').keep hk (hn k hk'), h.2⟩
theorem RowT.keep {w w1 : World} {B : Nat} {sl : Value} {L : List Tk} {F : Nat → Prop} (h : RowT w B sl L) (hk : Keep F w w1) (hn : L ≠ [] → ¬ F B) : RowT w1 B sl L := by
  obtain ⟨a, cap, e, hc, h⟩ := h
  refine ⟨a, cap, e, hc, fun hL => ?_⟩
  obtain ⟨o, e2, ⟨cs, hb⟩, h⟩ := h hL
  exact ⟨o, e2, ⟨cs, hb.keep hk (hn hL)⟩, fun i k hi => cell_keep6 (h i k hi) hk (hn hL)⟩
theorem LiveT.keep {w w1 : World} {C P X : Nat} {O F : Nat → Prop} {cur f u : Value} {l : List Tsk} (h : LiveT w C P X O cur f u l) (hk : Keep F w w1) (hn : ∀ b, O b → ¬ F b) : LiveT w1 C P X O cur f u l := by
  obtain ⟨k, M, bl, B, sl, e1, e2, e3, h1, h2, h3, h4, h5, h6⟩ := h
  exact ⟨k, M, bl, B, sl, e1, e2, e3, h1.keep hk (hn _ h2), h2, h3.keep hk (fun hM => hn _ (h4 hM)), h4, h5.keep hk (fun j hj b hb => hn b (h6 j hj b hb).1), h6⟩
theorem ThrAt.keep {w w1 : World} {C P X : Nat} {O F : Nat → Prop} {l : List Tsk} {vs : List Int} (h : ThrAt w C P X O l vs) (hk : Keep F w w1) (hn : ∀ b, O b → ¬ F b) : ThrAt w1 C P X O l vs := by
  obtain ⟨cur, f, u, n0, h1, h2, h3, h4, h5, h6, h7⟩ := h
  exact ⟨cur, f, u, n0, h1.keep hk (hn _ h2), h2, row_ownkeep h3 hk (fun g hg => hn g (h5 g hg)), Nat.le_trans h4 hk.size, h5, fun b hb => Nat.lt_of_lt_of_le (h6 b hb) hk.size, h7.imp id fun h => h.keep hk hn⟩
theorem ThrAt.lt {w : World} {C P X : Nat} {O : Nat → Prop} {l : List Tsk} {vs : List Int} (h : ThrAt w C P X O l vs) : ∀ b, O b → b < w.heap.size := by
  obtain ⟨cur, f, u, n0, h1, h2, h3, h4, h5, h6, h7⟩ := h
  exact h6
theorem ThrAt.own {w : World} {C P X : Nat} {O : Nat → Prop} {l : List Tsk} {vs : List Int} (h : ThrAt w C P X O l vs) : O X := by
  obtain ⟨cur, f, u, n0, h1, h2, h3, h4, h5, h6, h7⟩ := h
  exact h2
theorem mslice_one (a : Option Addr) (n cap : Nat) (h1 : 1 ≤ n) (h2 : n ≤ cap) (W : World) : ∃ a', (Instr.slice 61 (.slice a n cap) (some (.int .i64 1)) none none).run Tryz.prog W = .ok (.slice a' (n - 1) (cap - 1)) W ∧ (2 ≤ n → ∀ B o, a = some ⟨B, o, none⟩ → a' = some ⟨B, o + 1, none⟩) := by
  rw [run_slice_l _ 61 _ _ _ (by kernel_rfl) .i64 1 (by omega) (by omega)]
  have hs : (sizeOf (Tryz.prog.elem 61)).run Tryz.prog W = .ok 1 W := by kernel_rfl
  rw [hs]
  by_cases hc : cap = 1
  · refine ⟨a, by simp [Result.andThen, sliced, hc], fun h => by omega⟩
  · refine ⟨a.map (·.add 1), by simp [Result.andThen, sliced, hc], fun h B o e => ?_⟩
    subst e
    simp [Addr.add]
theorem supply_none (bl : Nat) (a : Option Addr) (cap : Nat) (w : World) (hb : Blk w bl 61 #[.slice a 0 cap]) :
    Calls Tryz.prog 95 #[pV bl] w fun e w' => e = .returned (.pointer none) ∧ w = w' := by
  have c0 : w.cell? ⟨bl, 0, none⟩ = some (.slice a 0 cap) := hb.cell 0 _ rfl
  clear hb
  go_enter Tryz.func95, Tryz.ntmps95
  go_wp2
  go_ret
  exact ⟨rfl, rfl⟩
theorem supply_more (bl B o n cap t : Nat) (w : World) (hb : Blk w bl 61 #[.slice (some ⟨B, o, none⟩) (n + 1) cap]) (hc : w.cell? ⟨B, o, none⟩ = some (pV t)) (hn : n + 1 ≤ cap) :
    Calls Tryz.prog 95 #[pV bl] w fun e w' => e = .returned (pV t) ∧ ∃ a', (1 ≤ n → a' = some ⟨B, o + 1, none⟩) ∧ w' = w.setCell ⟨bl, 0, none⟩ (.slice a' n (cap - 1)) := by
  have c0 : w.cell? ⟨bl, 0, none⟩ = some (.slice (some ⟨B, o, none⟩) (n + 1) cap) := hb.cell 0 _ rfl
  have z0 := hb.free 0
  obtain ⟨a', ha, ha2⟩ : ∃ a', (∀ W, (Instr.slice 61 (.slice (some ⟨B, o, none⟩) (n + 1) cap) (some (.int .i64 1)) none none).run Tryz.prog W = .ok (.slice a' n (cap - 1)) W) ∧ (1 ≤ n → a' = some ⟨B, o + 1, none⟩) := by
    obtain ⟨a', h1, h2⟩ := mslice_one (some ⟨B, o, none⟩) (n + 1) cap (by omega) hn w
    refine ⟨a', fun W => ?_, fun h => h2 (by omega) B o rfl⟩
    obtain ⟨a2, h3, _⟩ := mslice_one (some ⟨B, o, none⟩) (n + 1) cap (by omega) hn W
    rw [run_slice_l _ 61 _ _ _ (by kernel_rfl) .i64 1 (by omega) (by omega)] at h1 ⊢
    have hs : ∀ W, (sizeOf (Tryz.prog.elem 61)).run Tryz.prog W = .ok 1 W := by intro W; kernel_rfl
    rw [hs] at h1 ⊢
    simp [Result.andThen] at h1 ⊢
    exact h1
  have H2 := Lib.hid ha2
  clear hb ha2
  go_enter Tryz.func95, Tryz.ntmps95
  go_wp2
  go_ret
  exact ⟨rfl, a', H2.out, rfl⟩
end Go.Proofs.YtpopcallphbklaaGreat
