/- Rows of a call's own, blocks that are apart: what several texts want. No program is named here. -/
import Derived.Test.YtcgljmeppmdihaaAppend
namespace Go.Proofs.Ytcgljmeppmdihaa
open Go.ChangeShapes Go.WideShapes Go.ChangeAt Go.RowKit
set_option linter.unusedVariables false
set_option linter.unusedSimpArgs false
theorem Blk.apart {w : World} {a b : Nat} {t u : TypeId} {xs ys : Array Value} (h1 : Blk w a t xs) (h2 : Blk w b u ys) (ht : t ≠ u) : a ≠ b := by
  rintro rfl
  have h3 : w.heap[a]? = some (.cells ys u (0, 0)) := h2
  rw [show w.heap[a]? = _ from h1] at h3
  have := Option.some.inj h3
  simp at this
  exact ht this.2
theorem ownsRow_keepQ {w w' : World} {B size n : Nat} {e : TypeId} {v : Value} {xs : List Value} {Q : Nat → Prop} (h : w.ownsRow B e size v n xs) (hk : Keep Q w w') (hQ : ∀ g, B ≤ g → ¬ Q g) : w'.ownsRow B e size v n xs := by
  refine ⟨h.1, ?_⟩
  rcases h.2 with h | ⟨g, cap, cur, hv, hg, hh, r⟩
  · exact .inl h
  · exact .inr ⟨g, cap, cur, hv, hg, (hk.block g (Array.getElem?_eq_some_iff.1 hh).1 (hQ g hg)).trans hh, r⟩
theorem row_slice {w : World} {B size n : Nat} {e : TypeId} {v : Value} {xs : List Value} (h : w.ownsRow B e size v n xs) (hn : 0 < n) : ∃ g cap, v = .slice (some ⟨g, 0, none⟩) n cap := by
  rcases h.2 with ⟨_, h0⟩ | ⟨g, cap, cur, hv, _⟩
  · omega
  · exact ⟨g, cap, hv⟩
theorem ownsRow_keep {w w' : World} {B size n : Nat} {e : TypeId} {v : Value} {xs : List Value} (h : w.ownsRow B e size v n xs) (hk : Keep (fun _ => False) w w') : w'.ownsRow B e size v n xs := by
  refine ⟨h.1, ?_⟩
  rcases h.2 with h | ⟨g, cap, cur, hv, hg, hh, r⟩
  · exact .inl h
  · exact .inr ⟨g, cap, cur, hv, hg, (hk.block g (Array.getElem?_eq_some_iff.1 hh).1 (fun h => h)).trans hh, r⟩
theorem cells4_new (w : World) (e : TypeId) (c0 c1 c2 c3 : Value) : ∀ (j : Nat) (u : Value), [c0, c1, c2, c3][j]? = some u → (w.alloc (.cells #[c0, c1, c2, c3] e)).cell? ((⟨w.heap.size, 0, none⟩ : Addr).add j) = some u := by
  intro j u hj
  have hb := Blk.new w e #[c0, c1, c2, c3]
  have := hb.cell j u (by simpa using hj)
  unfold Addr.add
  split
  · subst_vars; exact this
  · simpa using this
/-- what an append to a slice of the call's own leaves as it was -/
theorem grown_below {w w2 : World} {base : Nat} {e : TypeId} {n k : Nat} {v : Value} {xs : List Value} {o : Obj} (hg : (w.alloc o).grownBy w2 v.ownBlock) (hrow : w.ownsRow base e n v k xs) (hh : base ≤ w.heap.size) : Below base w w2 := by
  refine ((Below.refl base w).alloc hh o).grown hg (by simp; omega) fun j ej => ?_
  rcases hrow.2 with ⟨rfl, _⟩ | ⟨g, cap, cur, rfl, hb, _⟩
  · simp [Value.ownBlock] at ej
  · simp [Value.ownBlock] at ej
    omega
theorem tmod7 {A : Int} (h : A.tmod 8 = 7) : 0 ≤ A := by
  rcases Int.le_total 0 A with h0 | h0
  · exact h0
  · have h1 := Int.tmod_nonneg (a := -A) 8 (by omega)
    rw [Int.neg_tmod] at h1
    omega
theorem rem_small (K : Int) (m : Nat) (h0 : 0 < m) (hm : m ≤ 1000) : ∃ k : Nat, wrap64 ((IntKind.u64.wrap K).tmod (m : Int)) = k ∧ k < m := by
  have h1 : 0 ≤ IntKind.u64.wrap K := by rw [IntKind.wrap_u64]; omega
  have h2 : (IntKind.u64.wrap K).tmod (m : Int) = IntKind.u64.wrap K % (m : Int) := Int.tmod_eq_emod_of_nonneg h1
  have h3 : 0 ≤ IntKind.u64.wrap K % (m : Int) := Int.emod_nonneg _ (by omega)
  have h4 : IntKind.u64.wrap K % (m : Int) < m := Int.emod_lt_of_pos _ (by omega)
  obtain ⟨k, hk⟩ := Int.eq_ofNat_of_zero_le h3
  refine ⟨k, ?_, by omega⟩
  rw [h2, hk]
  exact IntWalk.wrap64_in _ ⟨by omega, by omega⟩
theorem own_some {g g' n c : Nat} (h : (Value.slice (some ⟨g, 0, none⟩) n c).ownBlock = some g') : g = g' := by simpa [Value.ownBlock] using h
theorem row_ownkeep {w w' : World} {B size n : Nat} {e : TypeId} {v : Value} {xs : List Value} {Q : Nat → Prop} (h : w.ownsRow B e size v n xs) (hk : Keep Q w w') (hQ : ∀ g, v.ownBlock = some g → ¬ Q g) : w'.ownsRow B e size v n xs := by
  refine ⟨h.1, ?_⟩
  rcases h.2 with h | ⟨g, cap, cur, hv, hg, hh, r⟩
  · exact .inl h
  · exact .inr ⟨g, cap, cur, hv, hg, (hk.block g (Array.getElem?_eq_some_iff.1 hh).1 (hQ g (by rw [hv]; rfl))).trans hh, r⟩
theorem row_lt {w : World} {B size n : Nat} {e : TypeId} {v : Value} {xs : List Value} (h : w.ownsRow B e size v n xs) {g : Nat} (hg : v.ownBlock = some g) : g < w.heap.size ∧ ∃ cur, Blk w g e cur := by
  rcases h.2 with ⟨hv, _⟩ | ⟨g', cap, cur, hv, _, hh, _⟩
  · rw [hv] at hg; simp [Value.ownBlock] at hg
  · rw [hv] at hg
    obtain rfl : g' = g := by simpa [Value.ownBlock] using hg
    exact ⟨(Array.getElem?_eq_some_iff.1 hh).1, cur, hh⟩
theorem rows_apart {w : World} {B B' n n' : Nat} {e e' : TypeId} {v v' : Value} {xs xs' : List Value} (h : w.ownsRow B e 1 v n xs) (h' : w.ownsRow B' e' 1 v' n' xs') (he : e ≠ e') (g : Nat) (hg : v.ownBlock = some g) : ¬ v'.ownBlock = some g := fun hg' => by
  obtain ⟨_, cur, hb⟩ := row_lt h hg
  obtain ⟨_, cur', hb'⟩ := row_lt h' hg'
  exact hb.apart hb' he rfl
theorem grown_keep {w w2 : World} {r : Option Nat} {o : Obj} (hg : (w.alloc o).grownBy w2 r) : Keep (fun b => r = some b) w w2 :=
  ⟨hg.1, hg.2, hg.3, Nat.le_trans (by simp) hg.4, fun k hk hn => (hg.5 k (by simp; omega) (fun e => hn e.symm)).trans (Below.heap_alloc w o k hk)⟩
end Go.Proofs.Ytcgljmeppmdihaa
