/- SpecOwns: what a walk of the law holds: an automaton, two tables, the events, a count of who waits. -/
import Derived.Test.YtcgljmeppmdihaaSoA
import Derived.Test.YtcgljmeppmdihaaSpX
namespace Go.Proofs.Ytcgljmeppmdihaa
open Go.ChangeShapes Go.WideShapes Go.ChangeAt Go.RowKit
set_option linter.unusedVariables false
set_option maxRecDepth 100000
set_option linter.unusedSimpArgs false
def tabA (n : Nat) (g : Nat → Int) : Array Value := ((List.range n).map fun t => Value.int .i64 (g t)).toArray
theorem tabA_at {n t : Nat} (g : Nat → Int) (h : t < n) : (tabA n g)[t]? = some (.int .i64 (g t)) := by
  unfold tabA
  rw [List.getElem?_toArray, List.getElem?_map, List.getElem?_range h]
  rfl
theorem tabA_set (n t : Nat) (g : Nat → Int) (x : Int) : (tabA n g).setIfInBounds t (.int .i64 x) = tabA n (fun u => if u = t then x else g u) := by
  unfold tabA
  rw [List.setIfInBounds_toArray]
  congr 1
  apply List.ext_getElem?
  intro i
  rw [List.getElem?_set]
  by_cases hi : i < n
  · rw [List.getElem?_map, List.getElem?_map, List.getElem?_range hi]
    by_cases e : t = i
    · subst e; simp [hi]
    · rw [if_neg e]; simp [show ¬ i = t from fun k => e k.symm]
  · rw [List.getElem?_eq_none (by simp; omega), List.getElem?_eq_none (by simp; omega)]
    split
    · split
      · rename_i h1 h2; simp at h2; omega
      · rfl
    · rfl
theorem make_tab (k : Nat) (h1 : k ≤ 100) (w : World) : (Instr.makeSlice 30 (.int .i64 (k : Int)) (.int .i64 (k : Int))).run Try.prog w = .ok (.slice (some ⟨w.heap.size, 0, none⟩) k k) (w.alloc (.cells (tabA k fun _ => 0) 3)) := by
  have e : madeCells #[Value.int .i64 0] k = tabA k (fun _ => 0) := by
    rw [← Array.toList_inj, toList_madeCells_one]
    unfold tabA
    rw [List.map_const', List.length_range]
  rw [make_rints k (by omega)]
  rw [e]
/-- where the law's walk stands -/
structure SoS (w W : World) (A : Nat → Prop) (p : Pl) (s : SS) (D V : Tab) (m n bd bs : Nat) (vl : Value) (l : List Ev) : Prop where
  ks : KS w W A p s
  dr : Blk W bd 3 (tabA (m * n) (tabF n D))
  sr : Blk W bs 3 (tabA (m * n) (tabF n V))
  row : W.ownsRow w.heap.size 37 8 vl l.length (l.flatMap evL)
  ne : bd ≠ bs
  nA : ∀ b, A b → b ≠ bd ∧ b ≠ bs ∧ vl.ownBlock ≠ some b
  lo : w.heap.size ≤ bd ∧ w.heap.size ≤ bs ∧ ∀ b, vl.ownBlock = some b → b ≠ bd ∧ b ≠ bs
section
variable {w W W1 : World} {A : Nat → Prop} {p : Pl} {s : SS} {D V : Tab} {m n bd bs : Nat} {vl : Value} {l : List Ev}
theorem SoS.keepF (h : SoS w W A p s D V m n bd bs vl l) (hk : Keep (fun _ => False) W W1) : SoS w W1 A p s D V m n bd bs vl l :=
  ⟨h.ks.other (C := fun _ => False) hk (fun _ _ h => h) (fun _ h => h.elim), h.dr.keep hk (fun h => h), h.sr.keep hk (fun h => h), row_ownkeep h.row hk (fun _ _ h => h), h.ne, h.nA, h.lo⟩
theorem SoS.below (h : SoS w W A p s D V m n bd bs vl l) (hb : Below W.heap.size W W1) : SoS w W1 A p s D V m n bd bs vl l := h.keepF (Keep.ofBelow hb)
theorem SoS.drew (h : SoS w W A p s D V m n bd bs vl l) : SoS w W.drew A p s D V m n bd bs vl l := h.keepF ((Keep.refl _ W).drew)
theorem SoS.drewN (h : SoS w W A p s D V m n bd bs vl l) (k : Nat) : SoS w (W.drewN k) A p s D V m n bd bs vl l := h.keepF ((Keep.refl _ W).drewN k)
/-- a block that is none of these is stored to -/
theorem SoS.far (h : SoS w W A p s D V m n bd bs vl l) {b : Nat} (hA : ¬ A b) (h1 : b ≠ bd) (h2 : b ≠ bs) (h3 : vl.ownBlock ≠ some b) (hw : w.heap.size ≤ b) (i : Nat) (v : Value) : SoS w (W.setCell ⟨b, i, none⟩ v) A p s D V m n bd bs vl l := by
  have hk : Keep (fun k => k = b) W (W.setCell ⟨b, i, none⟩ v) := (Keep.refl (fun k => k = b) W).set (p := ⟨b, i, none⟩) (fun _ => rfl) _
  exact ⟨h.ks.other hk (fun k ka e => hA (e ▸ ka)) (fun k e => by omega), h.dr.keep hk (fun e => h1 e.symm), h.sr.keep hk (fun e => h2 e.symm), row_ownkeep h.row hk (fun g hg e => h3 (e ▸ hg)), h.ne, h.nA, h.lo⟩
theorem SoS.setD (h : SoS w W A p s D V m n bd bs vl l) {t o : Nat} (ho : o < n) (v : Int) : SoS w (W.setCell ⟨bd, t * n + o, none⟩ (.int .i64 v)) A p s (D.put t o v) V m n bd bs vl l := by
  have hk : Keep (fun k => k = bd) W (W.setCell ⟨bd, t * n + o, none⟩ (.int .i64 v)) := (Keep.refl (fun k => k = bd) W).set (p := ⟨bd, t * n + o, none⟩) (fun _ => rfl) _
  have hs := h.dr.set (t * n + o) (.int .i64 v)
  rw [tabA_set, tabF_put D ho v] at hs
  have h0 := h.lo.1
  exact ⟨h.ks.other hk (fun k ka e => (h.nA k ka).1 e) (fun k e => by omega), hs, h.sr.keep hk (fun e => h.ne e.symm), row_ownkeep h.row hk (fun g hg e => (h.lo.2.2 g hg).1 e), h.ne, h.nA, h.lo⟩
theorem SoS.setV (h : SoS w W A p s D V m n bd bs vl l) {t o : Nat} (ho : o < n) (v : Int) : SoS w (W.setCell ⟨bs, t * n + o, none⟩ (.int .i64 v)) A p s D (V.put t o v) m n bd bs vl l := by
  have hk : Keep (fun k => k = bs) W (W.setCell ⟨bs, t * n + o, none⟩ (.int .i64 v)) := (Keep.refl (fun k => k = bs) W).set (p := ⟨bs, t * n + o, none⟩) (fun _ => rfl) _
  have hs := h.sr.set (t * n + o) (.int .i64 v)
  rw [tabA_set, tabF_put V ho v] at hs
  have h0 := h.lo.2.1
  exact ⟨h.ks.other hk (fun k ka e => (h.nA k ka).2.1 e) (fun k e => by omega), h.dr.keep hk (fun e => h.ne e), hs, row_ownkeep h.row hk (fun g hg e => (h.lo.2.2 g hg).2 e), h.ne, h.nA, h.lo⟩
theorem SoS.hand {s1 : SS} {e : Ev} {v : Ending} (h : SoS w W A p s D V m n bd bs vl l) (hr : HandPost W A p s (takeS s e) v W1) (he : takeS s e = some s1) : v = .returned (.bool true) ∧ Keep A W W1 ∧ ∃ A1, SoS w W1 A1 p s1 D V m n bd bs vl l := by
  obtain ⟨h1, A1, h2, h3, h4⟩ := h.ks.hand hr he
  refine ⟨h1, h3, A1, h2, h.dr.keep h3 (fun x => (h.nA _ x).1 rfl), h.sr.keep h3 (fun x => (h.nA _ x).2.1 rfl), row_ownkeep h.row h3 (fun g hg hA => (h.nA g hA).2.2 hg), h.ne, fun b hb => ?_, h.lo⟩
  rcases h4 b hb with h5 | h5
  · exact h.nA b h5
  · have l1 := h.dr.lt
    have l2 := h.sr.lt
    refine ⟨by omega, by omega, fun e => ?_⟩
    have := (row_lt h.row e).1
    omega
theorem tab_lt {m n t o : Nat} (ht : t < m) (ho : o < n) : t * n + o < m * n := by
  have h1 : (t + 1) * n ≤ m * n := Nat.mul_le_mul_right n ht
  rw [Nat.add_mul, Nat.one_mul] at h1
  omega
theorem SoS.dAt (h : SoS w W A p s D V m n bd bs vl l) {t o : Nat} (ht : t < m) (ho : o < n) : W.cell? ⟨bd, t * n + o, none⟩ = some (.int .i64 (D t o)) := by
  have := h.dr.cell _ _ (tabA_at (tabF n D) (tab_lt ht ho))
  rw [tabF_at D ho] at this
  exact this
theorem SoS.vAt (h : SoS w W A p s D V m n bd bs vl l) {t o : Nat} (ht : t < m) (ho : o < n) : W.cell? ⟨bs, t * n + o, none⟩ = some (.int .i64 (V t o)) := by
  have := h.sr.cell _ _ (tabA_at (tabF n V) (tab_lt ht ho))
  rw [tabF_at V ho] at this
  exact this
/-- the shape of the events' row -/
theorem SoS.form (h : SoS w W A p s D V m n bd bs vl l) : ∃ a c, vl = .slice a l.length c ∧ ∀ (i : Nat) e, l[i]? = some e → ∃ g, a = some ⟨g, 0, none⟩ := by
  rcases h.row.2 with ⟨hv, h0⟩ | ⟨g, c, cur, hv, _⟩
  · refine ⟨none, 0, by rw [hv, h0], fun i e he => ?_⟩
    have := (List.getElem?_eq_some_iff.1 he).1
    omega
  · exact ⟨some ⟨g, 0, none⟩, c, hv, fun _ _ _ => ⟨g, rfl⟩⟩
theorem SoS.evAt {g c k : Nat} (h : SoS w W A p s D V m n bd bs (.slice (some ⟨g, 0, none⟩) k c) l) {i : Nat} {e : Ev} (he : l[i]? = some e) : ∀ j v, (evL e)[j]? = some v → W.cell? ((⟨g, i * 8, none⟩ : Addr).add j) = some v := fun j v hj => by
  have := h.row.cells (g := g) rfl (i * 8 + j) v (flat8 l i e he j v hj)
  rw [Go.WideShapes.add_plain] at this ⊢
  rw [← this]
  congr 2
  omega
/-- .. and the count of who waits -/
structure SoW (w W : World) (A : Nat → Prop) (p : Pl) (s : SS) (D V : Tab) (m n bd bs : Nat) (vl : Value) (l : List Ev) (bw : Nat) (g : Nat → Int) : Prop where
  so : SoS w W A p s D V m n bd bs vl l
  wt : Blk W bw 3 (tabA m g)
  nb : ¬ A bw ∧ bw ≠ bd ∧ bw ≠ bs ∧ vl.ownBlock ≠ some bw ∧ w.heap.size ≤ bw
theorem SoS.waits (h : SoS w W A p s D V m n bd bs vl l) (g : Nat → Int) : SoW w (W.alloc (.cells (tabA m g) 3)) A p s D V m n bd bs vl l W.heap.size g := by
  refine ⟨h.below ((Below.refl _ _).alloc (Nat.le_refl _) _), Blk.new _ _ _, fun hA => Nat.lt_irrefl _ (h.ks.sp.lt _ hA), fun e => ?_, fun e => ?_, fun e => ?_, h.ks.bl.size⟩
  · have := h.dr.lt; omega
  · have := h.sr.lt; omega
  · have := (row_lt h.row e).1; omega
theorem SoW.below {bw : Nat} {g : Nat → Int} (h : SoW w W A p s D V m n bd bs vl l bw g) (hb : Below W.heap.size W W1) : SoW w W1 A p s D V m n bd bs vl l bw g := ⟨h.so.below hb, h.wt.below hb h.wt.lt, h.nb⟩
theorem SoW.step {bw : Nat} {g : Nat → Int} (h : SoW w W A p s D V m n bd bs vl l bw g) (t : Nat) (x : Int) : SoW w (W.setCell ⟨bw, t, none⟩ (.int .i64 x)) A p s D V m n bd bs vl l bw (fun u => if u = t then x else g u) := by
  obtain ⟨n1, n2, n3, n4, n5⟩ := h.nb
  have hs := h.wt.set t (.int .i64 x)
  rw [tabA_set] at hs
  exact ⟨h.so.far n1 n2 n3 n4 n5 _ _, hs, n1, n2, n3, n4, n5⟩
theorem SoW.wAt {bw : Nat} {g : Nat → Int} (h : SoW w W A p s D V m n bd bs vl l bw g) {t : Nat} (ht : t < m) : W.cell? ⟨bw, t, none⟩ = some (.int .i64 (g t)) := h.wt.cell _ _ (tabA_at g ht)
end
theorem idx_tab (B len c t : Nat) (k : Int) (hk : k = (t : Int)) (h : t < len) : ∀ W, (Instr.indexAt 30 (.slice (some ⟨B, 0, none⟩) len c) (.int .i64 k)).run Try.prog W = .ok (.pointer (some ⟨B, t, none⟩)) W := by
  subst hk
  exact idx_rints B len c t h
end Go.Proofs.Ytcgljmeppmdihaa
