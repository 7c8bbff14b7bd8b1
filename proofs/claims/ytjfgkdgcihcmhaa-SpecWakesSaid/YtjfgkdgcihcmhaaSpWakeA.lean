/- SpecWakes: what a walk of the law holds: an automaton, two arrays, two rows of counts, an order. -/
import Derived.Test.YtjfgkdgcihcmhaaSpWakeSpec
import Derived.Test.YtjfgkdgcihcmhaaSpX
namespace Go.Proofs.Ytjfgkdgcihcmhaa
open Go.ChangeShapes Go.WideShapes Go.ChangeAt Go.RowKit
set_option linter.unusedVariables false
set_option maxRecDepth 100000
set_option linter.unusedSimpArgs false
def rngA (n : Nat) (g : Nat → Int) : Array Value := ((List.range n).map fun t => Value.int .i64 (g t)).toArray
def gup (g : Nat → Int) (t : Nat) (x : Int) : Nat → Int := fun u => if u = t then x else g u
theorem gup_self (g : Nat → Int) (t : Nat) (x : Int) : gup g t x t = x := if_pos rfl
theorem gup_ne {g : Nat → Int} {t u : Nat} (x : Int) (h : u ≠ t) : gup g t x u = g u := if_neg h
theorem upd_ne {f : Nat → Th} {t u : Nat} (x : Th) (h : u ≠ t) : upd f t x u = f u := if_neg h
theorem rng_at {n t : Nat} (g : Nat → Int) (h : t < n) : (rngA n g)[t]? = some (.int .i64 (g t)) := by
  unfold rngA
  rw [List.getElem?_toArray, List.getElem?_map, List.getElem?_range h]
  rfl
theorem rng_set (n t : Nat) (g : Nat → Int) (x : Int) : (rngA n g).setIfInBounds t (.int .i64 x) = rngA n (gup g t x) := by
  unfold rngA
  rw [List.setIfInBounds_toArray]
  congr 1
  apply List.ext_getElem?
  intro i
  rw [List.getElem?_set]
  by_cases hi : i < n
  · rw [List.getElem?_map, List.getElem?_map, List.getElem?_range hi]
    by_cases e : t = i
    · subst e; simp [gup, hi]
    · rw [if_neg e]; simp [gup, show ¬ i = t from fun k => e k.symm]
  · rw [List.getElem?_eq_none (by simp; omega), List.getElem?_eq_none (by simp; omega)]
    split
    · split
      · rename_i h1 h2; simp at h2; omega
      · rfl
    · rfl
theorem make_n (n : Nat) (h0 : 0 < n) (h1 : n ≤ 100) (w : World) : (Instr.makeSlice 30 (.int .i64 (n : Int)) (.int .i64 (n : Int))).run Try.prog w = .ok (.slice (some ⟨w.heap.size, 0, none⟩) n n) (w.alloc (.cells (rngA n fun _ => 0) 3)) := by
  obtain ⟨i, hi, hz0, hz1, hz2⟩ := info_parts int_info
  have h := run_make (P := Try.prog) w 30 3 i _ Try.underlying30 hi hz0 .i64 .i64 n n (by omega) (by omega) (by rw [hz2]; omega) (by omega)
  have e : madeCells #[Value.int .i64 0] n = rngA n (fun _ => 0) := by
    rw [← Array.toList_inj, toList_madeCells_one]
    unfold rngA
    rw [List.map_const', List.length_range]
  rw [h, hz1, Nat.mul_one]
  simp only [← e]
  first | rfl | simp
structure WK (w W : World) (A : Nat → Prop) (p : Pl) (s : SS) (ba da : Array Value) (u c : Nat) (gu gc : Nat → Int) (vo : Value) (ord : List Int) : Prop where
  ks : KS w W A p s
  ba : Blk W w.heap.size 43 ba
  da : Blk W (w.heap.size + 1) 43 da
  us : Blk W u 3 (rngA 6 gu)
  cs : Blk W c 3 (rngA 7 gc)
  own : W.ownsRow w.heap.size 3 1 vo ord.length (iL ord)
  nA : ∀ b, A b → w.heap.size + 2 ≤ b ∧ b ≠ u ∧ b ≠ c ∧ vo.ownBlock ≠ some b
  nO : ∀ b, vo.ownBlock = some b → w.heap.size + 2 ≤ b ∧ b ≠ u ∧ b ≠ c
  lo : w.heap.size + 2 ≤ u ∧ w.heap.size + 2 ≤ c ∧ u ≠ c
section
variable {w W W1 : World} {A A1 : Nat → Prop} {p : Pl} {s s1 : SS} {ba da : Array Value} {u c : Nat} {gu gc : Nat → Int} {vo : Value} {ord : List Int}
theorem WK.step (h : WK w W A p s ba da u c gu gc vo ord) (k1 : KS w W1 A1 p s1) (hk : Keep A W W1) (ha : ∀ k, A1 k → A k ∨ W.heap.size ≤ k) : WK w W1 A1 p s1 ba da u c gu gc vo ord := by
  refine ⟨k1, h.ba.keep hk (fun x => ?_), h.da.keep hk (fun x => ?_), h.us.keep hk (fun x => (h.nA _ x).2.1 rfl), h.cs.keep hk (fun x => (h.nA _ x).2.2.1 rfl), row_ownkeep h.own hk (fun g hg hA => (h.nA g hA).2.2.2 hg), fun b hb => ?_, h.nO, h.lo⟩
  · have := (h.nA _ x).1; omega
  · have := (h.nA _ x).1; omega
  · rcases ha b hb with h1 | h1
    · exact h.nA b h1
    · have l1 := h.us.lt
      have l2 := h.cs.lt
      have l3 := h.da.lt
      refine ⟨by omega, by omega, by omega, fun e => ?_⟩
      have := (row_lt h.own e).1
      omega
theorem WK.run {b : Bool} {l : List Ev} {v : Ending} (h : WK w W A p s ba da u c gu gc vo ord) (hr : RunPost W A p (takesS s l) v W1) (he : takesS s l = (s1, b)) : v = .returned (.bool b) ∧ ∃ A1, WK w W1 A1 p s1 ba da u c gu gc vo ord := by
  obtain ⟨h1, A1, h2, h3, h4⟩ := h.ks.run hr he
  exact ⟨h1, A1, h.step h2 h3 h4⟩
theorem WK.hand {r : Option SS} {e : Ev} {v : Ending} (h : WK w W A p s ba da u c gu gc vo ord) (hr : HandPost W A p s (takeS s e) v W1) (he : takeS s e = r) : v = .returned (.bool r.isSome) ∧ ∃ A1, WK w W1 A1 p (r.getD s) ba da u c gu gc vo ord := by
  obtain ⟨h1, A1, h2, h3, h4⟩ := h.ks.hand hr he
  exact ⟨h1, A1, h.step h2 h3 h4⟩
theorem WK.keepF (h : WK w W A p s ba da u c gu gc vo ord) (hk : Keep (fun _ => False) W W1) : WK w W1 A p s ba da u c gu gc vo ord :=
  ⟨h.ks.other (C := fun _ => False) hk (fun _ _ h => h) (fun _ h => h.elim), h.ba.keep hk (fun h => h), h.da.keep hk (fun h => h), h.us.keep hk (fun h => h), h.cs.keep hk (fun h => h), row_ownkeep h.own hk (fun _ _ h => h), h.nA, h.nO, h.lo⟩
theorem WK.below (h : WK w W A p s ba da u c gu gc vo ord) (hb : Below W.heap.size W W1) : WK w W1 A p s ba da u c gu gc vo ord := h.keepF (Keep.ofBelow hb)
theorem WK.alloc (h : WK w W A p s ba da u c gu gc vo ord) (o : Obj) : WK w (W.alloc o) A p s ba da u c gu gc vo ord := h.below ((Below.refl _ _).alloc (Nat.le_refl _) o)
theorem WK.drewN (h : WK w W A p s ba da u c gu gc vo ord) (n : Nat) : WK w (W.drewN n) A p s ba da u c gu gc vo ord := h.keepF ((Keep.refl _ W).drewN n)
theorem WK.drew (h : WK w W A p s ba da u c gu gc vo ord) : WK w W.drew A p s ba da u c gu gc vo ord := h.keepF ((Keep.refl _ W).drew)
theorem WK.uAt (h : WK w W A p s ba da u c gu gc vo ord) {t : Nat} (ht : t < 6) : W.cell? ⟨u, t, none⟩ = some (.int .i64 (gu t)) := h.us.cell _ _ (rng_at _ ht)
theorem WK.cAt (h : WK w W A p s ba da u c gu gc vo ord) {t : Nat} (ht : t < 7) : W.cell? ⟨c, t, none⟩ = some (.int .i64 (gc t)) := h.cs.cell _ _ (rng_at _ ht)
theorem WK.setU (h : WK w W A p s ba da u c gu gc vo ord) (t : Nat) (x : Int) : WK w (W.setCell ⟨u, t, none⟩ (.int .i64 x)) A p s ba da u c (gup gu t x) gc vo ord := by
  have hk : Keep (fun b => b = u) W (W.setCell ⟨u, t, none⟩ (.int .i64 x)) := (Keep.refl (fun b => b = u) W).set (p := ⟨u, t, none⟩) (fun _ => rfl) _
  have hl := h.lo
  have hs := h.us.set t (.int .i64 x)
  rw [rng_set] at hs
  exact ⟨h.ks.other hk (fun k hA e => (h.nA k hA).2.1 e) (fun k e => by omega), h.ba.keep hk (by omega), h.da.keep hk (by omega), hs, h.cs.keep hk (by omega), row_ownkeep h.own hk (fun g hg e => (h.nO g hg).2.1 e), h.nA, h.nO, h.lo⟩
theorem WK.setC (h : WK w W A p s ba da u c gu gc vo ord) (t : Nat) (x : Int) : WK w (W.setCell ⟨c, t, none⟩ (.int .i64 x)) A p s ba da u c gu (gup gc t x) vo ord := by
  have hk : Keep (fun b => b = c) W (W.setCell ⟨c, t, none⟩ (.int .i64 x)) := (Keep.refl (fun b => b = c) W).set (p := ⟨c, t, none⟩) (fun _ => rfl) _
  have hl := h.lo
  have hs := h.cs.set t (.int .i64 x)
  rw [rng_set] at hs
  exact ⟨h.ks.other hk (fun k hA e => (h.nA k hA).2.2.1 e) (fun k e => by omega), h.ba.keep hk (by omega), h.da.keep hk (by omega), h.us.keep hk (by omega), hs, row_ownkeep h.own hk (fun g hg e => (h.nO g hg).2.2 e), h.nA, h.nO, h.lo⟩
theorem WK.snoc {x : Int} {g cap : Nat} {o : Obj} (h : WK w W A p s ba da u c gu gc vo ord) (ho : W1.ownsRow w.heap.size 3 1 (.slice (some ⟨g, 0, none⟩) (ord.length + 1) cap) (ord.length + 1) (iL ord ++ [.int .i64 x]))
    (hgr : (W.alloc o).grownBy W1 vo.ownBlock) (hg : vo.ownBlock = some g ∨ (W.alloc o).heap.size ≤ g) : WK w W1 A p s ba da u c gu gc (.slice (some ⟨g, 0, none⟩) (ord.length + 1) cap) (ord ++ [x]) := by
  have hk := grown_keep hgr
  have l1 := h.us.lt
  have l2 := h.cs.lt
  have l3 := h.da.lt
  have hs : W.heap.size ≤ (W.alloc o).heap.size := by rw [World.size_alloc]; omega
  refine ⟨h.ks.other hk (fun k hA e => (h.nA k hA).2.2.2 e) (fun k e => by have := (h.nO k e).1; omega), h.ba.keep hk (fun e => by have := (h.nO _ e).1; omega), h.da.keep hk (fun e => by have := (h.nO _ e).1; omega), h.us.keep hk (fun e => (h.nO _ e).2.1 rfl), h.cs.keep hk (fun e => (h.nO _ e).2.2 rfl), by simpa [iL] using ho, fun b hb => ?_, fun b hb => ?_, h.lo⟩
  · obtain ⟨a1, a2, a3, a4⟩ := h.nA b hb
    refine ⟨a1, a2, a3, fun e => ?_⟩
    obtain rfl := own_some e
    rcases hg with hg | hg
    · exact a4 hg
    · have := h.ks.sp.lt _ hb
      omega
  · obtain rfl := own_some hb
    rcases hg with hg | hg
    · exact h.nO _ hg
    · exact ⟨by omega, by omega, by omega⟩
theorem WK.form (h : WK w W A p s ba da u c gu gc vo ord) : ∃ a k, vo = .slice a ord.length k ∧ ∀ (i : Nat) x, ord[i]? = some x → ∃ g, a = some ⟨g, 0, none⟩ := by
  obtain ⟨a, k, e, hc⟩ := lineR (A := fun _ => True) h.own (fun _ _ => trivial)
  exact ⟨a, k, e, fun i x hx => by obtain ⟨g, e, _⟩ := hc i x hx; exact ⟨g, e⟩⟩
theorem WK.oAt {g n k : Nat} (h : WK w W A p s ba da u c gu gc (.slice (some ⟨g, 0, none⟩) n k) ord) {i : Nat} {x : Int} (hx : ord[i]? = some x) : W.cell? ⟨g, i, none⟩ = some (.int .i64 x) := by
  obtain ⟨a, k', e, hc⟩ := lineR (A := fun _ => True) h.own (fun _ _ => trivial)
  obtain ⟨g', e2, _, hcell⟩ := hc i x hx
  have e3 := (Value.slice.inj e).1
  rw [e2] at e3
  have e4 : g = g' := by simpa using e3
  rw [e4]
  exact hcell
end
/-- the order so far: who is in it waits, the others are idle -/
structure Wt (D : Nat → Nat) (ord : List Int) (f : Nat → Th) (gu gc : Nat → Int) : Prop where
  nod : ord.Nodup
  low : ∀ x ∈ ord, 0 ≤ x ∧ x < 6
  inn : ∀ t : Nat, (t : Int) ∈ ord → f t = waitT (1 + (D t : Int)) (1 + (D t : Int)) ∧ gc t = 1 + (D t : Int) ∧ gu t = 1
  out : ∀ t : Nat, t < 7 → (t : Int) ∉ ord → f t = idle 0 ∧ gc t = 0 ∧ gu t = 0
theorem Wt.nil (D : Nat → Nat) : Wt D [] (fun _ => idle 0) (fun _ => 0) (fun _ => 0) := ⟨by simp, by simp, by simp, fun _ _ _ => ⟨rfl, rfl, rfl⟩⟩
theorem Wt.add {D : Nat → Nat} {ord : List Int} {f f1 : Nat → Th} {gu gc gc1 : Nat → Int} (h : Wt D ord f gu gc) {t : Nat} (ht : t < 6) (hn : (t : Int) ∉ ord) (h1 : ∀ u, u ≠ t → f1 u = f u ∧ gc1 u = gc u) (h2 : gc1 t = 1 + (D t : Int)) :
    Wt D (ord ++ [(t : Int)]) (upd f1 t (waitT (1 + (D t : Int)) (1 + (D t : Int)))) (gup gu t 1) gc1 := by
  refine ⟨?_, fun x hx => ?_, fun u hu => ?_, fun u hu hnu => ?_⟩
  · rw [List.nodup_append]
    refine ⟨h.nod, by simp, fun a ha b hb => ?_⟩
    simp at hb
    subst hb
    rintro rfl
    exact hn ha
  · rcases List.mem_append.1 hx with hx | hx
    · exact h.low x hx
    · simp at hx; omega
  · by_cases e : u = t
    · subst e
      exact ⟨upd_self _ _ _, h2, gup_self _ _ _⟩
    · rw [upd_ne _ e, gup_ne _ e, (h1 u e).1, (h1 u e).2]
      refine h.inn u ?_
      rcases List.mem_append.1 hu with hu | hu
      · exact hu
      · simp at hu; omega
  · have e : u ≠ t := by rintro rfl; simp at hnu
    rw [upd_ne _ e, gup_ne _ e, (h1 u e).1, (h1 u e).2]
    exact h.out u hu (fun k => hnu (by simp [k]))
theorem six_below : ∀ (n : Nat) (l : List Int), (∀ f : Nat, f < n → (f : Int) ∈ l) → n ≤ l.length := by
  intro n
  induction n with
  | zero => intro l _; omega
  | succ n ih =>
    intro l h
    have h1 := h n (by omega)
    have h2 := ih (l.erase (n : Int)) (fun f hf => by
      have := h f (by omega)
      exact (List.mem_erase_of_ne (by omega)).2 this)
    rw [List.length_erase_of_mem h1] at h2
    have : 0 < l.length := List.length_pos_of_mem h1
    omega
theorem free6 (l : List Int) (h : l.length < 6) : ∃ f : Nat, f < 6 ∧ (f : Int) ∉ l := by
  by_cases hc : ∃ f : Nat, f < 6 ∧ (f : Int) ∉ l
  · exact hc
  · have := six_below 6 l (fun f hf => by
      by_cases hm : (f : Int) ∈ l
      · exact hm
      · exact absurd ⟨f, hf, hm⟩ hc)
    omega
theorem way6 (f t : Nat) (hf : f < 6) (ht : t < 6) (h : t ≠ f) : (f + 6 - (t + 1) % 6) % 6 < (f + 6 - t) % 6 := by omega
end Go.Proofs.Ytjfgkdgcihcmhaa
