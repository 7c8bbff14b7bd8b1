/- Blocks of known cells: made, kept, set, read. A block whose cells are known whole is what wpList_load_row, wpList_store_row and results_cell_row ask for. No program is named here. -/
import Derived.WalkKit
import Derived.ProofKit
import Derived.OpenShut
import Derived.Handy
import Derived.Below
import Derived.Deep.QuietTactic
import Derived.BigQuiet
import Derived.Deep.RegionHeld3
import Derived.Laws.Rows
import Derived.Laws.CopyOwn
import Derived.Deep.WholeRow
import Derived.Deep.RegionHeld
import Derived.Laws.OwnMore
import Derived.OwnWalk
import Derived.Test.YtldofbkjjmnooaaGreatProg
import Derived.StillTailTactics
import Derived.Deep.CutBlock
import Derived.BigGuardPart
import Derived.WalkSpells
import Derived.Lib.Hide
namespace Go.Proofs.YtldofbkjjmnooaaGreat
open Go.ChangeShapes Go.WideShapes Go.ChangeAt Go.RowKit
set_option linter.unusedVariables false
/-- block B has just these cells, and may be written -/
def Blk (w : World) (B : Nat) (t : TypeId) (cs : Array Value) : Prop := w.heap[B]? = some (.cells cs t (0, 0))
theorem Blk.new (w : World) (t : TypeId) (cs : Array Value) : Blk (w.alloc (.cells cs t)) w.heap.size t cs := by
  show (w.heap.push _)[w.heap.size]? = some _
  simp
theorem Blk.lt {w : World} {B : Nat} {t : TypeId} {cs : Array Value} (h : Blk w B t cs) : B < w.heap.size := (Array.getElem?_eq_some_iff.1 h).1
theorem Blk.below {w w1 : World} {B n : Nat} {t : TypeId} {cs : Array Value} (h : Blk w B t cs) (hb : Below n w w1) (hn : B < n) : Blk w1 B t cs := (hb.block B hn).trans h
theorem Blk.drew {w : World} {B : Nat} {t : TypeId} {cs : Array Value} (h : Blk w B t cs) : Blk w.drew B t cs := h
theorem Blk.alloc {w : World} {B : Nat} {t : TypeId} {cs : Array Value} (h : Blk w B t cs) (o : Obj) : Blk (w.alloc o) B t cs := (Below.heap_alloc w o B h.lt).trans h
theorem Blk.set {w : World} {B : Nat} {t : TypeId} {cs : Array Value} (h : Blk w B t cs) (i : Nat) (v : Value) : Blk (w.setCell ⟨B, i, none⟩ v) B t (cs.setIfInBounds i v) := by
  rw [setCell_eq_setRow w B i cs t (0, 0) v h]
  exact setRow_heap w B cs _ t (0, 0) h
theorem Blk.far {w : World} {B C : Nat} {t : TypeId} {cs : Array Value} (h : Blk w B t cs) (hne : B ≠ C) (i : Nat) (v : Value) : Blk (w.setCell ⟨C, i, none⟩ v) B t cs := (Below.heap_setCell w ⟨C, i, none⟩ v B hne).trans h
theorem Blk.row {w : World} {B : Nat} {t : TypeId} {cs : Array Value} (h : Blk w B t cs) (cs' : Array Value) : Blk (w.setRow B cs') B t cs' := setRow_heap w B cs cs' t (0, 0) h
theorem Blk.rowFar {w : World} {B C : Nat} {t : TypeId} {cs : Array Value} (h : Blk w B t cs) (hne : B ≠ C) (cs' : Array Value) : Blk (w.setRow C cs') B t cs := (setRow_other w C B cs' hne).trans h
theorem Blk.cell {w : World} {B : Nat} {t : TypeId} {cs : Array Value} (h : Blk w B t cs) (i : Nat) (v : Value) (hv : cs[i]? = some v) : w.cell? ⟨B, i, none⟩ = some v := by
  unfold World.cell?
  rw [show w.heap[B]? = _ from h]
  exact hv
theorem Blk.free {w : World} {B : Nat} {t : TypeId} {cs : Array Value} (h : Blk w B t cs) (i : Nat) : w.frozen? ⟨B, i, none⟩ = false := by
  unfold World.frozen?
  rw [show w.heap[B]? = _ from h]
  simp
theorem bdrewN {B : Nat} {a w : World} (h : Below B a w) (n : Nat) : Below B a (w.drewN n) := h.trans ⟨rfl, rfl, rfl, Nat.le_refl _, fun _ _ => rfl⟩
theorem Blk.drewN {w : World} {B : Nat} {t : TypeId} {cs : Array Value} (h : Blk w B t cs) (n : Nat) : Blk (w.drewN n) B t cs := h
theorem blk_two (w : World) (o : Obj) (t : TypeId) (cs : Array Value) : Blk ((w.alloc o).alloc (.cells cs t)) (w.heap.size + 1) t cs := by
  have := Blk.new (w.alloc o) t cs
  rwa [World.size_alloc] at this
theorem take_at {α : Type} {L : List α} {k : Nat} {y : α} (h : L[k]? = some y) : L.take (k + 1) = L.take k ++ [y] := by
  rw [List.take_add_one, h]; rfl
end Go.Proofs.YtldofbkjjmnooaaGreat
/- A frame: all blocks stand but those of which Q is said. No program is named here. -/
namespace Go.Proofs.YtldofbkjjmnooaaGreat
open Go.ChangeShapes Go.WideShapes Go.ChangeAt Go.RowKit
set_option linter.unusedVariables false
/-- all blocks that were there are as they were, but those of which Q is said -/
structure Keep (Q : Nat → Prop) (w w' : World) : Prop where
  os : w'.os = w.os
  tape : w'.tape = w.tape
  output : w'.output = w.output
  size : w.heap.size ≤ w'.heap.size
  block : ∀ k, k < w.heap.size → ¬ Q k → w'.heap[k]? = w.heap[k]?
theorem Keep.refl (Q : Nat → Prop) (w : World) : Keep Q w w := ⟨rfl, rfl, rfl, Nat.le_refl _, fun _ _ _ => rfl⟩
theorem Keep.step {Q Q' : Nat → Prop} {a b c : World} (h : Keep Q a b) (k : Keep Q' b c) (hq : ∀ i, i < a.heap.size → Q' i → Q i) : Keep Q a c :=
  ⟨k.os.trans h.os, k.tape.trans h.tape, k.output.trans h.output, Nat.le_trans h.size k.size, fun i hi hn => (k.block i (Nat.lt_of_lt_of_le hi h.size) (fun hc => hn (hq i hi hc))).trans (h.block i hi hn)⟩
theorem Keep.trans {Q : Nat → Prop} {a b c : World} (h : Keep Q a b) (k : Keep Q b c) : Keep Q a c := h.step k (fun _ _ h => h)
theorem Keep.mono {Q Q' : Nat → Prop} {a b : World} (h : Keep Q a b) (hq : ∀ i, i < a.heap.size → Q i → Q' i) : Keep Q' a b :=
  ⟨h.os, h.tape, h.output, h.size, fun i hi hn => h.block i hi (fun hc => hn (hq i hi hc))⟩
theorem Keep.ofBelow {Q : Nat → Prop} {a b : World} (h : Below a.heap.size a b) : Keep Q a b := ⟨h.os, h.tape, h.output, h.size, fun i hi _ => h.block i hi⟩
theorem Keep.below {Q : Nat → Prop} {a b : World} {n : Nat} (h : Keep Q a b) (hn : n ≤ a.heap.size) (hq : ∀ i, i < a.heap.size → Q i → n ≤ i) : Below n a b :=
  ⟨h.os, h.tape, h.output, h.size, fun i hi => h.block i (by omega) (fun hc => by have := hq i (by omega) hc; omega)⟩
theorem Keep.alloc {Q : Nat → Prop} {a b : World} (h : Keep Q a b) (o : Obj) : Keep Q a (b.alloc o) :=
  h.step (Keep.ofBelow (Q := Q) ((Below.refl _ b).alloc (Nat.le_refl _) o)) (fun _ _ h => h)
theorem Keep.set {Q : Nat → Prop} {a b : World} (h : Keep Q a b) {p : Addr} (hp : p.block < a.heap.size → Q p.block) (v : Value) : Keep Q a (b.setCell p v) :=
  h.step (Q' := fun i => i = p.block) ⟨rfl, rfl, rfl, by simp [World.setCell], fun k _ hk => Below.heap_setCell b p v k hk⟩ (fun i hi e => e ▸ hp (e ▸ hi))
theorem Keep.drew {Q : Nat → Prop} {a b : World} (h : Keep Q a b) : Keep Q a b.drew := ⟨h.os, h.tape, h.output, h.size, h.block⟩
theorem Keep.drewN {Q : Nat → Prop} {a b : World} (h : Keep Q a b) (n : Nat) : Keep Q a (b.drewN n) := ⟨h.os, h.tape, h.output, h.size, h.block⟩
theorem Blk.keep {w w1 : World} {B : Nat} {t : TypeId} {cs : Array Value} {Q : Nat → Prop} (h : Blk w B t cs) (hk : Keep Q w w1) (hn : ¬ Q B) : Blk w1 B t cs := (hk.block B h.lt hn).trans h
theorem Blk.lt_keep {w w1 : World} {B : Nat} {t : TypeId} {cs : Array Value} {Q : Nat → Prop} (h : Blk w B t cs) (hk : Keep Q w w1) : B < w1.heap.size := Nat.lt_of_lt_of_le h.lt hk.size
end Go.Proofs.YtldofbkjjmnooaaGreat
/- append to a slice of the call's own: in place, or into a block that is new. No program is named here. -/
namespace Go.Proofs.YtldofbkjjmnooaaGreat
open Go.ChangeShapes Go.WideShapes Go.ChangeAt Go.RowKit
set_option linter.unusedVariables false
theorem run_append_own2 {P : Program} (w : World) (base : Nat) (t ty e : TypeId) (i : TypeInfo) (z : Value) (size bytes : Nat) (ht : P.underlying t = some (.slice e)) (hi : P.info? e = some i) (hz : i.zero = some z)
    (hsize : i.size = size) (hby : i.bytes = bytes) (hzs : z.cells.size = size) (hsz : 0 < size)
    (v : Value) (n : Nat) (xs : List Value) (hown : w.ownsRow base e size v n xs)
    (a : Addr) (m c : Nat) (news : List Value) (hl : news.length = m * size) (hnews : ∀ j u, news[j]? = some u → w.cell? (a.add j) = some u) (h1 : ∀ u ∈ news, u.oneCell' = true)
    (h63 : n + m ≤ maxLen) (hbytes : (n + m) * bytes ≤ 140737488355328) (hbase : base ≤ w.heap.size) (hm : 0 < m) :
    ∃ v' w', (Builtin.append_ #[t, t] ty #[v, .slice (some a) m c]).run P w = .ok v' w' ∧ w'.ownsRow base e size v' (n + m) (xs ++ news) ∧ w.grownBy w' v.ownBlock ∧
      ∃ g cap, v' = .slice (some ⟨g, 0, none⟩) (n + m) cap ∧ (v.ownBlock = some g ∨ w.heap.size ≤ g) := by
  obtain ⟨v', w', hr, h2, h3, _⟩ := run_append_own (P := P) w base t ty e i z size bytes ht hi hz hsize hby hzs hsz v n xs hown a m c news hl hnews h1 h63 hbytes hbase
  have hs : ∃ g cap, v' = .slice (some ⟨g, 0, none⟩) (n + m) cap := by
    rcases h2.2 with ⟨_, h0⟩ | ⟨g, cap, cur, hv, _⟩
    · omega
    · exact ⟨g, cap, hv⟩
  obtain ⟨g, cap, hg⟩ := hs
  refine ⟨v', w', hr, h2, h3, g, cap, hg, ?_⟩
  rcases hown.2 with ⟨rfl, rfl⟩ | ⟨g0, cap0, cur, rfl, _, hh, hnc, hcm, _⟩
  · have hx : xs = [] := List.eq_nil_of_length_eq_zero (by simpa using hown.1)
    subst hx
    obtain ⟨v2, w2, hr2, h22, _⟩ := run_append_own (P := P) w w.heap.size t ty e i z size bytes ht hi hz hsize hby hzs hsz (.slice none 0 0) 0 [] (World.ownsRow_nil w _ e size) a m c news hl hnews h1 h63 hbytes (Nat.le_refl _)
    rw [hr] at hr2
    obtain ⟨rfl, rfl⟩ : v' = v2 ∧ w' = w2 := by simpa using hr2
    rcases h22.2 with ⟨_, h0⟩ | ⟨g2, cap2, cur2, hv2, hb2, _⟩
    · omega
    · rw [hg] at hv2
      simp at hv2
      right; omega
  · by_cases hroom : n + m ≤ cap0
    · obtain ⟨w2, hr2, _⟩ := run_append_fits (P := P) w base t ty e i size ht hi hsize g0 n cap0 xs hown a m c news hl hnews h1 hroom
      rw [hr, hg] at hr2
      simp at hr2
      left
      simp [Value.ownBlock, hr2.1.1]
    · subst hsize
      subst hby
      have hsmall : n + m ≤ 9223372036854775807 := by simp only [maxLen] at h63; omega
      have holds : ∀ j u, xs[j]? = some u → w.cell? ((⟨g0, 0, none⟩ : Addr).add j) = some u := hown.cells (g := g0) rfl
      have hr2 := run_append_grow (P := P) w t ty e i z ht hi hz ⟨g0, 0, none⟩ n cap0 xs hown.1 holds a m c news hl hnews (by omega) (by omega) (growslice_fits (by omega) hbytes)
      rw [hr, hg] at hr2
      simp at hr2
      right
      omega
theorem wp_append_own2 {P : Program} (w : World) {o : Oper} {a : Act} {K : Act → World → Prop} {Q : Exit → Act → World → Prop} (s x : Operand) (t : TypeId)
    (ho : o.op = .call { callee := .builtin .append, args := #[s, x], argTypes := #[t, t] })
    (base : Nat) (e : TypeId) (i : TypeInfo) (z : Value) (size bytes : Nat) (ht : P.underlying t = some (.slice e)) (hi : P.info? e = some i) (hz : i.zero = some z)
    (hsize : i.size = size) (hby : i.bytes = bytes) (hzs : z.cells.size = size) (hsz : 0 < size)
    (v : Value) (n : Nat) (xs : List Value) (hs : a.eval s = v) (hown : w.ownsRow base e size v n xs)
    (ad : Addr) (m c : Nat) (news : List Value) (hx : a.eval x = .slice (some ad) m c) (hl : news.length = m * size) (hnews : ∀ j u, news[j]? = some u → w.cell? (ad.add j) = some u) (h1 : ∀ u ∈ news, u.oneCell' = true)
    (h63 : n + m ≤ maxLen) (hbytes : (n + m) * bytes ≤ 140737488355328) (hbase : base ≤ w.heap.size) (hm : 0 < m)
    (h : ∀ g cap w', w'.ownsRow base e size (.slice (some ⟨g, 0, none⟩) (n + m) cap) (n + m) (xs ++ news) → w.grownBy w' v.ownBlock → (v.ownBlock = some g ∨ w.heap.size ≤ g) → K (a.put o.dst (.slice (some ⟨g, 0, none⟩) (n + m) cap)) w') : o.wp P a w K Q := by
  obtain ⟨v', w', hr, h2, h3, g, cap, rfl, h4⟩ := run_append_own2 (P := P) w base t o.type e i z size bytes ht hi hz hsize hby hzs hsz v n xs hown ad m c news hl hnews h1 h63 hbytes hbase hm
  unfold Oper.wp execOp
  simp only [ho, resolve, invoke, builtin, Sem.run_bind, Sem.run_pure, Result.andThen_ok, List.map_toArray, List.map_cons, List.map_nil, hs, hx, hr]
  exact h g cap w' h2 h3 h4
theorem wpList_append_own2 {P : Program} (w : World) {ops : Array Oper} {rest : List Oper} {o : Oper} {a : Act} {Q : Exit → Act → World → Prop} (hgd : o.guard = none) (s x : Operand) (t : TypeId)
    (ho : o.op = .call { callee := .builtin .append, args := #[s, x], argTypes := #[t, t] })
    (base : Nat) (e : TypeId) (i : TypeInfo) (z : Value) (size bytes : Nat) (ht : P.underlying t = some (.slice e)) (hi : P.info? e = some i) (hz : i.zero = some z)
    (hsize : i.size = size) (hby : i.bytes = bytes) (hzs : z.cells.size = size) (hsz : 0 < size)
    (v : Value) (n : Nat) (xs : List Value) (hs : a.eval s = v) (hown : w.ownsRow base e size v n xs)
    (ad : Addr) (m c : Nat) (news : List Value) (hx : a.eval x = .slice (some ad) m c) (hl : news.length = m * size) (hnews : ∀ j u, news[j]? = some u → w.cell? (ad.add j) = some u) (h1 : ∀ u ∈ news, u.oneCell' = true)
    (h63 : n + m ≤ maxLen) (hbytes : (n + m) * bytes ≤ 140737488355328) (hbase : base ≤ w.heap.size) (hm : 0 < m)
    (h : ∀ g cap w', w'.ownsRow base e size (.slice (some ⟨g, 0, none⟩) (n + m) cap) (n + m) (xs ++ news) → w.grownBy w' v.ownBlock → (v.ownBlock = some g ∨ w.heap.size ≤ g) → wpList P ops Q rest (a.put o.dst (.slice (some ⟨g, 0, none⟩) (n + m) cap)) w') : wpList P ops Q (o :: rest) a w :=
  wpList_plain hgd fun _ hK => wp_append_own2 w s x t ho base e i z size bytes ht hi hz hsize hby hzs hsz v n xs hs hown ad m c news hx hl hnews h1 h63 hbytes hbase hm fun g cap w' h2 h3 h4 => hK _ _ (h g cap w' h2 h3 h4)
end Go.Proofs.YtldofbkjjmnooaaGreat
/- Rows of a call's own, blocks that are apart: what several texts want. No program is named here. -/
namespace Go.Proofs.YtldofbkjjmnooaaGreat
open Go.ChangeShapes Go.WideShapes Go.ChangeAt Go.RowKit
set_option linter.unusedVariables false
set_option linter.unusedSimpArgs false
theorem Blk.apart {w : World} {a b : Nat} {t u : TypeId} {xs ys : Array Value} (h1 : Blk w a t xs) (h2 : Blk w b u ys) (ht : t ≠ u) : a ≠ b := by
  rintro rfl
  have h3 : w.heap[a]? = some (.cells ys u (0, 0)) := h2
  rw [show w.heap[a]? = _ from h1] at h3
  have := Option.some.inj h3
  simp at this
  exact ht this.2
theorem ownsRow_keepQ {w w' : World} {B size n : Nat} {e : TypeId} {v : Value} {xs : List Value} {Q : Nat → Prop} (h : w.ownsRow B e size v n xs) (hk : Keep Q w w') (hQ : ∀ g, B ≤ g → ¬ Q g) : w'.ownsRow B e size v n xs := by
  refine ⟨h.1, ?_⟩
  rcases h.2 with h | ⟨g, cap, cur, hv, hg, hh, r⟩
  · exact .inl h
  · exact .inr ⟨g, cap, cur, hv, hg, (hk.block g (Array.getElem?_eq_some_iff.1 hh).1 (hQ g hg)).trans hh, r⟩
theorem row_slice {w : World} {B size n : Nat} {e : TypeId} {v : Value} {xs : List Value} (h : w.ownsRow B e size v n xs) (hn : 0 < n) : ∃ g cap, v = .slice (some ⟨g, 0, none⟩) n cap := by
  rcases h.2 with ⟨_, h0⟩ | ⟨g, cap, cur, hv, _⟩
  · omega
  · exact ⟨g, cap, hv⟩
theorem ownsRow_keep {w w' : World} {B size n : Nat} {e : TypeId} {v : Value} {xs : List Value} (h : w.ownsRow B e size v n xs) (hk : Keep (fun _ => False) w w') : w'.ownsRow B e size v n xs := by
  refine ⟨h.1, ?_⟩
  rcases h.2 with h | ⟨g, cap, cur, hv, hg, hh, r⟩
  · exact .inl h
  · exact .inr ⟨g, cap, cur, hv, hg, (hk.block g (Array.getElem?_eq_some_iff.1 hh).1 (fun h => h)).trans hh, r⟩
theorem cells4_new (w : World) (e : TypeId) (c0 c1 c2 c3 : Value) : ∀ (j : Nat) (u : Value), [c0, c1, c2, c3][j]? = some u → (w.alloc (.cells #[c0, c1, c2, c3] e)).cell? ((⟨w.heap.size, 0, none⟩ : Addr).add j) = some u := by
  intro j u hj
  have hb := Blk.new w e #[c0, c1, c2, c3]
  have := hb.cell j u (by simpa using hj)
  unfold Addr.add
  split
  · subst_vars; exact this
  · simpa using this
/-- what an append to a slice of the call's own leaves as it was -/
theorem grown_below {w w2 : World} {base : Nat} {e : TypeId} {n k : Nat} {v : Value} {xs : List Value} {o : Obj} (hg : (w.alloc o).grownBy w2 v.ownBlock) (hrow : w.ownsRow base e n v k xs) (hh : base ≤ w.heap.size) : Below base w w2 := by
  refine ((Below.refl base w).alloc hh o).grown hg (by simp; omega) fun j ej => ?_
  rcases hrow.2 with ⟨rfl, _⟩ | ⟨g, cap, cur, rfl, hb, _⟩
  · simp [Value.ownBlock] at ej
  · simp [Value.ownBlock] at ej
    omega
theorem tmod7 {A : Int} (h : A.tmod 8 = 7) : 0 ≤ A := by
  rcases Int.le_total 0 A with h0 | h0
  · exact h0
  · have h1 := Int.tmod_nonneg (a := -A) 8 (by omega)
    rw [Int.neg_tmod] at h1
    omega
theorem rem_small (K : Int) (m : Nat) (h0 : 0 < m) (hm : m ≤ 1000) : ∃ k : Nat, wrap64 ((IntKind.u64.wrap K).tmod (m : Int)) = k ∧ k < m := by
  have h1 : 0 ≤ IntKind.u64.wrap K := by rw [IntKind.wrap_u64]; omega
  have h2 : (IntKind.u64.wrap K).tmod (m : Int) = IntKind.u64.wrap K % (m : Int) := Int.tmod_eq_emod_of_nonneg h1
  have h3 : 0 ≤ IntKind.u64.wrap K % (m : Int) := Int.emod_nonneg _ (by omega)
  have h4 : IntKind.u64.wrap K % (m : Int) < m := Int.emod_lt_of_pos _ (by omega)
  obtain ⟨k, hk⟩ := Int.eq_ofNat_of_zero_le h3
  refine ⟨k, ?_, by omega⟩
  rw [h2, hk]
  exact IntWalk.wrap64_in _ ⟨by omega, by omega⟩
theorem own_some {g g' n c : Nat} (h : (Value.slice (some ⟨g, 0, none⟩) n c).ownBlock = some g') : g = g' := by simpa [Value.ownBlock] using h
theorem row_ownkeep {w w' : World} {B size n : Nat} {e : TypeId} {v : Value} {xs : List Value} {Q : Nat → Prop} (h : w.ownsRow B e size v n xs) (hk : Keep Q w w') (hQ : ∀ g, v.ownBlock = some g → ¬ Q g) : w'.ownsRow B e size v n xs := by
  refine ⟨h.1, ?_⟩
  rcases h.2 with h | ⟨g, cap, cur, hv, hg, hh, r⟩
  · exact .inl h
  · exact .inr ⟨g, cap, cur, hv, hg, (hk.block g (Array.getElem?_eq_some_iff.1 hh).1 (hQ g (by rw [hv]; rfl))).trans hh, r⟩
theorem row_lt {w : World} {B size n : Nat} {e : TypeId} {v : Value} {xs : List Value} (h : w.ownsRow B e size v n xs) {g : Nat} (hg : v.ownBlock = some g) : g < w.heap.size ∧ ∃ cur, Blk w g e cur := by
  rcases h.2 with ⟨hv, _⟩ | ⟨g', cap, cur, hv, _, hh, _⟩
  · rw [hv] at hg; simp [Value.ownBlock] at hg
  · rw [hv] at hg
    obtain rfl : g' = g := by simpa [Value.ownBlock] using hg
    exact ⟨(Array.getElem?_eq_some_iff.1 hh).1, cur, hh⟩
theorem rows_apart {w : World} {B B' n n' : Nat} {e e' : TypeId} {v v' : Value} {xs xs' : List Value} (h : w.ownsRow B e 1 v n xs) (h' : w.ownsRow B' e' 1 v' n' xs') (he : e ≠ e') (g : Nat) (hg : v.ownBlock = some g) : ¬ v'.ownBlock = some g := fun hg' => by
  obtain ⟨_, cur, hb⟩ := row_lt h hg
  obtain ⟨_, cur', hb'⟩ := row_lt h' hg'
  exact hb.apart hb' he rfl
theorem grown_keep {w w2 : World} {r : Option Nat} {o : Obj} (hg : (w.alloc o).grownBy w2 r) : Keep (fun b => r = some b) w w2 :=
  ⟨hg.1, hg.2, hg.3, Nat.le_trans (by simp) hg.4, fun k hk hn => (hg.5 k (by simp; omega) (fun e => hn e.symm)).trans (Below.heap_alloc w o k hk)⟩
end Go.Proofs.YtldofbkjjmnooaaGreat
/- The document's queues (doorkeeperref10): what they are in memory; In. -/
namespace Go.Proofs.YtldofbkjjmnooaaGreat
open Go.ChangeShapes Go.WideShapes Go.ChangeAt Go.RowKit
set_option linter.unusedVariables false
set_option maxRecDepth 100000
set_option linter.unusedSimpArgs false
abbrev qV (T : Nat) : Value := .pointer (some ⟨T, 0, none⟩)
theorem qcell_keep {w w1 : World} {F : Nat → Prop} {p : Addr} {v : Value} (h : w.cell? p = some v) (hk : Keep F w w1) (hn : ¬ F p.block) : w1.cell? p = some v := by
  have hb : p.block < w.heap.size := by
    unfold World.cell? at h
    cases hb : w.heap[p.block]? with
    | none => rw [hb] at h; cases h
    | some y => exact (Array.getElem?_eq_some_iff.1 hb).1
  unfold World.cell? at h ⊢
  rw [hk.block p.block hb hn]
  exact h
/-- a row of numbers that is read, of blocks of which N is said -/
def RowN (w : World) (N : Nat → Prop) (v : Value) (l : List Int) : Prop :=
  ∃ a c, v = .slice a l.length c ∧ l.length ≤ c ∧ ∀ (i : Nat) x, l[i]? = some x → ∃ b o, a = some ⟨b, o, none⟩ ∧ N b ∧ b < w.heap.size ∧ w.cell? ⟨b, o + i, none⟩ = some (.int .i64 x)
theorem RowN.keep {w w1 : World} {N F : Nat → Prop} {v : Value} {l : List Int} (h : RowN w N v l) (hk : Keep F w w1) (hF : ∀ b, N b → ¬ F b) : RowN w1 N v l := by
  obtain ⟨a, c, e, hc, h⟩ := h
  refine ⟨a, c, e, hc, fun i x hx => ?_⟩
  obtain ⟨b, o, e, hN, hl, hc⟩ := h i x hx
  exact ⟨b, o, e, hN, Nat.lt_of_lt_of_le hl hk.size, qcell_keep hc hk (hF b hN)⟩
theorem RowN.mono {w : World} {N N' : Nat → Prop} {v : Value} {l : List Int} (h : RowN w N v l) (hN : ∀ b, N b → N' b) : RowN w N' v l := by
  obtain ⟨a, c, e, hc, h⟩ := h
  refine ⟨a, c, e, hc, fun i x hx => ?_⟩
  obtain ⟨b, o, e, h1, hl, hc⟩ := h i x hx
  exact ⟨b, o, e, hN b h1, hl, hc⟩
/-- queues at block Q, their rows in block B, of the blocks of which O is said -/
structure RQ (w : World) (Q B : Nat) (O : Nat → Prop) (L : List (List Int)) : Prop where
  own : ∃ c, Blk w Q 33 #[.slice (some ⟨B, 0, none⟩) L.length c]
  rows : ∃ vs : List Value, Blk w B 37 vs.toArray ∧ vs.length = L.length ∧ ∀ (i : Nat) l, L[i]? = some l → ∃ v, vs[i]? = some v ∧ RowN w (fun b => O b ∧ b ≠ B ∧ b ≠ Q) v l
  few : L.length ≤ 4 ∧ ∀ l ∈ L, l.length ≤ 1000
  mine : O Q ∧ O B
  lt : ∀ b, O b → b < w.heap.size
theorem RQ.keep {w w1 : World} {Q B : Nat} {O F : Nat → Prop} {L : List (List Int)} (h : RQ w Q B O L) (hk : Keep F w w1) (hF : ∀ b, O b → ¬ F b) : RQ w1 Q B O L := by
  obtain ⟨c, h1⟩ := h.own
  obtain ⟨vs, h2, h3, h4⟩ := h.rows
  refine ⟨⟨c, h1.keep hk (hF _ h.mine.1)⟩, ⟨vs, h2.keep hk (hF _ h.mine.2), h3, fun i l hl => ?_⟩, h.few, h.mine, fun b hb => Nat.lt_of_lt_of_le (h.lt b hb) hk.size⟩
  obtain ⟨v, hv, hr⟩ := h4 i l hl
  exact ⟨v, hv, hr.keep hk (fun b hb => hF b hb.1)⟩
/-- what is read of a queue -/
theorem RQ.at {w : World} {Q B : Nat} {O : Nat → Prop} {L : List (List Int)} (h : RQ w Q B O L) {i : Nat} {l : List Int} (hi : L[i]? = some l) : ∃ a c, w.cell? ⟨B, i, none⟩ = some (.slice a l.length c) ∧ l.length ≤ c ∧ ∀ (k : Nat) x, l[k]? = some x → ∃ b o, a = some ⟨b, o, none⟩ ∧ (O b ∧ b ≠ B ∧ b ≠ Q) ∧ w.cell? ⟨b, o + k, none⟩ = some (.int .i64 x) := by
  obtain ⟨vs, h2, h3, h4⟩ := h.rows
  obtain ⟨v, hv, a, c, rfl, hc, hr⟩ := h4 i l hi
  refine ⟨a, c, h2.cell i _ (by simpa using hv), hc, fun k x hx => ?_⟩
  obtain ⟨b, o, e, hN, _, hc⟩ := hr k x hx
  exact ⟨b, o, e, hN, hc⟩
theorem idx_qintss (len c B o i : Nat) (h : i < len) : ∀ W, (Instr.indexAt 31 (.slice (some ⟨B, o, none⟩) len c) (.int .i64 (i : Int))).run Tryz.prog W = .ok (.pointer (some ⟨B, o + i, none⟩)) W := by
  intro W
  go_simp
theorem idx_qints (len c B o i : Nat) (h : i < len) : ∀ W, (Instr.indexAt 37 (.slice (some ⟨B, o, none⟩) len c) (.int .i64 (i : Int))).run Tryz.prog W = .ok (.pointer (some ⟨B, o + i, none⟩)) W := by
  intro W
  go_simp
theorem not_in_next {l : List Int} {k : Nat} {x t : Int} (hx : l[k]? = some x) (h : ∀ y ∈ l.take k, y ≠ t) (hn : x ≠ t) : ∀ y ∈ l.take (k + 1), y ≠ t := by
  intro y hy
  rw [List.take_add_one, hx] at hy
  rcases List.mem_append.1 hy with hy | hy
  · exact h y hy
  · simp at hy; subst hy; exact hn
set_option maxHeartbeats 2000000 in
theorem rqin_any (Q B : Nat) (O : Nat → Prop) (L : List (List Int)) (t : Int) (w : World) (h : RQ w Q B O L) :
    Calls Tryz.prog 19 #[qV Q, .int .i64 t] w fun e w' => ∃ k : Int, e = .returned (.int .i64 k) ∧ (0 ≤ k ↔ ∃ l ∈ L, t ∈ l) ∧ w = w' := by
  obtain ⟨c, h1⟩ := h.own
  have c0 : w.cell? ⟨Q, 0, none⟩ = some (.slice (some ⟨B, 0, none⟩) L.length c) := h1.cell 0 _ rfl
  have H := Lib.hid h
  have hfew := h.few.1
  obtain ⟨ll, hll⟩ : ∃ ll, ll = L.length := ⟨_, rfl⟩
  have HLL := Lib.hid hll
  rw [← hll] at c0 hfew
  clear h h1 hll
  go_enter Tryz.func19, Tryz.ntmps19
  go_upto_region 2 with fail
  go_loopw [5] (fun vi wr => ∃ i : Nat, i ≤ ll ∧ vi = .int .i64 i ∧ Hid (∀ l ∈ L.take i, t ∉ l) ∧ wr = w) (fun vi _ => 5 - (intOf vi).toNat)
  case atStart => exact ⟨0, by omega, rfl, Lib.hid (by simp), rfl⟩
  case round =>
    obtain ⟨i, hi, rfl, hno, rfl⟩ := hrel
    by_cases hil : i < ll
    · obtain ⟨l, hl⟩ : ∃ l, L[i]? = some l := ⟨_, List.getElem?_eq_getElem (by rw [← HLL.out]; exact hil)⟩
      obtain ⟨a, cl, d0, hcl, hrow⟩ := H.out.at hl
      have HROW := Lib.hid hrow
      have hx1 := idx_qintss ll c B 0 i hil
      simp only [Nat.zero_add] at hx1
      have hj1 : (i : Int) < (ll : Int) := by omega
      have hl1 := H.out.few.2 l (List.mem_of_getElem? hl)
      have HL := Lib.hid hl
      obtain ⟨kl, hkl⟩ : ∃ kl, kl = l.length := ⟨_, rfl⟩
      have HKL := Lib.hid hkl
      rw [← hkl] at d0 hl1 hcl
      clear hrow hl hkl
      go_upto_region 5 with fail
      go_loopw [6] (fun vk wr2 => ∃ k : Nat, k ≤ kl ∧ vk = .int .i64 k ∧ Hid (∀ y ∈ l.take k, y ≠ t) ∧ wr2 = wr) (fun vk _ => 1001 - (intOf vk).toNat)
      case atStart => exact ⟨0, by omega, rfl, Lib.hid (by simp), rfl⟩
      case round =>
        obtain ⟨k, hk, rfl, hnk, rfl⟩ := hrel
        by_cases hkl1 : k < kl
        · obtain ⟨x, hx⟩ : ∃ x, l[k]? = some x := ⟨_, List.getElem?_eq_getElem (by rw [← HKL.out]; exact hkl1)⟩
          obtain ⟨b, o, rfl, _, e0⟩ := HROW.out k x hx
          have hx2 := idx_qints kl cl b o k hkl1
          have hj2 : (k : Int) < (kl : Int) := by omega
          have HX := Lib.hid hx
          clear hx
          by_cases hxt : x = t
          · subst hxt
            go_wp2
            go_ret
            exact ⟨_, rfl, ⟨fun _ => ⟨l, List.mem_of_getElem? HL.out, List.mem_of_getElem? HX.out⟩, fun _ => by omega⟩, rfl⟩
          · go_wp2
            go_roundw
            case rel => exact ⟨k + 1, by omega, by go_num, Lib.hid (not_in_next HX.out hnk.out hxt), by trivial⟩
            case measure => simp [intOf]; omega
        · obtain rfl : k = kl := by omega
          have hj2 : ¬ (k : Int) < (k : Int) := by omega
          go_wp2
          go_roundw
          case rel =>
            refine ⟨i + 1, by omega, by go_num, Lib.hid ?_, by trivial⟩
            intro z hz ht
            rw [List.take_add_one, HL.out] at hz
            rcases List.mem_append.1 hz with hz | hz
            · exact hno.out z hz ht
            · simp at hz
              subst hz
              have := hnk.out
              rw [HKL.out, List.take_length] at this
              exact this t ht rfl
          case measure => simp [intOf]; omega
    · obtain rfl : i = ll := by omega
      have hj1 : ¬ (i : Int) < (i : Int) := by omega
      go_wp2
      go_ret
      refine ⟨-1, rfl, ⟨fun h => by omega, fun ⟨l, hl, ht⟩ => ?_⟩, rfl⟩
      have := hno.out
      rw [HLL.out, List.take_length] at this
      exact absurd ht (this l hl)
end Go.Proofs.YtldofbkjjmnooaaGreat
