/- Layer 10: the pure side of QueueOrder: threads without doubles in two lists, and what goes from one to the other. -/
import Derived.WalkKit
import Derived.Test.YtpejmkoheodblaaGreatMgQuLaw
import Derived.Laws.OwnMore
import Derived.Laws.Rows
namespace Go.Proofs.YtpejmkoheodblaaGreat
set_option linter.unusedVariables false
theorem all_below (n : Nat) (l : List Int) (h : ∀ f : Nat, f < n → (f : Int) ∈ l) : n ≤ l.length := by
  induction n generalizing l with
  | zero => omega
  | succ n ih =>
    have hm := h n (by omega)
    have := ih (l.erase (n : Int)) (fun f hf => (List.mem_erase_of_ne (by omega)).2 (h f (by omega)))
    have hl := List.length_erase_of_mem hm
    have : 0 < l.length := List.length_pos_of_mem hm
    omega
/-- of fewer than eight threads one is free -/
theorem free_one (l : List Int) (h : l.length < 8) : ∃ f : Nat, f < 8 ∧ (f : Int) ∉ l := by
  by_cases hc : ∃ f : Nat, f < 8 ∧ (f : Int) ∉ l
  · exact hc
  · have := all_below 8 l (fun f hf => by
      by_cases hm : (f : Int) ∈ l
      · exact hm
      · exact absurd ⟨f, hf, hm⟩ hc)
    omega
/-- threads in two lists: none twice, all below eight -/
structure Two (A B : List Int) : Prop where
  nod : (A ++ B).Nodup
  low : ∀ t ∈ A ++ B, 0 ≤ t ∧ t < 8
theorem ofilter_not (l : List Int) (x : Int) (h : x ∉ l) : l.filter (· ≠ x) = l := by
  apply List.filter_eq_self.2
  intro y hy
  simp
  rintro rfl
  exact h hy
theorem ofilter_mid (a r : List Int) (x : Int) (h : (a ++ x :: r).Nodup) : (a ++ x :: r).filter (· ≠ x) = a ++ r := by
  rw [List.nodup_append] at h
  obtain ⟨h1, h2, h3⟩ := h
  rw [List.nodup_cons] at h2
  have ha : x ∉ a := fun hm => h3 x hm x (by simp) rfl
  rw [List.filter_append, ofilter_not a x ha, List.filter_cons]
  simp only [ne_eq, not_true_eq_false, decide_false, Bool.false_eq_true, if_false]
  have := ofilter_not r x h2.1
  simp only [ne_eq] at this
  rw [this]
theorem Two.perm {A B A' B' : List Int} (h : Two A B) (hp : (A ++ B).Perm (A' ++ B')) : Two A' B' :=
  ⟨hp.nodup_iff.1 h.nod, fun t ht => h.low t (hp.mem_iff.2 ht)⟩
/-- one of the first list goes to the second one's end -/
theorem Two.over {a r B : List Int} {x : Int} (h : Two (a ++ x :: r) B) : Two (a ++ r) (B ++ [x]) := by
  refine h.perm ?_
  rw [List.append_assoc, List.append_assoc]
  refine List.Perm.append_left a ?_
  rw [← List.append_assoc]
  exact (List.perm_append_comm (l₁ := [x]) (l₂ := r ++ B)).trans (List.Perm.refl _)
theorem Two.swap {A B : List Int} (h : Two A B) : Two B A := h.perm List.perm_append_comm
theorem Two.back {A b r : List Int} {x : Int} (h : Two A (b ++ x :: r)) : Two (A ++ [x]) (b ++ r) := (h.swap.over).swap
theorem Two.notB {A B : List Int} (h : Two A B) {t : Int} (ht : t ∈ A) : t ∉ B := fun hb => by
  have := h.nod
  rw [List.nodup_append] at this
  exact this.2.2 t ht t hb rfl
theorem Two.add {A B : List Int} (h : Two A B) {t : Int} (h0 : 0 ≤ t ∧ t < 8) (ht : t ∉ A ++ B) : Two (A ++ [t]) B := by
  refine Two.swap ⟨?_, ?_⟩
  · rw [← List.append_assoc, List.nodup_append]
    refine ⟨h.swap.nod, by simp, ?_⟩
    intro x hx y hy hxy
    simp at hy
    subst hy hxy
    exact ht (by simp at hx ⊢; exact hx.symm)
  · intro x hx
    rw [← List.append_assoc, List.mem_append] at hx
    rcases hx with hx | hx
    · exact h.swap.low x hx
    · simp at hx
      subst hx
      exact h0
/-- a list cut at k: what is behind and ahead of its k-th -/
theorem cut_at (l : List Int) (k : Nat) (h : k < l.length) : l = l.take k ++ l[k] :: l.drop (k + 1) := by
  rw [← List.drop_eq_getElem_cons h, List.take_append_drop]
/-- which of eight threads a list has, as a row of ints -/
def seenL (o : List Int) : List Int := (List.range 8).map fun t : Nat => if (t : Int) ∈ o then 1 else 0
theorem seen_nil : seenL [] = List.replicate 8 0 := by decide
theorem seen_len (o : List Int) : (seenL o).length = 8 := by simp [seenL]
theorem seen_get (o : List Int) (t : Nat) (h : t < 8) : (seenL o)[t]? = some (if (t : Int) ∈ o then 1 else 0) := by
  unfold seenL
  rw [List.getElem?_map, List.getElem?_range h]
  rfl
theorem seen_set (o : List Int) (t : Nat) (h : t < 8) : (seenL o).set t 1 = seenL (o ++ [(t : Int)]) := by
  apply List.ext_getElem?
  intro i
  by_cases hi : i < 8
  · rw [seen_get _ i hi, List.getElem?_set, seen_len]
    by_cases e : t = i
    · subst e
      simp [h]
    · rw [if_neg e, seen_get _ i hi]
      have hne : ¬ (i : Int) = (t : Int) := by omega
      by_cases hm : (i : Int) ∈ o
      · rw [if_pos hm, if_pos (List.mem_append_left _ hm)]
      · rw [if_neg hm, if_neg (by simp [hm, hne])]
  · rw [List.getElem?_eq_none (by rw [List.length_set, seen_len]; omega), List.getElem?_eq_none (by rw [seen_len]; omega)]
/-- the way to a free thread grows shorter -/
theorem free_way (f t : Nat) (hf : f < 8) (ht : t < 8) (h : t ≠ f) : (f + 8 - (t + 1) % 8) % 8 < (f + 8 - t) % 8 := by omega
end Go.Proofs.YtpejmkoheodblaaGreat
/- QueueOrder: the state of its loops: two queues, three rows of threads. -/
namespace Go.Proofs.YtpejmkoheodblaaGreat
open Go.ChangeShapes Go.WideShapes Go.ChangeAt Go.RowKit
set_option linter.unusedVariables false
set_option maxRecDepth 100000
set_option linter.unusedSimpArgs false
/-- append to a slice of one's own that is not nil: maybe of nothing -/
theorem run_append_own3 {P : Program} (w : World) (base : Nat) (t ty e : TypeId) (i : TypeInfo) (z : Value) (size bytes : Nat) (ht : P.underlying t = some (.slice e)) (hi : P.info? e = some i) (hz : i.zero = some z)
    (hsize : i.size = size) (hby : i.bytes = bytes) (hzs : z.cells.size = size) (hsz : 0 < size)
    (g0 n cap0 : Nat) (xs : List Value) (hown : w.ownsRow base e size (.slice (some ⟨g0, 0, none⟩) n cap0) n xs)
    (a : Addr) (m c : Nat) (news : List Value) (hl : news.length = m * size) (hnews : ∀ j u, news[j]? = some u → w.cell? (a.add j) = some u) (h1 : ∀ u ∈ news, u.oneCell' = true)
    (h63 : n + m ≤ maxLen) (hbytes : (n + m) * bytes ≤ 140737488355328) (hbase : base ≤ w.heap.size) :
    ∃ g cap w', (Builtin.append_ #[t, t] ty #[.slice (some ⟨g0, 0, none⟩) n cap0, .slice (some a) m c]).run P w = .ok (.slice (some ⟨g, 0, none⟩) (n + m) cap) w' ∧ w'.ownsRow base e size (.slice (some ⟨g, 0, none⟩) (n + m) cap) (n + m) (xs ++ news) ∧ w.grownBy w' (some g0) ∧ (g = g0 ∨ w.heap.size ≤ g) := by
  by_cases hroom : n + m ≤ cap0
  · obtain ⟨w2, hr2, h2, h3⟩ := run_append_fits (P := P) w base t ty e i size ht hi hsize g0 n cap0 xs hown a m c news hl hnews h1 hroom
    exact ⟨g0, cap0, w2, hr2, h2, h3, .inl rfl⟩
  · obtain ⟨v', w', hr, h2, h3, _⟩ := run_append_own (P := P) w base t ty e i z size bytes ht hi hz hsize hby hzs hsz _ n xs hown a m c news hl hnews h1 h63 hbytes hbase
    subst hsize
    subst hby
    have hsmall : n + m ≤ 9223372036854775807 := by simp only [maxLen] at h63; omega
    have holds : ∀ j u, xs[j]? = some u → w.cell? ((⟨g0, 0, none⟩ : Addr).add j) = some u := hown.cells (g := g0) rfl
    have hr2 := run_append_grow (P := P) w t ty e i z ht hi hz ⟨g0, 0, none⟩ n cap0 xs hown.1 holds a m c news hl hnews (by omega) (by omega) (growslice_fits (by omega) hbytes)
    rw [hr] at hr2
    obtain ⟨rfl, _⟩ : v' = .slice (some ⟨w.heap.size, 0, none⟩) (n + m) (grownCap w (n + m) cap0 e) ∧ w' = _ := by simpa using hr2
    exact ⟨_, _, w', hr, h2, h3, .inr (Nat.le_refl _)⟩
theorem wp_append_own3 {P : Program} (w : World) {o : Oper} {a : Act} {K : Act → World → Prop} {Q : Exit → Act → World → Prop} (s x : Operand) (t : TypeId)
    (ho : o.op = .call { callee := .builtin .append, args := #[s, x], argTypes := #[t, t] })
    (base : Nat) (e : TypeId) (i : TypeInfo) (z : Value) (size bytes : Nat) (ht : P.underlying t = some (.slice e)) (hi : P.info? e = some i) (hz : i.zero = some z)
    (hsize : i.size = size) (hby : i.bytes = bytes) (hzs : z.cells.size = size) (hsz : 0 < size)
    (g0 n cap0 : Nat) (xs : List Value) (hs : a.eval s = .slice (some ⟨g0, 0, none⟩) n cap0) (hown : w.ownsRow base e size (.slice (some ⟨g0, 0, none⟩) n cap0) n xs)
    (ad : Addr) (m c : Nat) (news : List Value) (hx : a.eval x = .slice (some ad) m c) (hl : news.length = m * size) (hnews : ∀ j u, news[j]? = some u → w.cell? (ad.add j) = some u) (h1 : ∀ u ∈ news, u.oneCell' = true)
    (h63 : n + m ≤ maxLen) (hbytes : (n + m) * bytes ≤ 140737488355328) (hbase : base ≤ w.heap.size)
    (h : ∀ g cap w', w'.ownsRow base e size (.slice (some ⟨g, 0, none⟩) (n + m) cap) (n + m) (xs ++ news) → w.grownBy w' (some g0) → (g = g0 ∨ w.heap.size ≤ g) → K (a.put o.dst (.slice (some ⟨g, 0, none⟩) (n + m) cap)) w') : o.wp P a w K Q := by
  obtain ⟨g, cap, w', hr, h2, h3, h4⟩ := run_append_own3 (P := P) w base t o.type e i z size bytes ht hi hz hsize hby hzs hsz g0 n cap0 xs hown ad m c news hl hnews h1 h63 hbytes hbase
  unfold Oper.wp execOp
  simp only [ho, resolve, invoke, builtin, Sem.run_bind, Sem.run_pure, Result.andThen_ok, List.map_toArray, List.map_cons, List.map_nil, hs, hx, hr]
  exact h g cap w' h2 h3 h4
abbrev iL (l : List Int) : List Value := l.map (Value.int .i64)
/-- a row of threads of the law's own, with a label -/
structure RowL (w : World) (n0 : Nat) (lab : Nat → Nat) (k : Nat) (v : Value) (l : List Int) : Prop where
  own : w.ownsRow n0 3 1 v l.length (iL l)
  lab : ∀ g, v.ownBlock = some g → lab g = k
theorem RowL.nil (w : World) (n0 k : Nat) (lab : Nat → Nat) : RowL w n0 lab k (.slice none 0 0) [] := ⟨World.ownsRow_nil _ _ _ _, fun g h => by simp [Value.ownBlock] at h⟩
theorem RowL.keep {w w' : World} {n0 k : Nat} {lab lab' : Nat → Nat} {v : Value} {l : List Int} {F : Nat → Prop} (h : RowL w n0 lab k v l) (hk : Keep F w w') (hF : ∀ b, F b → lab b ≠ k) (hl : ∀ b, b < w.heap.size → lab' b = lab b) : RowL w' n0 lab' k v l :=
  ⟨row_ownkeep h.own hk (fun g hg hf => hF g hf (h.lab g hg)), fun g hg => by rw [hl g (row_lt h.own hg).1]; exact h.lab g hg⟩
theorem RowL.shape {w : World} {n0 k : Nat} {lab : Nat → Nat} {v : Value} {l : List Int} (h : RowL w n0 lab k v l) : (v = .slice none 0 0 ∧ l = []) ∨ ∃ g cap, v = .slice (some ⟨g, 0, none⟩) l.length cap ∧ lab g = k ∧ g < w.heap.size ∧ n0 ≤ g ∧ l.length ≤ cap ∧ ∀ (i : Nat) x, l[i]? = some x → w.cell? ⟨g, i, none⟩ = some (.int .i64 x) := by
  rcases id h.own.2 with ⟨hv, h0⟩ | ⟨g, cap, cur, hv, h1, h2, h3, _⟩
  · exact .inl ⟨hv, List.length_eq_zero_iff.1 h0⟩
  · refine .inr ⟨g, cap, hv, h.lab g (by rw [hv]; rfl), (Array.getElem?_eq_some_iff.1 h2).1, h1, h3, fun i x hx => ?_⟩
    have ho := h.own
    rw [hv] at ho
    have := ho.cells (g := g) rfl i (.int .i64 x) (by rw [List.getElem?_map, hx]; rfl)
    rwa [addr_add, Nat.zero_add] at this
theorem RowL.rowN {w : World} {n0 k : Nat} {lab : Nat → Nat} {v : Value} {l : List Int} (h : RowL w n0 lab k v l) : RowN w (fun b => lab b = k) v l := by
  rcases h.shape with ⟨rfl, rfl⟩ | ⟨g, cap, rfl, h1, h2, h3, h4, h5⟩
  · exact ⟨none, 0, rfl, Nat.le_refl _, fun i x hx => by simp at hx⟩
  · exact ⟨some ⟨g, 0, none⟩, cap, rfl, h4, fun i x hx => ⟨g, 0, rfl, h1, h2, by rw [Nat.zero_add]; exact h5 i x hx⟩⟩
/-- labels of new blocks -/
def labN (w : World) (lab : Nat → Nat) (k : Nat) : Nat → Nat := fun b => if b < w.heap.size then lab b else k
theorem labN_old {w : World} {lab : Nat → Nat} {k b : Nat} (h : b < w.heap.size) : labN w lab k b = lab b := if_pos h
theorem labN_new {w : World} {lab : Nat → Nat} {k b : Nat} (h : w.heap.size ≤ b) : labN w lab k b = k := if_neg (by omega)
/-- one more at a row's end -/
theorem RowL.snoc {w w2 w' : World} {n0 k g cap : Nat} {lab : Nat → Nat} {v : Value} {l : List Int} {x : Int} (h : RowL w n0 lab k v l) (hw : Keep (fun _ => False) w w2) (ho : w'.ownsRow n0 3 1 (.slice (some ⟨g, 0, none⟩) (l.length + 1) cap) (l.length + 1) (iL l ++ [.int .i64 x]))
    (hg : v.ownBlock = some g ∨ w2.heap.size ≤ g) : RowL w' n0 (labN w lab k) k (.slice (some ⟨g, 0, none⟩) (l.length + 1) cap) (l ++ [x]) := by
  refine ⟨by simpa [iL] using ho, fun g' hg' => ?_⟩
  obtain rfl := own_some hg'
  rcases hg with hg | hg
  · rw [labN_old (row_lt h.own hg).1]
    exact h.lab g hg
  · exact labN_new (Nat.le_trans hw.size hg)
/-- the law's queues, its map and its arguments; label 0 -/
structure OB (w : World) (n0 C S bm a0 a1 : Nat) (lab : Nat → Nat) (by' ag : Array Value) (A B : List Int) (b : Int) : Prop where
  q : ∃ mm n, WQ w C S mm n (L4 B [] [] A) ∧ 0 ≤ n ∧ n ≤ b
  m : Blk w bm 24 hereCs
  by' : Blk w a0 49 by'
  ag : Blk w a1 50 ag
  zero : lab C = 0 ∧ lab S = 0 ∧ lab bm = 0 ∧ lab a0 = 0 ∧ lab a1 = 0
  ne : (bm ≠ C ∧ bm ≠ S) ∧ (a0 ≠ C ∧ a0 ≠ S) ∧ (a1 ≠ C ∧ a1 ≠ S)
  lo : n0 ≤ C ∧ n0 ≤ S ∧ n0 ≤ w.heap.size
theorem OB.lts {w : World} {n0 C S bm a0 a1 : Nat} {lab : Nat → Nat} {by' ag : Array Value} {A B : List Int} {b : Int} (h : OB w n0 C S bm a0 a1 lab by' ag A B b) : C < w.heap.size ∧ S < w.heap.size ∧ bm < w.heap.size ∧ a0 < w.heap.size ∧ a1 < w.heap.size := by
  obtain ⟨mm, n, hq, _⟩ := h.q
  exact ⟨hq.cells.own.lt, hq.cells.row.lt, h.m.lt, h.by'.lt, h.ag.lt⟩
/-- blocks of other labels turn -/
theorem OB.keep {w w' : World} {n0 C S bm a0 a1 : Nat} {lab lab' : Nat → Nat} {by' ag : Array Value} {A B : List Int} {b : Int} {F : Nat → Prop} (h : OB w n0 C S bm a0 a1 lab by' ag A B b) (hk : Keep F w w') (hF : ∀ x, F x → lab x ≠ 0) (hl : ∀ x, x < w.heap.size → lab' x = lab x) : OB w' n0 C S bm a0 a1 lab' by' ag A B b := by
  have hlt := h.lts
  obtain ⟨z1, z2, z3, z4, z5⟩ := h.zero
  obtain ⟨mm, n, hq, hn⟩ := h.q
  have nf : ∀ x, lab x = 0 → ¬ F x := fun x e hf => hF x hf e
  exact ⟨⟨mm, n, hq.keep hk (nf _ z1) (nf _ z2), hn⟩, h.m.keep hk (nf _ z3), h.by'.keep hk (nf _ z4), h.ag.keep hk (nf _ z5), ⟨by rw [hl _ hlt.1]; exact z1, by rw [hl _ hlt.2.1]; exact z2, by rw [hl _ hlt.2.2.1]; exact z3, by rw [hl _ hlt.2.2.2.1]; exact z4, by rw [hl _ hlt.2.2.2.2]; exact z5⟩, h.ne, ⟨h.lo.1, h.lo.2.1, Nat.le_trans h.lo.2.2 hk.size⟩⟩
theorem OB.below {w w' : World} {n0 C S bm a0 a1 : Nat} {lab : Nat → Nat} {by' ag : Array Value} {A B : List Int} {b : Int} (h : OB w n0 C S bm a0 a1 lab by' ag A B b) (hb : Below w.heap.size w w') : OB w' n0 C S bm a0 a1 lab by' ag A B b :=
  h.keep (F := fun _ => False) (Keep.ofBelow hb) (fun _ h => h.elim) (fun _ _ => rfl)
/-- an operation on the queues -/
theorem OB.aft {w w' : World} {n0 C S bm a0 a1 : Nat} {lab : Nat → Nat} {by' ag : Array Value} {A B A' B' : List Int} {n b : Int} (h : OB w n0 C S bm a0 a1 lab by' ag A B b) (ha : Aft w w' C S n b (L4 B' [] [] A')) : OB w' n0 C S bm a0 a1 lab by' ag A' B' (b + 50) := by
  obtain ⟨⟨mm, n', hq, h1, h2⟩, hk⟩ := ha
  obtain ⟨e1, e2, e3⟩ := h.ne
  exact ⟨⟨mm, n', hq, h1, h2⟩, h.m.keep hk (nofC e1), h.by'.keep hk (nofC e2), h.ag.keep hk (nofC e3), h.zero, h.ne, ⟨h.lo.1, h.lo.2.1, Nat.le_trans h.lo.2.2 hk.size⟩⟩
theorem RowL.aft {w w' : World} {n0 C S k : Nat} {lab : Nat → Nat} {v : Value} {l : List Int} {n b : Int} {L : Nat → List Int} (h : RowL w n0 lab k v l) (ha : Aft w w' C S n b L) (hz : lab C = 0 ∧ lab S = 0) (hk : k ≠ 0) : RowL w' n0 lab k v l :=
  h.keep ha.2 (fun x hx e => by rcases hx with rfl | rfl <;> omega) (fun _ _ => rfl)
section
variable {w : World} {n0 C S bm a0 a1 : Nat} {lab : Nat → Nat} {by' ag : Array Value} {A B : List Int} {b : Int}
theorem two_in {A B : List Int} (h : Two A B) {t : Int} (ht : t ∈ A ∨ t ∈ B) : 0 ≤ t ∧ t < 8 := h.low t (List.mem_append.2 ht)
/-- push at the fourth queue -/
theorem opush3 {aI t : Int} (ha : aI = (placeN 3 : Nat)) (h : OB w n0 C S bm a0 a1 lab by' ag A B b) (ht : 0 ≤ t ∧ t < 8) (h1 : t ∉ A) (h2 : t ∉ B) (hb : b ≤ 90000) :
    Calls Tryz.prog 27 #[cellsV C, mapV hereM, .int .i64 aI, .int .i64 t] w fun e w' => e = .returned (.int .i64 0) ∧ ∃ n, Aft w w' C S n b (L4 B [] [] (A ++ [t])) := by
  obtain ⟨mm, n, hq, hn⟩ := h.q
  refine (vpush b 3 (by omega) ha t ht (L4 B [] [] (A ++ [t])) (l4_3 B [] [] A (A ++ [t])) (l4_not h2 (by simp) (by simp) h1) hq hn (by omega)).mono ?_
  rintro e w' ⟨rfl, h⟩
  exact ⟨rfl, n, h⟩
theorem opush0 {aI t : Int} (ha : aI = (placeN 0 : Nat)) (h : OB w n0 C S bm a0 a1 lab by' ag A B b) (ht : 0 ≤ t ∧ t < 8) (h1 : t ∉ A) (h2 : t ∉ B) (hb : b ≤ 90000) :
    Calls Tryz.prog 27 #[cellsV C, mapV hereM, .int .i64 aI, .int .i64 t] w fun e w' => e = .returned (.int .i64 0) ∧ ∃ n, Aft w w' C S n b (L4 (B ++ [t]) [] [] A) := by
  obtain ⟨mm, n, hq, hn⟩ := h.q
  refine (vpush b 0 (by omega) ha t ht (L4 (B ++ [t]) [] [] A) (l4_0 B [] [] A (B ++ [t])) (l4_not h2 (by simp) (by simp) h1) hq hn (by omega)).mono ?_
  rintro e w' ⟨rfl, h⟩
  exact ⟨rfl, n, h⟩
theorem orem3 {aI t : Int} {p r : List Int} (ha : aI = (placeN 3 : Nat)) (h : OB w n0 C S bm a0 a1 lab by' ag (p ++ t :: r) B b) (hT : Two (p ++ t :: r) B) (hb : b ≤ 90000) :
    Calls Tryz.prog 28 #[cellsV C, mapV hereM, .int .i64 aI, .int .i64 t] w fun e w' => e = .returned (.int .i64 1) ∧ ∃ n, Aft w w' C S n b (L4 B [] [] (p ++ r)) := by
  obtain ⟨mm, n, hq, hn⟩ := h.q
  have hnd := hT.nod
  rw [List.nodup_append] at hnd
  refine (vrem b 3 (by omega) ha t 1 (hT.low t (by simp)) (L4 B [] [] (p ++ r)) (if_pos (by simp [L4])) (fun j hj => ?_) hq hn (by omega)).mono ?_
  · rw [show (L4 B [] [] (p ++ t :: r)) 3 = p ++ t :: r from rfl, ofilter_mid p r t hnd.1]
    exact l4_3 B [] [] _ (p ++ r) j hj
  · rintro e w' ⟨rfl, h⟩
    exact ⟨rfl, n, h⟩
theorem orem0 {aI t : Int} {p r : List Int} (ha : aI = (placeN 0 : Nat)) (h : OB w n0 C S bm a0 a1 lab by' ag A (p ++ t :: r) b) (hT : Two A (p ++ t :: r)) (hb : b ≤ 90000) :
    Calls Tryz.prog 28 #[cellsV C, mapV hereM, .int .i64 aI, .int .i64 t] w fun e w' => e = .returned (.int .i64 1) ∧ ∃ n, Aft w w' C S n b (L4 (p ++ r) [] [] A) := by
  obtain ⟨mm, n, hq, hn⟩ := h.q
  have hnd := hT.nod
  rw [List.nodup_append] at hnd
  refine (vrem b 0 (by omega) ha t 1 (hT.low t (by simp)) (L4 (p ++ r) [] [] A) (if_pos (by simp [L4])) (fun j hj => ?_) hq hn (by omega)).mono ?_
  · rw [show (L4 (p ++ t :: r) [] [] A) 0 = p ++ t :: r from rfl, ofilter_mid p r t hnd.2.1]
    exact l4_0 _ [] [] A (p ++ r) j hj
  · rintro e w' ⟨rfl, h⟩
    exact ⟨rfl, n, h⟩
theorem opop3 {aI x : Int} {r : List Int} (ha : aI = (placeN 3 : Nat)) (h : OB w n0 C S bm a0 a1 lab by' ag (x :: r) B b) (hb : b ≤ 90000) :
    Calls Tryz.prog 29 #[cellsV C, mapV hereM, .int .i64 aI] w fun e w' => e = .returned (.int .i64 x) ∧ ∃ n, Aft w w' C S n b (L4 B [] [] r) := by
  obtain ⟨mm, n, hq, hn⟩ := h.q
  refine (vpop b 3 (by omega) ha x (L4 B [] [] r) (by simp [L4]) (l4_3 B [] [] (x :: r) r) hq hn (by omega)).mono ?_
  rintro e w' ⟨rfl, h⟩
  exact ⟨rfl, n, h⟩
theorem opop3n {aI : Int} (ha : aI = (placeN 3 : Nat)) (h : OB w n0 C S bm a0 a1 lab by' ag [] B b) (hb : b ≤ 90000) :
    Calls Tryz.prog 29 #[cellsV C, mapV hereM, .int .i64 aI] w fun e w' => e = .returned (.int .i64 (-1)) ∧ ∃ n, Aft w w' C S n b (L4 B [] [] []) := by
  obtain ⟨mm, n, hq, hn⟩ := h.q
  refine (vpop b 3 (by omega) ha (-1) (L4 B [] [] []) (by simp [L4]) (l4_3 B [] [] [] []) hq hn (by omega)).mono ?_
  rintro e w' ⟨rfl, h⟩
  exact ⟨rfl, n, h⟩
theorem olook3 {aI : Int} (ha : aI = (placeN 3 : Nat)) (h : OB w n0 C S bm a0 a1 lab by' ag A B b) :
    Calls Tryz.prog 25 #[cellsV C, mapV hereM, .int .i64 aI] w fun e w' => ∃ v, e = .returned v ∧ RowN w' (fun b => w.heap.size ≤ b) v A ∧ Below w.heap.size w w' := by
  obtain ⟨mm, n, hq, hn⟩ := h.q
  subst ha
  exact qlook_any hq 3 (by omega)
theorem olook0 {aI : Int} (ha : aI = (placeN 0 : Nat)) (h : OB w n0 C S bm a0 a1 lab by' ag A B b) :
    Calls Tryz.prog 25 #[cellsV C, mapV hereM, .int .i64 aI] w fun e w' => ∃ v, e = .returned v ∧ RowN w' (fun b => w.heap.size ≤ b) v B ∧ Below w.heap.size w w' := by
  obtain ⟨mm, n, hq, hn⟩ := h.q
  subst ha
  exact qlook_any hq 0 (by omega)
end
end Go.Proofs.YtpejmkoheodblaaGreat
/- Layer 10's laws: QueueOrder. Written by tools/gen_qord.py. -/
namespace Go.Proofs.YtpejmkoheodblaaGreat
open Go.ChangeShapes Go.WideShapes Go.ChangeAt Go.RowKit
set_option linter.unusedVariables false
set_option maxRecDepth 100000
set_option linter.unusedSimpArgs false
theorem oint_info : (Tryz.prog.info? 3).map (fun i => (i.zero, i.size, i.bytes)) = some (some (.int .i64 0), 1, 8) := by kernel_rfl
abbrev intsA (l : List Int) : Array Value := (l.map (Value.int .i64)).toArray
theorem make_8 (w : World) : (Instr.makeSlice 37 (.int .i64 8) (.int .i64 8)).run Tryz.prog w = .ok (.slice (some ⟨w.heap.size, 0, none⟩) 8 8) (w.alloc (.cells (intsA (seenL [])) 3)) := by
  obtain ⟨i, hi, hz0, hz1, hz2⟩ := info_parts oint_info
  have h := run_make (P := Tryz.prog) w 37 3 i _ Tryz.underlying37 hi hz0 .i64 .i64 8 8 (by omega) (by omega) (by rw [hz2]; omega) (by omega)
  have e : madeCells #[Value.int .i64 0] 8 = intsA (seenL []) := by
    rw [← Array.toList_inj, toList_madeCells_one, seen_nil]
    simp [intsA, List.replicate_succ]
  rw [h, hz1, Nat.mul_one]
  simp only [← e]
  rfl
theorem oidx (len c B i : Nat) (h : i < len) : ∀ W, (Instr.indexAt 37 (.slice (some ⟨B, 0, none⟩) len c) (.int .i64 (i : Int))).run Tryz.prog W = .ok (.pointer (some ⟨B, i, none⟩)) W := by
  intro W
  go_simp
theorem seen_cell {w : World} {B : Nat} {o : List Int} (h : Blk w B 3 (intsA (seenL o))) (t : Nat) (ht : t < 8) : w.cell? ⟨B, t, none⟩ = some (.int .i64 (if (t : Int) ∈ o then 1 else 0)) := by
  refine h.cell t _ ?_
  rw [List.getElem?_toArray, List.getElem?_map, seen_get o t ht]
  rfl
theorem seen_put {w : World} {B : Nat} {o : List Int} (h : Blk w B 3 (intsA (seenL o))) (t : Nat) (ht : t < 8) : Blk (w.setCell ⟨B, t, none⟩ (.int .i64 1)) B 3 (intsA (seenL (o ++ [(t : Int)]))) := by
  have := h.set t (.int .i64 1)
  rw [← seen_set o t ht]
  simpa [intsA, List.map_set] using this
theorem Two.nil : Two [] [] := ⟨by simp, fun t h => by simp at h⟩
/-- a row's cell -/
theorem RowL.at' {w : World} {n0 k : Nat} {lab : Nat → Nat} {v : Value} {l : List Int} (h : RowL w n0 lab k v l) {i : Nat} {x : Int} (hi : l[i]? = some x) : ∃ g cap, v = .slice (some ⟨g, 0, none⟩) l.length cap ∧ w.cell? ⟨g, i, none⟩ = some (.int .i64 x) ∧ g < w.heap.size ∧ lab g = k := by
  rcases h.shape with ⟨rfl, rfl⟩ | ⟨g, cap, rfl, h1, h2, h3, h4, h5⟩
  · simp at hi
  · exact ⟨g, cap, rfl, h5 i x hi, h2, h1⟩
theorem RowL.cellAt {w : World} {n0 k g n cap : Nat} {lab : Nat → Nat} {l : List Int} (h : RowL w n0 lab k (.slice (some ⟨g, 0, none⟩) n cap) l) {i : Nat} {x : Int} (hi : l[i]? = some x) : w.cell? ⟨g, i, none⟩ = some (.int .i64 x) := by
  obtain ⟨g', cap', e, hc, _⟩ := h.at' hi
  obtain rfl : g = g' := by
    have := Value.slice.inj e
    simpa using this.1
  exact hc
theorem take_notin {l : List Int} {i : Nat} {x : Int} (hn : l.Nodup) (hi : l[i]? = some x) : x ∉ l.take i := by
  intro h
  obtain ⟨j, hj, e⟩ := List.mem_take_iff_getElem.1 h
  have e2 : l[j]? = some x := List.getElem?_eq_some_iff.2 ⟨by omega, e⟩
  have a1 := idx_nodup l i x hn hi
  have a2 := idx_nodup l j x hn e2
  omega
theorem drop_cons {l : List Int} {i : Nat} {x : Int} (hi : l[i]? = some x) : l.drop i = x :: l.drop (i + 1) := by
  obtain ⟨hlt, e⟩ := List.getElem?_eq_some_iff.1 hi
  rw [List.drop_eq_getElem_cons hlt, e]
theorem OB.more {w : World} {n0 C S bm a0 a1 : Nat} {lab : Nat → Nat} {by' ag : Array Value} {A B : List Int} {b b' : Int} (h : OB w n0 C S bm a0 a1 lab by' ag A B b) (hb : b ≤ b') : OB w n0 C S bm a0 a1 lab by' ag A B b' := by
  obtain ⟨mm, n, hq, h1, h2⟩ := h.q
  exact ⟨⟨mm, n, hq, h1, Int.le_trans h2 hb⟩, h.m, h.by', h.ag, h.zero, h.ne, h.lo⟩
theorem RowL.below {w w' : World} {n0 k : Nat} {lab : Nat → Nat} {v : Value} {l : List Int} (h : RowL w n0 lab k v l) (hb : Below w.heap.size w w') : RowL w' n0 lab k v l :=
  h.keep (F := fun _ => False) (Keep.ofBelow hb) (fun _ h => h.elim) (fun _ _ => rfl)
theorem OB.outside {w w' : World} {n0 C S bm a0 a1 : Nat} {lab : Nat → Nat} {by' ag : Array Value} {A B : List Int} {b n bb : Int} {L : Nat → List Int} (h : OB w n0 C S bm a0 a1 lab by' ag A B b) (ha : Aft w w' C S n bb L) : Below n0 w w' :=
  ha.2.below h.lo.2.2 (fun i _ hi => by rcases hi with hi | hi <;> (have := h.lo; omega))
theorem two_nodup {A B : List Int} (h : Two A B) : A.Nodup ∧ B.Nodup := by
  have := h.nod
  rw [List.nodup_append] at this
  exact ⟨this.1, this.2.1⟩
theorem two_mid {p r B : List Int} {x : Int} (h : Two (p ++ x :: r) B) : x ∉ p ++ r ∧ x ∉ B ∧ 0 ≤ x ∧ x < 8 := by
  have hn := (two_nodup h).1
  rw [List.nodup_append] at hn
  obtain ⟨h1, h2, h3⟩ := hn
  rw [List.nodup_cons] at h2
  refine ⟨fun hm => ?_, h.notB (by simp), h.low x (by simp)⟩
  rcases List.mem_append.1 hm with hm | hm
  · exact h3 x hm x (by simp) rfl
  · exact h2.1 hm
theorem own_zero (w : World) (n0 : Nat) (h : n0 ≤ w.heap.size) : (w.alloc (.cells #[] 3)).ownsRow n0 3 1 (.slice (some ⟨w.heap.size, 0, none⟩) 0 0) 0 [] :=
  ⟨rfl, .inr ⟨w.heap.size, 0, #[], rfl, h, Blk.new w _ _, Nat.le_refl _, by unfold maxLen; omega, rfl, rfl⟩⟩
theorem news_of {w : World} {g a : Nat} {l : List Int} (h : ∀ (i : Nat) x, l[i]? = some x → w.cell? ⟨g, a + i, none⟩ = some (.int .i64 x)) : ∀ (j : Nat) (u : Value), (iL l)[j]? = some u → w.cell? ((⟨g, a, none⟩ : Addr).add j) = some u := by
  intro j u hj
  rw [List.getElem?_map] at hj
  obtain ⟨x, hx, rfl⟩ := Option.map_eq_some_iff.1 hj
  rw [addr_add]
  exact h j x hx
theorem iL_one {l : List Int} : ∀ u ∈ iL l, u.oneCell' = true := fun u hu => by
  obtain ⟨y, _, rfl⟩ := List.mem_map.1 hu
  rfl
theorem RowL.form {w : World} {n0 k : Nat} {lab : Nat → Nat} {v : Value} {l : List Int} (h : RowL w n0 lab k v l) : ∃ a c, v = .slice a l.length c := by
  rcases h.shape with ⟨rfl, rfl⟩ | ⟨g, cap, rfl, _⟩
  · exact ⟨none, 0, rfl⟩
  · exact ⟨_, _, rfl⟩
theorem shift_bit (g i : Nat) (h : g ≤ 255) (hi : i < 8) : True := trivial
set_option maxHeartbeats 8000000 in
theorem order_law (b0 b1 b2 b3 b4 b5 b6 b7 g a0 a1 a2 a3 : Nat) (w : World) (hb0 : b0 ≤ 255 ∧ b1 ≤ 255 ∧ b2 ≤ 255 ∧ b3 ≤ 255 ∧ b4 ≤ 255 ∧ b5 ≤ 255 ∧ b6 ≤ 255 ∧ b7 ≤ 255) (hg : g ≤ 255) (ha0 : a0 ≤ 255 ∧ a1 ≤ 255 ∧ a2 ≤ 255 ∧ a3 ≤ 255) :
    Calls Tryz.prog 4 #[.agg #[.int .u8 (b0 : Int), .int .u8 (b1 : Int), .int .u8 (b2 : Int), .int .u8 (b3 : Int), .int .u8 (b4 : Int), .int .u8 (b5 : Int), .int .u8 (b6 : Int), .int .u8 (b7 : Int)], .int .u8 (g : Int), .agg #[.int .u8 (a0 : Int), .int .u8 (a1 : Int), .int .u8 (a2 : Int), .int .u8 (a3 : Int)]] w fun e w' => e = .returned (.bool true) ∧ Below w.heap.size w w' := by
  have HBY : Hid (∀ i, i < 8 → ∃ b : Nat, (#[.int .u8 (b0 : Int), .int .u8 (b1 : Int), .int .u8 (b2 : Int), .int .u8 (b3 : Int), .int .u8 (b4 : Int), .int .u8 (b5 : Int), .int .u8 (b6 : Int), .int .u8 (b7 : Int)] : Array Value)[i]? = some (.int .u8 (b : Int)) ∧ b ≤ 255) := Lib.hid fun i hi => by
    match i, hi with
    | 0, _ => exact ⟨b0, rfl, hb0.1⟩
    | 1, _ => exact ⟨b1, rfl, hb0.2.1⟩
    | 2, _ => exact ⟨b2, rfl, hb0.2.2.1⟩
    | 3, _ => exact ⟨b3, rfl, hb0.2.2.2.1⟩
    | 4, _ => exact ⟨b4, rfl, hb0.2.2.2.2.1⟩
    | 5, _ => exact ⟨b5, rfl, hb0.2.2.2.2.2.1⟩
    | 6, _ => exact ⟨b6, rfl, hb0.2.2.2.2.2.2.1⟩
    | 7, _ => exact ⟨b7, rfl, hb0.2.2.2.2.2.2.2⟩
  have HAG : Hid (∀ i, i < 4 → ∃ b : Nat, (#[.int .u8 (a0 : Int), .int .u8 (a1 : Int), .int .u8 (a2 : Int), .int .u8 (a3 : Int)] : Array Value)[i]? = some (.int .u8 (b : Int)) ∧ b ≤ 255) := Lib.hid fun i hi => by
    match i, hi with
    | 0, _ => exact ⟨a0, rfl, ha0.1⟩
    | 1, _ => exact ⟨a1, rfl, ha0.2.1⟩
    | 2, _ => exact ⟨a2, rfl, ha0.2.2.1⟩
    | 3, _ => exact ⟨a3, rfl, ha0.2.2.2⟩
  have HWK := Lib.hid works_any
  clear hb0 ha0
  obtain ⟨i0, hi0, hz0, hz1, hz2⟩ := info_parts oint_info
  go_enter Tryz.func4, Tryz.ntmps4
  go_upto_region 3 with (go_at_call 11; (with_reducible refine (HWK.out _).mono ?_); rintro e w0 ⟨rfl, bw⟩)
  obtain ⟨byA, hbyA⟩ : ∃ x : Array Value, x = #[.int .u8 (b0 : Int), .int .u8 (b1 : Int), .int .u8 (b2 : Int), .int .u8 (b3 : Int), .int .u8 (b4 : Int), .int .u8 (b5 : Int), .int .u8 (b6 : Int), .int .u8 (b7 : Int)] := ⟨_, rfl⟩
  obtain ⟨agA, hagA⟩ : ∃ x : Array Value, x = #[.int .u8 (a0 : Int), .int .u8 (a1 : Int), .int .u8 (a2 : Int), .int .u8 (a3 : Int)] := ⟨_, rfl⟩
  rw [← hbyA] at HBY
  rw [← hagA] at HAG
  have hb00 : Below w.heap.size w ((w.alloc (.cells byA 49)).alloc (.cells agA 50)) := ((Below.refl _ w).alloc (Nat.le_refl _) _).alloc (by rw [World.size_alloc]; omega) _
  have m0 : Blk ((w.alloc (.cells byA 49)).alloc (.cells agA 50)) w.heap.size 49 byA := (Blk.new w 49 _).below ((Below.refl _ _).alloc (Nat.le_refl _) _) (by rw [World.size_alloc]; omega)
  have s0 : Blk ((w.alloc (.cells byA 49)).alloc (.cells agA 50)) (w.heap.size + 1) 50 agA := by have := Blk.new (w.alloc (.cells byA 49)) 50 agA; rw [World.size_alloc] at this; exact this
  rw [hbyA, hagA] at hb00 m0 s0
  have bb0 : Below w.heap.size w w0 := hb00.trans (bw.mono hb00.size)
  replace m0 := m0.below bw m0.lt
  replace s0 := s0.below bw s0.lt
  rw [← hbyA] at m0
  rw [← hagA] at s0
  clear hb00 bw hbyA hagA HWK
  go_upto_region 4 with (go_at_call 8; refine (here_any _).mono ?_; rintro e w1 ⟨rfl, b1'⟩)
  have n1 : Blk (w1.alloc (.cells hereCs 24)) w1.heap.size 24 hereCs := Blk.new w1 _ _
  have b1V : Below w0.heap.size w0 (w1.alloc (.cells hereCs 24)) := b1'.alloc b1'.size _
  generalize hV : (w1.alloc _) = V at *
  have mV := m0.below b1V m0.lt
  have sV := s0.below b1V s0.lt
  have bV : Below w.heap.size w V := bb0.trans (b1V.mono bb0.size)
  clear hV m0 s0 bb0 b1V b1'
  generalize w1.heap.size = bm at *
  obtain ⟨d0, d1, d2⟩ := hereC n1
  have HSz := Lib.hid (size_any hereM V here_ok)
  have HP3 := Lib.hid fun W => place_any 3 W (by decide) (kI := 3) rfl
  have HP0 := Lib.hid fun W => place_any 0 W (by decide) (kI := 0) rfl
  have HB := Lib.hid bV
  have HM := Lib.hid mV
  have HS := Lib.hid sV
  have HN := Lib.hid n1
  clear bV mV sV n1
  go_upto_region 5 with (first
    | (go_at_call 10; (with_reducible refine HSz.out.mono ?_); rintro e w2 ⟨rfl, b2'⟩; have HNw := Lib.hid (vnew w2 rfl))
    | (go_at_call 9; (with_reducible refine HNw.out.mono ?_); rintro e w3 ⟨C, S, mm, rfl, hq, b3', hC, hS⟩))
  have b23 : Below V.heap.size V w3 := b2'.trans (b3'.mono b2'.size)
  have HOB := Lib.hid (show OB w3 w.heap.size C S bm w.heap.size (w.heap.size + 1) (fun _ => 0) byA agA [] [] 0 from by
    have l1 := HN.out.lt
    have l2 := HM.out.lt
    have l3 := HS.out.lt
    have l4 := HB.out.size
    have l5 := b2'.size
    have l6 := b23.size
    exact ⟨⟨mm, 0, hq, by omega, by omega⟩, HN.out.below b23 l1, HM.out.below b23 l2, HS.out.below b23 l3, ⟨rfl, rfl, rfl, rfl, rfl⟩, ⟨⟨by omega, by omega⟩, ⟨by omega, by omega⟩, ⟨by omega, by omega⟩⟩, ⟨by omega, by omega, by omega⟩⟩)
  have HB3 := Lib.hid (HB.out.trans (b23.mono HB.out.size))
  clear d0 d1 d2 hq hC hS b2' b3' b23 HB HM HS HN HSz HNw
  have hmk := make_8
  obtain ⟨p3, hp3⟩ : ∃ a : Int, a = (placeN 3 : Nat) := ⟨_, rfl⟩
  obtain ⟨p0, hp0⟩ : ∃ a : Int, a = (placeN 0 : Nat) := ⟨_, rfl⟩
  rw [← hp3] at HP3
  rw [← hp0] at HP0
  have HA3 := Lib.hid hp3
  have HA0 := Lib.hid hp0
  clear hp3 hp0
  go_upto_region 8 with (first
    | (go_at_call 12; (with_reducible refine (HP3.out _).mono ?_); rintro e w4 ⟨rfl, hb⟩; have HOB := Lib.hid (HOB.out.below hb); have HB3 := Lib.hid (HB3.out.trans (hb.mono HB3.out.size)); clear hb)
    | (go_at_call 12; (with_reducible refine (HP0.out _).mono ?_); rintro e w5 ⟨rfl, hb⟩; have HOB := Lib.hid (HOB.out.below hb); have HB3 := Lib.hid (HB3.out.trans (hb.mono HB3.out.size)); clear hb))
  have sB : Blk (w5.alloc (.cells (intsA (seenL [])) 3)) w5.heap.size 3 (intsA (seenL [])) := Blk.new w5 _ _
  have b6 : Below w5.heap.size w5 (w5.alloc (.cells (intsA (seenL [])) 3)) := (Below.refl _ w5).alloc (Nat.le_refl _) _
  generalize w5.alloc (.cells (intsA (seenL [])) 3) = w6 at *
  have HO6 := Lib.hid (HOB.out.keep (lab' := labN w5 (fun _ => 0) 4) (F := fun _ => False) (Keep.ofBelow b6) (fun _ h => h.elim) (fun x hx => labN_old hx))
  have hl4 : labN w5 (fun _ => 0) 4 w5.heap.size = 4 := labN_new (Nat.le_refl _)
  have HB6 := Lib.hid (HB3.out.trans (b6.mono HB3.out.size))
  have HSE := Lib.hid sB
  have HL4 := Lib.hid hl4
  have HSN := Lib.hid (show w.heap.size ≤ w5.heap.size from HB3.out.size)
  clear sB b6 HOB HB3 hl4 hmk HP3 HP0
  generalize labN w5 (fun _ => 0) 4 = lab6 at *
  generalize w5.heap.size = sn at *
  go_wp2_with fail
  go_loopw [11, 13] (fun v11 v13 wr => ∃ (i : Nat) (order : List Int) (lab : Nat → Nat), i ≤ 8 ∧ order.length = i ∧ v13 = .int .i64 (i : Int) ∧ OB wr w.heap.size C S bm w.heap.size (w.heap.size + 1) lab byA agA [] [] 0 ∧ RowL wr w.heap.size lab 1 v11 order ∧ Blk wr sn 3 (intsA (seenL order)) ∧ lab sn = 4 ∧ Two order [] ∧ Below w.heap.size w wr)
    (fun _ v13 _ => 8 - (intOf v13).toNat)
  case atStart => exact ⟨0, [], lab6, by omega, rfl, rfl, HO6.out, RowL.nil _ _ _ _, HSE.out, HL4.out, Two.nil, HB6.out⟩
  case round =>
    clear HO6 HSE HL4 HB6
    obtain ⟨i, order, lab, hi, hol, rfl, ho, hr, hs, hl, hT, hb⟩ := hrel
    have HO := Lib.hid ho
    have HR := Lib.hid hr
    have HSE := Lib.hid hs
    have HL := Lib.hid hl
    have HT := Lib.hid hT
    have HB := Lib.hid hb
    have HOL := Lib.hid hol
    clear ho hr hs hl hT hb hol
    by_cases hlt : i < 8
    · obtain ⟨b, hbi, hb255⟩ := HBY.out i hlt
      have c0 : wr.cell? ⟨w.heap.size, i, none⟩ = some (.int .u8 (b : Int)) := HO.out.by'.cell _ _ hbi
      have hI : (0 : Int) ≤ (i : Int) ∧ (i : Int) < 8 := by omega
      have hmod : ((b : Int).tmod 8) = ((b % 8 : Nat) : Int) := rfl
      have hm8 : b % 8 < 8 := Nat.mod_lt _ (by omega)
      clear hbi hb255
      generalize b % 8 = t0 at *
      have ht0 : (0 : Int) ≤ (t0 : Int) ∧ (t0 : Int) < 8 := by omega
      go_upto_region 12 with fail
      obtain ⟨f, hf, hfo⟩ := free_one order (by have := HOL.out; omega)
      have HFr := Lib.hid hfo
      clear hfo c0 hmod
      generalize wr = wt at *
      go_wp2_with fail
      go_loopw [14] (fun v14 wr => ∃ t : Nat, t < 8 ∧ v14 = .int .i64 (t : Int) ∧ wr = wt)
        (fun v14 _ => (f + 8 - (intOf v14).toNat) % 8)
      case atStart => exact ⟨t0, hm8, rfl, rfl⟩
      case round =>
        clear ht0 hm8
        obtain ⟨t, ht, rfl, rfl⟩ := hrel
        have cs := seen_cell HSE.out t ht
        have hIx := oidx 8 8 sn t ht
        have htI : (0 : Int) ≤ (t : Int) ∧ (t : Int) < 8 := by omega
        by_cases hin : (t : Int) ∈ order
        · rw [if_pos hin] at cs
          have hne : t ≠ f := fun e => HFr.out (e ▸ hin)
          have hmod : (((t : Int) + 1).tmod 8) = (((t + 1) % 8 : Nat) : Int) := rfl
          have hfw := free_way f t hf ht hne
          have hm2 : (t + 1) % 8 < 8 := Nat.mod_lt _ (by omega)
          clear hin hne
          generalize (t + 1) % 8 = t1 at *
          have ht1 : (0 : Int) ≤ (t1 : Int) ∧ (t1 : Int) < 8 := by omega
          have HFW := Lib.hid hfw
          clear hfw
          go_wp2
          go_roundw
          case rel => exact ⟨t1, hm2, rfl, by first | trivial | rfl⟩
          case measure => exact HFW.out
        · rw [if_neg hin] at cs
          have HIN := Lib.hid hin
          have fz := HSE.out.free t
          clear hin
          go_upto_region 15 with fail
          have kS : Keep (fun b => b = sn) wr (wr.setCell ⟨sn, t, none⟩ (.int .i64 1)) := (Keep.refl (fun b => b = sn) wr).set (p := ⟨sn, t, none⟩) (fun _ => rfl) _
          have hsq := seen_put HSE.out t ht
          have HBq := Lib.hid (HB.out.setCell (p := ⟨sn, t, none⟩) HSN.out (.int .i64 1))
          have HRq := Lib.hid (HR.out.keep (lab' := lab) kS (fun b e h => by rw [e, HL.out] at h; omega) (fun _ _ => rfl))
          have HOq := Lib.hid (HO.out.keep (lab' := lab) kS (fun b e h => by rw [e, HL.out] at h; omega) (fun _ _ => rfl))
          have HSq := Lib.hid hsq
          clear cs fz kS hsq
          generalize wr.setCell ⟨sn, t, none⟩ (.int .i64 1) = wq at *
          have HN0 := Lib.hid HOq.out.lo.2.2
          have hln : order.length ≤ 8 := by have := HOL.out; omega
          go_wp2_with (at_builtin; refine wpList_append_own2 _ rfl _ _ 37 rfl w.heap.size 3 i0 (.int .i64 0) 1 8 Tryz.underlying37 hi0 hz0 hz1 hz2 rfl (by decide) _ _ _ rfl (HRq.out.own.alloc _) ⟨wq.heap.size, 0, none⟩ 1 1 [.int .i64 (t : Int)] rfl rfl (cell_one_new _ _ _) (by simp [Value.oneCell']) (by unfold maxLen; omega) (by omega) (by rw [World.size_alloc]; have := HN0.out; omega) (by omega) ?_; intro g2 cap2 w2 hr2 hgr2 hg2)
          have kg := grown_keep hgr2
          have HO2 := Lib.hid (HOq.out.keep (lab' := labN wq lab 1) kg (fun x hx => by rw [HRq.out.lab x hx]; omega) (fun x hx => labN_old hx))
          have HR2 := Lib.hid (HRq.out.snoc ((Keep.refl (fun _ => False) wq).alloc _) hr2 hg2)
          have HS2 := Lib.hid (HSq.out.keep kg (fun h => by have := HRq.out.lab _ h; have := HL.out; omega))
          have HL2 := Lib.hid (show labN wq lab 1 sn = 4 by rw [labN_old HSq.out.lt]; exact HL.out)
          have HB2 := Lib.hid (HBq.out.trans (grown_below hgr2 HRq.out.own HN0.out))
          clear hr2 hgr2 hg2 kg
          go_roundw
          case rel => exact ⟨i + 1, order ++ [(t : Int)], _, hlt, by simp [HOL.out], by go_num, HO2.out, HR2.out, HS2.out, HL2.out, HT.out.add htI (by simpa using HIN.out), HB2.out⟩
          case measure => simp [intOf]; omega
    · have HI8 := Lib.hid (show i = 8 by omega)
      have HOL := Lib.hid (show order.length = 8 from HOL.out.trans HI8.out)
      have hi8n : ¬ (i : Int) < 8 := by omega
      have HND := Lib.hid (show order.Nodup from by have := HT.out.nod; simpa using this)
      have hrs := HR.out.shape
      rcases hrs with ⟨_, e0⟩ | ⟨g1, cap1, rfl, _, hg1, _, _, _⟩
      · exfalso
        have := HOL.out
        rw [e0] at this
        simp at this
      have HG1 := Lib.hid hg1
      clear hlt hi hg1 HSE HL HSN HBY
      generalize wr = wt at *
      go_wp2_with fail
      clear hi8n
      go_loopw [15] (fun v15 wq => ∃ i : Nat, i ≤ 8 ∧ v15 = .int .i64 (i : Int) ∧ OB wq w.heap.size C S bm w.heap.size (w.heap.size + 1) lab byA agA (order.take i) [] (50 * (i : Int)) ∧ RowL wq w.heap.size lab 1 (.slice (some ⟨g1, 0, none⟩) order.length cap1) order ∧ Below w.heap.size w wq)
        (fun v15 _ => 8 - (intOf v15).toNat)
      case atStart => exact ⟨0, by omega, rfl, by simpa using HO.out, HR.out, HB.out⟩
      case round =>
        clear HO HR HB
        obtain ⟨i, hi, rfl, ho, hr, hb⟩ := hrel
        have HO := Lib.hid ho
        have HR := Lib.hid hr
        have HB := Lib.hid hb
        clear ho hr hb
        by_cases hlt : i < 8
        · obtain ⟨x, hx⟩ : ∃ x, order[i]? = some x := ⟨_, List.getElem?_eq_getElem (by have := HOL.out; omega)⟩
          have hxr := two_in HT.out (.inl (List.mem_of_getElem? hx))
          have hIx := oidx order.length cap1 g1 i (by have := HOL.out; omega)
          have hi8 : (i : Int) < 8 := by omega
          have hil : (0 : Int) ≤ (i : Int) ∧ (i : Int) < (order.length : Int) := by have := HOL.out; omega
          have bd := bdrewE wr
          have HOd := Lib.hid (HO.out.below bd)
          have HRd := Lib.hid (HR.out.keep (F := fun _ => False) (lab' := lab) (Keep.ofBelow bd) (fun _ h => h.elim) (fun _ _ => rfl))
          have HX := Lib.hid hx
          have HP := Lib.hid (opush3 HA3.out HOd.out hxr (take_notin HND.out hx) (by simp) (by omega))
          have SK := Lib.hid (show ∀ A, OB A w.heap.size C S bm w.heap.size (w.heap.size + 1) lab byA agA (order.take i) [] (50 * (i : Int)) → RowL A w.heap.size lab 1 (.slice (some ⟨g1, 0, none⟩) order.length cap1) order → (A.cell? ⟨bm, 0, none⟩ = some (.int .i64 (hereM.t : Int)) ∧ A.cell? ⟨bm, 1, none⟩ = some (.int .i64 (hereM.o : Int)) ∧ A.cell? ⟨bm, 2, none⟩ = some (.int .i64 (hereM.n : Int))) ∧ A.cell? ⟨g1, i, none⟩ = some (.int .i64 x) from fun A h1 h2 => ⟨hereC h1.m, h2.cellAt HX.out⟩)
          clear hx hxr bd
          go_upto_region 19 with fail
          go_region_held3 (fun A : World => (A.cell? ⟨bm, 0, none⟩ = some (.int .i64 (hereM.t : Int)) ∧ A.cell? ⟨bm, 1, none⟩ = some (.int .i64 (hereM.o : Int)) ∧ A.cell? ⟨bm, 2, none⟩ = some (.int .i64 (hereM.n : Int))) ∧ A.cell? ⟨g1, i, none⟩ = some (.int .i64 x)) (first | exact SK.out _ HOd.out HRd.out | exact ⟨hereC h2.m, hr2.cellAt HX.out⟩) (first
            | (go_at_call 27; (with_reducible refine HP.out.mono ?_); rintro e w2 ⟨rfl, n2, ha2⟩; have h2 := HOd.out.aft ha2; have hr2 := HRd.out.aft ha2 ⟨HOd.out.zero.1, HOd.out.zero.2.1⟩ (by omega)))
          have HB2 := Lib.hid ((HB.out.trans ((bdrewE wr).mono HB.out.size)).trans (ha2.2.below (by have := HB.out.size; exact this) (fun b _ hbc => by rcases hbc with h | h <;> (have := HOd.out.lo; omega))))
          rw [← take_snoc_w HX.out] at h2
          go_wp2
          go_roundw
          case rel => exact ⟨i + 1, hlt, by go_num, by rw [show (50 * ((i + 1 : Nat) : Int)) = 50 * (i : Int) + 50 by omega]; exact h2, hr2, HB2.out⟩
          case measure => simp [intOf]; omega
        · have HI9 := Lib.hid (show i = 8 by omega)
          have hi8n : ¬ (i : Int) < 8 := by omega
          have HO8 := Lib.hid (show OB wr w.heap.size C S bm w.heap.size (w.heap.size + 1) lab byA agA ([] ++ order.drop 0) [] 400 from by have := HO.out; rw [List.take_of_length_le (by have := HOL.out; have := HI9.out; omega), HI9.out] at this; simpa using this)
          clear HO hlt hi
          generalize wr = wt at *
          go_wp2_with fail
          clear hi8n
          go_loopw [16, 17, 18] (fun v16 v17 v18 wq => ∃ (i : Nat) (left out : List Int) (lb : Nat → Nat) (bb : Int), i ≤ 8 ∧ bb = 400 + 100 * (i : Int) ∧ v18 = .int .i64 (i : Int) ∧ OB wq w.heap.size C S bm w.heap.size (w.heap.size + 1) lb byA agA (left ++ order.drop i) out bb ∧ RowL wq w.heap.size lb 1 (.slice (some ⟨g1, 0, none⟩) order.length cap1) order ∧ RowL wq w.heap.size lb 2 v16 left ∧ RowL wq w.heap.size lb 3 v17 out ∧ Two (left ++ order.drop i) out ∧ left.length ≤ i ∧ out.length ≤ i ∧ Below w.heap.size w wq)
            (fun _ _ v18 _ => 8 - (intOf v18).toNat)
          case atStart => exact ⟨0, [], [], lab, 400, by omega, by omega, rfl, HO8.out, HR.out, RowL.nil _ _ _ _, RowL.nil _ _ _ _, by simpa using HT.out, by simp, by simp, HB.out⟩
          case round =>
            clear HO8 HR HB HT
            obtain ⟨i, left, out, lb, bb, hi, hbb, rfl, ho, hr, hl, hu, hT, hll, hul, hb⟩ := hrel
            have HO := Lib.hid ho
            have HR := Lib.hid hr
            have HLf := Lib.hid hl
            have HU := Lib.hid hu
            have HT := Lib.hid hT
            have HB := Lib.hid hb
            have HLL := Lib.hid (And.intro hll hul)
            have HBB := Lib.hid hbb
            clear ho hr hl hu hT hb hll hul hbb
            by_cases hlt : i < 8
            · obtain ⟨x, hx⟩ : ∃ x, order[i]? = some x := ⟨_, List.getElem?_eq_getElem (by have := HOL.out; omega)⟩
              have HX := Lib.hid hx
              have HT2 := Lib.hid (show Two (left ++ x :: order.drop (i + 1)) out from by have := HT.out; rw [drop_cons hx] at this; exact this)
              have HO2 := Lib.hid (show OB wr w.heap.size C S bm w.heap.size (w.heap.size + 1) lb byA agA (left ++ x :: order.drop (i + 1)) out bb from by have := HO.out; rw [drop_cons hx] at this; exact this)
              have hIx := oidx order.length cap1 g1 i (by have := HOL.out; omega)
              have hi8 : (i : Int) < 8 := by omega
              have hiI : (0 : Int) ≤ (i : Int) ∧ (i : Int) < 8 := by omega
              have hil : (0 : Int) ≤ (i : Int) ∧ (i : Int) < (order.length : Int) := by have := HOL.out; omega
              clear hx HO HT
              have SK := Lib.hid (show ∀ A, Blk A bm 24 hereCs → (∀ (l2 : Nat → Nat), RowL A w.heap.size l2 1 (.slice (some ⟨g1, 0, none⟩) order.length cap1) order → (A.cell? ⟨bm, 0, none⟩ = some (.int .i64 (hereM.t : Int)) ∧ A.cell? ⟨bm, 1, none⟩ = some (.int .i64 (hereM.o : Int)) ∧ A.cell? ⟨bm, 2, none⟩ = some (.int .i64 (hereM.n : Int))) ∧ A.cell? ⟨g1, i, none⟩ = some (.int .i64 x)) from fun A h1 l2 h2 => ⟨hereC h1, h2.cellAt HX.out⟩)
              cases htb : (bits BinOp.and IntKind.u8 ((g : Int) / 2 ^ i) 1 == (1 : Int)) with
              | true =>
                have bd := bdrewE wr
                have HOd := Lib.hid (HO2.out.below bd)
                have HRd := Lib.hid (HR.out.below bd)
                have HLd := Lib.hid (HLf.out.below bd)
                have HUd := Lib.hid (HU.out.below bd)
                have HBd := Lib.hid (HB.out.trans (bd.mono HB.out.size))
                have HXn := Lib.hid (two_mid HT2.out)
                have hbbI : bb ≤ 2000 := by have := HBB.out; omega
                have HP := Lib.hid (orem3 HA3.out HOd.out HT2.out (by omega))
                clear bd
                go_upto_region 26 with fail
                go_region_held3 (fun A : World => (A.cell? ⟨bm, 0, none⟩ = some (.int .i64 (hereM.t : Int)) ∧ A.cell? ⟨bm, 1, none⟩ = some (.int .i64 (hereM.o : Int)) ∧ A.cell? ⟨bm, 2, none⟩ = some (.int .i64 (hereM.n : Int))) ∧ A.cell? ⟨g1, i, none⟩ = some (.int .i64 x)) (first | exact SK.out _ HOd.out.m _ HRd.out | exact SK.out _ h2.m _ hr2 | exact SK.out _ h3.m _ hr3) (first
                  | (go_at_call 28; (with_reducible refine HP.out.mono ?_); rintro e w2 ⟨rfl, n2, ha2⟩; have h2 := HOd.out.aft ha2; have hr2 := HRd.out.aft ha2 ⟨HOd.out.zero.1, HOd.out.zero.2.1⟩ (by omega); have HP2 := Lib.hid (opush0 HA0.out h2 HXn.out.2.2 HXn.out.1 HXn.out.2.1 (by omega)))
                  | (go_at_call 27; (with_reducible refine HP2.out.mono ?_); rintro e w3 ⟨rfl, n3, ha3⟩; have h3 := h2.aft ha3; have hr3 := hr2.aft ha3 ⟨HOd.out.zero.1, HOd.out.zero.2.1⟩ (by omega)))
                have hl3 := (HLd.out.aft ha2 ⟨HOd.out.zero.1, HOd.out.zero.2.1⟩ (by omega)).aft ha3 ⟨HOd.out.zero.1, HOd.out.zero.2.1⟩ (by omega)
                have hu3 := (HUd.out.aft ha2 ⟨HOd.out.zero.1, HOd.out.zero.2.1⟩ (by omega)).aft ha3 ⟨HOd.out.zero.1, HOd.out.zero.2.1⟩ (by omega)
                have HO3 := Lib.hid h3
                have HR3 := Lib.hid hr3
                have HL3 := Lib.hid hl3
                have HU3 := Lib.hid hu3
                have HB3 := Lib.hid ((HBd.out.trans (HOd.out.outside ha2)).trans (h2.outside ha3))
                have hul : out.length ≤ 8 := by have := HLL.out; omega
                have HN0 := Lib.hid HO3.out.lo.2.2
                have c0 : w3.cell? ⟨g1, i, none⟩ = some (.int .i64 x) := HR3.out.cellAt HX.out
                clear h2 h3 hr2 hr3 hl3 hu3 ha2 ha3
                go_wp2_with (at_builtin; refine wpList_append_own2 _ rfl _ _ 37 rfl w.heap.size 3 i0 (.int .i64 0) 1 8 Tryz.underlying37 hi0 hz0 hz1 hz2 rfl (by decide) _ _ _ rfl (HU3.out.own.alloc _) ⟨w3.heap.size, 0, none⟩ 1 1 [.int .i64 x] rfl rfl (cell_one_new _ _ _) (by simp [Value.oneCell']) (by unfold maxLen; omega) (by omega) (by rw [World.size_alloc]; have := HN0.out; omega) (by omega) ?_; intro g4 cap4 w4 hr4 hgr4 hg4)
                have kg := grown_keep hgr4
                have lold : ∀ y, y < w3.heap.size → labN w3 lb 3 y = lb y := fun y hy => labN_old hy
                have HO4 := Lib.hid (HO3.out.keep (lab' := labN w3 lb 3) kg (fun y hy => by rw [HU3.out.lab y hy]; omega) lold)
                have HR4 := Lib.hid (HR3.out.keep (lab' := labN w3 lb 3) kg (fun y hy => by rw [HU3.out.lab y hy]; omega) lold)
                have HL4 := Lib.hid (HL3.out.keep (lab' := labN w3 lb 3) kg (fun y hy => by rw [HU3.out.lab y hy]; omega) lold)
                have HU4 := Lib.hid (HU3.out.snoc ((Keep.refl (fun _ => False) w3).alloc _) hr4 hg4)
                have HB4 := Lib.hid (HB3.out.trans (grown_below hgr4 HU3.out.own HN0.out))
                have HT4 := Lib.hid HT2.out.over
                clear hr4 hgr4 hg4 kg lold c0
                go_roundw
                case rel => exact ⟨i + 1, left, out ++ [x], _, bb + 50 + 50, hlt, by have := HBB.out; omega, by go_num, HO4.out, HR4.out, HL4.out, HU4.out, HT4.out, by have := HLL.out; omega, by simp; have := HLL.out; omega, HB4.out⟩
                case measure => simp [intOf]; omega
              | false =>
                have hll : left.length ≤ 8 := by have := HLL.out; omega
                have HN0 := Lib.hid HO2.out.lo.2.2
                have c0 : wr.cell? ⟨g1, i, none⟩ = some (.int .i64 x) := HR.out.cellAt HX.out
                go_wp2_with (at_builtin; refine wpList_append_own2 _ rfl _ _ 37 rfl w.heap.size 3 i0 (.int .i64 0) 1 8 Tryz.underlying37 hi0 hz0 hz1 hz2 rfl (by decide) _ _ _ rfl (HLf.out.own.alloc _) ⟨wr.heap.size, 0, none⟩ 1 1 [.int .i64 x] rfl rfl (cell_one_new _ _ _) (by simp [Value.oneCell']) (by unfold maxLen; omega) (by omega) (by rw [World.size_alloc]; have := HN0.out; omega) (by omega) ?_; intro g4 cap4 w4 hr4 hgr4 hg4)
                have kg := grown_keep hgr4
                have lold : ∀ y, y < wr.heap.size → labN wr lb 2 y = lb y := fun y hy => labN_old hy
                have HO4 := Lib.hid (HO2.out.keep (lab' := labN wr lb 2) kg (fun y hy => by rw [HLf.out.lab y hy]; omega) lold)
                have HR4 := Lib.hid (HR.out.keep (lab' := labN wr lb 2) kg (fun y hy => by rw [HLf.out.lab y hy]; omega) lold)
                have HU4 := Lib.hid (HU.out.keep (lab' := labN wr lb 2) kg (fun y hy => by rw [HLf.out.lab y hy]; omega) lold)
                have HL4 := Lib.hid (HLf.out.snoc ((Keep.refl (fun _ => False) wr).alloc _) hr4 hg4)
                have HB4 := Lib.hid (HB.out.trans (grown_below hgr4 HLf.out.own HN0.out))
                clear hr4 hgr4 hg4 kg lold c0
                go_roundw
                case rel => exact ⟨i + 1, left ++ [x], out, _, bb + 100, hlt, by have := HBB.out; omega, by go_num, by have := HO4.out.more (b' := bb + 100) (by omega); simpa using this, HR4.out, HL4.out, HU4.out, by have := HT2.out; simpa using this, by simp; have := HLL.out; omega, by have := HLL.out; omega, HB4.out⟩
                case measure => simp [intOf]; omega
            · have HI10 := Lib.hid (show i = 8 by omega)
              have hi8n : ¬ (i : Int) < 8 := by omega
              have HOA := Lib.hid (show OB wr w.heap.size C S bm w.heap.size (w.heap.size + 1) lb byA agA left out 1200 from by
                have := HO.out
                rw [HI10.out, List.drop_eq_nil_of_le (by have := HOL.out; omega), List.append_nil] at this
                exact this.more (by have := HBB.out; have := HI10.out; omega))
              have HTA := Lib.hid (show Two left out from by
                have := HT.out
                rw [HI10.out, List.drop_eq_nil_of_le (by have := HOL.out; omega), List.append_nil] at this
                exact this)
              have HLen := Lib.hid (show left.length + out.length ≤ 8 from by have := nodup_len0 (k := 8) HTA.out.nod (fun u hu => by have := HTA.out.low u hu; omega); simpa using this)
              clear hlt hi HO HT HR HBB HLL HND HG1
              obtain ⟨d0, d1, d2⟩ := hereC HOA.out.m
              have HK3 := Lib.hid (olook3 HA3.out HOA.out)
              go_upto_region 32 with (first
                | (go_at_call 25; (with_reducible refine HK3.out.mono ?_); rintro e w2 ⟨va, rfl, hra, b2⟩; clear HK3; have HI3 := Lib.hid (qints_same va _ _ _ left w2 hra (HLf.out.below b2).rowN (by have := HLen.out; omega)))
                | (go_at_call 24; (with_reducible refine HI3.out.mono ?_); rintro e w3 ⟨rfl, b3⟩; have bb3 : Below wr.heap.size wr w3 := b2.trans (b3.mono b2.size); clear d0 d1 d2; obtain ⟨d0, d1, d2⟩ := hereC (HOA.out.below bb3).m; have HK0 := Lib.hid (olook0 HA0.out (HOA.out.below bb3)))
                | (go_at_call 25; (with_reducible refine HK0.out.mono ?_); rintro e w4 ⟨vb, rfl, hrb, b4⟩; have bb4 : Below wr.heap.size wr w4 := bb3.trans (b4.mono bb3.size); have HI4 := Lib.hid (qints_same vb _ _ _ out w4 hrb (HU.out.below bb4).rowN (by have := HLen.out; omega)))
                | (go_at_call 24; (with_reducible refine HI4.out.mono ?_); rintro e w5 ⟨rfl, b5⟩; have bb5 : Below wr.heap.size wr w5 := bb4.trans (b5.mono bb4.size)))
              have HO5 := Lib.hid (HOA.out.below bb5)
              have HL5 := Lib.hid (HLf.out.below bb5)
              have HU5 := Lib.hid (HU.out.below bb5)
              have HB5 := Lib.hid (HB.out.trans (bb5.mono HB.out.size))
              clear d0 d1 d2 hra hrb b2 b3 b4 b5 bb3 bb4 bb5 HI3 HI4 HK0 HLf HU HB HOA hi8n
              go_wp2_with fail
              go_loopw [16, 17, 19] (fun v16 v17 v19 wq => ∃ (j : Nat) (left out : List Int) (lb : Nat → Nat) (bb : Int), j ≤ 4 ∧ bb = 1200 + 100 * (j : Int) ∧ v19 = .int .i64 (j : Int) ∧ OB wq w.heap.size C S bm w.heap.size (w.heap.size + 1) lb byA agA left out bb ∧ RowL wq w.heap.size lb 2 v16 left ∧ RowL wq w.heap.size lb 3 v17 out ∧ Two left out ∧ left.length + out.length ≤ 8 ∧ Below w.heap.size w wq)
                (fun _ _ v19 _ => 4 - (intOf v19).toNat)
              case atStart => exact ⟨0, left, out, lb, 1200, by omega, by omega, rfl, HO5.out, HL5.out, HU5.out, HTA.out, HLen.out, HB5.out⟩
              case round =>
                clear HO5 HL5 HU5 HB5 HTA HLen
                obtain ⟨j, left, out, lb, bb, hj, hbb, rfl, ho, hl, hu, hT, hll, hb⟩ := hrel
                obtain ⟨ua, uc, rfl⟩ := hu.form
                have HO := Lib.hid ho
                have HLf := Lib.hid hl
                have HU := Lib.hid hu
                have HT := Lib.hid hT
                have HB := Lib.hid hb
                have HLL := Lib.hid hll
                have HBB := Lib.hid hbb
                clear ho hl hu hT hb hll hbb
                by_cases hgo : j < 4 ∧ 0 < out.length
                · obtain ⟨b, hbi, hb255⟩ := HAG.out j hgo.1
                  have hsh := HU.out.shape
                  rcases hsh with ⟨_, e0⟩ | ⟨gu, cu, e1, hgu, hgl, _, hcu, hcl⟩
                  · exfalso
                    rw [e0] at hgo
                    simp at hgo
                  obtain ⟨e2, e3⟩ : ua = some ⟨gu, 0, none⟩ ∧ uc = cu := by simpa using e1
                  subst e2 e3
                  have c0 : wr.cell? ⟨w.heap.size + 1, j, none⟩ = some (.int .u8 (b : Int)) := HO.out.ag.cell _ _ hbi
                  have hjI : (0 : Int) ≤ (j : Int) ∧ (j : Int) < 4 := by omega
                  have hoI : (0 : Int) < (out.length : Int) := by omega
                  have hnz : ¬ (out.length : Int) = 0 := by omega
                  have hmod : ((b : Int).tmod (out.length : Int)) = ((b % out.length : Nat) : Int) := rfl
                  have hk : b % out.length < out.length := Nat.mod_lt _ hgo.2
                  have hbw : (0 : Int) ≤ (b : Int) ∧ (b : Int) ≤ 255 := by omega
                  have HGU := Lib.hid (And.intro hgu (And.intro hgl (And.intro hcu hcl)))
                  clear hbi hb255 e1 hgu hgl hcl
                  generalize b % out.length = k at *
                  obtain ⟨x, hx⟩ : ∃ x, out[k]? = some x := ⟨_, List.getElem?_eq_getElem hk⟩
                  have hkI : (0 : Int) ≤ (k : Int) ∧ (k : Int) < (out.length : Int) := by omega
                  have hIx := oidx out.length uc gu k hk
                  have c1 : wr.cell? ⟨gu, k, none⟩ = some (.int .i64 x) := HGU.out.2.2.2 k x hx
                  have hcut : out = out.take k ++ x :: out.drop (k + 1) := by
                    have := cut_at out k hk
                    rw [(List.getElem?_eq_some_iff.1 hx).2] at this
                    exact this
                  have HTc := Lib.hid (show Two left (out.take k ++ x :: out.drop (k + 1)) from by rw [← hcut]; exact HT.out)
                  have HOc := Lib.hid (show OB wr w.heap.size C S bm w.heap.size (w.heap.size + 1) lb byA agA left (out.take k ++ x :: out.drop (k + 1)) bb from by rw [← hcut]; exact HO.out)
                  have HK := Lib.hid hk
                  have hj4 := hgo.1
                  have hbbI : bb ≤ 3000 := by have := HBB.out; omega
                  have HP := Lib.hid (orem0 HA0.out HOc.out HTc.out (by omega))
                  obtain ⟨d0, d1, d2⟩ := hereC HO.out.m
                  have HXn := Lib.hid (two_mid HTc.out.swap)
                  have hcuI : (out.length : Int) ≤ (uc : Int) := by omega
                  clear hx hcut hgo HO HT
                  go_upto_region 37 with fail
                  clear c0 c1 hmod hnz hbw
                  go_upto_region 39 with (first
                    | (go_at_call 28; (with_reducible refine HP.out.mono ?_); rintro e w2 ⟨rfl, n2, ha2⟩; have h2 := HOc.out.aft ha2; clear d0 d1 d2; obtain ⟨d0, d1, d2⟩ := hereC h2.m; have HP2 := Lib.hid (opush3 HA3.out h2 HXn.out.2.2 HXn.out.2.1 HXn.out.1 (by omega)))
                    | (go_at_call 27; (with_reducible refine HP2.out.mono ?_); rintro e w3 ⟨rfl, n3, ha3⟩; have h3 := h2.aft ha3))
                  have z0 := HOc.out.zero
                  have hl3 := (HLf.out.aft ha2 ⟨z0.1, z0.2.1⟩ (by omega)).aft ha3 ⟨z0.1, z0.2.1⟩ (by omega)
                  have hu3 := (HU.out.aft ha2 ⟨z0.1, z0.2.1⟩ (by omega)).aft ha3 ⟨z0.1, z0.2.1⟩ (by omega)
                  have HB3 := Lib.hid ((HB.out.trans (HOc.out.outside ha2)).trans (h2.outside ha3))
                  have HO3 := Lib.hid h3
                  have HL3 := Lib.hid hl3
                  have HU3 := Lib.hid hu3
                  have HN0 := Lib.hid h3.lo.2.2
                  have hlen8 : left.length + out.length ≤ 8 := HLL.out
                  clear d0 d1 d2 ha2 ha3 h2 h3 hl3 hu3 HOc HU HLf HB
                  have hgu3 : gu < w3.heap.size := (row_lt HU3.out.own (g := gu) rfl).1
                  have hk64 : IntKind.i64.wrap ((k : Int) + 1) = (k : Int) + 1 := IntWalk.i64_in _ ⟨by omega, by omega⟩
                  have hkI2 : (k : Int) ≤ (uc : Int) ∧ (k : Int) + 1 ≤ (out.length : Int) := by omega
                  have hk0 : (0 : Int) ≤ (k : Int) + 1 := by omega
                  obtain ⟨sa, hsa, hsc⟩ : ∃ sa : Addr, (if uc = k + 1 then (some ⟨gu, 0, none⟩ : Option Addr) else some ⟨gu, k + 1, none⟩) = some sa ∧ (sa = ⟨gu, k + 1, none⟩ ∨ out.drop (k + 1) = []) := by
                    by_cases h : uc = k + 1
                    · exact ⟨_, if_pos h, .inr (List.drop_eq_nil_of_le (by have := HGU.out.2.2.1; omega))⟩
                    · exact ⟨_, if_neg h, .inl rfl⟩
                  have HSC := Lib.hid hsc
                  have KZ : Hid (Keep (fun _ => False) w3 (w3.alloc (.cells #[] 3)).drew) := Lib.hid (((Keep.refl (fun _ => False) w3).alloc _).trans (Keep.ofBelow (bdrewE _)))
                  have HZ : Hid ((w3.alloc (.cells #[] 3)).drew.ownsRow w.heap.size 3 1 (.slice (some ⟨w3.heap.size, 0, none⟩) 0 0) 0 []) := Lib.hid (own_zero w3 w.heap.size HN0.out)
                  have HN1 : Hid (∀ (j : Nat) (u : Value), (iL (out.take k))[j]? = some u → (w3.alloc (.cells #[] 3)).drew.cell? ((⟨gu, 0, none⟩ : Addr).add j) = some u) := Lib.hid (news_of (fun i y hy => by
                    rw [List.getElem?_take] at hy
                    split at hy
                    · rw [Nat.zero_add]
                      exact cell_keep6 (HU3.out.cellAt hy) KZ.out (fun h => h)
                    · cases hy))
                  have HN2 : Hid (w.heap.size ≤ (w3.alloc (.cells #[] 3)).drew.heap.size) := Lib.hid (Nat.le_trans HN0.out KZ.out.size)
                  have HS5 : Hid (∀ V, Keep (fun _ => False) w3 V → ∀ (j : Nat) (u : Value), (iL (out.drop (k + 1)))[j]? = some u → V.cell? (sa.add j) = some u) := Lib.hid (fun V hV => by
                    rcases HSC.out with rfl | e
                    · refine news_of (fun i y hy => ?_)
                      rw [List.getElem?_drop] at hy
                      exact cell_keep6 (HU3.out.cellAt hy) hV (fun h => h)
                    · rw [e]
                      intro j u hj
                      simp at hj)
                  clear hsc
                  refine wp_region_held_drew (S := (fun _ : World => True)) (by kernel_rfl) (trivial) (fun hHeld => ?_)
                  refine wpAnyH_take (i := 1) (oi := _) (v := ?_) rfl (by kernel_rfl) (by kernel_rfl) (by kernel_rfl) (fun _ _ _ h => h) (Or.inl ⟨by rfl, ?_⟩) (by assumption) ?_
                  rotate_left
                  · intro w hSw; (try dsimp only at hSw); go_simp; try with_reducible rfl
                  (try simp only [Act.put, List.setIfInBounds_toArray, List.set_cons_zero, List.set_cons_succ])
                  refine wpAnyH_take (i := 2) (oi := _) (v := ?_) rfl (by kernel_rfl) (by kernel_rfl) (by kernel_rfl) (fun _ _ _ h => h) (Or.inl ⟨by rfl, ?_⟩) (by assumption) ?_
                  rotate_left
                  · intro w hSw; (try dsimp only at hSw); go_simp; try with_reducible rfl
                  (try simp only [Act.put, List.setIfInBounds_toArray, List.set_cons_zero, List.set_cons_succ])
                  refine wpAnyH_take (i := 3) (oi := _) (v := ?_) rfl (by kernel_rfl) (by kernel_rfl) (by kernel_rfl) (fun _ _ _ h => h) (Or.inl ⟨by rfl, ?_⟩) (by assumption) ?_
                  rotate_left
                  · intro w hSw; (try dsimp only at hSw); go_simp; try with_reducible rfl
                  (try simp only [Act.put, List.setIfInBounds_toArray, List.set_cons_zero, List.set_cons_succ])
                  refine wpAnyH_take (i := 5) (oi := _) (v := ?_) rfl (by kernel_rfl) (by kernel_rfl) (by kernel_rfl) (fun _ _ _ h => h) (Or.inl ⟨by rfl, ?_⟩) (by assumption) ?_
                  rotate_left
                  · intro w hSw; (try dsimp only at hSw); go_simp; try with_reducible rfl
                  (try simp only [Act.put, List.setIfInBounds_toArray, List.set_cons_zero, List.set_cons_succ])
                  refine wpAnyH_take (i := 6) (oi := _) (v := ?_) rfl (by kernel_rfl) (by kernel_rfl) (by kernel_rfl) (fun _ _ _ h => h) (Or.inl ⟨by rfl, ?_⟩) (by assumption) ?_
                  rotate_left
                  · intro w hSw; (try dsimp only at hSw); go_simp; try with_reducible rfl
                  (try simp only [Act.put, List.setIfInBounds_toArray, List.set_cons_zero, List.set_cons_succ])
                  refine wpAnyH_take (i := 7) (oi := _) (v := ?_) rfl (by kernel_rfl) (by kernel_rfl) (by kernel_rfl) (fun _ _ _ h => h) (Or.inl ⟨by rfl, ?_⟩) (by assumption) ?_
                  rotate_left
                  · intro w hSw; (try dsimp only at hSw); go_simp; try with_reducible rfl
                  (try simp only [Act.put, List.setIfInBounds_toArray, List.set_cons_zero, List.set_cons_succ])
                  refine wpAnyH_take (i := 8) (oi := _) (v := ?_) rfl (by kernel_rfl) (by kernel_rfl) (by kernel_rfl) (fun _ _ _ h => h) (Or.inl ⟨by rfl, ?_⟩) (by assumption) ?_
                  rotate_left
                  · intro w hSw; (try dsimp only at hSw); go_simp; try with_reducible rfl
                  (try simp only [Act.put, List.setIfInBounds_toArray, List.set_cons_zero, List.set_cons_succ])
                  refine wpAnyH_ready (rs := [0]) (by kernel_rfl) (by simp) ?_
                  refine AllReadyH.cons rfl (fun K hK => ?_) AllReadyH.nil
                  go_simp
                  go_wp2_with fail
                  refine hK.out _ _ (trivial) (fun hHeld => ?_)
                  clear hK K
                  (try dsimp only [Act.put]); (try simp only [Act.put, List.setIfInBounds_toArray, List.set_cons_zero, List.set_cons_succ])
                  refine wpAnyH_ready (rs := [4]) (by kernel_rfl) (by simp) ?_
                  refine AllReadyH.cons rfl (fun K hK => ?_) AllReadyH.nil
                  rw [if_pos (by kernel_rfl)]
                  refine wp_append_own3 _ _ _ _ rfl w.heap.size 3 i0 (.int .i64 0) 1 8 Tryz.underlying37 hi0 hz0 hz1 hz2 rfl (by decide) w3.heap.size 0 0 [] rfl HZ.out ⟨gu, 0, none⟩ k uc (iL (out.take k)) rfl (by simp; omega) HN1.out iL_one (by unfold maxLen; omega) (by omega) HN2.out ?_
                  intro g5 cap5 w5 hr5 hgr5 hg5
                  have k5 : Keep (fun i => i = w3.heap.size) (w3.alloc (.cells #[] 3)).drew w5 := ⟨hgr5.os, hgr5.tape, hgr5.output, hgr5.size, fun y hy hn => hgr5.block y hy (fun e => hn (by injection e))⟩
                  have KW5 := Lib.hid (KZ.out.step k5 (fun i hi e => by omega))
                  have HN5 : Hid (∀ (j : Nat) (u : Value), (iL (out.drop (k + 1)))[j]? = some u → w5.cell? (sa.add j) = some u) := Lib.hid (HS5.out w5 KW5.out)
                  have hg5b : w3.heap.size ≤ g5 := hg5.elim (fun h => by omega) (fun h => Nat.le_trans KZ.out.size h)
                  have HG5 := Lib.hid (And.intro hg5b k5.size)
                  clear k5 hg5 hg5b
                  refine hK.out _ _ trivial (fun hHeld => ?_)
                  clear hK K
                  (try dsimp only [Act.put]); (try simp only [Act.put, List.setIfInBounds_toArray, List.set_cons_zero, List.set_cons_succ])
                  refine wpAnyH_ready (rs := [9]) (by kernel_rfl) (by simp) ?_
                  refine AllReadyH.cons rfl (fun K hK => ?_) AllReadyH.nil
                  rw [if_pos (by kernel_rfl)]
                  refine wp_append_own3 _ _ _ _ rfl w.heap.size 3 i0 (.int .i64 0) 1 8 Tryz.underlying37 hi0 hz0 hz1 hz2 rfl (by decide) g5 (0 + k) cap5 ([] ++ iL (out.take k)) rfl hr5 sa (out.length - (k + 1)) (uc - (k + 1)) (iL (out.drop (k + 1))) rfl (by simp) HN5.out iL_one (by unfold maxLen; omega) (by omega) (Nat.le_trans HN0.out KW5.out.size) ?_
                  intro g6 cap6 w6 hr6 hgr6 hg6
                  have k6 : Keep (fun i => i = g5) w5 w6 := ⟨hgr6.os, hgr6.tape, hgr6.output, hgr6.size, fun y hy hn => hgr6.block y hy (fun e => hn (by injection e))⟩
                  have KW6 := Lib.hid (KW5.out.step k6 (fun i hi e => by have := HG5.out.1; omega))
                  have HG6 := Lib.hid (show w3.heap.size ≤ g6 from hg6.elim (fun h => by rw [h]; exact HG5.out.1) (fun h => Nat.le_trans KW5.out.size h))
                  have HR6 := Lib.hid hr6
                  clear k6 hg6 hgr6 hr6 hgr5 hr5
                  refine hK.out _ _ trivial (fun hHeld => ?_)
                  clear hK K
                  (try dsimp only [Act.put]); (try simp only [Act.put, List.setIfInBounds_toArray, List.set_cons_zero, List.set_cons_succ])
                  refine wpAnyH_ready (rs := [10]) (by kernel_rfl) (by simp) ?_
                  refine AllReadyH.cons rfl (fun K hK => ?_) AllReadyH.nil
                  go_simp
                  go_wp2_with fail
                  refine hK.out _ _ (by assumption) (fun hHeld => ?_)
                  clear hK K
                  (try dsimp only [Act.put]); (try simp only [Act.put, List.setIfInBounds_toArray, List.set_cons_zero, List.set_cons_succ])
                  refine wpAnyH_done (by kernel_rfl) ?_ _
                  have e6 : (out.take k ++ out.drop (k + 1)).length = 0 + k + (out.length - (k + 1)) := by simp; omega
                  have lold : ∀ y, y < w3.heap.size → labN w3 lb 3 y = lb y := fun y hy => labN_old hy
                  have HO6 := Lib.hid (HO3.out.keep (lab' := labN w3 lb 3) KW6.out (fun _ h => h.elim) lold)
                  have HL6 := Lib.hid (HL3.out.keep (lab' := labN w3 lb 3) KW6.out (fun _ h => h.elim) lold)
                  have HU6 : Hid (RowL w6 w.heap.size (labN w3 lb 3) 3 (.slice (some ⟨g6, 0, none⟩) (0 + k + (out.length - (k + 1))) cap6) (out.take k ++ out.drop (k + 1))) := Lib.hid ⟨by rw [e6]; simpa [iL] using HR6.out, fun y hy => by obtain rfl := own_some hy; exact labN_new HG6.out⟩
                  have HB6 := Lib.hid (HB3.out.trans (KW6.out.below HN0.out (fun _ _ h => h.elim)))
                  have HT6 := Lib.hid HTc.out.back
                  have HN6 := Lib.hid HO6.out.lo.2.2
                  have hll8 : left.length ≤ 8 := by omega
                  clear e6 lold hsa hk0 hkI2 hk64 hgu3 HR6 KW6 KZ HZ HN1 HN2 HS5 HSC HG6 HG5 HN5 KW5
                  generalize labN w3 lb 3 = lb6 at *
                  go_wp2_with (at_builtin; refine wpList_append_own2 _ rfl _ _ 37 rfl w.heap.size 3 i0 (.int .i64 0) 1 8 Tryz.underlying37 hi0 hz0 hz1 hz2 rfl (by decide) _ _ _ rfl (HL6.out.own.alloc _) ⟨w6.heap.size, 0, none⟩ 1 1 [.int .i64 x] rfl rfl (cell_one_new _ _ _) (by simp [Value.oneCell']) (by unfold maxLen; omega) (by omega) (by rw [World.size_alloc]; have := HN6.out; omega) (by omega) ?_; intro g7 cap7 w7 hr7 hgr7 hg7)
                  have kg := grown_keep hgr7
                  have lold : ∀ y, y < w6.heap.size → labN w6 lb6 2 y = lb6 y := fun y hy => labN_old hy
                  have HO7 := Lib.hid (HO6.out.keep (lab' := labN w6 lb6 2) kg (fun y hy => by rw [HL6.out.lab y hy]; omega) lold)
                  have HU7 := Lib.hid (HU6.out.keep (lab' := labN w6 lb6 2) kg (fun y hy => by rw [HL6.out.lab y hy]; omega) lold)
                  have HL7 := Lib.hid (HL6.out.snoc ((Keep.refl (fun _ => False) w6).alloc _) hr7 hg7)
                  have HB7 := Lib.hid (HB6.out.trans (grown_below hgr7 HL6.out.own HN6.out))
                  clear hr7 hgr7 hg7 kg lold
                  go_roundw
                  case rel => exact ⟨j + 1, left ++ [x], out.take k ++ out.drop (k + 1), _, bb + 50 + 50, hj4, by have := HBB.out; omega, by go_num, HO7.out, HL7.out, by have := HU7.out; rw [Nat.zero_add] at this; exact this, HT6.out, by simp; omega, HB7.out⟩
                  case measure => simp [intOf]; omega
                · have hex : ¬ (j : Int) < 4 ∨ ((j : Int) < 4 ∧ ¬ (0 : Int) < (out.length : Int)) := by omega
                  obtain ⟨la, lc, rfl⟩ := HLf.out.form
                  have HO5 := Lib.hid (HO.out.more (b' := 1600) (by have := HBB.out; omega))
                  clear hgo hj HO HBB HT
                  have hl8 : left.length ≤ 8 := by have := HLL.out; omega
                  generalize wr = wt at *
                  rcases hex with hx1 | ⟨hx1, hx2⟩
                  all_goals
                    go_wp2_with fail
                    clear hx1
                    (try clear hx2)
                    go_loopw [22] (fun v22 wq => ∃ i : Nat, i ≤ left.length ∧ v22 = .int .i64 (i : Int) ∧ OB wq w.heap.size C S bm w.heap.size (w.heap.size + 1) lb byA agA (left.drop i) out (1600 + 50 * (i : Int)) ∧ RowL wq w.heap.size lb 2 (.slice la left.length lc) left ∧ RowL wq w.heap.size lb 3 (.slice ua out.length uc) out ∧ Below w.heap.size w wq)
                      (fun v22 _ => left.length - (intOf v22).toNat)
                    case atStart => exact ⟨0, by omega, rfl, by simpa using HO5.out, HLf.out, HU.out, HB.out⟩
                    case round =>
                      clear HO5 HLf HU HB
                      obtain ⟨i, hi, rfl, ho, hl, hu, hb⟩ := hrel
                      have HO := Lib.hid ho
                      have HLf := Lib.hid hl
                      have HU := Lib.hid hu
                      have HB := Lib.hid hb
                      clear ho hl hu hb
                      by_cases hlt : i < left.length
                      · obtain ⟨x, hx⟩ : ∃ x, left[i]? = some x := ⟨_, List.getElem?_eq_getElem hlt⟩
                        obtain ⟨gl, cl, e1, _⟩ := HLf.out.at' hx
                        obtain ⟨e2, e3⟩ : la = some ⟨gl, 0, none⟩ ∧ lc = cl := by simpa using e1
                        subst e2 e3
                        have hIx := oidx left.length lc gl i hlt
                        have hil : (0 : Int) ≤ (i : Int) ∧ (i : Int) < (left.length : Int) := by omega
                        have bd := bdrewE wr
                        have HOd := Lib.hid (show OB wr.drew w.heap.size C S bm w.heap.size (w.heap.size + 1) lb byA agA (x :: left.drop (i + 1)) out (1600 + 50 * (i : Int)) from by have := HO.out.below bd; rw [drop_cons hx] at this; exact this)
                        have HLd := Lib.hid (HLf.out.below bd)
                        have HUd := Lib.hid (HU.out.below bd)
                        have HBd := Lib.hid (HB.out.trans (bd.mono HB.out.size))
                        have HX := Lib.hid hx
                        have HP := Lib.hid (opop3 HA3.out HOd.out (by omega))
                        have SK := Lib.hid (show ∀ A, Blk A bm 24 hereCs → RowL A w.heap.size lb 2 (.slice (some ⟨gl, 0, none⟩) left.length lc) left → (A.cell? ⟨bm, 0, none⟩ = some (.int .i64 (hereM.t : Int)) ∧ A.cell? ⟨bm, 1, none⟩ = some (.int .i64 (hereM.o : Int)) ∧ A.cell? ⟨bm, 2, none⟩ = some (.int .i64 (hereM.n : Int))) ∧ A.cell? ⟨gl, i, none⟩ = some (.int .i64 x) from fun A h1 h2 => ⟨hereC h1, h2.cellAt HX.out⟩)
                        clear hx e1 bd
                        go_upto_region 44 with fail
                        go_region_held3 (fun A : World => (A.cell? ⟨bm, 0, none⟩ = some (.int .i64 (hereM.t : Int)) ∧ A.cell? ⟨bm, 1, none⟩ = some (.int .i64 (hereM.o : Int)) ∧ A.cell? ⟨bm, 2, none⟩ = some (.int .i64 (hereM.n : Int))) ∧ A.cell? ⟨gl, i, none⟩ = some (.int .i64 x)) (first | exact SK.out _ HOd.out.m HLd.out | exact SK.out _ h2.m hl2) (first
                          | (go_at_call 29; (with_reducible refine HP.out.mono ?_); rintro e w2 ⟨rfl, n2, ha2⟩; have h2 := HOd.out.aft ha2; have hl2 := HLd.out.aft ha2 ⟨HOd.out.zero.1, HOd.out.zero.2.1⟩ (by omega)))
                        all_goals
                          have hu2 := HUd.out.aft ha2 ⟨HOd.out.zero.1, HOd.out.zero.2.1⟩ (by omega)
                          have HB2 := Lib.hid (HBd.out.trans (HOd.out.outside ha2))
                          have HO2 := Lib.hid h2
                          have HL2 := Lib.hid hl2
                          have HU2 := Lib.hid hu2
                          clear h2 hl2 hu2 ha2
                          go_wp2
                          go_roundw
                          case rel => exact ⟨i + 1, hlt, by go_num, by rw [show (1600 + 50 * ((i + 1 : Nat) : Int)) = 1600 + 50 * (i : Int) + 50 by omega]; exact HO2.out, HL2.out, HU2.out, HB2.out⟩
                          case measure => simp [intOf]; omega
                      · have hil : ¬ (i : Int) < (left.length : Int) := by omega
                        have HOe := Lib.hid (show OB wr w.heap.size C S bm w.heap.size (w.heap.size + 1) lb byA agA [] out 2000 from by
                          have := HO.out
                          rw [List.drop_eq_nil_of_le (by omega)] at this
                          exact this.more (by omega))
                        have HP := Lib.hid (opop3n HA3.out HOe.out (by omega))
                        obtain ⟨d0, d1, d2⟩ := hereC HOe.out.m
                        have hol : out.length ≤ 8 := by have := HLL.out; omega
                        clear hlt hi HO HLf
                        go_wp2_with (first
                          | (go_at_call 29; (with_reducible refine HP.out.mono ?_); rintro e w2 ⟨rfl, n2, ha2⟩; have h2 := HOe.out.aft ha2; clear d0 d1 d2; obtain ⟨d0, d1, d2⟩ := hereC h2.m; have hu2 := HU.out.aft ha2 ⟨HOe.out.zero.1, HOe.out.zero.2.1⟩ (by omega); have HK := Lib.hid (olook0 HA0.out h2))
                          | (go_at_call 25; (with_reducible refine HK.out.mono ?_); rintro e w3 ⟨vb, rfl, hrb, b3⟩; have HI := Lib.hid (qints_same vb _ _ _ out w3 hrb (hu2.below b3).rowN (by omega)))
                          | (go_at_call 24; (with_reducible refine HI.out.mono ?_); rintro e w4 ⟨rfl, b4⟩))
                        go_ret
                        have h5 := (HB.out.trans (HOe.out.outside ha2))
                        exact ⟨by first | trivial | rfl, (h5.trans (b3.mono h5.size)).trans (b4.mono (by have := h5.size; have := b3.size; omega))⟩

end Go.Proofs.YtpejmkoheodblaaGreat
