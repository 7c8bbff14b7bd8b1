/- SpecOwns, pure: runs of the document's automaton are runs of package spec's; what the law's loops keep. No program is named here. -/
import Derived.Test.YtcgljmeppmdihaaSoSpec
namespace Go.Proofs.Ytcgljmeppmdihaa
open Go.RowKit
set_option linter.unusedVariables false
set_option linter.unusedSimpArgs false
/-- a step of the document's leaves how many there are -/
theorem ActR.len {s r : RS} {t o : Nat} {x : RTh} {own dep : Int} {e : Ev} (h : ActR s t x o own dep e r) : r.W.length = s.W.length ∧ r.D.length = s.D.length ∧ r.T.length = s.T.length := by
  cases h <;> (try split) <;> simp [RS.mod, RS.setW, RS.setD]
theorem StepR.len {s r : RS} {e : Ev} (h : StepR s e r) : r.W.length = s.W.length ∧ r.D.length = s.D.length ∧ r.T.length = s.T.length := by
  cases h with
  | call t x => simp [RS.mod]
  | act t x o own dep r h1 h2 h3 h4 h5 h6 h7 h8 h9 h10 h11 h12 h13 h14 => exact ActR.len (by assumption)
  | ret t x => simp [RS.mod]
/-- events that are taken, one behind the other; how many threads and objects there are stays -/
def TakesTo (m n : Nat) : SS → List Ev → SS → Prop
  | s, [], s1 => s1 = s ∧ s.T.length = m ∧ s.O.length = n ∧ WF s
  | s, e :: l, s1 => s.T.length = m ∧ s.O.length = n ∧ WF s ∧ ∃ s2, takeS s e = some s2 ∧ TakesTo m n s2 l s1
theorem TakesTo.here {m n : Nat} {s s1 : SS} {l : List Ev} (h : TakesTo m n s l s1) : s.T.length = m ∧ s.O.length = n ∧ WF s := by
  cases l with
  | nil => exact h.2
  | cons e l => exact ⟨h.1, h.2.1, h.2.2.1⟩
theorem TakesTo.snoc {m n : Nat} : ∀ {l : List Ev} {s s1 s2 : SS} {e : Ev}, TakesTo m n s l s1 → takeS s1 e = some s2 → s2.T.length = m → s2.O.length = n → WF s2 → TakesTo m n s (l ++ [e]) s2
  | [], s, s1, s2, e, h, ht, h1, h2, h3 => by
    obtain ⟨rfl, g1, g2, g3⟩ := h
    exact ⟨g1, g2, g3, s2, ht, rfl, h1, h2, h3⟩
  | a :: l, s, s1, s2, e, h, ht, h1, h2, h3 => by
    obtain ⟨g1, g2, g3, s3, g4, g5⟩ := h
    exact ⟨g1, g2, g3, s3, g4, g5.snoc ht h1 h2 h3⟩
theorem TakesTo.last {m n : Nat} : ∀ {l : List Ev} {s s1 : SS}, TakesTo m n s l s1 → WF s1
  | [], s, s1, h => by obtain ⟨rfl, _, _, hw⟩ := h; exact hw
  | a :: l, s, s1, h => by
    obtain ⟨g1, g2, g3, s3, g4, g5⟩ := h
    exact g5.last
theorem TakesTo.drop {m n : Nat} {s s1 : SS} {l : List Ev} {k : Nat} {e : Ev} (h : TakesTo m n s (l.drop k) s1) (he : l[k]? = some e) : ∃ s2, takeS s e = some s2 ∧ TakesTo m n s2 (l.drop (k + 1)) s1 := by
  obtain ⟨hk, rfl⟩ := List.getElem?_eq_some_iff.1 he
  rw [List.drop_eq_getElem_cons hk] at h
  exact h.2.2.2
theorem run_takes {m n : Nat} {l : List Ev} {r : RS} (hm : m ≤ 32766) (hn1 : 1 ≤ n) (hn : n ≤ 65536) (h : RunR (newR m n) l r) : l.length ≤ 1000000 → ∃ s, TakesTo m n (newS m n) l s ∧ Sim l.length r s ∧ r.W.length = n ∧ r.T.length = m := by
  induction h with
  | nil => exact fun _ => ⟨_, ⟨rfl, by simp [newS], by simp [newS], newS_wf m n hm hn⟩, sim_new m n hn1, by simp [newR], by simp [newR]⟩
  | snoc hr hs ih =>
    rename_i l1 r1 r2 e
    intro hl
    rw [List.length_append] at hl
    simp only [List.length_cons, List.length_nil] at hl
    obtain ⟨s, h1, h2, h3, h4⟩ := ih (by omega)
    have hwf : WF s := h1.last
    obtain ⟨s2, h5, h6⟩ := sim_step h2 hwf (by omega) hs
    obtain ⟨k1, k2, k3⟩ := hs.len
    have e1 := h6.lt
    have e2 := h6.lw
    refine ⟨s2, h1.snoc h5 (by omega) (by omega) (takeS_wf hwf h5), ?_, by omega, by omega⟩
    rw [List.length_append]
    exact h6
/-- what is taken is of a thread that is there, and an act of an object that is there -/
theorem take_in {s s' : SS} {e : Ev} (hwf : WF0 s) (hs : takeS s e = some s') : ∃ t : Nat, e.thr = (t : Int) ∧ t < s.T.length ∧ (e.kind = 1 → ∃ o : Nat, e.obj = (o : Int) ∧ o < s.O.length) := by
  unfold takeS at hs
  split at hs
  · cases hs
  · rename_i ht
    split at hs
    · cases hs
    · rename_i x hx
      refine ⟨e.thr.toNat, by omega, (List.getElem?_eq_some_iff.1 hx).1, fun hk => ?_⟩
      rw [if_neg (by omega), if_pos hk] at hs
      unfold actS at hs
      split at hs
      · cases hs
      · rename_i hc
        have hv := hwf.th _ x hx (by omega) (by omega)
        exact ⟨e.obj.toNat, by omega, by omega⟩
/-- who waits, rising: strictly, each once -/
theorem rise_lt {l : List Int} (hn : l.Nodup) {j : Nat} {a b : Int} (ha : (l.mergeSort fun x y => decide (x ≤ y))[j]? = some a) (hb : (l.mergeSort fun x y => decide (x ≤ y))[j + 1]? = some b) : a < b := by
  have hp : (l.mergeSort fun x y => decide (x ≤ y)).Pairwise fun x y => decide (x ≤ y) = true := List.pairwise_mergeSort (fun a b c h1 h2 => by simp only [decide_eq_true_eq] at *; omega) (fun a b => by simp only [Bool.or_eq_true, decide_eq_true_eq]; omega) l
  have hd : (l.mergeSort fun x y => decide (x ≤ y)).Nodup := (List.mergeSort_perm l _).nodup_iff.2 hn
  generalize (l.mergeSort fun x y => decide (x ≤ y)) = L at *
  obtain ⟨h1, e1⟩ := List.getElem?_eq_some_iff.1 ha
  obtain ⟨h2, e2⟩ := List.getElem?_eq_some_iff.1 hb
  have hle := List.pairwise_iff_getElem.1 hp j (j + 1) h1 h2 (by omega)
  have hne := List.pairwise_iff_getElem.1 hd j (j + 1) h1 h2 (by omega)
  rw [e1, e2] at hle hne
  simp only [decide_eq_true_eq] at hle
  omega
theorem rise_mem {l : List Int} {j : Nat} {a : Int} (ha : (l.mergeSort fun x y => decide (x ≤ y))[j]? = some a) : a ∈ l := by
  exact (List.mergeSort_perm l _).mem_iff.1 (List.mem_of_getElem? ha)
theorem rise_once {l : List Int} (hn : l.Nodup) {j k : Nat} {a : Int} (ha : (l.mergeSort fun x y => decide (x ≤ y))[j]? = some a) (hb : (l.mergeSort fun x y => decide (x ≤ y))[k]? = some a) : j = k := by
  have hd : (l.mergeSort fun x y => decide (x ≤ y)).Nodup := (List.mergeSort_perm l _).nodup_iff.2 hn
  generalize (l.mergeSort fun x y => decide (x ≤ y)) = L at *
  obtain ⟨h1, e1⟩ := List.getElem?_eq_some_iff.1 ha
  obtain ⟨h2, e2⟩ := List.getElem?_eq_some_iff.1 hb
  rcases Nat.lt_trichotomy j k with h | h | h
  · have := List.pairwise_iff_getElem.1 hd j k h1 h2 h
    exact absurd (e1.trans e2.symm) this
  · exact h
  · have := List.pairwise_iff_getElem.1 hd k j h2 h1 h
    exact absurd (e2.trans e1.symm) this
/-- who waits is a thread, not the owner -/
theorem waits_in {n : Nat} {s : SS} {D V : Tab} (h : OI n s D V) (hwf : WF s) {o : Nat} {b : Ob} (hb : s.O[o]? = some b) {u : Int} (hu : u ∈ b.line) : ∃ t : Nat, u = (t : Int) ∧ t < s.T.length ∧ b.own ≠ u := by
  obtain ⟨t, x, rfl, hx, hp, ho⟩ := (hwf.ln o b hb).2 u hu
  exact ⟨t, rfl, (List.getElem?_eq_some_iff.1 hx).1, (h.sav t x hx (by omega) o ho).2.2.2 b hb⟩
/-- no thread waits for two -/
theorem waits_one {s : SS} (hwf : WF s) {o k : Nat} {b c : Ob} (hb : s.O[o]? = some b) (hc : s.O[k]? = some c) {u : Int} (h1 : u ∈ b.line) (h2 : u ∈ c.line) : o = k := by
  obtain ⟨t, x, rfl, hx, hp, ho⟩ := (hwf.ln o b hb).2 u h1
  obtain ⟨t2, x2, e2, hx2, hp2, ho2⟩ := (hwf.ln k c hc).2 _ h2
  obtain rfl : t = t2 := by omega
  rw [hx] at hx2
  obtain rfl := Option.some.inj hx2
  omega
/-- the law's count of who waits -/
def WtIn (s : SS) (m o j : Nat) (g : Nat → Int) : Prop := ∀ t, t < m → 0 ≤ g t ∧ g t ≤ 1 ∧ (g t = 1 → (∃ (k : Nat) (b : Ob), k < o ∧ s.O[k]? = some b ∧ (t : Int) ∈ b.line) ∨ ∃ (k : Nat) (b : Ob), k < j ∧ s.O[o]? = some b ∧ (b.line.mergeSort fun x y => decide (x ≤ y))[k]? = some (t : Int))
theorem WtIn.zero (s : SS) (m : Nat) : WtIn s m 0 0 (fun _ => 0) := fun t _ => ⟨Int.le_refl _, (by show (0 : Int) ≤ 1; omega), fun h => by simp at h⟩
theorem WtIn.next {s : SS} {m o j : Nat} {g : Nat → Int} (h : WtIn s m o j g) : WtIn s m (o + 1) 0 g := fun t ht => by
  obtain ⟨h1, h2, h3⟩ := h t ht
  refine ⟨h1, h2, fun h => .inl ?_⟩
  rcases h3 h with ⟨k, b, hk, hb, hl⟩ | ⟨k, b, hk, hb, hl⟩
  · exact ⟨k, b, by omega, hb, hl⟩
  · exact ⟨o, b, by omega, hb, rise_mem hl⟩
theorem WtIn.step {s : SS} {m o j : Nat} {g : Nat → Int} (h : WtIn s m o j g) (hwf : WF s) {b : Ob} (hb : s.O[o]? = some b) {t : Nat} (ht : t < m) (hj : (b.line.mergeSort fun x y => decide (x ≤ y))[j]? = some (t : Int)) : g t = 0 ∧ WtIn s m o (j + 1) (fun u => if u = t then g t + 1 else g u) := by
  obtain ⟨h1, h2, h3⟩ := h t ht
  have h0 : g t = 0 := by
    by_cases h4 : g t = 1
    · exfalso
      rcases h3 h4 with ⟨k, c, hk, hc, hl⟩ | ⟨k, c, hk, hc, hl⟩
      · have := waits_one hwf hb hc (rise_mem hj) hl
        omega
      · rw [hb] at hc
        obtain rfl := Option.some.inj hc
        have := rise_once (hwf.ln o b hb).1 hj hl
        omega
    · omega
  refine ⟨h0, fun u hu => ?_⟩
  dsimp only
  split
  · rename_i e
    rw [h0]
    exact ⟨by omega, by omega, fun _ => .inr ⟨j, b, by omega, hb, by rw [e]; exact hj⟩⟩
  · obtain ⟨g1, g2, g3⟩ := h u hu
    refine ⟨g1, g2, fun h => ?_⟩
    rcases g3 h with h | ⟨k, c, hk, hc, hl⟩
    · exact .inl h
    · exact .inr ⟨k, c, by omega, hc, hl⟩
/-- the sum of what threads have, as far as thread k -/
def sumTo (own dep : Int) (k : Nat) : Int := if 0 ≤ own ∧ own < k then dep else 0
theorem sumTo_next {n : Nat} {s : SS} {D V : Tab} (h : OI n s D V) {o : Nat} {b : Ob} (hb : s.O[o]? = some b) {k : Nat} (hk : k < s.T.length) : sumTo b.own b.dep k + D k o = sumTo b.own b.dep (k + 1) := by
  rw [h.dep o b hb k hk]
  unfold sumTo
  rcases h.own o b hb with ⟨h1, h2⟩ | ⟨t, h1, h2, h3, h4⟩
  · rw [if_neg (by omega), if_neg (by omega), if_neg (by omega)]; rfl
  · by_cases e : b.own = (k : Int)
    · rw [if_neg (by omega), if_pos e, if_pos (by omega)]; omega
    · rw [if_neg e]
      by_cases e2 : b.own < (k : Int)
      · rw [if_pos (by omega), if_pos (by omega)]; omega
      · rw [if_neg (by omega), if_neg (by omega)]; rfl
theorem sumTo_all {n : Nat} {s : SS} {D V : Tab} (h : OI n s D V) {o : Nat} {b : Ob} (hb : s.O[o]? = some b) : sumTo b.own b.dep s.T.length = b.dep := by
  unfold sumTo
  rcases h.own o b hb with ⟨h1, h2⟩ | ⟨t, h1, h2, h3, h4⟩
  · rw [if_neg (by omega)]; omega
  · rw [if_pos (by omega)]
theorem sumTo_rg {n : Nat} {s : SS} {D V : Tab} (h : OI n s D V) {o : Nat} {b : Ob} (hb : s.O[o]? = some b) (k : Nat) : 0 ≤ sumTo b.own b.dep k ∧ sumTo b.own b.dep k ≤ n := by
  unfold sumTo
  rcases h.own o b hb with ⟨h1, h2⟩ | ⟨t, h1, h2, h3, h4⟩
  · split <;> omega
  · split <;> omega
theorem OI.rg {n : Nat} {s : SS} {D V : Tab} (h : OI n s D V) {o t : Nat} (ho : o < s.O.length) (ht : t < s.T.length) : 0 ≤ D t o ∧ D t o ≤ n := by
  obtain ⟨b, hb⟩ : ∃ b, s.O[o]? = some b := ⟨_, List.getElem?_eq_getElem ho⟩
  rw [h.dep o b hb t ht]
  rcases h.own o b hb with ⟨h1, h2⟩ | ⟨t, h1, h2, h3, h4⟩
  · split <;> omega
  · split <;> omega
/-- the tables as rows: thread t and object o at t * n + o -/
def tabF (n : Nat) (D : Tab) : Nat → Int := fun k => D (k / n) (k % n)
theorem tabF_at {n t o : Nat} (D : Tab) (ho : o < n) : tabF n D (t * n + o) = D t o := by
  unfold tabF
  rw [Nat.mul_comm, Nat.mul_add_div (by omega), Nat.div_eq_of_lt ho, Nat.mul_add_mod, Nat.mod_eq_of_lt ho]
  rfl
theorem tabF_put {n t o : Nat} (D : Tab) (ho : o < n) (v : Int) : (fun u => if u = t * n + o then v else tabF n D u) = tabF n (D.put t o v) := by
  funext u
  unfold tabF Tab.put
  have h1 := Nat.div_add_mod u n
  by_cases e : u = t * n + o
  · subst e
    rw [if_pos rfl, if_pos]
    rw [Nat.mul_comm, Nat.mul_add_div (by omega), Nat.div_eq_of_lt ho, Nat.mul_add_mod, Nat.mod_eq_of_lt ho]
    exact ⟨rfl, rfl⟩
  · rw [if_neg e, if_neg]
    rintro ⟨e1, e2⟩
    rw [e1, e2, Nat.mul_comm] at h1
    exact e h1.symm
end Go.Proofs.Ytcgljmeppmdihaa
