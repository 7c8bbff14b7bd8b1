/- Layer 10: what the trees of queues come to, in the cells of queues. -/
import Derived.Test.YtlmjlnlnbjfhnaaGreatQuSpec
import Derived.Test.YtlmjlnlnbjfhnaaGreatQuP
import Derived.Test.YtlmjlnlnbjfhnaaGreatQuEnds
import Derived.Test.YtlmjlnlnbjfhnaaGreatQuK
namespace Go.Proofs.YtlmjlnlnbjfhnaaGreat
open Go.ChangeShapes Go.WideShapes Go.ChangeAt Go.RowKit
set_option linter.unusedVariables false
set_option maxRecDepth 100000
set_option linter.unusedSimpArgs false
theorem goes_bind {m m1 m2 : List Int} {T : Tre Itm} {κ : Int → Tre Itm} {k k2 : Nat} {v u : Int} (h : Goes m T k m1 v) (h2 : Goes m1 (κ v) k2 m2 u) : Goes m (bindT κ T) (k + k2) m2 u := by
  induction h with
  | ret m v => rw [bindT_ret, Nat.zero_add]; exact h2
  | op h1 h3 h4 ih =>
    rw [bindT_op, Nat.add_right_comm]
    exact .op h1 h3 (ih h2)
theorem goes_cast {m m' : List Int} {T : Tre Itm} {k k' : Nat} {v : Int} (h : Goes m T k m' v) (e : k = k') : Goes m T k' m' v := e ▸ h
theorem oper_ld {m : List Int} {i : Nat} {c : Int} (h : m[i]? = some c) (hc : 0 ≤ c ∧ c ≤ 1000000) : operS m (ldI i) = (m, c, true) := by
  have e : wrap64 c = c := IntWalk.wrap64_in _ ⟨by omega, by omega⟩
  simp [operS, h, e]
theorem oper_st {m : List Int} {i : Nat} (h : i < m.length) (v : Int) : operS m (stI i v) = (m.set i v, 1, true) := by
  have e : m[i]? = some m[i] := List.getElem?_eq_getElem h
  simp [operS, e]
theorem count_lt {m : List Int} {x : Itm} (h : x.at' < m.length) : countS m x = 1 := by simp [countS, h]
theorem goes_st {m : List Int} {i : Nat} (h : i < m.length) (v : Int) : Goes m (stT i v) 1 (m.set i v) 1 := by
  have e := oper_st h v
  refine .op (show (1 : Nat) < 5 by omega) (count_lt h) ?_
  rw [e]
  exact .ret _ _
theorem goes_read {mp : Mp} (hm : mp.ok) {m m' : List Int} {i : Nat} {c v : Int} {k : Nat} {κ : Int → Tre Itm} (h : m[i]? = some c) (hc : 0 ≤ c ∧ c ≤ mp.t) (h2 : Goes m (κ (c - 1)) k m' v) : Goes m (readT mp i κ) (k + 1) m' v := by
  have ht := hm.t
  have e := oper_ld h ⟨hc.1, by omega⟩
  refine .op (show (0 : Nat) < 5 by omega) (count_lt (List.getElem?_eq_some_iff.1 h).1) ?_
  rw [e]
  show Goes m (κ (thrS mp c)) k m' v
  rw [thrS_of hc ht.2]
  exact h2
theorem goes_two {m m1 m2 : List Int} {T1 T2 : Tre Itm} {k1 k2 : Nat} {v1 v2 : Int} (h1 : Goes m T1 k1 m1 v1) (h2 : Goes m1 T2 k2 m2 v2) : Goes m (seqT [T1, T2]) (k1 + k2) m2 v2 := by
  simp only [seqT]
  exact goes_bind h1 (goes_cast (goes_bind h2 (.ret _ _)) (by omega))
theorem goes_four {m m1 m2 m3 m4 : List Int} {T1 T2 T3 T4 : Tre Itm} {k1 k2 k3 k4 : Nat} {v1 v2 v3 v4 : Int} (h1 : Goes m T1 k1 m1 v1) (h2 : Goes m1 T2 k2 m2 v2) (h3 : Goes m2 T3 k3 m3 v3) (h4 : Goes m3 T4 k4 m4 v4) : Goes m (seqT [T1, T2, T3, T4]) (k1 + k2 + k3 + k4) m4 v4 := by
  simp only [seqT]
  refine goes_cast (goes_bind h1 (goes_bind h2 (goes_bind h3 (goes_bind h4 (.ret _ _))))) (by omega)
/-- a queue's place among the cells -/
structure PlaceOk (mp : Mp) (m : List Int) (a : Nat) : Prop where
  lt : a + 1 < m.length
  nx : ∀ u : Int, 0 ≤ u → u < mp.t → nxN mp u < m.length ∧ nxN mp u ≠ a ∧ nxN mp u ≠ a + 1
theorem PlaceOk.len {mp : Mp} {m m' : List Int} {a : Nat} (h : PlaceOk mp m a) (e : m'.length = m.length) : PlaceOk mp m' a := ⟨by rw [e]; exact h.lt, fun u h1 h2 => by rw [e]; exact h.nx u h1 h2⟩
theorem nx_inj {mp : Mp} {u v : Int} (hu : 0 ≤ u) (hv : 0 ≤ v) (h : nxN mp u = nxN mp v) : u = v := by
  unfold nxN at h
  omega
theorem rdL_some {m : List Int} {i : Nat} (h : i < m.length) : m[i]? = some (rdL m i) := by
  unfold rdL
  rw [List.getElem?_eq_getElem h]
  rfl
theorem rdL_at {m : List Int} {i : Nat} {c : Int} (h : i < m.length) (e : rdL m i = c) : m[i]? = some c := by rw [rdL_some h, e]
/-- threads of a queue -/
def Thr (mp : Mp) (l : List Int) : Prop := l.Nodup ∧ ∀ u ∈ l, 0 ≤ u ∧ u < (mp.t : Int)
theorem Thr.head {mp : Mp} {l : List Int} (h : ∀ u ∈ l, 0 ≤ u ∧ u < (mp.t : Int)) : 0 ≤ headOf l ∧ headOf l ≤ mp.t := by
  cases l with
  | nil => simp [headOf]
  | cons t l => have := h t (by simp); simp [headOf]; omega
theorem Thr.last {mp : Mp} {l : List Int} (h : ∀ u ∈ l, 0 ≤ u ∧ u < (mp.t : Int)) : 0 ≤ lastOf l ∧ lastOf l ≤ mp.t := Thr.head (by simpa using h)
/-- what an operation on a queue leaves: its length, and what isn't its own -/
structure Left (mp : Mp) (m m' : List Int) (a : Nat) (own : List Int) : Prop where
  len : m'.length = m.length
  far : ∀ j, j ≠ a → j ≠ a + 1 → (∀ u ∈ own, j ≠ nxN mp u) → rdL m' j = rdL m j
theorem goes_push {mp : Mp} (hm : mp.ok) {m : List Int} {a : Nat} {l : List Int} {t : Int} (hp : PlaceOk mp m a) (hQ : QIs (nxN mp) (rdL m) a l) (hl : Thr mp l) (ht : 0 ≤ t ∧ t < mp.t) (hn : t ∉ l) :
    ∃ k m', k ≤ 5 ∧ Goes m (pushT mp a t) k m' 0 ∧ QIs (nxN mp) (rdL m') a (l ++ [t]) ∧ Left mp m m' a (t :: l) := by
  obtain ⟨n1, n2, n3⟩ := hp.nx t ht.1 ht.2
  have ha := hp.lt
  have f1 : ∀ j, rdL (m.set (nxN mp t) 0) j = if j = nxN mp t then 0 else rdL m j := fun j => rdL_set m _ j 0 n1
  have L1 : (m.set (nxN mp t) 0).length = m.length := List.length_set
  have hh := Thr.head hl.2
  have e1 : rdL (m.set (nxN mp t) 0) a = headOf l := by rw [f1, if_neg (fun e => n2 e.symm), hQ.first]
  have e2 : rdL (m.set (nxN mp t) 0) (a + 1) = lastOf l := by rw [f1, if_neg (fun e => n3 e.symm), hQ.last]
  rcases List.eq_nil_or_concat l with rfl | ⟨p, u, rfl⟩
  · have E : Goes (m.set (nxN mp t) 0) (endT mp a) 1 (m.set (nxN mp t) 0) (-1) := by
      refine goes_read hm (rdL_at (by rw [L1]; omega) e1) (by simp [headOf]) ?_
      show Goes _ (endK mp a (0 - 1)) 0 _ _
      unfold endK
      rw [if_pos (by rfl)]
      exact .ret _ _
    have L2 : ((m.set (nxN mp t) 0).set a (t + 1)).length = m.length := by rw [List.length_set, L1]
    have G := goes_four (goes_st n1 0) (goes_bind (κ := pushK mp a t) E (by
      unfold pushK
      rw [if_pos ⟨by omega, by omega⟩, show behN mp a (-1) = a from if_pos rfl]
      exact goes_st (by rw [L1]; omega) (t + 1))) (goes_st (i := a + 1) (by rw [L2]; omega) (t + 1)) (.ret _ 0)
    refine ⟨_, _, ?_, G, ?_, ?_⟩
    · omega
    · have g : ∀ j, rdL (((m.set (nxN mp t) 0).set a (t + 1)).set (a + 1) (t + 1)) j = if j = a + 1 then t + 1 else if j = a then t + 1 else if j = nxN mp t then 0 else rdL m j := fun j => by
        rw [rdL_set _ _ _ _ (by rw [L2]; omega), rdL_set _ _ _ _ (by rw [L1]; omega), f1]
      refine hQ.push ?_ ?_ ?_ ?_ ?_
      · rw [g, if_neg (by omega), if_pos rfl]; rfl
      · rw [g, if_pos rfl]
      · rw [g, if_neg n3, if_neg n2, if_pos rfl]
      · intro p u e; simp at e
      · intro p u s e; simp at e
    · refine ⟨by rw [List.length_set, L2], fun j h1 h2 h3 => ?_⟩
      rw [rdL_set _ _ _ _ (by rw [L2]; omega), rdL_set _ _ _ _ (by rw [L1]; omega), f1, if_neg h2, if_neg h1, if_neg (h3 t (by simp))]
  · rw [List.concat_eq_append] at *
    have hu := hl.2 u (by simp)
    obtain ⟨u1, u2, u3⟩ := hp.nx u hu.1 hu.2
    have hut : u ≠ t := fun e => hn (by simp [e])
    have hnn : nxN mp u ≠ nxN mp t := fun e => hut (nx_inj hu.1 ht.1 e)
    have hne : headOf (p ++ [u]) ≠ 0 := fun e => by rw [headOf_zero (fun z hz => (hl.2 z hz).1)] at e; simp at e
    rw [lastOf_snoc] at e2
    have E : Goes (m.set (nxN mp t) 0) (endT mp a) 2 (m.set (nxN mp t) 0) u := by
      refine goes_read hm (rdL_at (by rw [L1]; omega) e1) hh ?_
      show Goes _ (endK mp a (headOf (p ++ [u]) - 1)) 1 _ _
      unfold endK
      rw [if_neg (by omega)]
      refine goes_read hm (rdL_at (by rw [L1]; omega) e2) (by omega) ?_
      unfold endK2
      rw [if_neg (by omega), show u + 1 - 1 = u by omega]
      exact .ret _ _
    have L2 : ((m.set (nxN mp t) 0).set (nxN mp u) (t + 1)).length = m.length := by rw [List.length_set, L1]
    have G := goes_four (goes_st n1 0) (goes_bind (κ := pushK mp a t) E (by
      unfold pushK
      rw [if_pos ⟨by omega, by omega⟩, show behN mp a u = nxN mp u from if_neg (by omega)]
      exact goes_st (by rw [L1]; omega) (t + 1))) (goes_st (i := a + 1) (by rw [L2]; omega) (t + 1)) (.ret _ 0)
    have g : ∀ j, rdL (((m.set (nxN mp t) 0).set (nxN mp u) (t + 1)).set (a + 1) (t + 1)) j = if j = a + 1 then t + 1 else if j = nxN mp u then t + 1 else if j = nxN mp t then 0 else rdL m j := fun j => by
      rw [rdL_set _ _ _ _ (by rw [L2]; omega), rdL_set _ _ _ _ (by rw [L1]; omega), f1]
    refine ⟨_, _, ?_, G, ?_, ?_⟩
    · omega
    · refine hQ.push ?_ ?_ ?_ ?_ ?_
      · rw [g, if_neg (by omega), if_neg (fun e => u2 e.symm), if_neg (fun e => n2 e.symm), hQ.first]
        exact (headOf_append (l := p ++ [u]) (by simp) [t]).symm
      · rw [g, if_pos rfl]
      · rw [g, if_neg n3, if_neg (fun e => hnn e.symm), if_pos rfl]
      · intro p' u' e
        obtain ⟨_, e⟩ := List.append_inj' e rfl
        obtain rfl : u = u' := by simpa using e
        rw [g, if_neg u3, if_pos rfl]
      · intro p' u' s e hs
        have hmem : u' ∈ p ++ [u] := by rw [e]; simp
        have hu' := hl.2 u' hmem
        have hne2 : u' ≠ u := by
          intro e3
          subst e3
          rcases List.eq_nil_or_concat s with rfl | ⟨s', z, rfl⟩
          · exact hs rfl
          · rw [List.concat_eq_append, show p' ++ u' :: (s' ++ [z]) = (p' ++ u' :: s') ++ [z] by simp] at e
            obtain ⟨e4, e5⟩ := List.append_inj' e rfl
            obtain rfl : u' = z := by simpa using e5
            have h1 := hl.1
            rw [e4] at h1
            rw [List.nodup_append] at h1
            exact h1.2.2 u' (by simp) u' (by simp) rfl
        have hnt : u' ≠ t := fun e => hn (e ▸ hmem)
        have b1 := hp.nx u' hu'.1 hu'.2
        rw [g, if_neg b1.2.2, if_neg (fun e => hne2 (nx_inj hu'.1 hu.1 e)), if_neg (fun e => hnt (nx_inj hu'.1 ht.1 e))]
    · refine ⟨by rw [List.length_set, L2], fun j h1 h2 h3 => ?_⟩
      rw [g, if_neg h2, if_neg (h3 u (by simp)), if_neg (h3 t (by simp))]
/-- taking t out, behind P -/
theorem goes_unlink {mp : Mp} (hm : mp.ok) {m : List Int} {a : Nat} {P s : List Int} {t : Int} (hp : PlaceOk mp m a) (hQ : QIs (nxN mp) (rdL m) a (P ++ t :: s)) (hl : Thr mp (P ++ t :: s)) :
    ∃ m' v, Goes m (unlinkT mp a (lastOf P - 1) t) 3 m' v ∧ QIs (nxN mp) (rdL m') a (P ++ s) ∧ Left mp m m' a (P ++ t :: s) := by
  have hP := Thr.last (mp := mp) (l := P) (fun u hu => hl.2 u (by simp [hu]))
  have hs := Thr.head (mp := mp) (l := s) (fun u hu => hl.2 u (by simp [hu]))
  have ht := hl.2 t (by simp)
  obtain ⟨n1, n2, n3⟩ := hp.nx t ht.1 ht.2
  have ha := hp.lt
  have hnx := hQ.next P t s rfl
  have hnd := List.nodup_append.1 hl.1
  have hns := List.nodup_cons.1 hnd.2.1
  obtain ⟨b, hb⟩ : ∃ b, b = behN mp a (lastOf P - 1) := ⟨_, rfl⟩
  -- where the thread ahead, or the queue's first, is
  have hbl : b < m.length ∧ b ≠ a + 1 ∧ ((P = [] ∧ b = a) ∨ ∃ q u, P = q ++ [u] ∧ b = nxN mp u ∧ u ≠ t ∧ 0 ≤ u ∧ u < mp.t) := by
    rcases List.eq_nil_or_concat P with rfl | ⟨q, u, rfl⟩
    · have : b = a := by rw [hb]; simp [behN, lastOf, headOf]
      exact ⟨by omega, by omega, .inl ⟨rfl, this⟩⟩
    · rw [List.concat_eq_append] at *
      have hu := hl.2 u (by simp)
      have e : b = nxN mp u := by
        rw [hb, lastOf_snoc]
        unfold behN
        rw [if_neg (by omega), show u + 1 - 1 = u by omega]
      obtain ⟨u1, u2, u3⟩ := hp.nx u hu.1 hu.2
      exact ⟨by rw [e]; exact u1, by rw [e]; exact u3, .inr ⟨q, u, rfl, e, fun e2 => hnd.2.2 u (by simp) t (by simp) e2, hu.1, hu.2⟩⟩
  obtain ⟨b1, b2, b3⟩ := hbl
  have f1 : ∀ j, rdL (m.set b (headOf s)) j = if j = b then headOf s else rdL m j := fun j => rdL_set m _ j _ b1
  have L1 : (m.set b (headOf s)).length = m.length := List.length_set
  have hbt : b ≠ nxN mp t := by
    rcases b3 with ⟨_, e⟩ | ⟨q, u, _, e, hne, h0, h1⟩
    · rw [e]; exact fun e => n2 e.symm
    · rw [e]; exact fun e2 => hne (nx_inj h0 ht.1 e2)
  have hbs : ∀ u ∈ s, nxN mp u ≠ b := fun u hu => by
    have hu2 := hl.2 u (by simp [hu])
    have := hp.nx u hu2.1 hu2.2
    rcases b3 with ⟨_, e⟩ | ⟨q, z, e0, e, hne, h0, h1⟩
    · rw [e]; exact this.2.1
    · rw [e]
      intro e2
      have e3 := nx_inj hu2.1 h0 e2
      subst e3
      exact hnd.2.2 u (by rw [e0]; simp) u (by simp [hu]) rfl
  have hfirst : ∀ g : Nat → Int, g b = headOf s → (P ≠ [] → g a = rdL m a) → g a = headOf (P ++ s) := by
    intro g hg hPa
    by_cases e : P = []
    · subst e
      have : b = a := by
        rcases b3 with ⟨_, e⟩ | ⟨q, u, e, _⟩
        · exact e
        · simp at e
      rw [← this, hg]; rfl
    · rw [hPa e, hQ.first, headOf_append e, headOf_append e]
  have hba : b = a → P = [] := by
    intro e
    rcases b3 with ⟨e, _⟩ | ⟨q, u, _, e2, _, h0, h1⟩
    · exact e
    · exact absurd (e2.symm.trans e) (hp.nx u h0 h1).2.1
  have hP3 : ∀ q u, P = q ++ [u] → nxN mp u = b := fun q u e => by
    rcases b3 with ⟨e0, _⟩ | ⟨q', u', e0, e1, _⟩
    · rw [e0] at e; simp at e
    · rw [e0] at e
      obtain ⟨_, e⟩ := List.append_inj' e rfl
      obtain rfl : u' = u := by simpa using e
      exact e1.symm
  have hP4 : ∀ q u r, P = q ++ u :: r → r ≠ [] → nxN mp u ≠ b ∧ nxN mp u ≠ a + 1 ∧ nxN mp u ≠ nxN mp t := fun q u r e hr => by
    have hu := hl.2 u (by rw [e]; simp)
    have h1 := hp.nx u hu.1 hu.2
    have hut : u ≠ t := fun e2 => hnd.2.2 u (by rw [e]; simp) t (by simp) e2
    refine ⟨fun e2 => ?_, h1.2.2, fun e2 => hut (nx_inj hu.1 ht.1 e2)⟩
    rcases b3 with ⟨e0, _⟩ | ⟨q', u', e0, e1, _, h0, _⟩
    · rw [e0] at e; simp at e
    · have e3 : u = u' := nx_inj hu.1 h0 (e2.trans e1)
      subst e3
      rcases List.eq_nil_or_concat r with rfl | ⟨r', z, rfl⟩
      · exact hr rfl
      · rw [List.concat_eq_append] at e
        rw [e0, show q ++ u :: (r' ++ [z]) = (q ++ u :: r') ++ [z] by simp] at e
        obtain ⟨e4, e5⟩ := List.append_inj' e rfl
        obtain rfl : u = z := by simpa using e5
        have h2 := hnd.1
        rw [e0, e4, List.nodup_append] at h2
        exact h2.2.2 u (by simp) u (by simp) rfl
  cases s with
  | nil =>
    have G : Goes m (unlinkT mp a (lastOf P - 1) t) 3 ((m.set b (headOf [])).set (a + 1) (lastOf P)) 1 := by
      refine goes_read hm (rdL_at n1 hnx) (by simp [headOf]) ?_
      unfold unlK
      rw [if_pos (by simp [headOf]), show headOf ([] : List Int) - 1 + 1 = headOf [] by omega, show lastOf P - 1 + 1 = lastOf P by omega, ← hb]
      exact goes_two (goes_st b1 _) (goes_st (by rw [L1]; omega) _)
    have g : ∀ j, rdL ((m.set b (headOf [])).set (a + 1) (lastOf P)) j = if j = a + 1 then lastOf P else if j = b then headOf [] else rdL m j := fun j => by
      rw [rdL_set _ _ _ _ (by rw [L1]; omega), f1]
    refine ⟨_, _, G, hQ.remove ?_ ?_ ?_ ?_ ?_, ⟨by rw [List.length_set, L1], fun j h1 h2 h3 => ?_⟩⟩
    · refine hfirst _ (by rw [g, if_neg b2, if_pos rfl]) (fun hP0 => ?_)
      rw [g, if_neg (by omega), if_neg (fun e => hP0 (hba e.symm))]
    · rw [g, if_pos rfl, List.append_nil]
    · intro q u e
      rw [g, hP3 q u e, if_neg b2, if_pos rfl]
    · intro q u r e hr
      obtain ⟨x1, x2, _⟩ := hP4 q u r e hr
      rw [g, if_neg x2, if_neg x1]
    · intro u hu; cases hu
    · rw [g, if_neg h2, if_neg]
      intro e
      rcases b3 with ⟨_, e2⟩ | ⟨q, u, e0, e2, _⟩
      · exact h1 (e.trans e2)
      · exact h3 u (by rw [e0]; simp) (e.trans e2)
  | cons z s =>
    have hz := hl.2 z (by simp)
    have G : Goes m (unlinkT mp a (lastOf P - 1) t) 3 ((m.set b (headOf (z :: s))).set (nxN mp t) 0) 1 := by
      refine goes_read hm (rdL_at n1 hnx) hs ?_
      unfold unlK
      rw [if_neg (by simp [headOf]; omega), show headOf (z :: s) - 1 + 1 = headOf (z :: s) by omega, ← hb]
      exact goes_two (goes_st b1 _) (goes_st (by rw [L1]; exact n1) _)
    have g : ∀ j, rdL ((m.set b (headOf (z :: s))).set (nxN mp t) 0) j = if j = nxN mp t then 0 else if j = b then headOf (z :: s) else rdL m j := fun j => by
      rw [rdL_set _ _ _ _ (by rw [L1]; exact n1), f1]
    refine ⟨_, _, G, hQ.remove ?_ ?_ ?_ ?_ ?_, ⟨by rw [List.length_set, L1], fun j h1 h2 h3 => ?_⟩⟩
    · refine hfirst _ (by rw [g, if_neg hbt, if_pos rfl]) (fun hP0 => ?_)
      rw [g, if_neg (fun e => n2 e.symm), if_neg (fun e => hP0 (hba e.symm))]
    · rw [g, if_neg (fun e => n3 e.symm), if_neg (fun e => b2 e.symm), hQ.last, lastOf_append (by simp), lastOf_append (by simp), show t :: z :: s = [t] ++ (z :: s) by rfl, lastOf_append (by simp)]
    · intro q u e
      rw [g, hP3 q u e, if_neg hbt, if_pos rfl]
    · intro q u r e hr
      obtain ⟨x1, _, x3⟩ := hP4 q u r e hr
      rw [g, if_neg x3, if_neg x1]
    · intro u hu
      have hu2 := hl.2 u (List.mem_append_right _ (List.mem_cons_of_mem _ hu))
      have hut : nxN mp u ≠ nxN mp t := fun e => hns.1 (by have := nx_inj hu2.1 ht.1 e; rw [← this]; exact hu)
      rw [g, if_neg hut, if_neg (hbs u hu)]
    · rw [g, if_neg (h3 t (by simp)), if_neg]
      intro e
      rcases b3 with ⟨_, e2⟩ | ⟨q, u, e0, e2, _⟩
      · exact h1 (e.trans e2)
      · exact h3 u (by rw [e0]; simp) (e.trans e2)
theorem goes_pop {mp : Mp} (hm : mp.ok) {m : List Int} {a : Nat} {l : List Int} (hp : PlaceOk mp m a) (hQ : QIs (nxN mp) (rdL m) a l) (hl : Thr mp l) :
    ∃ k m', k ≤ 4 ∧ Goes m (popT mp a) k m' (if l = [] then -1 else l.headD 0) ∧ QIs (nxN mp) (rdL m') a l.tail ∧ Left mp m m' a l ∧ (l = [] → m' = m) := by
  have ha := hp.lt
  have hh := Thr.head hl.2
  cases l with
  | nil =>
    refine ⟨1, m, by omega, ?_, hQ, ⟨rfl, fun _ _ _ _ => rfl⟩, fun _ => rfl⟩
    refine goes_read hm (rdL_at (by omega) hQ.first) hh ?_
    unfold popK
    rw [if_pos (by simp [headOf]), if_pos rfl]
    exact .ret _ _
  | cons t s =>
    have ht := hl.2 t (by simp)
    obtain ⟨m', v, G, hQ', hL⟩ := goes_unlink (P := []) hm hp hQ hl
    refine ⟨4, m', by omega, ?_, hQ', hL, fun h => by cases h⟩
    refine goes_read hm (rdL_at (by omega) hQ.first) hh ?_
    unfold popK
    rw [if_neg (by simp [headOf]; omega), if_neg (by simp), show headOf (t :: s) - 1 = t by simp [headOf]]
    exact goes_two G (.ret _ _)
theorem filter_out {l : List Int} {t : Int} (h : t ∉ l) : l.filter (· ≠ t) = l := by
  rw [List.filter_eq_self]
  intro u hu
  simpa using fun e : u = t => h (e ▸ hu)
theorem filter_mid {P s : List Int} {t : Int} (h : (P ++ t :: s).Nodup) : (P ++ t :: s).filter (· ≠ t) = P ++ s := by
  have h1 := List.nodup_append.1 h
  have h2 := List.nodup_cons.1 h1.2.1
  rw [List.filter_append, List.filter_cons_of_neg (by simp), filter_out h2.1, filter_out (fun hh => h1.2.2 t hh t (by simp) rfl)]
theorem goes_rem {mp : Mp} (hm : mp.ok) {m : List Int} {a : Nat} {l : List Int} {t : Int} (hp : PlaceOk mp m a) (hQ : QIs (nxN mp) (rdL m) a l) (hl : Thr mp l) (ht : 0 ≤ t ∧ t < mp.t) :
    ∀ (s P : List Int), l = P ++ s → t ∉ P → ∃ k m', k ≤ 6 + 2 * s.length ∧ Goes m (remT mp a t (lastOf P - 1) P.reverse) k m' (if t ∈ l then 1 else 0) ∧ QIs (nxN mp) (rdL m') a (l.filter (· ≠ t)) ∧ Left mp m m' a l ∧ (t ∉ l → m' = m) := by
  have ha := hp.lt
  have hcell : ∀ s P, l = P ++ s → m[behN mp a (lastOf P - 1)]? = some (headOf s) := fun s P e => by
    rcases List.eq_nil_or_concat P with rfl | ⟨q, u, rfl⟩
    · have : behN mp a (lastOf [] - 1) = a := by simp [behN, lastOf, headOf]
      rw [this]
      exact rdL_at (by omega) (by rw [hQ.first, e]; rfl)
    · rw [List.concat_eq_append] at *
      have hu := hl.2 u (by rw [e]; simp)
      have e2 : behN mp a (lastOf (q ++ [u]) - 1) = nxN mp u := by
        rw [lastOf_snoc]
        unfold behN
        rw [if_neg (by omega), show u + 1 - 1 = u by omega]
      rw [e2]
      exact rdL_at (hp.nx u hu.1 hu.2).1 (hQ.next q u s (by rw [e]; simp))
  have hmt := hm.t
  intro s
  induction s with
  | nil =>
    intro P e hP
    have hc := hcell [] P e
    rw [List.append_nil] at e
    subst e
    refine ⟨1, m, by omega, ?_, by rw [filter_out hP]; exact hQ, ⟨rfl, fun _ _ _ _ => rfl⟩, fun _ => rfl⟩
    rw [remT_eq, if_neg hP]
    refine .op (show (0 : Nat) < 5 by omega) (count_lt (List.getElem?_eq_some_iff.1 hc).1) ?_
    rw [oper_ld hc (by simp [headOf])]
    show Goes m (ansR mp a t _ _ (headOf [])) 0 m 0
    unfold ansR
    rw [thrS_of (by simp [headOf]) hmt.2, if_neg (by simp [headOf]; omega), if_pos (.inl (by simp [headOf]))]
    exact .ret _ _
  | cons u s ih =>
    intro P e hP
    have hc := hcell (u :: s) P e
    have hu := hl.2 u (by rw [e]; simp)
    have hthr : thrS mp (headOf (u :: s)) = u := by
      rw [thrS_of (by simp [headOf]; omega) hmt.2]
      simp [headOf]
    have hop := oper_ld hc (by simp [headOf]; omega)
    by_cases hut : u = t
    · subst hut
      subst e
      obtain ⟨m', v, G, hQ', hL⟩ := goes_unlink hm hp hQ hl
      refine ⟨4, m', by omega, ?_, by rw [filter_mid hl.1]; exact hQ', hL, fun h => absurd (by simp) h⟩
      rw [remT_eq, if_pos (by simp)]
      refine .op (show (0 : Nat) < 5 by omega) (count_lt (List.getElem?_eq_some_iff.1 hc).1) ?_
      rw [hop]
      show Goes m (ansR mp a u _ _ (headOf (u :: s))) 3 m' 1
      unfold ansR
      rw [hthr, if_pos rfl]
      exact goes_bind (κ := fun _ => retT 1) G (.ret _ 1)
    · obtain ⟨k, m', hk, G, hQ', hL, hs⟩ := ih (P ++ [u]) (by rw [e]; simp) (fun h => by
        rcases List.mem_append.1 h with h | h
        · exact hP h
        · simp at h; exact hut h.symm)
      refine ⟨k + 1, m', by simp only [List.length_cons]; omega, ?_, hQ', hL, hs⟩
      rw [remT_eq]
      refine .op (show (0 : Nat) < 5 by omega) (count_lt (List.getElem?_eq_some_iff.1 hc).1) ?_
      rw [hop]
      show Goes m (ansR mp a t _ _ (headOf (u :: s))) k m' _
      have hnP : u ∉ P := by
        have h1 := hl.1
        rw [e] at h1
        have h2 := List.nodup_append.1 h1
        exact fun h => h2.2.2 u h u (by simp) rfl
      unfold ansR
      rw [hthr, if_neg hut, if_neg (by
        intro h
        rcases h with h | h
        · omega
        · exact hnP (by simpa using h))]
      rw [lastOf_snoc, show u + 1 - 1 = u by omega, List.reverse_append] at G
      exact G
/-! the laws' map: eight threads, one object, two monitors -/
def hereM : Mp := ⟨8, 1, 2⟩
theorem here_ok : hereM.ok := ⟨by decide, by decide, by decide⟩
def placeN : Nat → Nat
  | 0 => 53
  | 1 => 55
  | 2 => 61
  | _ => 63
theorem place_cases (k : Nat) : placeN k = 53 ∨ placeN k = 55 ∨ placeN k = 61 ∨ placeN k = 63 := by
  match k with
  | 0 => exact .inl rfl
  | 1 => exact .inr (.inl rfl)
  | 2 => exact .inr (.inr (.inl rfl))
  | (k + 3) => exact .inr (.inr (.inr rfl))
theorem place_ne {j k : Nat} (hj : j < 4) (hk : k < 4) (h : j ≠ k) : placeN j ≠ placeN k ∧ placeN j ≠ placeN k + 1 ∧ placeN j + 1 ≠ placeN k := by
  have : j = 0 ∨ j = 1 ∨ j = 2 ∨ j = 3 := by omega
  have : k = 0 ∨ k = 1 ∨ k = 2 ∨ k = 3 := by omega
  rcases ‹j = 0 ∨ _› with rfl | rfl | rfl | rfl <;> rcases ‹k = 0 ∨ _› with rfl | rfl | rfl | rfl <;> first | exact absurd rfl h | decide
theorem nx_here (u : Int) (h : 0 ≤ u ∧ u < 8) : (nxN hereM u : Int) = 3 + 6 * u := by
  unfold nxN hereM
  simp
  omega
theorem place_ok {m : List Int} (h : m.length = 67) (k : Nat) : PlaceOk hereM m (placeN k) := by
  have := place_cases k
  refine ⟨by omega, fun u h1 h2 => ?_⟩
  have h2' : u < 8 := h2
  have := nx_here u ⟨h1, h2'⟩
  omega
def updL (L : Nat → List Int) (k : Nat) (x : List Int) : Nat → List Int := fun j => if j = k then x else L j
/-- four queues in the laws' cells -/
structure QS (mm : List Int) (L : Nat → List Int) : Prop where
  len : mm.length = 67
  is : ∀ k, k < 4 → QIs (nxN hereM) (rdL mm) (placeN k) (L k)
  thr : ∀ k, k < 4 → Thr hereM (L k)
  apart : ∀ j k, j < 4 → k < 4 → j ≠ k → ∀ u ∈ L j, u ∉ L k
theorem QS.step {mm mm' : List Int} {L : Nat → List Int} (h : QS mm L) {k : Nat} (hk : k < 4) {own l' : List Int} (hL : Left hereM mm mm' (placeN k) own) (hQ : QIs (nxN hereM) (rdL mm') (placeN k) l') (hT : Thr hereM l') (how : ∀ u ∈ own, 0 ≤ u ∧ u < (8 : Int) ∧ ∀ j, j < 4 → j ≠ k → u ∉ L j)
    (hap : ∀ u ∈ l', ∀ j, j < 4 → j ≠ k → u ∉ L j) : QS mm' (updL L k l') := by
  refine ⟨hL.len.trans h.len, fun j hj => ?_, fun j hj => ?_, fun i j hi hj hij u hu => ?_⟩
  · unfold updL
    split
    · next e => rw [e]; exact hQ
    · next e =>
      have hne := place_ne hj hk e
      have p1 := place_cases j
      refine (h.is j hj).congr ?_ ?_ (fun u hu => ?_)
      · refine hL.far _ hne.1 hne.2.1 (fun u hu => ?_)
        have := nx_here u ⟨(how u hu).1, (how u hu).2.1⟩
        have := (how u hu).2.1
        omega
      · refine hL.far _ hne.2.2 (by have := hne.1; omega) (fun u hu => ?_)
        have := nx_here u ⟨(how u hu).1, (how u hu).2.1⟩
        have := (how u hu).2.1
        omega
      · have hu2 := (h.thr j hj).2 u hu
        have hu3 : u < 8 := hu2.2
        have p2 := place_cases k
        have := nx_here u ⟨hu2.1, hu3⟩
        refine hL.far _ (by omega) (by omega) (fun z hz e2 => ?_)
        have := nx_inj hu2.1 (how z hz).1 e2
        subst this
        exact (how u hz).2.2 j hj e hu
  · unfold updL
    split
    · exact hT
    · exact h.thr j hj
  · unfold updL at hu ⊢
    split at hu
    · next e =>
      rw [if_neg (fun e2 => hij (e.trans e2.symm))]
      exact hap u hu j hj (fun e2 => hij (e.trans e2.symm))
    · next e =>
      split
      · next e2 => exact fun hh => hap u hh i hi e hu
      · exact h.apart i j hi hj hij u hu
theorem QS.push {mm : List Int} {L : Nat → List Int} (h : QS mm L) {k : Nat} (hk : k < 4) {t : Int} (ht : 0 ≤ t ∧ t < 8) (hn : ∀ j, j < 4 → t ∉ L j) :
    ∃ c mm', c ≤ 5 ∧ Goes mm (pushT hereM (placeN k) t) c mm' 0 ∧ QS mm' (updL L k (L k ++ [t])) ∧ Left hereM mm mm' (placeN k) (t :: L k) := by
  obtain ⟨c, mm', h1, G, h2, h3⟩ := goes_push here_ok (place_ok h.len k) (h.is k hk) (h.thr k hk) (t := t) ht (hn k hk)
  have hT := h.thr k hk
  refine ⟨c, mm', h1, G, h.step hk h3 h2 ⟨?_, ?_⟩ (fun u hu => ?_) (fun u hu j hj e => ?_), h3⟩
  · rw [List.nodup_append]
    exact ⟨hT.1, by simp, fun a ha b hb e => by simp at hb; subst hb; subst e; exact hn k hk ha⟩
  · intro u hu
    rcases List.mem_append.1 hu with hu | hu
    · exact hT.2 u hu
    · simp at hu; subst hu; exact ht
  · rcases List.mem_cons.1 hu with rfl | hu
    · exact ⟨ht.1, ht.2, fun j hj _ => hn j hj⟩
    · exact ⟨(hT.2 u hu).1, (hT.2 u hu).2, fun j hj e => h.apart k j hk hj (fun e2 => e e2.symm) u hu⟩
  · rcases List.mem_append.1 hu with hu | hu
    · exact h.apart k j hk hj (fun e2 => e e2.symm) u hu
    · simp at hu; subst hu; exact hn j hj
theorem QS.pop {mm : List Int} {L : Nat → List Int} (h : QS mm L) {k : Nat} (hk : k < 4) :
    ∃ c mm', c ≤ 4 ∧ Goes mm (popT hereM (placeN k)) c mm' (if L k = [] then -1 else (L k).headD 0) ∧ QS mm' (updL L k (L k).tail) ∧ Left hereM mm mm' (placeN k) (L k) := by
  obtain ⟨c, mm', h1, G, h2, h3, _⟩ := goes_pop here_ok (place_ok h.len k) (h.is k hk) (h.thr k hk)
  have hT := h.thr k hk
  refine ⟨c, mm', h1, G, h.step hk h3 h2 ⟨hT.1.sublist (List.tail_sublist _), fun u hu => hT.2 u (List.mem_of_mem_tail hu)⟩ (fun u hu => ⟨(hT.2 u hu).1, (hT.2 u hu).2, fun j hj e => h.apart k j hk hj (fun e2 => e e2.symm) u hu⟩) (fun u hu j hj e => h.apart k j hk hj (fun e2 => e e2.symm) u (List.mem_of_mem_tail hu)), h3⟩
theorem QS.rem {mm : List Int} {L : Nat → List Int} (h : QS mm L) {k : Nat} (hk : k < 4) {t : Int} (ht : 0 ≤ t ∧ t < 8) :
    ∃ c mm', c ≤ 6 + 2 * (L k).length ∧ Goes mm (remT hereM (placeN k) t (-1) []) c mm' (if t ∈ L k then 1 else 0) ∧ QS mm' (updL L k ((L k).filter (· ≠ t))) ∧ Left hereM mm mm' (placeN k) (L k) := by
  obtain ⟨c, mm', h1, G, h2, h3, _⟩ := goes_rem here_ok (place_ok h.len k) (h.is k hk) (h.thr k hk) (t := t) ht (L k) [] rfl (by simp)
  have hT := h.thr k hk
  refine ⟨c, mm', h1, G, h.step hk h3 h2 ⟨hT.1.sublist List.filter_sublist, fun u hu => hT.2 u ((List.mem_filter.1 hu).1)⟩ (fun u hu => ⟨(hT.2 u hu).1, (hT.2 u hu).2, fun j hj e => h.apart k j hk hj (fun e2 => e e2.symm) u hu⟩) (fun u hu j hj e => h.apart k j hk hj (fun e2 => e e2.symm) u ((List.mem_filter.1 hu).1)), h3⟩
theorem QS.chain {mm : List Int} {L : Nat → List Int} (h : QS mm L) {k : Nat} (hk : k < 4) : Chain mm hereM (placeN k) (L k) := by
  have hp := place_ok h.len k
  have hT := h.thr k hk
  refine ⟨rdL_at (by have := hp.lt; omega) (h.is k hk).first, fun i t ht => ?_, hT.1, hT.2⟩
  have hm := hT.2 t (List.mem_of_getElem? ht)
  exact rdL_at (hp.nx t hm.1 hm.2).1 ((h.is k hk).walk ht).2
theorem QS.none (mm : List Int) (h : mm = List.replicate 67 0) : QS mm (fun _ => []) := by
  subst h
  refine ⟨by simp, fun k hk => ?_, fun k hk => ⟨List.nodup_nil, fun u hu => by cases hu⟩, fun j k _ _ _ u hu => by cases hu⟩
  have := place_cases k
  refine QIs.nil ?_ ?_
  · unfold rdL
    rw [List.getElem?_replicate, if_pos (by omega)]
    rfl
  · unfold rdL
    rw [List.getElem?_replicate, if_pos (by omega)]
    rfl
end Go.Proofs.YtlmjlnlnbjfhnaaGreat
