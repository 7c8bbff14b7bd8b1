/- Layer 10: what the trees of queues come to, in the cells of queues. -/
import Derived.Test.YtpejmkoheodblaaGreatQuSpec
import Derived.Test.YtpejmkoheodblaaGreatQuP
import Derived.Test.YtpejmkoheodblaaGreatQuEnds
import Derived.Test.YtpejmkoheodblaaGreatQuK
namespace Go.Proofs.YtpejmkoheodblaaGreat
open Go.ChangeShapes Go.WideShapes Go.ChangeAt Go.RowKit
set_option linter.unusedVariables false
set_option maxRecDepth 100000
set_option linter.unusedSimpArgs false
theorem goes_bind {m m1 m2 : List Int} {T : Tre Itm} {κ : Int → Tre Itm} {k k2 : Nat} {v u : Int} (h : Goes m T k m1 v) (h2 : Goes m1 (κ v) k2 m2 u) : Goes m (bindT κ T) (k + k2) m2 u := by
  induction h with
  | ret m v => rw [bindT_ret, Nat.zero_add]; exact h2
  | op h1 h3 h4 ih =>
    rw [bindT_op, Nat.add_right_comm]
    exact .op h1 h3 (ih h2)
theorem goes_cast {m m' : List Int} {T : Tre Itm} {k k' : Nat} {v : Int} (h : Goes m T k m' v) (e : k = k') : Goes m T k' m' v := e ▸ h
theorem oper_ld {m : List Int} {i : Nat} {c : Int} (h : m[i]? = some c) (hc : 0 ≤ c ∧ c ≤ 1000000) : operS m (ldI i) = (m, c, true) := by
  have e : wrap64 c = c := IntWalk.wrap64_in _ ⟨by omega, by omega⟩
  simp [operS, h, e]
theorem oper_st {m : List Int} {i : Nat} (h : i < m.length) (v : Int) : operS m (stI i v) = (m.set i v, 1, true) := by
  have e : m[i]? = some m[i] := List.getElem?_eq_getElem h
  simp [operS, e]
theorem count_lt {m : List Int} {x : Itm} (h : x.at' < m.length) : countS m x = 1 := by simp [countS, h]
theorem goes_st {m : List Int} {i : Nat} (h : i < m.length) (v : Int) : Goes m (stT i v) 1 (m.set i v) 1 := by
  have e := oper_st h v
  refine .op (show (1 : Nat) < 5 by omega) (count_lt h) ?_
  rw [e]
  exact .ret _ _
theorem goes_read {mp : Mp} (hm : mp.ok) {m m' : List Int} {i : Nat} {c v : Int} {k : Nat} {κ : Int → Tre Itm} (h : m[i]? = some c) (hc : 0 ≤ c ∧ c ≤ mp.t) (h2 : Goes m (κ (c - 1)) k m' v) : Goes m (readT mp i κ) (k + 1) m' v := by
  have ht := hm.t
  have e := oper_ld h ⟨hc.1, by omega⟩
  refine .op (show (0 : Nat) < 5 by omega) (count_lt (List.getElem?_eq_some_iff.1 h).1) ?_
  rw [e]
  show Goes m (κ (thrS mp c)) k m' v
  rw [thrS_of hc ht.2]
  exact h2
theorem goes_two {m m1 m2 : List Int} {T1 T2 : Tre Itm} {k1 k2 : Nat} {v1 v2 : Int} (h1 : Goes m T1 k1 m1 v1) (h2 : Goes m1 T2 k2 m2 v2) : Goes m (seqT [T1, T2]) (k1 + k2) m2 v2 := by
  simp only [seqT]
  exact goes_bind h1 (goes_cast (goes_bind h2 (.ret _ _)) (by omega))
theorem goes_four {m m1 m2 m3 m4 : List Int} {T1 T2 T3 T4 : Tre Itm} {k1 k2 k3 k4 : Nat} {v1 v2 v3 v4 : Int} (h1 : Goes m T1 k1 m1 v1) (h2 : Goes m1 T2 k2 m2 v2) (h3 : Goes m2 T3 k3 m3 v3) (h4 : Goes m3 T4 k4 m4 v4) : Goes m (seqT [T1, T2, T3, T4]) (k1 + k2 + k3 + k4) m4 v4 := by
  simp only [seqT]
  refine goes_cast (goes_bind h1 (goes_bind h2 (goes_bind h3 (goes_bind h4 (.ret _ _))))) (by omega)
/-- a queue's place among the cells -/
structure PlaceOk (mp : Mp) (m : List Int) (a : Nat) : Prop where
  lt : a + 1 < m.length
  nx : ∀ u : Int, 0 ≤ u → u < mp.t → nxN mp u < m.length ∧ nxN mp u ≠ a ∧ nxN mp u ≠ a + 1
theorem PlaceOk.len {mp : Mp} {m m' : List Int} {a : Nat} (h : PlaceOk mp m a) (e : m'.length = m.length) : PlaceOk mp m' a := ⟨by rw [e]; exact h.lt, fun u h1 h2 => by rw [e]; exact h.nx u h1 h2⟩
theorem nx_inj {mp : Mp} {u v : Int} (hu : 0 ≤ u) (hv : 0 ≤ v) (h : nxN mp u = nxN mp v) : u = v := by
  unfold nxN at h
  omega
theorem rdL_some {m : List Int} {i : Nat} (h : i < m.length) : m[i]? = some (rdL m i) := by
  unfold rdL
  rw [List.getElem?_eq_getElem h]
  rfl
theorem rdL_at {m : List Int} {i : Nat} {c : Int} (h : i < m.length) (e : rdL m i = c) : m[i]? = some c := by rw [rdL_some h, e]
/-- threads of a queue -/
def Thr (mp : Mp) (l : List Int) : Prop := l.Nodup ∧ ∀ u ∈ l, 0 ≤ u ∧ u < (mp.t : Int)
theorem Thr.head {mp : Mp} {l : List Int} (h : ∀ u ∈ l, 0 ≤ u ∧ u < (mp.t : Int)) : 0 ≤ headOf l ∧ headOf l ≤ mp.t := by
  cases l with
  | nil => simp [headOf]
  | cons t l => have := h t (by simp); simp [headOf]; omega
theorem Thr.last {mp : Mp} {l : List Int} (h : ∀ u ∈ l, 0 ≤ u ∧ u < (mp.t : Int)) : 0 ≤ lastOf l ∧ lastOf l ≤ mp.t := Thr.head (by simpa using h)
/-- what an operation on a queue leaves: its length, and what isn't its own -/
structure Left (mp : Mp) (m m' : List Int) (a : Nat) (own : List Int) : Prop where
  len : m'.length = m.length
  far : ∀ j, j ≠ a → j ≠ a + 1 → (∀ u ∈ own, j ≠ nxN mp u) → rdL m' j = rdL m j
theorem goes_push {mp : Mp} (hm : mp.ok) {m : List Int} {a : Nat} {l : List Int} {t : Int} (hp : PlaceOk mp m a) (hQ : QIs (nxN mp) (rdL m) a l) (hl : Thr mp l) (ht : 0 ≤ t ∧ t < mp.t) (hn : t ∉ l) :
    ∃ k m', k ≤ 5 ∧ Goes m (pushT mp a t) k m' 0 ∧ QIs (nxN mp) (rdL m') a (l ++ [t]) ∧ Left mp m m' a (t :: l) := by
  obtain ⟨n1, n2, n3⟩ := hp.nx t ht.1 ht.2
  have ha := hp.lt
  have f1 : ∀ j, rdL (m.set (nxN mp t) 0) j = if j = nxN mp t then 0 else rdL m j := fun j => rdL_set m _ j 0 n1
  have L1 : (m.set (nxN mp t) 0).length = m.length := List.length_set
  have hh := Thr.head hl.2
  have e1 : rdL (m.set (nxN mp t) 0) a = headOf l := by rw [f1, if_neg (fun e => n2 e.symm), hQ.first]
  have e2 : rdL (m.set (nxN mp t) 0) (a + 1) = lastOf l := by rw [f1, if_neg (fun e => n3 e.symm), hQ.last]
  rcases List.eq_nil_or_concat l with rfl | ⟨p, u, rfl⟩
  · have E : Goes (m.set (nxN mp t) 0) (endT mp a) 1 (m.set (nxN mp t) 0) (-1) := by
      refine goes_read hm (rdL_at (by rw [L1]; omega) e1) (by simp [headOf]) ?_
      show Goes _ (endK mp a (0 - 1)) 0 _ _
      unfold endK
      rw [if_pos (by rfl)]
      exact .ret _ _
    have L2 : ((m.set (nxN mp t) 0).set a (t + 1)).length = m.length := by rw [List.length_set, L1]
    have G := goes_four (goes_st n1 0) (goes_bind (κ := pushK mp a t) E (by
      unfold pushK
      rw [if_pos ⟨by omega, by omega⟩, show behN mp a (-1) = a from if_pos rfl]
      exact goes_st (by rw [L1]; omega) (t + 1))) (goes_st (i := a + 1) (by rw [L2]; omega) (t + 1)) (.ret _ 0)
    refine ⟨_, _, ?_, G, ?_, ?_⟩
    · omega
    · have g : ∀ j, rdL (((m.set (nxN mp t) 0).set a (t + 1)).set (a + 1) (t + 1)) j = if j = a + 1 then t + 1 else if j = a then t + 1 else if j = nxN mp t then 0 else rdL m j := fun j => by
        rw [rdL_set _ _ _ _ (by rw [L2]; omega), rdL_set _ _ _ _ (by rw [L1]; omega), f1]
      refine hQ.push ?_ ?_ ?_ ?_ ?_
      · rw [g, if_neg (by omega), if_pos rfl]; rfl
      · rw [g, if_pos rfl]
      · rw [g, if_neg n3, if_neg n2, if_pos rfl]
      · intro p u e; simp at e
      · intro p u s e; simp at e
    · refine ⟨by rw [List.length_set, L2], fun j h1 h2 h3 => ?_⟩
      rw [rdL_set _ _ _ _ (by rw [L2]; omega), rdL_set _ _ _ _ (by rw [L1]; omega), f1, if_neg h2, if_neg h1, if_neg (h3 t (by simp))]
  · rw [List.concat_eq_append] at *
    have hu := hl.2 u (by simp)
    obtain ⟨u1, u2, u3⟩ := hp.nx u hu.1 hu.2
    have hut : u ≠ t := fun e => hn (by simp [e])
    have hnn : nxN mp u ≠ nxN mp t := fun e => hut (nx_inj hu.1 ht.1 e)
    have hne : headOf (p ++ [u]) ≠ 0 := fun e => by rw [headOf_zero (fun z hz => (hl.2 z hz).1)] at e; simp at e
    rw [lastOf_snoc] at e2
    have E : Goes (m.set (nxN mp t) 0) (endT mp a) 2 (m.set (nxN mp t) 0) u := by
      refine goes_read hm (rdL_at (by rw [L1]; omega) e1) hh ?_
      show Goes _ (endK mp a (headOf (p ++ [u]) - 1)) 1 _ _
      unfold endK
      rw [if_neg (by omega)]
      refine goes_read hm (rdL_at (by rw [L1]; omega) e2) (by omega) ?_
      unfold endK2
      rw [if_neg (by omega), show u + 1 - 1 = u by omega]
      exact .ret _ _
    have L2 : ((m.set (nxN mp t) 0).set (nxN mp u) (t + 1)).length = m.length := by rw [List.length_set, L1]
    have G := goes_four (goes_st n1 0) (goes_bind (κ := pushK mp a t) E (by
      unfold pushK
      rw [if_pos ⟨by omega, by omega⟩, show behN mp a u = nxN mp u from if_neg (by omega)]
      exact goes_st (by rw [L1]; omega) (t + 1))) (goes_st (i := a + 1) (by rw [L2]; omega) (t + 1)) (.ret _ 0)
    have g : ∀ j, rdL (((m.set (nxN mp t) 0).set (nxN mp u) (t + 1)).set (a + 1) (t + 1)) j = if j = a + 1 then t + 1 else if j = nxN mp u then t + 1 else if j = nxN mp t then 0 else rdL m j := fun j => by
      rw [rdL_set _ _ _ _ (by rw [L2]; omega), rdL_set _ _ _ _ (by rw [L1]; omega), f1]
    refine ⟨_, _, ?_, G, ?_, ?_⟩
    · omega
    · refine hQ.push ?_ ?_ ?_ ?_ ?_
      · rw [g, if_neg (by omega), if_neg (fun e => u2 e.symm), if_neg (fun e => n2 e.symm), hQ.first]
        exact (headOf_append (l := p ++ [u]) (by simp) [t]).symm
      · rw [g, if_pos rfl]
      · rw [g, if_neg n3, if_neg (fun e => hnn e.symm), if_pos rfl]
      · intro p' u' e
        obtain ⟨_, e⟩ := List.append_inj' e rfl
        obtain rfl : u = u' := by simpa using e
        rw [g, if_neg u3, if_pos rfl]
      · intro p' u' s e hs
        have hmem : u' ∈ p ++ [u] := by rw [e]; simp
        have hu' := hl.2 u' hmem
        have hne2 : u' ≠ u := by
          intro e3
          subst e3
          rcases List.eq_nil_or_concat s with rfl | ⟨s', z, rfl⟩
          · exact hs rfl
          · rw [List.concat_eq_append, show p' ++ u' :: (s' ++ [z]) = (p' ++ u' :: s') ++ [z] by simp] at e
            obtain ⟨e4, e5⟩ := List.append_inj' e rfl
            obtain rfl : u' = z := by simpa using e5
            have h1 := hl.1
            rw [e4] at h1
            rw [List.nodup_append] at h1
            exact h1.2.2 u' (by simp) u' (by simp) rfl
        have hnt : u' ≠ t := fun e => hn (e ▸ hmem)
        have b1 := hp.nx u' hu'.1 hu'.2
        rw [g, if_neg b1.2.2, if_neg (fun e => hne2 (nx_inj hu'.1 hu.1 e)), if_neg (fun e => hnt (nx_inj hu'.1 ht.1 e))]
    · refine ⟨by rw [List.length_set, L2], fun j h1 h2 h3 => ?_⟩
      rw [g, if_neg h2, if_neg (h3 u (by simp)), if_neg (h3 t (by simp))]
/-- taking t out, behind P -/
theorem goes_unlink {mp : Mp} (hm : mp.ok) {m : List Int} {a : Nat} {P s : List Int} {t : Int} (hp : PlaceOk mp m a) (hQ : QIs (nxN mp) (rdL m) a (P ++ t :: s)) (hl : Thr mp (P ++ t :: s)) :
    ∃ m' v, Goes m (unlinkT mp a (lastOf P - 1) t) 3 m' v ∧ QIs (nxN mp) (rdL m') a (P ++ s) ∧ Left mp m m' a (P ++ t :: s) := by
  have hP := Thr.last (mp := mp) (l := P) (fun u hu => hl.2 u (by simp [hu]))
  have hs := Thr.head (mp := mp) (l := s) (fun u hu => hl.2 u (by simp [hu]))
  have ht := hl.2 t (by simp)
  obtain ⟨n1, n2, n3⟩ := hp.nx t ht.1 ht.2
  have ha := hp.lt
  have hnx := hQ.next P t s rfl
  have hnd := List.nodup_append.1 hl.1
  have hns := List.nodup_cons.1 hnd.2.1
  obtain ⟨b, hb⟩ : ∃ b, b = behN mp a (lastOf P - 1) := ⟨_, rfl⟩
  -- where the thread ahead, or the queue's first, is
  have hbl : b < m.length ∧ b ≠ a + 1 ∧ ((P = [] ∧ b = a) ∨ ∃ q u, P = q ++ [u] ∧ b = nxN mp u ∧ u ≠ t ∧ 0 ≤ u ∧ u < mp.t) := by
    rcases List.eq_nil_or_concat P with rfl | ⟨q, u, rfl⟩
    · have : b = a := by rw [hb]; simp [behN, lastOf, headOf]
      exact ⟨by omega, by omega, .inl ⟨rfl, this⟩⟩
    · rw [List.concat_eq_append] at *
      have hu := hl.2 u (by simp)
      have e : b = nxN mp u := by
        rw [hb, lastOf_snoc]
        unfold behN
        rw [if_neg (by omega), show u + 1 - 1 = u by omega]
      obtain ⟨u1, u2, u3⟩ := hp.nx u hu.1 hu.2
      exact ⟨by rw [e]; exact u1, by rw [e]; exact u3, .inr ⟨q, u, rfl, e, fun e2 => hnd.2.2 u (by simp) t (by simp) e2, hu.1, hu.2⟩⟩
  obtain ⟨b1, b2, b3⟩ := hbl
  have f1 : ∀ j, rdL (m.set b (headOf s)) j = if j = b then headOf s else rdL m j := fun j => rdL_set m _ j _ b1
  have L1 : (m.set b (headOf s)).length = m.length := List.length_set
  have hbt : b ≠ nxN mp t := by
    rcases b3 with ⟨_, e⟩ | ⟨q, u, _, e, hne, h0, h1⟩
    · rw [e]; exact fun e => n2 e.symm
    · rw [e]; exact fun e2 => hne (nx_inj h0 ht.1 e2)
  have hbs : ∀ u ∈ s, nxN mp u ≠ b := fun u hu => by
    have hu2 := hl.2 u (by simp [hu])
    have := hp.nx u hu2.1 hu2.2
    rcases b3 with ⟨_, e⟩ | ⟨q, z, e0, e, hne, h0, h1⟩
    · rw [e]; exact this.2.1
    · rw [e]
      intro e2
      have e3 := nx_inj hu2.1 h0 e2
      subst e3
      exact hnd.2.2 u (by rw [e0]; simp) u (by simp [hu]) rfl
  have hfirst : ∀ g : Nat → Int, g b = headOf s → (P ≠ [] → g a = rdL m a) → g a = headOf (P ++ s) := by
    intro g hg hPa
    by_cases e : P = []
    · subst e
      have : b = a := by
        rcases b3 with ⟨_, e⟩ | ⟨q, u, e, _⟩
        · exact e
        · simp at e
      rw [← this, hg]; rfl
    · rw [hPa e, hQ.first, headOf_append e, headOf_append e]
  have hba : b = a → P = [] := by
    intro e
    rcases b3 with ⟨e, _⟩ | ⟨q, u, _, e2, _, h0, h1⟩
    · exact e
    · exact absurd (e2.symm.trans e) (hp.nx u h0 h1).2.1
  have hP3 : ∀ q u, P = q ++ [u] → nxN mp u = b := fun q u e => by
    rcases b3 with ⟨e0, _⟩ | ⟨q', u', e0, e1, _⟩
    · rw [e0] at e; simp at e
    · rw [e0] at e
      obtain ⟨_, e⟩ := List.append_inj' e rfl
      obtain rfl : u' = u := by simpa using e
      exact e1.symm
  have hP4 : ∀ q u r, P = q ++ u :: r → r ≠ [] → nxN mp u ≠ b ∧ nxN mp u ≠ a + 1 ∧ nxN mp u ≠ nxN mp t := fun q u r e hr => by
    have hu := hl.2 u (by rw [e]; simp)
    have h1 := hp.nx u hu.1 hu.2
    have hut : u ≠ t := fun e2 => hnd.2.2 u (by rw [e]; simp) t (by simp) e2
    refine ⟨fun e2 => ?_, h1.2.2, fun e2 => hut (nx_inj hu.1 ht.1 e2)⟩
    rcases b3 with ⟨e0, _⟩ | ⟨q', u', e0, e1, _, h0, _⟩
    · rw [e0] at e; simp at e
    · have e3 : u = u' := nx_inj hu.1 h0 (e2.trans e1)
      subst e3
      rcases List.eq_nil_or_concat r with rfl | ⟨r', z, rfl⟩
      · exact hr rfl
      · rw [List.concat_eq_append] at e
        rw [e0, show q ++ u :: (r' ++ [z]) = (q ++ u :: r') ++ [z] by simp] at e
        obtain ⟨e4, e5⟩ := List.append_inj' e rfl
        obtain rfl : u = z := by simpa using e5
        have h2 := hnd.1
        rw [e0, e4, List.nodup_append] at h2
        exact h2.2.2 u (by simp) u (by simp) rfl
  cases s with
  | nil =>
    have G : Goes m (unlinkT mp a (lastOf P - 1) t) 3 ((m.set b (headOf [])).set (a + 1) (lastOf P)) 1 := by
      refine goes_read hm (rdL_at n1 hnx) (by simp [headOf]) ?_
      unfold unlK
      rw [if_pos (by simp [headOf]), show headOf ([] : List Int) - 1 + 1 = headOf [] by omega, show lastOf P - 1 + 1 = lastOf P by omega, ← hb]
      exact goes_two (goes_st b1 _) (goes_st (by rw [L1]; omega) _)
    have g : ∀ j, rdL ((m.set b (headOf [])).set (a + 1) (lastOf P)) j = if j = a + 1 then lastOf P else if j = b then headOf [] else rdL m j := fun j => by
      rw [rdL_set _ _ _ _ (by rw [L1]; omega), f1]
    refine ⟨_, _, G, hQ.remove ?_ ?_ ?_ ?_ ?_, ⟨by rw [List.length_set, L1], fun j h1 h2 h3 => ?_⟩⟩
    · refine hfirst _ (by rw [g, if_neg b2, if_pos rfl]) (fun hP0 => ?_)
      rw [g, if_neg (by omega), if_neg (fun e => hP0 (hba e.symm))]
    · rw [g, if_pos rfl, List.append_nil]
    · intro q u e
      rw [g, hP3 q u e, if_neg b2, if_pos rfl]
    · intro q u r e hr
      obtain ⟨x1, x2, _⟩ := hP4 q u r e hr
      rw [g, if_neg x2, if_neg x1]
    · intro u hu; cases hu
    · rw [g, if_neg h2, if_neg]
      intro e
      rcases b3 with ⟨_, e2⟩ | ⟨q, u, e0, e2, _⟩
      · exact h1 (e.trans e2)
      · exact h3 u (by rw [e0]; simp) (e.trans e2)
  | cons z s =>
    have hz := hl.2 z (by simp)
    have G : Goes m (unlinkT mp a (lastOf P - 1) t) 3 ((m.set b (headOf (z :: s))).set (nxN mp t) 0) 1 := by
      refine goes_read hm (rdL_at n1 hnx) hs ?_
      unfold unlK
      rw [if_neg (by simp [headOf]; omega), show headOf (z :: s) - 1 + 1 = headOf (z :: s) by omega, ← hb]
      exact goes_two (goes_st b1 _) (goes_st (by rw [L1]; exact n1) _)
    have g : ∀ j, rdL ((m.set b (headOf (z :: s))).set (nxN mp t) 0) j = if j = nxN mp t then 0 else if j = b then headOf (z :: s) else rdL m j := fun j => by
      rw [rdL_set _ _ _ _ (by rw [L1]; exact n1), f1]
    refine ⟨_, _, G, hQ.remove ?_ ?_ ?_ ?_ ?_, ⟨by rw [List.length_set, L1], fun j h1 h2 h3 => ?_⟩⟩
    · refine hfirst _ (by rw [g, if_neg hbt, if_pos rfl]) (fun hP0 => ?_)
      rw [g, if_neg (fun e => n2 e.symm), if_neg (fun e => hP0 (hba e.symm))]
    · rw [g, if_neg (fun e => n3 e.symm), if_neg (fun e => b2 e.symm), hQ.last, lastOf_append (by simp), lastOf_append (by simp), show t :: z :: s = [t] ++ (z :: s) by rfl, lastOf_append (by simp)]
    · intro q u e
      rw [g, hP3 q u e, if_neg hbt, if_pos rfl]
    · intro q u r e hr
      obtain ⟨x1, _, x3⟩ := hP4 q u r e hr
      rw [g, if_neg x3, if_neg x1]
    · intro u hu
      have hu2 := hl.2 u (List.mem_append_right _ (List.mem_cons_of_mem _ hu))
      have hut : nxN mp u ≠ nxN mp t := fun e => hns.1 (by have := nx_inj hu2.1 ht.1 e; rw [← this]; exact hu)
      rw [g, if_neg hut, if_neg (hbs u hu)]
    · rw [g, if_neg (h3 t (by simp)), if_neg]
      intro e
      rcases b3 with ⟨_, e2⟩ | ⟨q, u, e0, e2, _⟩
      · exact h1 (e.trans e2)
      · exact h3 u (by rw [e0]; simp) (e.trans e2)
theorem goes_pop {mp : Mp} (hm : mp.ok) {m : List Int} {a : Nat} {l : List Int} (hp : PlaceOk mp m a) (hQ : QIs (nxN mp) (rdL m) a l) (hl : Thr mp l) :
    ∃ k m', k ≤ 4 ∧ Goes m (popT mp a) k m' (if l = [] then -1 else l.headD 0) ∧ QIs (nxN mp) (rdL m') a l.tail ∧ Left mp m m' a l ∧ (l = [] → m' = m) := by
  have ha := hp.lt
  have hh := Thr.head hl.2
  cases l with
  | nil =>
    refine ⟨1, m, by omega, ?_, hQ, ⟨rfl, fun _ _ _ _ => rfl⟩, fun _ => rfl⟩
    refine goes_read hm (rdL_at (by omega) hQ.first) hh ?_
    unfold popK
    rw [if_pos (by simp [headOf]), if_pos rfl]
    exact .ret _ _
  | cons t s =>
    have ht := hl.2 t (by simp)
    obtain ⟨m', v, G, hQ', hL⟩ := goes_unlink (P := []) hm hp hQ hl
    refine ⟨4, m', by omega, ?_, hQ', hL, fun h => by cases h⟩
    refine goes_read hm (rdL_at (by omega) hQ.first) hh ?_
    unfold popK
    rw [if_neg (by simp [headOf]; omega), if_neg (by simp), show headOf (t :: s) - 1 = t by simp [headOf]]
    exact goes_two G (.ret _ _)
theorem filter_out {l : List Int} {t : Int} (h : t ∉ l) : l.filter (· ≠ t) = l := by
  rw [List.filter_eq_self]
  intro u hu
  simpa using fun e : u = t => h (e ▸ hu)
theorem filter_mid {P s : List Int} {t : Int} (h : (P ++ t :: s).Nodup) : (P ++ t :: s).filter (· ≠ t) = P ++ s := by
  have h1 := List.nodup_append.1 h
  have h2 := List.nodup_cons.1 h1.2.1
  rw [List.filter_append, List.filter_cons_of_neg (by simp), filter_out h2.1, filter_out (fun hh => h1.2.2 t hh t (by simp) rfl)]
theorem goes_rem {mp : Mp} (hm : mp.ok) {m : List Int} {a : Nat} {l : List Int} {t : Int} (hp : PlaceOk mp m a) (hQ : QIs (nxN mp) (rdL m) a l) (hl : Thr mp l) (ht : 0 ≤ t ∧ t < mp.t) :
    ∀ (s P : List Int), l = P ++ s → t ∉ P → ∃ k m', k ≤ 6 + 2 * s.length ∧ Goes m (remT mp a t (lastOf P - 1) P.reverse) k m' (if t ∈ l then 1 else 0) ∧ QIs (nxN mp) (rdL m') a (l.filter (· ≠ t)) ∧ Left mp m m' a l ∧ (t ∉ l → m' = m) := by
  have ha := hp.lt
  have hcell : ∀ s P, l = P ++ s → m[behN mp a (lastOf P - 1)]? = some (headOf s) := fun s P e => by
    rcases List.eq_nil_or_concat P with rfl | ⟨q, u, rfl⟩
    · have : behN mp a (lastOf [] - 1) = a := by simp [behN, lastOf, headOf]
      rw [this]
      exact rdL_at (by omega) (by rw [hQ.first, e]; rfl)
    · rw [List.concat_eq_append] at *
      have hu := hl.2 u (by rw [e]; simp)
      have e2 : behN mp a (lastOf (q ++ [u]) - 1) = nxN mp u := by
        rw [lastOf_snoc]
        unfold behN
        rw [if_neg (by omega), show u + 1 - 1 = u by omega]
      rw [e2]
      exact rdL_at (hp.nx u hu.1 hu.2).1 (hQ.next q u s (by rw [e]; simp))
  have hmt := hm.t
  intro s
  induction s with
  | nil =>
    intro P e hP
    have hc := hcell [] P e
    rw [List.append_nil] at e
    subst e
    refine ⟨1, m, by omega, ?_, by rw [filter_out hP]; exact hQ, ⟨rfl, fun _ _ _ _ => rfl⟩, fun _ => rfl⟩
    rw [remT_eq, if_neg hP]
    refine .op (show (0 : Nat) < 5 by omega) (count_lt (List.getElem?_eq_some_iff.1 hc).1) ?_
    rw [oper_ld hc (by simp [headOf])]
    show Goes m (ansR mp a t _ _ (headOf [])) 0 m 0
    unfold ansR
    rw [thrS_of (by simp [headOf]) hmt.2, if_neg (by simp [headOf]; omega), if_pos (.inl (by simp [headOf]))]
    exact .ret _ _
  | cons u s ih =>
    intro P e hP
    have hc := hcell (u :: s) P e
    have hu := hl.2 u (by rw [e]; simp)
    have hthr : thrS mp (headOf (u :: s)) = u := by
      rw [thrS_of (by simp [headOf]; omega) hmt.2]
      simp [headOf]
    have hop := oper_ld hc (by simp [headOf]; omega)
    by_cases hut : u = t
    · subst hut
      subst e
      obtain ⟨m', v, G, hQ', hL⟩ := goes_unlink hm hp hQ hl
      refine ⟨4, m', by omega, ?_, by rw [filter_mid hl.1]; exact hQ', hL, fun h => absurd (by simp) h⟩
      rw [remT_eq, if_pos (by simp)]
      refine .op (show (0 : Nat) < 5 by omega) (count_lt (List.getElem?_eq_some_iff.1 hc).1) ?_
      rw [hop]
      show Goes m (ansR mp a u _ _ (headOf (u :: s))) 3 m' 1
      unfold ansR
      rw [hthr, if_pos rfl]
      exact goes_bind (κ := fun _ => retT 1) G (.ret _ 1)
    · obtain ⟨k, m', hk, G, hQ', hL, hs⟩ := ih (P ++ [u]) (by rw [e]; simp) (fun h => by
        rcases List.mem_append.1 h with h | h
        · exact hP h
        · simp at h; exact hut h.symm)
      refine ⟨k + 1, m', by simp only [List.length_cons]; omega, ?_, hQ', hL, hs⟩
      rw [remT_eq]
      refine .op (show (0 : Nat) < 5 by omega) (count_lt (List.getElem?_eq_some_iff.1 hc).1) ?_
      rw [hop]
      show Goes m (ansR mp a t _ _ (headOf (u :: s))) k m' _
      have hnP : u ∉ P := by
        have h1 := hl.1
        rw [e] at h1
        have h2 := List.nodup_append.1 h1
        exact fun h => h2.2.2 u h u (by simp) rfl
      unfold ansR
      rw [hthr, if_neg hut, if_neg (by
        intro h
        rcases h with h | h
        · omega
        · exact hnP (by simpa using h))]
      rw [lastOf_snoc, show u + 1 - 1 = u by omega, List.reverse_append] at G
      exact G
/-! the laws' map: eight threads, one object, two monitors -/
def hereM : Mp := ⟨8, 1, 2⟩
theorem here_ok : hereM.ok := ⟨by decide, by decide, by decide⟩
def placeN : Nat → Nat
  | 0 => 53
  | 1 => 55
  | 2 => 61
  | _ => 63
theorem place_cases (k : Nat) : placeN k = 53 ∨ placeN k = 55 ∨ placeN k = 61 ∨ placeN k = 63 := by
  match k with
  | 0 => exact .inl rfl
  | 1 => exact .inr (.inl rfl)
  | 2 => exact .inr (.inr (.inl rfl))
  | (k + 3) => exact .inr (.inr (.inr rfl))
theorem place_ne {j k : Nat} (hj : j < 4) (hk : k < 4) (h : j ≠ k) : placeN j ≠ placeN k ∧ placeN j ≠ placeN k + 1 ∧ placeN j + 1 ≠ placeN k := by
  have : j = 0 ∨ j = 1 ∨ j = 2 ∨ j = 3 := by omega
  have : k = 0 ∨ k = 1 ∨ k = 2 ∨ k = 3 := by omega
  rcases ‹j = 0 ∨ _› with rfl | rfl | rfl | rfl <;> rcases ‹k = 0 ∨ _› with rfl | rfl | rfl | rfl <;> first | exact absurd rfl h | decide
theorem nx_here (u : Int) (h : 0 ≤ u ∧ u < 8) : (nxN hereM u : Int) = 3 + 6 * u := by
  unfold nxN hereM
  simp
  omega
theorem place_ok {m : List Int} (h : m.length = 67) (k : Nat) : PlaceOk hereM m (placeN k) := by
  have := place_cases k
  refine ⟨by omega, fun u h1 h2 => ?_⟩
  have h2' : u < 8 := h2
  have := nx_here u ⟨h1, h2'⟩
  omega
def updL (L : Nat → List Int) (k : Nat) (x : List Int) : Nat → List Int := fun j => if j = k then x else L j
/-- four queues in the laws' cells -/
structure QS (mm : List Int) (L : Nat → List Int) : Prop where
  len : mm.length = 67
  is : ∀ k, k < 4 → QIs (nxN hereM) (rdL mm) (placeN k) (L k)
  thr : ∀ k, k < 4 → Thr hereM (L k)
  apart : ∀ j k, j < 4 → k < 4 → j ≠ k → ∀ u ∈ L j, u ∉ L k
theorem QS.step {mm mm' : List Int} {L : Nat → List Int} (h : QS mm L) {k : Nat} (hk : k < 4) {own l' : List Int} (hL : Left hereM mm mm' (placeN k) own) (hQ : QIs (nxN hereM) (rdL mm') (placeN k) l') (hT : Thr hereM l') (how : ∀ u ∈ own, 0 ≤ u ∧ u < (8 : Int) ∧ ∀ j, j < 4 → j ≠ k → u ∉ L j)
    (hap : ∀ u ∈ l', ∀ j, j < 4 → j ≠ k → u ∉ L j) : QS mm' (updL L k l') := by
  refine ⟨hL.len.trans h.len, fun j hj => ?_, fun j hj => ?_, fun i j hi hj hij u hu => ?_⟩
  · unfold updL
    split
    · next e => rw [e]; exact hQ
    · next e =>
      have hne := place_ne hj hk e
      have p1 := place_cases j
      refine (h.is j hj).congr ?_ ?_ (fun u hu => ?_)
      · refine hL.far _ hne.1 hne.2.1 (fun u hu => ?_)
        have := nx_here u ⟨(how u hu).1, (how u hu).2.1⟩
        have := (how u hu).2.1
        omega
      · refine hL.far _ hne.2.2 (by have := hne.1; omega) (fun u hu => ?_)
        have := nx_here u ⟨(how u hu).1, (how u hu).2.1⟩
        have := (how u hu).2.1
        omega
      · have hu2 := (h.thr j hj).2 u hu
        have hu3 : u < 8 := hu2.2
        have p2 := place_cases k
        have := nx_here u ⟨hu2.1, hu3⟩
        refine hL.far _ (by omega) (by omega) (fun z hz e2 => ?_)
        have := nx_inj hu2.1 (how z hz).1 e2
        subst this
        exact (how u hz).2.2 j hj e hu
  · unfold updL
    split
    · exact hT
    · exact h.thr j hj
  · unfold updL at hu ⊢
    split at hu
    · next e =>
      rw [if_neg (fun e2 => hij (e.trans e2.symm))]
      exact hap u hu j hj (fun e2 => hij (e.trans e2.symm))
    · next e =>
      split
      · next e2 => exact fun hh => hap u hh i hi e hu
      · exact h.apart i j hi hj hij u hu
theorem QS.push {mm : List Int} {L : Nat → List Int} (h : QS mm L) {k : Nat} (hk : k < 4) {t : Int} (ht : 0 ≤ t ∧ t < 8) (hn : ∀ j, j < 4 → t ∉ L j) :
    ∃ c mm', c ≤ 5 ∧ Goes mm (pushT hereM (placeN k) t) c mm' 0 ∧ QS mm' (updL L k (L k ++ [t])) ∧ Left hereM mm mm' (placeN k) (t :: L k) := by
  obtain ⟨c, mm', h1, G, h2, h3⟩ := goes_push here_ok (place_ok h.len k) (h.is k hk) (h.thr k hk) (t := t) ht (hn k hk)
  have hT := h.thr k hk
  refine ⟨c, mm', h1, G, h.step hk h3 h2 ⟨?_, ?_⟩ (fun u hu => ?_) (fun u hu j hj e => ?_), h3⟩
  · rw [List.nodup_append]
    exact ⟨hT.1, by simp, fun a ha b hb e => by simp at hb; subst hb; subst e; exact hn k hk ha⟩
  · intro u hu
    rcases List.mem_append.1 hu with hu | hu
    · exact hT.2 u hu
    · simp at hu; subst hu; exact ht
  · rcases List.mem_cons.1 hu with rfl | hu
    · exact ⟨ht.1, ht.2, fun j hj _ => hn j hj⟩
    · exact ⟨(hT.2 u hu).1, (hT.2 u hu).2, fun j hj e => h.apart k j hk hj (fun e2 => e e2.symm) u hu⟩
  · rcases List.mem_append.1 hu with hu | hu
    · exact h.apart k j hk hj (fun e2 => e e2.symm) u hu
    · simp at hu; subst hu; exact hn j hj
theorem QS.pop {mm : List Int} {L : Nat → List Int} (h : QS mm L) {k : Nat} (hk : k < 4) :
    ∃ c mm', c ≤ 4 ∧ Goes mm (popT hereM (placeN k)) c mm' (if L k = [] then -1 else (L k).headD 0) ∧ QS mm' (updL L k (L k).tail) ∧ Left hereM mm mm' (placeN k) (L k) := by
  obtain ⟨c, mm', h1, G, h2, h3, _⟩ := goes_pop here_ok (place_ok h.len k) (h.is k hk) (h.thr k hk)
  have hT := h.thr k hk
  refine ⟨c, mm', h1, G, h.step hk h3 h2 ⟨hT.1.sublist (List.tail_sublist _), fun u hu => hT.2 u (List.mem_of_mem_tail hu)⟩ (fun u hu => ⟨(hT.2 u hu).1, (hT.2 u hu).2, fun j hj e => h.apart k j hk hj (fun e2 => e e2.symm) u hu⟩) (fun u hu j hj e => h.apart k j hk hj (fun e2 => e e2.symm) u (List.mem_of_mem_tail hu)), h3⟩
theorem QS.rem {mm : List Int} {L : Nat → List Int} (h : QS mm L) {k : Nat} (hk : k < 4) {t : Int} (ht : 0 ≤ t ∧ t < 8) :
    ∃ c mm', c ≤ 6 + 2 * (L k).length ∧ Goes mm (remT hereM (placeN k) t (-1) []) c mm' (if t ∈ L k then 1 else 0) ∧ QS mm' (updL L k ((L k).filter (· ≠ t))) ∧ Left hereM mm mm' (placeN k) (L k) := by
  obtain ⟨c, mm', h1, G, h2, h3, _⟩ := goes_rem here_ok (place_ok h.len k) (h.is k hk) (h.thr k hk) (t := t) ht (L k) [] rfl (by simp)
  have hT := h.thr k hk
  refine ⟨c, mm', h1, G, h.step hk h3 h2 ⟨hT.1.sublist List.filter_sublist, fun u hu => hT.2 u ((List.mem_filter.1 hu).1)⟩ (fun u hu => ⟨(hT.2 u hu).1, (hT.2 u hu).2, fun j hj e => h.apart k j hk hj (fun e2 => e e2.symm) u hu⟩) (fun u hu j hj e => h.apart k j hk hj (fun e2 => e e2.symm) u ((List.mem_filter.1 hu).1)), h3⟩
theorem QS.chain {mm : List Int} {L : Nat → List Int} (h : QS mm L) {k : Nat} (hk : k < 4) : Chain mm hereM (placeN k) (L k) := by
  have hp := place_ok h.len k
  have hT := h.thr k hk
  refine ⟨rdL_at (by have := hp.lt; omega) (h.is k hk).first, fun i t ht => ?_, hT.1, hT.2⟩
  have hm := hT.2 t (List.mem_of_getElem? ht)
  exact rdL_at (hp.nx t hm.1 hm.2).1 ((h.is k hk).walk ht).2
theorem QS.none (mm : List Int) (h : mm = List.replicate 67 0) : QS mm (fun _ => []) := by
  subst h
  refine ⟨by simp, fun k hk => ?_, fun k hk => ⟨List.nodup_nil, fun u hu => by cases hu⟩, fun j k _ _ _ u hu => by cases hu⟩
  have := place_cases k
  refine QIs.nil ?_ ?_
  · unfold rdL
    rw [List.getElem?_replicate, if_pos (by omega)]
    rfl
  · unfold rdL
    rw [List.getElem?_replicate, if_pos (by omega)]
    rfl
end Go.Proofs.YtpejmkoheodblaaGreat
/- Layer 10's laws: their own functions, over four queues in cells. -/
namespace Go.Proofs.YtpejmkoheodblaaGreat
open Go.ChangeShapes Go.WideShapes Go.ChangeAt Go.RowKit
set_option linter.unusedVariables false
set_option maxRecDepth 100000
set_option linter.unusedSimpArgs false
set_option maxHeartbeats 1000000 in
theorem qendsM_any (C P S t : Nat) (Q : Nat → Prop) (T : Tre Itm) (L most : Nat) (m m' : List Int) (v n : Int) (w : World) (hG : Goes m T L m' v) (hL : L ≤ most) (hm : most ≤ 1000)
    (h : TkM (cellOps C P) w t Q T) (hC : CellsAt w C S m n) (hQ : ∀ b, Q b → b ≠ C ∧ b ≠ S) (hn : 0 ≤ n ∧ n ≤ 1000000) {mI : Int} (hI : mI = most) :
    Calls Tryz.prog 22 #[pV t, .int .i64 mI] w fun e w' => e = .returned (.int .i64 L) ∧ (∃ Q', TkM (cellOps C P) w' t Q' (retT v) ∧ ∀ b, Q' b → Q b ∨ w.heap.size ≤ b) ∧ CellsAt w' C S m' (n + L) ∧ Keep (fun b => Q b ∨ ofCells C S b) w w' := by
  subst hI
  have H := Lib.hid h
  have HG := Lib.hid hG
  have HC := Lib.hid hC
  have HQ := Lib.hid hQ
  have HL := Lib.hid hL
  have hCl := hC.own.lt
  have hSl := hC.row.lt
  clear h hG hC hQ hL
  go_enter Tryz.func22, Tryz.ntmps22
  go_wp2_with fail
  go_loopw [5] (fun v5 wr => ∃ (I : Nat) (m1 : List Int) (T1 : Tre Itm) (Q1 : Nat → Prop) (j : Nat), I + j = L ∧ v5 = .int .i64 (I : Int) ∧ Goes m1 T1 j m' v ∧ TkM (cellOps C P) wr t Q1 T1 ∧ (∀ b, Q1 b → Q b ∨ w.heap.size ≤ b) ∧ CellsAt wr C S m1 (n + I) ∧ Keep (fun b => Q b ∨ ofCells C S b) w wr)
    (fun v5 _ => L - (intOf v5).toNat)
  case atStart => exact ⟨0, m, T, Q, L, by omega, rfl, HG.out, H.out, fun _ h => .inl h, by simpa using HC.out, Keep.refl _ _⟩
  case round =>
    obtain ⟨I, m1, T1, Q1, j, hIj, rfl, hG, hT, hq, hC, hk⟩ := hrel
    have hLm := HL.out
    have hsz := hk.size
    have hQ1 : ∀ b, Q1 b → b ≠ C ∧ b ≠ S := fun b hb => by
      rcases hq b hb with h | h
      · exact HQ.out b h
      · omega
    rcases hG.cases' with ⟨rfl, rfl, rfl⟩ | ⟨x, κ, j, rfl, rfl, e1, e2, e3⟩
    · obtain rfl : I = L := by omega
      have hD := Lib.hid (tdoneM_ret t Q1 v wr hT)
      have HX := Lib.hid (And.intro (⟨Q1, hT, hq⟩ : ∃ Q', TkM (cellOps C P) wr t Q' (retT v) ∧ ∀ b, Q' b → Q b ∨ w.heap.size ≤ b) (And.intro hC hk))
      clear hG hT hq hC hk hQ1 H HG HC HQ HL
      go_wp2_with (go_at_call 37; (with_reducible refine hD.out.mono ?_); rintro e w2 ⟨rfl, rfl⟩)
      go_ret
      exact ⟨rfl, HX.out⟩
    · have hD := Lib.hid (tdoneM_op t Q1 x κ wr hT)
      have hS := Lib.hid (tstepM_op C P S t Q1 x κ m1 (n + I) wr hT hC e1 hQ1 ⟨by omega, by omega⟩)
      have HX := Lib.hid (And.intro e2 (And.intro e3 (And.intro hq (And.intro hk hsz))))
      have h4 : ¬ ((most : Int) ≤ (I : Int)) := by omega
      have h5 : (I : Int) < (most : Int) := by omega
      clear hG hT hq hC hk hQ1 e1 e2 e3
      go_wp2_with (first
        | (go_at_call 37; (with_reducible refine hD.out.mono ?_); rintro e w2 ⟨rfl, rfl⟩)
        | (go_at_call 36; (with_reducible refine hS.out.mono ?_); rintro e w3 ⟨rfl, ⟨Q3, g1, g2⟩, g3, g4⟩))
      obtain ⟨e2, e3, hq, hk, _⟩ := HX.out
      rw [e2] at g3
      have s4 := g4.size
      go_roundw
      case rel =>
        refine ⟨I + 1, _, _, Q3, j, by omega, by go_num, e3, g1, fun b hb => ?_, by rw [Int.natCast_add, ← Int.add_assoc]; exact g3, hk.step g4 fun b hlt hb => ?_⟩
        · rcases g2 b hb with h | h
          · exact hq b h
          · exact .inr (by omega)
        · rcases hb with hb | hb
          · exact .inl ((hq b hb).resolve_right (by omega))
          · exact .inr hb
      case measure => simp [intOf]; omega
theorem here_any (w : World) : Calls Tryz.prog 8 #[] w fun e w' => e = .returned (mapV hereM) ∧ Below w.heap.size w w' := by
  go_enter Tryz.func8, Tryz.ntmps8
  go_wp2
  exact bodyPost_ret (v := mapV hereM) (results_cell_row rfl _ _ w.heap.size 24 #[.int .i64 8, .int .i64 1, .int .i64 2] (0, 0) _ rfl (Blk.new w 24 _) Tryz.underlying24 rfl (by kernel_rfl)) rfl ⟨rfl, by go_grown⟩
theorem monitor_any (k : Int) (w : World) (h : 0 ≤ k ∧ k ≤ 10) : Calls Tryz.prog 72 #[mapV hereM, .int .i64 k] w fun e w' => e = .returned (.int .i64 (51 + 8 * k)) ∧ Below w.heap.size w w' := by
  rw [show mapV hereM = .agg #[.int .i64 8, .int .i64 1, .int .i64 2] from rfl]
  go_enter Tryz.func72, Tryz.ntmps72
  go_wp2
  go_ret
  exact ⟨rfl, by go_grown⟩
theorem entry_any (k : Int) (w : World) (h : 0 ≤ k ∧ k ≤ 10) : Calls Tryz.prog 45 #[mapV hereM, .int .i64 k] w fun e w' => e = .returned (.int .i64 (51 + 8 * k + 2)) ∧ Below w.heap.size w w' := by
  have HT := Lib.hid fun W => monitor_any k W h
  go_enter Tryz.func45, Tryz.ntmps45
  go_wp2_with (go_at_call 72; refine (HT.out _).mono ?_; rintro e w2 ⟨rfl, b2⟩)
  go_ret
  exact ⟨rfl, ((Below.refl _ w).alloc (Nat.le_refl _) _).trans (b2.mono (by simp))⟩
theorem wait_any (k : Int) (w : World) (h : 0 ≤ k ∧ k ≤ 10) : Calls Tryz.prog 46 #[mapV hereM, .int .i64 k] w fun e w' => e = .returned (.int .i64 (51 + 8 * k + 4)) ∧ Below w.heap.size w w' := by
  have HT := Lib.hid fun W => monitor_any k W h
  go_enter Tryz.func46, Tryz.ntmps46
  go_wp2_with (go_at_call 72; refine (HT.out _).mono ?_; rintro e w2 ⟨rfl, b2⟩)
  go_ret
  exact ⟨rfl, ((Below.refl _ w).alloc (Nat.le_refl _) _).trans (b2.mono (by simp))⟩
theorem place_any (k : Nat) (w : World) (h : k < 4) {kI : Int} (hk : kI = k) : Calls Tryz.prog 12 #[.int .i64 kI] w fun e w' => e = .returned (.int .i64 (placeN k : Int)) ∧ Below w.heap.size w w' := by
  subst hk
  have HE0 := Lib.hid fun W => entry_any 0 W (by decide)
  have HE1 := Lib.hid fun W => entry_any 1 W (by decide)
  have HW0 := Lib.hid fun W => wait_any 0 W (by decide)
  have HW1 := Lib.hid fun W => wait_any 1 W (by decide)
  have hc : k = 0 ∨ k = 1 ∨ k = 2 ∨ k = 3 := by omega
  clear h
  rcases hc with rfl | rfl | rfl | rfl
  · rw [show ((0 : Nat) : Int) = 0 from rfl, show ((placeN 0 : Nat) : Int) = 51 + 8 * 0 + 2 from rfl]
    go_enter Tryz.func12, Tryz.ntmps12
    go_wp2_with (first | (go_at_call 8; refine (here_any _).mono ?_; rintro e w2 ⟨rfl, b2⟩) | (go_at_call 45; refine (HE0.out _).mono ?_; rintro e w3 ⟨rfl, b3⟩))
    go_ret
    exact ⟨rfl, b2.trans (b3.mono b2.size)⟩
  · rw [show ((1 : Nat) : Int) = 1 from rfl, show ((placeN 1 : Nat) : Int) = 51 + 8 * 0 + 4 from rfl]
    go_enter Tryz.func12, Tryz.ntmps12
    go_wp2_with (first | (go_at_call 8; refine (here_any _).mono ?_; rintro e w2 ⟨rfl, b2⟩) | (go_at_call 46; refine (HW0.out _).mono ?_; rintro e w3 ⟨rfl, b3⟩))
    go_ret
    exact ⟨rfl, b2.trans (b3.mono b2.size)⟩
  · rw [show ((2 : Nat) : Int) = 2 from rfl, show ((placeN 2 : Nat) : Int) = 51 + 8 * 1 + 2 from rfl]
    go_enter Tryz.func12, Tryz.ntmps12
    go_wp2_with (first | (go_at_call 8; refine (here_any _).mono ?_; rintro e w2 ⟨rfl, b2⟩) | (go_at_call 45; refine (HE1.out _).mono ?_; rintro e w3 ⟨rfl, b3⟩))
    go_ret
    exact ⟨rfl, b2.trans (b3.mono b2.size)⟩
  · rw [show ((3 : Nat) : Int) = 3 from rfl, show ((placeN 3 : Nat) : Int) = 51 + 8 * 1 + 4 from rfl]
    go_enter Tryz.func12, Tryz.ntmps12
    go_wp2_with (first | (go_at_call 8; refine (here_any _).mono ?_; rintro e w2 ⟨rfl, b2⟩) | (go_at_call 46; refine (HW1.out _).mono ?_; rintro e w3 ⟨rfl, b3⟩))
    go_ret
    exact ⟨rfl, b2.trans (b3.mono b2.size)⟩
/-- the laws' cells, with four queues -/
structure WQ (w : World) (C S : Nat) (mm : List Int) (n : Int) (L : Nat → List Int) : Prop where
  cells : CellsAt w C S mm n
  qs : QS mm L
theorem WQ.keep {w w1 : World} {C S : Nat} {mm : List Int} {n : Int} {L : Nat → List Int} {F : Nat → Prop} (h : WQ w C S mm n L) (hk : Keep F w w1) (h1 : ¬ F C) (h2 : ¬ F S) : WQ w1 C S mm n L := ⟨h.cells.keep hk h1 h2, h.qs⟩
theorem WQ.below {w w1 : World} {C S : Nat} {mm : List Int} {n : Int} {L : Nat → List Int} (h : WQ w C S mm n L) (hb : Below w.heap.size w w1) : WQ w1 C S mm n L := h.keep (F := fun _ => False) (Keep.ofBelow hb) (fun h => h) (fun h => h)
theorem fit_place (k : Nat) {N : Nat} (h : N = 67) : fitS hereM (N : Int) (placeN k : Int) = true := by
  subst h
  rcases place_cases k with e | e | e | e <;> rw [e] <;> decide
theorem qpush_any {w : World} {C S : Nat} {mm : List Int} {n : Int} {L : Nat → List Int} (h : WQ w C S mm n L) (k : Nat) (t : Int) (ht : 0 ≤ t ∧ t < 8) :
    Calls Tryz.prog 16 #[cellsV C, mapV hereM, .int .i64 (placeN k : Int), .int .i64 t] w fun e w' => ∃ t', e = .returned (pV t') ∧ MadeM (cellOps C 0) w (fun b => w.heap.size ≤ b) (pushT hereM (placeN k) t) t' w' := by
  have hl := h.qs.len
  refine push_yes C 0 (placeN k) hereM mm.length t (fun b => w.heap.size ≤ b) w here_ok ht (by have := place_cases k; omega) (fun W hW => len_any C S mm n W (h.cells.keep (Keep.ofBelow (Q := fun _ => False) hW) (fun h => h) (fun h => h))) (fun W B hB hc => ?_) (fun _ h => h)
  have := qright_one hereM mm.length (placeN k) t B W here_ok ⟨by omega, by omega⟩ ht hB hc
  rw [fit_place k hl] at this
  exact this
theorem qrem_any {w : World} {C S : Nat} {mm : List Int} {n : Int} {L : Nat → List Int} (h : WQ w C S mm n L) (k : Nat) (t : Int) (ht : 0 ≤ t ∧ t < 8) :
    Calls Tryz.prog 20 #[cellsV C, mapV hereM, .int .i64 (placeN k : Int), .int .i64 t] w fun e w' => ∃ t', e = .returned (pV t') ∧ MadeM (cellOps C 0) w (fun b => w.heap.size ≤ b) (remT hereM (placeN k) t (-1) []) t' w' := by
  have hl := h.qs.len
  refine rem_yes C 0 (placeN k) hereM mm.length t (fun b => w.heap.size ≤ b) w here_ok ht (by have := place_cases k; omega) (fun W hW => len_any C S mm n W (h.cells.keep (Keep.ofBelow (Q := fun _ => False) hW) (fun h => h) (fun h => h))) (fun W B hB hc => ?_) (fun _ h => h)
  have := qright_one hereM mm.length (placeN k) t B W here_ok ⟨by omega, by omega⟩ ht hB hc
  rw [fit_place k hl] at this
  exact this
theorem qpop_any {w : World} {C S : Nat} {mm : List Int} {n : Int} {L : Nat → List Int} (h : WQ w C S mm n L) (k : Nat) :
    Calls Tryz.prog 18 #[cellsV C, mapV hereM, .int .i64 (placeN k : Int)] w fun e w' => ∃ t', e = .returned (pV t') ∧ MadeM (cellOps C 0) w (fun b => w.heap.size ≤ b) (popT hereM (placeN k)) t' w' := by
  have hl := h.qs.len
  refine pop_yes C 0 (placeN k) hereM mm.length (fun b => w.heap.size ≤ b) w here_ok (by have := place_cases k; omega) (fun W hW => len_any C S mm n W (h.cells.keep (Keep.ofBelow (Q := fun _ => False) hW) (fun h => h) (fun h => h))) (fun W => ?_) (fun _ h => h)
  have := qright_none hereM mm.length (placeN k) W here_ok ⟨by omega, by omega⟩
  rw [fit_place k hl] at this
  exact this
theorem qlook_any {w : World} {C S : Nat} {mm : List Int} {n : Int} {L : Nat → List Int} (h : WQ w C S mm n L) (k : Nat) (hk : k < 4) :
    Calls Tryz.prog 25 #[cellsV C, mapV hereM, .int .i64 (placeN k : Int)] w fun e w' => ∃ v, e = .returned v ∧ RowN w' (fun b => w.heap.size ≤ b) v (L k) ∧ Below w.heap.size w w' :=
  look_yes C S (placeN k) hereM mm (L k) n w here_ok h.cells (h.qs.chain hk) (fit_place k h.qs.len) (by have := place_cases k; omega) (by intro e; have := h.qs.len; rw [e] at this; simp at this)
/-- a new task, to its end -/
theorem qrun_any {w w1 : World} {C S t' : Nat} {mm mm' : List Int} {n v : Int} {L : Nat → List Int} {T : Tre Itm} (h : WQ w C S mm n L) (hM : MadeM (cellOps C 0) w (fun b => w.heap.size ≤ b) T t' w1) {c most : Nat} (hG : Goes mm T c mm' v) (hc : c ≤ most) (hm : most ≤ 1000) (hn : 0 ≤ n ∧ n ≤ 1000000) {mI : Int} (hI : mI = most) :
    Calls Tryz.prog 22 #[pV t', .int .i64 mI] w1 fun e w' => e = .returned (.int .i64 c) ∧ (∃ Q', TkM (cellOps C 0) w' t' Q' (retT v) ∧ ∀ b, Q' b → w.heap.size ≤ b) ∧ CellsAt w' C S mm' (n + c) ∧ Keep (fun b => w.heap.size ≤ b ∨ ofCells C S b) w1 w' := by
  obtain ⟨M, hJ⟩ := hM.2.1
  have hT : TkM (cellOps C 0) w1 t' (fun b => w.heap.size ≤ b ∧ b < w1.heap.size) T := TkM.new hJ hM.1
  have hC := h.cells.keep (Keep.ofBelow (Q := fun _ => False) hM.2.2) (fun h => h) (fun h => h)
  have l1 := h.cells.own.lt
  have l2 := h.cells.row.lt
  refine (qendsM_any C 0 S t' _ T c most mm mm' v n w1 hG hc hm hT hC (fun b hb => by omega) hn hI).mono ?_
  rintro e w' ⟨rfl, ⟨Q', h1, h2⟩, h3, h4⟩
  have s := hM.2.2.size
  refine ⟨rfl, ⟨Q', h1, fun b hb => ?_⟩, h3, h4.mono fun b _ hb => hb.imp (fun h => h.1) id⟩
  rcases h2 b hb with h | h <;> omega
theorem lawpush {w : World} {C S : Nat} {mm : List Int} {n : Int} {L : Nat → List Int} (h : WQ w C S mm n L) (k : Nat) (hk : k < 4) (t : Int) (ht : 0 ≤ t ∧ t < 8) (hn : ∀ j, j < 4 → t ∉ L j) (h0 : 0 ≤ n ∧ n ≤ 100000) :
    Calls Tryz.prog 27 #[cellsV C, mapV hereM, .int .i64 (placeN k : Int), .int .i64 t] w fun e w' => e = .returned (.int .i64 0) ∧ (∃ mm' n', WQ w' C S mm' n' (updL L k (L k ++ [t])) ∧ n ≤ n' ∧ n' ≤ n + 50) ∧ Keep (ofCells C S) w w' := by
  obtain ⟨c, mm', hc, G, hq, _⟩ := h.qs.push hk ht hn
  have hb0 : Below w.heap.size w (w.alloc (.cells #[.int .i64 (hereM.t : Int), .int .i64 (hereM.o : Int), .int .i64 (hereM.n : Int)] 24)) := (Below.refl _ w).alloc (Nat.le_refl _) _
  have HP := Lib.hid (qpush_any (h.below hb0) k t ht)
  have HE := Lib.hid fun w1 t' (hM : MadeM (cellOps C 0) _ _ _ t' w1) => qrun_any (h.below hb0) hM G (Nat.le_trans hc (by omega : 5 ≤ 50)) (by omega) ⟨h0.1, by omega⟩ (mI := 50) rfl
  have HQ := Lib.hid hq
  clear h hq G hn ht
  go_enter Tryz.func27, Tryz.ntmps27
  go_wp2_with (first
    | (go_at_call 16; (with_reducible refine HP.out.mono ?_); rintro e w1 ⟨t', rfl, hM⟩; have HE2 := Lib.hid (HE.out w1 t' hM))
    | (go_at_call 22; (with_reducible refine HE2.out.mono ?_); rintro e w2 ⟨rfl, ⟨Q', g1, g2⟩, g3, g4⟩; have HV := Lib.hid (tvalueM_ret t' Q' 0 w2 g1))
    | (go_at_call 23; (with_reducible refine HV.out.mono ?_); rintro e w3 ⟨rfl, rfl⟩))
  go_ret
  refine ⟨rfl, ⟨mm', n + c, ⟨g3, HQ.out⟩, by omega, by omega⟩, ?_⟩
  have k1 : Keep (ofCells C S) w w1 := (Keep.ofBelow hb0).trans (Keep.ofBelow hM.2.2)
  exact k1.step g4 fun i hi hh => hh.elim (fun hh => by rw [World.size_alloc] at hh; omega) id
theorem lawrem {w : World} {C S : Nat} {mm : List Int} {n : Int} {L : Nat → List Int} (h : WQ w C S mm n L) (k : Nat) (hk : k < 4) (t : Int) (ht : 0 ≤ t ∧ t < 8) (h0 : 0 ≤ n ∧ n ≤ 100000) :
    Calls Tryz.prog 28 #[cellsV C, mapV hereM, .int .i64 (placeN k : Int), .int .i64 t] w fun e w' => e = .returned (.int .i64 (if t ∈ L k then 1 else 0)) ∧ (∃ mm' n', WQ w' C S mm' n' (updL L k ((L k).filter (· ≠ t))) ∧ n ≤ n' ∧ n' ≤ n + 50) ∧ Keep (ofCells C S) w w' := by
  obtain ⟨c, mm', hc, G, hq, _⟩ := h.qs.rem hk ht
  have hlen : (L k).length ≤ 8 := nodup_len0 (k := 8) (h.qs.thr k hk).1 (h.qs.thr k hk).2
  have hb0 : Below w.heap.size w (w.alloc (.cells #[.int .i64 (hereM.t : Int), .int .i64 (hereM.o : Int), .int .i64 (hereM.n : Int)] 24)) := (Below.refl _ w).alloc (Nat.le_refl _) _
  have HP := Lib.hid (qrem_any (h.below hb0) k t ht)
  have HE := Lib.hid fun w1 t' (hM : MadeM (cellOps C 0) _ _ _ t' w1) => qrun_any (h.below hb0) hM G (show c ≤ 50 by omega) (by omega) ⟨h0.1, by omega⟩ (mI := 50) rfl
  have HQ := Lib.hid hq
  have hc2 : c ≤ 50 := by omega
  generalize (if t ∈ L k then (1 : Int) else 0) = rv at *
  clear h hq G ht hlen hc
  go_enter Tryz.func28, Tryz.ntmps28
  go_wp2_with (first
    | (go_at_call 20; (with_reducible refine HP.out.mono ?_); rintro e w1 ⟨t', rfl, hM⟩; have HE2 := Lib.hid (HE.out w1 t' hM))
    | (go_at_call 22; (with_reducible refine HE2.out.mono ?_); rintro e w2 ⟨rfl, ⟨Q', g1, g2⟩, g3, g4⟩; have HV := Lib.hid (tvalueM_ret t' Q' rv w2 g1))
    | (go_at_call 23; (with_reducible refine HV.out.mono ?_); rintro e w3 ⟨rfl, rfl⟩))
  go_ret
  refine ⟨rfl, ⟨mm', n + c, ⟨g3, HQ.out⟩, by omega, by omega⟩, ?_⟩
  have k1 : Keep (ofCells C S) w w1 := (Keep.ofBelow hb0).trans (Keep.ofBelow hM.2.2)
  exact k1.step g4 fun i hi hh => hh.elim (fun hh => by rw [World.size_alloc] at hh; omega) id
theorem lawpop {w : World} {C S : Nat} {mm : List Int} {n : Int} {L : Nat → List Int} (h : WQ w C S mm n L) (k : Nat) (hk : k < 4) (h0 : 0 ≤ n ∧ n ≤ 100000) :
    Calls Tryz.prog 29 #[cellsV C, mapV hereM, .int .i64 (placeN k : Int)] w fun e w' => e = .returned (.int .i64 (if L k = [] then -1 else (L k).headD 0)) ∧ (∃ mm' n', WQ w' C S mm' n' (updL L k (L k).tail) ∧ n ≤ n' ∧ n' ≤ n + 50) ∧ Keep (ofCells C S) w w' := by
  obtain ⟨c, mm', hc, G, hq, _⟩ := h.qs.pop hk
  have hb0 : Below w.heap.size w (w.alloc (.cells #[.int .i64 (hereM.t : Int), .int .i64 (hereM.o : Int), .int .i64 (hereM.n : Int)] 24)) := (Below.refl _ w).alloc (Nat.le_refl _) _
  have HP := Lib.hid (qpop_any (h.below hb0) k)
  have HE := Lib.hid fun w1 t' (hM : MadeM (cellOps C 0) _ _ _ t' w1) => qrun_any (h.below hb0) hM G (Nat.le_trans hc (by omega : 4 ≤ 50)) (by omega) ⟨h0.1, by omega⟩ (mI := 50) rfl
  have HQ := Lib.hid hq
  generalize (if L k = [] then (-1 : Int) else (L k).headD 0) = rv at *
  clear h hq G
  go_enter Tryz.func29, Tryz.ntmps29
  go_wp2_with (first
    | (go_at_call 18; (with_reducible refine HP.out.mono ?_); rintro e w1 ⟨t', rfl, hM⟩; have HE2 := Lib.hid (HE.out w1 t' hM))
    | (go_at_call 22; (with_reducible refine HE2.out.mono ?_); rintro e w2 ⟨rfl, ⟨Q', g1, g2⟩, g3, g4⟩; have HV := Lib.hid (tvalueM_ret t' Q' rv w2 g1))
    | (go_at_call 23; (with_reducible refine HV.out.mono ?_); rintro e w3 ⟨rfl, rfl⟩))
  go_ret
  refine ⟨rfl, ⟨mm', n + c, ⟨g3, HQ.out⟩, by omega, by omega⟩, ?_⟩
  have k1 : Keep (ofCells C S) w w1 := (Keep.ofBelow hb0).trans (Keep.ofBelow hM.2.2)
  exact k1.step g4 fun i hi hh => hh.elim (fun hh => by rw [World.size_alloc] at hh; omega) id
end Go.Proofs.YtpejmkoheodblaaGreat
/- Layer 10's laws: what is done with four queues whose threads are written out. -/
namespace Go.Proofs.YtpejmkoheodblaaGreat
open Go.ChangeShapes Go.WideShapes Go.ChangeAt Go.RowKit
set_option linter.unusedVariables false
set_option maxRecDepth 100000
set_option linter.unusedSimpArgs false
def L4 (a b c d : List Int) : Nat → List Int
  | 0 => a
  | 1 => b
  | 2 => c
  | _ => d
theorem four {j : Nat} (h : j < 4) : j = 0 ∨ j = 1 ∨ j = 2 ∨ j = 3 := by omega
theorem l4_0 (a b c d x : List Int) : ∀ j, j < 4 → updL (L4 a b c d) 0 x j = L4 x b c d j := fun j h => by rcases four h with rfl | rfl | rfl | rfl <;> rfl
theorem l4_1 (a b c d x : List Int) : ∀ j, j < 4 → updL (L4 a b c d) 1 x j = L4 a x c d j := fun j h => by rcases four h with rfl | rfl | rfl | rfl <;> rfl
theorem l4_3 (a b c d x : List Int) : ∀ j, j < 4 → updL (L4 a b c d) 3 x j = L4 a b c x j := fun j h => by rcases four h with rfl | rfl | rfl | rfl <;> rfl
theorem l4_not {a b c d : List Int} {t : Int} (h0 : t ∉ a) (h1 : t ∉ b) (h2 : t ∉ c) (h3 : t ∉ d) : ∀ j, j < 4 → t ∉ L4 a b c d j := fun j h => by rcases four h with rfl | rfl | rfl | rfl <;> assumption
theorem QS.ext {mm : List Int} {L L' : Nat → List Int} (h : QS mm L) (e : ∀ j, j < 4 → L j = L' j) : QS mm L' :=
  ⟨h.len, fun k hk => e k hk ▸ h.is k hk, fun k hk => e k hk ▸ h.thr k hk, fun j k hj hk hjk u hu => by rw [← e j hj] at hu; rw [← e k hk]; exact h.apart j k hj hk hjk u hu⟩
theorem WQ.ext {w : World} {C S : Nat} {mm : List Int} {n : Int} {L L' : Nat → List Int} (h : WQ w C S mm n L) (e : ∀ j, j < 4 → L j = L' j) : WQ w C S mm n L' := ⟨h.cells, h.qs.ext e⟩
section
variable {w : World} {C S : Nat} {mm : List Int} {n : Int} {L : Nat → List Int}
/-- after a call on the queues -/
def Aft (w w' : World) (C S : Nat) (n b : Int) (L' : Nat → List Int) : Prop := (∃ mm' n', WQ w' C S mm' n' L' ∧ 0 ≤ n' ∧ n' ≤ b + 50) ∧ Keep (ofCells C S) w w'
theorem vpush {aI : Int} (b : Int) (k : Nat) (hk : k < 4) (ha : aI = (placeN k : Nat)) (t : Int) (ht : 0 ≤ t ∧ t < 8) (L' : Nat → List Int) (hL : ∀ j, j < 4 → updL L k (L k ++ [t]) j = L' j) (hn : ∀ j, j < 4 → t ∉ L j) (h : WQ w C S mm n L) (h0 : 0 ≤ n ∧ n ≤ b) (hb : b ≤ 100000) :
    Calls Tryz.prog 27 #[cellsV C, mapV hereM, .int .i64 aI, .int .i64 t] w fun e w' => e = .returned (.int .i64 0) ∧ Aft w w' C S n b L' := by
  subst ha
  refine (lawpush h k hk t ht hn ⟨h0.1, by omega⟩).mono ?_
  rintro e w' ⟨rfl, ⟨mm', n', h1, h2, h3⟩, h4⟩
  exact ⟨rfl, ⟨mm', n', h1.ext hL, by omega, by omega⟩, h4⟩
theorem vrem {aI : Int} (b : Int) (k : Nat) (hk : k < 4) (ha : aI = (placeN k : Nat)) (t v : Int) (ht : 0 ≤ t ∧ t < 8) (L' : Nat → List Int) (hv : (if t ∈ L k then (1 : Int) else 0) = v) (hL : ∀ j, j < 4 → updL L k ((L k).filter (· ≠ t)) j = L' j) (h : WQ w C S mm n L) (h0 : 0 ≤ n ∧ n ≤ b) (hb : b ≤ 100000) :
    Calls Tryz.prog 28 #[cellsV C, mapV hereM, .int .i64 aI, .int .i64 t] w fun e w' => e = .returned (.int .i64 v) ∧ Aft w w' C S n b L' := by
  subst ha
  subst hv
  refine (lawrem h k hk t ht ⟨h0.1, by omega⟩).mono ?_
  rintro e w' ⟨rfl, ⟨mm', n', h1, h2, h3⟩, h4⟩
  exact ⟨rfl, ⟨mm', n', h1.ext hL, by omega, by omega⟩, h4⟩
theorem vpop {aI : Int} (b : Int) (k : Nat) (hk : k < 4) (ha : aI = (placeN k : Nat)) (v : Int) (L' : Nat → List Int) (hv : (if L k = [] then (-1 : Int) else (L k).headD 0) = v) (hL : ∀ j, j < 4 → updL L k (L k).tail j = L' j) (h : WQ w C S mm n L) (h0 : 0 ≤ n ∧ n ≤ b) (hb : b ≤ 100000) :
    Calls Tryz.prog 29 #[cellsV C, mapV hereM, .int .i64 aI] w fun e w' => e = .returned (.int .i64 v) ∧ Aft w w' C S n b L' := by
  subst ha
  subst hv
  refine (lawpop h k hk ⟨h0.1, by omega⟩).mono ?_
  rintro e w' ⟨rfl, ⟨mm', n', h1, h2, h3⟩, h4⟩
  exact ⟨rfl, ⟨mm', n', h1.ext hL, by omega, by omega⟩, h4⟩
theorem vlook {aI : Int} (k : Nat) (hk : k < 4) (ha : aI = (placeN k : Nat)) (l : List Int) (hl : L k = l) (N : Nat) (hN : N = l.length) (h : WQ w C S mm n L) :
    Calls Tryz.prog 25 #[cellsV C, mapV hereM, .int .i64 aI] w fun e w' => ∃ a c, e = .returned (.slice a N c) ∧ RowN w' (fun b => w.heap.size ≤ b) (.slice a N c) l ∧ Below w.heap.size w w' := by
  subst ha
  subst hN
  subst hl
  refine (qlook_any h k hk).mono ?_
  rintro e w' ⟨v, rfl, h1, h2⟩
  obtain ⟨a, c, rfl, _⟩ := id h1
  exact ⟨a, c, rfl, h1, h2⟩
theorem vload {aI : Int} (b : Int) (i : Nat) (c : Int) (ha : aI = i) (hi : mm[i]? = some c) (h : WQ w C S mm n L) (h0 : 0 ≤ n ∧ n ≤ b) (hb : b ≤ 100000) :
    Calls Tryz.prog 123 #[cellsV C, .int .i64 aI] w fun e w' => e = .returned (.int .u64 c) ∧ (WQ w' C S mm (n + 1) L ∧ 0 ≤ n + 1 ∧ n + 1 ≤ b + 50) ∧ Keep (ofCells C S) w w' := by
  subst ha
  refine (load_yes C S mm n i c w h.cells hi h0.1 (by omega)).mono ?_
  rintro e w' ⟨rfl, h1, h2⟩
  exact ⟨rfl, ⟨⟨h1, h.qs⟩, by omega, by omega⟩, h2⟩
end
theorem vnew (w : World) {aI : Int} (ha : aI = (sizeN hereM : Nat)) : Calls Tryz.prog 9 #[.int .i64 aI] w fun e w' => ∃ C S mm, e = .returned (cellsV C) ∧ WQ w' C S mm 0 (L4 [] [] [] []) ∧ Below w.heap.size w w' ∧ w.heap.size ≤ C ∧ w.heap.size ≤ S := by
  subst ha
  refine (new_some 67 w (by omega)).mono ?_
  rintro e w' ⟨rfl, h1, h2⟩
  exact ⟨_, _, _, rfl, ⟨h1, (QS.none _ rfl).ext fun j h => by rcases four h with rfl | rfl | rfl | rfl <;> rfl⟩, h2, by omega, by omega⟩
/-- rows that are written out -/
theorem row_lit (w : World) (l : List Int) (cs : Array Value) (h : cs = (l.map (Value.int .i64)).toArray) : RowN (w.alloc (.cells cs 3)) (fun b => b = w.heap.size) (.slice (some ⟨w.heap.size, 0, none⟩) l.length l.length) l := by
  subst h
  refine ⟨_, _, rfl, Nat.le_refl _, fun i x hx => ⟨w.heap.size, 0, rfl, rfl, by simp, ?_⟩⟩
  rw [Nat.zero_add]
  exact (Blk.new w 3 _).cell i _ (by rw [List.getElem?_toArray, List.getElem?_map, hx]; rfl)
theorem vints (v : Value) (l : List Int) (N : Nat → Prop) (w : World) (cs : Array Value) (h : RowN w N v l) (hl : l.length ≤ 100) (hcs : cs = (l.map (Value.int .i64)).toArray) {k : Nat} (hk : k = l.length) :
    Calls Tryz.prog 24 #[v, .slice (some ⟨w.heap.size, 0, none⟩) k k] (w.alloc (.cells cs 3)) fun e w' => e = .returned (.bool true) ∧ Below w.heap.size w w' := by
  subst hk
  have k0 : Keep (fun _ => False) w (w.alloc (.cells cs 3)) := (Keep.refl _ _).alloc _
  refine (qints_same v _ N _ l _ (h.keep k0 (fun _ _ h => h)) (row_lit w l cs hcs) (by omega)).mono ?_
  rintro e w' ⟨rfl, hb⟩
  exact ⟨rfl, ((Below.refl _ w).alloc (Nat.le_refl _) _).trans (hb.mono (by simp))⟩
/-- a thread that is none -/
theorem vpush_no {w : World} {C S : Nat} {mm : List Int} {n : Int} {L : Nat → List Int} {aI : Int} (k : Nat) (t : Int) (ht : t = 8 ∨ t = -1 ∨ ¬ (0 ≤ t ∧ t < 8)) (ha : aI = (placeN k : Nat)) (hk : k < 4) (h : WQ w C S mm n L) :
    Calls Tryz.prog 27 #[cellsV C, mapV hereM, .int .i64 aI, .int .i64 t] w fun e w' => e = .returned (.int .i64 (-1)) ∧ Below w.heap.size w w' := by
  have ht2 : ¬ (0 ≤ t ∧ t < 8) := by omega
  have hl := h.qs.len
  have hb0 : Below w.heap.size w (w.alloc (.cells #[.int .i64 (hereM.t : Int), .int .i64 (hereM.o : Int), .int .i64 (hereM.n : Int)] 24)) := (Below.refl _ w).alloc (Nat.le_refl _) _
  have h2 := h.below hb0
  generalize hV : w.alloc (.cells #[.int .i64 (hereM.t : Int), .int .i64 (hereM.o : Int), .int .i64 (hereM.n : Int)] 24) = V at *
  have HP := Lib.hid (push_no C 0 (cellsV C) (hereM.t : Int) (hereM.o : Int) (hereM.n : Int) aI mm.length t (fun b => V.heap.size ≤ b) V (.inr ⟨C, rfl⟩) (fun W hW => len_any C S mm n W (h2.cells.keep (Keep.ofBelow (Q := fun _ => False) hW) (fun h => h) (fun h => h))) (fun W B hB hc => qright_one_out _ _ _ _ _ t B W ht2 hB hc) (fun _ h => h))
  have HE := Lib.hid fun w1 t' (hM : MadeM (cellOps C 0) V (fun b => V.heap.size ≤ b) (retT (-1)) t' w1) => (show Calls Tryz.prog 22 #[pV t', .int .i64 50] w1 fun e w' => e = .returned (.int .i64 0) ∧ w' = w1 ∧ DoneV w1 (some ⟨t', 0, none⟩) (-1) from by
    obtain ⟨M, hJ⟩ := hM.2.1
    have hT : TkM (cellOps C 0) w1 t' (fun b => V.heap.size ≤ b ∧ b < w1.heap.size) (retT (-1)) := TkM.new hJ hM.1
    have hD := Lib.hid (tdoneM_ret t' _ (-1) w1 hT)
    have HDv := Lib.hid hT.done
    clear hT hJ hM
    go_enter Tryz.func22, Tryz.ntmps22
    go_wp2_with fail
    go_loopw [5] (fun v5 wr => v5 = .int .i64 0 ∧ wr = w1) (fun v5 _ => 0)
    case atStart => exact ⟨rfl, rfl⟩
    case round =>
      obtain ⟨rfl, rfl⟩ := hrel
      go_wp2_with (go_at_call 37; (with_reducible refine hD.out.mono ?_); rintro e w2 ⟨rfl, rfl⟩)
      go_ret
      exact ⟨rfl, rfl, HDv.out⟩)
  clear h h2 ht ht2 ha hl
  have mV : Blk V w.heap.size 24 #[.int .i64 (hereM.t : Int), .int .i64 (hereM.o : Int), .int .i64 (hereM.n : Int)] := by rw [← hV]; exact Blk.new w _ _
  have d0 := mV.cell 0 _ rfl
  have d1 := mV.cell 1 _ rfl
  have d2 := mV.cell 2 _ rfl
  go_enter Tryz.func27, Tryz.ntmps27
  go_upto_region 1 with fail
  (try rw [hV])
  clear hV mV
  go_wp2_with (first
    | (go_at_call 16; (with_reducible refine HP.out.mono ?_); rintro e w1 ⟨t', rfl, hM⟩; have HE2 := Lib.hid (HE.out w1 t' hM))
    | (go_at_call 22; (with_reducible refine HE2.out.mono ?_); rintro e w2 ⟨rfl, rfl, hd⟩; have HV := Lib.hid (doneV_value _ (-1) w2 hd))
    | (go_at_call 23; (with_reducible refine HV.out.mono ?_); rintro e w3 ⟨rfl, rfl⟩))
  go_ret
  exact ⟨rfl, hb0.trans (hM.2.2.mono hb0.size)⟩
end Go.Proofs.YtpejmkoheodblaaGreat
/- Layer 10's laws: works; QueueKnown. Written by tools/gen_qknown.py. -/
namespace Go.Proofs.YtpejmkoheodblaaGreat
open Go.ChangeShapes Go.WideShapes Go.ChangeAt Go.RowKit
set_option linter.unusedVariables false
set_option maxRecDepth 100000
set_option linter.unusedSimpArgs false
abbrev hereCs : Array Value := #[.int .i64 (hereM.t : Int), .int .i64 (hereM.o : Int), .int .i64 (hereM.n : Int)]
theorem hereC {w : World} {b : Nat} (h : Blk w b 24 hereCs) : w.cell? ⟨b, 0, none⟩ = some (.int .i64 (hereM.t : Int)) ∧ w.cell? ⟨b, 1, none⟩ = some (.int .i64 (hereM.o : Int)) ∧ w.cell? ⟨b, 2, none⟩ = some (.int .i64 (hereM.n : Int)) := ⟨h.cell 0 _ rfl, h.cell 1 _ rfl, h.cell 2 _ rfl⟩
theorem nofC {b C S : Nat} (h : b ≠ C ∧ b ≠ S) : ¬ ofCells C S b := fun e => e.elim h.1 h.2
set_option maxHeartbeats 8000000 in
theorem works_any (w : World) : Calls Tryz.prog 11 #[] w fun e w' => e = .returned (.bool true) ∧ Below w.heap.size w w' := by
  go_enter Tryz.func11, Tryz.ntmps11
  go_upto_region 2 with (go_at_call 8; refine (here_any _).mono ?_; rintro e w1 ⟨rfl, b1⟩)
  have m1 : Blk (w1.alloc (.cells hereCs 24)) w1.heap.size 24 hereCs := Blk.new w1 _ _
  generalize hV : (w1.alloc _) = V at *
  have bV : Below w.heap.size w V := by rw [← hV]; exact b1.alloc b1.size _
  clear hV
  have HM := Lib.hid m1
  obtain ⟨d0, d1, d2⟩ := hereC m1
  clear m1
  generalize w1.heap.size = bm at *
  have HSz := Lib.hid (size_any hereM V here_ok)
  go_upto_region 3 with (first
    | (go_at_call 10; (with_reducible refine HSz.out.mono ?_); rintro e w2 ⟨rfl, b2⟩; have HNw := Lib.hid (vnew w2 rfl))
    | (go_at_call 9; (with_reducible refine HNw.out.mono ?_); rintro e w3 ⟨C, S, mm, rfl, hq, b3, hC, hS⟩))
  have HB := Lib.hid ((bV.trans (b2.mono bV.size)).trans (b3.mono (by have := bV.size; have := b2.size; omega)))
  have HMC := Lib.hid (show bm ≠ C ∧ bm ≠ S by have := HM.out.lt; have := b2.size; omega)
  have HCS := Lib.hid (show ∀ i, ofCells C S i → w.heap.size ≤ i from fun i hi => by have := bV.size; have := b2.size; rcases hi with hi | hi <;> omega)
  have HM := Lib.hid ((HM.out.below b2 HM.out.lt).below b3 (by have := HM.out.lt; have := b2.size; omega))
  have HQ := Lib.hid hq
  have HN := Lib.hid (show (0 : Int) ≤ 0 ∧ (0 : Int) ≤ 0 by decide)
  clear d0 d1 d2 hq b1 b2 b3 bV hC hS
  obtain ⟨d0, d1, d2⟩ := hereC HM.out
  have HP0 := Lib.hid fun W => place_any 0 W (by omega) (kI := 0) rfl
  have HP1 := Lib.hid fun W => place_any 1 W (by omega) (kI := 1) rfl
  obtain ⟨a0, ha0⟩ : ∃ a : Int, a = (placeN 0 : Nat) := ⟨_, rfl⟩
  obtain ⟨a1, ha1⟩ : ∃ a : Int, a = (placeN 1 : Nat) := ⟨_, rfl⟩
  have A0B : 0 ≤ a0 ∧ a0 ≤ 1000 := by rw [ha0]; decide
  have HA0 := Lib.hid ha0
  have HA1 := Lib.hid ha1
  rw [← ha0] at HP0
  rw [← ha1] at HP1
  clear ha0 ha1
  go_upto_region 6 with (first
    | (go_at_call 12; (with_reducible refine (HP0.out _).mono ?_); rintro e w4 ⟨rfl, hb⟩; have HQ := Lib.hid (HQ.out.below hb); have HM := Lib.hid (HM.out.below hb HM.out.lt); have HB := Lib.hid (HB.out.trans (hb.mono HB.out.size)); clear d0 d1 d2 hb; obtain ⟨d0, d1, d2⟩ := hereC HM.out))
  have HC0 := Lib.hid (vpush 0 0 (by omega) HA0.out (2) (by omega) (L4 [2] [] [] []) (by intro j hj; rcases four hj with rfl | rfl | rfl | rfl <;> rfl) (l4_not (by decide) (by decide) (by decide) (by decide)) HQ.out HN.out (by omega))
  go_wp2_with (first
    | (go_at_call 27; (with_reducible refine HC0.out.mono ?_); rintro e w10 ⟨rfl, ⟨⟨mm0, n0, hq, hn⟩, hk⟩⟩; have HQ := Lib.hid hq; have HN := Lib.hid (show 0 ≤ n0 ∧ n0 ≤ 50 from hn); have HM := Lib.hid (HM.out.keep hk (nofC HMC.out)); have HB := Lib.hid (HB.out.trans (hk.below HB.out.size (fun i _ hi => HCS.out i hi))); clear d0 d1 d2 hq hn hk HC0; obtain ⟨d0, d1, d2⟩ := hereC HM.out; have HC1 := Lib.hid (vpush 50 0 (by omega) HA0.out (0) (by omega) (L4 [2, 0] [] [] []) (by intro j hj; rcases four hj with rfl | rfl | rfl | rfl <;> rfl) (l4_not (by decide) (by decide) (by decide) (by decide)) HQ.out HN.out (by omega)))
    | (go_at_call 27; (with_reducible refine HC1.out.mono ?_); rintro e w11 ⟨rfl, ⟨⟨mm1, n1, hq, hn⟩, hk⟩⟩; have HQ := Lib.hid hq; have HN := Lib.hid (show 0 ≤ n1 ∧ n1 ≤ 100 from hn); have HM := Lib.hid (HM.out.keep hk (nofC HMC.out)); have HB := Lib.hid (HB.out.trans (hk.below HB.out.size (fun i _ hi => HCS.out i hi))); clear d0 d1 d2 hq hn hk HC1; obtain ⟨d0, d1, d2⟩ := hereC HM.out; have HC2 := Lib.hid (vpush 100 0 (by omega) HA0.out (1) (by omega) (L4 [2, 0, 1] [] [] []) (by intro j hj; rcases four hj with rfl | rfl | rfl | rfl <;> rfl) (l4_not (by decide) (by decide) (by decide) (by decide)) HQ.out HN.out (by omega)))
    | (go_at_call 27; (with_reducible refine HC2.out.mono ?_); rintro e w12 ⟨rfl, ⟨⟨mm2, n2, hq, hn⟩, hk⟩⟩; have HQ := Lib.hid hq; have HN := Lib.hid (show 0 ≤ n2 ∧ n2 ≤ 150 from hn); have HM := Lib.hid (HM.out.keep hk (nofC HMC.out)); have HB := Lib.hid (HB.out.trans (hk.below HB.out.size (fun i _ hi => HCS.out i hi))); clear d0 d1 d2 hq hn hk HC2; obtain ⟨d0, d1, d2⟩ := hereC HM.out; have HC3 := Lib.hid (vlook 0 (by omega) HA0.out [2, 0, 1] rfl 3 rfl HQ.out))
    | (go_at_call 25; (with_reducible refine HC3.out.mono ?_); rintro e w13 ⟨va, vc, rfl, hrow, hb⟩; have HQ := Lib.hid (HQ.out.below hb); have HR := Lib.hid hrow; have HM := Lib.hid (HM.out.below hb HM.out.lt); have HB := Lib.hid (HB.out.trans (hb.mono HB.out.size)); clear d0 d1 d2 hrow hb HC3; obtain ⟨d0, d1, d2⟩ := hereC HM.out; have HC4 := Lib.hid (vints _ [2, 0, 1] _ w13 #[.int .i64 2, .int .i64 0, .int .i64 1] HR.out (by decide) rfl (k := 3) rfl))
    | (go_at_call 24; (with_reducible refine HC4.out.mono ?_); rintro e w14 ⟨rfl, hb⟩; have HQ := Lib.hid (HQ.out.below hb); have HM := Lib.hid (HM.out.below hb HM.out.lt); have HB := Lib.hid (HB.out.trans (hb.mono HB.out.size)); clear d0 d1 d2 hb HC4; obtain ⟨d0, d1, d2⟩ := hereC HM.out; have HC5 := Lib.hid (vrem 150 0 (by omega) HA0.out (0) 1 (by omega) (L4 [2, 1] [] [] []) (by decide) (by intro j hj; rcases four hj with rfl | rfl | rfl | rfl <;> rfl) HQ.out HN.out (by omega)))
    | (go_at_call 28; (with_reducible refine HC5.out.mono ?_); rintro e w15 ⟨rfl, ⟨⟨mm5, n5, hq, hn⟩, hk⟩⟩; have HQ := Lib.hid hq; have HN := Lib.hid (show 0 ≤ n5 ∧ n5 ≤ 200 from hn); have HM := Lib.hid (HM.out.keep hk (nofC HMC.out)); have HB := Lib.hid (HB.out.trans (hk.below HB.out.size (fun i _ hi => HCS.out i hi))); clear d0 d1 d2 hq hn hk HC5; obtain ⟨d0, d1, d2⟩ := hereC HM.out; have HC6 := Lib.hid (vrem 200 0 (by omega) HA0.out (0) 0 (by omega) (L4 [2, 1] [] [] []) (by decide) (by intro j hj; rcases four hj with rfl | rfl | rfl | rfl <;> rfl) HQ.out HN.out (by omega)))
    | (go_at_call 28; (with_reducible refine HC6.out.mono ?_); rintro e w16 ⟨rfl, ⟨⟨mm6, n6, hq, hn⟩, hk⟩⟩; have HQ := Lib.hid hq; have HN := Lib.hid (show 0 ≤ n6 ∧ n6 ≤ 250 from hn); have HM := Lib.hid (HM.out.keep hk (nofC HMC.out)); have HB := Lib.hid (HB.out.trans (hk.below HB.out.size (fun i _ hi => HCS.out i hi))); clear d0 d1 d2 hq hn hk HC6; obtain ⟨d0, d1, d2⟩ := hereC HM.out; have HC7 := Lib.hid (vlook 0 (by omega) HA0.out [2, 1] rfl 2 rfl HQ.out))
    | (go_at_call 25; (with_reducible refine HC7.out.mono ?_); rintro e w17 ⟨va, vc, rfl, hrow, hb⟩; have HQ := Lib.hid (HQ.out.below hb); have HR := Lib.hid hrow; have HM := Lib.hid (HM.out.below hb HM.out.lt); have HB := Lib.hid (HB.out.trans (hb.mono HB.out.size)); clear d0 d1 d2 hrow hb HC7; obtain ⟨d0, d1, d2⟩ := hereC HM.out; have HC8 := Lib.hid (vints _ [2, 1] _ w17 #[.int .i64 2, .int .i64 1] HR.out (by decide) rfl (k := 2) rfl))
    | (go_at_call 24; (with_reducible refine HC8.out.mono ?_); rintro e w18 ⟨rfl, hb⟩; have HQ := Lib.hid (HQ.out.below hb); have HM := Lib.hid (HM.out.below hb HM.out.lt); have HB := Lib.hid (HB.out.trans (hb.mono HB.out.size)); clear d0 d1 d2 hb HC8; obtain ⟨d0, d1, d2⟩ := hereC HM.out; have HC9 := Lib.hid (vpop 250 0 (by omega) HA0.out (2) (L4 [1] [] [] []) (by decide) (by intro j hj; rcases four hj with rfl | rfl | rfl | rfl <;> rfl) HQ.out HN.out (by omega)))
    | (go_at_call 29; (with_reducible refine HC9.out.mono ?_); rintro e w19 ⟨rfl, ⟨⟨mm9, n9, hq, hn⟩, hk⟩⟩; have HQ := Lib.hid hq; have HN := Lib.hid (show 0 ≤ n9 ∧ n9 ≤ 300 from hn); have HM := Lib.hid (HM.out.keep hk (nofC HMC.out)); have HB := Lib.hid (HB.out.trans (hk.below HB.out.size (fun i _ hi => HCS.out i hi))); clear d0 d1 d2 hq hn hk HC9; obtain ⟨d0, d1, d2⟩ := hereC HM.out; have HC10 := Lib.hid (vpop 300 0 (by omega) HA0.out (1) (L4 [] [] [] []) (by decide) (by intro j hj; rcases four hj with rfl | rfl | rfl | rfl <;> rfl) HQ.out HN.out (by omega)))
    | (go_at_call 29; (with_reducible refine HC10.out.mono ?_); rintro e w20 ⟨rfl, ⟨⟨mm10, n10, hq, hn⟩, hk⟩⟩; have HQ := Lib.hid hq; have HN := Lib.hid (show 0 ≤ n10 ∧ n10 ≤ 350 from hn); have HM := Lib.hid (HM.out.keep hk (nofC HMC.out)); have HB := Lib.hid (HB.out.trans (hk.below HB.out.size (fun i _ hi => HCS.out i hi))); clear d0 d1 d2 hq hn hk HC10; obtain ⟨d0, d1, d2⟩ := hereC HM.out; have HC11 := Lib.hid (vpop 350 0 (by omega) HA0.out (-1) (L4 [] [] [] []) (by decide) (by intro j hj; rcases four hj with rfl | rfl | rfl | rfl <;> rfl) HQ.out HN.out (by omega)))
    | (go_at_call 29; (with_reducible refine HC11.out.mono ?_); rintro e w21 ⟨rfl, ⟨⟨mm11, n11, hq, hn⟩, hk⟩⟩; have HQ := Lib.hid hq; have HN := Lib.hid (show 0 ≤ n11 ∧ n11 ≤ 400 from hn); have HM := Lib.hid (HM.out.keep hk (nofC HMC.out)); have HB := Lib.hid (HB.out.trans (hk.below HB.out.size (fun i _ hi => HCS.out i hi))); clear d0 d1 d2 hq hn hk HC11; obtain ⟨d0, d1, d2⟩ := hereC HM.out; have HC12 := Lib.hid (vlook 0 (by omega) HA0.out [] rfl 0 rfl HQ.out))
    | (go_at_call 25; (with_reducible refine HC12.out.mono ?_); rintro e w22 ⟨va, vc, rfl, hrow, hb⟩; have HQ := Lib.hid (HQ.out.below hb); have HR := Lib.hid hrow; have HM := Lib.hid (HM.out.below hb HM.out.lt); have HB := Lib.hid (HB.out.trans (hb.mono HB.out.size)); clear d0 d1 d2 hrow hb HC12; obtain ⟨d0, d1, d2⟩ := hereC HM.out))
  go_ret
  exact ⟨rfl, HB.out⟩
end Go.Proofs.YtpejmkoheodblaaGreat
