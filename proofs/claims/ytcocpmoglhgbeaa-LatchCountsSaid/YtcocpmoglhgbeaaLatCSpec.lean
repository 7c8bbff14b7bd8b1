/- LatchCounts, as plain numbers: how the threads' counting goes on. -/
import Derived.Test.YtcocpmoglhgbeaaLatOneA
namespace Go.Proofs.Ytcocpmoglhgbeaa
open Go.ChangeShapes Go.WideShapes Go.ChangeAt Go.RowKit
set_option linter.unusedVariables false
set_option linter.unusedSimpArgs false
/-- how many were done -/
def sumU (U : List (Nat × Nat)) : Nat := (U.map (·.1)).sum
theorem sumU_cons (x : Nat × Nat) (U : List (Nat × Nat)) : sumU (x :: U) = x.1 + sumU U := by simp [sumU]
theorem sumU_set : ∀ {U : List (Nat × Nat)} {t : Nat} {x y : Nat × Nat}, U[t]? = some x → sumU (U.set t y) + x.1 = sumU U + y.1
  | [], t, x, y, h => by simp at h
  | z :: U, 0, x, y, h => by
    simp at h
    subst h
    rw [List.set_cons_zero, sumU_cons, sumU_cons]
    omega
  | z :: U, t + 1, x, y, h => by
    rw [List.set_cons_succ, sumU_cons, sumU_cons]
    have := sumU_set (U := U) (y := y) (by simpa using h)
    omega
theorem sumU_le {K : Nat} : ∀ {U : List (Nat × Nat)}, (∀ x ∈ U, x.1 ≤ K) → sumU U ≤ U.length * K
  | [], _ => by simp [sumU]
  | z :: U, h => by
    have h1 := sumU_le (U := U) (fun x hx => h x (List.mem_cons_of_mem _ hx))
    have h2 := h z (by simp)
    rw [sumU_cons, List.length_cons, Nat.succ_mul]
    omega
theorem sumU_lt {K : Nat} {U : List (Nat × Nat)} {t : Nat} {x : Nat × Nat} (h : ∀ x ∈ U, x.1 ≤ K) (ht : U[t]? = some x) (hx : x.1 < K) : sumU U < U.length * K := by
  have h1 := sumU_set (y := (x.1 + 1, 0)) ht
  have h2 := sumU_le (K := K) (U := U.set t (x.1 + 1, 0)) (fun y hy => by
    rcases List.mem_or_eq_of_mem_set hy with hy | rfl
    · exact h y hy
    · exact hx)
  rw [List.length_set] at h2
  simp only at h1
  omega
theorem sumU_all {K : Nat} : ∀ {U : List (Nat × Nat)}, (∀ x ∈ U, x.1 = K) → sumU U = U.length * K
  | [], _ => by simp [sumU]
  | z :: U, h => by
    rw [sumU_cons, List.length_cons, Nat.succ_mul, sumU_all (U := U) (fun x hx => h x (List.mem_cons_of_mem _ hx)), h z (by simp)]
    omega
/-- what a thread's task is, in each stage -/
def Stg (lo : Bool) (b t p : Nat) (T : Tre Itm) : Prop := if lo = true then ((p = 0 ∧ T = looseT 1) ∨ (p = 1 ∧ ∃ q : Nat, q ≤ b ∧ T = lsT 1 (q : Int))) else ((p = 0 ∧ T = bumpT 0 t 1) ∨ (p = 1 ∧ T = inT 0 t 1) ∨ (p = 2 ∧ T = stT 0 t 1 (b : Int)) ∨ (p = 3 ∧ T = outT 0 t (b : Int)))
def stM (lo : Bool) : Nat := if lo = true then 2 else 4
theorem Stg.zero {lo : Bool} {b b' t : Nat} {T : Tre Itm} (h : Stg lo b t 0 T) : Stg lo b' t 0 T := by
  cases lo
  · simp [Stg] at h ⊢; exact h
  · simp [Stg] at h ⊢; exact h
theorem Stg.more {b b' t p : Nat} {T : Tre Itm} (h : Stg true b t p T) (hb : b ≤ b') : Stg true b' t p T := by
  simp only [Stg, if_true] at h ⊢
  rcases h with h | ⟨h, q, hq, e⟩
  · exact .inl h
  · exact .inr ⟨h, q, by omega, e⟩
/-- what holds between turns -/
structure Inv2 (lo : Bool) (n K : Nat) (U : List (Nat × Nat)) (o : Option Nat) (lock c : Int) (E : List Nat) : Prop where
  len : U.length = n
  ok : ∀ x ∈ U, x.1 ≤ K ∧ x.2 < stM lo ∧ (x.1 = K → x.2 = 0)
  lk : lock = cellO o
  lose : lo = true → o = none ∧ 0 ≤ c ∧ c ≤ sumU U ∧ (1 ≤ sumU U → 1 ≤ c) ∧ E.length = n * K ∧ ∀ e ∈ E, e ≤ sumU U
  tight : lo = false → (∀ t x, U[t]? = some x → (0 < x.2 ↔ o = some t)) ∧ (∀ t, o = some t → t < n) ∧ (o = none → c = sumU U) ∧ (∀ t x, o = some t → U[t]? = some x → c = sumU U + (if x.2 = 3 then 1 else 0)) ∧ E = List.replicate (sumU U) 1 ++ List.replicate (n * K - sumU U) 0
/-- a turn of a thread that is not at its end: its task's step -/
inductive Out2 (lo : Bool) (n K : Nat) (U : List (Nat × Nat)) (o : Option Nat) (lock c : Int) (E : List Nat) (t v p : Nat) (m' : List Int) (T' : Tre Itm) : Prop
  | on (p' : Nat) (o' : Option Nat) (lock' c' : Int) (hm : m' = [lock', c']) (hT : Fin false T') (hs : Stg lo (sumU U) t p' T') (hi : Inv2 lo n K (U.set t (v, p')) o' lock' c' E)
      (hp : potL (stM lo) K (U.set t (v, p')) + 1 = potL (stM lo) K U ∨ (U.set t (v, p') = U ∧ o' = o ∧ (o = none → False) ∧ ∀ u, o = some u → u < n ∧ u ≠ t))
  | done (q e : Nat) (lock' c' : Int) (hm : m' = [lock', c']) (hT : T' = retT (q : Int)) (hq : q < n * K) (he : E[q]? = some e) (hi : Inv2 lo n K (U.set t (v + 1, 0)) none lock' c' (E.set q (e + 1)))
      (hp : potL (stM lo) K (U.set t (v + 1, 0)) + 1 = potL (stM lo) K U)
theorem uset_same {α : Type} {l : List α} {t : Nat} {x : α} (h : l[t]? = some x) : l.set t x = l := by
  apply List.ext_getElem?
  intro j
  have hl := (List.getElem?_eq_some_iff.1 h).1
  by_cases e : t = j
  · subst e; rw [List.getElem?_set_self hl, h]
  · rw [List.getElem?_set_ne e]
theorem Inv2.okset {lo : Bool} {K : Nat} {U : List (Nat × Nat)} {t : Nat} {y : Nat × Nat} (h : ∀ x ∈ U, x.1 ≤ K ∧ x.2 < stM lo ∧ (x.1 = K → x.2 = 0)) (hy : y.1 ≤ K ∧ y.2 < stM lo ∧ (y.1 = K → y.2 = 0)) : ∀ x ∈ U.set t y, x.1 ≤ K ∧ x.2 < stM lo ∧ (x.1 = K → x.2 = 0) := fun x hx => by
  rcases List.mem_or_eq_of_mem_set hx with hx | rfl
  · exact h x hx
  · exact hy
theorem tight_turn {n K : Nat} {U : List (Nat × Nat)} {o : Option Nat} {lock c : Int} {E : List Nat} {t v p : Nat} {T : Tre Itm} (h : Inv2 false n K U o lock c E) (hn : n ≤ 6) (hK : K ≤ 4) (hU : U[t]? = some (v, p)) (hv : v < K) (hs : Stg false (sumU U) t p T) :
    ∃ x κ m' u ok T', T = opT x κ ∧ x.kind < 5 ∧ operS [lock, c] x = (m', u, ok) ∧ countS [lock, c] x = 1 ∧ κ u = T' ∧ Out2 false n K U o lock c E t v p m' T' := by
  obtain ⟨h1, h2, h3, _, h4⟩ := h
  obtain ⟨a1, a2, a3, a4, a5⟩ := h4 rfl
  have htl : t < n := by have := (List.getElem?_eq_some_iff.1 hU).1; omega
  have hu : 0 ≤ (t : Int) ∧ (t : Int) ≤ 100000 := ⟨by omega, by omega⟩
  have hsl := sumU_lt (fun x hx => (h2 x hx).1) hU hv
  rw [h1] at hsl
  have hnk : n * K ≤ 24 := Nat.mul_le_mul hn hK
  have hset := fun p' : Nat => sumU_set (y := (v, p')) hU
  have hset2 := sumU_set (y := (v + 1, 0)) hU
  simp only at hset hset2
  have hget : ∀ y : Nat × Nat, (U.set t y)[t]? = some y := fun y => List.getElem?_set_self (by omega)
  have hoth : ∀ (y : Nat × Nat) (j : Nat) x, (U.set t y)[j]? = some x → (j = t ∧ x = y) ∨ (j ≠ t ∧ U[j]? = some x) := fun y j x hx => set_at hx
  have hpt := (a1 t _ hU)
  simp only at hpt
  simp only [Stg, if_neg (show ¬ false = true by decide)] at hs
  rcases hs with ⟨rfl, rfl⟩ | ⟨rfl, rfl⟩ | ⟨rfl, rfl⟩ | ⟨rfl, rfl⟩
  · -- to take it
    have hot : ¬ o = some t := fun e => (by have := hpt.2 e; omega)
    cases o with
    | none =>
      simp only [cellO] at h3
      subst h3
      refine ⟨_, _, _, _, _, _, bumpT_eq 0 t 1, (show (4 : Nat) < 5 by omega), (otake_yes (m := [0, c]) (i := 0) rfl hu).1, (otake_yes (m := [0, c]) (i := 0) rfl hu).2, if_neg (by decide), .on 1 (some t) ((t : Int) + 1) c rfl (fin_op _ _) ?_ ?_ (.inl ?_)⟩
      · simp [Stg]
      · refine ⟨by simpa using h1, Inv2.okset h2 ⟨by show v ≤ K; omega, by show 1 < stM false; decide, fun e => (by have : v = K := e; omega)⟩, rfl, fun h => (by cases h), fun _ => ⟨fun j x hx => ?_, fun j e => (by obtain rfl := Option.some.inj e; exact htl), fun e => (by cases e), fun j x e hx => ?_, (by rw [show sumU (U.set t (v, 1)) = sumU U by have := hset 1; omega]; exact a5)⟩⟩
        · rcases hoth _ j x hx with ⟨rfl, rfl⟩ | ⟨hj, hx⟩
          · simp
          · have := a1 j x hx
            constructor
            · intro h; have := this.1 h; cases this
            · intro h; exact absurd (Option.some.inj h).symm hj
        · obtain rfl := Option.some.inj e
          rw [hget] at hx
          obtain rfl := Option.some.inj hx
          have := hset 1
          show c = (sumU (U.set t (v, 1)) : Int) + (if (1 : Nat) = 3 then 1 else 0)
          rw [if_neg (by decide), a3 rfl]
          omega
      · refine potL_set hU ?_
        show 4 * (K - v) - 1 + 1 = 4 * (K - v) - 0
        omega
    | some u =>
      have hne : u ≠ t := fun e => hot (by rw [e])
      simp only [cellO] at h3
      subst h3
      refine ⟨_, _, _, _, _, _, bumpT_eq 0 t 1, (show (4 : Nat) < 5 by omega), (otake_no (m := [(u : Int) + 1, c]) (i := 0) rfl (by omega) hu).1, (otake_no (m := [(u : Int) + 1, c]) (i := 0) rfl (by omega) hu).2, if_pos (.inl rfl), .on 0 (some u) ((u : Int) + 1) c rfl (.inr ⟨rfl, _, _, bumpT_eq 0 t 1⟩) (by simp [Stg]) ?_ (.inr ⟨uset_same hU, rfl, (fun h => by cases h), fun u' h => ?_⟩)⟩
      · rw [uset_same hU]
        exact ⟨h1, h2, rfl, fun h => (by cases h), fun _ => ⟨a1, a2, a3, a4, a5⟩⟩
      · obtain rfl := Option.some.inj h
        exact ⟨a2 _ rfl, hne⟩
  · have ho : o = some t := hpt.1 (by omega)
    subst ho
    have hc : c = (sumU U : Int) + (if (1 : Nat) = 3 then 1 else 0) := a4 t _ rfl hU
    rw [if_neg (by decide)] at hc
    have hcn : c = (sumU U : Int) := by omega
    subst hcn
    refine ⟨_, _, _, _, _, _, rfl, (show (0 : Nat) < 5 by omega), (oload_on (m := [lock, (sumU U : Int)]) (i := 1) (c := (sumU U : Int)) rfl ⟨by omega, by omega⟩).1, (oload_on (m := [lock, (sumU U : Int)]) (i := 1) (c := (sumU U : Int)) rfl ⟨by omega, by omega⟩).2, rfl, .on 2 (some t) lock _ rfl (fin_op _ _) (by simp [Stg]) ?_ (.inl ?_)⟩
    · refine ⟨by simpa using h1, Inv2.okset h2 ⟨by show v ≤ K; omega, by show 2 < stM false; decide, fun e => (by have : v = K := e; omega)⟩, h3, fun h => (by cases h), fun _ => ⟨fun j x hx => ?_, a2, fun e => (by cases e), fun j x e hx => ?_, (by rw [show sumU (U.set t (v, 2)) = sumU U by have := hset 2; omega]; exact a5)⟩⟩
      · rcases hoth _ j x hx with ⟨rfl, rfl⟩ | ⟨hj, hx⟩
        · simp
        · exact a1 j x hx
      · obtain rfl := Option.some.inj e
        rw [hget] at hx
        obtain rfl := Option.some.inj hx
        have := hset 2
        show (sumU U : Int) = (sumU (U.set t (v, 2)) : Int) + (if (2 : Nat) = 3 then 1 else 0)
        rw [if_neg (by decide)]
        omega
    · refine potL_set hU ?_
      show 4 * (K - v) - 2 + 1 = 4 * (K - v) - 1
      omega
  · have ho : o = some t := hpt.1 (by omega)
    subst ho
    have hc : c = (sumU U : Int) + (if (2 : Nat) = 3 then 1 else 0) := a4 t _ rfl hU
    rw [if_neg (by decide)] at hc
    have hcn : c = (sumU U : Int) := by omega
    subst hcn
    refine ⟨_, _, _, _, _, _, rfl, (show (1 : Nat) < 5 by omega), (ostore_on (m := [lock, (sumU U : Int)]) (i := 1) (c := (sumU U : Int)) (v := (sumU U : Int)) rfl ⟨by omega, by omega⟩).1, (ostore_on (m := [lock, (sumU U : Int)]) (i := 1) (c := (sumU U : Int)) rfl ⟨by omega, by omega⟩).2, rfl, .on 3 (some t) lock ((sumU U : Int) + 1) rfl (fin_op _ _) (by simp [Stg]) ?_ (.inl ?_)⟩
    · refine ⟨by simpa using h1, Inv2.okset h2 ⟨by show v ≤ K; omega, by show 3 < stM false; decide, fun e => (by have : v = K := e; omega)⟩, h3, fun h => (by cases h), fun _ => ⟨fun j x hx => ?_, a2, fun e => (by cases e), fun j x e hx => ?_, (by rw [show sumU (U.set t (v, 3)) = sumU U by have := hset 3; omega]; exact a5)⟩⟩
      · rcases hoth _ j x hx with ⟨rfl, rfl⟩ | ⟨hj, hx⟩
        · simp
        · exact a1 j x hx
      · obtain rfl := Option.some.inj e
        rw [hget] at hx
        obtain rfl := Option.some.inj hx
        have := hset 3
        show (sumU U : Int) + 1 = (sumU (U.set t (v, 3)) : Int) + (if (3 : Nat) = 3 then 1 else 0)
        rw [if_pos rfl]
        omega
    · refine potL_set hU ?_
      show 4 * (K - v) - 3 + 1 = 4 * (K - v) - 2
      omega
  · have ho : o = some t := hpt.1 (by omega)
    subst ho
    have hc : c = (sumU U : Int) + (if (3 : Nat) = 3 then 1 else 0) := a4 t _ rfl hU
    rw [if_pos rfl] at hc
    simp only [cellO] at h3
    subst h3
    have hE : E[sumU U]? = some 0 := by
      rw [a5, List.getElem?_append_right (by simp), List.length_replicate, Nat.sub_self, List.getElem?_replicate, if_pos (by omega)]
    refine ⟨_, _, _, _, _, _, rfl, (show (2 : Nat) < 5 by omega), (odrop_yes (m := [(t : Int) + 1, c]) (i := 0) rfl hu).1, (odrop_yes (m := [(t : Int) + 1, c]) (i := 0) rfl hu).2, rfl, .done (sumU U) 0 0 c rfl rfl hsl hE ?_ ?_⟩
    · refine ⟨by simpa using h1, Inv2.okset h2 ⟨by show v + 1 ≤ K; omega, by show 0 < stM false; decide, fun _ => rfl⟩, rfl, fun h => (by cases h), fun _ => ⟨fun j x hx => ?_, fun j e => (by cases e), fun _ => by omega, fun j x e => (by cases e), ?_⟩⟩
      · rcases hoth _ j x hx with ⟨rfl, rfl⟩ | ⟨hj, hx⟩
        · simp
        · have := a1 j x hx
          constructor
          · intro h; exact absurd (Option.some.inj (this.1 h)).symm hj
          · intro h; cases h
      · rw [a5, show sumU (U.set t (v + 1, 0)) = sumU U + 1 by omega]
        apply List.ext_getElem?
        intro j
        by_cases e : sumU U = j
        · subst e
          rw [List.getElem?_set_self (by simp; omega), List.getElem?_append_left (by simp)]
          simp
        · rw [List.getElem?_set_ne e]
          by_cases hj : j < sumU U
          · rw [List.getElem?_append_left (by simpa using hj), List.getElem?_append_left (by simp; omega)]
            simp [hj, (by omega : j < sumU U + 1)]
          · rw [List.getElem?_append_right (by simp; omega), List.getElem?_append_right (by simp; omega)]
            by_cases hj2 : j < n * K
            · simp [(by omega : j - sumU U < n * K - sumU U), (by omega : j - (sumU U + 1) < n * K - (sumU U + 1))]
            · rw [List.getElem?_eq_none (by simp; omega), List.getElem?_eq_none (by simp; omega)]
    · refine potL_set hU ?_
      show 4 * (K - (v + 1)) - 0 + 1 = 4 * (K - v) - 3
      omega
theorem loose_turn {n K : Nat} {U : List (Nat × Nat)} {o : Option Nat} {lock c : Int} {E : List Nat} {t v p : Nat} {T : Tre Itm} (h : Inv2 true n K U o lock c E) (hn : n ≤ 6) (hK : K ≤ 4) (hU : U[t]? = some (v, p)) (hv : v < K) (hs : Stg true (sumU U) t p T) :
    ∃ x κ m' u ok T', T = opT x κ ∧ x.kind < 5 ∧ operS [lock, c] x = (m', u, ok) ∧ countS [lock, c] x = 1 ∧ κ u = T' ∧ Out2 true n K U o lock c E t v p m' T' := by
  obtain ⟨h1, h2, h3, h4, _⟩ := h
  obtain ⟨rfl, a2, a3, a4, a5, a6⟩ := h4 rfl
  have htl : t < n := by have := (List.getElem?_eq_some_iff.1 hU).1; omega
  have hsl := sumU_lt (fun x hx => (h2 x hx).1) hU hv
  rw [h1] at hsl
  have hnk : n * K ≤ 24 := Nat.mul_le_mul hn hK
  have hset := sumU_set (y := (v, 1)) hU
  have hset2 := sumU_set (y := (v + 1, 0)) hU
  simp only at hset hset2
  simp only [Stg, if_true] at hs
  rcases hs with ⟨rfl, rfl⟩ | ⟨rfl, q, hq, rfl⟩
  · obtain ⟨cn, rfl⟩ : ∃ cn : Nat, c = (cn : Int) := ⟨c.toNat, by omega⟩
    refine ⟨_, _, _, _, _, _, looseT_eq 1, (show (0 : Nat) < 5 by omega), (oload_on (m := [lock, (cn : Int)]) (i := 1) (c := (cn : Int)) rfl ⟨by omega, by omega⟩).1, (oload_on (m := [lock, (cn : Int)]) (i := 1) (c := (cn : Int)) rfl ⟨by omega, by omega⟩).2, rfl, .on 1 none lock _ rfl (fin_op _ _) ?_ ?_ (.inl ?_)⟩
    · simp only [Stg, if_true]
      exact .inr ⟨by first | trivial | rfl, cn, by omega, rfl⟩
    · refine ⟨by simpa using h1, Inv2.okset h2 ⟨by show v ≤ K; omega, by show 1 < stM true; decide, fun e => (by have : v = K := e; omega)⟩, h3, fun _ => ?_, fun h => (by cases h)⟩
      rw [show sumU (U.set t (v, 1)) = sumU U by omega]
      exact ⟨by first | trivial | rfl, a2, a3, a4, a5, a6⟩
    · refine potL_set hU ?_
      show 2 * (K - v) - 1 + 1 = 2 * (K - v) - 0
      omega
  · obtain ⟨e, he⟩ : ∃ e, E[q]? = some e := ⟨_, List.getElem?_eq_getElem (by omega)⟩
    refine ⟨_, _, _, _, _, _, rfl, (show (1 : Nat) < 5 by omega), (ostore_on (m := [lock, c]) (i := 1) (c := c) (v := (q : Int)) rfl ⟨by omega, by omega⟩).1, (ostore_on (m := [lock, c]) (i := 1) (c := c) (v := (q : Int)) rfl ⟨by omega, by omega⟩).2, rfl, .done q e lock ((q : Int) + 1) rfl rfl (by omega) he ?_ ?_⟩
    · refine ⟨by simpa using h1, Inv2.okset h2 ⟨by show v + 1 ≤ K; omega, by show 0 < stM true; decide, fun _ => rfl⟩, h3, fun _ => ?_, fun h => (by cases h)⟩
      refine ⟨by first | trivial | rfl, by omega, by omega, fun _ => by omega, by simpa using a5, fun x hx => ?_⟩
      rcases List.mem_or_eq_of_mem_set hx with hx | rfl
      · have := a6 x hx; omega
      · have := a6 e (List.mem_of_getElem? he); omega
    · refine potL_set hU ?_
      show 2 * (K - (v + 1)) - 0 + 1 = 2 * (K - v) - 1
      omega
theorem turn2 {lo : Bool} {n K : Nat} {U : List (Nat × Nat)} {o : Option Nat} {lock c : Int} {E : List Nat} {t v p : Nat} {T : Tre Itm} (h : Inv2 lo n K U o lock c E) (hn : n ≤ 6) (hK : K ≤ 4) (hU : U[t]? = some (v, p)) (hv : v < K) (hs : Stg lo (sumU U) t p T) :
    ∃ x κ m' u ok T', T = opT x κ ∧ x.kind < 5 ∧ operS [lock, c] x = (m', u, ok) ∧ countS [lock, c] x = 1 ∧ κ u = T' ∧ Out2 lo n K U o lock c E t v p m' T' := by
  cases lo
  · exact tight_turn h hn hK hU hv hs
  · exact loose_turn h hn hK hU hv hs
/-- at first -/
theorem Inv2.new (lo : Bool) (n K : Nat) (hK : 1 ≤ K) : Inv2 lo n K (List.replicate n (0, 0)) none 0 0 (List.replicate (n * K) 0) := by
  have hs : sumU (List.replicate n (0, 0)) = 0 := by
    have h := sumU_le (K := 0) (U := List.replicate n (0, 0)) (fun x hx => by rw [List.eq_of_mem_replicate hx]; exact Nat.le_refl _)
    simpa using h
  refine ⟨by simp, fun x hx => ?_, rfl, fun _ => ?_, fun _ => ?_⟩
  · rw [List.eq_of_mem_replicate hx]
    refine ⟨Nat.zero_le _, ?_, fun _ => rfl⟩
    show 0 < stM lo
    cases lo <;> decide
  · rw [hs]
    exact ⟨rfl, by omega, by omega, fun h => by omega, by simp, fun e he => by rw [List.eq_of_mem_replicate he]; omega⟩
  · rw [hs]
    refine ⟨fun t x hx => ?_, fun t e => (by cases e), fun _ => rfl, fun t x e => (by cases e), by simp⟩
    have := List.eq_of_mem_replicate (List.mem_of_getElem? hx)
    subst this
    simp
end Go.Proofs.Ytcocpmoglhgbeaa
