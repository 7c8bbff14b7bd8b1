/- Turns of threads, as plain numbers: why all come to their ends. No program is named here. -/
import Derived.Test.YtcocpmoglhgbeaaTreSpec
namespace Go.Proofs.Ytcocpmoglhgbeaa
set_option linter.unusedVariables false
/-- how many steps are still to come: of threads that have done so many times, and are so far in the next one -/
def potL (M K : Nat) (U : List (Nat × Nat)) : Nat := (U.map fun x => M * (K - x.1) - x.2).sum
theorem potL_cons (M K : Nat) (x : Nat × Nat) (U : List (Nat × Nat)) : potL M K (x :: U) = (M * (K - x.1) - x.2) + potL M K U := by simp [potL]
theorem potL_set {M K : Nat} : ∀ {U : List (Nat × Nat)} {t : Nat} {x y : Nat × Nat}, U[t]? = some x → (M * (K - y.1) - y.2) + 1 = M * (K - x.1) - x.2 → potL M K (U.set t y) + 1 = potL M K U
  | [], t, x, y, h, _ => by simp at h
  | z :: U, 0, x, y, h, e => by
    simp at h
    subst h
    rw [List.set_cons_zero, potL_cons, potL_cons]
    omega
  | z :: U, t + 1, x, y, h, e => by
    rw [List.set_cons_succ, potL_cons, potL_cons]
    have := potL_set (U := U) (by simpa using h) e
    omega
theorem potL_zero {M K : Nat} : ∀ {U : List (Nat × Nat)}, (∀ x ∈ U, x.1 = K) → potL M K U = 0
  | [], _ => rfl
  | z :: U, h => by
    rw [potL_cons, potL_zero (fun x hx => h x (List.mem_cons_of_mem _ hx)), h z (by simp)]
    simp
theorem potL_done {M K : Nat} (hM : 0 < M) : ∀ {U : List (Nat × Nat)}, potL M K U = 0 → (∀ x ∈ U, x.1 ≤ K ∧ x.2 < M ∧ (x.1 = K → x.2 = 0)) → ∀ x ∈ U, x = (K, 0)
  | [], _, _, x, hx => by simp at hx
  | z :: U, h, hp, x, hx => by
    rw [potL_cons] at h
    rcases List.mem_cons.1 hx with rfl | hx
    · obtain ⟨h1, h2, h3⟩ := hp x (by simp)
      have h0 : M * (K - x.1) - x.2 = 0 := by omega
      have hk : x.1 = K := by
        by_cases hlt : x.1 < K
        · exfalso
          have : M * 1 ≤ M * (K - x.1) := Nat.mul_le_mul_left M (by omega)
          omega
        · omega
      have := h3 hk
      obtain ⟨a, b⟩ := x
      simp_all
    · exact potL_done hM (by omega) (fun y hy => hp y (List.mem_cons_of_mem _ hy)) x hx
theorem potL_new (M K n : Nat) : potL M K (List.replicate n (0, 0)) = n * (M * K) := by
  induction n with
  | zero => simp [potL]
  | succ n ih => rw [List.replicate_succ, potL_cons, ih, Nat.succ_mul]; simp; omega
/-- in this round of turns nothing went on so far -/
def Waits (K : Nat) (o : Option Nat) (U : List (Nat × Nat)) (s : Nat) : Prop := match o with
  | some u => s ≤ u
  | none => ∀ u x, u < s → U[u]? = some x → x.1 = K
def Budget (Kb r0 P r : Nat) (W : Prop) : Prop := P = 0 ∨ P + r ≤ Kb + r0 ∨ (P + r ≤ Kb + r0 + 1 ∧ W)
/-- where the turns are: i of them are over; the first Lb are anyone's -/
def Bud (Kb n Lb M K : Nat) (o : Option Nat) (U : List (Nat × Nat)) (i : Nat) : Prop :=
  potL M K U ≤ Kb ∧ (Lb ≤ i → ∃ r s r0 s0, i + 1 = n * r + s ∧ s < n ∧ Lb + 1 = n * r0 + s0 ∧ s0 < n ∧ Budget Kb r0 (potL M K U) r (Waits K o U s))
theorem waits_zero (K : Nat) (o : Option Nat) (U : List (Nat × Nat)) : Waits K o U 0 := by
  cases o with
  | none => intro u x h; omega
  | some u => exact Nat.zero_le _
theorem split (n a : Nat) (hn : 0 < n) : ∃ r s, a = n * r + s ∧ s < n := ⟨a / n, a % n, (Nat.div_add_mod a n).symm, Nat.mod_lt _ hn⟩
/-- a turn: something went on, or nothing did, and then the thread was done, or another one was in -/
theorem Bud.turn {Kb n Lb M K : Nat} {o o' : Option Nat} {U U' : List (Nat × Nat)} {i t : Nat} (h : Bud Kb n Lb M K o U i) (hn : 0 < n) (hl : U.length = n) (ht : Lb ≤ i → t = (i + 1) % n)
    (hs : potL M K U' + 1 = potL M K U ∨ (U' = U ∧ o' = o ∧ (o = none → ∃ x, U[t]? = some x ∧ x.1 = K) ∧ ∀ u, o = some u → u < n ∧ u ≠ t)) : Bud Kb n Lb M K o' U' (i + 1) := by
  obtain ⟨h1, h2⟩ := h
  have hle : potL M K U' ≤ potL M K U := by
    rcases hs with hs | ⟨rfl, _⟩
    · omega
    · exact Nat.le_refl _
  refine ⟨by omega, fun hL => ?_⟩
  by_cases hi : Lb ≤ i
  · obtain ⟨r, s, r0, s0, e1, e2, e3, e4, hB⟩ := h2 hi
    have hts : t = s := by
      rw [ht hi, e1, Nat.mul_add_mod, Nat.mod_eq_of_lt e2]
    -- behind this turn, in this round
    have key : Budget Kb r0 (potL M K U') r (Waits K o' U' (s + 1)) := by
      rcases hs with hs | ⟨rfl, rfl, hd, ho⟩
      · rcases hB with hB | hB | ⟨hB, _⟩
        · omega
        · exact .inr (.inl (by omega))
        · exact .inr (.inl (by omega))
      · rcases hB with hB | hB | ⟨hB, hW⟩
        · exact .inl hB
        · exact .inr (.inl hB)
        · refine .inr (.inr ⟨hB, ?_⟩)
          cases o' with
          | none =>
            intro u x hu hx
            rcases Nat.lt_succ_iff_lt_or_eq.1 hu with hu | rfl
            · exact hW u x hu hx
            · obtain ⟨y, hy, hk⟩ := hd rfl
              rw [hts, hx] at hy
              exact (Option.some.inj hy) ▸ hk
          | some u =>
            have h3 : s ≤ u := hW
            have := ho u rfl
            show s + 1 ≤ u
            omega
    by_cases hend : s + 1 < n
    · exact ⟨r, s + 1, r0, s0, by omega, hend, e3, e4, key⟩
    · refine ⟨r + 1, 0, r0, s0, by rw [Nat.mul_succ]; omega, hn, e3, e4, ?_⟩
      have hl' : U'.length = n ∨ potL M K U' + 1 = potL M K U := by
        rcases hs with hs | ⟨rfl, _⟩
        · exact .inr hs
        · exact .inl hl
      rcases hs with hs | ⟨rfl, rfl, hd, ho⟩
      · rcases hB with hB | hB | ⟨hB, _⟩
        · omega
        · exact .inr (.inr ⟨by omega, waits_zero _ _ _⟩)
        · exact .inr (.inr ⟨by omega, waits_zero _ _ _⟩)
      · rcases key with hB | hB | ⟨hB, hW⟩
        · exact .inl hB
        · exact .inr (.inr ⟨by omega, waits_zero _ _ _⟩)
        · cases o' with
          | none =>
            refine .inl (potL_zero fun x hx => ?_)
            obtain ⟨u, hu⟩ := List.mem_iff_getElem?.1 hx
            have := (List.getElem?_eq_some_iff.1 hu).1
            exact hW u x (by omega) hu
          | some u =>
            exfalso
            have h3 : s + 1 ≤ u := hW
            have := (ho u rfl).1
            omega
  · obtain ⟨r, s, e1, e2⟩ := split n (i + 1 + 1) hn
    have hLi : Lb = i + 1 := by omega
    subst hLi
    exact ⟨r, s, r, s, e1, e2, e1, e2, .inr (.inl (by omega))⟩
/-- at the end all is done -/
theorem Bud.end {Kb n Lb M K : Nat} {o : Option Nat} {U : List (Nat × Nat)} {i : Nat} (h : Bud Kb n Lb M K o U i) (hn : 1 ≤ n ∧ n ≤ 6) (hL : Lb ≤ 200) (hi : 6 * Kb + 300 ≤ i) : potL M K U = 0 := by
  obtain ⟨r, s, r0, s0, e1, e2, e3, e4, hB⟩ := h.2 (by omega)
  have key : r0 + Kb + 1 < r := by
    obtain h6 | h6 | h6 | h6 | h6 | h6 : n = 1 ∨ n = 2 ∨ n = 3 ∨ n = 4 ∨ n = 5 ∨ n = 6 := by omega
    all_goals
      subst h6
      omega
  rcases hB with hB | hB | ⟨hB, _⟩ <;> omega
theorem Bud.new (Kb n Lb M K : Nat) (hn : 0 < n) (hK : n * (M * K) ≤ Kb) : Bud Kb n Lb M K none (List.replicate n (0, 0)) 0 := by
  rw [Bud, potL_new]
  refine ⟨hK, fun hL => ?_⟩
  obtain ⟨r, s, e1, e2⟩ := split n (0 + 1) hn
  have : Lb = 0 := by omega
  subst this
  exact ⟨r, s, r, s, e1, e2, e1, e2, .inr (.inl (by omega))⟩
end Go.Proofs.Ytcocpmoglhgbeaa
