/- MachineSums, as plain lists: rows of numbers, and how far each thread has come. No program is named here. -/
import Derived.Test.YtgcmnaiiifaajaaMacN
namespace Go.Proofs.Ytgcmnaiiifaajaa
open Go.ChangeShapes Go.WideShapes Go.ChangeAt Go.RowKit
set_option linter.unusedVariables false
set_option linter.unusedSimpArgs false
def isum (l : List Int) : Int := l.foldr (· + ·) 0
theorem isum_cons (x : Int) (l : List Int) : isum (x :: l) = x + isum l := rfl
theorem isum_append (l r : List Int) : isum (l ++ r) = isum l + isum r := by
  induction l with
  | nil => simp [isum]
  | cons x l ih => rw [List.cons_append, isum_cons, isum_cons, ih]; omega
/-- bytes, ten at most -/
def RowOk (r : List Int) : Prop := r.length ≤ 10 ∧ ∀ x ∈ r, 0 ≤ x ∧ x ≤ 255
theorem isum_bound : ∀ (r : List Int), (∀ x ∈ r, 0 ≤ x ∧ x ≤ 255) → 0 ≤ isum r ∧ isum r ≤ 255 * r.length
  | [], _ => by simp [isum]
  | x :: r, h => by
    have h1 := isum_bound r (fun y hy => h y (List.mem_cons_of_mem _ hy))
    have h2 := h x (by simp)
    rw [isum_cons, List.length_cons]
    omega
/-- the sum of what is done, of all rows -/
def sumK : List (List Int) → List Nat → Int
  | r :: R, k :: K => isum (r.take k) + sumK R K
  | _, _ => 0
def lenK : List (List Int) → Nat
  | [] => 0
  | r :: R => r.length + lenK R
def cntK : List Nat → Nat
  | [] => 0
  | k :: K => k + cntK K
def allK : List (List Int) → Int
  | [] => 0
  | r :: R => isum r + allK R
/-- no thread is past its end -/
def Fits : List (List Int) → List Nat → Prop
  | [], [] => True
  | r :: R, k :: K => k ≤ r.length ∧ Fits R K
  | _, _ => False
theorem Fits.len : ∀ {R : List (List Int)} {K : List Nat}, Fits R K → K.length = R.length
  | [], [], _ => rfl
  | r :: R, k :: K, h => by simp [Fits.len h.2]
theorem Fits.at : ∀ {R : List (List Int)} {K : List Nat} {t : Nat} {r : List Int}, Fits R K → R[t]? = some r → ∃ k, K[t]? = some k ∧ k ≤ r.length
  | [], [], t, r, _, h => by simp at h
  | r :: R, k :: K, 0, r', h, hr => by
    simp at hr; subst hr
    exact ⟨k, rfl, h.1⟩
  | r :: R, k :: K, t + 1, r', h, hr => by simpa using Fits.at h.2 (by simpa using hr)
theorem Fits.step : ∀ {R : List (List Int)} {K : List Nat} {t k : Nat} {r : List Int}, Fits R K → R[t]? = some r → K[t]? = some k → k < r.length → Fits R (K.set t (k + 1))
  | [], [], t, k, r, _, h, _, _ => by simp at h
  | r :: R, k :: K, 0, k', r', h, hr, hk, hl => by
    simp at hr hk; subst hr hk
    exact ⟨hl, h.2⟩
  | r :: R, k :: K, t + 1, k', r', h, hr, hk, hl => ⟨h.1, Fits.step h.2 (by simpa using hr) (by simpa using hk) hl⟩
theorem take_next {r : List Int} {k : Nat} {x : Int} (h : r[k]? = some x) : isum (r.take (k + 1)) = isum (r.take k) + x := by
  rw [List.take_add_one, h, isum_append]
  simp [isum]
theorem sumK_step : ∀ {R : List (List Int)} {K : List Nat} {t k : Nat} {r : List Int} {x : Int}, R[t]? = some r → K[t]? = some k → r[k]? = some x → sumK R (K.set t (k + 1)) = sumK R K + x
  | [], _, t, k, r, x, h, _, _ => by simp at h
  | r :: R, [], t, k, r', x, h, hk, _ => by simp at hk
  | r :: R, k :: K, 0, k', r', x, hr, hk, hx => by
    simp at hr hk; subst hr hk
    simp only [List.set_cons_zero, sumK]
    rw [take_next hx]; omega
  | r :: R, k :: K, t + 1, k', r', x, hr, hk, hx => by
    simp only [List.set_cons_succ, sumK]
    rw [sumK_step (by simpa using hr) (by simpa using hk) hx]; omega
theorem cntK_step : ∀ {K : List Nat} {t k : Nat}, K[t]? = some k → cntK (K.set t (k + 1)) = cntK K + 1
  | [], t, k, h => by simp at h
  | k :: K, 0, k', h => by
    simp at h; subst h
    simp [cntK]; omega
  | k :: K, t + 1, k', h => by
    simp only [List.set_cons_succ, cntK]
    rw [cntK_step (by simpa using h)]; omega
theorem Fits.le : ∀ {R : List (List Int)} {K : List Nat}, Fits R K → cntK K ≤ lenK R
  | [], [], _ => Nat.le_refl _
  | r :: R, k :: K, h => by have := h.1; have := Fits.le h.2; simp only [cntK, lenK]; omega
/-- all are at their ends -/
def Ended : List (List Int) → List Nat → Prop
  | r :: R, k :: K => k = r.length ∧ Ended R K
  | _, _ => True
theorem Fits.ended : ∀ {R : List (List Int)} {K : List Nat}, Fits R K → (cntK K = lenK R ↔ Ended R K)
  | [], [], _ => by simp [cntK, lenK, Ended]
  | r :: R, k :: K, h => by
    have h1 := h.1
    have h2 := Fits.le h.2
    have h3 := Fits.ended h.2
    simp only [cntK, lenK, Ended]
    rw [← h3]
    omega
theorem sumK_ended : ∀ {R : List (List Int)} {K : List Nat}, Fits R K → Ended R K → sumK R K = allK R
  | [], [], _, _ => rfl
  | r :: R, k :: K, h, he => by
    simp only [sumK, allK]
    rw [sumK_ended h.2 he.2, he.1, List.take_length]
theorem sumK_bound : ∀ {R : List (List Int)} {K : List Nat}, Fits R K → (∀ r ∈ R, RowOk r) → 0 ≤ sumK R K ∧ sumK R K ≤ 2550 * R.length
  | [], [], _, _ => by simp [sumK]
  | r :: R, k :: K, h, ho => by
    have h1 := sumK_bound h.2 (fun r hr => ho r (List.mem_cons_of_mem _ hr))
    have h2 := ho r (by simp)
    have h3 := isum_bound (r.take k) (fun x hx => h2.2 x (List.mem_of_mem_take hx))
    have h4 : (r.take k).length ≤ 10 := by rw [List.length_take]; have := h2.1; omega
    simp only [sumK, List.length_cons]
    omega
theorem lenK_bound : ∀ {R : List (List Int)}, (∀ r ∈ R, RowOk r) → lenK R ≤ 10 * R.length
  | [], _ => by simp [lenK]
  | r :: R, h => by
    have h1 := lenK_bound (fun r hr => h r (List.mem_cons_of_mem _ hr))
    have h2 := (h r (by simp)).1
    simp only [lenK, List.length_cons]; omega
theorem allK_bound : ∀ {R : List (List Int)}, (∀ r ∈ R, RowOk r) → 0 ≤ allK R ∧ allK R ≤ 2550 * R.length
  | [], _ => by simp [allK]
  | r :: R, h => by
    have h1 := allK_bound (fun r hr => h r (List.mem_cons_of_mem _ hr))
    have h2 := h r (by simp)
    have h3 := isum_bound r h2.2
    have := h2.1
    simp only [allK, List.length_cons]; omega
theorem lenK_snoc (R : List (List Int)) (r : List Int) : lenK (R ++ [r]) = lenK R + r.length := by
  induction R with
  | nil => simp [lenK]
  | cons x R ih => simp only [List.cons_append, lenK, ih]; omega
theorem allK_snoc (R : List (List Int)) (r : List Int) : allK (R ++ [r]) = allK R + isum r := by
  induction R with
  | nil => simp [allK]
  | cons x R ih => simp only [List.cons_append, allK, ih]; omega
/-- the threads at that place -/
def tskOf (r : List Int) : List Tsk := r.map fun x => ([ad x], 0)
structure ThrIs (x : Thr) (r : List Int) (k : Nat) : Prop where
  todo : x.1 = tskOf (r.drop k)
  vals : x.2.length = k
structure SumAt (s : St) (R : List (List Int)) (K : List Nat) : Prop where
  fits : Fits R K
  ps : s.ps = []
  m : s.m = [sumK R K]
  len : s.ts.length = R.length
  thr : ∀ (t : Nat) r k, R[t]? = some r → K[t]? = some k → ∃ x, s.ts[t]? = some x ∧ ThrIs x r k
theorem goS_tsk (r : List Int) (vs : List Int) : goS (tskOf r) vs = (tskOf r, vs) := by
  cases r with
  | nil => rfl
  | cons x r => exact goS_live (by simp)
theorem tskOf_drop {r : List Int} {k : Nat} {x : Int} (h : r[k]? = some x) : tskOf (r.drop k) = ([ad x], 0) :: tskOf (r.drop (k + 1)) := by
  obtain ⟨hl, rfl⟩ := List.getElem?_eq_some_iff.1 h
  rw [List.drop_eq_getElem_cons hl]
  rfl
theorem sum_wrap (a x : Int) (h : 0 ≤ a + x ∧ a + x ≤ 100000) : IntKind.u64.wrap (a + x) = a + x := by
  rw [IntKind.wrap_u64]; omega
/-- a pick of a thread that is not at its end -/
theorem SumAt.yes {s : St} {R : List (List Int)} {K : List Nat} {t k : Nat} {r : List Int} {x : Int} (h : SumAt s R K) (hR : ∀ r ∈ R, RowOk r) (h6 : R.length ≤ 6) (hr : R[t]? = some r) (hk : K[t]? = some k) (hx : r[k]? = some x) :
    ∃ s', pickS s (t : Int) 0 = (s', true) ∧ SumAt s' R (K.set t (k + 1)) ∧ s'.n = s.n + 1 := by
  obtain ⟨y, hy, h1, h2⟩ := h.thr t r k hr hk
  have hl := (List.getElem?_eq_some_iff.1 hx).1
  have hs := sumK_step hr hk hx
  have hf := h.fits.step hr hk hl
  have hb := sumK_bound hf hR
  rw [hs] at hb
  obtain ⟨l, vs⟩ := y
  dsimp only at h1 h2
  rw [tskOf_drop hx] at h1
  subst h1
  have ht : thrAt s.ts (t : Int) = (([ad x], 0) :: tskOf (r.drop (k + 1)), vs) := thrAt_yes hy
  have hc : canT s.ps (thrAt s.ts (t : Int)) 0 = true := by rw [ht]; simp [canT, canS]
  have hop : operS s.m (ad x) = ([sumK R K + x], sumK R K + x, true) := by
    rw [h.m]
    have e1 := sum_wrap (sumK R K) x (by omega)
    have e2 : wrap64 (sumK R K + x) = sumK R K + x := IntWalk.wrap64_in _ ⟨by omega, by omega⟩
    simp [operS, e1, e2]
  have hst : stepT s.m s.ps (thrAt s.ts (t : Int)) 0 = ([sumK R K + x], s.ps, (tskOf (r.drop (k + 1)), vs ++ [sumK R K + x])) := by
    rw [ht]
    simp only [stepT, stepS, hop]
    simp only [show ¬ ((3 : Nat) = 5 ∨ (3 : Nat) = 6) by omega, if_false, if_true, onS, goS_done, goS_tsk]
  refine ⟨_, by simp only [pickS, hc, if_true]; rfl, ?_, ?_⟩
  · rw [hst, Int.toNat_natCast]
    refine ⟨hf, h.ps, by rw [hs], by simpa using h.len, fun t' r' k' hr' hk' => ?_⟩
    have htl : t < s.ts.length := (List.getElem?_eq_some_iff.1 hy).1
    have hkl : t < K.length := (List.getElem?_eq_some_iff.1 hk).1
    by_cases e : t = t'
    · subst e
      rw [hr] at hr'; obtain rfl := Option.some.inj hr'
      rw [List.getElem?_set_self hkl] at hk'; obtain rfl := Option.some.inj hk'
      exact ⟨_, List.getElem?_set_self htl, rfl, by simp [h2]⟩
    · rw [List.getElem?_set_ne e] at hk'
      obtain ⟨y', h3, h4⟩ := h.thr t' r' k' hr' hk'
      exact ⟨y', by rw [List.getElem?_set_ne e]; exact h3, h4⟩
  · show s.n + countT s.m (thrAt s.ts (t : Int)) = s.n + 1
    rw [ht, h.m]
    simp [countT, stepCount, countS]
/-- a pick of a thread that is -/
theorem SumAt.no {s : St} {R : List (List Int)} {K : List Nat} {t : Nat} (h : SumAt s R K) (hn : ∀ r k, R[t]? = some r → K[t]? = some k → r.length ≤ k) : pickS s (t : Int) 0 = (s, false) := by
  have hc : canT s.ps (thrAt s.ts (t : Int)) 0 = false := by
    by_cases hlt : t < R.length
    · have hr : R[t]? = some R[t] := List.getElem?_eq_getElem hlt
      obtain ⟨k, hk, hkl⟩ := h.fits.at hr
      obtain ⟨y, hy, h1, h2⟩ := h.thr t _ k hr hk
      have := hn _ k hr hk
      rw [thrAt_yes hy]
      obtain ⟨l, vs⟩ := y
      dsimp only at h1
      rw [List.drop_eq_nil_of_le this] at h1
      subst h1
      rfl
    · rw [thrAt_no (.inr (by have := h.len; omega))]; rfl
  simp only [pickS, hc]; rfl
/-- all are done just when all was added -/
theorem SumAt.over {s : St} {R : List (List Int)} {K : List Nat} (h : SumAt s R K) : overS s = decide (cntK K = lenK R) := by
  have key : overS s = true ↔ cntK K = lenK R := by
    rw [h.fits.ended]
    unfold overS
    rw [List.all_eq_true]
    have hlen := h.len
    have hthr := h.thr
    have hfits := h.fits
    clear h
    generalize s.ts = T at *
    clear s
    induction R generalizing K T with
    | nil =>
      have : T = [] := List.eq_nil_of_length_eq_zero hlen
      subst this
      simp [Ended]
    | cons r R ih =>
      cases K with
      | nil => exact hfits.elim
      | cons k K =>
        cases T with
        | nil => simp at hlen
        | cons x T =>
          obtain ⟨y, hy, h1, h2⟩ := hthr 0 r k rfl rfl
          simp at hy; subst hy
          have ih' := ih hfits.2 T (by simpa using hlen) (fun t r' k' a b => by simpa using hthr (t + 1) r' k' (by simpa using a) (by simpa using b))
          simp only [List.mem_cons, forall_eq_or_imp, Ended]
          refine and_congr ?_ ih'
          rw [h1]
          have := hfits.1
          constructor
          · intro he
            have he2 : tskOf (r.drop k) = [] := by simpa using he
            have : (tskOf (r.drop k)).length = 0 := by rw [he2]; rfl
            simp [tskOf] at this
            omega
          · intro he
            subst he
            simp [tskOf]
  cases ho : overS s with
  | true => simp [key.1 ho]
  | false =>
    have : ¬ cntK K = lenK R := fun e => by rw [key.2 e] at ho; cases ho
    simp [this]
/-- who may take a step -/
theorem SumAt.able {s : St} {R : List (List Int)} {K : List Nat} (h : SumAt s R K) (t : Nat) : t ∈ ableS s ↔ ∃ r k, R[t]? = some r ∧ K[t]? = some k ∧ k < r.length := by
  unfold ableS sift
  rw [List.mem_filter, List.mem_range, h.len]
  constructor
  · rintro ⟨hlt, hc⟩
    have hr : R[t]? = some R[t] := List.getElem?_eq_getElem hlt
    obtain ⟨k, hk, hkl⟩ := h.fits.at hr
    refine ⟨_, k, hr, hk, ?_⟩
    obtain ⟨y, hy, h1, h2⟩ := h.thr t _ k hr hk
    rw [thrAt_yes hy] at hc
    obtain ⟨l, vs⟩ := y
    dsimp only at h1
    rcases Nat.lt_or_ge k (R[t]).length with h3 | h3
    · exact h3
    · rw [List.drop_eq_nil_of_le h3] at h1
      subst h1
      simp [canT, tskOf] at hc
  · rintro ⟨r, k, hr, hk, hl⟩
    have hlt := (List.getElem?_eq_some_iff.1 hr).1
    refine ⟨hlt, ?_⟩
    obtain ⟨y, hy, h1, h2⟩ := h.thr t r k hr hk
    rw [thrAt_yes hy]
    obtain ⟨l, vs⟩ := y
    dsimp only at h1
    rw [tskOf_drop (List.getElem?_eq_getElem hl)] at h1
    subst h1
    simp [canT, canS]
/-- all are at their ends where nobody may -/
theorem SumAt.end {s : St} {R : List (List Int)} {K : List Nat} (h : SumAt s R K) (ha : ableS s = []) : cntK K = lenK R := by
  rw [h.fits.ended]
  have hn : ∀ (t : Nat) (r : List Int) (k : Nat), R[t]? = some r → K[t]? = some k → ¬ k < r.length := fun t r k h1 h2 h3 => by
    have := (h.able t).2 ⟨r, k, h1, h2, h3⟩
    rw [ha] at this; simp at this
  have hf := h.fits
  clear h ha
  induction R generalizing K with
  | nil => cases K <;> trivial
  | cons r R ih =>
    cases K with
    | nil => trivial
    | cons k K =>
      have h0 := hn 0 r k rfl rfl
      have := hf.1
      exact ⟨by omega, ih (fun t r' k' a b => hn (t + 1) r' k' (by simpa using a) (by simpa using b)) hf.2⟩
end Go.Proofs.Ytgcmnaiiifaajaa
