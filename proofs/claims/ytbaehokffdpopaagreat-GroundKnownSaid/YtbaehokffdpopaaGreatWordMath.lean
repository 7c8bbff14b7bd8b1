/- Plain facts on headers and their words: which headers are valid, the word of one, the header of a word; packing part by part comes to the same. No program is named here. -/
import Derived.Test.YtbaehokffdpopaaGreatBitNat
namespace Go.Proofs.YtbaehokffdpopaaGreat
set_option linter.unusedVariables false
namespace Wd
open BitNat
/-- a header: tag, owner, count, monitor, generation, hash -/
structure Hd where
  t : Int
  o : Int
  c : Int
  m : Int
  g : Int
  h : Int
/-- what the words of a tag make of one number: a place (none: k = 0), the number of its condition, from where to where it may be -/
structure Prt where
  a : Nat
  k : Nat
  f : Nat
  lo : Int
  hi : Int
def pTag : Prt := ⟨0, 3, 2, 0, 4⟩
def pHash : Prt := ⟨3, 24, 3, 0, 16777215⟩
def pNo : Prt := ⟨0, 0, 1, 0, 0⟩
def pOwner : Prt := ⟨27, 15, 4, 0, 32765⟩
def pCount : Prt := ⟨42, 8, 5, 0, 255⟩
def pThin : Prt := ⟨42, 8, 6, 1, 255⟩
def pMon : Prt := ⟨27, 12, 7, 0, 4095⟩
def pGen : Prt := ⟨39, 12, 8, 0, 4095⟩
def p2 (t : Int) : Prt := if t = 2 then pOwner else if t = 3 then pOwner else pNo
def p3 (t : Int) : Prt := if t = 2 then pCount else if t = 3 then pThin else pNo
def p4 (t : Int) : Prt := if t = 4 then pMon else pNo
def p5 (t : Int) : Prt := if t = 4 then pGen else pNo
/-- one part more -/
def step (p : Prt) (n : Int) (w : Nat) : Option Nat := if p.lo ≤ n ∧ n ≤ p.hi then some (if p.k = 0 then w else put p.a p.k w n.toNat) else none
def packGo : List (Prt × Int) → Nat → Option Nat
  | [], w => some w
  | (p, n) :: r, w => (step p n w).bind (packGo r)
theorem packGo_snoc (l : List (Prt × Int)) (p : Prt) (n : Int) (w : Nat) : packGo (l ++ [(p, n)]) w = (packGo l w).bind (step p n) := by
  induction l generalizing w with
  | nil =>
    show (step p n w).bind (packGo []) = step p n w
    cases step p n w <;> rfl
  | cons q r ih =>
    obtain ⟨q, m⟩ := q
    simp only [List.cons_append, packGo]
    cases step q m w with
    | none => rfl
    | some v => exact ih v
theorem packGo_none (l r : List (Prt × Int)) (w : Nat) (h : packGo l w = none) : packGo (l ++ r) w = none := by
  induction l generalizing w with
  | nil => cases h
  | cons q s ih =>
    obtain ⟨q, m⟩ := q
    simp only [List.cons_append, packGo] at h ⊢
    cases hs : step q m w with
    | none => rfl
    | some v => rw [hs] at h; exact ih v h
/-- the parts of a tag with the numbers -/
def rows (t : Int) (x : Hd) : List (Prt × Int) := [(pTag, x.t), (pHash, x.h), (p2 t, x.o), (p3 t, x.c), (p4 t, x.m), (p5 t, x.g)]
def packP (x : Hd) : Option Nat := packGo (rows x.t x) 0
/-- what the document calls a valid header -/
def okP (x : Hd) : Prop := (0 ≤ x.t ∧ x.t ≤ 4) ∧ (0 ≤ x.h ∧ x.h ≤ 16777215) ∧
  (x.t = 2 ∨ x.t = 3 → (0 ≤ x.o ∧ x.o ≤ 32765) ∧ 0 ≤ x.c ∧ x.c ≤ 255) ∧ (x.t = 3 → 1 ≤ x.c) ∧ (x.t ≠ 2 → x.t ≠ 3 → x.o = 0 ∧ x.c = 0) ∧
  (x.t = 4 → (0 ≤ x.m ∧ x.m ≤ 4095) ∧ 0 ≤ x.g ∧ x.g ≤ 4095) ∧ (x.t ≠ 4 → x.m = 0 ∧ x.g = 0)
instance (x : Hd) : Decidable (okP x) := by unfold okP; infer_instance
def wordOf (x : Hd) : Nat := x.t.toNat + x.h.toNat * 8 + x.o.toNat * 134217728 + x.c.toNat * 4398046511104 + x.m.toNat * 134217728 + x.g.toNat * 549755813888
theorem word_lt (x : Hd) (h : okP x) : wordOf x < 2251799813685248 := by
  obtain ⟨h1, h2, h3, h4, h5, h6, h7⟩ := h
  unfold wordOf
  by_cases e2 : x.t = 2
  · have := h3 (.inl e2); have := h7 (by omega); omega
  · by_cases e3 : x.t = 3
    · have := h3 (.inr e3); have := h7 (by omega); omega
    · by_cases e4 : x.t = 4
      · have := h6 e4; have := h5 e2 e3; omega
      · have := h5 e2 e3; have := h7 e4; omega
/-- put where nothing is yet -/
theorem put_fresh (a k x v : Nat) (h : a + k ≤ 64) (hx : x < 2^a) : put a k x v = x + v * 2^a := by
  have hx64 : x < 18446744073709551616 := by
    have : 2^a ≤ 2^64 := Nat.pow_le_pow_right (by decide) (by omega)
    have e : (18446744073709551616 : Nat) = 2^64 := by decide
    omega
  have e1 : rest a k x = x := by
    unfold rest
    apply Nat.eq_of_testBit_eq
    intro j
    rw [Nat.testBit_and, not_bit _ _ (mask_lt a k h), mask_bit]
    by_cases hj : a ≤ j
    · rw [bit_high x j a hx hj]; rfl
    · have : j < 64 := by omega
      simp [hj, this]
  unfold put
  rw [e1, Nat.or_comm, Nat.mul_comm, ← Nat.two_pow_add_eq_or_of_lt hx, Nat.add_comm]
theorem step_yes (p : Prt) (n : Int) (w : Nat) (h : p.lo ≤ n ∧ n ≤ p.hi) : step p n w = some (if p.k = 0 then w else put p.a p.k w n.toNat) := if_pos h
theorem step_no (p : Prt) (n : Int) (w : Nat) (h : ¬ (p.lo ≤ n ∧ n ≤ p.hi)) : step p n w = none := if_neg h
theorem step_field (p : Prt) (n : Int) (w : Nat) (h : p.lo ≤ n ∧ n ≤ p.hi) (hk : p.k ≠ 0) (hlo : 0 ≤ p.lo) (hhi : p.hi < 2^p.k) (ha : p.a + p.k ≤ 64) (hw : w < 2^p.a) :
    step p n w = some (w + n.toNat * 2^p.a) := by
  rw [step_yes _ _ _ h, if_neg hk, put_fresh _ _ _ _ ha hw]
theorem pack_two (x : Hd) (r : List (Prt × Int)) : packGo ((pTag, x.t) :: (pHash, x.h) :: r) 0 =
    if (0 ≤ x.t ∧ x.t ≤ 4) ∧ (0 ≤ x.h ∧ x.h ≤ 16777215) then packGo r (x.t.toNat + x.h.toNat * 8) else none := by
  by_cases h1 : 0 ≤ x.t ∧ x.t ≤ 4
  · rw [packGo, step_field pTag x.t 0 h1 (by decide) (by decide) (by decide) (by decide) (by decide)]
    by_cases h2 : 0 ≤ x.h ∧ x.h ≤ 16777215
    · rw [if_pos ⟨h1, h2⟩]
      simp only [Option.bind, packGo]
      rw [step_field pHash x.h _ h2 (by decide) (by decide) (by decide) (by decide) (by show _ < 8; have e : 2^pTag.a = 1 := rfl; rw [e]; omega)]
      have e : 2^pTag.a = 1 := rfl
      have e' : 2^pHash.a = 8 := rfl
      rw [e, e', Nat.zero_add, Nat.mul_one]
    · rw [if_neg (by omega)]
      simp only [Option.bind, packGo]
      rw [step_no pHash _ _ h2]
  · rw [if_neg (by omega), packGo, step_no pTag _ _ h1]
    rfl
theorem pack_pair (p q : Prt) (n m : Int) (w : Nat) (hp : p.k ≠ 0) (hq : q.k ≠ 0) (hlo : 0 ≤ p.lo) (hhi : p.hi < 2^p.k) (hlo2 : 0 ≤ q.lo) (hhi2 : q.hi < 2^q.k) (ha : q.a = p.a + p.k) (hb : q.a + q.k ≤ 64) (hw : w < 2^p.a) :
    packGo [(p, n), (q, m)] w = if (p.lo ≤ n ∧ n ≤ p.hi) ∧ (q.lo ≤ m ∧ m ≤ q.hi) then some (w + n.toNat * 2^p.a + m.toNat * 2^q.a) else none := by
  by_cases h1 : p.lo ≤ n ∧ n ≤ p.hi
  · rw [packGo, step_field p n w h1 hp hlo hhi (by omega) hw]
    simp only [Option.bind, packGo]
    by_cases h2 : q.lo ≤ m ∧ m ≤ q.hi
    · rw [if_pos ⟨h1, h2⟩, step_field q m _ h2 hq hlo2 hhi2 hb]
      have h3 : (2 : Int)^p.k = ((2^p.k : Nat) : Int) := by simp
      have h4 : n.toNat + 1 ≤ 2^p.k := by omega
      have h5 : (n.toNat + 1) * 2^p.a ≤ 2^p.k * 2^p.a := Nat.mul_le_mul_right _ h4
      rw [ha, Nat.pow_add, Nat.mul_comm (2^p.a)]
      rw [Nat.add_mul] at h5
      omega
    · rw [if_neg (fun h => h2 h.2), step_no q m _ h2]
  · rw [if_neg (fun h => h1 h.1), packGo, step_no p n w h1]
    rfl
theorem step_none_zero (n : Int) (w : Nat) : step pNo n w = if n = 0 then some w else none := by
  by_cases h : n = 0
  · rw [if_pos h, step_yes pNo n w ⟨by subst h; decide, by subst h; decide⟩]
    rfl
  · rw [if_neg h, step_no pNo n w (by show ¬ ((0 : Int) ≤ n ∧ n ≤ 0); omega)]
theorem pack_none (n m : Int) (w : Nat) (r : List (Prt × Int)) : packGo ((pNo, n) :: (pNo, m) :: r) w = if n = 0 ∧ m = 0 then packGo r w else none := by
  rw [packGo, step_none_zero]
  by_cases h : n = 0
  · rw [if_pos h]
    simp only [Option.bind, packGo]
    rw [step_none_zero]
    by_cases h2 : m = 0
    · rw [if_pos h2, if_pos ⟨h, h2⟩]
    · rw [if_neg h2, if_neg (fun h => h2 h.2)]
  · rw [if_neg h, if_neg (fun h' => h h'.1)]
    rfl
theorem packGo_app (l r : List (Prt × Int)) (w : Nat) : packGo (l ++ r) w = (packGo l w).bind (packGo r) := by
  induction l generalizing w with
  | nil => rfl
  | cons q s ih =>
    obtain ⟨q, m⟩ := q
    simp only [List.cons_append, packGo]
    cases step q m w with
    | none => rfl
    | some v => exact ih v
theorem packP_eq (x : Hd) : packP x = if okP x then some (wordOf x) else none := by
  unfold packP rows
  rw [pack_two]
  rcases Classical.em (¬ ((0 ≤ x.t ∧ x.t ≤ 4) ∧ (0 ≤ x.h ∧ x.h ≤ 16777215))) with h12 | h12
  · rw [if_neg h12, if_neg (fun h => h12 ⟨h.1, h.2.1⟩)]
  replace h12 := Classical.not_not.1 h12
  rw [if_pos h12]
  have hw : x.t.toNat + x.h.toNat * 8 < 2^27 := by show _ < 134217728; omega
  generalize hA : x.t.toNat + x.h.toNat * 8 = A at *
  by_cases e4 : x.t = 4
  · have h2 : p2 x.t = pNo := by rw [e4]; rfl
    have h3 : p3 x.t = pNo := by rw [e4]; rfl
    have h4 : p4 x.t = pMon := by rw [e4]; rfl
    have h5 : p5 x.t = pGen := by rw [e4]; rfl
    rw [h2, h3, h4, h5, pack_none, pack_pair pMon pGen _ _ _ (by decide) (by decide) (by decide) (by decide) (by decide) (by decide) (by decide) (by decide) hw]
    by_cases h : okP x
    · have hk := h
      obtain ⟨h1, h2, h3, h4, h5, h6, h7⟩ := h
      have z := h5 (by omega) (by omega)
      have y := h6 e4
      rw [if_pos hk, if_pos z, if_pos ⟨y.1, y.2⟩]
      congr 1
      show A + x.m.toNat * 134217728 + x.g.toNat * 549755813888 = wordOf x
      unfold wordOf
      omega
    · rw [if_neg h]
      by_cases z : x.o = 0 ∧ x.c = 0
      · rw [if_pos z, if_neg]
        intro ⟨y1, y2⟩
        have y1 : 0 ≤ x.m ∧ x.m ≤ 4095 := y1
        have y2 : 0 ≤ x.g ∧ x.g ≤ 4095 := y2
        exact h ⟨h12.1, h12.2, by omega, by omega, fun _ _ => z, fun _ => ⟨y1, y2⟩, by omega⟩
      · rw [if_neg z]
  · have h4 : p4 x.t = pNo := if_neg e4
    have h5 : p5 x.t = pNo := if_neg e4
    rw [h4, h5, show [(p2 x.t, x.o), (p3 x.t, x.c), (pNo, x.m), (pNo, x.g)] = [(p2 x.t, x.o), (p3 x.t, x.c)] ++ [(pNo, x.m), (pNo, x.g)] from rfl, packGo_app]
    have hz : ∀ w, packGo [(pNo, x.m), (pNo, x.g)] w = if x.m = 0 ∧ x.g = 0 then some w else none := fun w => pack_none _ _ _ _
    by_cases e2 : x.t = 2
    · have h2 : p2 x.t = pOwner := by rw [e2]; rfl
      have h3 : p3 x.t = pCount := by rw [e2]; rfl
      rw [h2, h3, pack_pair pOwner pCount _ _ _ (by decide) (by decide) (by decide) (by decide) (by decide) (by decide) (by decide) (by decide) hw]
      by_cases h : okP x
      · have hk := h
        obtain ⟨h1, h2, h3, h4, h5, h6, h7⟩ := h
        have z := h7 e4
        have y := h3 (.inl e2)
        rw [if_pos hk, if_pos ⟨y.1, y.2⟩]
        simp only [Option.bind]
        rw [hz, if_pos z]
        congr 1
        show A + x.o.toNat * 134217728 + x.c.toNat * 4398046511104 = wordOf x
        unfold wordOf
        omega
      · rw [if_neg h]
        split
        · rename_i hy
          simp only [Option.bind]
          rw [hz, if_neg]
          intro z
          obtain ⟨y1, y2⟩ := hy
          have y1 : 0 ≤ x.o ∧ x.o ≤ 32765 := y1
          have y2 : 0 ≤ x.c ∧ x.c ≤ 255 := y2
          exact h ⟨h12.1, h12.2, fun _ => ⟨y1, y2⟩, by omega, by omega, by omega, fun _ => z⟩
        · rfl
    · by_cases e3 : x.t = 3
      · have h2 : p2 x.t = pOwner := by rw [e3]; rfl
        have h3 : p3 x.t = pThin := by rw [e3]; rfl
        rw [h2, h3, pack_pair pOwner pThin _ _ _ (by decide) (by decide) (by decide) (by decide) (by decide) (by decide) (by decide) (by decide) hw]
        by_cases h : okP x
        · have hk := h
          obtain ⟨h1, h2, h3, h4, h5, h6, h7⟩ := h
          have z := h7 (by omega)
          have y := h3 (.inr e3)
          have y3 := h4 e3
          rw [if_pos hk, if_pos ⟨y.1, y3, y.2.2⟩]
          simp only [Option.bind]
          rw [hz, if_pos z]
          congr 1
          show A + x.o.toNat * 134217728 + x.c.toNat * 4398046511104 = wordOf x
          unfold wordOf
          omega
        · rw [if_neg h]
          split
          · rename_i hy
            simp only [Option.bind]
            rw [hz, if_neg]
            intro z
            obtain ⟨y1, y2⟩ := hy
            have y1 : 0 ≤ x.o ∧ x.o ≤ 32765 := y1
            have y2 : 1 ≤ x.c ∧ x.c ≤ 255 := y2
            exact h ⟨h12.1, h12.2, fun _ => ⟨y1, by omega, y2.2⟩, fun _ => y2.1, by omega, by omega, fun _ => z⟩
          · rfl
      · have h2 : p2 x.t = pNo := by unfold p2; rw [if_neg e2, if_neg e3]
        have h3 : p3 x.t = pNo := by unfold p3; rw [if_neg e2, if_neg e3]
        rw [h2, h3, pack_none]
        by_cases h : okP x
        · have hk := h
          obtain ⟨h1, h2, h3, h4, h5, h6, h7⟩ := h
          have z := h7 e4
          have y := h5 e2 e3
          rw [if_pos hk, if_pos y]
          show packGo [(pNo, x.m), (pNo, x.g)] A = _
          rw [hz, if_pos z]
          congr 1
          unfold wordOf
          omega
        · rw [if_neg h]
          split
          · rename_i hy
            show packGo [(pNo, x.m), (pNo, x.g)] A = _
            rw [hz, if_neg]
            intro z
            exact h ⟨h12.1, h12.2, by omega, by omega, fun _ _ => hy, by omega, fun _ => z⟩
          · rfl
/-- what a part has in a word -/
def had (p : Prt) (w : Nat) : Int := if p.k = 0 then 0 else (BitNat.get p.a p.k w : Nat)
def tagOf (w : Nat) : Int := (BitNat.get 0 3 w : Nat)
/-- the numbers that a word holds -/
def hdIn (w : Nat) : Hd := ⟨tagOf w, had (p2 (tagOf w)) w, had (p3 (tagOf w)) w, had (p4 (tagOf w)) w, had (p5 (tagOf w)) w, had pHash w⟩
/-- the header of a word -/
def openP (w : Nat) : Option Hd := if packP (hdIn w) = some w then some (hdIn w) else none
theorem get_eq (a k w : Nat) : BitNat.get a k w = w / 2^a % 2^k := by unfold BitNat.get; rw [Nat.shiftRight_eq_div_pow]
theorem open_word (x : Hd) (h : okP x) : openP (wordOf x) = some x := by
  have hp := packP_eq x
  rw [if_pos h] at hp
  suffices hd : hdIn (wordOf x) = x by
    unfold openP
    rw [hd, if_pos hp]
  obtain ⟨h1, h2, h3, h4, h5, h6, h7⟩ := h
  have ht : tagOf (wordOf x) = x.t := by
    unfold tagOf
    rw [get_eq]
    show ((wordOf x / 1 % 8 : Nat) : Int) = x.t
    unfold wordOf
    by_cases e4 : x.t = 4
    · omega
    · omega
  have hh : had pHash (wordOf x) = x.h := by
    unfold had
    rw [if_neg (by decide), get_eq]
    show ((wordOf x / 8 % 16777216 : Nat) : Int) = x.h
    unfold wordOf
    omega
  unfold hdIn
  rw [ht, hh]
  by_cases e4 : x.t = 4
  · have z := h5 (by omega) (by omega)
    have y := h6 e4
    have q2 : p2 x.t = pNo := by rw [e4]; rfl
    have q3 : p3 x.t = pNo := by rw [e4]; rfl
    have q4 : p4 x.t = pMon := by rw [e4]; rfl
    have q5 : p5 x.t = pGen := by rw [e4]; rfl
    have a4 : had pMon (wordOf x) = x.m := by
      unfold had
      rw [if_neg (by decide), get_eq]
      show ((wordOf x / 134217728 % 4096 : Nat) : Int) = x.m
      unfold wordOf
      omega
    have a5 : had pGen (wordOf x) = x.g := by
      unfold had
      rw [if_neg (by decide), get_eq]
      show ((wordOf x / 549755813888 % 4096 : Nat) : Int) = x.g
      unfold wordOf
      omega
    rw [q2, q3, q4, q5, a4, a5, show had pNo (wordOf x) = 0 from rfl]
    obtain ⟨t, o, c, m, g, h⟩ := x
    simp only at z
    rw [z.1, z.2]
  · have z := h7 e4
    have q4 : p4 x.t = pNo := if_neg e4
    have q5 : p5 x.t = pNo := if_neg e4
    by_cases e23 : x.t = 2 ∨ x.t = 3
    · have y := h3 e23
      have a2 : had pOwner (wordOf x) = x.o := by
        unfold had
        rw [if_neg (by decide), get_eq]
        show ((wordOf x / 134217728 % 32768 : Nat) : Int) = x.o
        unfold wordOf
        omega
      have a3 : had pCount (wordOf x) = x.c := by
        unfold had
        rw [if_neg (by decide), get_eq]
        show ((wordOf x / 4398046511104 % 256 : Nat) : Int) = x.c
        unfold wordOf
        omega
      have q2 : p2 x.t = pOwner := by rcases e23 with e | e <;> (rw [e]; rfl)
      have q3 : had (p3 x.t) (wordOf x) = had pCount (wordOf x) := by rcases e23 with e | e <;> (rw [e]; rfl)
      rw [q2, q3, q4, q5, a2, a3, show had pNo (wordOf x) = 0 from rfl]
      obtain ⟨t, o, c, m, g, h⟩ := x
      simp only at z
      rw [z.1, z.2]
    · have y := h5 (by omega) (by omega)
      have q2 : p2 x.t = pNo := by unfold p2; rw [if_neg (by omega), if_neg (by omega)]
      have q3 : p3 x.t = pNo := by unfold p3; rw [if_neg (by omega), if_neg (by omega)]
      rw [q2, q3, q4, q5, show had pNo (wordOf x) = 0 from rfl]
      obtain ⟨t, o, c, m, g, h⟩ := x
      simp only at z y
      rw [z.1, z.2, y.1, y.2]
theorem open_some {w : Nat} {x : Hd} (h : openP w = some x) : okP x ∧ wordOf x = w := by
  unfold openP at h
  split at h
  · rename_i hp
    cases h
    rw [packP_eq] at hp
    split at hp
    · rename_i hk
      exact ⟨hk, by simpa using hp⟩
    · cases hp
  · cases h
theorem pack_some {x : Hd} {w : Nat} (h : packP x = some w) : okP x ∧ wordOf x = w := by
  rw [packP_eq] at h
  split at h
  · rename_i hk; exact ⟨hk, by simpa using h⟩
  · cases h
theorem pack_lt {x : Hd} {w : Nat} (h : packP x = some w) : w < 2251799813685248 := by
  obtain ⟨h1, h2⟩ := pack_some h
  rw [← h2]; exact word_lt x h1
theorem pack_none_iff {x : Hd} : packP x = none ↔ ¬ okP x := by
  rw [packP_eq]; split <;> simp_all
theorem open_none {w : Nat} (h : openP w = none) (x : Hd) (hk : okP x) : wordOf x ≠ w := by
  intro e
  rw [← e, open_word x hk] at h
  cases h
end Wd
end Go.Proofs.YtbaehokffdpopaaGreat
