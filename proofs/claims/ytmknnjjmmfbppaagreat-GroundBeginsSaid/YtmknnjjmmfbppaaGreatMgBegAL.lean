/- Plain facts on headers and their words: which headers are valid, the word of one, the header of a word; packing part by part comes to the same. No program is named here. -/
import Derived.Test.YtmknnjjmmfbppaaGreatMgBegAJ
import Derived.Test.YtmknnjjmmfbppaaGreatMgBegAK
import Derived.Deep.QuietTactic
import Derived.BigQuiet
import Derived.Test.YtmknnjjmmfbppaaGreatMgBegAA
import Derived.Deep.RegionHeld3
import Derived.Deep.DeepCutAuto
import Derived.Laws.EntriesVeiled
import Derived.Laws.Rows
import Derived.Laws.CopyOwn
import Derived.Deep.WholeRow
import Derived.Deep.CutBlock
namespace Go.Proofs.YtmknnjjmmfbppaaGreat
set_option linter.unusedVariables false
namespace Wd
open BitNat
/-- a header: tag, owner, count, monitor, generation, hash -/
structure Hd where
  t : Int
  o : Int
  c : Int
  m : Int
  g : Int
  h : Int
/-- what the words of a tag make of one number: a place (none: k = 0), the number of its condition, from where to where it may be -/
structure Prt where
  a : Nat
  k : Nat
  f : Nat
  lo : Int
  hi : Int
def pTag : Prt := ⟨0, 3, 2, 0, 4⟩
def pHash : Prt := ⟨3, 24, 3, 0, 16777215⟩
def pNo : Prt := ⟨0, 0, 1, 0, 0⟩
def pOwner : Prt := ⟨27, 15, 4, 0, 32765⟩
def pCount : Prt := ⟨42, 8, 5, 0, 255⟩
def pThin : Prt := ⟨42, 8, 6, 1, 255⟩
def pMon : Prt := ⟨27, 12, 7, 0, 4095⟩
def pGen : Prt := ⟨39, 12, 8, 0, 4095⟩
def p2 (t : Int) : Prt := if t = 2 then pOwner else if t = 3 then pOwner else pNo
def p3 (t : Int) : Prt := if t = 2 then pCount else if t = 3 then pThin else pNo
def p4 (t : Int) : Prt := if t = 4 then pMon else pNo
def p5 (t : Int) : Prt := if t = 4 then pGen else pNo
/-- one part more -/
def step (p : Prt) (n : Int) (w : Nat) : Option Nat := if p.lo ≤ n ∧ n ≤ p.hi then some (if p.k = 0 then w else put p.a p.k w n.toNat) else none
def packGo : List (Prt × Int) → Nat → Option Nat
  | [], w => some w
  | (p, n) :: r, w => (step p n w).bind (packGo r)
theorem packGo_snoc (l : List (Prt × Int)) (p : Prt) (n : Int) (w : Nat) : packGo (l ++ [(p, n)]) w = (packGo l w).bind (step p n) := by
  induction l generalizing w with
  | nil =>
    show (step p n w).bind (packGo []) = step p n w
    cases step p n w <;> rfl
  | cons q r ih =>
    obtain ⟨q, m⟩ := q
    simp only [List.cons_append, packGo]
    cases step q m w with
    | none => rfl
    | some v => exact ih v
theorem packGo_none (l r : List (Prt × Int)) (w : Nat) (h : packGo l w = none) : packGo (l ++ r) w = none := by
  induction l generalizing w with
  | nil => cases h
  | cons q s ih =>
    obtain ⟨q, m⟩ := q
    simp only [List.cons_append, packGo] at h ⊢
    cases hs : step q m w with
    | none => rfl
    | some v => rw [hs] at h; exact ih v h
/-- the parts of a tag with the numbers -/
def rows (t : Int) (x : Hd) : List (Prt × Int) := [(pTag, x.t), (pHash, x.h), (p2 t, x.o), (p3 t, x.c), (p4 t, x.m), (p5 t, x.g)]
def packP (x : Hd) : Option Nat := packGo (rows x.t x) 0
/-- what the document calls a valid header -/
def okP (x : Hd) : Prop := (0 ≤ x.t ∧ x.t ≤ 4) ∧ (0 ≤ x.h ∧ x.h ≤ 16777215) ∧
  (x.t = 2 ∨ x.t = 3 → (0 ≤ x.o ∧ x.o ≤ 32765) ∧ 0 ≤ x.c ∧ x.c ≤ 255) ∧ (x.t = 3 → 1 ≤ x.c) ∧ (x.t ≠ 2 → x.t ≠ 3 → x.o = 0 ∧ x.c = 0) ∧
  (x.t = 4 → (0 ≤ x.m ∧ x.m ≤ 4095) ∧ 0 ≤ x.g ∧ x.g ≤ 4095) ∧ (x.t ≠ 4 → x.m = 0 ∧ x.g = 0)
instance (x : Hd) : Decidable (okP x) := by unfold okP; infer_instance
def wordOf (x : Hd) : Nat := x.t.toNat + x.h.toNat * 8 + x.o.toNat * 134217728 + x.c.toNat * 4398046511104 + x.m.toNat * 134217728 + x.g.toNat * 549755813888
theorem word_lt (x : Hd) (h : okP x) : wordOf x < 2251799813685248 := by
  obtain ⟨h1, h2, h3, h4, h5, h6, h7⟩ := h
  unfold wordOf
  by_cases e2 : x.t = 2
  · have := h3 (.inl e2); have := h7 (by omega); omega
  · by_cases e3 : x.t = 3
    · have := h3 (.inr e3); have := h7 (by omega); omega
    · by_cases e4 : x.t = 4
      · have := h6 e4; have := h5 e2 e3; omega
      · have := h5 e2 e3; have := h7 e4; omega
/-- put where nothing is yet -/
theorem put_fresh (a k x v : Nat) (h : a + k ≤ 64) (hx : x < 2^a) : put a k x v = x + v * 2^a := by
  have hx64 : x < 18446744073709551616 := by
    have : 2^a ≤ 2^64 := Nat.pow_le_pow_right (by decide) (by omega)
    have e : (18446744073709551616 : Nat) = 2^64 := by decide
    omega
  have e1 : rest a k x = x := by
    unfold rest
    apply Nat.eq_of_testBit_eq
    intro j
    rw [Nat.testBit_and, not_bit _ _ (mask_lt a k h), mask_bit]
    by_cases hj : a ≤ j
    · rw [bit_high x j a hx hj]; rfl
    · have : j < 64 := by omega
      simp [hj, this]
  unfold put
  rw [e1, Nat.or_comm, Nat.mul_comm, ← Nat.two_pow_add_eq_or_of_lt hx, Nat.add_comm]
theorem step_yes (p : Prt) (n : Int) (w : Nat) (h : p.lo ≤ n ∧ n ≤ p.hi) : step p n w = some (if p.k = 0 then w else put p.a p.k w n.toNat) := if_pos h
theorem step_no (p : Prt) (n : Int) (w : Nat) (h : ¬ (p.lo ≤ n ∧ n ≤ p.hi)) : step p n w = none := if_neg h
theorem step_field (p : Prt) (n : Int) (w : Nat) (h : p.lo ≤ n ∧ n ≤ p.hi) (hk : p.k ≠ 0) (hlo : 0 ≤ p.lo) (hhi : p.hi < 2^p.k) (ha : p.a + p.k ≤ 64) (hw : w < 2^p.a) :
    step p n w = some (w + n.toNat * 2^p.a) := by
  rw [step_yes _ _ _ h, if_neg hk, put_fresh _ _ _ _ ha hw]
theorem pack_two (x : Hd) (r : List (Prt × Int)) : packGo ((pTag, x.t) :: (pHash, x.h) :: r) 0 =
    if (0 ≤ x.t ∧ x.t ≤ 4) ∧ (0 ≤ x.h ∧ x.h ≤ 16777215) then packGo r (x.t.toNat + x.h.toNat * 8) else none := by
  by_cases h1 : 0 ≤ x.t ∧ x.t ≤ 4
  · rw [packGo, step_field pTag x.t 0 h1 (by decide) (by decide) (by decide) (by decide) (by decide)]
    by_cases h2 : 0 ≤ x.h ∧ x.h ≤ 16777215
    · rw [if_pos ⟨h1, h2⟩]
      simp only [Option.bind, packGo]
      rw [step_field pHash x.h _ h2 (by decide) (by decide) (by decide) (by decide) (by show _ < 8; have e : 2^pTag.a = 1 := rfl; rw [e]; omega)]
      have e : 2^pTag.a = 1 := rfl
      have e' : 2^pHash.a = 8 := rfl
      rw [e, e', Nat.zero_add, Nat.mul_one]
    · rw [if_neg (by omega)]
      simp only [Option.bind, packGo]
      rw [step_no pHash _ _ h2]
  · rw [if_neg (by omega), packGo, step_no pTag _ _ h1]
    rfl
theorem pack_pair (p q : Prt) (n m : Int) (w : Nat) (hp : p.k ≠ 0) (hq : q.k ≠ 0) (hlo : 0 ≤ p.lo) (hhi : p.hi < 2^p.k) (hlo2 : 0 ≤ q.lo) (hhi2 : q.hi < 2^q.k) (ha : q.a = p.a + p.k) (hb : q.a + q.k ≤ 64) (hw : w < 2^p.a) :
    packGo [(p, n), (q, m)] w = if (p.lo ≤ n ∧ n ≤ p.hi) ∧ (q.lo ≤ m ∧ m ≤ q.hi) then some (w + n.toNat * 2^p.a + m.toNat * 2^q.a) else none := by
  by_cases h1 : p.lo ≤ n ∧ n ≤ p.hi
  · rw [packGo, step_field p n w h1 hp hlo hhi (by omega) hw]
    simp only [Option.bind, packGo]
    by_cases h2 : q.lo ≤ m ∧ m ≤ q.hi
    · rw [if_pos ⟨h1, h2⟩, step_field q m _ h2 hq hlo2 hhi2 hb]
      have h3 : (2 : Int)^p.k = ((2^p.k : Nat) : Int) := by simp
      have h4 : n.toNat + 1 ≤ 2^p.k := by omega
      have h5 : (n.toNat + 1) * 2^p.a ≤ 2^p.k * 2^p.a := Nat.mul_le_mul_right _ h4
      rw [ha, Nat.pow_add, Nat.mul_comm (2^p.a)]
      rw [Nat.add_mul] at h5
      omega
    · rw [if_neg (fun h => h2 h.2), step_no q m _ h2]
  · rw [if_neg (fun h => h1 h.1), packGo, step_no p n w h1]
    rfl
theorem step_none_zero (n : Int) (w : Nat) : step pNo n w = if n = 0 then some w else none := by
  by_cases h : n = 0
  · rw [if_pos h, step_yes pNo n w ⟨by subst h; decide, by subst h; decide⟩]
    rfl
  · rw [if_neg h, step_no pNo n w (by show ¬ ((0 : Int) ≤ n ∧ n ≤ 0); omega)]
theorem pack_none (n m : Int) (w : Nat) (r : List (Prt × Int)) : packGo ((pNo, n) :: (pNo, m) :: r) w = if n = 0 ∧ m = 0 then packGo r w else none := by
  rw [packGo, step_none_zero]
  by_cases h : n = 0
  · rw [if_pos h]
    simp only [Option.bind, packGo]
    rw [step_none_zero]
    by_cases h2 : m = 0
    · rw [if_pos h2, if_pos ⟨h, h2⟩]
    · rw [if_neg h2, if_neg (fun h => h2 h.2)]
  · rw [if_neg h, if_neg (fun h' => h h'.1)]
    rfl
theorem packGo_app (l r : List (Prt × Int)) (w : Nat) : packGo (l ++ r) w = (packGo l w).bind (packGo r) := by
  induction l generalizing w with
  | nil => rfl
  | cons q s ih =>
    obtain ⟨q, m⟩ := q
    simp only [List.cons_append, packGo]
    cases step q m w with
    | none => rfl
    | some v => exact ih v
theorem packP_eq (x : Hd) : packP x = if okP x then some (wordOf x) else none := by
  unfold packP rows
  rw [pack_two]
  rcases Classical.em (¬ ((0 ≤ x.t ∧ x.t ≤ 4) ∧ (0 ≤ x.h ∧ x.h ≤ 16777215))) with h12 | h12
  · rw [if_neg h12, if_neg (fun h => h12 ⟨h.1, h.2.1⟩)]
  replace h12 := Classical.not_not.1 h12
  rw [if_pos h12]
  have hw : x.t.toNat + x.h.toNat * 8 < 2^27 := by show _ < 134217728; omega
  generalize hA : x.t.toNat + x.h.toNat * 8 = A at *
  by_cases e4 : x.t = 4
  · have h2 : p2 x.t = pNo := by rw [e4]; rfl
    have h3 : p3 x.t = pNo := by rw [e4]; rfl
    have h4 : p4 x.t = pMon := by rw [e4]; rfl
    have h5 : p5 x.t = pGen := by rw [e4]; rfl
    rw [h2, h3, h4, h5, pack_none, pack_pair pMon pGen _ _ _ (by decide) (by decide) (by decide) (by decide) (by decide) (by decide) (by decide) (by decide) hw]
    by_cases h : okP x
    · have hk := h
      obtain ⟨h1, h2, h3, h4, h5, h6, h7⟩ := h
      have z := h5 (by omega) (by omega)
      have y := h6 e4
      rw [if_pos hk, if_pos z, if_pos ⟨y.1, y.2⟩]
      congr 1
      show A + x.m.toNat * 134217728 + x.g.toNat * 549755813888 = wordOf x
      unfold wordOf
      omega
    · rw [if_neg h]
      by_cases z : x.o = 0 ∧ x.c = 0
      · rw [if_pos z, if_neg]
        intro ⟨y1, y2⟩
        have y1 : 0 ≤ x.m ∧ x.m ≤ 4095 := y1
        have y2 : 0 ≤ x.g ∧ x.g ≤ 4095 := y2
        exact h ⟨h12.1, h12.2, by omega, by omega, fun _ _ => z, fun _ => ⟨y1, y2⟩, by omega⟩
      · rw [if_neg z]
  · have h4 : p4 x.t = pNo := if_neg e4
    have h5 : p5 x.t = pNo := if_neg e4
    rw [h4, h5, show [(p2 x.t, x.o), (p3 x.t, x.c), (pNo, x.m), (pNo, x.g)] = [(p2 x.t, x.o), (p3 x.t, x.c)] ++ [(pNo, x.m), (pNo, x.g)] from rfl, packGo_app]
    have hz : ∀ w, packGo [(pNo, x.m), (pNo, x.g)] w = if x.m = 0 ∧ x.g = 0 then some w else none := fun w => pack_none _ _ _ _
    by_cases e2 : x.t = 2
    · have h2 : p2 x.t = pOwner := by rw [e2]; rfl
      have h3 : p3 x.t = pCount := by rw [e2]; rfl
      rw [h2, h3, pack_pair pOwner pCount _ _ _ (by decide) (by decide) (by decide) (by decide) (by decide) (by decide) (by decide) (by decide) hw]
      by_cases h : okP x
      · have hk := h
        obtain ⟨h1, h2, h3, h4, h5, h6, h7⟩ := h
        have z := h7 e4
        have y := h3 (.inl e2)
        rw [if_pos hk, if_pos ⟨y.1, y.2⟩]
        simp only [Option.bind]
        rw [hz, if_pos z]
        congr 1
        show A + x.o.toNat * 134217728 + x.c.toNat * 4398046511104 = wordOf x
        unfold wordOf
        omega
      · rw [if_neg h]
        split
        · rename_i hy
          simp only [Option.bind]
          rw [hz, if_neg]
          intro z
          obtain ⟨y1, y2⟩ := hy
          have y1 : 0 ≤ x.o ∧ x.o ≤ 32765 := y1
          have y2 : 0 ≤ x.c ∧ x.c ≤ 255 := y2
          exact h ⟨h12.1, h12.2, fun _ => ⟨y1, y2⟩, by omega, by omega, by omega, fun _ => z⟩
        · rfl
    · by_cases e3 : x.t = 3
      · have h2 : p2 x.t = pOwner := by rw [e3]; rfl
        have h3 : p3 x.t = pThin := by rw [e3]; rfl
        rw [h2, h3, pack_pair pOwner pThin _ _ _ (by decide) (by decide) (by decide) (by decide) (by decide) (by decide) (by decide) (by decide) hw]
        by_cases h : okP x
        · have hk := h
          obtain ⟨h1, h2, h3, h4, h5, h6, h7⟩ := h
          have z := h7 (by omega)
          have y := h3 (.inr e3)
          have y3 := h4 e3
          rw [if_pos hk, if_pos ⟨y.1, y3, y.2.2⟩]
          simp only [Option.bind]
          rw [hz, if_pos z]
          congr 1
          show A + x.o.toNat * 134217728 + x.c.toNat * 4398046511104 = wordOf x
          unfold wordOf
          omega
        · rw [if_neg h]
          split
          · rename_i hy
            simp only [Option.bind]
            rw [hz, if_neg]
            intro z
            obtain ⟨y1, y2⟩ := hy
            have y1 : 0 ≤ x.o ∧ x.o ≤ 32765 := y1
            have y2 : 1 ≤ x.c ∧ x.c ≤ 255 := y2
            exact h ⟨h12.1, h12.2, fun _ => ⟨y1, by omega, y2.2⟩, fun _ => y2.1, by omega, by omega, fun _ => z⟩
          · rfl
      · have h2 : p2 x.t = pNo := by unfold p2; rw [if_neg e2, if_neg e3]
        have h3 : p3 x.t = pNo := by unfold p3; rw [if_neg e2, if_neg e3]
        rw [h2, h3, pack_none]
        by_cases h : okP x
        · have hk := h
          obtain ⟨h1, h2, h3, h4, h5, h6, h7⟩ := h
          have z := h7 e4
          have y := h5 e2 e3
          rw [if_pos hk, if_pos y]
          show packGo [(pNo, x.m), (pNo, x.g)] A = _
          rw [hz, if_pos z]
          congr 1
          unfold wordOf
          omega
        · rw [if_neg h]
          split
          · rename_i hy
            show packGo [(pNo, x.m), (pNo, x.g)] A = _
            rw [hz, if_neg]
            intro z
            exact h ⟨h12.1, h12.2, by omega, by omega, fun _ _ => hy, by omega, fun _ => z⟩
          · rfl
/-- what a part has in a word -/
def had (p : Prt) (w : Nat) : Int := if p.k = 0 then 0 else (BitNat.get p.a p.k w : Nat)
def tagOf (w : Nat) : Int := (BitNat.get 0 3 w : Nat)
/-- the numbers that a word holds -/
def hdIn (w : Nat) : Hd := ⟨tagOf w, had (p2 (tagOf w)) w, had (p3 (tagOf w)) w, had (p4 (tagOf w)) w, had (p5 (tagOf w)) w, had pHash w⟩
/-- the header of a word -/
def openP (w : Nat) : Option Hd := if packP (hdIn w) = some w then some (hdIn w) else none
theorem get_eq (a k w : Nat) : BitNat.get a k w = w / 2^a % 2^k := by unfold BitNat.get; rw [Nat.shiftRight_eq_div_pow]
theorem open_word (x : Hd) (h : okP x) : openP (wordOf x) = some x := by
  have hp := packP_eq x
  rw [if_pos h] at hp
  suffices hd : hdIn (wordOf x) = x by
    unfold openP
    rw [hd, if_pos hp]
  obtain ⟨h1, h2, h3, h4, h5, h6, h7⟩ := h
  have ht : tagOf (wordOf x) = x.t := by
    unfold tagOf
    rw [get_eq]
    show ((wordOf x / 1 % 8 : Nat) : Int) = x.t
    unfold wordOf
    by_cases e4 : x.t = 4
    · omega
    · omega
  have hh : had pHash (wordOf x) = x.h := by
    unfold had
    rw [if_neg (by decide), get_eq]
    show ((wordOf x / 8 % 16777216 : Nat) : Int) = x.h
    unfold wordOf
    omega
  unfold hdIn
  rw [ht, hh]
  by_cases e4 : x.t = 4
  · have z := h5 (by omega) (by omega)
    have y := h6 e4
    have q2 : p2 x.t = pNo := by rw [e4]; rfl
    have q3 : p3 x.t = pNo := by rw [e4]; rfl
    have q4 : p4 x.t = pMon := by rw [e4]; rfl
    have q5 : p5 x.t = pGen := by rw [e4]; rfl
    have a4 : had pMon (wordOf x) = x.m := by
      unfold had
      rw [if_neg (by decide), get_eq]
      show ((wordOf x / 134217728 % 4096 : Nat) : Int) = x.m
      unfold wordOf
      omega
    have a5 : had pGen (wordOf x) = x.g := by
      unfold had
      rw [if_neg (by decide), get_eq]
      show ((wordOf x / 549755813888 % 4096 : Nat) : Int) = x.g
      unfold wordOf
      omega
    rw [q2, q3, q4, q5, a4, a5, show had pNo (wordOf x) = 0 from rfl]
    obtain ⟨t, o, c, m, g, h⟩ := x
    simp only at z
    rw [z.1, z.2]
  · have z := h7 e4
    have q4 : p4 x.t = pNo := if_neg e4
    have q5 : p5 x.t = pNo := if_neg e4
    by_cases e23 : x.t = 2 ∨ x.t = 3
    · have y := h3 e23
      have a2 : had pOwner (wordOf x) = x.o := by
        unfold had
        rw [if_neg (by decide), get_eq]
        show ((wordOf x / 134217728 % 32768 : Nat) : Int) = x.o
        unfold wordOf
        omega
      have a3 : had pCount (wordOf x) = x.c := by
        unfold had
        rw [if_neg (by decide), get_eq]
        show ((wordOf x / 4398046511104 % 256 : Nat) : Int) = x.c
        unfold wordOf
        omega
      have q2 : p2 x.t = pOwner := by rcases e23 with e | e <;> (rw [e]; rfl)
      have q3 : had (p3 x.t) (wordOf x) = had pCount (wordOf x) := by rcases e23 with e | e <;> (rw [e]; rfl)
      rw [q2, q3, q4, q5, a2, a3, show had pNo (wordOf x) = 0 from rfl]
      obtain ⟨t, o, c, m, g, h⟩ := x
      simp only at z
      rw [z.1, z.2]
    · have y := h5 (by omega) (by omega)
      have q2 : p2 x.t = pNo := by unfold p2; rw [if_neg (by omega), if_neg (by omega)]
      have q3 : p3 x.t = pNo := by unfold p3; rw [if_neg (by omega), if_neg (by omega)]
      rw [q2, q3, q4, q5, show had pNo (wordOf x) = 0 from rfl]
      obtain ⟨t, o, c, m, g, h⟩ := x
      simp only at z y
      rw [z.1, z.2, y.1, y.2]
theorem open_some {w : Nat} {x : Hd} (h : openP w = some x) : okP x ∧ wordOf x = w := by
  unfold openP at h
  split at h
  · rename_i hp
    cases h
    rw [packP_eq] at hp
    split at hp
    · rename_i hk
      exact ⟨hk, by simpa using hp⟩
    · cases hp
  · cases h
theorem pack_some {x : Hd} {w : Nat} (h : packP x = some w) : okP x ∧ wordOf x = w := by
  rw [packP_eq] at h
  split at h
  · rename_i hk; exact ⟨hk, by simpa using h⟩
  · cases h
theorem pack_lt {x : Hd} {w : Nat} (h : packP x = some w) : w < 2251799813685248 := by
  obtain ⟨h1, h2⟩ := pack_some h
  rw [← h2]; exact word_lt x h1
theorem pack_none_iff {x : Hd} : packP x = none ↔ ¬ okP x := by
  rw [packP_eq]; split <;> simp_all
theorem open_none {w : Nat} (h : openP w = none) (x : Hd) (hk : okP x) : wordOf x ≠ w := by
  intro e
  rw [← e, open_word x hk] at h
  cases h
end Wd
end Go.Proofs.YtmknnjjmmfbppaaGreat
/- Contracts of package word: the conditions, the place of the tag, the numbers of a header, and back. -/
namespace Go.Proofs.YtmknnjjmmfbppaaGreat
open Go.ChangeShapes Go.WideShapes Go.ChangeAt Go.RowKit
set_option linter.unusedVariables false
open Wd
/-- does n lie from a to b? -/
def inB (a n b : Int) : Bool := decide (a ≤ n) && decide (n ≤ b)
theorem wbetween_any (a n b : Int) (w : World) : Calls Tryz.prog 221 #[.int .i64 a, .int .i64 n, .int .i64 b] w fun e w' => e = .returned (.bool (inB a n b)) ∧ w = w' := by
  by_cases h1 : a ≤ n
  · by_cases h2 : n ≤ b
    all_goals
      have h3 : inB a n b = decide (n ≤ b) := by simp [inB, h1]
      have H := Lib.hid h3
      clear h3
      go_enter Tryz.func221, Tryz.ntmps221
      go_wp2
      go_ret
      refine ⟨ret_bool ?_, rfl⟩
      rw [H.out]
      simp [h2]
  · have h3 : inB a n b = false := by simp [inB, h1]
    have H := Lib.hid h3
    clear h3
    go_enter Tryz.func221, Tryz.ntmps221
    go_wp2
    go_ret
    exact ⟨ret_bool H.out.symm, rfl⟩
/-- the condition's function -/
def fnOf : Nat → Nat
  | 1 => 218
  | 2 => 220
  | 3 => 222
  | 4 => 223
  | 5 => 224
  | 6 => 225
  | 7 => 226
  | _ => 227
theorem fit1 (n : Int) (w : World) : Calls Tryz.prog 218 #[.int .i64 n] w fun e w' => e = .returned (.bool (inB 0 n 0)) ∧ w = w' := by
  have h3 : inB 0 n 0 = (n == 0) := by
    rw [Bool.eq_iff_iff]; simp [inB]; omega
  have H := Lib.hid h3
  clear h3
  go_enter Tryz.func218, Tryz.ntmps218
  go_wp2
  go_ret
  exact ⟨ret_bool H.out.symm, rfl⟩
theorem fit2 (n : Int) (w : World) : Calls Tryz.prog 220 #[.int .i64 n] w fun e w' => e = .returned (.bool (inB 0 n 4)) ∧ w = w' := by
  go_enter Tryz.func220, Tryz.ntmps220
  go_wp2_with (go_at_call 221; refine (wbetween_any _ _ _ _).mono ?_; rintro e w' ⟨rfl, rfl⟩)
  go_ret
  exact ⟨rfl, rfl⟩
theorem fit3 (n : Int) (w : World) : Calls Tryz.prog 222 #[.int .i64 n] w fun e w' => e = .returned (.bool (inB 0 n 16777215)) ∧ w = w' := by
  go_enter Tryz.func222, Tryz.ntmps222
  go_wp2_with (go_at_call 221; refine (wbetween_any _ _ _ _).mono ?_; rintro e w' ⟨rfl, rfl⟩)
  go_ret
  exact ⟨rfl, rfl⟩
theorem fit4 (n : Int) (w : World) : Calls Tryz.prog 223 #[.int .i64 n] w fun e w' => e = .returned (.bool (inB 0 n 32765)) ∧ w = w' := by
  go_enter Tryz.func223, Tryz.ntmps223
  go_wp2_with (go_at_call 221; refine (wbetween_any _ _ _ _).mono ?_; rintro e w' ⟨rfl, rfl⟩)
  go_ret
  exact ⟨rfl, rfl⟩
theorem fit5 (n : Int) (w : World) : Calls Tryz.prog 224 #[.int .i64 n] w fun e w' => e = .returned (.bool (inB 0 n 255)) ∧ w = w' := by
  go_enter Tryz.func224, Tryz.ntmps224
  go_wp2_with (go_at_call 221; refine (wbetween_any _ _ _ _).mono ?_; rintro e w' ⟨rfl, rfl⟩)
  go_ret
  exact ⟨rfl, rfl⟩
theorem fit6 (n : Int) (w : World) : Calls Tryz.prog 225 #[.int .i64 n] w fun e w' => e = .returned (.bool (inB 1 n 255)) ∧ w = w' := by
  go_enter Tryz.func225, Tryz.ntmps225
  go_wp2_with (go_at_call 221; refine (wbetween_any _ _ _ _).mono ?_; rintro e w' ⟨rfl, rfl⟩)
  go_ret
  exact ⟨rfl, rfl⟩
theorem fit7 (n : Int) (w : World) : Calls Tryz.prog 226 #[.int .i64 n] w fun e w' => e = .returned (.bool (inB 0 n 4095)) ∧ w = w' := by
  go_enter Tryz.func226, Tryz.ntmps226
  go_wp2_with (go_at_call 221; refine (wbetween_any _ _ _ _).mono ?_; rintro e w' ⟨rfl, rfl⟩)
  go_ret
  exact ⟨rfl, rfl⟩
theorem fit8 (n : Int) (w : World) : Calls Tryz.prog 227 #[.int .i64 n] w fun e w' => e = .returned (.bool (inB 0 n 4095)) ∧ w = w' := by
  go_enter Tryz.func227, Tryz.ntmps227
  go_wp2_with (go_at_call 221; refine (wbetween_any _ _ _ _).mono ?_; rintro e w' ⟨rfl, rfl⟩)
  go_ret
  exact ⟨rfl, rfl⟩
/-- a part as the program uses it: its condition's function answers so, its place is valid and has room, or there is none -/
structure Good (p : Prt) : Prop where
  fit : ∀ (n : Int) (w : World), Calls Tryz.prog (fnOf p.f) #[.int .i64 n] w fun e w' => e = .returned (.bool (inB p.lo n p.hi)) ∧ w = w'
  none : p.k = 0 → p.a = 0
  room : p.a + p.k ≤ 64
  lo : 0 ≤ p.lo
  hi : p.k ≠ 0 → p.hi < 2^p.k
  wide : p.k ≤ 24
theorem good_tag : Good pTag := ⟨fit2, by decide, by decide, by decide, by decide, by decide⟩
theorem good_hash : Good pHash := ⟨fit3, by decide, by decide, by decide, by decide, by decide⟩
theorem good_no : Good pNo := ⟨fit1, by decide, by decide, by decide, by decide, by decide⟩
theorem good_owner : Good pOwner := ⟨fit4, by decide, by decide, by decide, by decide, by decide⟩
theorem good_count : Good pCount := ⟨fit5, by decide, by decide, by decide, by decide, by decide⟩
theorem good_thin : Good pThin := ⟨fit6, by decide, by decide, by decide, by decide, by decide⟩
theorem good_mon : Good pMon := ⟨fit7, by decide, by decide, by decide, by decide, by decide⟩
theorem good_gen : Good pGen := ⟨fit8, by decide, by decide, by decide, by decide, by decide⟩
theorem good_p2 (t : Int) : Good (p2 t) := by unfold p2; split; exact good_owner; split; exact good_owner; exact good_no
theorem good_p3 (t : Int) : Good (p3 t) := by unfold p3; split; exact good_count; split; exact good_thin; exact good_no
theorem good_p4 (t : Int) : Good (p4 t) := by unfold p4; split; exact good_mon; exact good_no
theorem good_p5 (t : Int) : Good (p5 t) := by unfold p5; split; exact good_gen; exact good_no
/-- a part's value in the model -/
abbrev prtV (p : Prt) : Value := .agg #[.int .i64 p.a, .int .i64 p.k, .func (.func (fnOf p.f)) #[] #[]]
abbrev prtsV (p0 p1 p2 p3 p4 p5 : Prt) : Value := .agg #[.int .i64 p0.a, .int .i64 p0.k, .func (.func (fnOf p0.f)) #[] #[], .int .i64 p1.a, .int .i64 p1.k, .func (.func (fnOf p1.f)) #[] #[],
  .int .i64 p2.a, .int .i64 p2.k, .func (.func (fnOf p2.f)) #[] #[], .int .i64 p3.a, .int .i64 p3.k, .func (.func (fnOf p3.f)) #[] #[],
  .int .i64 p4.a, .int .i64 p4.k, .func (.func (fnOf p4.f)) #[] #[], .int .i64 p5.a, .int .i64 p5.k, .func (.func (fnOf p5.f)) #[] #[]]
abbrev numsV (n0 n1 n2 n3 n4 n5 : Int) : Value := .agg #[.int .i64 n0, .int .i64 n1, .int .i64 n2, .int .i64 n3, .int .i64 n4, .int .i64 n5]
/-- a header's value: tag, owner, count, monitor, generation, hash -/
abbrev hdV (x : Hd) : Value := .agg #[.int .i64 x.t, .int .i64 x.o, .int .i64 x.c, .int .i64 x.m, .int .i64 x.g, .int .i64 x.h]
theorem tagPlace_any (w : World) : Calls Tryz.prog 219 #[] w fun e w' => e = .returned (fld 0 3) ∧ Below w.heap.size w w' := by
  go_enter Tryz.func219, Tryz.ntmps219
  go_wp2
  exact bodyPost_ret (v := fld 0 3) (by simp [results, Tryz.results219, go_sem]) rfl ⟨rfl, by go_grown⟩
theorem conv_small (n : Nat) (h : n < 16777216) : IntKind.i64.wrap (n : Int) = n := by
  rw [IntKind.wrap_i64]; omega
theorem tagIn_any (x : Nat) (w : World) (hx : x < 18446744073709551616) : Calls Tryz.prog 176 #[.int .u64 x] w fun e w' => e = .returned (.int .i64 (tagOf x)) ∧ Below w.heap.size w w' := by
  have hc : 0 ≤ ((BitNat.get 0 3 x : Nat) : Int) := by omega
  have hd : ((BitNat.get 0 3 x : Nat) : Int) ≤ 7 := by have := BitNat.get_lt 0 3 x; omega
  go_enter Tryz.func176, Tryz.ntmps176
  go_wp2_with (first
    | (go_at_call 219; refine (tagPlace_any _).mono ?_; rintro e w1 ⟨rfl, hb⟩)
    | (go_at_call 236; refine (of_yes 0 3 x _ (by decide) (by decide) hx).mono ?_; rintro e w2 ⟨rfl, hb2⟩))
  go_ret
  exact ⟨rfl, hb.trans (hb2.mono hb.size)⟩
theorem numbersOf_any (x : Hd) (w : World) : Calls Tryz.prog 169 #[hdV x] w fun e w' => e = .returned (numsV x.t x.h x.o x.c x.m x.g) ∧ Below w.heap.size w w' := by
  go_enter Tryz.func169, Tryz.ntmps169
  go_wp2
  exact bodyPost_ret (v := numsV x.t x.h x.o x.c x.m x.g) (by simp [results, Tryz.results169, go_sem]) rfl ⟨rfl, by go_grown⟩
theorem headerOf_any (x : Hd) (w : World) : Calls Tryz.prog 178 #[numsV x.t x.h x.o x.c x.m x.g] w fun e w' => e = .returned (hdV x) ∧ Below w.heap.size w w' := by
  go_enter Tryz.func178, Tryz.ntmps178
  go_wp2
  exact bodyPost_ret (v := hdV x) (by simp [results, Tryz.results178, go_sem]) rfl ⟨rfl, by go_grown⟩
end Go.Proofs.YtmknnjjmmfbppaaGreat
/- Contracts of package word: the parts of a tag. -/
namespace Go.Proofs.YtmknnjjmmfbppaaGreat
open Go.ChangeShapes Go.WideShapes Go.ChangeAt Go.RowKit
set_option linter.unusedVariables false
set_option linter.unusedSimpArgs false
open Wd
/-- six parts that are not set yet -/
abbrev zero18 : Array Value := #[.int .i64 0, .int .i64 0, .nilFunc, .int .i64 0, .int .i64 0, .nilFunc, .int .i64 0, .int .i64 0, .nilFunc, .int .i64 0, .int .i64 0, .nilFunc, .int .i64 0, .int .i64 0, .nilFunc, .int .i64 0, .int .i64 0, .nilFunc]
abbrev lits18 : Array Value := #[.int .i64 0, .int .i64 3, .func (.func 220) #[] #[], .int .i64 3, .int .i64 24, .func (.func 222) #[] #[], .int .i64 0, .int .i64 0, .func (.func 218) #[] #[], .int .i64 0, .int .i64 0, .func (.func 218) #[] #[], .int .i64 0, .int .i64 0, .func (.func 218) #[] #[], .int .i64 0, .int .i64 0, .func (.func 218) #[] #[]]
/-- within partsOf: the result's block, the box of what is not used -/
structure PInv (w0 : World) (w : World) : Prop where
  base : Below w0.heap.size w0 w
  res : Blk w w0.heap.size 226 zero18
  box : Blk w (w0.heap.size + 1) 225 #[.int .i64 0, .int .i64 0, .func (.func 218) #[] #[]]
theorem PInv.drew {w0 w : World} (h : PInv w0 w) : PInv w0 w.drew := ⟨h.base.drew, h.res, h.box⟩
theorem PInv.below {w0 w w' : World} (h : PInv w0 w) (hb : Below w.heap.size w w') : PInv w0 w' :=
  ⟨h.base.trans (hb.mono h.base.size), h.res.below hb h.res.lt, h.box.below hb h.box.lt⟩
theorem PInv.alloc {w0 w : World} (h : PInv w0 w) (o : Obj) : PInv w0 (w.alloc o) := h.below ((Below.refl _ w).alloc (Nat.le_refl _) o)
theorem PInv.set {w0 w : World} (h : PInv w0 w) {C : Nat} (hC : w0.heap.size + 1 < C) (j : Nat) (x : Value) : PInv w0 (w.setCell ⟨C, j, none⟩ x) :=
  ⟨h.base.setCell (p := ⟨C, j, none⟩) (by show w0.heap.size ≤ C; omega) x, h.res.far (by omega) j x, h.box.far (by omega) j x⟩
theorem PInv.row {w0 w : World} (h : PInv w0 w) {C : Nat} (hC : w0.heap.size + 1 < C) (x : Array Value) : PInv w0 (w.setRow C x) :=
  ⟨below_setRow h.base (by omega) x, h.res.rowFar (by omega) x, h.box.rowFar (by omega) x⟩
/-- what the region over the parts needs: the box of what is not used -/
theorem PInv.three {w0 w : World} (h : PInv w0 w) : w.cell? ⟨w0.heap.size + 1, 0, none⟩ = some (.int .i64 0) ∧ w.cell? ⟨w0.heap.size + 1, 1, none⟩ = some (.int .i64 0) ∧ w.cell? ⟨w0.heap.size + 1, 2, none⟩ = some (.func (.func 218) #[] #[]) :=
  ⟨h.box.cell 0 _ rfl, h.box.cell 1 _ rfl, h.box.cell 2 _ rfl⟩
abbrev partsArr (p0 p1 p2 p3 p4 p5 : Prt) : Array Value := #[.int .i64 p0.a, .int .i64 p0.k, .func (.func (fnOf p0.f)) #[] #[], .int .i64 p1.a, .int .i64 p1.k, .func (.func (fnOf p1.f)) #[] #[],
  .int .i64 p2.a, .int .i64 p2.k, .func (.func (fnOf p2.f)) #[] #[], .int .i64 p3.a, .int .i64 p3.k, .func (.func (fnOf p3.f)) #[] #[],
  .int .i64 p4.a, .int .i64 p4.k, .func (.func (fnOf p4.f)) #[] #[], .int .i64 p5.a, .int .i64 p5.k, .func (.func (fnOf p5.f)) #[] #[]]
theorem lits_one : lits18.all (·.oneCell') = true := by simp [lits18, Value.oneCell']
theorem parts_size : (Tryz.prog.info? 226).map (·.size) = some 18 := by kernel_rfl
set_option maxRecDepth 100000 in
set_option maxHeartbeats 4000000 in
theorem partsOf_any (t : Int) (w : World) : Calls Tryz.prog 168 #[.int .i64 t] w fun e w' => e = .returned (prtsV pTag pHash (p2 t) (p3 t) (p4 t) (p5 t)) ∧ Below w.heap.size w w' := by
  go_enter Tryz.func168, Tryz.ntmps168
  go_upto_region 2 with fail
  generalize hW : (w.alloc _).alloc _ = W
  have T : PInv w W := by
    rw [← hW]
    refine ⟨by go_grown, (Blk.new w _ _).alloc _, ?_⟩
    have := Blk.new (w.alloc (.cells zero18 226)) 225 #[.int .i64 0, .int .i64 0, .func (.func 218) #[] #[]]
    rw [World.size_alloc] at this
    exact this
  clear hW
  go_cut [4] (fun s4 wx => ∃ B : Nat, s4 = .pointer (some ⟨B, 0, none⟩) ∧ w.heap.size + 1 < B ∧ Blk wx B 226 lits18 ∧ PInv w wx)
  case first =>
    have hC : w.heap.size + 1 < W.heap.size := T.box.lt
    refine wp_region_noPanic ?_
    refine wp_region_held_drew (S := (fun w' => w'.cell? ⟨w.heap.size + 1, 0, none⟩ = some (.int .i64 0) ∧ w'.cell? ⟨w.heap.size + 1, 1, none⟩ = some (.int .i64 0) ∧ w'.cell? ⟨w.heap.size + 1, 2, none⟩ = some (.func (.func 218) #[] #[]))) (by kernel_rfl) T.drew.three (fun hHeld => ?_)
    refine wpAnyH_take (i := 2) (oi := { dst := some 10, op := Op.build 223 #[(0, Operand.const (Value.int IntKind.i64 3)), (1, Operand.const (Value.int IntKind.i64 24))], type := 223, pos := "word.go:90", after := #[], guard := none }) (v := ?_) rfl (by kernel_rfl) (by kernel_rfl) (by kernel_rfl) (fun _ _ _ h => h) (Or.inl ⟨by rfl, ?_⟩) (by assumption) ?_
    rotate_left
    · intro w hSw
      (try dsimp only at hSw)
      go_simp
      try with_reducible rfl
    (try dsimp only [Act.put]); (try simp only [Act.put, List.setIfInBounds_toArray, List.set_cons_zero, List.set_cons_succ])
    refine wpAnyH_take (i := 3) (oi := { dst := some 11, op := Op.build 225 #[(0, Operand.tmp 10), (1, Operand.func 222)], type := 225, pos := "word.go:90", after := #[{ on := 2, ground := Ground.data }], guard := none }) (v := ?_) rfl (by kernel_rfl) (by kernel_rfl) (by kernel_rfl) (fun _ _ _ h => h) (Or.inl ⟨by rfl, ?_⟩) (by assumption) ?_
    rotate_left
    · intro w hSw
      (try dsimp only at hSw)
      go_simp
      try with_reducible rfl
    (try dsimp only [Act.put]); (try simp only [Act.put, List.setIfInBounds_toArray, List.set_cons_zero, List.set_cons_succ])
    refine wpAnyH_take (i := 4) (oi := { dst := some 12, op := Op.load 225 (Operand.tmp 3), type := 225, pos := "word.go:90", after := #[], guard := none }) (v := ?_) rfl (by kernel_rfl) (by kernel_rfl) (by kernel_rfl) (fun _ _ _ h => h) (Or.inl ⟨by rfl, ?_⟩) (by assumption) ?_
    rotate_left
    · intro w hSw
      (try dsimp only at hSw)
      go_simp
      try with_reducible rfl
    (try dsimp only [Act.put]); (try simp only [Act.put, List.setIfInBounds_toArray, List.set_cons_zero, List.set_cons_succ])
    refine wpAnyH_take (i := 5) (oi := { dst := some 13, op := Op.load 225 (Operand.tmp 3), type := 225, pos := "word.go:90", after := #[], guard := none }) (v := ?_) rfl (by kernel_rfl) (by kernel_rfl) (by kernel_rfl) (fun _ _ _ h => h) (Or.inl ⟨by rfl, ?_⟩) (by assumption) ?_
    rotate_left
    · intro w hSw
      (try dsimp only at hSw)
      go_simp
      try with_reducible rfl
    (try dsimp only [Act.put]); (try simp only [Act.put, List.setIfInBounds_toArray, List.set_cons_zero, List.set_cons_succ])
    refine wpAnyH_take (i := 6) (oi := { dst := some 14, op := Op.load 225 (Operand.tmp 3), type := 225, pos := "word.go:90", after := #[], guard := none }) (v := ?_) rfl (by kernel_rfl) (by kernel_rfl) (by kernel_rfl) (fun _ _ _ h => h) (Or.inl ⟨by rfl, ?_⟩) (by assumption) ?_
    rotate_left
    · intro w hSw
      (try dsimp only at hSw)
      go_simp
      try with_reducible rfl
    (try dsimp only [Act.put]); (try simp only [Act.put, List.setIfInBounds_toArray, List.set_cons_zero, List.set_cons_succ])
    refine wpAnyH_take (i := 7) (oi := { dst := some 15, op := Op.load 225 (Operand.tmp 3), type := 225, pos := "word.go:90", after := #[], guard := none }) (v := ?_) rfl (by kernel_rfl) (by kernel_rfl) (by kernel_rfl) (fun _ _ _ h => h) (Or.inl ⟨by rfl, ?_⟩) (by assumption) ?_
    rotate_left
    · intro w hSw
      (try dsimp only at hSw)
      go_simp
      try with_reducible rfl
    (try dsimp only [Act.put]); (try simp only [Act.put, List.setIfInBounds_toArray, List.set_cons_zero, List.set_cons_succ])
    refine wpAnyH_ready (rs := [0, 9]) (by kernel_rfl) (by simp) ?_
    refine AllReadyH.cons rfl (fun K hK => ?_) (AllReadyH.cons rfl (fun K hK => ?_) AllReadyH.nil)
    go_simp
    refine (tagPlace_any _).mono ?_; rintro e w3 ⟨rfl, hb⟩; replace T := T.drew.below hb; have hC3 : w.heap.size + 1 < w3.heap.size := T.box.lt; clear hb
    go_wp2_with fail
    refine hK.out _ _ T.three (fun hHeld => ?_)
    clear hK K
    (try dsimp only [Act.put]); (try simp only [Act.put, List.setIfInBounds_toArray, List.set_cons_zero, List.set_cons_succ])
    refine wpAnyH_take (i := 1) (oi := { dst := some 9, op := Op.build 225 #[(0, Operand.tmp 8), (1, Operand.func 220)], type := 225, pos := "word.go:90", after := #[{ on := 0, ground := Ground.data }], guard := none }) (v := ?_) rfl (by kernel_rfl) (by kernel_rfl) (by kernel_rfl) (fun _ _ _ h => h) (Or.inl ⟨by rfl, ?_⟩) (by assumption) ?_
    rotate_left
    · intro w hSw
      (try dsimp only at hSw)
      go_simp
      try with_reducible rfl
    (try dsimp only [Act.put]); (try simp only [Act.put, List.setIfInBounds_toArray, List.set_cons_zero, List.set_cons_succ])
    refine wpAnyH_take (i := 8) (oi := { dst := some 16, op := Op.build 226 #[(0, Operand.tmp 9), (1, Operand.tmp 11), (2, Operand.tmp 12), (3, Operand.tmp 13), (4, Operand.tmp 14), (5, Operand.tmp 15)], type := 226, pos := "word.go:90", after := #[{ on := 1, ground := Ground.data }, { on := 3, ground := Ground.data }, { on := 4, ground := Ground.data }, { on := 5, ground := Ground.data }, { on := 6, ground := Ground.data }, { on := 7, ground := Ground.data }], guard := none }) (v := ?_) rfl (by kernel_rfl) (by kernel_rfl) (by kernel_rfl) (fun _ _ _ h => h) (Or.inl ⟨by rfl, ?_⟩) (by assumption) ?_
    rotate_left
    · intro w hSw
      (try dsimp only at hSw)
      go_simp
      try with_reducible rfl
    (try dsimp only [Act.put]); (try simp only [Act.put, List.setIfInBounds_toArray, List.set_cons_zero, List.set_cons_succ])
    refine wpAnyH_ready (rs := [9]) (by kernel_rfl) (by simp) ?_
    refine AllReadyH.cons rfl (fun K hK => ?_) AllReadyH.nil
    go_simp
    refine hK.out _ _ (T.alloc _).three (fun hHeld => ?_)
    clear hK K
    (try dsimp only [Act.put]); (try simp only [Act.put, List.setIfInBounds_toArray, List.set_cons_zero, List.set_cons_succ])
    refine wpAnyH_ready (rs := [10]) (by kernel_rfl) (by simp) ?_
    refine AllReadyH.cons rfl (fun K hK => ?_) AllReadyH.nil
    rw [if_pos (by rfl)]
    refine wp_store_row 226 _ _ rfl w3.heap.size lits18 rfl rfl 226 zero18 (Blk.new w3 _ _) parts_size rfl lits_one ?_
    refine hK.out _ _ ((T.alloc _).row hC3 _).three (fun hHeld => ?_)
    clear hK K
    (try dsimp only [Act.put]); (try simp only [Act.put, List.setIfInBounds_toArray, List.set_cons_zero, List.set_cons_succ])
    refine wpAnyH_done (by kernel_rfl) ?_ _
    refine NoPanic.normal ?_
    go_wp2_with fail
    go_meet
    exact ⟨w3.heap.size, rfl, hC3, (Blk.new w3 _ _).row _, (T.alloc _).row hC3 _⟩
    go_simp
    refine hK.out _ _ (T.drew.alloc _).three (fun hHeld => ?_)
    clear hK K
    (try dsimp only [Act.put]); (try simp only [Act.put, List.setIfInBounds_toArray, List.set_cons_zero, List.set_cons_succ])
    refine wpAnyH_ready (rs := [0]) (by kernel_rfl) (by simp) ?_
    refine AllReadyH.cons rfl (fun K hK => ?_) AllReadyH.nil
    go_simp
    refine (tagPlace_any _).mono ?_; rintro e w3 ⟨rfl, hb⟩
    have hZ : Blk w3 W.heap.size 226 zero18 := (Blk.new W 226 zero18).drew.below hb (by show W.heap.size < (W.heap.push _).size; simp)
    replace T := (T.alloc (.cells zero18 226)).drew.below hb; clear hb
    go_wp2_with fail
    refine hK.out _ _ T.three (fun hHeld => ?_)
    clear hK K
    (try dsimp only [Act.put]); (try simp only [Act.put, List.setIfInBounds_toArray, List.set_cons_zero, List.set_cons_succ])
    refine wpAnyH_take (i := 1) (oi := { dst := some 9, op := Op.build 225 #[(0, Operand.tmp 8), (1, Operand.func 220)], type := 225, pos := "word.go:90", after := #[{ on := 0, ground := Ground.data }], guard := none }) (v := ?_) rfl (by kernel_rfl) (by kernel_rfl) (by kernel_rfl) (fun _ _ _ h => h) (Or.inl ⟨by rfl, ?_⟩) (by assumption) ?_
    rotate_left
    · intro w hSw
      (try dsimp only at hSw)
      go_simp
      try with_reducible rfl
    (try dsimp only [Act.put]); (try simp only [Act.put, List.setIfInBounds_toArray, List.set_cons_zero, List.set_cons_succ])
    refine wpAnyH_take (i := 8) (oi := { dst := some 16, op := Op.build 226 #[(0, Operand.tmp 9), (1, Operand.tmp 11), (2, Operand.tmp 12), (3, Operand.tmp 13), (4, Operand.tmp 14), (5, Operand.tmp 15)], type := 226, pos := "word.go:90", after := #[{ on := 1, ground := Ground.data }, { on := 3, ground := Ground.data }, { on := 4, ground := Ground.data }, { on := 5, ground := Ground.data }, { on := 6, ground := Ground.data }, { on := 7, ground := Ground.data }], guard := none }) (v := ?_) rfl (by kernel_rfl) (by kernel_rfl) (by kernel_rfl) (fun _ _ _ h => h) (Or.inl ⟨by rfl, ?_⟩) (by assumption) ?_
    rotate_left
    · intro w hSw
      (try dsimp only at hSw)
      go_simp
      try with_reducible rfl
    (try dsimp only [Act.put]); (try simp only [Act.put, List.setIfInBounds_toArray, List.set_cons_zero, List.set_cons_succ])
    refine wpAnyH_ready (rs := [10]) (by kernel_rfl) (by simp) ?_
    refine AllReadyH.cons rfl (fun K hK => ?_) AllReadyH.nil
    rw [if_pos (by rfl)]
    refine wp_store_row 226 _ _ rfl W.heap.size lits18 rfl rfl 226 zero18 hZ parts_size rfl lits_one ?_
    refine hK.out _ _ (T.row hC _).three (fun hHeld => ?_)
    clear hK K
    (try dsimp only [Act.put]); (try simp only [Act.put, List.setIfInBounds_toArray, List.set_cons_zero, List.set_cons_succ])
    refine wpAnyH_done (by kernel_rfl) ?_ _
    refine NoPanic.normal ?_
    go_wp2_with fail
    go_meet
    exact ⟨W.heap.size, rfl, hC, hZ.row _, T.row hC _⟩
  case rest =>
    obtain ⟨B, rfl, hB, R, T⟩ := hcut
    go_upto_block 0 with fail
    go_cut [] (fun wx => Blk wx B 226 (partsArr pTag pHash (p2 t) (p3 t) (p4 t) (p5 t)) ∧ PInv w wx)
    case first =>
      by_cases h2 : t = 2
      · subst h2
        go_upto_region 7 with fail
        generalize hW : (wc.alloc (.cells #[.int .i64 27, .int .i64 15, .func (.func 223) #[] #[]] 225)).alloc (.cells #[.int .i64 42, .int .i64 8, .func (.func 224) #[] #[]] 225) = W
        have RW : Blk W B 226 lits18 := by rw [← hW]; exact (R.alloc _).alloc _
        have TW : PInv w W := by rw [← hW]; exact (T.alloc _).alloc _
        have O : Blk W wc.heap.size 225 #[.int .i64 27, .int .i64 15, .func (.func 223) #[] #[]] := by rw [← hW]; exact (Blk.new wc _ _).alloc _
        have C : Blk W (wc.heap.size + 1) 225 #[.int .i64 42, .int .i64 8, .func (.func 224) #[] #[]] := by rw [← hW]; have := Blk.new (wc.alloc (.cells #[.int .i64 27, .int .i64 15, .func (.func 223) #[] #[]] 225)) 225 #[.int .i64 42, .int .i64 8, .func (.func 224) #[] #[]]; rw [World.size_alloc] at this; exact this
        clear hW
        have e6 := RW.cell 6 _ rfl
        have e7 := RW.cell 7 _ rfl
        have e8 := RW.cell 8 _ rfl
        have e9 := RW.cell 9 _ rfl
        have e10 := RW.cell 10 _ rfl
        have e11 := RW.cell 11 _ rfl
        have fr := RW.free
        have o0 := O.cell 0 _ rfl
        have o1 := O.cell 1 _ rfl
        have o2 := O.cell 2 _ rfl
        have q0 := C.cell 0 _ rfl
        have q1 := C.cell 1 _ rfl
        have q2 := C.cell 2 _ rfl
        go_region
        go_wp2_with fail
        go_meet
        exact ⟨((((((RW.set 6 _).set 7 _).set 8 _).set 9 _).set 10 _).set 11 _).drew, ((((((TW.set hB 6 _).set hB 7 _).set hB 8 _).set hB 9 _).set hB 10 _).set hB 11 _).drew⟩
      · by_cases h3 : t = 3
        · subst h3
          go_upto_region 10 with fail
          generalize hW : (wc.alloc (.cells #[.int .i64 27, .int .i64 15, .func (.func 223) #[] #[]] 225)).alloc (.cells #[.int .i64 42, .int .i64 8, .func (.func 225) #[] #[]] 225) = W
          have RW : Blk W B 226 lits18 := by rw [← hW]; exact (R.alloc _).alloc _
          have TW : PInv w W := by rw [← hW]; exact (T.alloc _).alloc _
          have O : Blk W wc.heap.size 225 #[.int .i64 27, .int .i64 15, .func (.func 223) #[] #[]] := by rw [← hW]; exact (Blk.new wc _ _).alloc _
          have C : Blk W (wc.heap.size + 1) 225 #[.int .i64 42, .int .i64 8, .func (.func 225) #[] #[]] := by rw [← hW]; have := Blk.new (wc.alloc (.cells #[.int .i64 27, .int .i64 15, .func (.func 223) #[] #[]] 225)) 225 #[.int .i64 42, .int .i64 8, .func (.func 225) #[] #[]]; rw [World.size_alloc] at this; exact this
          clear hW
          have e6 := RW.cell 6 _ rfl
          have e7 := RW.cell 7 _ rfl
          have e8 := RW.cell 8 _ rfl
          have e9 := RW.cell 9 _ rfl
          have e10 := RW.cell 10 _ rfl
          have e11 := RW.cell 11 _ rfl
          have fr := RW.free
          have o0 := O.cell 0 _ rfl
          have o1 := O.cell 1 _ rfl
          have o2 := O.cell 2 _ rfl
          have q0 := C.cell 0 _ rfl
          have q1 := C.cell 1 _ rfl
          have q2 := C.cell 2 _ rfl
          go_region
          go_wp2_with fail
          go_meet
          exact ⟨((((((RW.set 6 _).set 7 _).set 8 _).set 9 _).set 10 _).set 11 _).drew, ((((((TW.set hB 6 _).set hB 7 _).set hB 8 _).set hB 9 _).set hB 10 _).set hB 11 _).drew⟩
        · by_cases h4 : t = 4
          · subst h4
            have RW : Blk ((wc.alloc (.cells #[.int .i64 27, .int .i64 15, .func (.func 223) #[] #[]] 225)).alloc (.cells #[.int .i64 42, .int .i64 8, .func (.func 224) #[] #[]] 225)) B 226 lits18 := (R.alloc _).alloc _
            have TW := (T.alloc (.cells #[.int .i64 27, .int .i64 15, .func (.func 223) #[] #[]] 225)).alloc (.cells #[.int .i64 42, .int .i64 8, .func (.func 224) #[] #[]] 225)
            go_upto_region 12 with fail
            generalize (wc.alloc (.cells #[.int .i64 27, .int .i64 15, .func (.func 223) #[] #[]] 225)).alloc (.cells #[.int .i64 42, .int .i64 8, .func (.func 224) #[] #[]] 225) = W at *
            have e12 := RW.cell 12 _ rfl
            have e13 := RW.cell 13 _ rfl
            have e14 := RW.cell 14 _ rfl
            have e15 := RW.cell 15 _ rfl
            have e16 := RW.cell 16 _ rfl
            have e17 := RW.cell 17 _ rfl
            have fr := RW.free
            go_wp2_with fail
            go_meet
            exact ⟨((((((RW.set 12 _).set 13 _).set 14 _).set 15 _).set 16 _).set 17 _), ((((((TW.set hB 12 _).set hB 13 _).set hB 14 _).set hB 15 _).set hB 16 _).set hB 17 _)⟩
          · go_wp2_with fail
            go_meet
            have q2 : p2 t = pNo := by unfold p2; rw [if_neg h2, if_neg h3]
            have q3 : p3 t = pNo := by unfold p3; rw [if_neg h2, if_neg h3]
            have q4 : p4 t = pNo := if_neg h4
            have q5 : p5 t = pNo := if_neg h4
            rw [q2, q3, q4, q5]
            exact ⟨(R.alloc _).alloc _, (T.alloc _).alloc _⟩
    case rest =>
      obtain ⟨R, T⟩ := hcut
      go_wp2_with (first
        | (refine wpList_load_row rfl 226 _ rfl B rfl 226 _ (0, 0) _ R Tryz.underlying226 rfl parts_size ?_)
        | (refine wpList_store_row rfl 226 _ _ rfl w.heap.size (partsArr pTag pHash (p2 t) (p3 t) (p4 t) (p5 t)) rfl rfl 226 zero18 T.res parts_size rfl (by simp [Value.oneCell']) ?_))
      exact bodyPost_ret (v := prtsV pTag pHash (p2 t) (p3 t) (p4 t) (p5 t)) (results_cell_row rfl _ _ w.heap.size 226 _ (0, 0) _ rfl (T.res.row _) Tryz.underlying226 rfl parts_size) rfl ⟨rfl, below_setRow T.base (Nat.le_refl _) _⟩
end Go.Proofs.YtmknnjjmmfbppaaGreat
