/- Layer 7's pure side: words of picks: what a word is, what a pick's word is, and that the two fit. No program is named here. -/
import Derived.Lib.ItoaNum
import Derived.Lib.AtoiTie
import Derived.Lib.ItoaMem
namespace Go.Proofs.YtkmadabpfialbaaGreatDoor
open Go
set_option linter.unusedVariables false
set_option linter.unusedSimpArgs false
abbrev Pk := Int × Int
def isDig (b : UInt8) : Bool := decide (48 ≤ b.toNat ∧ b.toNat ≤ 57)
def valFrom (a : Nat) (d : List UInt8) : Nat := d.foldl (fun a b => 10 * a + (b.toNat - 48)) a
def valOf (d : List UInt8) : Nat := valFrom 0 d
def canon (d : List UInt8) : Bool := decide (1 ≤ d.length ∧ d.length ≤ 5) && (decide (d.length = 1) || decide (d.head? ≠ some 48)) && d.all isDig
def splitK (w : List UInt8) : Int := if w.getLast? = some 116 then 1 else if w.getLast? = some 115 then 2 else 0
def splitD (w : List UInt8) : List UInt8 := if splitK w = 0 then w else w.dropLast
def wordP (w : List UInt8) : Option Pk := if canon (splitD w) then some ((valOf (splitD w) : Int), splitK w) else none
def letterB (k : Int) : List UInt8 := if k = 1 then [116] else if k = 2 then [115] else []
def okPk (p : Pk) : Bool := decide (0 ≤ p.1 ∧ p.1 ≤ 99999) && decide (0 ≤ p.2 ∧ p.2 ≤ 2)
def wordB (p : Pk) : List UInt8 := if okPk p then Lib.itoa p.1 ++ letterB p.2 else [45]
theorem snoc_ind {α : Type} {Q : List α → Prop} (h0 : Q []) (h1 : ∀ d b, Q d → Q (d ++ [b])) (l : List α) : Q l := by
  have h : ∀ r : List α, Q r.reverse := by
    intro r
    induction r with
    | nil => exact h0
    | cons a t ih => rw [List.reverse_cons]; exact h1 _ _ ih
  have := h l.reverse
  rwa [List.reverse_reverse] at this
theorem isDig_iff (b : UInt8) : isDig b = true ↔ 48 ≤ b.toNat ∧ b.toNat ≤ 57 := by simp [isDig]
theorem u8_back (b : UInt8) (n : Nat) (h : b.toNat = n) : b = UInt8.ofNat n := by
  rw [← h]; simp
theorem dig_back (b : UInt8) (h : isDig b = true) : UInt8.ofNat (48 + (b.toNat - 48)) = b := by
  have := (isDig_iff b).1 h
  rw [show 48 + (b.toNat - 48) = b.toNat by omega]; simp
theorem dig_of (n : Nat) (h : n < 10) : isDig (UInt8.ofNat (48 + n)) = true ∧ (UInt8.ofNat (48 + n)).toNat = 48 + n := by
  have e : (UInt8.ofNat (48 + n)).toNat = 48 + n := by rw [UInt8.toNat_ofNat']; omega
  exact ⟨by rw [isDig_iff, e]; omega, e⟩
theorem valFrom_snoc (a : Nat) (d : List UInt8) (b : UInt8) : valFrom a (d ++ [b]) = 10 * valFrom a d + (b.toNat - 48) := by simp [valFrom, List.foldl_append]
theorem valFrom_ge (d : List UInt8) : ∀ a, a ≤ valFrom a d := by
  induction d with
  | nil => intro a; exact Nat.le_refl _
  | cons b r ih => intro a; have := ih (10 * a + (b.toNat - 48)); simp only [valFrom, List.foldl_cons] at this ⊢; omega
theorem valOf_cons_ge (b : UInt8) (r : List UInt8) : b.toNat - 48 ≤ valOf (b :: r) := by
  have := valFrom_ge r (b.toNat - 48)
  simpa [valOf, valFrom] using this
theorem valOf_lt (d : List UInt8) : d.all isDig = true → valOf d < 10 ^ d.length := by
  refine snoc_ind (Q := fun d => d.all isDig = true → valOf d < 10 ^ d.length) (fun _ => by decide) (fun d b ih => ?_) d
  · intro h
    rw [List.all_append, Bool.and_eq_true] at h
    have h1 := ih h.1
    have h2 := (isDig_iff b).1 (by simpa using h.2)
    unfold valOf at h1 ⊢
    rw [valFrom_snoc, List.length_append, List.length_singleton, Nat.pow_succ]
    omega
theorem dec_small {u : Nat} (h : u < 10) : Lib.decDigits u = [UInt8.ofNat (48 + u)] := Lib.decDigits_one h
theorem dec_big {u : Nat} (h : ¬ u < 10) : Lib.decDigits u = Lib.decDigits (u / 10) ++ [UInt8.ofNat (48 + u % 10)] := by rw [Lib.decDigits, dif_neg h]
theorem dec_val (d : List UInt8) : d.all isDig = true → d ≠ [] → (d.length = 1 ∨ d.head? ≠ some 48) → Lib.decDigits (valOf d) = d := by
  refine snoc_ind (Q := fun d => d.all isDig = true → d ≠ [] → (d.length = 1 ∨ d.head? ≠ some 48) → Lib.decDigits (valOf d) = d) (fun _ h => absurd rfl h) (fun e b ih => ?_) d
  · intro h _ hh
    rw [List.all_append, Bool.and_eq_true] at h
    have hb : isDig b = true := by simpa using h.2
    have hb2 := (isDig_iff b).1 hb
    have ev : valOf (e ++ [b]) = 10 * valOf e + (b.toNat - 48) := valFrom_snoc 0 e b
    cases e with
    | nil =>
      have e1 : valOf [b] = b.toNat - 48 := by simp [valOf, valFrom]
      rw [List.nil_append, e1, dec_small (by omega), dig_back b hb]
    | cons c r =>
      have hc : (c :: r).head? ≠ some 48 := by
        rcases hh with h1 | h1
        · simp at h1
        · simpa using h1
      have hcd := (isDig_iff c).1 (by have := h.1; simp at this; exact this.1)
      have hc48 : c.toNat ≠ 48 := fun x => hc (by rw [List.head?_cons, u8_back c 48 x]; rfl)
      have hge := valOf_cons_ge c r
      rw [ev, dec_big (by omega), show (10 * valOf (c :: r) + (b.toNat - 48)) / 10 = valOf (c :: r) by omega, show (10 * valOf (c :: r) + (b.toNat - 48)) % 10 = b.toNat - 48 by omega, dig_back b hb, ih h.1 (by simp) (.inr hc)]
theorem dec_digs : ∀ u, (Lib.decDigits u).all isDig = true ∧ valOf (Lib.decDigits u) = u ∧ Lib.decDigits u ≠ [] ∧ (1 ≤ u → (Lib.decDigits u).head? ≠ some 48) := by
  intro u
  induction u using Nat.strongRecOn with
  | ind u ih =>
    by_cases h : u < 10
    · obtain ⟨h1, h2⟩ := dig_of u h
      rw [dec_small h]
      refine ⟨by rw [List.all_cons, h1]; rfl, by unfold valOf valFrom; rw [List.foldl_cons, List.foldl_nil, h2]; omega, by simp, fun h1 => ?_⟩
      rw [List.head?_cons]
      intro e
      have := congrArg UInt8.toNat (Option.some.inj e)
      rw [h2] at this
      have e48 : (48 : UInt8).toNat = 48 := by decide
      omega
    · obtain ⟨a1, a2, a3, a4⟩ := ih (u / 10) (by omega)
      obtain ⟨h1, h2⟩ := dig_of (u % 10) (by omega)
      rw [dec_big h]
      refine ⟨by rw [List.all_append, a1, List.all_cons, h1]; rfl, ?_, by simp, fun _ => ?_⟩
      · unfold valOf at a2 ⊢
        rw [valFrom_snoc, a2, h2]
        omega
      · have := a4 (by omega)
        cases hq : Lib.decDigits (u / 10) with
        | nil => exact absurd hq a3
        | cons c r => rw [hq] at this; simpa using this
theorem dec_len {u : Nat} (h : u < 100000) : (Lib.decDigits u).length ≤ 5 := by
  rw [Lib.decDigits_length]
  by_cases h1 : u < 10
  · rw [Lib.nDigits_small h1]; omega
  rw [Lib.nDigits_big h1]
  by_cases h2 : u / 10 < 10
  · rw [Lib.nDigits_small h2]; omega
  rw [Lib.nDigits_big h2]
  by_cases h3 : u / 10 / 10 < 10
  · rw [Lib.nDigits_small h3]; omega
  rw [Lib.nDigits_big h3]
  by_cases h4 : u / 10 / 10 / 10 < 10
  · rw [Lib.nDigits_small h4]; omega
  rw [Lib.nDigits_big h4, Lib.nDigits_small (by omega)]
  omega
theorem canon_dec {u : Nat} (h : u < 100000) : canon (Lib.decDigits u) = true := by
  obtain ⟨a1, a2, a3, a4⟩ := dec_digs u
  have a5 := dec_len h
  have a6 : 1 ≤ (Lib.decDigits u).length := List.length_pos_iff.2 a3
  unfold canon
  rw [a1]
  simp only [Bool.and_true, Bool.and_eq_true, decide_eq_true_eq, Bool.or_eq_true]
  refine ⟨⟨a6, a5⟩, ?_⟩
  by_cases h0 : u < 10
  · left; rw [dec_small h0]; rfl
  · right; exact a4 (by omega)
theorem canon_all {d : List UInt8} (h : canon d = true) : d.all isDig = true ∧ 1 ≤ d.length ∧ d.length ≤ 5 ∧ (d.length = 1 ∨ d.head? ≠ some 48) := by
  unfold canon at h
  simp only [Bool.and_eq_true, decide_eq_true_eq, Bool.or_eq_true] at h
  exact ⟨h.2, h.1.1.1, h.1.1.2, h.1.2⟩
theorem canon_val {d : List UInt8} (h : canon d = true) : valOf d ≤ 99999 ∧ Lib.decDigits (valOf d) = d := by
  obtain ⟨a1, a2, a3, a4⟩ := canon_all h
  have h1 := valOf_lt d a1
  have h2 : (10 : Nat) ^ d.length ≤ 10 ^ 5 := Nat.pow_le_pow_right (by decide) a3
  have h3 : (10 : Nat) ^ 5 = 100000 := by decide
  exact ⟨by omega, dec_val d a1 (fun e => by rw [e] at a2; simp at a2) a4⟩
theorem decFrom_val : ∀ (d : List UInt8) (a : Nat), d.all isDig = true → Lib.decFrom a d = some (valFrom a d)
  | [], a, _ => rfl
  | b :: r, a, h => by
    simp only [List.all_cons, Bool.and_eq_true] at h
    have hb := (isDig_iff b).1 h.1
    simp only [Lib.decFrom, Lib.digitVal, if_pos hb]
    rw [decFrom_val r _ h.2]
    simp [valFrom, Nat.mul_comm]
theorem atoi_canon {d : List UInt8} (h : canon d = true) : Lib.atoiAll d = .ok (valOf d : Int) := by
  obtain ⟨a1, a2, a3, a4⟩ := canon_all h
  rw [Lib.atoiAll_short d (by omega)]
  cases d with
  | nil => simp at a2
  | cons b r =>
    have hb := (isDig_iff b).1 (by simp at a1; exact a1.1)
    have n45 : (b == 45) = false := by
      rw [beq_eq_false_iff_ne]
      intro e; subst e
      have : (45 : UInt8).toNat = 45 := by decide
      omega
    have n43 : (b == 43) = false := by
      rw [beq_eq_false_iff_ne]
      intro e; subst e
      have : (43 : UInt8).toNat = 43 := by decide
      omega
    have hd : Lib.decNat (b :: r) = some (valOf (b :: r)) := by
      unfold Lib.decNat
      rw [List.isEmpty_cons]
      exact decFrom_val (b :: r) 0 a1
    simp only [Lib.atoi, n45, n43, hd]
    rfl
/- the program's way to a word's pick -/
def kindB (l : List UInt8) : Option Int := if l = [] then some 0 else if l = [116] then some 1 else if l = [115] then some 2 else none
def pickB (w : List UInt8) : Option Pk :=
  match kindB (w.dropWhile isDig), Lib.atoiAll (w.takeWhile isDig) with
  | some k, .ok v => if v ≤ 99999 ∧ Lib.itoa v = w.takeWhile isDig then some (v, k) else none
  | _, _ => none
theorem dig_not (b : UInt8) (n : Nat) (hn : ¬ (48 ≤ n ∧ n ≤ 57)) (h : isDig b = true) (hs : n < 256) : b ≠ UInt8.ofNat n := by
  intro e
  have := (isDig_iff b).1 h
  rw [e, UInt8.toNat_ofNat'] at this
  omega
theorem all_take (w : List UInt8) : (w.takeWhile isDig).all isDig = true := by
  rw [List.all_eq_true]
  intro x hx
  induction w with
  | nil => simp at hx
  | cons a t ih =>
    rw [List.takeWhile_cons] at hx
    split at hx
    · rcases List.mem_cons.1 hx with e | h
      · rw [e]; assumption
      · exact ih h
    · simp at hx
theorem last_dig {d : List UInt8} {b : UInt8} (h : d.all isDig = true) (hb : d.getLast? = some b) : isDig b = true := List.all_eq_true.1 h b (List.mem_of_getLast? hb)
theorem splitK_dig {d : List UInt8} (h : d.all isDig = true) : splitK d = 0 := by
  unfold splitK
  rw [if_neg, if_neg]
  · intro e; exact dig_not _ 115 (by omega) (last_dig h e) (by omega) rfl
  · intro e; exact dig_not _ 116 (by omega) (last_dig h e) (by omega) rfl
theorem takeWhile_app {d l : List UInt8} (h : d.all isDig = true) (hl : ∀ b, l.head? = some b → isDig b = false) : (d ++ l).takeWhile isDig = d ∧ (d ++ l).dropWhile isDig = l := by
  induction d with
  | nil =>
    cases l with
    | nil => exact ⟨rfl, rfl⟩
    | cons b r => have := hl b rfl; simp [List.takeWhile_cons, List.dropWhile_cons, this]
  | cons a t ih =>
    simp only [List.all_cons, Bool.and_eq_true] at h
    obtain ⟨h1, h2⟩ := ih h.2
    simp [List.takeWhile_cons, List.dropWhile_cons, h.1, h1, h2]
theorem letter_head (k : Int) : ∀ b, (letterB k).head? = some b → isDig b = false := by
  intro b hb
  unfold letterB at hb
  split at hb
  · simp at hb; subst hb; decide
  · split at hb
    · simp at hb; subst hb; decide
    · simp at hb
theorem split_app {d : List UInt8} (h : d.all isDig = true) (k : Int) (h0 : 0 ≤ k) (h2 : k ≤ 2) : splitK (d ++ letterB k) = k ∧ splitD (d ++ letterB k) = d := by
  obtain rfl | rfl | rfl : k = 0 ∨ k = 1 ∨ k = 2 := by omega
  · have e : letterB 0 = [] := rfl
    rw [e, List.append_nil]
    have := splitK_dig h
    exact ⟨this, by unfold splitD; rw [if_pos this]⟩
  · have e : letterB 1 = [116] := rfl
    rw [e]
    have : splitK (d ++ [116]) = 1 := by unfold splitK; rw [if_pos (by simp)]
    exact ⟨this, by unfold splitD; rw [this]; simp⟩
  · have e : letterB 2 = [115] := rfl
    rw [e]
    have : splitK (d ++ [115]) = 2 := by unfold splitK; rw [if_neg (by simp), if_pos (by simp)]
    exact ⟨this, by unfold splitD; rw [this]; simp⟩
theorem splitK_rng (w : List UInt8) : 0 ≤ splitK w ∧ splitK w ≤ 2 := by
  unfold splitK
  split
  · omega
  · split <;> omega
theorem split_back (w : List UInt8) : splitD w ++ letterB (splitK w) = w := by
  have hd : ∀ b : UInt8, w.getLast? = some b → w.dropLast ++ [b] = w := fun b hb => by
    obtain ⟨ys, rfl⟩ := List.getLast?_eq_some_iff.1 hb
    simp
  by_cases h1 : w.getLast? = some 116
  · have e : splitK w = 1 := by unfold splitK; rw [if_pos h1]
    unfold splitD
    rw [e, if_neg (by decide)]
    exact hd _ h1
  · by_cases h2 : w.getLast? = some 115
    · have e : splitK w = 2 := by unfold splitK; rw [if_neg h1, if_pos h2]
      unfold splitD
      rw [e, if_neg (by decide)]
      exact hd _ h2
    · have e : splitK w = 0 := by unfold splitK; rw [if_neg h1, if_neg h2]
      unfold splitD
      rw [e, if_pos rfl]
      exact List.append_nil _
theorem kindB_letter (k : Int) (h0 : 0 ≤ k) (h2 : k ≤ 2) : kindB (letterB k) = some k := by
  obtain rfl | rfl | rfl : k = 0 ∨ k = 1 ∨ k = 2 := by omega
  · rfl
  · rfl
  · rfl
theorem kindB_some {l : List UInt8} {k : Int} (h : kindB l = some k) : l = letterB k ∧ 0 ≤ k ∧ k ≤ 2 := by
  unfold kindB at h
  split at h
  · obtain rfl := Option.some.inj h; exact ⟨by assumption, by omega, by omega⟩
  · split at h
    · obtain rfl := Option.some.inj h; exact ⟨by assumption, by omega, by omega⟩
    · split at h
      · obtain rfl := Option.some.inj h; exact ⟨by assumption, by omega, by omega⟩
      · cases h
theorem pickB_eq (w : List UInt8) : pickB w = wordP w := by
  by_cases hc : canon (splitD w) = true
  · obtain ⟨a1, a2, a3, a4⟩ := canon_all hc
    obtain ⟨v1, v2⟩ := canon_val hc
    obtain ⟨k0, k2⟩ := splitK_rng w
    have hw := split_back w
    obtain ⟨t1, t2⟩ := takeWhile_app a1 (letter_head (splitK w))
    rw [hw] at t1 t2
    unfold pickB wordP
    rw [t1, t2, kindB_letter _ k0 k2, atoi_canon hc, if_pos hc]
    simp only
    rw [if_pos ⟨by omega, by rw [Lib.itoa_nonneg]; exact v2⟩]
  · unfold wordP
    rw [if_neg hc]
    unfold pickB
    split
    · rename_i k v hk hv
      obtain ⟨e1, e2, e3⟩ := kindB_some hk
      rw [if_neg]
      rintro ⟨hv1, hv2⟩
      apply hc
      have had := all_take w
      have hw : w.takeWhile isDig ++ letterB k = w := by rw [← e1]; exact List.takeWhile_append_dropWhile
      obtain ⟨s1, s2⟩ := split_app had k e2 e3
      rw [hw] at s1 s2
      rw [s2]
      have hv0 : 0 ≤ v := by
        rcases Int.lt_or_le v 0 with h | h
        · exfalso
          unfold Lib.itoa at hv2
          rw [if_pos h] at hv2
          have := List.all_eq_true.1 had 45 (by rw [← hv2]; exact List.mem_cons_self ..)
          exact absurd this (by decide)
        · exact h
      have e4 : Lib.itoa v = Lib.decDigits v.toNat := by unfold Lib.itoa; rw [if_neg (by omega)]
      rw [← hv2, e4]
      exact canon_dec (by omega)
    · rfl
theorem wordP_wordB {p : Pk} (h : okPk p = true) : wordP (wordB p) = some p := by
  have h' := h
  unfold okPk at h'
  simp only [Bool.and_eq_true, decide_eq_true_eq] at h'
  obtain ⟨⟨a0, a1⟩, b0, b1⟩ := h'
  have e : wordB p = Lib.decDigits p.1.toNat ++ letterB p.2 := by
    unfold wordB
    rw [if_pos h]
    unfold Lib.itoa
    rw [if_neg (by omega)]
  obtain ⟨d1, d2, d3, d4⟩ := dec_digs p.1.toNat
  obtain ⟨s1, s2⟩ := split_app d1 p.2 b0 b1
  unfold wordP
  rw [e, s1, s2, if_pos (canon_dec (by omega)), d2]
  obtain ⟨p1, p2⟩ := p
  simp only at a0 ⊢
  rw [Int.toNat_of_nonneg a0]
theorem wordP_ok {w : List UInt8} {p : Pk} (h : wordP w = some p) : okPk p = true ∧ w = wordB p := by
  unfold wordP at h
  split at h
  · rename_i hc
    obtain ⟨v1, v2⟩ := canon_val hc
    obtain ⟨k0, k2⟩ := splitK_rng w
    obtain rfl := Option.some.inj h
    have ho : okPk ((valOf (splitD w) : Int), splitK w) = true := by
      unfold okPk
      simp only [Bool.and_eq_true, decide_eq_true_eq]
      exact ⟨⟨by omega, by omega⟩, k0, k2⟩
    refine ⟨ho, ?_⟩
    unfold wordB
    rw [if_pos ho]
    simp only
    rw [Lib.itoa_nonneg, v2]
    exact (split_back w).symm
  · cases h
end Go.Proofs.YtkmadabpfialbaaGreatDoor
