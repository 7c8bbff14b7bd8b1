/- Layer 7's pure side: the words between blanks, by bytes; that strings.FieldsFunc at the blank gives them; what is parsed. No program is named here. -/
import Derived.Test.YtkmadabpfialbaaGreatDoorScWord
import Derived.Lib.FieldsP
import Derived.Lib.SpaceUEq
namespace Go.Proofs.YtkmadabpfialbaaGreatDoor
open Go Go.Lib
set_option linter.unusedVariables false
set_option linter.unusedSimpArgs false
def fieldsGo (cur : List UInt8) : List UInt8 → List (List UInt8)
  | [] => if cur = [] then [] else [cur]
  | b :: l => if b = 32 then (if cur = [] then fieldsGo [] l else cur :: fieldsGo [] l) else fieldsGo (cur ++ [b]) l
def fieldsB (l : List UInt8) : List (List UInt8) := fieldsGo [] l
def blankP (x : Nat) : Bool := x == 32
theorem fieldsGo_skip : ∀ (k : Nat) (cur l : List UInt8), k ≤ l.length → (∀ j, j < k → l.getD j 0 ≠ 32) → fieldsGo cur l = fieldsGo (cur ++ l.take k) (l.drop k)
  | 0, cur, l, _, _ => by simp
  | k + 1, cur, [], h, _ => by simp at h
  | k + 1, cur, b :: t, h, hz => by
    have h0 : b ≠ 32 := by simpa using hz 0 (by omega)
    rw [fieldsGo, if_neg h0, fieldsGo_skip k (cur ++ [b]) t (by simp at h; omega) (fun j hj => by simpa using hz (j + 1) (by omega))]
    simp
theorem decodeN_blank (n b0 b1 b2 b3 : Nat) : ((decodeN n b0 b1 b2 b3).1 = 32 → b0 = 32) ∧ (b0 = 32 → decodeN n b0 b1 b2 b3 = (32, 1)) := by
  refine ⟨?_, fun h => by subst h; unfold decodeN; rw [if_pos (by omega)]⟩
  unfold decodeN
  repeat' split
  all_goals (simp only; omega)
theorem u8_ne32 (b : UInt8) (h : b.toNat ≠ 32) : b ≠ 32 := fun e => h (by rw [e]; rfl)
theorem u8_eq32 (b : UInt8) (h : b.toNat = 32) : b = 32 := u8_back b 32 h
theorem blank_at (s : ByteArray) (pos : Nat) (hp : pos < s.size) : (blankP (Utf8.decode s pos).1 = true → s.data.toList.getD pos 0 = 32 ∧ (Utf8.decode s pos).2 = 1) ∧
    (blankP (Utf8.decode s pos).1 = false → ∀ j, j < (Utf8.decode s pos).2 → s.data.toList.getD (pos + j) 0 ≠ 32) := by
  rw [decode_N]
  have hb := decodeN_blank (s.data.toList.length - pos) (s.data.toList.getD pos 0).toNat (s.data.toList.getD (pos + 1) 0).toNat (s.data.toList.getD (pos + 2) 0).toNat (s.data.toList.getD (pos + 3) 0).toNat
  obtain ⟨c2, c3, c4, c5⟩ := decodeN_conts (s.data.toList.length - pos) (s.data.toList.getD pos 0).toNat (s.data.toList.getD (pos + 1) 0).toNat (s.data.toList.getD (pos + 2) 0).toNat (s.data.toList.getD (pos + 3) 0).toNat
  refine ⟨fun h => ?_, fun h j hj => ?_⟩
  · have h1 : (decodeN (s.data.toList.length - pos) (s.data.toList.getD pos 0).toNat (s.data.toList.getD (pos + 1) 0).toNat (s.data.toList.getD (pos + 2) 0).toNat (s.data.toList.getD (pos + 3) 0).toNat).1 = 32 := by simpa [blankP] using h
    have h2 := hb.1 h1
    exact ⟨u8_eq32 _ h2, by rw [hb.2 h2]⟩
  · rcases j with _ | _ | _ | _ | j
    · refine u8_ne32 _ (fun e => ?_)
      have := hb.2 e
      rw [this] at h
      simp [blankP] at h
    · refine u8_ne32 _ (fun e => ?_)
      have e2 : (s.data.toList.getD (pos + 1) 0).toNat = 32 := e
      have := (c2 (by omega)).1
      omega
    · refine u8_ne32 _ (fun e => ?_)
      have e2 : (s.data.toList.getD (pos + 2) 0).toNat = 32 := e
      have := (c3 (by omega)).1
      omega
    · refine u8_ne32 _ (fun e => ?_)
      have e2 : (s.data.toList.getD (pos + 3) 0).toNat = 32 := e
      have := (c4 (by omega)).1
      omega
    · omega
theorem spansB_eq (s : ByteArray) : ∀ (f pos : Nat) (st : Option Nat) (acc : List (Nat × Nat)), s.size ≤ pos + f → pos ≤ s.size → (∀ a, st = some a → a < pos) →
    acc.map (fun p => pieceU s.data.toList p.1 p.2) ++ fieldsGo (openPiece s.data.toList st pos) (s.data.toList.drop pos) = (closeSpans s (spansFromP blankP s f pos st acc)).map (fun p => pieceU s.data.toList p.1 p.2)
  | 0, pos, st, acc, h, hp, hst => by
    obtain rfl : pos = s.size := by omega
    have hd : s.data.toList.drop s.size = [] := List.drop_eq_nil_of_le (by rw [← size_eq]; exact Nat.le_refl _)
    rw [hd]
    cases st with
    | none => simp [spansFromP, closeSpans, openPiece, fieldsGo]
    | some a =>
      have := pieceU_ne s.data.toList a s.size (hst a rfl) (by rw [← size_eq]; exact Nat.le_refl _)
      simp [spansFromP, closeSpans, openPiece, this, fieldsGo]
  | f + 1, pos, st, acc, h, hp, hst => by
    by_cases hlt : pos < s.size
    · have hw := width_pos s pos
      have hwn : pos + (Utf8.decode s pos).2 ≤ s.size := by
        have := decodeN_le_n' (s.size - pos) (s.get! pos).toNat (s.get! (pos + 1)).toNat (s.get! (pos + 2)).toNat (s.get! (pos + 3)).toNat (by omega)
        rw [← decode_at] at this
        omega
      obtain ⟨hb1, hb2⟩ := blank_at s pos hlt
      simp only [spansFromP, if_pos hlt]
      cases hsp : blankP (Utf8.decode s pos).1 with
      | true =>
        obtain ⟨e1, e2⟩ := hb1 hsp
        have hll : pos < s.data.toList.length := by rw [← size_eq]; exact hlt
        have hdr : s.data.toList.drop pos = 32 :: s.data.toList.drop (pos + 1) := by
          rw [List.drop_eq_getElem_cons hll]
          rw [List.getD_eq_getElem?_getD, List.getElem?_eq_getElem hll] at e1
          simp only [Option.getD_some] at e1
          rw [e1]
        rw [hdr]
        simp only [fieldsGo, if_true, e2]
        rw [e2] at hwn
        cases st with
        | none =>
          have ih := spansB_eq s f (pos + 1) none acc (by omega) hwn (fun a h => by cases h)
          simpa [openPiece] using ih
        | some a =>
          have hpn := pieceU_ne s.data.toList a pos (hst a rfl) (by rw [← size_eq]; omega)
          have ih := spansB_eq s f (pos + 1) none (acc ++ [(a, pos)]) (by omega) hwn (fun a h => by cases h)
          simpa [openPiece, hpn] using ih
      | false =>
        have hz := hb2 hsp
        simp only [Bool.false_eq_true, if_false]
        rw [fieldsGo_skip (Utf8.decode s pos).2 _ (s.data.toList.drop pos) (by rw [List.length_drop, ← size_eq]; omega) (fun j hj => by rw [getD_dropU]; exact hz j hj), List.drop_drop]
        cases st with
        | none =>
          have ih := spansB_eq s f (pos + (Utf8.decode s pos).2) (some pos) acc (by omega) hwn (fun a h => by cases h; omega)
          have e : ([] : List UInt8) ++ (s.data.toList.drop pos).take (Utf8.decode s pos).2 = pieceU s.data.toList pos (pos + (Utf8.decode s pos).2) := by
            unfold pieceU
            rw [List.nil_append, Nat.add_sub_cancel_left]
          simp only [openPiece] at ih ⊢
          rw [e]
          exact ih
        | some a =>
          have ih := spansB_eq s f (pos + (Utf8.decode s pos).2) (some a) acc (by omega) hwn (fun b h => by cases h; have := hst a rfl; omega)
          simp only [openPiece] at ih ⊢
          rw [pieceU_grow _ _ _ _ (Nat.le_of_lt (hst a rfl))]
          exact ih
    · obtain rfl : pos = s.size := by omega
      have hd : s.data.toList.drop s.size = [] := List.drop_eq_nil_of_le (by rw [← size_eq]; exact Nat.le_refl _)
      rw [hd, spansFromP_end blankP s _ _ _ _ hlt]
      cases st with
      | none => simp [closeSpans, openPiece, fieldsGo]
      | some a =>
        have := pieceU_ne s.data.toList a s.size (hst a rfl) (by rw [← size_eq]; exact Nat.le_refl _)
        simp [closeSpans, openPiece, this, fieldsGo]
/-- what strings.FieldsFunc gives at the blank: the words by bytes -/
theorem goFields_blank (s : ByteArray) : (goFieldsP blankP s).map (·.data.toList) = fieldsB s.data.toList := by
  have h := spansB_eq s s.size 0 none [] (by omega) (Nat.zero_le _) (fun a h => by cases h)
  simp only [List.map_nil, List.nil_append, openPiece, List.drop_zero] at h
  unfold fieldsB goFieldsP spansOfP
  rw [h, List.map_map]
  congr 1
  funext p
  simp [pieceU]
theorem fieldsGo_ne : ∀ (l cur : List UInt8) (w : List UInt8), w ∈ fieldsGo cur l → w ≠ []
  | [], cur, w, h => by
    unfold fieldsGo at h
    split at h
    · simp at h
    · simp at h; subst h; assumption
  | b :: t, cur, w, h => by
    unfold fieldsGo at h
    split at h
    · split at h
      · exact fieldsGo_ne t [] w h
      · rcases List.mem_cons.1 h with e | e
        · subst e; assumption
        · exact fieldsGo_ne t [] w e
    · exact fieldsGo_ne t _ w h
theorem fieldsGo_len : ∀ (l cur : List UInt8), (fieldsGo cur l).length ≤ l.length + 1 ∧ ∀ w ∈ fieldsGo cur l, w.length ≤ cur.length + l.length
  | [], cur => by
    unfold fieldsGo
    split
    · exact ⟨by simp, fun w h => by simp at h⟩
    · exact ⟨by simp, fun w h => by simp at h; subst h; simp⟩
  | b :: t, cur => by
    unfold fieldsGo
    split
    · obtain ⟨h1, h2⟩ := fieldsGo_len t []
      split
      · exact ⟨by simp only [List.length_cons]; omega, fun w h => by have := h2 w h; simp only [List.length_cons, List.length_nil] at this ⊢; omega⟩
      · refine ⟨by simp only [List.length_cons]; omega, fun w h => ?_⟩
        rcases List.mem_cons.1 h with e | e
        · subst e; simp
        · have := h2 w e; simp only [List.length_cons, List.length_nil] at this ⊢; omega
    · obtain ⟨h1, h2⟩ := fieldsGo_len t (cur ++ [b])
      exact ⟨by simp only [List.length_cons]; omega, fun w h => by have := h2 w h; simp only [List.length_cons, List.length_append, List.length_nil] at this ⊢; omega⟩
/- words joined by gaps of blanks are found again -/
theorem fieldsGo_word : ∀ (u : List UInt8) (cur rest : List UInt8), (∀ b ∈ u, b ≠ 32) → fieldsGo cur (u ++ rest) = fieldsGo (cur ++ u) rest
  | [], cur, rest, _ => by simp
  | b :: t, cur, rest, h => by
    rw [List.cons_append, fieldsGo, if_neg (h b (List.mem_cons_self ..)), fieldsGo_word t (cur ++ [b]) rest (fun c hc => h c (List.mem_cons_of_mem _ hc))]
    simp
theorem fieldsGo_gap : ∀ (n : Nat) (rest : List UInt8), fieldsGo [] (List.replicate n 32 ++ rest) = fieldsGo [] rest
  | 0, rest => by simp
  | n + 1, rest => by
    rw [List.replicate_succ, List.cons_append, fieldsGo, if_pos rfl, if_pos rfl]
    exact fieldsGo_gap n rest
theorem fieldsGo_cut (cur : List UInt8) (n : Nat) (rest : List UInt8) (hc : cur ≠ []) : fieldsGo cur (List.replicate (n + 1) 32 ++ rest) = cur :: fieldsGo [] rest := by
  rw [List.replicate_succ, List.cons_append, fieldsGo, if_pos rfl, if_neg hc, fieldsGo_gap]
/- parsed -/
def badAt (ws : List (List UInt8)) : Option Nat := ws.findIdx? (fun w => (wordP w).isNone)
def picksOf (ws : List (List UInt8)) : List Pk := ws.filterMap wordP
theorem badAt_none {ws : List (List UInt8)} (h : ∀ w ∈ ws, (wordP w).isSome = true) : badAt ws = none := by
  unfold badAt
  rw [List.findIdx?_eq_none_iff]
  intro w hw
  have := h w hw
  cases hp : wordP w with
  | none => rw [hp] at this; cases this
  | some p => rfl
theorem badAt_some {ws : List (List UInt8)} {i : Nat} {u : List UInt8} (h : ∀ w ∈ ws.take i, (wordP w).isSome = true) (hu : ws[i]? = some u) (hb : wordP u = none) : badAt ws = some i := by
  have hi := (List.getElem?_eq_some_iff.1 hu).1
  have e : ws = ws.take i ++ u :: ws.drop (i + 1) := by
    have := List.getElem?_eq_some_iff.1 hu
    rw [← this.2]
    simp
  have h1 : badAt (ws.take i) = none := badAt_none h
  rw [e]
  unfold badAt at h1 ⊢
  rw [List.findIdx?_append, h1]
  simp [List.findIdx?_cons, hb, List.length_take]
  omega
end Go.Proofs.YtkmadabpfialbaaGreatDoor
