/- The document's own answers of layer 7 (doorkeeperref07): Parse. -/
import Derived.Test.YtkmadabpfialbaaGreatDoorScRefF
namespace Go.Proofs.YtkmadabpfialbaaGreatDoor
open Go.ChangeShapes Go.WideShapes Go.ChangeAt Go.RowKit Go.Maps
set_option linter.unusedVariables false
set_option maxRecDepth 100000
set_option linter.unusedSimpArgs false
theorem drop_past (l : List UInt8) : l.drop (l.length + 1) = [] := List.drop_eq_nil_of_le (Nat.le_succ _)
def RParsePost (ws : List (List UInt8)) (w : World) (e : Ending) (w' : World) : Prop :=
  Below w.heap.size w w' ∧ match badAt ws with
    | none => ∃ v, e = .returned (.tuple #[v, .int .i64 (-1)]) ∧ w'.ownsRow w.heap.size 46 2 v (picksOf ws).length (pkCells (picksOf ws))
    | some i => e = .returned (.tuple #[.slice none 0 0, .int .i64 (i : Int)])
/-- how far Parse has come -/
structure PSt (l : List UInt8) (i : Nat) (ws : List (List UInt8)) (cur : List UInt8) : Prop where
  eq : fieldsB l = ws ++ fieldsGo cur (l.drop i)
  good : ∀ u ∈ ws, (wordP u).isSome = true
  last : i = l.length + 1 → cur = []
  len : cur.length ≤ i ∧ ws.length ≤ i
theorem PSt.letter {l : List UInt8} {i : Nat} {ws : List (List UInt8)} {cur : List UInt8} {b : UInt8} (h : PSt l i ws cur) (hb : l[i]? = some b) (h32 : b ≠ 32) : PSt l (i + 1) ws (cur ++ [b]) := by
  obtain ⟨hl, rfl⟩ := List.getElem?_eq_some_iff.1 hb
  refine ⟨?_, h.good, fun e => by omega, by have := h.len; simp; omega⟩
  rw [h.eq, List.drop_eq_getElem_cons hl, fieldsGo, if_neg h32]
theorem PSt.gap {l : List UInt8} {i : Nat} {ws : List (List UInt8)} (h : PSt l i ws []) (hb : l[i]? = some 32 ∨ i = l.length) : PSt l (i + 1) ws [] := by
  refine ⟨?_, h.good, fun _ => rfl, by have := h.len; simp; omega⟩
  rcases hb with hb | rfl
  · obtain ⟨hl, he⟩ := List.getElem?_eq_some_iff.1 hb
    rw [h.eq, List.drop_eq_getElem_cons hl, he, fieldsGo, if_pos rfl, if_pos rfl]
  · rw [h.eq]
    simp [fieldsGo, drop_past]
theorem PSt.split {l : List UInt8} {i : Nat} {ws : List (List UInt8)} {cur : List UInt8} (h : PSt l i ws cur) (hc : cur ≠ []) (hb : l[i]? = some 32 ∨ i = l.length) : ∃ r, fieldsB l = ws ++ cur :: r ∧ r = fieldsGo [] (l.drop (i + 1)) := by
  rcases hb with hb | rfl
  · obtain ⟨hl, he⟩ := List.getElem?_eq_some_iff.1 hb
    exact ⟨_, by rw [h.eq, List.drop_eq_getElem_cons hl, he, fieldsGo, if_pos rfl, if_neg hc], rfl⟩
  · refine ⟨[], ?_, by simp [fieldsGo, drop_past]⟩
    rw [h.eq]
    simp [fieldsGo, hc]
theorem PSt.word {l : List UInt8} {i : Nat} {ws : List (List UInt8)} {cur : List UInt8} {p : Pk} (h : PSt l i ws cur) (hc : cur ≠ []) (hb : l[i]? = some 32 ∨ i = l.length) (hp : wordP cur = some p) :
    PSt l (i + 1) (ws ++ [cur]) [] ∧ picksOf (ws ++ [cur]) = picksOf ws ++ [p] := by
  obtain ⟨r, h1, h2⟩ := h.split hc hb
  refine ⟨⟨by rw [h1, h2]; simp, fun u hu => ?_, fun _ => rfl, by have := h.len; simp; omega⟩, by unfold picksOf; rw [List.filterMap_append]; simp [hp]⟩
  rcases List.mem_append.1 hu with hu | hu
  · exact h.good u hu
  · obtain rfl := List.mem_singleton.1 hu
    rw [hp]; rfl
theorem PSt.bad {l : List UInt8} {i : Nat} {ws : List (List UInt8)} {cur : List UInt8} (h : PSt l i ws cur) (hc : cur ≠ []) (hb : l[i]? = some 32 ∨ i = l.length) (hp : wordP cur = none) : badAt (fieldsB l) = some ws.length := by
  obtain ⟨r, h1, _⟩ := h.split hc hb
  rw [h1]
  exact badAt_some (ws := ws ++ cur :: r) (i := ws.length) (by
    intro u hu
    rw [List.take_left] at hu
    exact h.good u hu) (by simp) hp
theorem PSt.done {l : List UInt8} {ws : List (List UInt8)} {cur : List UInt8} (h : PSt l (l.length + 1) ws cur) : fieldsB l = ws ∧ badAt (fieldsB l) = none := by
  have e : fieldsB l = ws := by
    rw [h.eq, h.last rfl]
    simp [fieldsGo, drop_past]
  exact ⟨e, by rw [e]; exact badAt_none h.good⟩
theorem picks_len : ∀ (ws : List (List UInt8)), (∀ u ∈ ws, (wordP u).isSome = true) → (picksOf ws).length = ws.length := by
  intro ws h
  unfold picksOf
  induction ws with
  | nil => rfl
  | cons a r ih =>
    have h1 := h a (by simp)
    obtain ⟨p, hp⟩ := Option.isSome_iff_exists.1 h1
    rw [List.filterMap_cons, hp]
    simp only [List.length_cons]
    rw [ih (fun u hu => h u (by simp [hu]))]
theorem extract_one (s : ByteArray) (i : Nat) (b : UInt8) (h : s.data.toList[i]? = some b) : s.extract i (i + 1) = ⟨[b].toArray⟩ := by
  obtain ⟨hl, rfl⟩ := List.getElem?_eq_some_iff.1 h
  apply ByteArray.ext
  rw [ByteArray.data_extract]
  apply Array.ext'
  rw [Array.toList_extract]
  simp [List.extract_eq_take_drop, List.drop_eq_getElem_cons hl]
set_option maxHeartbeats 8000000 in
theorem rparse_any (s : ByteArray) (w : World) (hs : s.size ≤ 900) : Calls Tryz.prog 16 #[.string s] w (RParsePost (fieldsB s.data.toList) w) := by
  obtain ⟨i0, hi, hz0, hz1, hz2⟩ := info_parts picks_info
  have hlen : s.data.toList.length = s.size := by simp
  have h0 : PSt s.data.toList 0 [] [] := ⟨by simp [fieldsB], fun u h => by simp at h, fun e => rfl, by simp⟩
  have HLEN := Lib.hid hlen
  clear hlen
  go_enter Tryz.func16, Tryz.ntmps16
  go_wp2
  go_loopw [4, 5, 6, 7] (fun v4 v5 v6 v7 wr => ∃ (i : Nat) (ws : List (List UInt8)) (cur : List UInt8) (n : Nat), i ≤ s.size + 1 ∧ v7 = .int .i64 (i : Int) ∧ v5 = .string ⟨cur.toArray⟩ ∧ v6 = .int .i64 (n : Int) ∧ Hid (n = ws.length) ∧ n ≤ i ∧ cur.length ≤ i ∧ Hid (PSt s.data.toList i ws cur) ∧ wr.ownsRow w.heap.size 46 2 v4 n (pkCells (picksOf ws)) ∧ Below w.heap.size w wr)
    (fun _ _ _ v7 _ => s.size + 1 - (intOf v7).toNat)
  case atStart => exact ⟨0, [], [], 0, by omega, rfl, rfl, rfl, Lib.hid rfl, by omega, by simp, Lib.hid h0, World.ownsRow_nil _ _ _ _, Below.refl _ _⟩
  case round =>
    clear h0
    obtain ⟨i, ws, cur, n, hi1, rfl, rfl, rfl, hn, hni, hci, hP, hrow, hb⟩ := hrel
    have hh := hb.size
    by_cases hle : i ≤ s.size
    · have g1 : (i : Int) ≤ (s.size : Int) := by omega
      by_cases hlet : ∃ b, s.data.toList[i]? = some b ∧ b ≠ 32
      · obtain ⟨b, hbi, h32⟩ := hlet
        have hil : i < s.size := by have := (List.getElem?_eq_some_iff.1 hbi).1; have := HLEN.out; omega
        have g2 : (i : Int) < (s.size : Int) := by omega
        obtain ⟨x, hx⟩ : ∃ x : Nat, b.toNat = x := ⟨_, rfl⟩
        have hixi : ∀ W, (Instr.index 9 (.string s) (.int .i64 (i : Int))).run Tryz.prog W = .ok (.int .u8 (x : Int)) W := fun W => by
          have := str_at s i W hil
          rw [List.getD_eq_getElem?_getD, hbi, Option.getD_some, hx] at this
          exact this
        have g3 : ((x : Int) != 32) = true := by
          rw [bne_iff_ne]
          intro e
          exact h32 (u8_back b 32 (by omega))
        have HPS := Lib.hid (hP.out.letter hbi h32)
        have HEX := Lib.hid (extract_one s i b hbi)
        clear hbi hx h32
        go_wp2
        exact ⟨⟨i + 1, ws, cur ++ [b], n, by omega, by go_num, by rw [HEX.out]; exact congrArg Value.string (bytes_app cur [b]), rfl, hn, by omega, by simp; omega, HPS, hrow, hb⟩, by simp [intOf]; omega⟩
      · have hbl : (i < s.size ∧ s.data.toList[i]? = some 32) ∨ i = s.size := by
          rcases Nat.lt_or_ge i s.size with h | h
          · refine .inl ⟨h, ?_⟩
            have hl : i < s.data.toList.length := by rw [HLEN.out]; exact h
            rw [List.getElem?_eq_getElem hl]
            refine congrArg some (Classical.byContradiction fun h32 => hlet ⟨_, List.getElem?_eq_getElem hl, h32⟩)
          · exact .inr (by omega)
        have HBL : Hid (s.data.toList[i]? = some 32 ∨ i = s.data.toList.length) := Lib.hid (hbl.imp (fun h => h.2) (fun h => by rw [HLEN.out]; exact h))
        have hix32 : i < s.size → s.data.toList[i]? = some 32 → ∀ W, (Instr.index 9 (.string s) (.int .i64 (i : Int))).run Tryz.prog W = .ok (.int .u8 32) W := fun hil hbi W => by
          have := str_at s i W hil
          rw [List.getD_eq_getElem?_getD, hbi, Option.getD_some] at this
          exact this
        clear hlet
        rcases hbl with ⟨h1, h2⟩ | h1
        · have hixi := hix32 h1 h2
          have g2 : (i : Int) < (s.size : Int) := by omega
          clear hix32 h1 h2
          by_cases hc : cur = []
          · subst hc
            have HPS := Lib.hid (hP.out.gap HBL.out)
            go_wp2
            exact ⟨⟨i + 1, ws, [], n, by omega, by go_num, rfl, rfl, hn, by omega, by simp, HPS, hrow, hb⟩, by simp [intOf]; omega⟩
          · have hcl : 1 ≤ cur.length := by cases cur; exact absurd rfl hc; simp
            have HW := Lib.hid (rword_any ⟨cur.toArray⟩ wr (by show 1 ≤ cur.toArray.size; simp; omega) (by show cur.toArray.size ≤ 1000; simp; omega))
            have HC := Lib.hid hc
            clear hc
            have hce : cur.isEmpty = false := by rw [List.isEmpty_eq_false_iff]; exact HC.out
            rw [show ((⟨cur.toArray⟩ : ByteArray).data.toList) = cur by simp] at HW
            cases hwp : wordP cur with
            | none =>
              rw [hwp] at HW
              have HBD := Lib.hid (hP.out.bad HC.out HBL.out hwp)
              clear hwp
              go_wp2_with (go_at_call 32; refine HW.out.mono ?_; rintro e w2 ⟨b2, a', b', rfl⟩)
              go_ret2
              have hb2 := hb.trans (b2.mono hh)
              refine ⟨hb2.alloc hb2.size _, ?_⟩
              rw [HBD.out, hn.out]
              try rfl
            | some p =>
              rw [hwp] at HW
              have HPS := Lib.hid (hP.out.word HC.out HBL.out hwp)
              obtain ⟨pt, pk⟩ := p
              clear hwp
              go_wp2_with (first
                | (go_at_call 32; refine HW.out.mono ?_; rintro e w4 ⟨b4, rfl⟩; have hr4 := (ownsRow_below hrow b4).alloc (.cells #[.int .i64 pt, .int .i64 pk] 46); have hb4 := hb.trans (b4.mono hh); have hh4 := hb4.size)
                | (at_builtin; refine wpList_append_own _ rfl _ _ 22 rfl w.heap.size 46 i0 _ 2 16 Tryz.underlying22 hi hz0 hz1 hz2 rfl (by decide) _ _ _ rfl (hr4.alloc _) ⟨w4.heap.size + 1, 0, none⟩ 1 1 [.int .i64 pt, .int .i64 pk] rfl rfl (cells_two w4 pt pk) (by simp [Value.oneCell']) (by unfold maxLen; omega) (by omega) (by simp; omega) ?_; intro v' w5 hown' hgrow _; have hgb := grown_belowP hgrow hr4 (by simp; omega)))
              refine ⟨⟨i + 1, ws ++ [cur], [], n + 1, by omega, by go_num, rfl, by go_num, Lib.hid (by rw [List.length_append, ← hn.out]; rfl), by omega, by simp, Lib.hid HPS.out.1, ?_, (hb4.alloc hh4 _).trans hgb⟩, by simp [intOf]; omega⟩
              rw [HPS.out.2, pkCells_snoc]
              exact hown'
        · have g2 : ¬ (i : Int) < (s.size : Int) := by omega
          have hi9 : i ≤ 900 := by omega
          clear hix32 h1
          by_cases hc : cur = []
          · subst hc
            have HPS := Lib.hid (hP.out.gap HBL.out)
            go_wp2
            exact ⟨⟨i + 1, ws, [], n, by omega, by go_num, rfl, rfl, hn, by omega, by simp, HPS, hrow, hb⟩, by simp [intOf]; omega⟩
          · have hcl : 1 ≤ cur.length := by cases cur; exact absurd rfl hc; simp
            have HW := Lib.hid (rword_any ⟨cur.toArray⟩ wr (by show 1 ≤ cur.toArray.size; simp; omega) (by show cur.toArray.size ≤ 1000; simp; omega))
            have HC := Lib.hid hc
            clear hc
            have hce : cur.isEmpty = false := by rw [List.isEmpty_eq_false_iff]; exact HC.out
            rw [show ((⟨cur.toArray⟩ : ByteArray).data.toList) = cur by simp] at HW
            cases hwp : wordP cur with
            | none =>
              rw [hwp] at HW
              have HBD := Lib.hid (hP.out.bad HC.out HBL.out hwp)
              clear hwp
              go_wp2_with (go_at_call 32; refine HW.out.mono ?_; rintro e w2 ⟨b2, a', b', rfl⟩)
              go_ret2
              have hb2 := hb.trans (b2.mono hh)
              refine ⟨hb2.alloc hb2.size _, ?_⟩
              rw [HBD.out, hn.out]
              try rfl
            | some p =>
              rw [hwp] at HW
              have HPS := Lib.hid (hP.out.word HC.out HBL.out hwp)
              obtain ⟨pt, pk⟩ := p
              clear hwp
              go_wp2_with (first
                | (go_at_call 32; refine HW.out.mono ?_; rintro e w4 ⟨b4, rfl⟩; have hr4 := (ownsRow_below hrow b4).alloc (.cells #[.int .i64 pt, .int .i64 pk] 46); have hb4 := hb.trans (b4.mono hh); have hh4 := hb4.size)
                | (at_builtin; refine wpList_append_own _ rfl _ _ 22 rfl w.heap.size 46 i0 _ 2 16 Tryz.underlying22 hi hz0 hz1 hz2 rfl (by decide) _ _ _ rfl (hr4.alloc _) ⟨w4.heap.size + 1, 0, none⟩ 1 1 [.int .i64 pt, .int .i64 pk] rfl rfl (cells_two w4 pt pk) (by simp [Value.oneCell']) (by unfold maxLen; omega) (by omega) (by simp; omega) ?_; intro v' w5 hown' hgrow _; have hgb := grown_belowP hgrow hr4 (by simp; omega)))
              refine ⟨⟨i + 1, ws ++ [cur], [], n + 1, by omega, by go_num, rfl, by go_num, Lib.hid (by rw [List.length_append, ← hn.out]; rfl), by omega, by simp, Lib.hid HPS.out.1, ?_, (hb4.alloc hh4 _).trans hgb⟩, by simp [intOf]; omega⟩
              rw [HPS.out.2, pkCells_snoc]
              exact hown'
    · have hie : i = s.size + 1 := by omega
      have g1 : ¬ (i : Int) ≤ (s.size : Int) := by omega
      have hdone : Hid (fieldsB s.data.toList = ws ∧ badAt (fieldsB s.data.toList) = none) := Lib.hid ((by rw [← HLEN.out] at hie; rw [← hie]; exact hP.out : PSt s.data.toList (s.data.toList.length + 1) ws cur).done)
      have hpl : Hid ((picksOf ws).length = n) := Lib.hid (by rw [hn.out]; exact picks_len ws hP.out.good)
      clear hle hie
      go_wp2
      go_ret2
      refine ⟨hb, ?_⟩
      rw [hdone.out.2, hdone.out.1]
      exact ⟨_, rfl, by rw [hpl.out]; exact hrow⟩
end Go.Proofs.YtkmadabpfialbaaGreatDoor
