/- The document's answer for layer 2: words of headers, headers of words. -/
import Derived.Test.YtbaehokffdpopaaGreatWordRefA
namespace Go.Proofs.YtbaehokffdpopaaGreat
open Go.ChangeShapes Go.WideShapes Go.ChangeAt Go.RowKit
set_option linter.unusedVariables false
set_option linter.unusedSimpArgs false
open Wd
theorem ret_pair {a b : Int} {c : Bool} (h : a = b) : Ending.returned (.tuple #[.int .u64 a, .bool c]) = .returned (.tuple #[.int .u64 b, .bool c]) := by rw [h]
theorem word_fat (o c m g h : Int) (hk : okP ⟨4, o, c, m, g, h⟩) : 4 + h * 8 + m * 134217728 + g * 549755813888 = ((wordOf ⟨4, o, c, m, g, h⟩ : Nat) : Int) ∧ (0 ≤ h ∧ h ≤ 16777215) ∧ (0 ≤ m ∧ m ≤ 4095) ∧ (0 ≤ g ∧ g ≤ 4095) ∧ (o = 0 ∧ c = 0) := by
  obtain ⟨h1, h2, h3, h4, h5, h6, h7⟩ := hk
  have z := h5 (by show (4 : Int) ≠ 2; decide) (by show (4 : Int) ≠ 3; decide)
  have y := h6 rfl
  have h2 : 0 ≤ h ∧ h ≤ 16777215 := h2
  have y : (0 ≤ m ∧ m ≤ 4095) ∧ 0 ≤ g ∧ g ≤ 4095 := y
  have z : o = 0 ∧ c = 0 := z
  refine ⟨?_, h2, y.1, y.2, z⟩
  unfold wordOf; dsimp only
  omega
theorem word_any (t o c m g h : Int) (hk : okP ⟨t, o, c, m, g, h⟩) (h4 : ¬ t = 4) : t + h * 8 + o * 134217728 + c * 4398046511104 = ((wordOf ⟨t, o, c, m, g, h⟩ : Nat) : Int) ∧ (0 ≤ t ∧ t ≤ 4) ∧ (0 ≤ h ∧ h ≤ 16777215) ∧ (0 ≤ o ∧ o ≤ 32765) ∧ (0 ≤ c ∧ c ≤ 255) := by
  obtain ⟨h1, h2, h3, h4', h5, h6, h7⟩ := hk
  have h1 : 0 ≤ t ∧ t ≤ 4 := h1
  have h2 : 0 ≤ h ∧ h ≤ 16777215 := h2
  have h3 : t = 2 ∨ t = 3 → (0 ≤ o ∧ o ≤ 32765) ∧ 0 ≤ c ∧ c ≤ 255 := h3
  have h5 : t ≠ 2 → t ≠ 3 → o = 0 ∧ c = 0 := h5
  have z : m = 0 ∧ g = 0 := h7 h4
  have y : (0 ≤ o ∧ o ≤ 32765) ∧ (0 ≤ c ∧ c ≤ 255) := by
    by_cases e : t = 2 ∨ t = 3
    · exact h3 e
    · have := h5 (fun e2 => e (.inl e2)) (fun e3 => e (.inr e3)); omega
  refine ⟨?_, h1, h2, y.1, y.2⟩
  unfold wordOf; dsimp only
  omega
set_option maxRecDepth 100000 in
set_option maxHeartbeats 4000000 in
theorem refPack_fat (o c m g h : Int) (u : Nat) (w : World) (hk : okP ⟨4, o, c, m, g, h⟩) (hw : 4 + h * 8 + m * 134217728 + g * 549755813888 = (u : Int)) : Calls Tryz.prog 72 #[hdV ⟨4, o, c, m, g, h⟩] w (PackPost w (some u)) := by
  have HM := Lib.hid (fun W => may_any ⟨4, o, c, m, g, h⟩ W)
  have hhsz : Hid ((Tryz.prog.info? 77).map (·.size) = some (hdArr ⟨4, o, c, m, g, h⟩).size) := Lib.hid hd_size
  unfold MayPost at HM
  rw [ok_yes hk] at HM
  have hb := (word_fat o c m g h hk).2
  have HW := Lib.hid hw
  clear hk hw
  obtain ⟨⟨b0, b1⟩, ⟨b2, b3⟩, ⟨b4, b5⟩, ⟨b6, b7⟩⟩ := hb
  clear b6 b7
  go_enter Tryz.func72, Tryz.ntmps72
  go_upto_region 1 with fail
  generalize hW : w.alloc _ = W
  have T : HBox w w.heap.size ⟨4, o, c, m, g, h⟩ W := by rw [← hW]; exact ⟨by go_grown, Blk.new w _ _⟩
  clear hW
  go_upto_region 3 with (first
    | (refine wpList_load_row rfl 77 _ rfl w.heap.size rfl 77 (hdArr ⟨4, o, c, m, g, h⟩) (0, 0) _ T.blk Tryz.underlying77 rfl hhsz.out ?_; (try simp only [Act.put, List.setIfInBounds_toArray, List.set_cons_zero, List.set_cons_succ]))
    | (go_at_call 128; (with_reducible refine (HM.out _).mono ?_); rintro e w1 ⟨rfl, hb⟩; replace T := T.below hb; clear hb))
  obtain ⟨c0, c1, c2, c3, c4, c5⟩ := T.six
  go_wp2
  go_ret2
  exact ⟨ret_pair HW.out, T.base⟩
set_option maxRecDepth 100000 in
set_option maxHeartbeats 4000000 in
theorem refPack_any' (t o c m g h : Int) (u : Nat) (w : World) (hk : okP ⟨t, o, c, m, g, h⟩) (h4 : ¬ t = 4) (hw : t + h * 8 + o * 134217728 + c * 4398046511104 = (u : Int)) : Calls Tryz.prog 72 #[hdV ⟨t, o, c, m, g, h⟩] w (PackPost w (some u)) := by
  have HM := Lib.hid (fun W => may_any ⟨t, o, c, m, g, h⟩ W)
  have hhsz : Hid ((Tryz.prog.info? 77).map (·.size) = some (hdArr ⟨t, o, c, m, g, h⟩).size) := Lib.hid hd_size
  unfold MayPost at HM
  rw [ok_yes hk] at HM
  have hb := (word_any t o c m g h hk h4).2
  have HW := Lib.hid hw
  clear hk hw
  obtain ⟨⟨b0, b1⟩, ⟨b2, b3⟩, ⟨b4, b5⟩, ⟨b6, b7⟩⟩ := hb
  have bt : (t == 4) = false := by simp [h4]
  clear h4
  go_enter Tryz.func72, Tryz.ntmps72
  go_upto_region 1 with fail
  generalize hW : w.alloc _ = W
  have T : HBox w w.heap.size ⟨t, o, c, m, g, h⟩ W := by rw [← hW]; exact ⟨by go_grown, Blk.new w _ _⟩
  clear hW
  go_upto_region 3 with (first
    | (refine wpList_load_row rfl 77 _ rfl w.heap.size rfl 77 (hdArr ⟨t, o, c, m, g, h⟩) (0, 0) _ T.blk Tryz.underlying77 rfl hhsz.out ?_; (try simp only [Act.put, List.setIfInBounds_toArray, List.set_cons_zero, List.set_cons_succ]))
    | (go_at_call 128; (with_reducible refine (HM.out _).mono ?_); rintro e w1 ⟨rfl, hb⟩; replace T := T.below hb; clear hb))
  obtain ⟨c0, c1, c2, c3, c4, c5⟩ := T.six
  go_wp2
  go_ret2
  exact ⟨ret_pair HW.out, T.base⟩
set_option maxHeartbeats 1000000 in
theorem refPack_none (x : Hd) (w : World) (hk : ¬ okP x) : Calls Tryz.prog 72 #[hdV x] w (PackPost w none) := by
  have HM := Lib.hid (fun W => may_any x W)
  have hhsz : Hid ((Tryz.prog.info? 77).map (·.size) = some (hdArr x).size) := Lib.hid hd_size
  unfold MayPost at HM
  rw [ok_no hk] at HM
  clear hk
  go_enter Tryz.func72, Tryz.ntmps72
  go_upto_region 1 with fail
  generalize hW : w.alloc _ = W
  have T : HBox w w.heap.size x W := by rw [← hW]; exact ⟨by go_grown, Blk.new w _ _⟩
  clear hW
  go_wp2_with (first
    | (refine wpList_load_row rfl 77 _ rfl w.heap.size rfl 77 (hdArr x) (0, 0) _ T.blk Tryz.underlying77 rfl hhsz.out ?_; (try simp only [Act.put, List.setIfInBounds_toArray, List.set_cons_zero, List.set_cons_succ]))
    | (go_at_call 128; (with_reducible refine (HM.out _).mono ?_); rintro e w1 ⟨rfl, hb⟩; have T1 := T.below hb; clear hb))
  go_ret2
  exact ⟨rfl, T1.base⟩
theorem refPack_any (x : Hd) (w : World) : Calls Tryz.prog 72 #[hdV x] w (PackPost w (packP x)) := by
  obtain ⟨t, o, c, m, g, h⟩ := x
  by_cases hk : okP ⟨t, o, c, m, g, h⟩
  · rw [packP_eq, if_pos hk]
    by_cases h4 : t = 4
    · subst h4; exact refPack_fat o c m g h _ w hk (word_fat o c m g h hk).1
    · exact refPack_any' t o c m g h _ w hk h4 (word_any t o c m g h hk h4).1
  · rw [pack_none_iff.2 hk]; exact refPack_none _ w hk
/-- the document's header of a word, before it is asked whether that has this word -/
def refHd (v : Nat) : Hd := if (v : Int) % 8 = 4 then ⟨4, 0, 0, (v : Int) / 134217728 % 4096, (v : Int) / 549755813888 % 4096, (v : Int) / 8 % 16777216⟩
  else ⟨(v : Int) % 8, (v : Int) / 134217728 % 32768, (v : Int) / 4398046511104 % 256, 0, 0, (v : Int) / 8 % 16777216⟩
theorem refHd_word (x : Hd) (hk : okP x) : refHd (wordOf x) = x := by
  obtain ⟨t, o, c, m, g, h⟩ := x
  by_cases h4 : t = 4
  · subst h4
    obtain ⟨hw, h2, hm, hg, ho, hc⟩ := word_fat o c m g h hk
    generalize wordOf ⟨4, o, c, m, g, h⟩ = u at *
    unfold refHd
    rw [if_pos (by omega)]
    have e1 : (u : Int) / 134217728 % 4096 = m := by omega
    have e2 : (u : Int) / 549755813888 % 4096 = g := by omega
    have e3 : (u : Int) / 8 % 16777216 = h := by omega
    rw [e1, e2, e3, ho, hc]
  · have hmg : m = 0 ∧ g = 0 := hk.2.2.2.2.2.2 h4
    obtain ⟨hw, ht, hh, ho, hc⟩ := word_any t o c m g h hk h4
    generalize wordOf ⟨t, o, c, m, g, h⟩ = u at *
    have e0 : (u : Int) % 8 = t := by omega
    have e1 : (u : Int) / 134217728 % 32768 = o := by omega
    have e2 : (u : Int) / 4398046511104 % 256 = c := by omega
    have e3 : (u : Int) / 8 % 16777216 = h := by omega
    unfold refHd
    rw [if_neg (by omega), e0, e1, e2, e3, hmg.1, hmg.2]
theorem ref_yes {v : Nat} (h : packP (refHd v) = some v) : openP v = some (refHd v) := open_of_pack h
theorem ref_no {v : Nat} (h : packP (refHd v) ≠ some v) : openP v = none := by
  cases ho : openP v with
  | none => rfl
  | some y =>
    obtain ⟨hk, hw⟩ := open_some ho
    exfalso
    apply h
    rw [← hw, refHd_word y hk, packP_eq, if_pos hk]
set_option maxRecDepth 100000 in
set_option maxHeartbeats 4000000 in
theorem refOpen_fat (v : Nat) (m g h : Int) (r : Option Hd) (w : World) (hv : v < 18446744073709551616)
    (e0 : (v : Int) % 8 = 4) (e1 : (v : Int) / 134217728 % 4096 = m) (e2 : (v : Int) / 549755813888 % 4096 = g) (e3 : (v : Int) / 8 % 16777216 = h)
    (hyes : packP ⟨4, 0, 0, m, g, h⟩ = some v → r = some ⟨4, 0, 0, m, g, h⟩) (hno : packP ⟨4, 0, 0, m, g, h⟩ ≠ some v → r = none) : Calls Tryz.prog 82 #[.int .u64 v] w (OpenPost w r) := by
  have HK := Lib.hid (fun W => refPack_any ⟨4, 0, 0, m, g, h⟩ W)
  have HY := Lib.hid hyes
  have HN := Lib.hid hno
  clear hyes hno
  generalize packP ⟨4, 0, 0, m, g, h⟩ = u at *
  have hhsz : Hid ((Tryz.prog.info? 77).map (·.size) = some (hdArr ⟨4, 0, 0, m, g, h⟩).size) := Lib.hid hd_size
  have hhsz0 : Hid ((Tryz.prog.info? 77).map (·.size) = some zero6.size) := Lib.hid hd_size
  have hhone := Lib.hid (hd_one ⟨4, 0, 0, m, g, h⟩)
  have hz1 : Hid (zero6.all (·.oneCell') = true) := Lib.hid (by simp [Value.oneCell'])
  go_enter Tryz.func82, Tryz.ntmps82
  go_upto_region 1 with fail
  generalize hW : w.alloc _ = W
  have B0 : Below w.heap.size w W := by rw [← hW]; go_grown
  have R0 : Blk W w.heap.size 77 zero6 := by rw [← hW]; exact Blk.new w _ _
  clear hW
  go_upto_region 7 with fail
  have N0 := Blk.new W 77 (hdArr ⟨4, 0, 0, m, g, h⟩)
  have R1 := R0.alloc (.cells (hdArr ⟨4, 0, 0, m, g, h⟩) 77)
  have B1 := B0.alloc B0.size (.cells (hdArr ⟨4, 0, 0, m, g, h⟩) 77)
  generalize hW : W.alloc _ = W1 at *
  generalize W.heap.size = BH at *
  clear hW R0 B0
  clear e0 e1 e2 e3
  go_upto_region 8 with (first
    | (refine wpList_load_row rfl 77 _ rfl BH rfl 77 (hdArr ⟨4, 0, 0, m, g, h⟩) (0, 0) _ N0 Tryz.underlying77 rfl hhsz.out ?_; (try simp only [Act.put, List.setIfInBounds_toArray, List.set_cons_zero, List.set_cons_succ]))
    | (go_at_call 72; (with_reducible refine (HK.out _).mono ?_); rintro e w6 ⟨rfl, hb⟩; have N6 := N0.below hb N0.lt; have R6 := R1.below hb R1.lt; have B6 := B1.trans (hb.mono B1.size); clear hb))
  clear N0 R1 B1
  by_cases hu : u = some v
  · obtain rfl := HY.out hu
    subst hu
    clear HY HN
    go_wp2_with (first
      | (refine wpList_load_row rfl 77 _ rfl BH rfl 77 (hdArr ⟨4, 0, 0, m, g, h⟩) (0, 0) _ N6 Tryz.underlying77 rfl hhsz.out ?_; (try simp only [Act.put, List.setIfInBounds_toArray, List.set_cons_zero, List.set_cons_succ]))
      | (refine wpList_store_row rfl 77 _ _ rfl w.heap.size (hdArr ⟨4, 0, 0, m, g, h⟩) rfl rfl 77 zero6 R6 hhsz.out rfl hhone.out ?_; (try simp only [Act.put, List.setIfInBounds_toArray, List.set_cons_zero, List.set_cons_succ])))
    have R8 := R6.row (hdArr ⟨4, 0, 0, m, g, h⟩)
    have B8 := below_setRow B6 (Nat.le_refl _) (hdArr ⟨4, 0, 0, m, g, h⟩)
    generalize hW : w6.setRow _ _ = w8 at *
    have c0 := R8.cell 0 _ rfl
    have c1 := R8.cell 1 _ rfl
    have c2 := R8.cell 2 _ rfl
    have c3 := R8.cell 3 _ rfl
    have c4 := R8.cell 4 _ rfl
    have c5 := R8.cell 5 _ rfl
    exact bodyPost_ret (v := .tuple #[hdV ⟨4, 0, 0, m, g, h⟩, .bool true]) (by simp [results, Tryz.results82, go_sem, c0, c1, c2, c3, c4, c5]) rfl ⟨rfl, B8⟩
  · obtain rfl := HN.out hu
    clear HY HN
    cases u with
    | none =>
      clear hu
      go_wp2_with (refine wpList_store_row rfl 77 _ _ rfl w.heap.size zero6 rfl rfl 77 zero6 R6 hhsz0.out rfl hz1.out ?_; (try simp only [Act.put, List.setIfInBounds_toArray, List.set_cons_zero, List.set_cons_succ]))
      have R8 := R6.row zero6
      have B8 := below_setRow B6 (Nat.le_refl _) zero6
      generalize hW : w6.setRow _ _ = w8 at *
      have c0 := R8.cell 0 _ rfl
      have c1 := R8.cell 1 _ rfl
      have c2 := R8.cell 2 _ rfl
      have c3 := R8.cell 3 _ rfl
      have c4 := R8.cell 4 _ rfl
      have c5 := R8.cell 5 _ rfl
      exact bodyPost_ret (v := .tuple #[hdV ⟨0, 0, 0, 0, 0, 0⟩, .bool false]) (by simp [results, Tryz.results82, go_sem, c0, c1, c2, c3, c4, c5]) rfl ⟨rfl, B8⟩
    | some a =>
      have hne : a ≠ v := fun h => hu (by rw [h])
      have hne2 : (((a : Nat) : Int) != ((v : Nat) : Int)) = true := by simp; omega
      clear hu
      have hne3 : ¬ (((a : Nat) : Int) = ((v : Nat) : Int)) := by omega
      clear hne
      go_wp2_with (refine wpList_store_row rfl 77 _ _ rfl w.heap.size zero6 rfl rfl 77 zero6 R6 hhsz0.out rfl hz1.out ?_; (try simp only [Act.put, List.setIfInBounds_toArray, List.set_cons_zero, List.set_cons_succ]))
      have R8 := R6.row zero6
      have B8 := below_setRow B6 (Nat.le_refl _) zero6
      generalize hW : w6.setRow _ _ = w8 at *
      have c0 := R8.cell 0 _ rfl
      have c1 := R8.cell 1 _ rfl
      have c2 := R8.cell 2 _ rfl
      have c3 := R8.cell 3 _ rfl
      have c4 := R8.cell 4 _ rfl
      have c5 := R8.cell 5 _ rfl
      exact bodyPost_ret (v := .tuple #[hdV ⟨0, 0, 0, 0, 0, 0⟩, .bool false]) (by simp [results, Tryz.results82, go_sem, c0, c1, c2, c3, c4, c5]) rfl ⟨rfl, B8⟩
set_option maxRecDepth 100000 in
set_option maxHeartbeats 4000000 in
theorem refOpen_any (v : Nat) (t o c h : Int) (r : Option Hd) (w : World) (hv : v < 18446744073709551616)
    (h4 : ¬ t = 4) (e0 : (v : Int) % 8 = t) (e1 : (v : Int) / 134217728 % 32768 = o) (e2 : (v : Int) / 4398046511104 % 256 = c) (e3 : (v : Int) / 8 % 16777216 = h)
    (hyes : packP ⟨t, o, c, 0, 0, h⟩ = some v → r = some ⟨t, o, c, 0, 0, h⟩) (hno : packP ⟨t, o, c, 0, 0, h⟩ ≠ some v → r = none) : Calls Tryz.prog 82 #[.int .u64 v] w (OpenPost w r) := by
  have HK := Lib.hid (fun W => refPack_any ⟨t, o, c, 0, 0, h⟩ W)
  have HY := Lib.hid hyes
  have HN := Lib.hid hno
  clear hyes hno
  generalize packP ⟨t, o, c, 0, 0, h⟩ = u at *
  have hhsz : Hid ((Tryz.prog.info? 77).map (·.size) = some (hdArr ⟨t, o, c, 0, 0, h⟩).size) := Lib.hid hd_size
  have hhsz0 : Hid ((Tryz.prog.info? 77).map (·.size) = some zero6.size) := Lib.hid hd_size
  have hhone := Lib.hid (hd_one ⟨t, o, c, 0, 0, h⟩)
  have hz1 : Hid (zero6.all (·.oneCell') = true) := Lib.hid (by simp [Value.oneCell'])
  have bt : (t == 4) = false := by simp [h4]
  go_enter Tryz.func82, Tryz.ntmps82
  go_upto_region 1 with fail
  generalize hW : w.alloc _ = W
  have B0 : Below w.heap.size w W := by rw [← hW]; go_grown
  have R0 : Blk W w.heap.size 77 zero6 := by rw [← hW]; exact Blk.new w _ _
  clear hW
  go_upto_region 7 with fail
  have N0 := Blk.new W 77 (hdArr ⟨t, o, c, 0, 0, h⟩)
  have R1 := R0.alloc (.cells (hdArr ⟨t, o, c, 0, 0, h⟩) 77)
  have B1 := B0.alloc B0.size (.cells (hdArr ⟨t, o, c, 0, 0, h⟩) 77)
  generalize hW : W.alloc _ = W1 at *
  generalize W.heap.size = BH at *
  clear hW R0 B0
  clear e0 e1 e2 e3 bt h4
  go_upto_region 8 with (first
    | (refine wpList_load_row rfl 77 _ rfl BH rfl 77 (hdArr ⟨t, o, c, 0, 0, h⟩) (0, 0) _ N0 Tryz.underlying77 rfl hhsz.out ?_; (try simp only [Act.put, List.setIfInBounds_toArray, List.set_cons_zero, List.set_cons_succ]))
    | (go_at_call 72; (with_reducible refine (HK.out _).mono ?_); rintro e w6 ⟨rfl, hb⟩; have N6 := N0.below hb N0.lt; have R6 := R1.below hb R1.lt; have B6 := B1.trans (hb.mono B1.size); clear hb))
  clear N0 R1 B1
  by_cases hu : u = some v
  · obtain rfl := HY.out hu
    subst hu
    clear HY HN
    go_wp2_with (first
      | (refine wpList_load_row rfl 77 _ rfl BH rfl 77 (hdArr ⟨t, o, c, 0, 0, h⟩) (0, 0) _ N6 Tryz.underlying77 rfl hhsz.out ?_; (try simp only [Act.put, List.setIfInBounds_toArray, List.set_cons_zero, List.set_cons_succ]))
      | (refine wpList_store_row rfl 77 _ _ rfl w.heap.size (hdArr ⟨t, o, c, 0, 0, h⟩) rfl rfl 77 zero6 R6 hhsz.out rfl hhone.out ?_; (try simp only [Act.put, List.setIfInBounds_toArray, List.set_cons_zero, List.set_cons_succ])))
    have R8 := R6.row (hdArr ⟨t, o, c, 0, 0, h⟩)
    have B8 := below_setRow B6 (Nat.le_refl _) (hdArr ⟨t, o, c, 0, 0, h⟩)
    generalize hW : w6.setRow _ _ = w8 at *
    have c0 := R8.cell 0 _ rfl
    have c1 := R8.cell 1 _ rfl
    have c2 := R8.cell 2 _ rfl
    have c3 := R8.cell 3 _ rfl
    have c4 := R8.cell 4 _ rfl
    have c5 := R8.cell 5 _ rfl
    exact bodyPost_ret (v := .tuple #[hdV ⟨t, o, c, 0, 0, h⟩, .bool true]) (by simp [results, Tryz.results82, go_sem, c0, c1, c2, c3, c4, c5]) rfl ⟨rfl, B8⟩
  · obtain rfl := HN.out hu
    clear HY HN
    cases u with
    | none =>
      clear hu
      go_wp2_with (refine wpList_store_row rfl 77 _ _ rfl w.heap.size zero6 rfl rfl 77 zero6 R6 hhsz0.out rfl hz1.out ?_; (try simp only [Act.put, List.setIfInBounds_toArray, List.set_cons_zero, List.set_cons_succ]))
      have R8 := R6.row zero6
      have B8 := below_setRow B6 (Nat.le_refl _) zero6
      generalize hW : w6.setRow _ _ = w8 at *
      have c0 := R8.cell 0 _ rfl
      have c1 := R8.cell 1 _ rfl
      have c2 := R8.cell 2 _ rfl
      have c3 := R8.cell 3 _ rfl
      have c4 := R8.cell 4 _ rfl
      have c5 := R8.cell 5 _ rfl
      exact bodyPost_ret (v := .tuple #[hdV ⟨0, 0, 0, 0, 0, 0⟩, .bool false]) (by simp [results, Tryz.results82, go_sem, c0, c1, c2, c3, c4, c5]) rfl ⟨rfl, B8⟩
    | some a =>
      have hne : a ≠ v := fun h => hu (by rw [h])
      have hne2 : (((a : Nat) : Int) != ((v : Nat) : Int)) = true := by simp; omega
      clear hu
      have hne3 : ¬ (((a : Nat) : Int) = ((v : Nat) : Int)) := by omega
      clear hne
      go_wp2_with (refine wpList_store_row rfl 77 _ _ rfl w.heap.size zero6 rfl rfl 77 zero6 R6 hhsz0.out rfl hz1.out ?_; (try simp only [Act.put, List.setIfInBounds_toArray, List.set_cons_zero, List.set_cons_succ]))
      have R8 := R6.row zero6
      have B8 := below_setRow B6 (Nat.le_refl _) zero6
      generalize hW : w6.setRow _ _ = w8 at *
      have c0 := R8.cell 0 _ rfl
      have c1 := R8.cell 1 _ rfl
      have c2 := R8.cell 2 _ rfl
      have c3 := R8.cell 3 _ rfl
      have c4 := R8.cell 4 _ rfl
      have c5 := R8.cell 5 _ rfl
      exact bodyPost_ret (v := .tuple #[hdV ⟨0, 0, 0, 0, 0, 0⟩, .bool false]) (by simp [results, Tryz.results82, go_sem, c0, c1, c2, c3, c4, c5]) rfl ⟨rfl, B8⟩
theorem refOpen_any' (v : Nat) (w : World) (hv : v < 18446744073709551616) : Calls Tryz.prog 82 #[.int .u64 v] w (OpenPost w (openP v)) := by
  by_cases h4 : (v : Int) % 8 = 4
  · have e : refHd v = ⟨4, 0, 0, (v : Int) / 134217728 % 4096, (v : Int) / 549755813888 % 4096, (v : Int) / 8 % 16777216⟩ := if_pos h4
    refine refOpen_fat v _ _ _ _ w hv h4 rfl rfl rfl (fun h => ?_) (fun h => ?_)
    · rw [← e] at h ⊢; exact ref_yes h
    · rw [← e] at h; exact ref_no h
  · have e : refHd v = ⟨(v : Int) % 8, (v : Int) / 134217728 % 32768, (v : Int) / 4398046511104 % 256, 0, 0, (v : Int) / 8 % 16777216⟩ := if_neg h4
    refine refOpen_any v _ _ _ _ _ w hv h4 rfl rfl rfl rfl (fun h => ?_) (fun h => ?_)
    · rw [← e] at h ⊢; exact ref_yes h
    · rw [← e] at h; exact ref_no h
end Go.Proofs.YtbaehokffdpopaaGreat
