/- The document's answer for layer 2: words of headers, headers of words. -/
import Derived.Test.YtmknnjjmmfbppaaGreatMgBegBU
import Derived.Test.YtmknnjjmmfbppaaGreatMgBegAR
namespace Go.Proofs.YtmknnjjmmfbppaaGreat
open Go.ChangeShapes Go.WideShapes Go.ChangeAt Go.RowKit
set_option linter.unusedVariables false
set_option linter.unusedSimpArgs false
open Wd
theorem ret_pair {a b : Int} {c : Bool} (h : a = b) : Ending.returned (.tuple #[.int .u64 a, .bool c]) = .returned (.tuple #[.int .u64 b, .bool c]) := by rw [h]
theorem word_fat (o c m g h : Int) (hk : okP ⟨4, o, c, m, g, h⟩) : 4 + h * 8 + m * 134217728 + g * 549755813888 = ((wordOf ⟨4, o, c, m, g, h⟩ : Nat) : Int) ∧ (0 ≤ h ∧ h ≤ 16777215) ∧ (0 ≤ m ∧ m ≤ 4095) ∧ (0 ≤ g ∧ g ≤ 4095) ∧ (o = 0 ∧ c = 0) := by
  obtain ⟨h1, h2, h3, h4, h5, h6, h7⟩ := hk
  have z := h5 (by show (4 : Int) ≠ 2; decide) (by show (4 : Int) ≠ 3; decide)
  have y := h6 rfl
  have h2 : 0 ≤ h ∧ h ≤ 16777215 := h2
  have y : (0 ≤ m ∧ m ≤ 4095) ∧ 0 ≤ g ∧ g ≤ 4095 := y
  have z : o = 0 ∧ c = 0 := z
  refine ⟨?_, h2, y.1, y.2, z⟩
  unfold wordOf; dsimp only
  omega
theorem word_any (t o c m g h : Int) (hk : okP ⟨t, o, c, m, g, h⟩) (h4 : ¬ t = 4) : t + h * 8 + o * 134217728 + c * 4398046511104 = ((wordOf ⟨t, o, c, m, g, h⟩ : Nat) : Int) ∧ (0 ≤ t ∧ t ≤ 4) ∧ (0 ≤ h ∧ h ≤ 16777215) ∧ (0 ≤ o ∧ o ≤ 32765) ∧ (0 ≤ c ∧ c ≤ 255) := by
  obtain ⟨h1, h2, h3, h4', h5, h6, h7⟩ := hk
  have h1 : 0 ≤ t ∧ t ≤ 4 := h1
  have h2 : 0 ≤ h ∧ h ≤ 16777215 := h2
  have h3 : t = 2 ∨ t = 3 → (0 ≤ o ∧ o ≤ 32765) ∧ 0 ≤ c ∧ c ≤ 255 := h3
  have h5 : t ≠ 2 → t ≠ 3 → o = 0 ∧ c = 0 := h5
  have z : m = 0 ∧ g = 0 := h7 h4
  have y : (0 ≤ o ∧ o ≤ 32765) ∧ (0 ≤ c ∧ c ≤ 255) := by
    by_cases e : t = 2 ∨ t = 3
    · exact h3 e
    · have := h5 (fun e2 => e (.inl e2)) (fun e3 => e (.inr e3)); omega
  refine ⟨?_, h1, h2, y.1, y.2⟩
  unfold wordOf; dsimp only
  omega
set_option maxRecDepth 100000 in
set_option maxHeartbeats 4000000 in
theorem refPack_fat (o c m g h : Int) (u : Nat) (w : World) (hk : okP ⟨4, o, c, m, g, h⟩) (hw : 4 + h * 8 + m * 134217728 + g * 549755813888 = (u : Int)) : Calls Tryz.prog 52 #[hdV ⟨4, o, c, m, g, h⟩] w (PackPost w (some u)) := by
  have HM := Lib.hid (fun W => may_any ⟨4, o, c, m, g, h⟩ W)
  have hhsz : Hid ((Tryz.prog.info? 100).map (·.size) = some (hdArr ⟨4, o, c, m, g, h⟩).size) := Lib.hid hd_size
  unfold MayPost at HM
  rw [ok_yes hk] at HM
  have hb := (word_fat o c m g h hk).2
  have HW := Lib.hid hw
  clear hk hw
  obtain ⟨⟨b0, b1⟩, ⟨b2, b3⟩, ⟨b4, b5⟩, ⟨b6, b7⟩⟩ := hb
  clear b6 b7
  go_enter Tryz.func52, Tryz.ntmps52
  go_upto_region 1 with fail
  generalize hW : w.alloc _ = W
  have T : HBox w w.heap.size ⟨4, o, c, m, g, h⟩ W := by rw [← hW]; exact ⟨by go_grown, Blk.new w _ _⟩
  clear hW
  go_upto_region 3 with (first
    | (refine wpList_load_row rfl 100 _ rfl w.heap.size rfl 100 (hdArr ⟨4, o, c, m, g, h⟩) (0, 0) _ T.blk Tryz.underlying100 rfl hhsz.out ?_; (try simp only [Act.put, List.setIfInBounds_toArray, List.set_cons_zero, List.set_cons_succ]))
    | (go_at_call 104; (with_reducible refine (HM.out _).mono ?_); rintro e w1 ⟨rfl, hb⟩; replace T := T.below hb; clear hb))
  obtain ⟨c0, c1, c2, c3, c4, c5⟩ := T.six
  go_wp2
  go_ret2
  exact ⟨ret_pair HW.out, T.base⟩
set_option maxRecDepth 100000 in
set_option maxHeartbeats 4000000 in
theorem refPack_any' (t o c m g h : Int) (u : Nat) (w : World) (hk : okP ⟨t, o, c, m, g, h⟩) (h4 : ¬ t = 4) (hw : t + h * 8 + o * 134217728 + c * 4398046511104 = (u : Int)) : Calls Tryz.prog 52 #[hdV ⟨t, o, c, m, g, h⟩] w (PackPost w (some u)) := by
  have HM := Lib.hid (fun W => may_any ⟨t, o, c, m, g, h⟩ W)
  have hhsz : Hid ((Tryz.prog.info? 100).map (·.size) = some (hdArr ⟨t, o, c, m, g, h⟩).size) := Lib.hid hd_size
  unfold MayPost at HM
  rw [ok_yes hk] at HM
  have hb := (word_any t o c m g h hk h4).2
  have HW := Lib.hid hw
  clear hk hw
  obtain ⟨⟨b0, b1⟩, ⟨b2, b3⟩, ⟨b4, b5⟩, ⟨b6, b7⟩⟩ := hb
  have bt : (t == 4) = false := by simp [h4]
  clear h4
  go_enter Tryz.func52, Tryz.ntmps52
  go_upto_region 1 with fail
  generalize hW : w.alloc _ = W
  have T : HBox w w.heap.size ⟨t, o, c, m, g, h⟩ W := by rw [← hW]; exact ⟨by go_grown, Blk.new w _ _⟩
  clear hW
  go_upto_region 3 with (first
    | (refine wpList_load_row rfl 100 _ rfl w.heap.size rfl 100 (hdArr ⟨t, o, c, m, g, h⟩) (0, 0) _ T.blk Tryz.underlying100 rfl hhsz.out ?_; (try simp only [Act.put, List.setIfInBounds_toArray, List.set_cons_zero, List.set_cons_succ]))
    | (go_at_call 104; (with_reducible refine (HM.out _).mono ?_); rintro e w1 ⟨rfl, hb⟩; replace T := T.below hb; clear hb))
  obtain ⟨c0, c1, c2, c3, c4, c5⟩ := T.six
  go_wp2
  go_ret2
  exact ⟨ret_pair HW.out, T.base⟩
set_option maxHeartbeats 1000000 in
theorem refPack_none (x : Hd) (w : World) (hk : ¬ okP x) : Calls Tryz.prog 52 #[hdV x] w (PackPost w none) := by
  have HM := Lib.hid (fun W => may_any x W)
  have hhsz : Hid ((Tryz.prog.info? 100).map (·.size) = some (hdArr x).size) := Lib.hid hd_size
  unfold MayPost at HM
  rw [ok_no hk] at HM
  clear hk
  go_enter Tryz.func52, Tryz.ntmps52
  go_upto_region 1 with fail
  generalize hW : w.alloc _ = W
  have T : HBox w w.heap.size x W := by rw [← hW]; exact ⟨by go_grown, Blk.new w _ _⟩
  clear hW
  go_wp2_with (first
    | (refine wpList_load_row rfl 100 _ rfl w.heap.size rfl 100 (hdArr x) (0, 0) _ T.blk Tryz.underlying100 rfl hhsz.out ?_; (try simp only [Act.put, List.setIfInBounds_toArray, List.set_cons_zero, List.set_cons_succ]))
    | (go_at_call 104; (with_reducible refine (HM.out _).mono ?_); rintro e w1 ⟨rfl, hb⟩; have T1 := T.below hb; clear hb))
  go_ret2
  exact ⟨rfl, T1.base⟩
theorem refPack_any (x : Hd) (w : World) : Calls Tryz.prog 52 #[hdV x] w (PackPost w (packP x)) := by
  obtain ⟨t, o, c, m, g, h⟩ := x
  by_cases hk : okP ⟨t, o, c, m, g, h⟩
  · rw [packP_eq, if_pos hk]
    by_cases h4 : t = 4
    · subst h4; exact refPack_fat o c m g h _ w hk (word_fat o c m g h hk).1
    · exact refPack_any' t o c m g h _ w hk h4 (word_any t o c m g h hk h4).1
  · rw [pack_none_iff.2 hk]; exact refPack_none _ w hk
/-- the document's header of a word, before it is asked whether that has this word -/
def refHd (v : Nat) : Hd := if (v : Int) % 8 = 4 then ⟨4, 0, 0, (v : Int) / 134217728 % 4096, (v : Int) / 549755813888 % 4096, (v : Int) / 8 % 16777216⟩
  else ⟨(v : Int) % 8, (v : Int) / 134217728 % 32768, (v : Int) / 4398046511104 % 256, 0, 0, (v : Int) / 8 % 16777216⟩
theorem refHd_word (x : Hd) (hk : okP x) : refHd (wordOf x) = x := by
  obtain ⟨t, o, c, m, g, h⟩ := x
  by_cases h4 : t = 4
  · subst h4
    obtain ⟨hw, h2, hm, hg, ho, hc⟩ := word_fat o c m g h hk
    generalize wordOf ⟨4, o, c, m, g, h⟩ = u at *
    unfold refHd
    rw [if_pos (by omega)]
    have e1 : (u : Int) / 134217728 % 4096 = m := by omega
    have e2 : (u : Int) / 549755813888 % 4096 = g := by omega
    have e3 : (u : Int) / 8 % 16777216 = h := by omega
    rw [e1, e2, e3, ho, hc]
  · have hmg : m = 0 ∧ g = 0 := hk.2.2.2.2.2.2 h4
    obtain ⟨hw, ht, hh, ho, hc⟩ := word_any t o c m g h hk h4
    generalize wordOf ⟨t, o, c, m, g, h⟩ = u at *
    have e0 : (u : Int) % 8 = t := by omega
    have e1 : (u : Int) / 134217728 % 32768 = o := by omega
    have e2 : (u : Int) / 4398046511104 % 256 = c := by omega
    have e3 : (u : Int) / 8 % 16777216 = h := by omega
    unfold refHd
    rw [if_neg (by omega), e0, e1, e2, e3, hmg.1, hmg.2]
theorem ref_yes {v : Nat} (h : packP (refHd v) = some v) : openP v = some (refHd v) := open_of_pack h
theorem ref_no {v : Nat} (h : packP (refHd v) ≠ some v) : openP v = none := by
  cases ho : openP v with
  | none => rfl
  | some y =>
    obtain ⟨hk, hw⟩ := open_some ho
    exfalso
    apply h
    rw [← hw, refHd_word y hk, packP_eq, if_pos hk]
set_option maxRecDepth 100000 in
set_option maxHeartbeats 4000000 in
theorem refOpen_fat (v : Nat) (m g h : Int) (r : Option Hd) (w : World) (hv : v < 18446744073709551616)
    (e0 : (v : Int) % 8 = 4) (e1 : (v : Int) / 134217728 % 4096 = m) (e2 : (v : Int) / 549755813888 % 4096 = g) (e3 : (v : Int) / 8 % 16777216 = h)
    (hyes : packP ⟨4, 0, 0, m, g, h⟩ = some v → r = some ⟨4, 0, 0, m, g, h⟩) (hno : packP ⟨4, 0, 0, m, g, h⟩ ≠ some v → r = none) : Calls Tryz.prog 64 #[.int .u64 v] w (OpenPost w r) := by
  have HK := Lib.hid (fun W => refPack_any ⟨4, 0, 0, m, g, h⟩ W)
  have HY := Lib.hid hyes
  have HN := Lib.hid hno
  clear hyes hno
  generalize packP ⟨4, 0, 0, m, g, h⟩ = u at *
  have hhsz : Hid ((Tryz.prog.info? 100).map (·.size) = some (hdArr ⟨4, 0, 0, m, g, h⟩).size) := Lib.hid hd_size
  have hhsz0 : Hid ((Tryz.prog.info? 100).map (·.size) = some zero6.size) := Lib.hid hd_size
  have hhone := Lib.hid (hd_one ⟨4, 0, 0, m, g, h⟩)
  have hz1 : Hid (zero6.all (·.oneCell') = true) := Lib.hid (by simp [Value.oneCell'])
  go_enter Tryz.func64, Tryz.ntmps64
  go_upto_region 1 with fail
  generalize hW : w.alloc _ = W
  have B0 : Below w.heap.size w W := by rw [← hW]; go_grown
  have R0 : Blk W w.heap.size 100 zero6 := by rw [← hW]; exact Blk.new w _ _
  clear hW
  go_upto_region 7 with fail
  have N0 := Blk.new W 100 (hdArr ⟨4, 0, 0, m, g, h⟩)
  have R1 := R0.alloc (.cells (hdArr ⟨4, 0, 0, m, g, h⟩) 100)
  have B1 := B0.alloc B0.size (.cells (hdArr ⟨4, 0, 0, m, g, h⟩) 100)
  generalize hW : W.alloc _ = W1 at *
  generalize W.heap.size = BH at *
  clear hW R0 B0
  clear e0 e1 e2 e3
  go_upto_region 8 with (first
    | (refine wpList_load_row rfl 100 _ rfl BH rfl 100 (hdArr ⟨4, 0, 0, m, g, h⟩) (0, 0) _ N0 Tryz.underlying100 rfl hhsz.out ?_; (try simp only [Act.put, List.setIfInBounds_toArray, List.set_cons_zero, List.set_cons_succ]))
    | (go_at_call 52; (with_reducible refine (HK.out _).mono ?_); rintro e w6 ⟨rfl, hb⟩; have N6 := N0.below hb N0.lt; have R6 := R1.below hb R1.lt; have B6 := B1.trans (hb.mono B1.size); clear hb))
  clear N0 R1 B1
  by_cases hu : u = some v
  · obtain rfl := HY.out hu
    subst hu
    clear HY HN
    go_wp2_with (first
      | (refine wpList_load_row rfl 100 _ rfl BH rfl 100 (hdArr ⟨4, 0, 0, m, g, h⟩) (0, 0) _ N6 Tryz.underlying100 rfl hhsz.out ?_; (try simp only [Act.put, List.setIfInBounds_toArray, List.set_cons_zero, List.set_cons_succ]))
      | (refine wpList_store_row rfl 100 _ _ rfl w.heap.size (hdArr ⟨4, 0, 0, m, g, h⟩) rfl rfl 100 zero6 R6 hhsz.out rfl hhone.out ?_; (try simp only [Act.put, List.setIfInBounds_toArray, List.set_cons_zero, List.set_cons_succ])))
    have R8 := R6.row (hdArr ⟨4, 0, 0, m, g, h⟩)
    have B8 := below_setRow B6 (Nat.le_refl _) (hdArr ⟨4, 0, 0, m, g, h⟩)
    generalize hW : w6.setRow _ _ = w8 at *
    have c0 := R8.cell 0 _ rfl
    have c1 := R8.cell 1 _ rfl
    have c2 := R8.cell 2 _ rfl
    have c3 := R8.cell 3 _ rfl
    have c4 := R8.cell 4 _ rfl
    have c5 := R8.cell 5 _ rfl
    exact bodyPost_ret (v := .tuple #[hdV ⟨4, 0, 0, m, g, h⟩, .bool true]) (by simp [results, Tryz.results64, go_sem, c0, c1, c2, c3, c4, c5]) rfl ⟨rfl, B8⟩
  · obtain rfl := HN.out hu
    clear HY HN
    cases u with
    | none =>
      clear hu
      go_wp2_with (refine wpList_store_row rfl 100 _ _ rfl w.heap.size zero6 rfl rfl 100 zero6 R6 hhsz0.out rfl hz1.out ?_; (try simp only [Act.put, List.setIfInBounds_toArray, List.set_cons_zero, List.set_cons_succ]))
      have R8 := R6.row zero6
      have B8 := below_setRow B6 (Nat.le_refl _) zero6
      generalize hW : w6.setRow _ _ = w8 at *
      have c0 := R8.cell 0 _ rfl
      have c1 := R8.cell 1 _ rfl
      have c2 := R8.cell 2 _ rfl
      have c3 := R8.cell 3 _ rfl
      have c4 := R8.cell 4 _ rfl
      have c5 := R8.cell 5 _ rfl
      exact bodyPost_ret (v := .tuple #[hdV ⟨0, 0, 0, 0, 0, 0⟩, .bool false]) (by simp [results, Tryz.results64, go_sem, c0, c1, c2, c3, c4, c5]) rfl ⟨rfl, B8⟩
    | some a =>
      have hne : a ≠ v := fun h => hu (by rw [h])
      have hne2 : (((a : Nat) : Int) != ((v : Nat) : Int)) = true := by simp; omega
      clear hu
      have hne3 : ¬ (((a : Nat) : Int) = ((v : Nat) : Int)) := by omega
      clear hne
      go_wp2_with (refine wpList_store_row rfl 100 _ _ rfl w.heap.size zero6 rfl rfl 100 zero6 R6 hhsz0.out rfl hz1.out ?_; (try simp only [Act.put, List.setIfInBounds_toArray, List.set_cons_zero, List.set_cons_succ]))
      have R8 := R6.row zero6
      have B8 := below_setRow B6 (Nat.le_refl _) zero6
      generalize hW : w6.setRow _ _ = w8 at *
      have c0 := R8.cell 0 _ rfl
      have c1 := R8.cell 1 _ rfl
      have c2 := R8.cell 2 _ rfl
      have c3 := R8.cell 3 _ rfl
      have c4 := R8.cell 4 _ rfl
      have c5 := R8.cell 5 _ rfl
      exact bodyPost_ret (v := .tuple #[hdV ⟨0, 0, 0, 0, 0, 0⟩, .bool false]) (by simp [results, Tryz.results64, go_sem, c0, c1, c2, c3, c4, c5]) rfl ⟨rfl, B8⟩
set_option maxRecDepth 100000 in
set_option maxHeartbeats 4000000 in
theorem refOpen_any (v : Nat) (t o c h : Int) (r : Option Hd) (w : World) (hv : v < 18446744073709551616)
    (h4 : ¬ t = 4) (e0 : (v : Int) % 8 = t) (e1 : (v : Int) / 134217728 % 32768 = o) (e2 : (v : Int) / 4398046511104 % 256 = c) (e3 : (v : Int) / 8 % 16777216 = h)
    (hyes : packP ⟨t, o, c, 0, 0, h⟩ = some v → r = some ⟨t, o, c, 0, 0, h⟩) (hno : packP ⟨t, o, c, 0, 0, h⟩ ≠ some v → r = none) : Calls Tryz.prog 64 #[.int .u64 v] w (OpenPost w r) := by
  have HK := Lib.hid (fun W => refPack_any ⟨t, o, c, 0, 0, h⟩ W)
  have HY := Lib.hid hyes
  have HN := Lib.hid hno
  clear hyes hno
  generalize packP ⟨t, o, c, 0, 0, h⟩ = u at *
  have hhsz : Hid ((Tryz.prog.info? 100).map (·.size) = some (hdArr ⟨t, o, c, 0, 0, h⟩).size) := Lib.hid hd_size
  have hhsz0 : Hid ((Tryz.prog.info? 100).map (·.size) = some zero6.size) := Lib.hid hd_size
  have hhone := Lib.hid (hd_one ⟨t, o, c, 0, 0, h⟩)
  have hz1 : Hid (zero6.all (·.oneCell') = true) := Lib.hid (by simp [Value.oneCell'])
  have bt : (t == 4) = false := by simp [h4]
  go_enter Tryz.func64, Tryz.ntmps64
  go_upto_region 1 with fail
  generalize hW : w.alloc _ = W
  have B0 : Below w.heap.size w W := by rw [← hW]; go_grown
  have R0 : Blk W w.heap.size 100 zero6 := by rw [← hW]; exact Blk.new w _ _
  clear hW
  go_upto_region 7 with fail
  have N0 := Blk.new W 100 (hdArr ⟨t, o, c, 0, 0, h⟩)
  have R1 := R0.alloc (.cells (hdArr ⟨t, o, c, 0, 0, h⟩) 100)
  have B1 := B0.alloc B0.size (.cells (hdArr ⟨t, o, c, 0, 0, h⟩) 100)
  generalize hW : W.alloc _ = W1 at *
  generalize W.heap.size = BH at *
  clear hW R0 B0
  clear e0 e1 e2 e3 bt h4
  go_upto_region 8 with (first
    | (refine wpList_load_row rfl 100 _ rfl BH rfl 100 (hdArr ⟨t, o, c, 0, 0, h⟩) (0, 0) _ N0 Tryz.underlying100 rfl hhsz.out ?_; (try simp only [Act.put, List.setIfInBounds_toArray, List.set_cons_zero, List.set_cons_succ]))
    | (go_at_call 52; (with_reducible refine (HK.out _).mono ?_); rintro e w6 ⟨rfl, hb⟩; have N6 := N0.below hb N0.lt; have R6 := R1.below hb R1.lt; have B6 := B1.trans (hb.mono B1.size); clear hb))
  clear N0 R1 B1
  by_cases hu : u = some v
  · obtain rfl := HY.out hu
    subst hu
    clear HY HN
    go_wp2_with (first
      | (refine wpList_load_row rfl 100 _ rfl BH rfl 100 (hdArr ⟨t, o, c, 0, 0, h⟩) (0, 0) _ N6 Tryz.underlying100 rfl hhsz.out ?_; (try simp only [Act.put, List.setIfInBounds_toArray, List.set_cons_zero, List.set_cons_succ]))
      | (refine wpList_store_row rfl 100 _ _ rfl w.heap.size (hdArr ⟨t, o, c, 0, 0, h⟩) rfl rfl 100 zero6 R6 hhsz.out rfl hhone.out ?_; (try simp only [Act.put, List.setIfInBounds_toArray, List.set_cons_zero, List.set_cons_succ])))
    have R8 := R6.row (hdArr ⟨t, o, c, 0, 0, h⟩)
    have B8 := below_setRow B6 (Nat.le_refl _) (hdArr ⟨t, o, c, 0, 0, h⟩)
    generalize hW : w6.setRow _ _ = w8 at *
    have c0 := R8.cell 0 _ rfl
    have c1 := R8.cell 1 _ rfl
    have c2 := R8.cell 2 _ rfl
    have c3 := R8.cell 3 _ rfl
    have c4 := R8.cell 4 _ rfl
    have c5 := R8.cell 5 _ rfl
    exact bodyPost_ret (v := .tuple #[hdV ⟨t, o, c, 0, 0, h⟩, .bool true]) (by simp [results, Tryz.results64, go_sem, c0, c1, c2, c3, c4, c5]) rfl ⟨rfl, B8⟩
  · obtain rfl := HN.out hu
    clear HY HN
    cases u with
    | none =>
      clear hu
      go_wp2_with (refine wpList_store_row rfl 100 _ _ rfl w.heap.size zero6 rfl rfl 100 zero6 R6 hhsz0.out rfl hz1.out ?_; (try simp only [Act.put, List.setIfInBounds_toArray, List.set_cons_zero, List.set_cons_succ]))
      have R8 := R6.row zero6
      have B8 := below_setRow B6 (Nat.le_refl _) zero6
      generalize hW : w6.setRow _ _ = w8 at *
      have c0 := R8.cell 0 _ rfl
      have c1 := R8.cell 1 _ rfl
      have c2 := R8.cell 2 _ rfl
      have c3 := R8.cell 3 _ rfl
      have c4 := R8.cell 4 _ rfl
      have c5 := R8.cell 5 _ rfl
      exact bodyPost_ret (v := .tuple #[hdV ⟨0, 0, 0, 0, 0, 0⟩, .bool false]) (by simp [results, Tryz.results64, go_sem, c0, c1, c2, c3, c4, c5]) rfl ⟨rfl, B8⟩
    | some a =>
      have hne : a ≠ v := fun h => hu (by rw [h])
      have hne2 : (((a : Nat) : Int) != ((v : Nat) : Int)) = true := by simp; omega
      clear hu
      have hne3 : ¬ (((a : Nat) : Int) = ((v : Nat) : Int)) := by omega
      clear hne
      go_wp2_with (refine wpList_store_row rfl 100 _ _ rfl w.heap.size zero6 rfl rfl 100 zero6 R6 hhsz0.out rfl hz1.out ?_; (try simp only [Act.put, List.setIfInBounds_toArray, List.set_cons_zero, List.set_cons_succ]))
      have R8 := R6.row zero6
      have B8 := below_setRow B6 (Nat.le_refl _) zero6
      generalize hW : w6.setRow _ _ = w8 at *
      have c0 := R8.cell 0 _ rfl
      have c1 := R8.cell 1 _ rfl
      have c2 := R8.cell 2 _ rfl
      have c3 := R8.cell 3 _ rfl
      have c4 := R8.cell 4 _ rfl
      have c5 := R8.cell 5 _ rfl
      exact bodyPost_ret (v := .tuple #[hdV ⟨0, 0, 0, 0, 0, 0⟩, .bool false]) (by simp [results, Tryz.results64, go_sem, c0, c1, c2, c3, c4, c5]) rfl ⟨rfl, B8⟩
theorem refOpen_any' (v : Nat) (w : World) (hv : v < 18446744073709551616) : Calls Tryz.prog 64 #[.int .u64 v] w (OpenPost w (openP v)) := by
  by_cases h4 : (v : Int) % 8 = 4
  · have e : refHd v = ⟨4, 0, 0, (v : Int) / 134217728 % 4096, (v : Int) / 549755813888 % 4096, (v : Int) / 8 % 16777216⟩ := if_pos h4
    refine refOpen_fat v _ _ _ _ w hv h4 rfl rfl rfl (fun h => ?_) (fun h => ?_)
    · rw [← e] at h ⊢; exact ref_yes h
    · rw [← e] at h; exact ref_no h
  · have e : refHd v = ⟨(v : Int) % 8, (v : Int) / 134217728 % 32768, (v : Int) / 4398046511104 % 256, 0, 0, (v : Int) / 8 % 16777216⟩ := if_neg h4
    refine refOpen_any v _ _ _ _ _ w hv h4 rfl rfl rfl rfl (fun h => ?_) (fun h => ?_)
    · rw [← e] at h ⊢; exact ref_yes h
    · rw [← e] at h; exact ref_no h
end Go.Proofs.YtmknnjjmmfbppaaGreat
/- Law 13's document: all cells, at first. -/
namespace Go.Proofs.YtmknnjjmmfbppaaGreat
open Go.ChangeShapes Go.WideShapes Go.ChangeAt Go.RowKit Wd
set_option linter.unusedVariables false
set_option maxRecDepth 100000
set_option linter.unusedSimpArgs false
theorem make_u64s (n : Nat) (w : World) (hn : n ≤ 16777216) : (Instr.makeSlice 34 (.int .i64 (n : Int)) (.int .i64 (n : Int))).run Tryz.prog w = .ok (.slice (some ⟨w.heap.size, 0, none⟩) n n) (w.alloc (.cells (words (List.replicate n 0)) 55)) := by
  obtain ⟨i, hi, hz0, hz1, hz2⟩ := info_parts u64_info
  have h := run_make (P := Tryz.prog) w 34 55 i _ Tryz.underlying34 hi hz0 .i64 .i64 n n (by omega) (by omega) (by rw [hz2]; omega) (by omega)
  rw [h, hz1, Nat.mul_one]
  simp only [Int.toNat_natCast]
  rw [← words_zeros]
  rfl
/-- what the document's Cells gives -/
def RCellsPost (w : World) (m : Mp) (f : Nat → Int) (e : Ending) (w' : World) : Prop :=
  ∃ S, e = .returned (.slice (some ⟨S, 0, none⟩) (sizeN m) (sizeN m)) ∧ Blk w' S 55 (words (safesGo m (wordsGo f (List.replicate (sizeN m) 0) m.o) m.t)) ∧ w.heap.size ≤ S ∧ Below w.heap.size w w'
set_option maxHeartbeats 8000000 in
theorem rcells_gen (m : Mp) (H : List Int) (F : List Bool) (ha : Option Addr) (hc : Nat) (fa : Option Addr) (fc : Nat) (w : World) (hm : m.ok) (hh : SliceAt intE w (.slice ha H.length hc) H) (hf : SliceAt Value.bool w (.slice fa F.length fc) F) (f : Nat → Int)
    (hpk : ∀ o, o < m.o → ∀ V, Calls Tryz.prog 52 #[.agg #[.int .i64 (tagO F o), .int .i64 0, .int .i64 0, .int .i64 0, .int .i64 0, .int .i64 (hashO H o)]] V fun e w' => e = .returned (.tuple #[.int .u64 (f o), .bool true]) ∧ Below V.heap.size V w') :
    Calls Tryz.prog 11 #[mapV m, .slice ha H.length hc, .slice fa F.length fc] w (RCellsPost w m f) := by
  have HS := Lib.hid fun V => size_any m V hm
  have HPK := Lib.hid hpk
  have HM := Lib.hid hm
  have hsn : sizeN m ≤ 1000000 := by have := hm.t; have := hm.o; have := hm.n; unfold sizeN; omega
  have hmk := fun W => make_u64s (sizeN m) W (by omega)
  have hbo : m.o ≤ 65536 ∧ m.t ≤ 32766 ∧ 2 + m.o + 6 * m.t ≤ sizeN m := by have := hm.t; have := hm.o; refine ⟨by omega, by omega, ?_⟩; unfold sizeN; omega
  have HH := Lib.hid hh
  have HF := Lib.hid hf
  obtain ⟨nh, hnh⟩ : ∃ nh, H.length = nh := ⟨_, rfl⟩
  obtain ⟨kf, hkf⟩ : ∃ kf, F.length = kf := ⟨_, rfl⟩
  rw [hnh, hkf]
  rw [hnh] at HH
  rw [hkf] at HF
  have HNH := Lib.hid hnh
  have HKF := Lib.hid hkf
  clear hpk hm hh hf hnh hkf
  obtain ⟨sz, hsz⟩ : ∃ sz, sizeN m = sz := ⟨_, rfl⟩
  have HSZ := Lib.hid hsz
  have hpost : RCellsPost w m f = fun e w' => ∃ S, e = .returned (.slice (some ⟨S, 0, none⟩) sz sz) ∧ Blk w' S 55 (words (safesGo m (wordsGo f (List.replicate sz 0) m.o) m.t)) ∧ w.heap.size ≤ S ∧ Below w.heap.size w w' := by
    unfold RCellsPost
    rw [hsz]
  rw [hpost]
  rw [hsz] at HS hmk hsn hbo
  clear hpost hsz
  obtain ⟨mz, hmz⟩ : ∃ mz, mz = List.replicate sz (0 : Int) := ⟨_, rfl⟩
  have HML := Lib.hid (show mz.length = sz by rw [hmz]; simp)
  rw [← hmz] at hmk ⊢
  clear hmz
  go_enter Tryz.func11, Tryz.ntmps11
  go_upto_region 1 with fail
  generalize hW : w.alloc _ = W
  have bW : Below w.heap.size w W := by rw [← hW]; go_grown
  have m0 : Blk W w.heap.size 28 (mapCs m) := by rw [← hW]; exact Blk.new w _ _
  clear hW
  obtain ⟨c0, c1, c2⟩ := map3 m0
  go_upto_region 3 with (go_at_call 51; (with_reducible refine (HS.out _).mono ?_); rintro e w2 ⟨rfl, b2⟩)
  --GEN
  have m2 := m0.below b2 m0.lt
  have r2 : Blk (w2.alloc (.cells (words mz) 55)) w2.heap.size 55 (words mz) := Blk.new _ _ _
  have m3 := m2.alloc (.cells (words mz) 55)
  have b3 : Below w.heap.size w (w2.alloc (.cells (words mz) 55)) := (bW.trans (b2.mono bW.size)).alloc (by have := bW.size; have := b2.size; omega) _
  have hSs : W.heap.size ≤ w2.heap.size := b2.size
  have hm0 := m0.lt
  have hSM : w.heap.size ≠ w2.heap.size := by omega
  generalize hb2 : w2.heap.size = S at *
  generalize hW : w2.alloc (.cells (words mz) 55) = w3 at *
  clear hW hb2 b2 bW m0 m2 c0 c1 c2 hmk HS
  have M3 := Lib.hid m3
  have R3 := Lib.hid r2
  have B3 := Lib.hid b3
  have hws : w.heap.size ≤ S := by omega
  clear m3 r2 b3 hm0 hSs
  go_loopw [8] (fun v8 wr => ∃ o : Nat, o ≤ m.o ∧ v8 = .int .i64 (o : Int) ∧ Blk wr S 55 (words (wordsGo f mz o)) ∧ Blk wr w.heap.size 28 (mapCs m) ∧ Below w.heap.size w wr) (fun v8 _ => (m.o - intOf v8).toNat)
  case atStart => exact ⟨0, by omega, rfl, R3.out, M3.out, B3.out⟩
  case round =>
    obtain ⟨o, ho, rfl, hrow, hmp, hbr⟩ := hrel
    obtain ⟨c0, c1, c2⟩ := map3 hmp
    by_cases hlt : o < m.o
    · have HLT := Lib.hid hlt
      have hin : wordN (o : Int) < (wordsGo f mz o).length := by rw [wordsGo_len, HML.out]; unfold wordN; omega
      obtain ⟨old, hold⟩ : ∃ old, (words (wordsGo f mz o))[wordN (o : Int)]? = some old := ⟨_, words_at (List.getElem?_eq_getElem hin)⟩
      have HWD := Lib.hid fun V => mword_any m (o : Int) V (by omega)
      have hwn : ((wordN (o : Int) : Nat) : Int) < (sz : Int) := by rw [wordsGo_len, HML.out] at hin; omega
      have hwb : ((wordN (o : Int) : Nat) : Int) < 1000000 := by omega
      have hix : ∀ V, (Instr.indexAt 34 (.slice (some ⟨S, 0, none⟩) sz sz) (.int .i64 ((wordN (o : Int) : Nat) : Int))).run Tryz.prog V = .ok (.pointer (some ⟨S, wordN (o : Int), none⟩)) V := by
        intro V
        go_simp
      have sH : SlN intE wr ha H := fun i x hx => by
        obtain ⟨a', c', e, h⟩ := HH.out
        injection e with e1 e2 e3
        subst e1
        obtain ⟨b, off, e4, e5⟩ := h i x hx
        exact ⟨b, off, e4, cell_below e5 hbr⟩
      have sF : SlN Value.bool wr fa F := fun i x hx => by
        obtain ⟨a', c', e, h⟩ := HF.out
        injection e with e1 e2 e3
        subst e1
        obtain ⟨b, off, e4, e5⟩ := h i x hx
        exact ⟨b, off, e4, cell_below e5 hbr⟩
      clear hin
      go_upto_region 6 with fail
      have q6 : Blk (wr.alloc (.cells #[.int .i64 1, .int .i64 0, .int .i64 0, .int .i64 0, .int .i64 0, .int .i64 0] 100)) wr.heap.size 100 #[.int .i64 1, .int .i64 0, .int .i64 0, .int .i64 0, .int .i64 0, .int .i64 0] := Blk.new _ _ _
      have p6 := hmp.alloc (.cells #[.int .i64 1, .int .i64 0, .int .i64 0, .int .i64 0, .int .i64 0, .int .i64 0] 100)
      have r6 := hrow.alloc (.cells #[.int .i64 1, .int .i64 0, .int .i64 0, .int .i64 0, .int .i64 0, .int .i64 0] 100)
      have b6 : Below wr.heap.size wr (wr.alloc (.cells #[.int .i64 1, .int .i64 0, .int .i64 0, .int .i64 0, .int .i64 0, .int .i64 0] 100)) := by go_grown
      have sH6 := SlN.below (enc := intE) sH b6
      have sF6 := sF.below b6
      have hrl := hrow.lt
      have hml := hmp.lt
      have hSB : wr.heap.size ≠ S := by omega
      have hMB : w.heap.size ≠ wr.heap.size := by omega
      have hB5 : w.heap.size ≤ wr.heap.size := hbr.size
      have BR6 := Lib.hid (hbr.trans (b6.mono hbr.size))
      clear sH sF b6 hrow hmp hbr c0 c1 c2
      generalize hb5 : wr.heap.size = B5 at *
      generalize hW : wr.alloc (.cells #[.int .i64 1, .int .i64 0, .int .i64 0, .int .i64 0, .int .i64 0, .int .i64 0] 100) = w6 at *
      clear hW hb5 hrl hml
      have hoo : (o : Int) < 70000 := by omega
      by_cases hoH : o < nh
      · have hoH2 : o < H.length := by rw [HNH.out]; exact hoH
        obtain ⟨bh, oh, rfl, gx⟩ := sH6 o _ (List.getElem?_eq_getElem hoH2)
        have eH : hashO H o = H[o] := by simp [hashO, hoH2]
        generalize H[o] = x at *
        replace gx : w6.cell? ⟨bh, oh + o, none⟩ = some (.int .i64 x) := gx
        have hih : ∀ V, (Instr.indexAt 23 (.slice (some ⟨bh, oh, none⟩) nh hc) (.int .i64 (o : Int))).run Tryz.prog V = .ok (.pointer (some ⟨bh, oh + o, none⟩)) V := by
          intro V
          go_simp
        have d5 := q6.cell 5 _ rfl
        have z5 := q6.free 5
        have q7 := q6.set 5 (.int .i64 x)
        simp only [List.setIfInBounds_toArray, List.set_cons_zero, List.set_cons_succ] at q7
        have p7 := p6.far hMB 5 (.int .i64 x) (C := B5)
        have r7 := r6.far (fun e => hSB e.symm) 5 (.int .i64 x) (C := B5)
        have k7 := Keep.set (Keep.refl (fun b => b = B5) w6) (p := ⟨B5, 5, none⟩) (fun _ => rfl) (.int .i64 x)
        have BR7 := Lib.hid (BR6.out.trans (k7.below (n := w.heap.size) (by have := BR6.out.size; omega) (fun b _ e => by omega)))
        go_upto_region 8 with fail
        clear q6 p6 r6 gx d5 z5 sH6 sF6 k7 BR6 hih
        generalize w6.setCell ⟨B5, 5, none⟩ (.int .i64 x) = w7 at *
        have sF : SlN Value.bool w7 fa F := fun i x hx => by
          obtain ⟨a', c', e, h⟩ := HF.out
          injection e with e1 e2 e3
          subst e1
          obtain ⟨b, off, e4, e5⟩ := h i x hx
          exact ⟨b, off, e4, cell_below e5 BR7.out⟩
        have d0 := q7.cell 0 _ rfl
        have d5 := q7.cell 5 _ rfl
        have z0 := q7.free 0
        have z5 := q7.free 5
        obtain ⟨c0, c1, c2⟩ := map3 p7
        by_cases hoF : o < kf
        · have hoF2 : o < F.length := by rw [HKF.out]; exact hoF
          obtain ⟨bf, of, rfl, gy⟩ := sF o _ (List.getElem?_eq_getElem hoF2)
          have eT0 : tagO F o = if F[o] then 0 else 1 := by simp [tagO, freshO, hoF2]
          generalize F[o] = y at *
          replace gy : w7.cell? ⟨bf, of + o, none⟩ = some (.bool y) := gy
          have hif : ∀ V, (Instr.indexAt 24 (.slice (some ⟨bf, of, none⟩) kf fc) (.int .i64 (o : Int))).run Tryz.prog V = .ok (.pointer (some ⟨bf, of + o, none⟩)) V := by
            intro V
            go_simp
          cases y
          · have eT : tagO F o = 1 := by rw [eT0]; rfl
            clear eT0 sF
            go_upto_region 10 with fail
            have q8 := q7
            have p8 := p7
            have r8 := r7
            have BR8 := Lib.hid BR7.out
            clear q7 p7 r7 c0 c1 c2 gy d0 d5 z0 z5 hif
            generalize hw8 : w7 = w8 at *
            clear hw8
            have HP1 := Lib.hid (show ∀ V, Calls Tryz.prog 52 #[.agg #[.int .i64 1, .int .i64 0, .int .i64 0, .int .i64 0, .int .i64 0, .int .i64 x]] V fun e w' => e = .returned (.tuple #[.int .u64 (f o), .bool true]) ∧ Below V.heap.size V w' from fun V => by
              have := HPK.out o HLT.out V
              rw [eT, eH] at this
              exact this)
            have QX := Lib.hid (And.intro q8 (And.intro p8 r8))
            have SK := Lib.hid (show ∀ V, Keep (fun b => b = S) w8 V → V.cell? ⟨w.heap.size, 0, none⟩ = some (.int .i64 (m.t : Int)) ∧ V.cell? ⟨w.heap.size, 1, none⟩ = some (.int .i64 (m.o : Int)) ∧ V.cell? ⟨w.heap.size, 2, none⟩ = some (.int .i64 (m.n : Int)) ∧ V.cell? ⟨B5, 0, none⟩ = some (.int .i64 1) ∧ V.cell? ⟨B5, 1, none⟩ = some (.int .i64 0) ∧ V.cell? ⟨B5, 2, none⟩ = some (.int .i64 0) ∧ V.cell? ⟨B5, 3, none⟩ = some (.int .i64 0) ∧ V.cell? ⟨B5, 4, none⟩ = some (.int .i64 0) ∧ V.cell? ⟨B5, 5, none⟩ = some (.int .i64 x) from fun V hk => by
              have q := QX.out.1.keep hk (fun e => hSB e)
              have p := QX.out.2.1.keep hk (fun e => hSM e)
              exact ⟨p.cell 0 _ rfl, p.cell 1 _ rfl, p.cell 2 _ rfl, q.cell 0 _ rfl, q.cell 1 _ rfl, q.cell 2 _ rfl, q.cell 3 _ rfl, q.cell 4 _ rfl, q.cell 5 _ rfl⟩)
            clear q8 p8 r8 eT eH
            have bc := bdrewP w8
            go_region_held3 (fun V => V.cell? ⟨w.heap.size, 0, none⟩ = some (.int .i64 (m.t : Int)) ∧ V.cell? ⟨w.heap.size, 1, none⟩ = some (.int .i64 (m.o : Int)) ∧ V.cell? ⟨w.heap.size, 2, none⟩ = some (.int .i64 (m.n : Int)) ∧ V.cell? ⟨B5, 0, none⟩ = some (.int .i64 1) ∧ V.cell? ⟨B5, 1, none⟩ = some (.int .i64 0) ∧ V.cell? ⟨B5, 2, none⟩ = some (.int .i64 0) ∧ V.cell? ⟨B5, 3, none⟩ = some (.int .i64 0) ∧ V.cell? ⟨B5, 4, none⟩ = some (.int .i64 0) ∧ V.cell? ⟨B5, 5, none⟩ = some (.int .i64 x)) (first | exact SK.out _ (Keep.ofBelow bc) | exact SK.out _ kS) (first
              | (go_at_call 53; (with_reducible refine (HWD.out _).mono ?_); rintro e w9 ⟨rfl, b9⟩; replace bc := Below.trans bc (Below.mono b9 bc.size))
              | (go_at_call 52; (with_reducible refine (HP1.out _).mono ?_); rintro e w10 ⟨rfl, b10⟩; replace bc := Below.trans bc (Below.mono b10 bc.size); have rX := QX.out.2.2.below bc QX.out.2.2.lt; have cS := rX.cell (wordN (o : Int)) _ hold; have zS := rX.free (wordN (o : Int)); have kS := Keep.set (Keep.ofBelow (Q := fun b => b = S) bc) (p := ⟨S, wordN (o : Int), none⟩) (fun _ => rfl) (.int .u64 (f o))))
            go_wp2_with fail
            go_roundw
            case rel =>
              have hx := rX.set (wordN (o : Int)) (.int .u64 (f o))
              rw [words_set] at hx
              exact ⟨o + 1, HLT.out, rfl, hx, QX.out.2.1.keep kS (fun e => hSM e), BR8.out.trans (kS.below (n := w.heap.size) (by have := BR8.out.size; omega) (fun b _ e => by omega))⟩
            case measure => simp [intOf]; omega
          · have eT : tagO F o = 0 := by rw [eT0]; rfl
            clear eT0 sF
            have q8 := q7.set 0 (.int .i64 0)
            have p8 := p7.far hMB 0 (.int .i64 0) (C := B5)
            have r8 := r7.far (fun e => hSB e.symm) 0 (.int .i64 0) (C := B5)
            have BR8 := Lib.hid (BR7.out.trans ((Keep.set (Keep.refl (fun b => b = B5) w7) (p := ⟨B5, 0, none⟩) (fun _ => rfl) (.int .i64 0)).below (n := w.heap.size) (by have := BR7.out.size; omega) (fun b _ e => by omega)))
            simp only [List.setIfInBounds_toArray, List.set_cons_zero, List.set_cons_succ] at q8
            go_upto_region 10 with fail
            clear q7 p7 r7 c0 c1 c2 gy d0 d5 z0 z5 hif
            generalize w7.setCell ⟨B5, 0, none⟩ (.int .i64 0) = w8 at *
            have HP1 := Lib.hid (show ∀ V, Calls Tryz.prog 52 #[.agg #[.int .i64 0, .int .i64 0, .int .i64 0, .int .i64 0, .int .i64 0, .int .i64 x]] V fun e w' => e = .returned (.tuple #[.int .u64 (f o), .bool true]) ∧ Below V.heap.size V w' from fun V => by
              have := HPK.out o HLT.out V
              rw [eT, eH] at this
              exact this)
            have QX := Lib.hid (And.intro q8 (And.intro p8 r8))
            have SK := Lib.hid (show ∀ V, Keep (fun b => b = S) w8 V → V.cell? ⟨w.heap.size, 0, none⟩ = some (.int .i64 (m.t : Int)) ∧ V.cell? ⟨w.heap.size, 1, none⟩ = some (.int .i64 (m.o : Int)) ∧ V.cell? ⟨w.heap.size, 2, none⟩ = some (.int .i64 (m.n : Int)) ∧ V.cell? ⟨B5, 0, none⟩ = some (.int .i64 0) ∧ V.cell? ⟨B5, 1, none⟩ = some (.int .i64 0) ∧ V.cell? ⟨B5, 2, none⟩ = some (.int .i64 0) ∧ V.cell? ⟨B5, 3, none⟩ = some (.int .i64 0) ∧ V.cell? ⟨B5, 4, none⟩ = some (.int .i64 0) ∧ V.cell? ⟨B5, 5, none⟩ = some (.int .i64 x) from fun V hk => by
              have q := QX.out.1.keep hk (fun e => hSB e)
              have p := QX.out.2.1.keep hk (fun e => hSM e)
              exact ⟨p.cell 0 _ rfl, p.cell 1 _ rfl, p.cell 2 _ rfl, q.cell 0 _ rfl, q.cell 1 _ rfl, q.cell 2 _ rfl, q.cell 3 _ rfl, q.cell 4 _ rfl, q.cell 5 _ rfl⟩)
            clear q8 p8 r8 eT eH
            have bc := bdrewP w8
            go_region_held3 (fun V => V.cell? ⟨w.heap.size, 0, none⟩ = some (.int .i64 (m.t : Int)) ∧ V.cell? ⟨w.heap.size, 1, none⟩ = some (.int .i64 (m.o : Int)) ∧ V.cell? ⟨w.heap.size, 2, none⟩ = some (.int .i64 (m.n : Int)) ∧ V.cell? ⟨B5, 0, none⟩ = some (.int .i64 0) ∧ V.cell? ⟨B5, 1, none⟩ = some (.int .i64 0) ∧ V.cell? ⟨B5, 2, none⟩ = some (.int .i64 0) ∧ V.cell? ⟨B5, 3, none⟩ = some (.int .i64 0) ∧ V.cell? ⟨B5, 4, none⟩ = some (.int .i64 0) ∧ V.cell? ⟨B5, 5, none⟩ = some (.int .i64 x)) (first | exact SK.out _ (Keep.ofBelow bc) | exact SK.out _ kS) (first
              | (go_at_call 53; (with_reducible refine (HWD.out _).mono ?_); rintro e w9 ⟨rfl, b9⟩; replace bc := Below.trans bc (Below.mono b9 bc.size))
              | (go_at_call 52; (with_reducible refine (HP1.out _).mono ?_); rintro e w10 ⟨rfl, b10⟩; replace bc := Below.trans bc (Below.mono b10 bc.size); have rX := QX.out.2.2.below bc QX.out.2.2.lt; have cS := rX.cell (wordN (o : Int)) _ hold; have zS := rX.free (wordN (o : Int)); have kS := Keep.set (Keep.ofBelow (Q := fun b => b = S) bc) (p := ⟨S, wordN (o : Int), none⟩) (fun _ => rfl) (.int .u64 (f o))))
            go_wp2_with fail
            go_roundw
            case rel =>
              have hx := rX.set (wordN (o : Int)) (.int .u64 (f o))
              rw [words_set] at hx
              exact ⟨o + 1, HLT.out, rfl, hx, QX.out.2.1.keep kS (fun e => hSM e), BR8.out.trans (kS.below (n := w.heap.size) (by have := BR8.out.size; omega) (fun b _ e => by omega))⟩
            case measure => simp [intOf]; omega
        · have eT : tagO F o = 1 := by
            have : F[o]? = none := List.getElem?_eq_none (by rw [HKF.out]; omega)
            simp [tagO, freshO, this]
          clear sF
          go_upto_region 10 with fail
          have q8 := q7
          have p8 := p7
          have r8 := r7
          have BR8 := Lib.hid BR7.out
          clear q7 p7 r7 c0 c1 c2 d0 d5 z0 z5
          generalize hw8 : w7 = w8 at *
          clear hw8
          have HP1 := Lib.hid (show ∀ V, Calls Tryz.prog 52 #[.agg #[.int .i64 1, .int .i64 0, .int .i64 0, .int .i64 0, .int .i64 0, .int .i64 x]] V fun e w' => e = .returned (.tuple #[.int .u64 (f o), .bool true]) ∧ Below V.heap.size V w' from fun V => by
            have := HPK.out o HLT.out V
            rw [eT, eH] at this
            exact this)
          have QX := Lib.hid (And.intro q8 (And.intro p8 r8))
          have SK := Lib.hid (show ∀ V, Keep (fun b => b = S) w8 V → V.cell? ⟨w.heap.size, 0, none⟩ = some (.int .i64 (m.t : Int)) ∧ V.cell? ⟨w.heap.size, 1, none⟩ = some (.int .i64 (m.o : Int)) ∧ V.cell? ⟨w.heap.size, 2, none⟩ = some (.int .i64 (m.n : Int)) ∧ V.cell? ⟨B5, 0, none⟩ = some (.int .i64 1) ∧ V.cell? ⟨B5, 1, none⟩ = some (.int .i64 0) ∧ V.cell? ⟨B5, 2, none⟩ = some (.int .i64 0) ∧ V.cell? ⟨B5, 3, none⟩ = some (.int .i64 0) ∧ V.cell? ⟨B5, 4, none⟩ = some (.int .i64 0) ∧ V.cell? ⟨B5, 5, none⟩ = some (.int .i64 x) from fun V hk => by
            have q := QX.out.1.keep hk (fun e => hSB e)
            have p := QX.out.2.1.keep hk (fun e => hSM e)
            exact ⟨p.cell 0 _ rfl, p.cell 1 _ rfl, p.cell 2 _ rfl, q.cell 0 _ rfl, q.cell 1 _ rfl, q.cell 2 _ rfl, q.cell 3 _ rfl, q.cell 4 _ rfl, q.cell 5 _ rfl⟩)
          clear q8 p8 r8 eT eH
          have bc := bdrewP w8
          go_region_held3 (fun V => V.cell? ⟨w.heap.size, 0, none⟩ = some (.int .i64 (m.t : Int)) ∧ V.cell? ⟨w.heap.size, 1, none⟩ = some (.int .i64 (m.o : Int)) ∧ V.cell? ⟨w.heap.size, 2, none⟩ = some (.int .i64 (m.n : Int)) ∧ V.cell? ⟨B5, 0, none⟩ = some (.int .i64 1) ∧ V.cell? ⟨B5, 1, none⟩ = some (.int .i64 0) ∧ V.cell? ⟨B5, 2, none⟩ = some (.int .i64 0) ∧ V.cell? ⟨B5, 3, none⟩ = some (.int .i64 0) ∧ V.cell? ⟨B5, 4, none⟩ = some (.int .i64 0) ∧ V.cell? ⟨B5, 5, none⟩ = some (.int .i64 x)) (first | exact SK.out _ (Keep.ofBelow bc) | exact SK.out _ kS) (first
            | (go_at_call 53; (with_reducible refine (HWD.out _).mono ?_); rintro e w9 ⟨rfl, b9⟩; replace bc := Below.trans bc (Below.mono b9 bc.size))
            | (go_at_call 52; (with_reducible refine (HP1.out _).mono ?_); rintro e w10 ⟨rfl, b10⟩; replace bc := Below.trans bc (Below.mono b10 bc.size); have rX := QX.out.2.2.below bc QX.out.2.2.lt; have cS := rX.cell (wordN (o : Int)) _ hold; have zS := rX.free (wordN (o : Int)); have kS := Keep.set (Keep.ofBelow (Q := fun b => b = S) bc) (p := ⟨S, wordN (o : Int), none⟩) (fun _ => rfl) (.int .u64 (f o))))
          go_wp2_with fail
          go_roundw
          case rel =>
            have hx := rX.set (wordN (o : Int)) (.int .u64 (f o))
            rw [words_set] at hx
            exact ⟨o + 1, HLT.out, rfl, hx, QX.out.2.1.keep kS (fun e => hSM e), BR8.out.trans (kS.below (n := w.heap.size) (by have := BR8.out.size; omega) (fun b _ e => by omega))⟩
          case measure => simp [intOf]; omega
      · have eH : hashO H o = 0 := by
          have : H[o]? = none := List.getElem?_eq_none (by rw [HNH.out]; omega)
          simp [hashO, this]
        have q7 := q6
        have p7 := p6
        have r7 := r6
        have BR7 := Lib.hid BR6.out
        have sF := sF6
        clear q6 p6 r6 sH6 sF6 BR6
        generalize hw7 : w6 = w7 at *
        clear hw7
        have d0 := q7.cell 0 _ rfl
        have d5 := q7.cell 5 _ rfl
        have z0 := q7.free 0
        have z5 := q7.free 5
        obtain ⟨c0, c1, c2⟩ := map3 p7
        by_cases hoF : o < kf
        · have hoF2 : o < F.length := by rw [HKF.out]; exact hoF
          obtain ⟨bf, of, rfl, gy⟩ := sF o _ (List.getElem?_eq_getElem hoF2)
          have eT0 : tagO F o = if F[o] then 0 else 1 := by simp [tagO, freshO, hoF2]
          generalize F[o] = y at *
          replace gy : w7.cell? ⟨bf, of + o, none⟩ = some (.bool y) := gy
          have hif : ∀ V, (Instr.indexAt 24 (.slice (some ⟨bf, of, none⟩) kf fc) (.int .i64 (o : Int))).run Tryz.prog V = .ok (.pointer (some ⟨bf, of + o, none⟩)) V := by
            intro V
            go_simp
          cases y
          · have eT : tagO F o = 1 := by rw [eT0]; rfl
            clear eT0 sF
            go_upto_region 10 with fail
            have q8 := q7
            have p8 := p7
            have r8 := r7
            have BR8 := Lib.hid BR7.out
            clear q7 p7 r7 c0 c1 c2 gy d0 d5 z0 z5 hif
            generalize hw8 : w7 = w8 at *
            clear hw8
            have HP1 := Lib.hid (show ∀ V, Calls Tryz.prog 52 #[.agg #[.int .i64 1, .int .i64 0, .int .i64 0, .int .i64 0, .int .i64 0, .int .i64 0]] V fun e w' => e = .returned (.tuple #[.int .u64 (f o), .bool true]) ∧ Below V.heap.size V w' from fun V => by
              have := HPK.out o HLT.out V
              rw [eT, eH] at this
              exact this)
            have QX := Lib.hid (And.intro q8 (And.intro p8 r8))
            have SK := Lib.hid (show ∀ V, Keep (fun b => b = S) w8 V → V.cell? ⟨w.heap.size, 0, none⟩ = some (.int .i64 (m.t : Int)) ∧ V.cell? ⟨w.heap.size, 1, none⟩ = some (.int .i64 (m.o : Int)) ∧ V.cell? ⟨w.heap.size, 2, none⟩ = some (.int .i64 (m.n : Int)) ∧ V.cell? ⟨B5, 0, none⟩ = some (.int .i64 1) ∧ V.cell? ⟨B5, 1, none⟩ = some (.int .i64 0) ∧ V.cell? ⟨B5, 2, none⟩ = some (.int .i64 0) ∧ V.cell? ⟨B5, 3, none⟩ = some (.int .i64 0) ∧ V.cell? ⟨B5, 4, none⟩ = some (.int .i64 0) ∧ V.cell? ⟨B5, 5, none⟩ = some (.int .i64 0) from fun V hk => by
              have q := QX.out.1.keep hk (fun e => hSB e)
              have p := QX.out.2.1.keep hk (fun e => hSM e)
              exact ⟨p.cell 0 _ rfl, p.cell 1 _ rfl, p.cell 2 _ rfl, q.cell 0 _ rfl, q.cell 1 _ rfl, q.cell 2 _ rfl, q.cell 3 _ rfl, q.cell 4 _ rfl, q.cell 5 _ rfl⟩)
            clear q8 p8 r8 eT eH
            have bc := bdrewP w8
            go_region_held3 (fun V => V.cell? ⟨w.heap.size, 0, none⟩ = some (.int .i64 (m.t : Int)) ∧ V.cell? ⟨w.heap.size, 1, none⟩ = some (.int .i64 (m.o : Int)) ∧ V.cell? ⟨w.heap.size, 2, none⟩ = some (.int .i64 (m.n : Int)) ∧ V.cell? ⟨B5, 0, none⟩ = some (.int .i64 1) ∧ V.cell? ⟨B5, 1, none⟩ = some (.int .i64 0) ∧ V.cell? ⟨B5, 2, none⟩ = some (.int .i64 0) ∧ V.cell? ⟨B5, 3, none⟩ = some (.int .i64 0) ∧ V.cell? ⟨B5, 4, none⟩ = some (.int .i64 0) ∧ V.cell? ⟨B5, 5, none⟩ = some (.int .i64 0)) (first | exact SK.out _ (Keep.ofBelow bc) | exact SK.out _ kS) (first
              | (go_at_call 53; (with_reducible refine (HWD.out _).mono ?_); rintro e w9 ⟨rfl, b9⟩; replace bc := Below.trans bc (Below.mono b9 bc.size))
              | (go_at_call 52; (with_reducible refine (HP1.out _).mono ?_); rintro e w10 ⟨rfl, b10⟩; replace bc := Below.trans bc (Below.mono b10 bc.size); have rX := QX.out.2.2.below bc QX.out.2.2.lt; have cS := rX.cell (wordN (o : Int)) _ hold; have zS := rX.free (wordN (o : Int)); have kS := Keep.set (Keep.ofBelow (Q := fun b => b = S) bc) (p := ⟨S, wordN (o : Int), none⟩) (fun _ => rfl) (.int .u64 (f o))))
            go_wp2_with fail
            go_roundw
            case rel =>
              have hx := rX.set (wordN (o : Int)) (.int .u64 (f o))
              rw [words_set] at hx
              exact ⟨o + 1, HLT.out, rfl, hx, QX.out.2.1.keep kS (fun e => hSM e), BR8.out.trans (kS.below (n := w.heap.size) (by have := BR8.out.size; omega) (fun b _ e => by omega))⟩
            case measure => simp [intOf]; omega
          · have eT : tagO F o = 0 := by rw [eT0]; rfl
            clear eT0 sF
            have q8 := q7.set 0 (.int .i64 0)
            have p8 := p7.far hMB 0 (.int .i64 0) (C := B5)
            have r8 := r7.far (fun e => hSB e.symm) 0 (.int .i64 0) (C := B5)
            have BR8 := Lib.hid (BR7.out.trans ((Keep.set (Keep.refl (fun b => b = B5) w7) (p := ⟨B5, 0, none⟩) (fun _ => rfl) (.int .i64 0)).below (n := w.heap.size) (by have := BR7.out.size; omega) (fun b _ e => by omega)))
            simp only [List.setIfInBounds_toArray, List.set_cons_zero, List.set_cons_succ] at q8
            go_upto_region 10 with fail
            clear q7 p7 r7 c0 c1 c2 gy d0 d5 z0 z5 hif
            generalize w7.setCell ⟨B5, 0, none⟩ (.int .i64 0) = w8 at *
            have HP1 := Lib.hid (show ∀ V, Calls Tryz.prog 52 #[.agg #[.int .i64 0, .int .i64 0, .int .i64 0, .int .i64 0, .int .i64 0, .int .i64 0]] V fun e w' => e = .returned (.tuple #[.int .u64 (f o), .bool true]) ∧ Below V.heap.size V w' from fun V => by
              have := HPK.out o HLT.out V
              rw [eT, eH] at this
              exact this)
            have QX := Lib.hid (And.intro q8 (And.intro p8 r8))
            have SK := Lib.hid (show ∀ V, Keep (fun b => b = S) w8 V → V.cell? ⟨w.heap.size, 0, none⟩ = some (.int .i64 (m.t : Int)) ∧ V.cell? ⟨w.heap.size, 1, none⟩ = some (.int .i64 (m.o : Int)) ∧ V.cell? ⟨w.heap.size, 2, none⟩ = some (.int .i64 (m.n : Int)) ∧ V.cell? ⟨B5, 0, none⟩ = some (.int .i64 0) ∧ V.cell? ⟨B5, 1, none⟩ = some (.int .i64 0) ∧ V.cell? ⟨B5, 2, none⟩ = some (.int .i64 0) ∧ V.cell? ⟨B5, 3, none⟩ = some (.int .i64 0) ∧ V.cell? ⟨B5, 4, none⟩ = some (.int .i64 0) ∧ V.cell? ⟨B5, 5, none⟩ = some (.int .i64 0) from fun V hk => by
              have q := QX.out.1.keep hk (fun e => hSB e)
              have p := QX.out.2.1.keep hk (fun e => hSM e)
              exact ⟨p.cell 0 _ rfl, p.cell 1 _ rfl, p.cell 2 _ rfl, q.cell 0 _ rfl, q.cell 1 _ rfl, q.cell 2 _ rfl, q.cell 3 _ rfl, q.cell 4 _ rfl, q.cell 5 _ rfl⟩)
            clear q8 p8 r8 eT eH
            have bc := bdrewP w8
            go_region_held3 (fun V => V.cell? ⟨w.heap.size, 0, none⟩ = some (.int .i64 (m.t : Int)) ∧ V.cell? ⟨w.heap.size, 1, none⟩ = some (.int .i64 (m.o : Int)) ∧ V.cell? ⟨w.heap.size, 2, none⟩ = some (.int .i64 (m.n : Int)) ∧ V.cell? ⟨B5, 0, none⟩ = some (.int .i64 0) ∧ V.cell? ⟨B5, 1, none⟩ = some (.int .i64 0) ∧ V.cell? ⟨B5, 2, none⟩ = some (.int .i64 0) ∧ V.cell? ⟨B5, 3, none⟩ = some (.int .i64 0) ∧ V.cell? ⟨B5, 4, none⟩ = some (.int .i64 0) ∧ V.cell? ⟨B5, 5, none⟩ = some (.int .i64 0)) (first | exact SK.out _ (Keep.ofBelow bc) | exact SK.out _ kS) (first
              | (go_at_call 53; (with_reducible refine (HWD.out _).mono ?_); rintro e w9 ⟨rfl, b9⟩; replace bc := Below.trans bc (Below.mono b9 bc.size))
              | (go_at_call 52; (with_reducible refine (HP1.out _).mono ?_); rintro e w10 ⟨rfl, b10⟩; replace bc := Below.trans bc (Below.mono b10 bc.size); have rX := QX.out.2.2.below bc QX.out.2.2.lt; have cS := rX.cell (wordN (o : Int)) _ hold; have zS := rX.free (wordN (o : Int)); have kS := Keep.set (Keep.ofBelow (Q := fun b => b = S) bc) (p := ⟨S, wordN (o : Int), none⟩) (fun _ => rfl) (.int .u64 (f o))))
            go_wp2_with fail
            go_roundw
            case rel =>
              have hx := rX.set (wordN (o : Int)) (.int .u64 (f o))
              rw [words_set] at hx
              exact ⟨o + 1, HLT.out, rfl, hx, QX.out.2.1.keep kS (fun e => hSM e), BR8.out.trans (kS.below (n := w.heap.size) (by have := BR8.out.size; omega) (fun b _ e => by omega))⟩
            case measure => simp [intOf]; omega
        · have eT : tagO F o = 1 := by
            have : F[o]? = none := List.getElem?_eq_none (by rw [HKF.out]; omega)
            simp [tagO, freshO, this]
          clear sF
          go_upto_region 10 with fail
          have q8 := q7
          have p8 := p7
          have r8 := r7
          have BR8 := Lib.hid BR7.out
          clear q7 p7 r7 c0 c1 c2 d0 d5 z0 z5
          generalize hw8 : w7 = w8 at *
          clear hw8
          have HP1 := Lib.hid (show ∀ V, Calls Tryz.prog 52 #[.agg #[.int .i64 1, .int .i64 0, .int .i64 0, .int .i64 0, .int .i64 0, .int .i64 0]] V fun e w' => e = .returned (.tuple #[.int .u64 (f o), .bool true]) ∧ Below V.heap.size V w' from fun V => by
            have := HPK.out o HLT.out V
            rw [eT, eH] at this
            exact this)
          have QX := Lib.hid (And.intro q8 (And.intro p8 r8))
          have SK := Lib.hid (show ∀ V, Keep (fun b => b = S) w8 V → V.cell? ⟨w.heap.size, 0, none⟩ = some (.int .i64 (m.t : Int)) ∧ V.cell? ⟨w.heap.size, 1, none⟩ = some (.int .i64 (m.o : Int)) ∧ V.cell? ⟨w.heap.size, 2, none⟩ = some (.int .i64 (m.n : Int)) ∧ V.cell? ⟨B5, 0, none⟩ = some (.int .i64 1) ∧ V.cell? ⟨B5, 1, none⟩ = some (.int .i64 0) ∧ V.cell? ⟨B5, 2, none⟩ = some (.int .i64 0) ∧ V.cell? ⟨B5, 3, none⟩ = some (.int .i64 0) ∧ V.cell? ⟨B5, 4, none⟩ = some (.int .i64 0) ∧ V.cell? ⟨B5, 5, none⟩ = some (.int .i64 0) from fun V hk => by
            have q := QX.out.1.keep hk (fun e => hSB e)
            have p := QX.out.2.1.keep hk (fun e => hSM e)
            exact ⟨p.cell 0 _ rfl, p.cell 1 _ rfl, p.cell 2 _ rfl, q.cell 0 _ rfl, q.cell 1 _ rfl, q.cell 2 _ rfl, q.cell 3 _ rfl, q.cell 4 _ rfl, q.cell 5 _ rfl⟩)
          clear q8 p8 r8 eT eH
          have bc := bdrewP w8
          go_region_held3 (fun V => V.cell? ⟨w.heap.size, 0, none⟩ = some (.int .i64 (m.t : Int)) ∧ V.cell? ⟨w.heap.size, 1, none⟩ = some (.int .i64 (m.o : Int)) ∧ V.cell? ⟨w.heap.size, 2, none⟩ = some (.int .i64 (m.n : Int)) ∧ V.cell? ⟨B5, 0, none⟩ = some (.int .i64 1) ∧ V.cell? ⟨B5, 1, none⟩ = some (.int .i64 0) ∧ V.cell? ⟨B5, 2, none⟩ = some (.int .i64 0) ∧ V.cell? ⟨B5, 3, none⟩ = some (.int .i64 0) ∧ V.cell? ⟨B5, 4, none⟩ = some (.int .i64 0) ∧ V.cell? ⟨B5, 5, none⟩ = some (.int .i64 0)) (first | exact SK.out _ (Keep.ofBelow bc) | exact SK.out _ kS) (first
            | (go_at_call 53; (with_reducible refine (HWD.out _).mono ?_); rintro e w9 ⟨rfl, b9⟩; replace bc := Below.trans bc (Below.mono b9 bc.size))
            | (go_at_call 52; (with_reducible refine (HP1.out _).mono ?_); rintro e w10 ⟨rfl, b10⟩; replace bc := Below.trans bc (Below.mono b10 bc.size); have rX := QX.out.2.2.below bc QX.out.2.2.lt; have cS := rX.cell (wordN (o : Int)) _ hold; have zS := rX.free (wordN (o : Int)); have kS := Keep.set (Keep.ofBelow (Q := fun b => b = S) bc) (p := ⟨S, wordN (o : Int), none⟩) (fun _ => rfl) (.int .u64 (f o))))
          go_wp2_with fail
          go_roundw
          case rel =>
            have hx := rX.set (wordN (o : Int)) (.int .u64 (f o))
            rw [words_set] at hx
            exact ⟨o + 1, HLT.out, rfl, hx, QX.out.2.1.keep kS (fun e => hSM e), BR8.out.trans (kS.below (n := w.heap.size) (by have := BR8.out.size; omega) (fun b _ e => by omega))⟩
          case measure => simp [intOf]; omega
    · obtain rfl : o = m.o := by omega
      clear c0 c1 c2 hlt ho
      have R5 := Lib.hid hrow
      have M5 := Lib.hid hmp
      have B5 := Lib.hid hbr
      clear hrow hbr
      obtain ⟨c0, c1, c2⟩ := map3 hmp
      go_upto_region 12 with fail
      clear hmp c0 c1 c2
      go_loopw [10] (fun v10 wr => ∃ t : Nat, t ≤ m.t ∧ v10 = .int .i64 (t : Int) ∧ Blk wr S 55 (words (safesGo m (wordsGo f mz m.o) t)) ∧ Blk wr w.heap.size 28 (mapCs m) ∧ Below w.heap.size w wr) (fun v10 _ => (m.t - intOf v10).toNat)
      case atStart => exact ⟨0, by omega, rfl, R5.out, M5.out, B5.out⟩
      case round =>
        obtain ⟨t, ht, rfl, hrow, hmp, hbr⟩ := hrel
        obtain ⟨c0, c1, c2⟩ := map3 hmp
        by_cases hlt : t < m.t
        · have HLT := Lib.hid hlt
          have hin : safeN m (t : Int) < (safesGo m (wordsGo f mz m.o) t).length := by rw [safesGo_len, wordsGo_len, HML.out]; unfold safeN nxN; omega
          obtain ⟨old, hold⟩ : ∃ old, (words (safesGo m (wordsGo f mz m.o) t))[safeN m (t : Int)]? = some old := ⟨_, words_at (List.getElem?_eq_getElem hin)⟩
          have HSF := Lib.hid fun V => safe_any m (t : Int) V HM.out (by omega)
          have hwn : ((safeN m (t : Int) : Nat) : Int) < (sz : Int) := by rw [safesGo_len, wordsGo_len, HML.out] at hin; omega
          have hwb : ((safeN m (t : Int) : Nat) : Int) < 1000000 := by omega
          have hix : ∀ V, (Instr.indexAt 34 (.slice (some ⟨S, 0, none⟩) sz sz) (.int .i64 ((safeN m (t : Int) : Nat) : Int))).run Tryz.prog V = .ok (.pointer (some ⟨S, safeN m (t : Int), none⟩)) V := by
            intro V
            go_simp
          have QX := Lib.hid (And.intro hrow hmp)
          have BR := Lib.hid hbr
          clear hin hrow hmp hbr
          go_wp2_with (go_at_call 54; (with_reducible refine (HSF.out _).mono ?_); rintro e w9 ⟨rfl, b9⟩; have rX := QX.out.1.below b9 QX.out.1.lt; have cS := rX.cell (safeN m (t : Int)) _ hold; have zS := rX.free (safeN m (t : Int)); have kS := Keep.set (Keep.ofBelow (Q := fun b => b = S) b9) (p := ⟨S, safeN m (t : Int), none⟩) (fun _ => rfl) (.int .u64 1))
          go_roundw
          case rel =>
            have hx := rX.set (safeN m (t : Int)) (.int .u64 1)
            rw [words_set] at hx
            exact ⟨t + 1, HLT.out, rfl, hx, QX.out.2.keep kS (fun e => hSM e), BR.out.trans (kS.below (n := w.heap.size) (by have := BR.out.size; omega) (fun b _ e => by omega))⟩
          case measure => simp [intOf]; omega
        · obtain rfl : t = m.t := by omega
          have R9 := Lib.hid hrow
          have B9 := Lib.hid hbr
          clear hrow hmp hbr
          go_wp2_with fail
          go_ret
          exact ⟨S, rfl, R9.out, hws, B9.out⟩
end Go.Proofs.YtmknnjjmmfbppaaGreat
