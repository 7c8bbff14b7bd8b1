/- The chapter's examples hold: works returns true. -/
import Derived.Test.YtinpkgbnogilfaaWordF
namespace Go.Proofs.Ytinpkgbnogilfaa
open Go.ChangeShapes Go.WideShapes Go.ChangeAt Go.RowKit
set_option linter.unusedVariables false
set_option linter.unusedSimpArgs false
open Wd
theorem open_of_pack {x : Hd} {v : Nat} (h : packP x = some v) : openP v = some x := by
  obtain ⟨h1, h2⟩ := pack_some h
  rw [← h2]; exact open_word x h1
set_option maxRecDepth 100000 in
set_option maxHeartbeats 4000000 in
theorem packs_yes (x : Hd) (v : Nat) (w : World) (h : packP x = some v) : Calls Try.prog 20 #[hdV x, .int .u64 v] w fun e w' => e = .returned (.bool true) ∧ Below w.heap.size w w' := by
  have hv : v < 18446744073709551616 := by have := pack_lt h; omega
  have HK := Lib.hid (fun W => pack_any x W)
  have HO := Lib.hid (fun W => open_any v W hv)
  rw [h] at HK
  rw [open_of_pack h] at HO
  have hhsz : Hid ((Try.prog.info? 23).map (·.size) = some (hdArr x).size) := Lib.hid hd_size
  have hhone := Lib.hid (hd_one x)
  clear h
  go_enter Try.func20, Try.ntmps20
  go_upto_region 1 with fail
  generalize hW : w.alloc _ = W
  have T0 : HBox w w.heap.size x W := by rw [← hW]; exact ⟨by go_grown, Blk.new w _ _⟩
  clear hW
  go_upto_region 3 with (first
    | (refine wpList_load_row rfl 23 _ rfl w.heap.size rfl 23 (hdArr x) (0, 0) _ T0.blk Try.underlying23 rfl hhsz.out ?_; (try simp only [Act.put, List.setIfInBounds_toArray, List.set_cons_zero, List.set_cons_succ]))
    | (go_at_call 9; (with_reducible refine (HK.out _).mono ?_); rintro e w1 ⟨rfl, hb⟩; have T1 := T0.below hb; clear hb)
    | (go_at_call 12; (with_reducible refine (HO.out _).mono ?_); rintro e w2 ⟨rfl, hb⟩; have T2 := T1.below hb; clear hb)
    | (refine wpList_store_row rfl 23 _ _ rfl w2.heap.size (hdArr x) rfl rfl 23 zero6 (Blk.new w2 _ _) hhsz.out rfl hhone.out ?_; (try simp only [Act.put, List.setIfInBounds_toArray, List.set_cons_zero, List.set_cons_succ])))
  rw [World.setRow_alloc_new]
  have T3 := T2.below ((Below.refl _ w2).alloc (Nat.le_refl _) (.cells (hdArr x) 23))
  have N3 := Blk.new w2 23 (hdArr x)
  generalize hW : w2.alloc _ = w3 at *
  clear hW T0 T1 T2
  obtain ⟨c0, c1, c2, c3, c4, c5⟩ := T3.six
  have d0 := N3.cell 0 _ rfl
  have d1 := N3.cell 1 _ rfl
  have d2 := N3.cell 2 _ rfl
  have d3 := N3.cell 3 _ rfl
  have d4 := N3.cell 4 _ rfl
  have d5 := N3.cell 5 _ rfl
  go_wp2
  go_ret
  exact ⟨rfl, T3.base⟩
set_option maxHeartbeats 1000000 in
theorem refused_yes (x : Hd) (w : World) (h : packP x = none) : Calls Try.prog 21 #[hdV x] w fun e w' => e = .returned (.bool true) ∧ Below w.heap.size w w' := by
  have HK := Lib.hid (fun W => pack_any x W)
  rw [h] at HK
  have hhsz : Hid ((Try.prog.info? 23).map (·.size) = some (hdArr x).size) := Lib.hid hd_size
  clear h
  go_enter Try.func21, Try.ntmps21
  go_upto_region 1 with fail
  generalize hW : w.alloc _ = W
  have T0 : HBox w w.heap.size x W := by rw [← hW]; exact ⟨by go_grown, Blk.new w _ _⟩
  clear hW
  go_wp2_with (first
    | (refine wpList_load_row rfl 23 _ rfl w.heap.size rfl 23 (hdArr x) (0, 0) _ T0.blk Try.underlying23 rfl hhsz.out ?_; (try simp only [Act.put, List.setIfInBounds_toArray, List.set_cons_zero, List.set_cons_succ]))
    | (go_at_call 9; (with_reducible refine (HK.out _).mono ?_); rintro e w1 ⟨rfl, hb⟩; have T1 := T0.below hb; clear hb))
  go_ret
  exact ⟨rfl, T1.base⟩
theorem packs_lit (t o c m g h : Int) (v : Nat) (z : Int) (hz : z = v) (hp : packP ⟨t, o, c, m, g, h⟩ = some v) :
    ∀ W, Calls Try.prog 20 #[.agg #[.int .i64 t, .int .i64 o, .int .i64 c, .int .i64 m, .int .i64 g, .int .i64 h], .int .u64 z] W fun e w' => e = .returned (.bool true) ∧ Below W.heap.size W w' := by
  intro W; subst hz; exact packs_yes ⟨t, o, c, m, g, h⟩ v W hp
theorem refused_lit (t o c m g h : Int) (hp : packP ⟨t, o, c, m, g, h⟩ = none) :
    ∀ W, Calls Try.prog 21 #[.agg #[.int .i64 t, .int .i64 o, .int .i64 c, .int .i64 m, .int .i64 g, .int .i64 h]] W fun e w' => e = .returned (.bool true) ∧ Below W.heap.size W w' :=
  fun W => refused_yes ⟨t, o, c, m, g, h⟩ W hp
set_option maxRecDepth 100000 in
set_option maxHeartbeats 1000000 in
theorem works_any (w : World) : Calls Try.prog 19 #[] w fun e w' => e = .returned (.bool true) ∧ Below w.heap.size w w' := by
  have P1 := Lib.hid (packs_lit 1 0 0 0 0 0 1 1 rfl (by decide +kernel))
  have P2 := Lib.hid (packs_lit 3 2 1 0 0 5 4398314946603 4398314946603 rfl (by decide +kernel))
  have P3 := Lib.hid (packs_lit 4 0 0 7 1 0 550695337988 550695337988 rfl (by decide +kernel))
  have P4 := Lib.hid (refused_lit 3 0 0 0 0 0 (by decide +kernel))
  have P5 := Lib.hid (refused_lit 1 1 0 0 0 0 (by decide +kernel))
  go_enter Try.func19, Try.ntmps19
  go_wp2_with fail
  (with_reducible refine (P1.out _).mono ?_)
  rintro e w1 ⟨rfl, hb1⟩
  go_wp2_with fail
  (with_reducible refine (P2.out _).mono ?_)
  rintro e w2 ⟨rfl, hb2⟩
  have B2 := hb1.trans (hb2.mono hb1.size)
  go_wp2_with fail
  (with_reducible refine (P3.out _).mono ?_)
  rintro e w3 ⟨rfl, hb3⟩
  have B3 := B2.trans (hb3.mono B2.size)
  go_wp2_with fail
  (with_reducible refine (P4.out _).mono ?_)
  rintro e w4 ⟨rfl, hb4⟩
  have B4 := B3.trans (hb4.mono B3.size)
  go_wp2_with fail
  (with_reducible refine (P5.out _).mono ?_)
  rintro e w5 ⟨rfl, hb5⟩
  have B5 := B4.trans (hb5.mono B4.size)
  go_wp2
  go_ret
  exact ⟨rfl, B5⟩
end Go.Proofs.Ytinpkgbnogilfaa
