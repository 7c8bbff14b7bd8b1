/- Contracts of package word: Pack and Open. -/
import Derived.Test.YtmknnjjmmfbppaaGreatMgBegAM
namespace Go.Proofs.YtmknnjjmmfbppaaGreat
open Go.ChangeShapes Go.WideShapes Go.ChangeAt Go.RowKit
set_option linter.unusedVariables false
set_option linter.unusedSimpArgs false
open Wd
abbrev hdArr (x : Hd) : Array Value := #[.int .i64 x.t, .int .i64 x.o, .int .i64 x.c, .int .i64 x.m, .int .i64 x.g, .int .i64 x.h]
theorem hd_size : (Tryz.prog.info? 100).map (·.size) = some 6 := by kernel_rfl
/-- a header boxed at B -/
structure HBox (w0 : World) (B : Nat) (x : Hd) (w : World) : Prop where
  base : Below w0.heap.size w0 w
  blk : Blk w B 100 (hdArr x)
theorem HBox.drew {w0 w : World} {B : Nat} {x : Hd} (h : HBox w0 B x w) : HBox w0 B x w.drew := ⟨h.base.drew, h.blk⟩
theorem HBox.below {w0 w w' : World} {B : Nat} {x : Hd} (h : HBox w0 B x w) (hb : Below w.heap.size w w') : HBox w0 B x w' :=
  ⟨h.base.trans (hb.mono h.base.size), h.blk.below hb h.blk.lt⟩
theorem HBox.six {w0 w : World} {B : Nat} {x : Hd} (h : HBox w0 B x w) : w.cell? ⟨B, 0, none⟩ = some (.int .i64 x.t) ∧ w.cell? ⟨B, 1, none⟩ = some (.int .i64 x.o) ∧ w.cell? ⟨B, 2, none⟩ = some (.int .i64 x.c) ∧ w.cell? ⟨B, 3, none⟩ = some (.int .i64 x.m) ∧ w.cell? ⟨B, 4, none⟩ = some (.int .i64 x.g) ∧ w.cell? ⟨B, 5, none⟩ = some (.int .i64 x.h) :=
  ⟨h.blk.cell 0 _ rfl, h.blk.cell 1 _ rfl, h.blk.cell 2 _ rfl, h.blk.cell 3 _ rfl, h.blk.cell 4 _ rfl, h.blk.cell 5 _ rfl⟩
set_option maxRecDepth 100000 in
set_option maxHeartbeats 4000000 in
theorem pack_any (x : Hd) (w : World) : Calls Tryz.prog 97 #[hdV x] w (PackPost w (packP x)) := by
  have HP : Hid (∀ W, Calls Tryz.prog 167 #[prtsV pTag pHash (p2 x.t) (p3 x.t) (p4 x.t) (p5 x.t), numsV x.t x.h x.o x.c x.m x.g] W (PackPost W (packP x))) :=
    Lib.hid (fun W => packed_any _ _ _ _ _ _ _ _ _ _ _ _ W good_tag good_hash (good_p2 _) (good_p3 _) (good_p4 _) (good_p5 _))
  go_enter Tryz.func97, Tryz.ntmps97
  go_upto_region 1 with fail
  generalize hW : w.alloc _ = W
  have T : HBox w w.heap.size x W := by rw [← hW]; exact ⟨by go_grown, Blk.new w _ _⟩
  clear hW
  obtain ⟨c0, c1, c2, c3, c4, c5⟩ := T.six
  go_region_held3 (fun w' => w'.cell? ⟨w.heap.size, 0, none⟩ = some (.int .i64 x.t) ∧ w'.cell? ⟨w.heap.size, 1, none⟩ = some (.int .i64 x.o) ∧ w'.cell? ⟨w.heap.size, 2, none⟩ = some (.int .i64 x.c) ∧ w'.cell? ⟨w.heap.size, 3, none⟩ = some (.int .i64 x.m) ∧ w'.cell? ⟨w.heap.size, 4, none⟩ = some (.int .i64 x.g) ∧ w'.cell? ⟨w.heap.size, 5, none⟩ = some (.int .i64 x.h)) (first | (with_reducible exact ⟨c0, c1, c2, c3, c4, c5⟩) | go_keep) (first
    | (go_at_call 168; (with_reducible refine (partsOf_any x.t _).mono ?_); rintro e w1 ⟨rfl, hb⟩; (first | (with_reducible replace T := T.drew.below hb) | (with_reducible replace T := T.below hb)); clear c0 c1 c2 c3 c4 c5 hb; obtain ⟨c0, c1, c2, c3, c4, c5⟩ := T.six)
    | (go_at_call 169; (with_reducible refine (numbersOf_any x _).mono ?_); rintro e w2 ⟨rfl, hb⟩; (first | (with_reducible replace T := T.drew.below hb) | (with_reducible replace T := T.below hb)); clear c0 c1 c2 c3 c4 c5 hb; obtain ⟨c0, c1, c2, c3, c4, c5⟩ := T.six)
    | (go_at_call 167; (with_reducible refine (HP.out _).mono ?_); rintro e w3 ⟨rfl, hb⟩; (with_reducible replace T := T.below hb); clear c0 c1 c2 c3 c4 c5 hb; obtain ⟨c0, c1, c2, c3, c4, c5⟩ := T.six))
  all_goals go_wp2
  all_goals go_ret2
  all_goals exact ⟨rfl, T.base⟩
/-- opening answers r -/
def OpenPost (w : World) (r : Option Hd) (e : Ending) (w' : World) : Prop := e = .returned (.tuple #[hdV (r.getD ⟨0, 0, 0, 0, 0, 0⟩), .bool r.isSome]) ∧ Below w.heap.size w w'
theorem tag_in (v : Nat) : (hdIn v).t = tagOf v := rfl
theorem prts_one (p0 p1 p2 p3 p4 p5 : Prt) : (partsArr p0 p1 p2 p3 p4 p5).all (·.oneCell') = true := by simp [Value.oneCell']
theorem nums_one (n0 n1 n2 n3 n4 n5 : Int) : (numsArr n0 n1 n2 n3 n4 n5).all (·.oneCell') = true := by simp [Value.oneCell']
theorem hd_one (x : Hd) : (hdArr x).all (·.oneCell') = true := by simp [Value.oneCell']
abbrev zero6 : Array Value := #[.int .i64 0, .int .i64 0, .int .i64 0, .int .i64 0, .int .i64 0, .int .i64 0]
set_option maxRecDepth 100000 in
set_option maxHeartbeats 4000000 in
theorem open_any (v : Nat) (w : World) (hv : v < 18446744073709551616) : Calls Tryz.prog 113 #[.int .u64 v] w (OpenPost w (openP v)) := by
  have hf : had pTag v = tagOf v := rfl
  have HN : Hid (∀ W, Calls Tryz.prog 177 #[.int .u64 v, prtsV pTag pHash (p2 (tagOf v)) (p3 (tagOf v)) (p4 (tagOf v)) (p5 (tagOf v))] W fun e w' => e = .returned (numsV (hdIn v).t (hdIn v).h (hdIn v).o (hdIn v).c (hdIn v).m (hdIn v).g) ∧ Below W.heap.size W w') :=
    Lib.hid (fun W => numbersIn_any v pTag pHash _ _ _ _ W hv good_tag good_hash (good_p2 _) (good_p3 _) (good_p4 _) (good_p5 _))
  have HP : Hid (∀ W, Calls Tryz.prog 167 #[prtsV pTag pHash (p2 (tagOf v)) (p3 (tagOf v)) (p4 (tagOf v)) (p5 (tagOf v)), numsV (hdIn v).t (hdIn v).h (hdIn v).o (hdIn v).c (hdIn v).m (hdIn v).g] W (PackPost W (packP (hdIn v)))) :=
    Lib.hid (fun W => packed_any _ _ _ _ _ _ _ _ _ _ _ _ W good_tag good_hash (good_p2 _) (good_p3 _) (good_p4 _) (good_p5 _))
  have HT : Hid (∀ W, Calls Tryz.prog 176 #[.int .u64 v] W fun e w' => e = .returned (.int .i64 (tagOf v)) ∧ Below W.heap.size W w') := Lib.hid (fun W => tagIn_any v W hv)
  have HQ : Hid (∀ W, Calls Tryz.prog 168 #[.int .i64 (tagOf v)] W fun e w' => e = .returned (prtsV pTag pHash (p2 (tagOf v)) (p3 (tagOf v)) (p4 (tagOf v)) (p5 (tagOf v))) ∧ Below W.heap.size W w') := Lib.hid (fun W => partsOf_any _ W)
  clear hf
  have HO : Hid (openP v = if packP (hdIn v) = some v then some (hdIn v) else none) := Lib.hid rfl
  generalize hdIn v = x at *
  generalize p2 (tagOf v) = q2 at *
  generalize p3 (tagOf v) = q3 at *
  generalize p4 (tagOf v) = q4 at *
  generalize p5 (tagOf v) = q5 at *
  generalize tagOf v = t at *
  generalize pTag = q0 at *
  generalize pHash = q1 at *
  generalize openP v = r at *
  generalize packP x = u at *
  have hpone := Lib.hid (prts_one q0 q1 q2 q3 q4 q5)
  have hpsz : Hid ((Tryz.prog.info? 226).map (·.size) = some (partsArr q0 q1 q2 q3 q4 q5).size) := Lib.hid parts_size
  have hnone := Lib.hid (nums_one x.t x.h x.o x.c x.m x.g)
  have hnsz : Hid ((Tryz.prog.info? 228).map (·.size) = some (numsArr x.t x.h x.o x.c x.m x.g).size) := Lib.hid nums_size
  have hhsz : Hid ((Tryz.prog.info? 100).map (·.size) = some (hdArr x).size) := Lib.hid hd_size
  have hhsz0 : Hid ((Tryz.prog.info? 100).map (·.size) = some zero6.size) := Lib.hid hd_size
  have hhone := Lib.hid (hd_one x)
  go_enter Tryz.func113, Tryz.ntmps113
  go_upto_region 1 with fail
  generalize hW : w.alloc _ = W
  have B0 : Below w.heap.size w W := by rw [← hW]; go_grown
  have R0 : Blk W w.heap.size 100 zero6 := by rw [← hW]; exact Blk.new w _ _
  clear hW
  go_upto_region 2 with (first
    | (go_at_call 176; (with_reducible refine (HT.out _).mono ?_); rintro e w1 ⟨rfl, hb⟩; have R1 := R0.below hb R0.lt; have B1 := B0.trans (hb.mono B0.size); clear hb)
    | (go_at_call 168; (with_reducible refine (HQ.out _).mono ?_); rintro e w2 ⟨rfl, hb⟩; have R2 := R1.below hb R1.lt; have B2 := B1.trans (hb.mono B1.size); clear hb)
    | (refine wpList_store_row rfl 226 _ _ rfl w2.heap.size (partsArr q0 q1 q2 q3 q4 q5) rfl rfl 226 zero18 (Blk.new w2 _ _) hpsz.out rfl hpone.out ?_; (try simp only [Act.put, List.setIfInBounds_toArray, List.set_cons_zero, List.set_cons_succ])))
  rw [World.setRow_alloc_new]
  have P3 := Blk.new w2 226 (partsArr q0 q1 q2 q3 q4 q5)
  have R3 := R2.alloc (.cells (partsArr q0 q1 q2 q3 q4 q5) 226)
  have B3 := B2.alloc B2.size (.cells (partsArr q0 q1 q2 q3 q4 q5) 226)
  generalize hW : w2.alloc _ = w3 at *
  clear hW R0 B0 R1 B1 R2 B2
  generalize w2.heap.size = BP at *
  go_upto_region 3 with (first
    | (refine wpList_load_row rfl 226 _ rfl BP rfl 226 (partsArr q0 q1 q2 q3 q4 q5) (0, 0) _ P3 Tryz.underlying226 rfl hpsz.out ?_; (try simp only [Act.put, List.setIfInBounds_toArray, List.set_cons_zero, List.set_cons_succ]))
    | (go_at_call 177; (with_reducible refine (HN.out _).mono ?_); rintro e w4 ⟨rfl, hb⟩; have P4 := P3.below hb P3.lt; have R4 := R3.below hb R3.lt; have B4 := B3.trans (hb.mono B3.size); clear hb)
    | (refine wpList_store_row rfl 228 _ _ rfl w4.heap.size (numsArr x.t x.h x.o x.c x.m x.g) rfl rfl 228 zero6 (Blk.new w4 _ _) hnsz.out rfl hnone.out ?_; (try simp only [Act.put, List.setIfInBounds_toArray, List.set_cons_zero, List.set_cons_succ])))
  rw [World.setRow_alloc_new]
  have N5 := Blk.new w4 228 (numsArr x.t x.h x.o x.c x.m x.g)
  have P5 := P4.alloc (.cells (numsArr x.t x.h x.o x.c x.m x.g) 228)
  have R5 := R4.alloc (.cells (numsArr x.t x.h x.o x.c x.m x.g) 228)
  have B5 := B4.alloc B4.size (.cells (numsArr x.t x.h x.o x.c x.m x.g) 228)
  generalize hW : w4.alloc _ = w5 at *
  clear hW P3 R3 B3 P4 R4 B4
  generalize w4.heap.size = BN at *
  go_upto_region 4 with (first
    | (refine wpList_load_row rfl 226 _ rfl BP rfl 226 (partsArr q0 q1 q2 q3 q4 q5) (0, 0) _ P5 Tryz.underlying226 rfl hpsz.out ?_; (try simp only [Act.put, List.setIfInBounds_toArray, List.set_cons_zero, List.set_cons_succ]))
    | (refine wpList_load_row rfl 228 _ rfl BN rfl 228 (numsArr x.t x.h x.o x.c x.m x.g) (0, 0) _ N5 Tryz.underlying228 rfl hnsz.out ?_; (try simp only [Act.put, List.setIfInBounds_toArray, List.set_cons_zero, List.set_cons_succ]))
    | (go_at_call 167; (with_reducible refine (HP.out _).mono ?_); rintro e w6 ⟨rfl, hb⟩; have N6 := N5.below hb N5.lt; have R6 := R5.below hb R5.lt; have B6 := B5.trans (hb.mono B5.size); clear hb))
  clear P5 N5 R5 B5
  have HH : Hid (∀ W, Calls Tryz.prog 178 #[numsV x.t x.h x.o x.c x.m x.g] W fun e w' => e = .returned (hdV x) ∧ Below W.heap.size W w') := Lib.hid (fun W => headerOf_any x W)
  have hz1 : Hid (zero6.all (·.oneCell') = true) := Lib.hid (by simp [Value.oneCell'])
  have bad : u ≠ some v → r = none := fun h => by rw [HO.out, if_neg h]
  by_cases hu : u = some v
  · have hr : r = some x := by rw [HO.out, if_pos hu]
    subst hu
    subst hr
    clear bad HO
    go_wp2_with (first
      | (refine wpList_load_row rfl 228 _ rfl BN rfl 228 (numsArr x.t x.h x.o x.c x.m x.g) (0, 0) _ N6 Tryz.underlying228 rfl hnsz.out ?_; (try simp only [Act.put, List.setIfInBounds_toArray, List.set_cons_zero, List.set_cons_succ]))
      | (go_at_call 178; (with_reducible refine (HH.out _).mono ?_); rintro e w7 ⟨rfl, hb⟩; have R7 := R6.below hb R6.lt; have B7 := B6.trans (hb.mono B6.size); clear hb)
      | (refine wpList_store_row rfl 100 _ _ rfl w.heap.size (hdArr x) rfl rfl 100 zero6 R7 hhsz.out rfl hhone.out ?_; (try simp only [Act.put, List.setIfInBounds_toArray, List.set_cons_zero, List.set_cons_succ])))
    have R8 := R7.row (hdArr x)
    have B8 := below_setRow B7 (Nat.le_refl _) (hdArr x)
    generalize hW : w7.setRow _ _ = w8 at *
    have c0 := R8.cell 0 _ rfl
    have c1 := R8.cell 1 _ rfl
    have c2 := R8.cell 2 _ rfl
    have c3 := R8.cell 3 _ rfl
    have c4 := R8.cell 4 _ rfl
    have c5 := R8.cell 5 _ rfl
    exact bodyPost_ret (v := .tuple #[hdV x, .bool true]) (by simp [results, Tryz.results113, go_sem, c0, c1, c2, c3, c4, c5]) rfl ⟨rfl, B8⟩
  · obtain rfl := bad hu
    clear bad HO
    cases u with
    | none =>
      clear hu
      go_wp2_with (refine wpList_store_row rfl 100 _ _ rfl w.heap.size zero6 rfl rfl 100 zero6 R6 hhsz0.out rfl hz1.out ?_; (try simp only [Act.put, List.setIfInBounds_toArray, List.set_cons_zero, List.set_cons_succ]))
      have R8 := R6.row zero6
      have B8 := below_setRow B6 (Nat.le_refl _) zero6
      generalize hW : w6.setRow _ _ = w8 at *
      have c0 := R8.cell 0 _ rfl
      have c1 := R8.cell 1 _ rfl
      have c2 := R8.cell 2 _ rfl
      have c3 := R8.cell 3 _ rfl
      have c4 := R8.cell 4 _ rfl
      have c5 := R8.cell 5 _ rfl
      exact bodyPost_ret (v := .tuple #[hdV ⟨0, 0, 0, 0, 0, 0⟩, .bool false]) (by simp [results, Tryz.results113, go_sem, c0, c1, c2, c3, c4, c5]) rfl ⟨rfl, B8⟩
    | some a =>
      have hne : a ≠ v := fun h => hu (by rw [h])
      have hne2 : (((a : Nat) : Int) != ((v : Nat) : Int)) = true := by simp; omega
      clear hu
      have hne3 : ¬ (((a : Nat) : Int) = ((v : Nat) : Int)) := by omega
      clear hne
      go_wp2_with (refine wpList_store_row rfl 100 _ _ rfl w.heap.size zero6 rfl rfl 100 zero6 R6 hhsz0.out rfl hz1.out ?_; (try simp only [Act.put, List.setIfInBounds_toArray, List.set_cons_zero, List.set_cons_succ]))
      have R8 := R6.row zero6
      have B8 := below_setRow B6 (Nat.le_refl _) zero6
      generalize hW : w6.setRow _ _ = w8 at *
      have c0 := R8.cell 0 _ rfl
      have c1 := R8.cell 1 _ rfl
      have c2 := R8.cell 2 _ rfl
      have c3 := R8.cell 3 _ rfl
      have c4 := R8.cell 4 _ rfl
      have c5 := R8.cell 5 _ rfl
      exact bodyPost_ret (v := .tuple #[hdV ⟨0, 0, 0, 0, 0, 0⟩, .bool false]) (by simp [results, Tryz.results113, go_sem, c0, c1, c2, c3, c4, c5]) rfl ⟨rfl, B8⟩
theorem open_of_pack {x : Hd} {v : Nat} (h : packP x = some v) : openP v = some x := by
  obtain ⟨h1, h2⟩ := pack_some h
  rw [← h2]; exact open_word x h1
end Go.Proofs.YtmknnjjmmfbppaaGreat
