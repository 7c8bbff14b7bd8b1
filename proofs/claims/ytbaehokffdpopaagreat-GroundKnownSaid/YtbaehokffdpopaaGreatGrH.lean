/- A ground: Word and View where there is nothing. -/
import Derived.Test.YtbaehokffdpopaaGreatGrG
namespace Go.Proofs.YtbaehokffdpopaaGreat
open Go.ChangeShapes Go.WideShapes Go.ChangeAt Go.RowKit Wd
set_option linter.unusedVariables false
set_option maxRecDepth 100000
set_option linter.unusedSimpArgs false
abbrev hdZ : Hd := ⟨0, 0, 0, 0, 0, 0⟩
def NoLook (w : World) (e : Ending) (w' : World) : Prop := e = .returned (.tuple #[hdV hdZ, .slice none 0 0, .bool false]) ∧ Below w.heap.size w w'
section
variable {w w1 : World} {g : GrP} {m : Mp} {mm mm' : List Int} {k k' : Int} {l l' : List Bool} {vo vo' : Value} {E E' : List Ev}
theorem look_nil (o : Int) (w : World) : Calls Tryz.prog 80 #[.pointer none, .int .i64 o] w (NoLook w) := by
  have hhsz : Hid ((Tryz.prog.info? 77).map (·.size) = some zero6.size) := Lib.hid hd_size
  have hhone : Hid (zero6.all (·.oneCell') = true) := Lib.hid (by simp [Value.oneCell'])
  go_enter Tryz.func80, Tryz.ntmps80
  go_upto_region 1 with fail
  generalize hW : w.alloc _ = W
  have bW : Below w.heap.size w W := by rw [← hW]; go_grown
  have R0 : Blk W w.heap.size 77 zero6 := by rw [← hW]; exact Blk.new _ _ _
  clear hW
  go_wp2_with (first | (refine wpList_load_row rfl 77 _ rfl w.heap.size rfl 77 zero6 (0, 0) _ R0 Tryz.underlying77 rfl hhsz.out ?_; (try simp only [Act.put, List.setIfInBounds_toArray, List.set_cons_zero, List.set_cons_succ])) | (refine wpList_store_row rfl 77 _ _ rfl w.heap.size zero6 rfl rfl 77 zero6 R0 hhsz.out rfl hhone.out ?_; (try simp only [Act.put, List.setIfInBounds_toArray, List.set_cons_zero, List.set_cons_succ])))
  have R8 := R0.row zero6
  have bc8 := below_setRow bW (Nat.le_refl _) zero6
  generalize hW : W.setRow _ _ = w8 at *
  have e0 := R8.cell 0 _ rfl
  have e1 := R8.cell 1 _ rfl
  have e2 := R8.cell 2 _ rfl
  have e3 := R8.cell 3 _ rfl
  have e4 := R8.cell 4 _ rfl
  have e5 := R8.cell 5 _ rfl
  exact bodyPost_ret (v := .tuple #[hdV hdZ, .slice none 0 0, .bool false]) (by simp [results, Tryz.results80, go_sem, e0, e1, e2, e3, e4, e5]) rfl ⟨rfl, bc8⟩
theorem look_out (h : GrAt w g m mm k l vo E) (o : Int) (ho : o < 0 ∨ (m.o : Int) ≤ o) : Calls Tryz.prog 80 #[grV g, .int .i64 o] w (NoLook w) := by
  have HG := Lib.hid h
  have HR := Lib.hid fun V => right_any (m.t : Int) (m.o : Int) (m.n : Int) V
  have e : rightS (m.t : Int) (m.o : Int) (m.n : Int) = true := by
    have h1 := h.ok.t
    have h2 := h.ok.o
    have h3 := h.ok.n
    simp [rightS]
    omega
  rw [e] at HR
  have hhsz : Hid ((Tryz.prog.info? 77).map (·.size) = some zero6.size) := Lib.hid hd_size
  have hhone : Hid (zero6.all (·.oneCell') = true) := Lib.hid (by simp [Value.oneCell'])
  clear h e
  rcases ho with ho | ho
  · skip
    go_enter Tryz.func80, Tryz.ntmps80
    go_upto_region 1 with fail
    generalize hW : w.alloc _ = W
    have bW : Below w.heap.size w W := by rw [← hW]; go_grown
    have R0 : Blk W w.heap.size 77 zero6 := by rw [← hW]; exact Blk.new _ _ _
    clear hW
    have HGW := Lib.hid (HG.out.below bW)
    have d0 := HGW.out.own.cell 0 _ rfl
    have d1 := HGW.out.own.cell 1 _ rfl
    have d2 := HGW.out.own.cell 2 _ rfl
    go_upto_region 2 with (first
      | (go_at_call 25; refine (HR.out _).mono ?_; rintro e w2 ⟨rfl, b2⟩; have HG2 := Lib.hid (HGW.out.below b2); clear d0 d1 d2; have d0 := HG2.out.own.cell 0 _ rfl; have d1 := HG2.out.own.cell 1 _ rfl; have d2 := HG2.out.own.cell 2 _ rfl))
    replace R0 := R0.below b2 R0.lt
    replace bW := bW.trans (b2.mono bW.size)
    clear d0 d1 d2
    go_wp2_with (first | (refine wpList_load_row rfl 77 _ rfl w.heap.size rfl 77 zero6 (0, 0) _ R0 Tryz.underlying77 rfl hhsz.out ?_; (try simp only [Act.put, List.setIfInBounds_toArray, List.set_cons_zero, List.set_cons_succ])) | (refine wpList_store_row rfl 77 _ _ rfl w.heap.size zero6 rfl rfl 77 zero6 R0 hhsz.out rfl hhone.out ?_; (try simp only [Act.put, List.setIfInBounds_toArray, List.set_cons_zero, List.set_cons_succ])))
    have R8 := R0.row zero6
    have bc8 := below_setRow bW (Nat.le_refl _) zero6
    generalize hW : w2.setRow _ _ = w8 at *
    have e0 := R8.cell 0 _ rfl
    have e1 := R8.cell 1 _ rfl
    have e2 := R8.cell 2 _ rfl
    have e3 := R8.cell 3 _ rfl
    have e4 := R8.cell 4 _ rfl
    have e5 := R8.cell 5 _ rfl
    exact bodyPost_ret (v := .tuple #[hdV hdZ, .slice none 0 0, .bool false]) (by simp [results, Tryz.results80, go_sem, e0, e1, e2, e3, e4, e5]) rfl ⟨rfl, bc8⟩
  · have hn0 : 0 ≤ o := by omega
    go_enter Tryz.func80, Tryz.ntmps80
    go_upto_region 1 with fail
    generalize hW : w.alloc _ = W
    have bW : Below w.heap.size w W := by rw [← hW]; go_grown
    have R0 : Blk W w.heap.size 77 zero6 := by rw [← hW]; exact Blk.new _ _ _
    clear hW
    have HGW := Lib.hid (HG.out.below bW)
    have d0 := HGW.out.own.cell 0 _ rfl
    have d1 := HGW.out.own.cell 1 _ rfl
    have d2 := HGW.out.own.cell 2 _ rfl
    go_upto_region 2 with (first
      | (go_at_call 25; refine (HR.out _).mono ?_; rintro e w2 ⟨rfl, b2⟩; have HG2 := Lib.hid (HGW.out.below b2); clear d0 d1 d2; have d0 := HG2.out.own.cell 0 _ rfl; have d1 := HG2.out.own.cell 1 _ rfl; have d2 := HG2.out.own.cell 2 _ rfl))
    replace R0 := R0.below b2 R0.lt
    replace bW := bW.trans (b2.mono bW.size)
    clear d0 d1 d2
    go_wp2_with (first | (refine wpList_load_row rfl 77 _ rfl w.heap.size rfl 77 zero6 (0, 0) _ R0 Tryz.underlying77 rfl hhsz.out ?_; (try simp only [Act.put, List.setIfInBounds_toArray, List.set_cons_zero, List.set_cons_succ])) | (refine wpList_store_row rfl 77 _ _ rfl w.heap.size zero6 rfl rfl 77 zero6 R0 hhsz.out rfl hhone.out ?_; (try simp only [Act.put, List.setIfInBounds_toArray, List.set_cons_zero, List.set_cons_succ])))
    have R8 := R0.row zero6
    have bc8 := below_setRow bW (Nat.le_refl _) zero6
    generalize hW : w2.setRow _ _ = w8 at *
    have e0 := R8.cell 0 _ rfl
    have e1 := R8.cell 1 _ rfl
    have e2 := R8.cell 2 _ rfl
    have e3 := R8.cell 3 _ rfl
    have e4 := R8.cell 4 _ rfl
    have e5 := R8.cell 5 _ rfl
    exact bodyPost_ret (v := .tuple #[hdV hdZ, .slice none 0 0, .bool false]) (by simp [results, Tryz.results80, go_sem, e0, e1, e2, e3, e4, e5]) rfl ⟨rfl, bc8⟩
theorem gview_out (h : GrAt w g m mm k l vo E) (o : Int) (ho : o < 0 ∨ (m.o : Int) ≤ o) : Calls Tryz.prog 22 #[grV g, .int .i64 o] w fun e w' => e = .returned (viewV (-1) 0 (.slice none 0 0)) ∧ Below w.heap.size w w' := by
  have HL := Lib.hid fun V (hb : Below w.heap.size w V) => look_out (h.below hb) o ho
  have hhsz : Hid ((Tryz.prog.info? 77).map (·.size) = some zero6.size) := Lib.hid hd_size
  have hhone : Hid (zero6.all (·.oneCell') = true) := Lib.hid (by simp [Value.oneCell'])
  clear h
  go_enter Tryz.func22, Tryz.ntmps22
  go_upto_region 1 with fail
  generalize hW : w.alloc _ = W
  have bW : Below w.heap.size w W := by rw [← hW]; go_grown
  have R0 : Blk W w.heap.size 58 (viewA 0 0 (.slice none 0 0)) := by rw [← hW]; exact Blk.new _ _ _
  clear hW
  have HL1 := Lib.hid (HL.out W bW)
  clear HL
  go_upto_region 2 with (first
    | (go_at_call 80; refine HL1.out.mono ?_; rintro e w2 ⟨rfl, b2⟩; have R2 := (R0.below b2 R0.lt).alloc (.cells zero6 77))
    | (refine wpList_store_row rfl 77 _ _ rfl w2.heap.size zero6 rfl rfl 77 zero6 (Blk.new w2 _ _) hhsz.out rfl hhone.out ?_; (try simp only [Act.put, List.setIfInBounds_toArray, List.set_cons_zero, List.set_cons_succ])))
  rw [World.setRow_alloc_new]
  have b5 : Below w.heap.size w (w2.alloc (.cells zero6 77)) := (bW.trans (b2.mono bW.size)).alloc (by have := bW.size; have := b2.size; omega) _
  generalize hW : w2.alloc (.cells zero6 77) = w5 at *
  clear hW R0
  have e0 := R2.cell 0 _ rfl
  have e1 := R2.cell 1 _ rfl
  have e2 := R2.cell 2 _ rfl
  have z0 := R2.free 0
  have z1 := R2.free 1
  have z2 := R2.free 2
  go_wp2_with fail
  have R8 := ((R2.set 0 (.int .i64 (-1))).set 1 (.int .i64 0)).set 2 (.slice none 0 0)
  have b8 : Below w.heap.size w (((w5.setCell ⟨w.heap.size, 0, none⟩ (.int .i64 (-1))).setCell ⟨w.heap.size, 1, none⟩ (.int .i64 0)).setCell ⟨w.heap.size, 2, none⟩ (.slice none 0 0)) :=
    b5.trans ((((Keep.refl (fun b => b = w.heap.size) w5).set (p := ⟨w.heap.size, 0, none⟩) (fun _ => rfl) (.int .i64 (-1))).set (p := ⟨w.heap.size, 1, none⟩) (fun _ => rfl) (.int .i64 0)).set (p := ⟨w.heap.size, 2, none⟩) (fun _ => rfl) (.slice none 0 0) |>.below b5.size (fun i _ h => by omega))
  generalize ((w5.setCell ⟨w.heap.size, 0, none⟩ (.int .i64 (-1))).setCell ⟨w.heap.size, 1, none⟩ (.int .i64 0)).setCell ⟨w.heap.size, 2, none⟩ (.slice none 0 0) = w8 at *
  have f0 : w8.cell? ⟨w.heap.size, 0, none⟩ = some (.int .i64 (-1)) := R8.cell 0 _ rfl
  have f1 : w8.cell? ⟨w.heap.size, 1, none⟩ = some (.int .i64 0) := R8.cell 1 _ rfl
  have f2 : w8.cell? ⟨w.heap.size, 2, none⟩ = some (.slice none 0 0) := R8.cell 2 _ rfl
  exact bodyPost_ret (v := viewV (-1) 0 (.slice none 0 0)) (by simp [results, Tryz.results22, go_sem, f0, f1, f2]) rfl ⟨rfl, b8⟩
theorem gview_nil (o : Int) (w : World) : Calls Tryz.prog 22 #[.pointer none, .int .i64 o] w fun e w' => e = .returned (viewV (-1) 0 (.slice none 0 0)) ∧ Below w.heap.size w w' := by
  have HL := Lib.hid fun V (hb : Below w.heap.size w V) => look_nil o V
  have hhsz : Hid ((Tryz.prog.info? 77).map (·.size) = some zero6.size) := Lib.hid hd_size
  have hhone : Hid (zero6.all (·.oneCell') = true) := Lib.hid (by simp [Value.oneCell'])
  go_enter Tryz.func22, Tryz.ntmps22
  go_upto_region 1 with fail
  generalize hW : w.alloc _ = W
  have bW : Below w.heap.size w W := by rw [← hW]; go_grown
  have R0 : Blk W w.heap.size 58 (viewA 0 0 (.slice none 0 0)) := by rw [← hW]; exact Blk.new _ _ _
  clear hW
  have HL1 := Lib.hid (HL.out W bW)
  clear HL
  go_upto_region 2 with (first
    | (go_at_call 80; refine HL1.out.mono ?_; rintro e w2 ⟨rfl, b2⟩; have R2 := (R0.below b2 R0.lt).alloc (.cells zero6 77))
    | (refine wpList_store_row rfl 77 _ _ rfl w2.heap.size zero6 rfl rfl 77 zero6 (Blk.new w2 _ _) hhsz.out rfl hhone.out ?_; (try simp only [Act.put, List.setIfInBounds_toArray, List.set_cons_zero, List.set_cons_succ])))
  rw [World.setRow_alloc_new]
  have b5 : Below w.heap.size w (w2.alloc (.cells zero6 77)) := (bW.trans (b2.mono bW.size)).alloc (by have := bW.size; have := b2.size; omega) _
  generalize hW : w2.alloc (.cells zero6 77) = w5 at *
  clear hW R0
  have e0 := R2.cell 0 _ rfl
  have e1 := R2.cell 1 _ rfl
  have e2 := R2.cell 2 _ rfl
  have z0 := R2.free 0
  have z1 := R2.free 1
  have z2 := R2.free 2
  go_wp2_with fail
  have R8 := ((R2.set 0 (.int .i64 (-1))).set 1 (.int .i64 0)).set 2 (.slice none 0 0)
  have b8 : Below w.heap.size w (((w5.setCell ⟨w.heap.size, 0, none⟩ (.int .i64 (-1))).setCell ⟨w.heap.size, 1, none⟩ (.int .i64 0)).setCell ⟨w.heap.size, 2, none⟩ (.slice none 0 0)) :=
    b5.trans ((((Keep.refl (fun b => b = w.heap.size) w5).set (p := ⟨w.heap.size, 0, none⟩) (fun _ => rfl) (.int .i64 (-1))).set (p := ⟨w.heap.size, 1, none⟩) (fun _ => rfl) (.int .i64 0)).set (p := ⟨w.heap.size, 2, none⟩) (fun _ => rfl) (.slice none 0 0) |>.below b5.size (fun i _ h => by omega))
  generalize ((w5.setCell ⟨w.heap.size, 0, none⟩ (.int .i64 (-1))).setCell ⟨w.heap.size, 1, none⟩ (.int .i64 0)).setCell ⟨w.heap.size, 2, none⟩ (.slice none 0 0) = w8 at *
  have f0 : w8.cell? ⟨w.heap.size, 0, none⟩ = some (.int .i64 (-1)) := R8.cell 0 _ rfl
  have f1 : w8.cell? ⟨w.heap.size, 1, none⟩ = some (.int .i64 0) := R8.cell 1 _ rfl
  have f2 : w8.cell? ⟨w.heap.size, 2, none⟩ = some (.slice none 0 0) := R8.cell 2 _ rfl
  exact bodyPost_ret (v := viewV (-1) 0 (.slice none 0 0)) (by simp [results, Tryz.results22, go_sem, f0, f1, f2]) rfl ⟨rfl, b8⟩
theorem gword_nil (o : Int) (w : World) : Calls Tryz.prog 31 #[.pointer none, .int .i64 o] w fun e w' => e = .returned (.tuple #[hdV hdZ, .bool false]) ∧ Below w.heap.size w w' := by
  have HL := Lib.hid fun V (hb : Below w.heap.size w V) => look_nil o V
  have hhsz : Hid ((Tryz.prog.info? 77).map (·.size) = some zero6.size) := Lib.hid hd_size
  have hhone : Hid (zero6.all (·.oneCell') = true) := Lib.hid (by simp [Value.oneCell'])
  go_enter Tryz.func31, Tryz.ntmps31
  go_upto_region 1 with fail
  generalize hW : w.alloc _ = W
  have bW : Below w.heap.size w W := by rw [← hW]; go_grown
  have R0 : Blk W w.heap.size 77 zero6 := by rw [← hW]; exact Blk.new _ _ _
  clear hW
  have HL1 := Lib.hid (HL.out W bW)
  clear HL
  go_upto_region 2 with (first
    | (go_at_call 80; refine HL1.out.mono ?_; rintro e w2 ⟨rfl, b2⟩; have R2 := (R0.below b2 R0.lt).alloc (.cells zero6 77))
    | (refine wpList_store_row rfl 77 _ _ rfl w2.heap.size zero6 rfl rfl 77 zero6 (Blk.new w2 _ _) hhsz.out rfl hhone.out ?_; (try simp only [Act.put, List.setIfInBounds_toArray, List.set_cons_zero, List.set_cons_succ])))
  rw [World.setRow_alloc_new]
  have Q3 := Blk.new w2 77 zero6
  have b3 : Below w.heap.size w (w2.alloc (.cells zero6 77)) := (bW.trans (b2.mono bW.size)).alloc (by have := bW.size; have := b2.size; omega) _
  generalize hW : w2.alloc (.cells zero6 77) = w3 at *
  clear hW R0
  go_wp2_with (first | (refine wpList_load_row rfl 77 _ rfl w2.heap.size rfl 77 zero6 (0, 0) _ Q3 Tryz.underlying77 rfl hhsz.out ?_; (try simp only [Act.put, List.setIfInBounds_toArray, List.set_cons_zero, List.set_cons_succ])) | (refine wpList_store_row rfl 77 _ _ rfl w.heap.size zero6 rfl rfl 77 zero6 R2 hhsz.out rfl hhone.out ?_; (try simp only [Act.put, List.setIfInBounds_toArray, List.set_cons_zero, List.set_cons_succ])))
  have R8 := R2.row zero6
  have bc8 := below_setRow b3 (Nat.le_refl _) zero6
  generalize hW : w3.setRow _ _ = w8 at *
  have e0 := R8.cell 0 _ rfl
  have e1 := R8.cell 1 _ rfl
  have e2 := R8.cell 2 _ rfl
  have e3 := R8.cell 3 _ rfl
  have e4 := R8.cell 4 _ rfl
  have e5 := R8.cell 5 _ rfl
  exact bodyPost_ret (v := .tuple #[hdV hdZ, .bool false]) (by simp [results, Tryz.results31, go_sem, e0, e1, e2, e3, e4, e5]) rfl ⟨rfl, bc8⟩
end
end Go.Proofs.YtbaehokffdpopaaGreat
