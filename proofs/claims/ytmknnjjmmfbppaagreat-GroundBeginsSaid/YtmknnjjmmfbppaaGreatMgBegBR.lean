/- A ground: Word and View. -/
import Derived.Test.YtmknnjjmmfbppaaGreatMgBegBL
import Derived.Test.YtmknnjjmmfbppaaGreatMgBegBM
import Derived.Test.YtmknnjjmmfbppaaGreatMgBegBN
import Derived.Test.YtmknnjjmmfbppaaGreatMgBegBO
import Derived.Test.YtmknnjjmmfbppaaGreatMgBegBP
import Derived.Test.YtmknnjjmmfbppaaGreatMgBegBQ
import Derived.Test.YtmknnjjmmfbppaaGreatMgBegAO
import Derived.Test.YtmknnjjmmfbppaaGreatMgBegAOb
import Derived.Test.YtmknnjjmmfbppaaGreatMgBegAP
namespace Go.Proofs.YtmknnjjmmfbppaaGreat.Re
open Go.ChangeShapes Go.WideShapes Go.ChangeAt Go.RowKit Wd
set_option linter.unusedVariables false
set_option maxRecDepth 100000
set_option linter.unusedSimpArgs false
theorem row_lower {w : World} {B B' size n : Nat} {e : TypeId} {v : Value} {xs : List Value} (h : w.ownsRow B e size v n xs) (hb : B' ≤ B) : w.ownsRow B' e size v n xs := by
  refine ⟨h.1, h.2.imp id fun ⟨g, cap, cur, hv, hB, hr⟩ => ⟨g, cap, cur, hv, Nat.le_trans hb hB, hr⟩⟩
theorem gaddr_add (g j : Nat) : ((⟨g, 0, none⟩ : Addr).add j) = ⟨g, j, none⟩ := by unfold Addr.add; split <;> simp_all
/-- another block's row turns -/
theorem row_setRow {w : World} {B size n C : Nat} {e t : TypeId} {v : Value} {xs : List Value} {cs : Array Value} (h : w.ownsRow B e size v n xs) (hC : Blk w C t cs) (hne : e ≠ t) (cs' : Array Value) : (w.setRow C cs').ownsRow B e size v n xs := by
  have hk : Keep (fun b => b = C) w (w.setRow C cs') := ⟨rfl, rfl, rfl, by simp [World.setRow], fun k _ hk => setRow_other w C k cs' hk⟩
  refine row_ownkeep h hk (fun g hg e2 => ?_)
  subst e2
  obtain ⟨_, cur, hB⟩ := row_lt h hg
  exact hB.apart hC hne rfl
theorem fns_nil {w : World} {bm bg ba : Nat} {t : Int} (h : FnsAt w bm 3 (meanF bg ba)) (ht : t = 0 ∨ t = 1) : (Instr.lookup 122 (.map (some bm)) (.int .i64 t) false).run Tryz.prog w = .ok .nilFunc w := by
  have := h.look (u := t) (by omega)
  rcases ht with rfl | rfl <;> exact this
theorem nil_ne (W : World) : (binOp .neq 121 .nilFunc .nilFunc).run Tryz.prog W = .ok (.bool false) W := by kernel_rfl
def LookPost (w : World) (mm : List Int) (x : Hd) (b : Bool) (e : Ending) (w' : World) : Prop :=
  ∃ a c, e = .returned (.tuple #[hdV x, .slice a mm.length c, .bool b]) ∧ w'.ownsRow w.heap.size 55 1 (.slice a mm.length c) mm.length (mm.map (.int .u64)) ∧ Below w.heap.size w w'
section
variable {w w1 : World} {g : GrP} {m : Mp} {mm mm' : List Int} {k k' : Int} {l l' : List Bool} {vo vo' : Value} {E E' : List Ev}
set_option maxHeartbeats 4000000 in
theorem look_any (h : GrAt w g m mm k l vo E) (o : Nat) (ho : o < m.o) (v : Nat) (hv : mm[wordN o]? = some (v : Int)) (x : Hd) (b : Bool)
    (hO : ∀ V, Calls Tryz.prog 113 #[.int .u64 (v : Int)] V fun e w' => e = .returned (.tuple #[hdV x, .bool b]) ∧ Below V.heap.size V w') :
    Calls Tryz.prog 62 #[grV g, .int .i64 (o : Int)] w (LookPost w mm x b) := by
  have HG := Lib.hid h
  have hlt := h.own.lt
  have hmt := h.ok.t
  have hmo := h.ok.o
  have hmn := h.ok.n
  have HR := Lib.hid fun V => right_any (m.t : Int) (m.o : Int) (m.n : Int) V
  have e : rightS (m.t : Int) (m.o : Int) (m.n : Int) = true := by
    simp [rightS]
    omega
  rw [e] at HR
  have HS := Lib.hid fun V => size_any m V h.ok
  have HWd := Lib.hid fun V => mword_any m (o : Int) V (by omega)
  have HO := Lib.hid hO
  have hhsz : Hid ((Tryz.prog.info? 100).map (·.size) = some (hdArr x).size) := Lib.hid hd_size
  have hhone := Lib.hid (hd_one x)
  have hlen := Lib.hid h.size
  have hw6 : ((wordN (o : Int) : Nat) : Int) < 80000 := by unfold wordN; omega
  have HV := Lib.hid hv
  have hwl : wordN (o : Int) < mm.length := (List.getElem?_eq_some_iff.1 hv).1
  have HBD := Lib.hid (And.intro hmt (And.intro hmo (And.intro hmn hw6)))
  clear h e hO hv hmt hmo hmn hw6
  go_enter Tryz.func62, Tryz.ntmps62
  go_upto_region 1 with fail
  generalize hW : w.alloc _ = W
  have bW : Below w.heap.size w W := by rw [← hW]; go_grown
  have R0 : Blk W w.heap.size 100 zero6 := by rw [← hW]; exact Blk.new _ _ _
  clear hW
  have HGW := Lib.hid (HG.out.below bW)
  have d0 := HGW.out.own.cell 0 _ rfl
  have d1 := HGW.out.own.cell 1 _ rfl
  have d2 := HGW.out.own.cell 2 _ rfl
  have hs1 := bW.size
  go_upto_region 3 with (first
    | (go_at_call 22; refine (HR.out _).mono ?_; rintro e w2 ⟨rfl, b2⟩; have HG2 := Lib.hid (HGW.out.below b2); clear d0 d1 d2; have d0 := HG2.out.own.cell 0 _ rfl; have d1 := HG2.out.own.cell 1 _ rfl; have d2 := HG2.out.own.cell 2 _ rfl))
  have bc := bW.trans (b2.mono bW.size)
  have R2 := R0.below b2 R0.lt
  have d3 := HG2.out.own.cell 3 _ rfl
  have HA := Lib.hid (all_any _ _ _ _ w2 HG2.out.cells)
  clear HGW b2 bW R0 d0 d1 d2
  have hs2 := bc.size
  go_upto_region 4 with (go_at_call 12; refine HA.out.mono ?_; rintro e w3 ⟨u, rfl, b3, hu⟩)
  obtain ⟨hmt, hmo, hmn, hw6⟩ := HBD.out
  obtain ⟨ga, ca, rfl⟩ := row_slice hu (by omega)
  have c3 : w3.cell? ⟨ga, wordN (o : Int), none⟩ = some (.int .u64 (v : Int)) := by
    have := hu.cells (g := ga) rfl (wordN (o : Int)) (.int .u64 (v : Int)) (by rw [List.getElem?_map, HV.out]; rfl)
    rwa [gaddr_add] at this
  have HU := Lib.hid (row_lower hu hs2)
  have HG3 := Lib.hid (HG2.out.below b3)
  have R3 := R2.below b3 R2.lt
  have bc3 := bc.trans (b3.mono bc.size)
  have d0 := HG3.out.own.cell 0 _ rfl
  have d1 := HG3.out.own.cell 1 _ rfl
  have d2 := HG3.out.own.cell 2 _ rfl
  clear hu HG2 HA b3 bc R2 d3
  obtain ⟨ln, hln⟩ : ∃ ln, ln = mm.length := ⟨_, rfl⟩
  have HLN := Lib.hid hln
  have hsz : sizeN m = ln := by rw [hln, hlen.out]
  rw [← hln] at hwl ⊢
  rw [hsz] at HS
  have hlb : ln ≤ 1000000 := by rw [← hsz]; unfold sizeN; omega
  clear hln hsz hmt hmo hmn hw6
  go_upto_region 6 with (go_at_call 51; refine (HS.out _).mono ?_; rintro e w4 ⟨rfl, b4⟩)
  have HG4 := Lib.hid (HG3.out.below b4)
  have R4 := R3.below b4 R3.lt
  have bc4 := bc3.trans (b4.mono bc3.size)
  have c4 := cell_below c3 b4
  replace HU := Lib.hid (row_ownkeep HU.out (Keep.ofBelow (Q := fun _ => False) b4) (fun _ _ h => h))
  clear d0 d1 d2 HG3 R3 bc3 c3 b4
  have d0 := HG4.out.own.cell 0 _ rfl
  have d1 := HG4.out.own.cell 1 _ rfl
  have d2 := HG4.out.own.cell 2 _ rfl
  go_upto_region 7 with (first
    | (go_at_call 53; refine (HWd.out _).mono ?_; rintro e w5 ⟨rfl, b5⟩; have c5 := cell_below c4 b5; have R5 := R4.below b5 R4.lt; have bc5 := bc4.trans (b5.mono bc4.size); replace HU := Lib.hid (row_ownkeep HU.out (Keep.ofBelow (Q := fun _ => False) b5) (fun _ _ h => h)))
    | (go_at_call 113; refine (HO.out _).mono ?_; rintro e w6 ⟨rfl, b6⟩; have R6 := R5.below b6 R5.lt; have bc6 := bc5.trans (b6.mono bc5.size); replace HU := Lib.hid (row_ownkeep HU.out (Keep.ofBelow (Q := fun _ => False) b6) (fun _ _ h => h)))
    | (refine wpList_store_row rfl 100 _ _ rfl w.heap.size (hdArr x) rfl rfl 100 zero6 R6 hhsz.out rfl hhone.out ?_; (try simp only [Act.put, List.setIfInBounds_toArray, List.set_cons_zero, List.set_cons_succ])))
  have R7 := R6.row (hdArr x)
  have bc7 := below_setRow bc6 (Nat.le_refl _) (hdArr x)
  replace HU := Lib.hid (row_setRow HU.out R6 (by decide) (hdArr x))
  generalize hW : w6.setRow _ _ = w7 at *
  clear hW R4 R5 R6 bc4 bc5 bc6 c4 c5 d0 d1 d2
  go_wp2_with (first | (refine wpList_load_row rfl 100 _ rfl w.heap.size rfl 100 (hdArr x) (0, 0) _ R7 Tryz.underlying100 rfl hhsz.out ?_; (try simp only [Act.put, List.setIfInBounds_toArray, List.set_cons_zero, List.set_cons_succ])) | (refine wpList_store_row rfl 100 _ _ rfl w.heap.size (hdArr x) rfl rfl 100 (hdArr x) R7 hhsz.out rfl hhone.out ?_; (try simp only [Act.put, List.setIfInBounds_toArray, List.set_cons_zero, List.set_cons_succ])))
  have R8 := R7.row (hdArr x)
  have bc8 := below_setRow bc7 (Nat.le_refl _) (hdArr x)
  replace HU := Lib.hid (row_setRow HU.out R7 (by decide) (hdArr x))
  generalize hW : w7.setRow _ _ = w8 at *
  have e0 := R8.cell 0 _ rfl
  have e1 := R8.cell 1 _ rfl
  have e2 := R8.cell 2 _ rfl
  have e3 := R8.cell 3 _ rfl
  have e4 := R8.cell 4 _ rfl
  have e5 := R8.cell 5 _ rfl
  exact bodyPost_ret (v := .tuple #[hdV x, .slice (some ⟨ga, 0, none⟩) ln ca, .bool b]) (by simp [results, Tryz.results62, go_sem, e0, e1, e2, e3, e4, e5]) rfl ⟨some ⟨ga, 0, none⟩, ca, by rw [HLN.out], HU.out, bc8⟩
set_option maxHeartbeats 2000000 in
theorem gword_any (h : GrAt w g m mm k l vo E) (o : Nat) (ho : o < m.o) (v : Nat) (hv : mm[wordN o]? = some (v : Int)) (x : Hd) (b : Bool)
    (hO : ∀ V, Calls Tryz.prog 113 #[.int .u64 (v : Int)] V fun e w' => e = .returned (.tuple #[hdV x, .bool b]) ∧ Below V.heap.size V w') :
    Calls Tryz.prog 49 #[grV g, .int .i64 (o : Int)] w fun e w' => e = .returned (.tuple #[hdV x, .bool b]) ∧ Below w.heap.size w w' := by
  have HL := Lib.hid fun V (hb : Below w.heap.size w V) => look_any (h.below hb) o ho v hv x b hO
  have hhsz : Hid ((Tryz.prog.info? 100).map (·.size) = some (hdArr x).size) := Lib.hid hd_size
  have hhone := Lib.hid (hd_one x)
  clear h hO hv
  go_enter Tryz.func49, Tryz.ntmps49
  go_upto_region 1 with fail
  generalize hW : w.alloc _ = W
  have bW : Below w.heap.size w W := by rw [← hW]; go_grown
  have R0 : Blk W w.heap.size 100 zero6 := by rw [← hW]; exact Blk.new _ _ _
  clear hW
  have HL1 := Lib.hid (HL.out W bW)
  clear HL
  go_upto_region 2 with (first
    | (go_at_call 62; refine HL1.out.mono ?_; rintro e w2 ⟨a, c, rfl, h2, b2⟩; have R2 := (R0.below b2 R0.lt).alloc (.cells zero6 100))
    | (refine wpList_store_row rfl 100 _ _ rfl w2.heap.size (hdArr x) rfl rfl 100 zero6 (Blk.new w2 _ _) hhsz.out rfl hhone.out ?_; (try simp only [Act.put, List.setIfInBounds_toArray, List.set_cons_zero, List.set_cons_succ])))
  rw [World.setRow_alloc_new]
  have Q3 := Blk.new w2 100 (hdArr x)
  have R3 := (R0.below b2 R0.lt).alloc (.cells (hdArr x) 100)
  have b3 : Below w.heap.size w (w2.alloc (.cells (hdArr x) 100)) := (bW.trans (b2.mono bW.size)).alloc (by have := bW.size; have := b2.size; omega) _
  clear R2 h2 R0
  generalize hW : w2.alloc (.cells (hdArr x) 100) = w3 at *
  clear hW
  go_wp2_with (first | (refine wpList_load_row rfl 100 _ rfl w2.heap.size rfl 100 (hdArr x) (0, 0) _ Q3 Tryz.underlying100 rfl hhsz.out ?_; (try simp only [Act.put, List.setIfInBounds_toArray, List.set_cons_zero, List.set_cons_succ])) | (refine wpList_store_row rfl 100 _ _ rfl w.heap.size (hdArr x) rfl rfl 100 zero6 R3 hhsz.out rfl hhone.out ?_; (try simp only [Act.put, List.setIfInBounds_toArray, List.set_cons_zero, List.set_cons_succ])))
  have R8 := R3.row (hdArr x)
  have bc8 := below_setRow b3 (Nat.le_refl _) (hdArr x)
  generalize hW : w3.setRow _ _ = w8 at *
  have e0 := R8.cell 0 _ rfl
  have e1 := R8.cell 1 _ rfl
  have e2 := R8.cell 2 _ rfl
  have e3 := R8.cell 3 _ rfl
  have e4 := R8.cell 4 _ rfl
  have e5 := R8.cell 5 _ rfl
  exact bodyPost_ret (v := .tuple #[hdV x, .bool b]) (by simp [results, Tryz.results49, go_sem, e0, e1, e2, e3, e4, e5]) rfl ⟨rfl, bc8⟩
abbrev viewA (o d : Int) (v : Value) : Array Value := #[.int .i64 o, .int .i64 d, v]
abbrev viewV (o d : Int) (v : Value) : Value := .agg (viewA o d v)
set_option maxHeartbeats 2000000 in
theorem gview_plain (h : GrAt w g m mm k l vo E) (o : Nat) (ho : o < m.o) (v : Nat) (hv : mm[wordN o]? = some (v : Int)) (x : Hd) (ht : x.t = 0 ∨ x.t = 1)
    (hO : ∀ V, Calls Tryz.prog 113 #[.int .u64 (v : Int)] V fun e w' => e = .returned (.tuple #[hdV x, .bool true]) ∧ Below V.heap.size V w') :
    Calls Tryz.prog 19 #[grV g, .int .i64 (o : Int)] w fun e w' => e = .returned (viewV (-1) 0 (.slice none 0 0)) ∧ Below w.heap.size w w' := by
  have HL := Lib.hid fun V (hb : Below w.heap.size w V) => look_any (h.below hb) o ho v hv x true hO
  have hhsz : Hid ((Tryz.prog.info? 100).map (·.size) = some (hdArr x).size) := Lib.hid hd_size
  have hhone := Lib.hid (hd_one x)
  clear h hO hv
  go_enter Tryz.func19, Tryz.ntmps19
  go_upto_region 1 with fail
  generalize hW : w.alloc _ = W
  have bW : Below w.heap.size w W := by rw [← hW]; go_grown
  have R0 : Blk W w.heap.size 58 (viewA 0 0 (.slice none 0 0)) := by rw [← hW]; exact Blk.new _ _ _
  clear hW
  have HL1 := Lib.hid (HL.out W bW)
  clear HL
  go_upto_region 2 with (first
    | (go_at_call 62; refine HL1.out.mono ?_; rintro e w2 ⟨a, c, rfl, h2, b2⟩; have R2 := (R0.below b2 R0.lt).alloc (.cells zero6 100))
    | (refine wpList_store_row rfl 100 _ _ rfl w2.heap.size (hdArr x) rfl rfl 100 zero6 (Blk.new w2 _ _) hhsz.out rfl hhone.out ?_; (try simp only [Act.put, List.setIfInBounds_toArray, List.set_cons_zero, List.set_cons_succ])))
  rw [World.setRow_alloc_new]
  have Q3 := Blk.new w2 100 (hdArr x)
  have R3 := (R0.below b2 R0.lt).alloc (.cells (hdArr x) 100)
  have b3 : Below w.heap.size w (w2.alloc (.cells (hdArr x) 100)) := (bW.trans (b2.mono bW.size)).alloc (by have := bW.size; have := b2.size; omega) _
  clear R2 h2 R0
  generalize hW : w2.alloc (.cells (hdArr x) 100) = w3 at *
  clear hW
  go_upto_region 3 with fail
  have t3 : w3.cell? ⟨w2.heap.size, 0, none⟩ = some (.int .i64 x.t) := Q3.cell 0 _ rfl
  have HM := Lib.hid fun V => meanings_any (some ⟨g.G, 0, none⟩) a mm.length c V
  have bd := bdrewP w3
  have hlt3 : w2.heap.size < w3.heap.size := Q3.lt
  have HT3 := Lib.hid (show ∀ V, Below w3.heap.size w3 V → V.cell? ⟨w2.heap.size, 0, none⟩ = some (.int .i64 x.t) from fun V hV => cell_below t3 hV)
  clear t3
  go_region_held3 (fun V => V.cell? ⟨w2.heap.size, 0, none⟩ = some (.int .i64 x.t)) (first | exact HT3.out _ b5 | exact HT3.out _ bd) (first
    | (go_at_call 63; refine (HM.out _).mono ?_; rintro e w5 ⟨bm, bg, ba, rfl, hF, hg, ha, b5⟩; replace b5 := Below.trans bd b5; have hlk := fns_nil hF ht))
  have R5 := R3.below b5 R3.lt
  have bc5 := b3.trans (b5.mono b3.size)
  have e0 := R5.cell 0 _ rfl
  have e1 := R5.cell 1 _ rfl
  have e2 := R5.cell 2 _ rfl
  have z0 := R5.free 0
  have z1 := R5.free 1
  have z2 := R5.free 2
  have hnn := nil_ne
  go_wp2_with fail
  have R8 := ((R5.set 0 (.int .i64 (-1))).set 1 (.int .i64 0)).set 2 (.slice none 0 0)
  have b8 : Below w.heap.size w (((w5.setCell ⟨w.heap.size, 0, none⟩ (.int .i64 (-1))).setCell ⟨w.heap.size, 1, none⟩ (.int .i64 0)).setCell ⟨w.heap.size, 2, none⟩ (.slice none 0 0)) :=
    bc5.trans ((((Keep.refl (fun b => b = w.heap.size) w5).set (p := ⟨w.heap.size, 0, none⟩) (fun _ => rfl) (.int .i64 (-1))).set (p := ⟨w.heap.size, 1, none⟩) (fun _ => rfl) (.int .i64 0)).set (p := ⟨w.heap.size, 2, none⟩) (fun _ => rfl) (.slice none 0 0) |>.below bc5.size (fun i _ h => by omega))
  generalize ((w5.setCell ⟨w.heap.size, 0, none⟩ (.int .i64 (-1))).setCell ⟨w.heap.size, 1, none⟩ (.int .i64 0)).setCell ⟨w.heap.size, 2, none⟩ (.slice none 0 0) = w8 at *
  have f0 : w8.cell? ⟨w.heap.size, 0, none⟩ = some (.int .i64 (-1)) := R8.cell 0 _ rfl
  have f1 : w8.cell? ⟨w.heap.size, 1, none⟩ = some (.int .i64 0) := R8.cell 1 _ rfl
  have f2 : w8.cell? ⟨w.heap.size, 2, none⟩ = some (.slice none 0 0) := R8.cell 2 _ rfl
  exact bodyPost_ret (v := viewV (-1) 0 (.slice none 0 0)) (by simp [results, Tryz.results19, go_sem, f0, f1, f2]) rfl ⟨rfl, b8⟩
end
end Go.Proofs.YtmknnjjmmfbppaaGreat.Re
/- A ground: Word and View where there is nothing. -/
namespace Go.Proofs.YtmknnjjmmfbppaaGreat.Re
open Go.ChangeShapes Go.WideShapes Go.ChangeAt Go.RowKit Wd
set_option linter.unusedVariables false
set_option maxRecDepth 100000
set_option linter.unusedSimpArgs false
abbrev hdZ : Hd := ⟨0, 0, 0, 0, 0, 0⟩
def NoLook (w : World) (e : Ending) (w' : World) : Prop := e = .returned (.tuple #[hdV hdZ, .slice none 0 0, .bool false]) ∧ Below w.heap.size w w'
section
variable {w w1 : World} {g : GrP} {m : Mp} {mm mm' : List Int} {k k' : Int} {l l' : List Bool} {vo vo' : Value} {E E' : List Ev}
theorem look_nil (o : Int) (w : World) : Calls Tryz.prog 62 #[.pointer none, .int .i64 o] w (NoLook w) := by
  have hhsz : Hid ((Tryz.prog.info? 100).map (·.size) = some zero6.size) := Lib.hid hd_size
  have hhone : Hid (zero6.all (·.oneCell') = true) := Lib.hid (by simp [Value.oneCell'])
  go_enter Tryz.func62, Tryz.ntmps62
  go_upto_region 1 with fail
  generalize hW : w.alloc _ = W
  have bW : Below w.heap.size w W := by rw [← hW]; go_grown
  have R0 : Blk W w.heap.size 100 zero6 := by rw [← hW]; exact Blk.new _ _ _
  clear hW
  go_wp2_with (first | (refine wpList_load_row rfl 100 _ rfl w.heap.size rfl 100 zero6 (0, 0) _ R0 Tryz.underlying100 rfl hhsz.out ?_; (try simp only [Act.put, List.setIfInBounds_toArray, List.set_cons_zero, List.set_cons_succ])) | (refine wpList_store_row rfl 100 _ _ rfl w.heap.size zero6 rfl rfl 100 zero6 R0 hhsz.out rfl hhone.out ?_; (try simp only [Act.put, List.setIfInBounds_toArray, List.set_cons_zero, List.set_cons_succ])))
  have R8 := R0.row zero6
  have bc8 := below_setRow bW (Nat.le_refl _) zero6
  generalize hW : W.setRow _ _ = w8 at *
  have e0 := R8.cell 0 _ rfl
  have e1 := R8.cell 1 _ rfl
  have e2 := R8.cell 2 _ rfl
  have e3 := R8.cell 3 _ rfl
  have e4 := R8.cell 4 _ rfl
  have e5 := R8.cell 5 _ rfl
  exact bodyPost_ret (v := .tuple #[hdV hdZ, .slice none 0 0, .bool false]) (by simp [results, Tryz.results62, go_sem, e0, e1, e2, e3, e4, e5]) rfl ⟨rfl, bc8⟩
theorem look_out (h : GrAt w g m mm k l vo E) (o : Int) (ho : o < 0 ∨ (m.o : Int) ≤ o) : Calls Tryz.prog 62 #[grV g, .int .i64 o] w (NoLook w) := by
  have HG := Lib.hid h
  have HR := Lib.hid fun V => right_any (m.t : Int) (m.o : Int) (m.n : Int) V
  have e : rightS (m.t : Int) (m.o : Int) (m.n : Int) = true := by
    have h1 := h.ok.t
    have h2 := h.ok.o
    have h3 := h.ok.n
    simp [rightS]
    omega
  rw [e] at HR
  have hhsz : Hid ((Tryz.prog.info? 100).map (·.size) = some zero6.size) := Lib.hid hd_size
  have hhone : Hid (zero6.all (·.oneCell') = true) := Lib.hid (by simp [Value.oneCell'])
  clear h e
  rcases ho with ho | ho
  · skip
    go_enter Tryz.func62, Tryz.ntmps62
    go_upto_region 1 with fail
    generalize hW : w.alloc _ = W
    have bW : Below w.heap.size w W := by rw [← hW]; go_grown
    have R0 : Blk W w.heap.size 100 zero6 := by rw [← hW]; exact Blk.new _ _ _
    clear hW
    have HGW := Lib.hid (HG.out.below bW)
    have d0 := HGW.out.own.cell 0 _ rfl
    have d1 := HGW.out.own.cell 1 _ rfl
    have d2 := HGW.out.own.cell 2 _ rfl
    go_upto_region 2 with (first
      | (go_at_call 22; refine (HR.out _).mono ?_; rintro e w2 ⟨rfl, b2⟩; have HG2 := Lib.hid (HGW.out.below b2); clear d0 d1 d2; have d0 := HG2.out.own.cell 0 _ rfl; have d1 := HG2.out.own.cell 1 _ rfl; have d2 := HG2.out.own.cell 2 _ rfl))
    replace R0 := R0.below b2 R0.lt
    replace bW := bW.trans (b2.mono bW.size)
    clear d0 d1 d2
    go_wp2_with (first | (refine wpList_load_row rfl 100 _ rfl w.heap.size rfl 100 zero6 (0, 0) _ R0 Tryz.underlying100 rfl hhsz.out ?_; (try simp only [Act.put, List.setIfInBounds_toArray, List.set_cons_zero, List.set_cons_succ])) | (refine wpList_store_row rfl 100 _ _ rfl w.heap.size zero6 rfl rfl 100 zero6 R0 hhsz.out rfl hhone.out ?_; (try simp only [Act.put, List.setIfInBounds_toArray, List.set_cons_zero, List.set_cons_succ])))
    have R8 := R0.row zero6
    have bc8 := below_setRow bW (Nat.le_refl _) zero6
    generalize hW : w2.setRow _ _ = w8 at *
    have e0 := R8.cell 0 _ rfl
    have e1 := R8.cell 1 _ rfl
    have e2 := R8.cell 2 _ rfl
    have e3 := R8.cell 3 _ rfl
    have e4 := R8.cell 4 _ rfl
    have e5 := R8.cell 5 _ rfl
    exact bodyPost_ret (v := .tuple #[hdV hdZ, .slice none 0 0, .bool false]) (by simp [results, Tryz.results62, go_sem, e0, e1, e2, e3, e4, e5]) rfl ⟨rfl, bc8⟩
  · have hn0 : 0 ≤ o := by omega
    go_enter Tryz.func62, Tryz.ntmps62
    go_upto_region 1 with fail
    generalize hW : w.alloc _ = W
    have bW : Below w.heap.size w W := by rw [← hW]; go_grown
    have R0 : Blk W w.heap.size 100 zero6 := by rw [← hW]; exact Blk.new _ _ _
    clear hW
    have HGW := Lib.hid (HG.out.below bW)
    have d0 := HGW.out.own.cell 0 _ rfl
    have d1 := HGW.out.own.cell 1 _ rfl
    have d2 := HGW.out.own.cell 2 _ rfl
    go_upto_region 2 with (first
      | (go_at_call 22; refine (HR.out _).mono ?_; rintro e w2 ⟨rfl, b2⟩; have HG2 := Lib.hid (HGW.out.below b2); clear d0 d1 d2; have d0 := HG2.out.own.cell 0 _ rfl; have d1 := HG2.out.own.cell 1 _ rfl; have d2 := HG2.out.own.cell 2 _ rfl))
    replace R0 := R0.below b2 R0.lt
    replace bW := bW.trans (b2.mono bW.size)
    clear d0 d1 d2
    go_wp2_with (first | (refine wpList_load_row rfl 100 _ rfl w.heap.size rfl 100 zero6 (0, 0) _ R0 Tryz.underlying100 rfl hhsz.out ?_; (try simp only [Act.put, List.setIfInBounds_toArray, List.set_cons_zero, List.set_cons_succ])) | (refine wpList_store_row rfl 100 _ _ rfl w.heap.size zero6 rfl rfl 100 zero6 R0 hhsz.out rfl hhone.out ?_; (try simp only [Act.put, List.setIfInBounds_toArray, List.set_cons_zero, List.set_cons_succ])))
    have R8 := R0.row zero6
    have bc8 := below_setRow bW (Nat.le_refl _) zero6
    generalize hW : w2.setRow _ _ = w8 at *
    have e0 := R8.cell 0 _ rfl
    have e1 := R8.cell 1 _ rfl
    have e2 := R8.cell 2 _ rfl
    have e3 := R8.cell 3 _ rfl
    have e4 := R8.cell 4 _ rfl
    have e5 := R8.cell 5 _ rfl
    exact bodyPost_ret (v := .tuple #[hdV hdZ, .slice none 0 0, .bool false]) (by simp [results, Tryz.results62, go_sem, e0, e1, e2, e3, e4, e5]) rfl ⟨rfl, bc8⟩
theorem gview_out (h : GrAt w g m mm k l vo E) (o : Int) (ho : o < 0 ∨ (m.o : Int) ≤ o) : Calls Tryz.prog 19 #[grV g, .int .i64 o] w fun e w' => e = .returned (viewV (-1) 0 (.slice none 0 0)) ∧ Below w.heap.size w w' := by
  have HL := Lib.hid fun V (hb : Below w.heap.size w V) => look_out (h.below hb) o ho
  have hhsz : Hid ((Tryz.prog.info? 100).map (·.size) = some zero6.size) := Lib.hid hd_size
  have hhone : Hid (zero6.all (·.oneCell') = true) := Lib.hid (by simp [Value.oneCell'])
  clear h
  go_enter Tryz.func19, Tryz.ntmps19
  go_upto_region 1 with fail
  generalize hW : w.alloc _ = W
  have bW : Below w.heap.size w W := by rw [← hW]; go_grown
  have R0 : Blk W w.heap.size 58 (viewA 0 0 (.slice none 0 0)) := by rw [← hW]; exact Blk.new _ _ _
  clear hW
  have HL1 := Lib.hid (HL.out W bW)
  clear HL
  go_upto_region 2 with (first
    | (go_at_call 62; refine HL1.out.mono ?_; rintro e w2 ⟨rfl, b2⟩; have R2 := (R0.below b2 R0.lt).alloc (.cells zero6 100))
    | (refine wpList_store_row rfl 100 _ _ rfl w2.heap.size zero6 rfl rfl 100 zero6 (Blk.new w2 _ _) hhsz.out rfl hhone.out ?_; (try simp only [Act.put, List.setIfInBounds_toArray, List.set_cons_zero, List.set_cons_succ])))
  rw [World.setRow_alloc_new]
  have b5 : Below w.heap.size w (w2.alloc (.cells zero6 100)) := (bW.trans (b2.mono bW.size)).alloc (by have := bW.size; have := b2.size; omega) _
  generalize hW : w2.alloc (.cells zero6 100) = w5 at *
  clear hW R0
  have e0 := R2.cell 0 _ rfl
  have e1 := R2.cell 1 _ rfl
  have e2 := R2.cell 2 _ rfl
  have z0 := R2.free 0
  have z1 := R2.free 1
  have z2 := R2.free 2
  go_wp2_with fail
  have R8 := ((R2.set 0 (.int .i64 (-1))).set 1 (.int .i64 0)).set 2 (.slice none 0 0)
  have b8 : Below w.heap.size w (((w5.setCell ⟨w.heap.size, 0, none⟩ (.int .i64 (-1))).setCell ⟨w.heap.size, 1, none⟩ (.int .i64 0)).setCell ⟨w.heap.size, 2, none⟩ (.slice none 0 0)) :=
    b5.trans ((((Keep.refl (fun b => b = w.heap.size) w5).set (p := ⟨w.heap.size, 0, none⟩) (fun _ => rfl) (.int .i64 (-1))).set (p := ⟨w.heap.size, 1, none⟩) (fun _ => rfl) (.int .i64 0)).set (p := ⟨w.heap.size, 2, none⟩) (fun _ => rfl) (.slice none 0 0) |>.below b5.size (fun i _ h => by omega))
  generalize ((w5.setCell ⟨w.heap.size, 0, none⟩ (.int .i64 (-1))).setCell ⟨w.heap.size, 1, none⟩ (.int .i64 0)).setCell ⟨w.heap.size, 2, none⟩ (.slice none 0 0) = w8 at *
  have f0 : w8.cell? ⟨w.heap.size, 0, none⟩ = some (.int .i64 (-1)) := R8.cell 0 _ rfl
  have f1 : w8.cell? ⟨w.heap.size, 1, none⟩ = some (.int .i64 0) := R8.cell 1 _ rfl
  have f2 : w8.cell? ⟨w.heap.size, 2, none⟩ = some (.slice none 0 0) := R8.cell 2 _ rfl
  exact bodyPost_ret (v := viewV (-1) 0 (.slice none 0 0)) (by simp [results, Tryz.results19, go_sem, f0, f1, f2]) rfl ⟨rfl, b8⟩
theorem gview_nil (o : Int) (w : World) : Calls Tryz.prog 19 #[.pointer none, .int .i64 o] w fun e w' => e = .returned (viewV (-1) 0 (.slice none 0 0)) ∧ Below w.heap.size w w' := by
  have HL := Lib.hid fun V (hb : Below w.heap.size w V) => look_nil o V
  have hhsz : Hid ((Tryz.prog.info? 100).map (·.size) = some zero6.size) := Lib.hid hd_size
  have hhone : Hid (zero6.all (·.oneCell') = true) := Lib.hid (by simp [Value.oneCell'])
  go_enter Tryz.func19, Tryz.ntmps19
  go_upto_region 1 with fail
  generalize hW : w.alloc _ = W
  have bW : Below w.heap.size w W := by rw [← hW]; go_grown
  have R0 : Blk W w.heap.size 58 (viewA 0 0 (.slice none 0 0)) := by rw [← hW]; exact Blk.new _ _ _
  clear hW
  have HL1 := Lib.hid (HL.out W bW)
  clear HL
  go_upto_region 2 with (first
    | (go_at_call 62; refine HL1.out.mono ?_; rintro e w2 ⟨rfl, b2⟩; have R2 := (R0.below b2 R0.lt).alloc (.cells zero6 100))
    | (refine wpList_store_row rfl 100 _ _ rfl w2.heap.size zero6 rfl rfl 100 zero6 (Blk.new w2 _ _) hhsz.out rfl hhone.out ?_; (try simp only [Act.put, List.setIfInBounds_toArray, List.set_cons_zero, List.set_cons_succ])))
  rw [World.setRow_alloc_new]
  have b5 : Below w.heap.size w (w2.alloc (.cells zero6 100)) := (bW.trans (b2.mono bW.size)).alloc (by have := bW.size; have := b2.size; omega) _
  generalize hW : w2.alloc (.cells zero6 100) = w5 at *
  clear hW R0
  have e0 := R2.cell 0 _ rfl
  have e1 := R2.cell 1 _ rfl
  have e2 := R2.cell 2 _ rfl
  have z0 := R2.free 0
  have z1 := R2.free 1
  have z2 := R2.free 2
  go_wp2_with fail
  have R8 := ((R2.set 0 (.int .i64 (-1))).set 1 (.int .i64 0)).set 2 (.slice none 0 0)
  have b8 : Below w.heap.size w (((w5.setCell ⟨w.heap.size, 0, none⟩ (.int .i64 (-1))).setCell ⟨w.heap.size, 1, none⟩ (.int .i64 0)).setCell ⟨w.heap.size, 2, none⟩ (.slice none 0 0)) :=
    b5.trans ((((Keep.refl (fun b => b = w.heap.size) w5).set (p := ⟨w.heap.size, 0, none⟩) (fun _ => rfl) (.int .i64 (-1))).set (p := ⟨w.heap.size, 1, none⟩) (fun _ => rfl) (.int .i64 0)).set (p := ⟨w.heap.size, 2, none⟩) (fun _ => rfl) (.slice none 0 0) |>.below b5.size (fun i _ h => by omega))
  generalize ((w5.setCell ⟨w.heap.size, 0, none⟩ (.int .i64 (-1))).setCell ⟨w.heap.size, 1, none⟩ (.int .i64 0)).setCell ⟨w.heap.size, 2, none⟩ (.slice none 0 0) = w8 at *
  have f0 : w8.cell? ⟨w.heap.size, 0, none⟩ = some (.int .i64 (-1)) := R8.cell 0 _ rfl
  have f1 : w8.cell? ⟨w.heap.size, 1, none⟩ = some (.int .i64 0) := R8.cell 1 _ rfl
  have f2 : w8.cell? ⟨w.heap.size, 2, none⟩ = some (.slice none 0 0) := R8.cell 2 _ rfl
  exact bodyPost_ret (v := viewV (-1) 0 (.slice none 0 0)) (by simp [results, Tryz.results19, go_sem, f0, f1, f2]) rfl ⟨rfl, b8⟩
theorem gword_nil (o : Int) (w : World) : Calls Tryz.prog 49 #[.pointer none, .int .i64 o] w fun e w' => e = .returned (.tuple #[hdV hdZ, .bool false]) ∧ Below w.heap.size w w' := by
  have HL := Lib.hid fun V (hb : Below w.heap.size w V) => look_nil o V
  have hhsz : Hid ((Tryz.prog.info? 100).map (·.size) = some zero6.size) := Lib.hid hd_size
  have hhone : Hid (zero6.all (·.oneCell') = true) := Lib.hid (by simp [Value.oneCell'])
  go_enter Tryz.func49, Tryz.ntmps49
  go_upto_region 1 with fail
  generalize hW : w.alloc _ = W
  have bW : Below w.heap.size w W := by rw [← hW]; go_grown
  have R0 : Blk W w.heap.size 100 zero6 := by rw [← hW]; exact Blk.new _ _ _
  clear hW
  have HL1 := Lib.hid (HL.out W bW)
  clear HL
  go_upto_region 2 with (first
    | (go_at_call 62; refine HL1.out.mono ?_; rintro e w2 ⟨rfl, b2⟩; have R2 := (R0.below b2 R0.lt).alloc (.cells zero6 100))
    | (refine wpList_store_row rfl 100 _ _ rfl w2.heap.size zero6 rfl rfl 100 zero6 (Blk.new w2 _ _) hhsz.out rfl hhone.out ?_; (try simp only [Act.put, List.setIfInBounds_toArray, List.set_cons_zero, List.set_cons_succ])))
  rw [World.setRow_alloc_new]
  have Q3 := Blk.new w2 100 zero6
  have b3 : Below w.heap.size w (w2.alloc (.cells zero6 100)) := (bW.trans (b2.mono bW.size)).alloc (by have := bW.size; have := b2.size; omega) _
  generalize hW : w2.alloc (.cells zero6 100) = w3 at *
  clear hW R0
  go_wp2_with (first | (refine wpList_load_row rfl 100 _ rfl w2.heap.size rfl 100 zero6 (0, 0) _ Q3 Tryz.underlying100 rfl hhsz.out ?_; (try simp only [Act.put, List.setIfInBounds_toArray, List.set_cons_zero, List.set_cons_succ])) | (refine wpList_store_row rfl 100 _ _ rfl w.heap.size zero6 rfl rfl 100 zero6 R2 hhsz.out rfl hhone.out ?_; (try simp only [Act.put, List.setIfInBounds_toArray, List.set_cons_zero, List.set_cons_succ])))
  have R8 := R2.row zero6
  have bc8 := below_setRow b3 (Nat.le_refl _) zero6
  generalize hW : w3.setRow _ _ = w8 at *
  have e0 := R8.cell 0 _ rfl
  have e1 := R8.cell 1 _ rfl
  have e2 := R8.cell 2 _ rfl
  have e3 := R8.cell 3 _ rfl
  have e4 := R8.cell 4 _ rfl
  have e5 := R8.cell 5 _ rfl
  exact bodyPost_ret (v := .tuple #[hdV hdZ, .bool false]) (by simp [results, Tryz.results49, go_sem, e0, e1, e2, e3, e4, e5]) rfl ⟨rfl, bc8⟩
end
end Go.Proofs.YtmknnjjmmfbppaaGreat.Re
