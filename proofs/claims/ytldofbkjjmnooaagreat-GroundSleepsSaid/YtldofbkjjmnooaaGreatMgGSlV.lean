/- A ground: what tags mean. -/
import Derived.Test.YtldofbkjjmnooaaGreatMgGSlUb
import Derived.Maps.Own
import Derived.Maps.OwnSet
import Derived.Maps.Views
import Derived.Test.YtldofbkjjmnooaaGreatMgGSlN
namespace Go.Proofs.YtldofbkjjmnooaaGreat
open Go.ChangeShapes Go.WideShapes Go.ChangeAt Go.RowKit Go.Maps
set_option linter.unusedVariables false
set_option maxRecDepth 100000
set_option linter.unusedSimpArgs false
/-- functions, as a map's elements -/
def heldR (v : Value) : Option (DataW Value × List MemPlace) := some (.held v, [])
/-- a map of functions by small numbers, of the call's own -/
def FnsAt (w : World) (bm n : Nat) (f : Int → Value) : Prop := ∃ D : DataW Value, w.ownsMap Tryz.prog 3 heldR bm n D ∧ IsMap D ∧ ∀ u : Int, -9223372036854775808 ≤ u ∧ u ≤ 9223372036854775807 → D.atKey (.int .i64 u) (.held .nilFunc) = .held (f u)
theorem lawFns : Keyed Tryz.prog 3 := int_keyed Tryz.underlying3
theorem zeroFn (w : World) : (zeroValue 188).run Tryz.prog w = .ok .nilFunc w := by kernel_rfl
theorem int_wf13 {u : Int} (h : -9223372036854775808 ≤ u ∧ u ≤ 9223372036854775807) : (Lit.int .i64 u).wf = true := by
  simp [Lit.wf, IntKind.min, IntKind.max, IntKind.signed, IntKind.bits]
  omega
theorem FnsAt.lt {w : World} {bm n : Nat} {f : Int → Value} (h : FnsAt w bm n f) : bm < w.heap.size := by
  obtain ⟨D, h1, _⟩ := h
  exact h1.lt
theorem FnsAt.keep {w w1 : World} {F : Nat → Prop} {bm n : Nat} {f : Int → Value} (h : FnsAt w bm n f) (hk : Keep F w w1) (hn : ¬ F bm) : FnsAt w1 bm n f := by
  obtain ⟨D, h1, h2, h3⟩ := h
  have hlt := h1.lt
  obtain ⟨es, clock, hb, hr⟩ := h1
  exact ⟨D, ⟨es, clock, (hk.block bm hlt hn).trans hb, hr⟩, h2, h3⟩
theorem FnsAt.made (w : World) : FnsAt (w.alloc (.map #[] 0)) w.heap.size 0 (fun _ => .nilFunc) :=
  ⟨.map [], World.ownsMap_made w _ _ _, isMap_empty, fun u _ => by simp [DataW.atKey]⟩
theorem FnsAt.look {w : World} {bm n : Nat} {f : Int → Value} (h : FnsAt w bm n f) {u : Int} (hu : -9223372036854775808 ≤ u ∧ u ≤ 9223372036854775807) :
    (Instr.lookup 189 (.map (some bm)) (.int .i64 u) false).run Tryz.prog w = .ok (f u) w := by
  obtain ⟨D, h1, h2, h3⟩ := h
  obtain ⟨v, ps, hrun, hv⟩ := h1.lookup lawFns Tryz.underlying189 (zeroFn w) (zd := .held .nilFunc) (zp := []) rfl (keyOf_int_mk Tryz.underlying3 (int_wf13 hu))
  rw [h3 u hu] at hv
  rw [hrun]
  simp only [heldR, Option.some.injEq, Prod.mk.injEq, DataW.held.injEq] at hv
  rw [hv.1]
theorem FnsAt.put {w : World} {bm n : Nat} {f : Int → Value} (h : FnsAt w bm n f) {u : Int} (hu : -9223372036854775808 ≤ u ∧ u ≤ 9223372036854775807) (hn : n < maxLen) (x : Value) :
    ∃ w', (Instr.mapUpdate 189 (.map (some bm)) (.int .i64 u) x).run Tryz.prog w = .ok () w' ∧ FnsAt w' bm (n + 1) (fun y => if y = u then x else f y) ∧ w.grownBy w' (some bm) := by
  obtain ⟨D, h1, h2, h3⟩ := h
  obtain ⟨w', hrun, h4, h5⟩ := h1.update lawFns Tryz.underlying189 hn (keyOf_int_mk Tryz.underlying3 (int_wf13 hu)) (d := .held x) (ps := []) rfl
  refine ⟨w', hrun, ⟨_, h4, h2.put _ _, fun y hy => ?_⟩, h5⟩
  by_cases e : y = u
  · subst e
    rw [atKey_put_same h2 (by exact trivial)]
    simp
  · rw [atKey_put_other (by simpa using e), h3 y hy]
    simp [e]
/-- what tags mean -/
def meanF (bg ba : Nat) : Int → Value := fun y => if y = 4 then .func (.func 214) #[] #[.pointer (some ⟨bg, 0, none⟩), .pointer (some ⟨ba, 0, none⟩)] else if y = 3 then .func (.func 213) #[] #[] else if y = 2 then .func (.func 213) #[] #[] else .nilFunc
theorem grown_old {w w' : World} {bm : Nat} (h : w.grownBy w' (some bm)) {B : Nat} (hB : B ≤ bm) (hw : B ≤ w.heap.size) : Below B w w' :=
  ⟨h.1, h.2, h.3, h.4, fun i hi => h.5 i (by omega) (by intro e; cases e; omega)⟩
theorem meanings_any (p : Option Addr) (a0 : Option Addr) (n c : Nat) (w : World) : Calls Tryz.prog 130 #[.pointer p, .slice a0 n c] w fun e w' => ∃ bm bg ba, e = .returned (.map (some bm)) ∧ FnsAt w' bm 3 (meanF bg ba) ∧
    w'.cell? ⟨bg, 0, none⟩ = some (.pointer p) ∧ w'.cell? ⟨ba, 0, none⟩ = some (.slice a0 n c) ∧ Below w.heap.size w w' := by
  have hmf : ∀ (fn : Fn) (first cap : Array Value) (w : World), (Instr.makeFunc fn first cap).run Tryz.prog w = .ok (.func fn first cap) w := fun _ _ _ _ => rfl
  have hmk := @run_makeMap Tryz.prog
  go_enter Tryz.func130, Tryz.ntmps130
  go_upto_region 2 with fail
  generalize hW : (w.alloc _).alloc _ = W
  have bW : Below w.heap.size w W := by rw [← hW]; go_grown
  have sW : W.heap.size = w.heap.size + 2 := by rw [← hW]; simp
  have q0 : W.cell? ⟨w.heap.size, 0, none⟩ = some (.pointer p) := by rw [← hW]; exact ((Blk.new w _ _).alloc _).cell 0 _ rfl
  have q1 : W.cell? ⟨w.heap.size + 1, 0, none⟩ = some (.slice a0 n c) := by rw [← hW]; exact (blk_two w _ _ _).cell 0 _ rfl
  clear hW
  clear sW
  obtain ⟨w2, r2, h2, g2⟩ := (FnsAt.made W).put (u := 2) (by omega) (by unfold maxLen; omega) (.func (.func 213) #[] #[])
  obtain ⟨w3, r3, h3, g3⟩ := h2.put (u := 3) (by omega) (by unfold maxLen; omega) (.func (.func 213) #[] #[])
  obtain ⟨w4, r4, h4, g4⟩ := h3.put (u := 4) (by omega) (by unfold maxLen; omega) (.func (.func 214) #[] #[.pointer (some ⟨w.heap.size, 0, none⟩), .pointer (some ⟨w.heap.size + 1, 0, none⟩)])
  have b2 := grown_old g2 (B := W.heap.size) (Nat.le_refl _) (by simp)
  have s0 : (W.alloc (.map #[] 0)).heap.size = W.heap.size + 1 := by simp
  have s2 : W.heap.size ≤ w2.heap.size := by have := b2.size; omega
  have ba : Below W.heap.size W (W.alloc (.map #[] 0)) := by go_grown
  have b3 := grown_old g3 (B := W.heap.size) (Nat.le_refl _) s2
  have s3 := b3.size
  have b4 := grown_old g4 (B := W.heap.size) (Nat.le_refl _) (by omega)
  have bb : Below W.heap.size W w4 := ba.trans (b2.trans (b3.trans b4))
  go_wp2_with fail
  go_ret
  exact ⟨_, _, _, rfl, h4, cell_below q0 bb, cell_below q1 bb, bW.trans (bb.mono bW.size)⟩
end Go.Proofs.YtldofbkjjmnooaaGreat
/- A ground: Word and View. -/
namespace Go.Proofs.YtldofbkjjmnooaaGreat
open Go.ChangeShapes Go.WideShapes Go.ChangeAt Go.RowKit Wd
set_option linter.unusedVariables false
set_option maxRecDepth 100000
set_option linter.unusedSimpArgs false
theorem row_lower {w : World} {B B' size n : Nat} {e : TypeId} {v : Value} {xs : List Value} (h : w.ownsRow B e size v n xs) (hb : B' ≤ B) : w.ownsRow B' e size v n xs := by
  refine ⟨h.1, h.2.imp id fun ⟨g, cap, cur, hv, hB, hr⟩ => ⟨g, cap, cur, hv, Nat.le_trans hb hB, hr⟩⟩
theorem gaddr_add (g j : Nat) : ((⟨g, 0, none⟩ : Addr).add j) = ⟨g, j, none⟩ := by unfold Addr.add; split <;> simp_all
/-- another block's row turns -/
theorem row_setRow {w : World} {B size n C : Nat} {e t : TypeId} {v : Value} {xs : List Value} {cs : Array Value} (h : w.ownsRow B e size v n xs) (hC : Blk w C t cs) (hne : e ≠ t) (cs' : Array Value) : (w.setRow C cs').ownsRow B e size v n xs := by
  have hk : Keep (fun b => b = C) w (w.setRow C cs') := ⟨rfl, rfl, rfl, by simp [World.setRow], fun k _ hk => setRow_other w C k cs' hk⟩
  refine row_ownkeep h hk (fun g hg e2 => ?_)
  subst e2
  obtain ⟨_, cur, hB⟩ := row_lt h hg
  exact hB.apart hC hne rfl
theorem fns_nil {w : World} {bm bg ba : Nat} {t : Int} (h : FnsAt w bm 3 (meanF bg ba)) (ht : t = 0 ∨ t = 1) : (Instr.lookup 189 (.map (some bm)) (.int .i64 t) false).run Tryz.prog w = .ok .nilFunc w := by
  have := h.look (u := t) (by omega)
  rcases ht with rfl | rfl <;> exact this
theorem nil_ne (W : World) : (binOp .neq 188 .nilFunc .nilFunc).run Tryz.prog W = .ok (.bool false) W := by kernel_rfl
def LookPost (w : World) (mm : List Int) (x : Hd) (b : Bool) (e : Ending) (w' : World) : Prop :=
  ∃ a c, e = .returned (.tuple #[hdV x, .slice a mm.length c, .bool b]) ∧ w'.ownsRow w.heap.size 47 1 (.slice a mm.length c) mm.length (mm.map (.int .u64)) ∧ Below w.heap.size w w'
section
variable {w w1 : World} {g : GrP} {m : Mp} {mm mm' : List Int} {k k' : Int} {l l' : List Bool} {vo vo' : Value} {E E' : List Ev}
set_option maxHeartbeats 4000000 in
theorem look_any (h : GrAt w g m mm k l vo E) (o : Nat) (ho : o < m.o) (v : Nat) (hv : mm[wordN o]? = some (v : Int)) (x : Hd) (b : Bool)
    (hO : ∀ V, Calls Tryz.prog 212 #[.int .u64 (v : Int)] V fun e w' => e = .returned (.tuple #[hdV x, .bool b]) ∧ Below V.heap.size V w') :
    Calls Tryz.prog 129 #[grV g, .int .i64 (o : Int)] w (LookPost w mm x b) := by
  have HG := Lib.hid h
  have hlt := h.own.lt
  have hmt := h.ok.t
  have hmo := h.ok.o
  have hmn := h.ok.n
  have HR := Lib.hid fun V => right_any (m.t : Int) (m.o : Int) (m.n : Int) V
  have e : rightS (m.t : Int) (m.o : Int) (m.n : Int) = true := by
    simp [rightS]
    omega
  rw [e] at HR
  have HS := Lib.hid fun V => size_any m V h.ok
  have HWd := Lib.hid fun V => mword_any m (o : Int) V (by omega)
  have HO := Lib.hid hO
  have hhsz : Hid ((Tryz.prog.info? 177).map (·.size) = some (hdArr x).size) := Lib.hid hd_size
  have hhone := Lib.hid (hd_one x)
  have hlen := Lib.hid h.size
  have hw6 : ((wordN (o : Int) : Nat) : Int) < 80000 := by unfold wordN; omega
  have HV := Lib.hid hv
  have hwl : wordN (o : Int) < mm.length := (List.getElem?_eq_some_iff.1 hv).1
  have HBD := Lib.hid (And.intro hmt (And.intro hmo (And.intro hmn hw6)))
  clear h e hO hv hmt hmo hmn hw6
  go_enter Tryz.func129, Tryz.ntmps129
  go_upto_region 1 with fail
  generalize hW : w.alloc _ = W
  have bW : Below w.heap.size w W := by rw [← hW]; go_grown
  have R0 : Blk W w.heap.size 177 zero6 := by rw [← hW]; exact Blk.new _ _ _
  clear hW
  have HGW := Lib.hid (HG.out.below bW)
  have d0 := HGW.out.own.cell 0 _ rfl
  have d1 := HGW.out.own.cell 1 _ rfl
  have d2 := HGW.out.own.cell 2 _ rfl
  have hs1 := bW.size
  go_upto_region 3 with (first
    | (go_at_call 52; refine (HR.out _).mono ?_; rintro e w2 ⟨rfl, b2⟩; have HG2 := Lib.hid (HGW.out.below b2); clear d0 d1 d2; have d0 := HG2.out.own.cell 0 _ rfl; have d1 := HG2.out.own.cell 1 _ rfl; have d2 := HG2.out.own.cell 2 _ rfl))
  have bc := bW.trans (b2.mono bW.size)
  have R2 := R0.below b2 R0.lt
  have d3 := HG2.out.own.cell 3 _ rfl
  have HA := Lib.hid (all_any _ _ _ _ w2 HG2.out.cells)
  clear HGW b2 bW R0 d0 d1 d2
  have hs2 := bc.size
  go_upto_region 4 with (go_at_call 17; refine HA.out.mono ?_; rintro e w3 ⟨u, rfl, b3, hu⟩)
  obtain ⟨hmt, hmo, hmn, hw6⟩ := HBD.out
  obtain ⟨ga, ca, rfl⟩ := row_slice hu (by omega)
  have c3 : w3.cell? ⟨ga, wordN (o : Int), none⟩ = some (.int .u64 (v : Int)) := by
    have := hu.cells (g := ga) rfl (wordN (o : Int)) (.int .u64 (v : Int)) (by rw [List.getElem?_map, HV.out]; rfl)
    rwa [gaddr_add] at this
  have HU := Lib.hid (row_lower hu hs2)
  have HG3 := Lib.hid (HG2.out.below b3)
  have R3 := R2.below b3 R2.lt
  have bc3 := bc.trans (b3.mono bc.size)
  have d0 := HG3.out.own.cell 0 _ rfl
  have d1 := HG3.out.own.cell 1 _ rfl
  have d2 := HG3.out.own.cell 2 _ rfl
  clear hu HG2 HA b3 bc R2 d3
  obtain ⟨ln, hln⟩ : ∃ ln, ln = mm.length := ⟨_, rfl⟩
  have HLN := Lib.hid hln
  have hsz : sizeN m = ln := by rw [hln, hlen.out]
  rw [← hln] at hwl ⊢
  rw [hsz] at HS
  have hlb : ln ≤ 1000000 := by rw [← hsz]; unfold sizeN; omega
  clear hln hsz hmt hmo hmn hw6
  go_upto_region 6 with (go_at_call 14; refine (HS.out _).mono ?_; rintro e w4 ⟨rfl, b4⟩)
  have HG4 := Lib.hid (HG3.out.below b4)
  have R4 := R3.below b4 R3.lt
  have bc4 := bc3.trans (b4.mono bc3.size)
  have c4 := cell_below c3 b4
  replace HU := Lib.hid (row_ownkeep HU.out (Keep.ofBelow (Q := fun _ => False) b4) (fun _ _ h => h))
  clear d0 d1 d2 HG3 R3 bc3 c3 b4
  have d0 := HG4.out.own.cell 0 _ rfl
  have d1 := HG4.out.own.cell 1 _ rfl
  have d2 := HG4.out.own.cell 2 _ rfl
  go_upto_region 7 with (first
    | (go_at_call 126; refine (HWd.out _).mono ?_; rintro e w5 ⟨rfl, b5⟩; have c5 := cell_below c4 b5; have R5 := R4.below b5 R4.lt; have bc5 := bc4.trans (b5.mono bc4.size); replace HU := Lib.hid (row_ownkeep HU.out (Keep.ofBelow (Q := fun _ => False) b5) (fun _ _ h => h)))
    | (go_at_call 212; refine (HO.out _).mono ?_; rintro e w6 ⟨rfl, b6⟩; have R6 := R5.below b6 R5.lt; have bc6 := bc5.trans (b6.mono bc5.size); replace HU := Lib.hid (row_ownkeep HU.out (Keep.ofBelow (Q := fun _ => False) b6) (fun _ _ h => h)))
    | (refine wpList_store_row rfl 177 _ _ rfl w.heap.size (hdArr x) rfl rfl 177 zero6 R6 hhsz.out rfl hhone.out ?_; (try simp only [Act.put, List.setIfInBounds_toArray, List.set_cons_zero, List.set_cons_succ])))
  have R7 := R6.row (hdArr x)
  have bc7 := below_setRow bc6 (Nat.le_refl _) (hdArr x)
  replace HU := Lib.hid (row_setRow HU.out R6 (by decide) (hdArr x))
  generalize hW : w6.setRow _ _ = w7 at *
  clear hW R4 R5 R6 bc4 bc5 bc6 c4 c5 d0 d1 d2
  go_wp2_with (first | (refine wpList_load_row rfl 177 _ rfl w.heap.size rfl 177 (hdArr x) (0, 0) _ R7 Tryz.underlying177 rfl hhsz.out ?_; (try simp only [Act.put, List.setIfInBounds_toArray, List.set_cons_zero, List.set_cons_succ])) | (refine wpList_store_row rfl 177 _ _ rfl w.heap.size (hdArr x) rfl rfl 177 (hdArr x) R7 hhsz.out rfl hhone.out ?_; (try simp only [Act.put, List.setIfInBounds_toArray, List.set_cons_zero, List.set_cons_succ])))
  have R8 := R7.row (hdArr x)
  have bc8 := below_setRow bc7 (Nat.le_refl _) (hdArr x)
  replace HU := Lib.hid (row_setRow HU.out R7 (by decide) (hdArr x))
  generalize hW : w7.setRow _ _ = w8 at *
  have e0 := R8.cell 0 _ rfl
  have e1 := R8.cell 1 _ rfl
  have e2 := R8.cell 2 _ rfl
  have e3 := R8.cell 3 _ rfl
  have e4 := R8.cell 4 _ rfl
  have e5 := R8.cell 5 _ rfl
  exact bodyPost_ret (v := .tuple #[hdV x, .slice (some ⟨ga, 0, none⟩) ln ca, .bool b]) (by simp [results, Tryz.results129, go_sem, e0, e1, e2, e3, e4, e5]) rfl ⟨some ⟨ga, 0, none⟩, ca, by rw [HLN.out], HU.out, bc8⟩
set_option maxHeartbeats 2000000 in
theorem gword_any (h : GrAt w g m mm k l vo E) (o : Nat) (ho : o < m.o) (v : Nat) (hv : mm[wordN o]? = some (v : Int)) (x : Hd) (b : Bool)
    (hO : ∀ V, Calls Tryz.prog 212 #[.int .u64 (v : Int)] V fun e w' => e = .returned (.tuple #[hdV x, .bool b]) ∧ Below V.heap.size V w') :
    Calls Tryz.prog 123 #[grV g, .int .i64 (o : Int)] w fun e w' => e = .returned (.tuple #[hdV x, .bool b]) ∧ Below w.heap.size w w' := by
  have HL := Lib.hid fun V (hb : Below w.heap.size w V) => look_any (h.below hb) o ho v hv x b hO
  have hhsz : Hid ((Tryz.prog.info? 177).map (·.size) = some (hdArr x).size) := Lib.hid hd_size
  have hhone := Lib.hid (hd_one x)
  clear h hO hv
  go_enter Tryz.func123, Tryz.ntmps123
  go_upto_region 1 with fail
  generalize hW : w.alloc _ = W
  have bW : Below w.heap.size w W := by rw [← hW]; go_grown
  have R0 : Blk W w.heap.size 177 zero6 := by rw [← hW]; exact Blk.new _ _ _
  clear hW
  have HL1 := Lib.hid (HL.out W bW)
  clear HL
  go_upto_region 2 with (first
    | (go_at_call 129; refine HL1.out.mono ?_; rintro e w2 ⟨a, c, rfl, h2, b2⟩; have R2 := (R0.below b2 R0.lt).alloc (.cells zero6 177))
    | (refine wpList_store_row rfl 177 _ _ rfl w2.heap.size (hdArr x) rfl rfl 177 zero6 (Blk.new w2 _ _) hhsz.out rfl hhone.out ?_; (try simp only [Act.put, List.setIfInBounds_toArray, List.set_cons_zero, List.set_cons_succ])))
  rw [World.setRow_alloc_new]
  have Q3 := Blk.new w2 177 (hdArr x)
  have R3 := (R0.below b2 R0.lt).alloc (.cells (hdArr x) 177)
  have b3 : Below w.heap.size w (w2.alloc (.cells (hdArr x) 177)) := (bW.trans (b2.mono bW.size)).alloc (by have := bW.size; have := b2.size; omega) _
  clear R2 h2 R0
  generalize hW : w2.alloc (.cells (hdArr x) 177) = w3 at *
  clear hW
  go_wp2_with (first | (refine wpList_load_row rfl 177 _ rfl w2.heap.size rfl 177 (hdArr x) (0, 0) _ Q3 Tryz.underlying177 rfl hhsz.out ?_; (try simp only [Act.put, List.setIfInBounds_toArray, List.set_cons_zero, List.set_cons_succ])) | (refine wpList_store_row rfl 177 _ _ rfl w.heap.size (hdArr x) rfl rfl 177 zero6 R3 hhsz.out rfl hhone.out ?_; (try simp only [Act.put, List.setIfInBounds_toArray, List.set_cons_zero, List.set_cons_succ])))
  have R8 := R3.row (hdArr x)
  have bc8 := below_setRow b3 (Nat.le_refl _) (hdArr x)
  generalize hW : w3.setRow _ _ = w8 at *
  have e0 := R8.cell 0 _ rfl
  have e1 := R8.cell 1 _ rfl
  have e2 := R8.cell 2 _ rfl
  have e3 := R8.cell 3 _ rfl
  have e4 := R8.cell 4 _ rfl
  have e5 := R8.cell 5 _ rfl
  exact bodyPost_ret (v := .tuple #[hdV x, .bool b]) (by simp [results, Tryz.results123, go_sem, e0, e1, e2, e3, e4, e5]) rfl ⟨rfl, bc8⟩
abbrev viewA (o d : Int) (v : Value) : Array Value := #[.int .i64 o, .int .i64 d, v]
abbrev viewV (o d : Int) (v : Value) : Value := .agg (viewA o d v)
set_option maxHeartbeats 2000000 in
theorem gview_plain (h : GrAt w g m mm k l vo E) (o : Nat) (ho : o < m.o) (v : Nat) (hv : mm[wordN o]? = some (v : Int)) (x : Hd) (ht : x.t = 0 ∨ x.t = 1)
    (hO : ∀ V, Calls Tryz.prog 212 #[.int .u64 (v : Int)] V fun e w' => e = .returned (.tuple #[hdV x, .bool true]) ∧ Below V.heap.size V w') :
    Calls Tryz.prog 49 #[grV g, .int .i64 (o : Int)] w fun e w' => e = .returned (viewV (-1) 0 (.slice none 0 0)) ∧ Below w.heap.size w w' := by
  have HL := Lib.hid fun V (hb : Below w.heap.size w V) => look_any (h.below hb) o ho v hv x true hO
  have hhsz : Hid ((Tryz.prog.info? 177).map (·.size) = some (hdArr x).size) := Lib.hid hd_size
  have hhone := Lib.hid (hd_one x)
  clear h hO hv
  go_enter Tryz.func49, Tryz.ntmps49
  go_upto_region 1 with fail
  generalize hW : w.alloc _ = W
  have bW : Below w.heap.size w W := by rw [← hW]; go_grown
  have R0 : Blk W w.heap.size 83 (viewA 0 0 (.slice none 0 0)) := by rw [← hW]; exact Blk.new _ _ _
  clear hW
  have HL1 := Lib.hid (HL.out W bW)
  clear HL
  go_upto_region 2 with (first
    | (go_at_call 129; refine HL1.out.mono ?_; rintro e w2 ⟨a, c, rfl, h2, b2⟩; have R2 := (R0.below b2 R0.lt).alloc (.cells zero6 177))
    | (refine wpList_store_row rfl 177 _ _ rfl w2.heap.size (hdArr x) rfl rfl 177 zero6 (Blk.new w2 _ _) hhsz.out rfl hhone.out ?_; (try simp only [Act.put, List.setIfInBounds_toArray, List.set_cons_zero, List.set_cons_succ])))
  rw [World.setRow_alloc_new]
  have Q3 := Blk.new w2 177 (hdArr x)
  have R3 := (R0.below b2 R0.lt).alloc (.cells (hdArr x) 177)
  have b3 : Below w.heap.size w (w2.alloc (.cells (hdArr x) 177)) := (bW.trans (b2.mono bW.size)).alloc (by have := bW.size; have := b2.size; omega) _
  clear R2 h2 R0
  generalize hW : w2.alloc (.cells (hdArr x) 177) = w3 at *
  clear hW
  go_upto_region 3 with fail
  have t3 : w3.cell? ⟨w2.heap.size, 0, none⟩ = some (.int .i64 x.t) := Q3.cell 0 _ rfl
  have HM := Lib.hid fun V => meanings_any (some ⟨g.G, 0, none⟩) a mm.length c V
  have bd := bdrewP w3
  have hlt3 : w2.heap.size < w3.heap.size := Q3.lt
  have HT3 := Lib.hid (show ∀ V, Below w3.heap.size w3 V → V.cell? ⟨w2.heap.size, 0, none⟩ = some (.int .i64 x.t) from fun V hV => cell_below t3 hV)
  clear t3
  go_region_held3 (fun V => V.cell? ⟨w2.heap.size, 0, none⟩ = some (.int .i64 x.t)) (first | exact HT3.out _ b5 | exact HT3.out _ bd) (first
    | (go_at_call 130; refine (HM.out _).mono ?_; rintro e w5 ⟨bm, bg, ba, rfl, hF, hg, ha, b5⟩; replace b5 := Below.trans bd b5; have hlk := fns_nil hF ht))
  have R5 := R3.below b5 R3.lt
  have bc5 := b3.trans (b5.mono b3.size)
  have e0 := R5.cell 0 _ rfl
  have e1 := R5.cell 1 _ rfl
  have e2 := R5.cell 2 _ rfl
  have z0 := R5.free 0
  have z1 := R5.free 1
  have z2 := R5.free 2
  have hnn := nil_ne
  go_wp2_with fail
  have R8 := ((R5.set 0 (.int .i64 (-1))).set 1 (.int .i64 0)).set 2 (.slice none 0 0)
  have b8 : Below w.heap.size w (((w5.setCell ⟨w.heap.size, 0, none⟩ (.int .i64 (-1))).setCell ⟨w.heap.size, 1, none⟩ (.int .i64 0)).setCell ⟨w.heap.size, 2, none⟩ (.slice none 0 0)) :=
    bc5.trans ((((Keep.refl (fun b => b = w.heap.size) w5).set (p := ⟨w.heap.size, 0, none⟩) (fun _ => rfl) (.int .i64 (-1))).set (p := ⟨w.heap.size, 1, none⟩) (fun _ => rfl) (.int .i64 0)).set (p := ⟨w.heap.size, 2, none⟩) (fun _ => rfl) (.slice none 0 0) |>.below bc5.size (fun i _ h => by omega))
  generalize ((w5.setCell ⟨w.heap.size, 0, none⟩ (.int .i64 (-1))).setCell ⟨w.heap.size, 1, none⟩ (.int .i64 0)).setCell ⟨w.heap.size, 2, none⟩ (.slice none 0 0) = w8 at *
  have f0 : w8.cell? ⟨w.heap.size, 0, none⟩ = some (.int .i64 (-1)) := R8.cell 0 _ rfl
  have f1 : w8.cell? ⟨w.heap.size, 1, none⟩ = some (.int .i64 0) := R8.cell 1 _ rfl
  have f2 : w8.cell? ⟨w.heap.size, 2, none⟩ = some (.slice none 0 0) := R8.cell 2 _ rfl
  exact bodyPost_ret (v := viewV (-1) 0 (.slice none 0 0)) (by simp [results, Tryz.results49, go_sem, f0, f1, f2]) rfl ⟨rfl, b8⟩
end
end Go.Proofs.YtldofbkjjmnooaaGreat
/- A ground: Word and View where there is nothing. -/
namespace Go.Proofs.YtldofbkjjmnooaaGreat
open Go.ChangeShapes Go.WideShapes Go.ChangeAt Go.RowKit Wd
set_option linter.unusedVariables false
set_option maxRecDepth 100000
set_option linter.unusedSimpArgs false
abbrev hdZ : Hd := ⟨0, 0, 0, 0, 0, 0⟩
def NoLook (w : World) (e : Ending) (w' : World) : Prop := e = .returned (.tuple #[hdV hdZ, .slice none 0 0, .bool false]) ∧ Below w.heap.size w w'
section
variable {w w1 : World} {g : GrP} {m : Mp} {mm mm' : List Int} {k k' : Int} {l l' : List Bool} {vo vo' : Value} {E E' : List Ev}
theorem look_nil (o : Int) (w : World) : Calls Tryz.prog 129 #[.pointer none, .int .i64 o] w (NoLook w) := by
  have hhsz : Hid ((Tryz.prog.info? 177).map (·.size) = some zero6.size) := Lib.hid hd_size
  have hhone : Hid (zero6.all (·.oneCell') = true) := Lib.hid (by simp [Value.oneCell'])
  go_enter Tryz.func129, Tryz.ntmps129
  go_upto_region 1 with fail
  generalize hW : w.alloc _ = W
  have bW : Below w.heap.size w W := by rw [← hW]; go_grown
  have R0 : Blk W w.heap.size 177 zero6 := by rw [← hW]; exact Blk.new _ _ _
  clear hW
  go_wp2_with (first | (refine wpList_load_row rfl 177 _ rfl w.heap.size rfl 177 zero6 (0, 0) _ R0 Tryz.underlying177 rfl hhsz.out ?_; (try simp only [Act.put, List.setIfInBounds_toArray, List.set_cons_zero, List.set_cons_succ])) | (refine wpList_store_row rfl 177 _ _ rfl w.heap.size zero6 rfl rfl 177 zero6 R0 hhsz.out rfl hhone.out ?_; (try simp only [Act.put, List.setIfInBounds_toArray, List.set_cons_zero, List.set_cons_succ])))
  have R8 := R0.row zero6
  have bc8 := below_setRow bW (Nat.le_refl _) zero6
  generalize hW : W.setRow _ _ = w8 at *
  have e0 := R8.cell 0 _ rfl
  have e1 := R8.cell 1 _ rfl
  have e2 := R8.cell 2 _ rfl
  have e3 := R8.cell 3 _ rfl
  have e4 := R8.cell 4 _ rfl
  have e5 := R8.cell 5 _ rfl
  exact bodyPost_ret (v := .tuple #[hdV hdZ, .slice none 0 0, .bool false]) (by simp [results, Tryz.results129, go_sem, e0, e1, e2, e3, e4, e5]) rfl ⟨rfl, bc8⟩
theorem look_out (h : GrAt w g m mm k l vo E) (o : Int) (ho : o < 0 ∨ (m.o : Int) ≤ o) : Calls Tryz.prog 129 #[grV g, .int .i64 o] w (NoLook w) := by
  have HG := Lib.hid h
  have HR := Lib.hid fun V => right_any (m.t : Int) (m.o : Int) (m.n : Int) V
  have e : rightS (m.t : Int) (m.o : Int) (m.n : Int) = true := by
    have h1 := h.ok.t
    have h2 := h.ok.o
    have h3 := h.ok.n
    simp [rightS]
    omega
  rw [e] at HR
  have hhsz : Hid ((Tryz.prog.info? 177).map (·.size) = some zero6.size) := Lib.hid hd_size
  have hhone : Hid (zero6.all (·.oneCell') = true) := Lib.hid (by simp [Value.oneCell'])
  clear h e
  rcases ho with ho | ho
  · skip
    go_enter Tryz.func129, Tryz.ntmps129
    go_upto_region 1 with fail
    generalize hW : w.alloc _ = W
    have bW : Below w.heap.size w W := by rw [← hW]; go_grown
    have R0 : Blk W w.heap.size 177 zero6 := by rw [← hW]; exact Blk.new _ _ _
    clear hW
    have HGW := Lib.hid (HG.out.below bW)
    have d0 := HGW.out.own.cell 0 _ rfl
    have d1 := HGW.out.own.cell 1 _ rfl
    have d2 := HGW.out.own.cell 2 _ rfl
    go_upto_region 2 with (first
      | (go_at_call 52; refine (HR.out _).mono ?_; rintro e w2 ⟨rfl, b2⟩; have HG2 := Lib.hid (HGW.out.below b2); clear d0 d1 d2; have d0 := HG2.out.own.cell 0 _ rfl; have d1 := HG2.out.own.cell 1 _ rfl; have d2 := HG2.out.own.cell 2 _ rfl))
    replace R0 := R0.below b2 R0.lt
    replace bW := bW.trans (b2.mono bW.size)
    clear d0 d1 d2
    go_wp2_with (first | (refine wpList_load_row rfl 177 _ rfl w.heap.size rfl 177 zero6 (0, 0) _ R0 Tryz.underlying177 rfl hhsz.out ?_; (try simp only [Act.put, List.setIfInBounds_toArray, List.set_cons_zero, List.set_cons_succ])) | (refine wpList_store_row rfl 177 _ _ rfl w.heap.size zero6 rfl rfl 177 zero6 R0 hhsz.out rfl hhone.out ?_; (try simp only [Act.put, List.setIfInBounds_toArray, List.set_cons_zero, List.set_cons_succ])))
    have R8 := R0.row zero6
    have bc8 := below_setRow bW (Nat.le_refl _) zero6
    generalize hW : w2.setRow _ _ = w8 at *
    have e0 := R8.cell 0 _ rfl
    have e1 := R8.cell 1 _ rfl
    have e2 := R8.cell 2 _ rfl
    have e3 := R8.cell 3 _ rfl
    have e4 := R8.cell 4 _ rfl
    have e5 := R8.cell 5 _ rfl
    exact bodyPost_ret (v := .tuple #[hdV hdZ, .slice none 0 0, .bool false]) (by simp [results, Tryz.results129, go_sem, e0, e1, e2, e3, e4, e5]) rfl ⟨rfl, bc8⟩
  · have hn0 : 0 ≤ o := by omega
    go_enter Tryz.func129, Tryz.ntmps129
    go_upto_region 1 with fail
    generalize hW : w.alloc _ = W
    have bW : Below w.heap.size w W := by rw [← hW]; go_grown
    have R0 : Blk W w.heap.size 177 zero6 := by rw [← hW]; exact Blk.new _ _ _
    clear hW
    have HGW := Lib.hid (HG.out.below bW)
    have d0 := HGW.out.own.cell 0 _ rfl
    have d1 := HGW.out.own.cell 1 _ rfl
    have d2 := HGW.out.own.cell 2 _ rfl
    go_upto_region 2 with (first
      | (go_at_call 52; refine (HR.out _).mono ?_; rintro e w2 ⟨rfl, b2⟩; have HG2 := Lib.hid (HGW.out.below b2); clear d0 d1 d2; have d0 := HG2.out.own.cell 0 _ rfl; have d1 := HG2.out.own.cell 1 _ rfl; have d2 := HG2.out.own.cell 2 _ rfl))
    replace R0 := R0.below b2 R0.lt
    replace bW := bW.trans (b2.mono bW.size)
    clear d0 d1 d2
    go_wp2_with (first | (refine wpList_load_row rfl 177 _ rfl w.heap.size rfl 177 zero6 (0, 0) _ R0 Tryz.underlying177 rfl hhsz.out ?_; (try simp only [Act.put, List.setIfInBounds_toArray, List.set_cons_zero, List.set_cons_succ])) | (refine wpList_store_row rfl 177 _ _ rfl w.heap.size zero6 rfl rfl 177 zero6 R0 hhsz.out rfl hhone.out ?_; (try simp only [Act.put, List.setIfInBounds_toArray, List.set_cons_zero, List.set_cons_succ])))
    have R8 := R0.row zero6
    have bc8 := below_setRow bW (Nat.le_refl _) zero6
    generalize hW : w2.setRow _ _ = w8 at *
    have e0 := R8.cell 0 _ rfl
    have e1 := R8.cell 1 _ rfl
    have e2 := R8.cell 2 _ rfl
    have e3 := R8.cell 3 _ rfl
    have e4 := R8.cell 4 _ rfl
    have e5 := R8.cell 5 _ rfl
    exact bodyPost_ret (v := .tuple #[hdV hdZ, .slice none 0 0, .bool false]) (by simp [results, Tryz.results129, go_sem, e0, e1, e2, e3, e4, e5]) rfl ⟨rfl, bc8⟩
theorem gview_out (h : GrAt w g m mm k l vo E) (o : Int) (ho : o < 0 ∨ (m.o : Int) ≤ o) : Calls Tryz.prog 49 #[grV g, .int .i64 o] w fun e w' => e = .returned (viewV (-1) 0 (.slice none 0 0)) ∧ Below w.heap.size w w' := by
  have HL := Lib.hid fun V (hb : Below w.heap.size w V) => look_out (h.below hb) o ho
  have hhsz : Hid ((Tryz.prog.info? 177).map (·.size) = some zero6.size) := Lib.hid hd_size
  have hhone : Hid (zero6.all (·.oneCell') = true) := Lib.hid (by simp [Value.oneCell'])
  clear h
  go_enter Tryz.func49, Tryz.ntmps49
  go_upto_region 1 with fail
  generalize hW : w.alloc _ = W
  have bW : Below w.heap.size w W := by rw [← hW]; go_grown
  have R0 : Blk W w.heap.size 83 (viewA 0 0 (.slice none 0 0)) := by rw [← hW]; exact Blk.new _ _ _
  clear hW
  have HL1 := Lib.hid (HL.out W bW)
  clear HL
  go_upto_region 2 with (first
    | (go_at_call 129; refine HL1.out.mono ?_; rintro e w2 ⟨rfl, b2⟩; have R2 := (R0.below b2 R0.lt).alloc (.cells zero6 177))
    | (refine wpList_store_row rfl 177 _ _ rfl w2.heap.size zero6 rfl rfl 177 zero6 (Blk.new w2 _ _) hhsz.out rfl hhone.out ?_; (try simp only [Act.put, List.setIfInBounds_toArray, List.set_cons_zero, List.set_cons_succ])))
  rw [World.setRow_alloc_new]
  have b5 : Below w.heap.size w (w2.alloc (.cells zero6 177)) := (bW.trans (b2.mono bW.size)).alloc (by have := bW.size; have := b2.size; omega) _
  generalize hW : w2.alloc (.cells zero6 177) = w5 at *
  clear hW R0
  have e0 := R2.cell 0 _ rfl
  have e1 := R2.cell 1 _ rfl
  have e2 := R2.cell 2 _ rfl
  have z0 := R2.free 0
  have z1 := R2.free 1
  have z2 := R2.free 2
  go_wp2_with fail
  have R8 := ((R2.set 0 (.int .i64 (-1))).set 1 (.int .i64 0)).set 2 (.slice none 0 0)
  have b8 : Below w.heap.size w (((w5.setCell ⟨w.heap.size, 0, none⟩ (.int .i64 (-1))).setCell ⟨w.heap.size, 1, none⟩ (.int .i64 0)).setCell ⟨w.heap.size, 2, none⟩ (.slice none 0 0)) :=
    b5.trans ((((Keep.refl (fun b => b = w.heap.size) w5).set (p := ⟨w.heap.size, 0, none⟩) (fun _ => rfl) (.int .i64 (-1))).set (p := ⟨w.heap.size, 1, none⟩) (fun _ => rfl) (.int .i64 0)).set (p := ⟨w.heap.size, 2, none⟩) (fun _ => rfl) (.slice none 0 0) |>.below b5.size (fun i _ h => by omega))
  generalize ((w5.setCell ⟨w.heap.size, 0, none⟩ (.int .i64 (-1))).setCell ⟨w.heap.size, 1, none⟩ (.int .i64 0)).setCell ⟨w.heap.size, 2, none⟩ (.slice none 0 0) = w8 at *
  have f0 : w8.cell? ⟨w.heap.size, 0, none⟩ = some (.int .i64 (-1)) := R8.cell 0 _ rfl
  have f1 : w8.cell? ⟨w.heap.size, 1, none⟩ = some (.int .i64 0) := R8.cell 1 _ rfl
  have f2 : w8.cell? ⟨w.heap.size, 2, none⟩ = some (.slice none 0 0) := R8.cell 2 _ rfl
  exact bodyPost_ret (v := viewV (-1) 0 (.slice none 0 0)) (by simp [results, Tryz.results49, go_sem, f0, f1, f2]) rfl ⟨rfl, b8⟩
theorem gview_nil (o : Int) (w : World) : Calls Tryz.prog 49 #[.pointer none, .int .i64 o] w fun e w' => e = .returned (viewV (-1) 0 (.slice none 0 0)) ∧ Below w.heap.size w w' := by
  have HL := Lib.hid fun V (hb : Below w.heap.size w V) => look_nil o V
  have hhsz : Hid ((Tryz.prog.info? 177).map (·.size) = some zero6.size) := Lib.hid hd_size
  have hhone : Hid (zero6.all (·.oneCell') = true) := Lib.hid (by simp [Value.oneCell'])
  go_enter Tryz.func49, Tryz.ntmps49
  go_upto_region 1 with fail
  generalize hW : w.alloc _ = W
  have bW : Below w.heap.size w W := by rw [← hW]; go_grown
  have R0 : Blk W w.heap.size 83 (viewA 0 0 (.slice none 0 0)) := by rw [← hW]; exact Blk.new _ _ _
  clear hW
  have HL1 := Lib.hid (HL.out W bW)
  clear HL
  go_upto_region 2 with (first
    | (go_at_call 129; refine HL1.out.mono ?_; rintro e w2 ⟨rfl, b2⟩; have R2 := (R0.below b2 R0.lt).alloc (.cells zero6 177))
    | (refine wpList_store_row rfl 177 _ _ rfl w2.heap.size zero6 rfl rfl 177 zero6 (Blk.new w2 _ _) hhsz.out rfl hhone.out ?_; (try simp only [Act.put, List.setIfInBounds_toArray, List.set_cons_zero, List.set_cons_succ])))
  rw [World.setRow_alloc_new]
  have b5 : Below w.heap.size w (w2.alloc (.cells zero6 177)) := (bW.trans (b2.mono bW.size)).alloc (by have := bW.size; have := b2.size; omega) _
  generalize hW : w2.alloc (.cells zero6 177) = w5 at *
  clear hW R0
  have e0 := R2.cell 0 _ rfl
  have e1 := R2.cell 1 _ rfl
  have e2 := R2.cell 2 _ rfl
  have z0 := R2.free 0
  have z1 := R2.free 1
  have z2 := R2.free 2
  go_wp2_with fail
  have R8 := ((R2.set 0 (.int .i64 (-1))).set 1 (.int .i64 0)).set 2 (.slice none 0 0)
  have b8 : Below w.heap.size w (((w5.setCell ⟨w.heap.size, 0, none⟩ (.int .i64 (-1))).setCell ⟨w.heap.size, 1, none⟩ (.int .i64 0)).setCell ⟨w.heap.size, 2, none⟩ (.slice none 0 0)) :=
    b5.trans ((((Keep.refl (fun b => b = w.heap.size) w5).set (p := ⟨w.heap.size, 0, none⟩) (fun _ => rfl) (.int .i64 (-1))).set (p := ⟨w.heap.size, 1, none⟩) (fun _ => rfl) (.int .i64 0)).set (p := ⟨w.heap.size, 2, none⟩) (fun _ => rfl) (.slice none 0 0) |>.below b5.size (fun i _ h => by omega))
  generalize ((w5.setCell ⟨w.heap.size, 0, none⟩ (.int .i64 (-1))).setCell ⟨w.heap.size, 1, none⟩ (.int .i64 0)).setCell ⟨w.heap.size, 2, none⟩ (.slice none 0 0) = w8 at *
  have f0 : w8.cell? ⟨w.heap.size, 0, none⟩ = some (.int .i64 (-1)) := R8.cell 0 _ rfl
  have f1 : w8.cell? ⟨w.heap.size, 1, none⟩ = some (.int .i64 0) := R8.cell 1 _ rfl
  have f2 : w8.cell? ⟨w.heap.size, 2, none⟩ = some (.slice none 0 0) := R8.cell 2 _ rfl
  exact bodyPost_ret (v := viewV (-1) 0 (.slice none 0 0)) (by simp [results, Tryz.results49, go_sem, f0, f1, f2]) rfl ⟨rfl, b8⟩
theorem gword_nil (o : Int) (w : World) : Calls Tryz.prog 123 #[.pointer none, .int .i64 o] w fun e w' => e = .returned (.tuple #[hdV hdZ, .bool false]) ∧ Below w.heap.size w w' := by
  have HL := Lib.hid fun V (hb : Below w.heap.size w V) => look_nil o V
  have hhsz : Hid ((Tryz.prog.info? 177).map (·.size) = some zero6.size) := Lib.hid hd_size
  have hhone : Hid (zero6.all (·.oneCell') = true) := Lib.hid (by simp [Value.oneCell'])
  go_enter Tryz.func123, Tryz.ntmps123
  go_upto_region 1 with fail
  generalize hW : w.alloc _ = W
  have bW : Below w.heap.size w W := by rw [← hW]; go_grown
  have R0 : Blk W w.heap.size 177 zero6 := by rw [← hW]; exact Blk.new _ _ _
  clear hW
  have HL1 := Lib.hid (HL.out W bW)
  clear HL
  go_upto_region 2 with (first
    | (go_at_call 129; refine HL1.out.mono ?_; rintro e w2 ⟨rfl, b2⟩; have R2 := (R0.below b2 R0.lt).alloc (.cells zero6 177))
    | (refine wpList_store_row rfl 177 _ _ rfl w2.heap.size zero6 rfl rfl 177 zero6 (Blk.new w2 _ _) hhsz.out rfl hhone.out ?_; (try simp only [Act.put, List.setIfInBounds_toArray, List.set_cons_zero, List.set_cons_succ])))
  rw [World.setRow_alloc_new]
  have Q3 := Blk.new w2 177 zero6
  have b3 : Below w.heap.size w (w2.alloc (.cells zero6 177)) := (bW.trans (b2.mono bW.size)).alloc (by have := bW.size; have := b2.size; omega) _
  generalize hW : w2.alloc (.cells zero6 177) = w3 at *
  clear hW R0
  go_wp2_with (first | (refine wpList_load_row rfl 177 _ rfl w2.heap.size rfl 177 zero6 (0, 0) _ Q3 Tryz.underlying177 rfl hhsz.out ?_; (try simp only [Act.put, List.setIfInBounds_toArray, List.set_cons_zero, List.set_cons_succ])) | (refine wpList_store_row rfl 177 _ _ rfl w.heap.size zero6 rfl rfl 177 zero6 R2 hhsz.out rfl hhone.out ?_; (try simp only [Act.put, List.setIfInBounds_toArray, List.set_cons_zero, List.set_cons_succ])))
  have R8 := R2.row zero6
  have bc8 := below_setRow b3 (Nat.le_refl _) zero6
  generalize hW : w3.setRow _ _ = w8 at *
  have e0 := R8.cell 0 _ rfl
  have e1 := R8.cell 1 _ rfl
  have e2 := R8.cell 2 _ rfl
  have e3 := R8.cell 3 _ rfl
  have e4 := R8.cell 4 _ rfl
  have e5 := R8.cell 5 _ rfl
  exact bodyPost_ret (v := .tuple #[hdV hdZ, .bool false]) (by simp [results, Tryz.results123, go_sem, e0, e1, e2, e3, e4, e5]) rfl ⟨rfl, bc8⟩
end
end Go.Proofs.YtldofbkjjmnooaaGreat
/- Grounds are made: New. -/
namespace Go.Proofs.YtldofbkjjmnooaaGreat
open Go.ChangeShapes Go.WideShapes Go.ChangeAt Go.RowKit Wd
set_option linter.unusedVariables false
set_option maxRecDepth 100000
set_option linter.unusedSimpArgs false
/-- a ground whose cells are all 0 -/
def FreshG (w : World) (m : Mp) (v : Value) (w' : World) : Prop :=
  ∃ g, v = grV g ∧ GrAt w' g m (List.replicate (sizeN m) 0) 0 (List.replicate m.t false) (.slice none 0 0) [] ∧ Below w.heap.size w w' ∧ ∀ b, grB g (.slice none 0 0) b → w.heap.size ≤ b
theorem fresh_end {w wz : World} {m : Mp} {C S P R : Nat} {cs : List Nat} (hm : m.ok) (hC : CellsAt wz C S (List.replicate (sizeN m) 0) 0) (hP : PermitsAt wz P R cs (List.replicate m.t false)) (bc : Below w.heap.size w wz)
    (s1 : w.heap.size ≤ C) (s2 : w.heap.size ≤ S) (s3 : w.heap.size ≤ P) (s4 : w.heap.size ≤ R) (s5 : ∀ c ∈ cs, w.heap.size ≤ c) :
    FreshG w m (.pointer (some ⟨wz.heap.size, 0, none⟩)) (wz.alloc (.cells #[.int .i64 (m.t : Int), .int .i64 (m.o : Int), .int .i64 (m.n : Int), cellsV C, permitsV P, .int .i32 0, .int .u32 0, .slice none 0 0] 79)) := by
  have ba : Below wz.heap.size wz (wz.alloc (.cells #[.int .i64 (m.t : Int), .int .i64 (m.o : Int), .int .i64 (m.n : Int), cellsV C, permitsV P, .int .i32 0, .int .u32 0, .slice none 0 0] 79)) := by go_grown
  refine ⟨⟨wz.heap.size, C, S, P, R, cs⟩, rfl, ⟨Blk.new _ _ _, hC.keep (Keep.ofBelow (Q := fun _ => False) ba) (fun h => h) (fun h => h), hP.below ba, World.ownsRow_nil _ _ _ _, hm, by simp, by simp⟩, bc.trans (ba.mono bc.size), fun b hb => ?_⟩
  rcases hb with rfl | rfl | rfl | rfl | rfl | hb | hb
  · exact bc.size
  · exact s1
  · exact s2
  · exact s3
  · exact s4
  · exact s5 b hb
  · simp [Value.ownBlock] at hb
set_option maxHeartbeats 4000000 in
theorem laid_gen (m : Mp) (H : List Int) (F : List Bool) (hv fv : Value) (w : World) (hm : m.ok) (hh : SliceAt (Value.int .i64) w hv H) (hf : SliceAt Value.bool w fv F) (f : Nat → Int)
    (hpy : ∀ j, goodO H j → ∀ V, Calls Tryz.prog 146 #[.agg #[.int .i64 (tagO F j), .int .i64 0, .int .i64 0, .int .i64 0, .int .i64 0, .int .i64 (hashO H j)]] V fun e w' => e = .returned (.tuple #[.int .u64 (f j), .bool true]) ∧ Below V.heap.size V w')
    (hpn : ∀ j, ¬ goodO H j → ∀ V, Calls Tryz.prog 146 #[.agg #[.int .i64 (tagO F j), .int .i64 0, .int .i64 0, .int .i64 0, .int .i64 0, .int .i64 (hashO H j)]] V fun e w' => e = .returned (.tuple #[.int .u64 0, .bool false]) ∧ Below V.heap.size V w') :
    Calls Tryz.prog 121 #[.func (.func 13) #[] #[], mapV m, hv, fv] w (NewF w m H f) := by
  have HR := Lib.hid fun V => right_any (m.t : Int) (m.o : Int) (m.n : Int) V
  have e : rightS (m.t : Int) (m.o : Int) (m.n : Int) = true := by
    have h1 := hm.t
    have h2 := hm.o
    have h3 := hm.n
    simp [rightS]
    omega
  rw [e] at HR
  have HS := Lib.hid fun V => size_any m V hm
  have HC := Lib.hid fun V => new_some (sizeN m) V (by have h1 := hm.t; have h2 := hm.o; have h3 := hm.n; unfold sizeN; omega)
  have HP := Lib.hid fun V => pnew_some m.t V hm.t.1 hm.t.2
  have hcn : ∀ args V, (callFunc 13 args).run Tryz.prog V = .ok (.enter 13 args) V := by
    intro args V
    go_simp
  have HH := Lib.hid hh
  have HF := Lib.hid hf
  have HM := Lib.hid hm
  have HPY := Lib.hid hpy
  have HPN := Lib.hid hpn
  clear hh hf e hm hpy hpn
  go_enter Tryz.func121, Tryz.ntmps121
  go_upto_region 1 with fail
  generalize hW : w.alloc _ = W
  have bW : Below w.heap.size w W := by rw [← hW]; go_grown
  have m0 : Blk W w.heap.size 24 (mapCs m) := by rw [← hW]; exact Blk.new w _ _
  clear hW
  obtain ⟨c0, c1, c2⟩ := map3 m0
  go_upto_region 3 with (go_at_call 52; refine (HR.out _).mono ?_; rintro e w2 ⟨rfl, b2⟩)
  have m2 := m0.below b2 m0.lt
  have bW2 : Below w.heap.size w w2 := bW.trans (b2.mono bW.size)
  clear c0 c1 c2 m0
  have SK := Lib.hid (show ∀ V, Below w2.heap.size w2 V → V.cell? ⟨w.heap.size, 0, none⟩ = some (.int .i64 (m.t : Int)) ∧ V.cell? ⟨w.heap.size, 1, none⟩ = some (.int .i64 (m.o : Int)) ∧ V.cell? ⟨w.heap.size, 2, none⟩ = some (.int .i64 (m.n : Int)) from fun V hk => map3 (m2.below hk m2.lt))
  have bd := bdrewP w2
  go_cut [9] from 17 to 26 (fun s9 wx => FreshG w2 m s9 wx)
  case first =>
    have bc := bd
    go_region_held3 (fun V => V.cell? ⟨w.heap.size, 0, none⟩ = some (.int .i64 (m.t : Int)) ∧ V.cell? ⟨w.heap.size, 1, none⟩ = some (.int .i64 (m.o : Int)) ∧ V.cell? ⟨w.heap.size, 2, none⟩ = some (.int .i64 (m.n : Int))) (first | exact SK.out _ bc | exact SK.out _ (Below.trans bc (Below.mono (Below.alloc (Below.refl _ _) (Nat.le_refl _) _) bc.size))) (first
      | (go_at_call 14; refine (HS.out _).mono ?_; rintro e w3 ⟨rfl, b3⟩; (try replace hP := PermitsAt.below hP b3); replace bc := Below.trans bc (Below.mono b3 bc.size))
      | (go_at_call 13; refine (HC.out _).mono ?_; rintro e w4 ⟨rfl, hC, b4⟩; have sC := bc.size; (try replace hP := PermitsAt.below hP b4); replace bc := Below.trans bc (Below.mono b4 bc.size))
      | (go_at_call 203; refine (HP.out _).mono ?_; rintro e w5 ⟨rfl, ⟨cs, hP, hcs⟩, b5⟩; have sP := bc.size; (try replace hC := CellsAt.keep hC (Keep.ofBelow (Q := fun _ => False) b5) (fun h => h) (fun h => h)); replace bc := Below.trans bc (Below.mono b5 bc.size)))
    all_goals
      go_wp2_with fail
      go_meet
    all_goals exact fresh_end HM.out hC hP bc (by omega) (by omega) (by omega) (by omega) (fun c hc => by have := hcs c hc; omega)
  case rest =>
    obtain ⟨g, rfl, hG, bG, hgb⟩ := hcut
    have bw := bW2.trans (bG.mono bW2.size)
    have hws : w.heap.size ≤ w2.heap.size := bW2.size
    replace hgb : ∀ b, grB g (.slice none 0 0) b → w.heap.size ≤ b := fun b hb => Nat.le_trans hws (hgb b hb)
    obtain ⟨mz, hmz⟩ : ∃ mz, mz = List.replicate (sizeN m) (0 : Int) := ⟨_, rfl⟩
    obtain ⟨lz, hlz⟩ : ∃ lz, lz = List.replicate m.t false := ⟨_, rfl⟩
    rw [← hmz, ← hlz] at hG
    have hml : mz.length = sizeN m := by rw [hmz]; simp
    have HG := Lib.hid hG
    have HML := Lib.hid hml
    have HB := Lib.hid bw
    have HGB := Lib.hid hgb
    have HMZ := Lib.hid hmz
    have HLZ := Lib.hid hlz
    have d1 := hG.own.cell 1 _ rfl
    have hmo := HM.out.o
    have hmt := HM.out.t
    have hmn := HM.out.n
    clear hG bG hgb bw SK bd m2 hml HS HC HP hcn b2 bW bW2 hmz hlz
    go_upto_region 5 with fail
    go_loopw [32] (fun v32 wr => ∃ j : Nat, j ≤ m.o ∧ v32 = .int .i64 (j : Int) ∧ GrAt wr g m (wordsGo f mz j) j lz (.slice none 0 0) [] ∧ (∀ i, i < j → goodO H i) ∧ Below w.heap.size w wr) (fun v32 _ => (m.o - intOf v32).toNat)
    case atStart => exact ⟨0, by omega, rfl, HG.out, fun i hi => absurd hi (by omega), HB.out⟩
    case round =>
      obtain ⟨j, hj, rfl, hgr, hgd, hbr⟩ := hrel
      have HGr := Lib.hid hgr
      have HGd := Lib.hid hgd
      have HBr := Lib.hid hbr
      by_cases hlt : j < m.o
      · have HJ := Lib.hid hlt
        by_cases hgj : goodO H j
        · have hgt := hgr.own.lt
          have sK := Lib.hid (show ∀ V, Keep (ofCells g.C g.S) wr V → V.cell? ⟨g.G, 0, none⟩ = some (.int .i64 (m.t : Int)) ∧ V.cell? ⟨g.G, 1, none⟩ = some (.int .i64 (m.o : Int)) ∧ V.cell? ⟨g.G, 2, none⟩ = some (.int .i64 (m.n : Int)) ∧ V.cell? ⟨g.G, 3, none⟩ = some (cellsV g.C) from fun V hk => have q := hgr.own.keep hk (fun e => e.elim (fun e => hgr.apartG.1 e) (fun e => hgr.apartG.2.1 e)); ⟨q.cell 0 _ rfl, q.cell 1 _ rfl, q.cell 2 _ rfl, q.cell 3 _ rfl⟩)
          have HEB := Lib.hid (elB_any F fv j wr (HF.out.below (hbr.mono (Nat.le_refl _))) (by omega))
          have HFT := Lib.hid (show ∀ V, Calls Tryz.prog 204 #[.bool (freshO F j)] V fun e w' => e = .returned (.int .i64 (tagO F j)) ∧ V = w' from fun V => firstTag_any (freshO F j) V)
          have HEI := Lib.hid (elI_any H hv j wr (HH.out.below (hbr.mono (Nat.le_refl _))) (by omega))
          have HPK := Lib.hid (HPY.out j hgj)
          have HWD := Lib.hid fun V => mword_any m (j : Int) V (by omega)
          have hin : wordN j < (wordsGo f mz j).length := by rw [wordsGo_len, HML.out]; unfold wordN sizeN; omega
          have HST := Lib.hid fun V (hV : Keep (fun _ => False) wr V) => store_yes g.C g.S (wordsGo f mz j) (j : Int) (wordN j) _ (f j) V (hgr.cells.keep hV (fun h => h) (fun h => h)) (List.getElem?_eq_getElem hin) (by omega) (by omega)
          have HEND := Lib.hid (show ∀ V, CellsAt V g.C g.S ((wordsGo f mz j).set (wordN j) (f j)) ((j : Int) + 1) → Keep (ofCells g.C g.S) wr V → GrAt V g m (wordsGo f mz (j + 1)) ((j + 1 : Nat) : Int) lz (.slice none 0 0) [] ∧ (∀ i, i < j + 1 → goodO H i) ∧ Below w.heap.size w V from fun V hV hk => ⟨by
            have := hgr.cells' hV hk (by simp)
            rw [show ((j + 1 : Nat) : Int) = (j : Int) + 1 by omega]
            exact this, fun i hi => by
            by_cases e : i = j
            · rw [e]; exact hgj
            · exact hgd i (by omega), hbr.trans (hk.below hbr.size (fun b _ h => h.elim (fun h => HGB.out b (.inr (.inl h))) (fun h => HGB.out b (.inr (.inr (.inl h))))))⟩)
          have hj6 : (j : Int) < 70000 := by omega
          have hw6 : (wordN j : Int) < 80000 := by unfold wordN; omega
          clear hgr hgd hbr hin hgj HGr HGd HBr HB
          generalize freshO F j = fr at *
          generalize tagO F j = tg at *
          generalize hashO H j = hs at *
          generalize f j = wv at *
          have k0 : Keep (fun _ => False) wr wr := Keep.refl _ _
          go_upto_region 10 with (first
            | (go_at_call 205; refine HEB.out.mono ?_; rintro e w3 ⟨rfl, rfl⟩)
            | (go_at_call 204; refine (HFT.out _).mono ?_; rintro e w4 ⟨rfl, rfl⟩)
            | (go_at_call 206; refine HEI.out.mono ?_; rintro e w5 ⟨rfl, rfl⟩)
            | (go_at_call 146; refine (HPK.out _).mono ?_; rintro e w6 ⟨rfl, b6⟩))
          have kc : Keep (fun _ => False) wr w6.drew := (Keep.ofBelow b6).drew
          have kd : Keep (ofCells g.C g.S) wr w6.drew := kc.mono (fun _ _ h => h.elim)
          go_region_held3 (fun V => V.cell? ⟨g.G, 0, none⟩ = some (.int .i64 (m.t : Int)) ∧ V.cell? ⟨g.G, 1, none⟩ = some (.int .i64 (m.o : Int)) ∧ V.cell? ⟨g.G, 2, none⟩ = some (.int .i64 (m.n : Int)) ∧ V.cell? ⟨g.G, 3, none⟩ = some (cellsV g.C)) (exact sK.out _ kd) (first
            | (go_at_call 126; refine (HWD.out _).mono ?_; rintro e w7 ⟨rfl, b7⟩; replace kc := Keep.trans kc (Keep.ofBelow b7); replace kd := Keep.trans kd (Keep.ofBelow b7))
            | (go_at_call 59; refine (HST.out _ kc).mono ?_; rintro e w8 ⟨rfl, h8, k8⟩; replace kd := Keep.trans kd k8))
          go_wp2_with fail
          go_roundw
          case rel => exact ⟨j + 1, HJ.out, rfl, HEND.out _ h8 kd⟩
          case measure => simp [intOf]; omega
        · have HEB := Lib.hid (elB_any F fv j wr (HF.out.below (hbr.mono (Nat.le_refl _))) (by omega))
          have HFT := Lib.hid (show ∀ V, Calls Tryz.prog 204 #[.bool (freshO F j)] V fun e w' => e = .returned (.int .i64 (tagO F j)) ∧ V = w' from fun V => firstTag_any (freshO F j) V)
          have HEI := Lib.hid (elI_any H hv j wr (HH.out.below (hbr.mono (Nat.le_refl _))) (by omega))
          have HPK := Lib.hid (HPN.out j hgj)
          have HNG := Lib.hid (show ¬ GoodH m H from fun h => hgj (h j hlt))
          clear hgr hgd hbr hgj HGr HGd HB
          generalize freshO F j = fr at *
          generalize tagO F j = tg at *
          generalize hashO H j = hs at *
          go_wp2_with (first
            | (go_at_call 205; refine HEB.out.mono ?_; rintro e w3 ⟨rfl, rfl⟩)
            | (go_at_call 204; refine (HFT.out _).mono ?_; rintro e w4 ⟨rfl, rfl⟩)
            | (go_at_call 206; refine HEI.out.mono ?_; rintro e w5 ⟨rfl, rfl⟩)
            | (go_at_call 146; refine (HPK.out _).mono ?_; rintro e w6 ⟨rfl, b6⟩))
          go_ret
          exact .inr ⟨HNG.out, rfl, HBr.out.trans (b6.mono HBr.out.size)⟩
      · obtain rfl : j = m.o := by omega
        have d0 := hgr.own.cell 0 _ rfl
        clear hgr hgd hbr HG HB hlt hj
        have HGd2 := Lib.hid (show GoodH m H from HGd.out)
        clear HGd
        go_upto_region 13 with fail
        go_loopw [67] (fun v67 wr => ∃ j : Nat, j ≤ m.t ∧ v67 = .int .i64 (j : Int) ∧ GrAt wr g m (safesGo m (wordsGo f mz m.o) j) ((m.o : Int) + j) lz (.slice none 0 0) [] ∧ Below w.heap.size w wr) (fun v67 _ => (m.t - intOf v67).toNat)
        case atStart => exact ⟨0, by omega, rfl, by simpa [safesGo] using HGr.out, HBr.out⟩
        case round =>
          obtain ⟨j, hj, rfl, hgq, hbq⟩ := hrel
          have HGq := Lib.hid hgq
          have HBq := Lib.hid hbq
          by_cases hlt : j < m.t
          · have HJ := Lib.hid hlt
            have sK := Lib.hid (show ∀ V, Keep (ofCells g.C g.S) wr V → V.cell? ⟨g.G, 0, none⟩ = some (.int .i64 (m.t : Int)) ∧ V.cell? ⟨g.G, 1, none⟩ = some (.int .i64 (m.o : Int)) ∧ V.cell? ⟨g.G, 2, none⟩ = some (.int .i64 (m.n : Int)) ∧ V.cell? ⟨g.G, 3, none⟩ = some (cellsV g.C) from fun V hk => have q := hgq.own.keep hk (fun e => e.elim (fun e => hgq.apartG.1 e) (fun e => hgq.apartG.2.1 e)); ⟨q.cell 0 _ rfl, q.cell 1 _ rfl, q.cell 2 _ rfl, q.cell 3 _ rfl⟩)
            have HSF := Lib.hid fun V => safe_any m (j : Int) V HM.out (by omega)
            have hin : safeN m j < (safesGo m (wordsGo f mz m.o) j).length := by rw [safesGo_len, wordsGo_len, HML.out]; unfold safeN nxN sizeN; omega
            have HST := Lib.hid fun V (hV : Keep (fun _ => False) wr V) => store_yes g.C g.S (safesGo m (wordsGo f mz m.o) j) ((m.o : Int) + j) (safeN m j) _ 1 V (hgq.cells.keep hV (fun h => h) (fun h => h)) (List.getElem?_eq_getElem hin) (by omega) (by omega)
            have HEND := Lib.hid (show ∀ V, CellsAt V g.C g.S ((safesGo m (wordsGo f mz m.o) j).set (safeN m j) 1) ((m.o : Int) + j + 1) → Keep (ofCells g.C g.S) wr V → GrAt V g m (safesGo m (wordsGo f mz m.o) (j + 1)) ((m.o : Int) + ((j + 1 : Nat) : Int)) lz (.slice none 0 0) [] ∧ Below w.heap.size w V from fun V hV hk => ⟨by
              have := hgq.cells' hV hk (by simp)
              rw [show (m.o : Int) + ((j + 1 : Nat) : Int) = (m.o : Int) + (j : Int) + 1 by omega]
              exact this, hbq.trans (hk.below hbq.size (fun b _ h => h.elim (fun h => HGB.out b (.inr (.inl h))) (fun h => HGB.out b (.inr (.inr (.inl h))))))⟩)
            have hw6 : (safeN m j : Int) < 1000000 := by unfold safeN nxN; omega
            clear hgq hbq hin HGq HBq
            have kc : Keep (fun _ => False) wr wr.drew := (Keep.refl _ _).drew
            have kd : Keep (ofCells g.C g.S) wr wr.drew := kc.mono (fun _ _ h => h.elim)
            go_upto_region 15 with fail
            go_region_held3 (fun V => V.cell? ⟨g.G, 0, none⟩ = some (.int .i64 (m.t : Int)) ∧ V.cell? ⟨g.G, 1, none⟩ = some (.int .i64 (m.o : Int)) ∧ V.cell? ⟨g.G, 2, none⟩ = some (.int .i64 (m.n : Int)) ∧ V.cell? ⟨g.G, 3, none⟩ = some (cellsV g.C)) (exact sK.out _ kd) (first
              | (go_at_call 54; refine (HSF.out _).mono ?_; rintro e w7 ⟨rfl, b7⟩; replace kc := Keep.trans kc (Keep.ofBelow b7); replace kd := Keep.trans kd (Keep.ofBelow b7))
              | (go_at_call 59; refine (HST.out _ kc).mono ?_; rintro e w8 ⟨rfl, h8, k8⟩; replace kd := Keep.trans kd k8))
            go_wp2_with fail
            go_roundw
            case rel => exact ⟨j + 1, HJ.out, rfl, HEND.out _ h8 kd⟩
            case measure => simp [intOf]; omega
          · obtain rfl : j = m.t := by omega
            have sK := Lib.hid (show ∀ V, Keep (ofCells g.C g.S) wr V → V.cell? ⟨g.G, 0, none⟩ = some (.int .i64 (m.t : Int)) ∧ V.cell? ⟨g.G, 1, none⟩ = some (.int .i64 (m.o : Int)) ∧ V.cell? ⟨g.G, 2, none⟩ = some (.int .i64 (m.n : Int)) ∧ V.cell? ⟨g.G, 3, none⟩ = some (cellsV g.C) from fun V hk => have q := hgq.own.keep hk (fun e => e.elim (fun e => hgq.apartG.1 e) (fun e => hgq.apartG.2.1 e)); ⟨q.cell 0 _ rfl, q.cell 1 _ rfl, q.cell 2 _ rfl, q.cell 3 _ rfl⟩)
            have kd : Keep (ofCells g.C g.S) wr wr.drew := (Keep.refl _ _).drew
            have HLY := Lib.hid (lay_any g.C g.S m (safesGo m (wordsGo f mz m.o) m.t) ((m.o : Int) + m.t) wr.drew HM.out (hgq.cells.keep ((Keep.refl (fun _ => False) wr).drew) (fun h => h) (fun h => h)) (by rw [safesGo_len, wordsGo_len, HML.out]; exact Nat.le_refl _) (by omega))
            clear hgq hbq hlt hj
            go_upto_region 17 with fail
            go_region_held3 (fun V => V.cell? ⟨g.G, 0, none⟩ = some (.int .i64 (m.t : Int)) ∧ V.cell? ⟨g.G, 1, none⟩ = some (.int .i64 (m.o : Int)) ∧ V.cell? ⟨g.G, 2, none⟩ = some (.int .i64 (m.n : Int)) ∧ V.cell? ⟨g.G, 3, none⟩ = some (cellsV g.C)) (exact sK.out _ kd) (first
              | (go_at_call 32; refine HLY.out.mono ?_; rintro e w8 ⟨rfl, h8, k8⟩; replace kd := Keep.trans kd k8))
            go_wp2_with fail
            go_ret
            refine .inl ⟨HGd2.out, g, rfl, ?_, HBq.out.trans (kd.below HBq.out.size (fun b _ h => h.elim (fun h => HGB.out b (.inr (.inl h))) (fun h => HGB.out b (.inr (.inr (.inl h)))))), HGB.out⟩
            rw [← HLZ.out]
            unfold mmF
            rw [← HMZ.out]
            exact HGq.out.cells' h8 kd (by rw [layL_len])
theorem pack_yes13 (H : List Int) (F : List Bool) (j : Nat) (hj : goodO H j) (x : Nat) (hx : packP (hd0 H F j) = some x) (V : World) :
    Calls Tryz.prog 146 #[.agg #[.int .i64 (tagO F j), .int .i64 0, .int .i64 0, .int .i64 0, .int .i64 0, .int .i64 (hashO H j)]] V fun e w' => e = .returned (.tuple #[.int .u64 (x : Int), .bool true]) ∧ Below V.heap.size V w' := by
  have h := pack_any (hd0 H F j) V
  rw [hx] at h
  exact h
theorem pack_no13 (H : List Int) (F : List Bool) (j : Nat) (hj : ¬ goodO H j) (V : World) :
    Calls Tryz.prog 146 #[.agg #[.int .i64 (tagO F j), .int .i64 0, .int .i64 0, .int .i64 0, .int .i64 0, .int .i64 (hashO H j)]] V fun e w' => e = .returned (.tuple #[.int .u64 0, .bool false]) ∧ Below V.heap.size V w' := by
  have h := pack_any (hd0 H F j) V
  rw [hd0_none hj] at h
  exact h
theorem glaid_any (m : Mp) (H : List Int) (F : List Bool) (hv fv : Value) (w : World) (hm : m.ok) (hh : SliceAt (Value.int .i64) w hv H) (hf : SliceAt Value.bool w fv F) :
    Calls Tryz.prog 121 #[.func (.func 13) #[] #[], mapV m, hv, fv] w (NewPost w m H F) :=
  laid_gen m H F hv fv w hm hh hf (fun o => (wordOf (hd0 H F o) : Nat)) (fun j hj V => pack_yes13 H F j hj _ (hd0_pack hj) V) (fun j hj V => pack_no13 H F j hj V)
end Go.Proofs.YtldofbkjjmnooaaGreat
