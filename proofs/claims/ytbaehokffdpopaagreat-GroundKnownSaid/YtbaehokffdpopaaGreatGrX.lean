/- A ground: View of a fat object. -/
import Derived.Test.YtbaehokffdpopaaGreatGrV
namespace Go.Proofs.YtbaehokffdpopaaGreat
open Go.ChangeShapes Go.WideShapes Go.ChangeAt Go.RowKit Wd
set_option linter.unusedVariables false
set_option maxRecDepth 100000
set_option linter.unusedSimpArgs false
set_option maxHeartbeats 4000000 in
theorem mean2_any (x : Hd) (G : Nat) (m : Mp) (mm : List Int) (k : Nat) (ow dp v : Int) (ga ca bg ba : Nat) (w : World) (hm : m.ok) (hml : mm.length = sizeN m) (hk : k < m.n) (hxm : x.m = k)
    (hG : ∀ V, Below w.heap.size w V → V.cell? ⟨G, 0, none⟩ = some (.int .i64 (m.t : Int)) ∧ V.cell? ⟨G, 1, none⟩ = some (.int .i64 (m.o : Int)) ∧ V.cell? ⟨G, 2, none⟩ = some (.int .i64 (m.n : Int)))
    (lG : G < w.heap.size) (hg : RowW w ga mm) (lg : ga < w.heap.size) (hx : mm[holdN m k]? = some v)
    (cg : w.cell? ⟨bg, 0, none⟩ = some (pW G)) (ca' : w.cell? ⟨ba, 0, none⟩ = some (.slice (some ⟨ga, 0, none⟩) mm.length ca))
    (hH : ∀ V, Calls Tryz.prog 83 #[.int .u64 v] V fun e w' => e = .returned (.tuple #[.int .i64 ow, .int .i64 dp]) ∧ V = w') :
    Calls Tryz.prog 138 #[hdV x, pW bg, pW ba] w (ViewPost w ow dp (notO ow (waitG m mm (k * 8 + 2) m.t))) := by
  have HX := Lib.hid hxm
  have hkI : (k : Int) < (m.n : Int) := by omega
  have hbn : (m.n : Int) ≤ 5000 := by have := hm.n; omega
  have HMo := Lib.hid fun V (hV : Below w.heap.size w V) => monitor_any G m mm k ow dp v ga ca V hm hml (by omega) (fun V' h' => hG V' (hV.trans (h'.mono hV.size))) (Nat.lt_of_lt_of_le lG hV.size) (hg.keep (F := fun _ => False) (Keep.ofBelow hV) (fun h => h)) (Nat.lt_of_lt_of_le lg hV.size) hx hH
  have HG := Lib.hid (show ∀ V, Below w.heap.size w V → V.cell? ⟨G, 2, none⟩ = some (.int .i64 (m.n : Int)) ∧ V.cell? ⟨bg, 0, none⟩ = some (pW G) ∧ V.cell? ⟨ba, 0, none⟩ = some (.slice (some ⟨ga, 0, none⟩) mm.length ca) from fun V hV => ⟨(hG V hV).2.2, cell_below cg hV, cell_below ca' hV⟩)
  clear hG hg hx cg ca' hH hm hml hk
  go_enter Tryz.func138, Tryz.ntmps138
  go_upto_region 1 with fail
  generalize hW : (World.alloc _ _) = W
  have bW : Below w.heap.size w W := by rw [← hW]; go_grown
  have sW : W.heap.size = w.heap.size + 2 := by rw [← hW]; simp
  have hB : Blk W w.heap.size 77 #[.int .i64 x.t, .int .i64 x.o, .int .i64 x.c, .int .i64 (k : Int), .int .i64 x.g, .int .i64 x.h] := by rw [← hW]; exact (Blk.new w _ _).alloc _
  have hR : Blk W (w.heap.size + 1) 58 (viewA 0 0 (.slice none 0 0)) := by rw [← hW]; exact blk_two w _ _ _
  clear hW hxm
  obtain ⟨c1, c2, c3⟩ := HG.out W.drew (bW.trans ((bdrewP W).mono bW.size))
  have c4 : W.drew.cell? ⟨w.heap.size, 3, none⟩ = some (.int .i64 (k : Int)) := cell_below (hB.cell 3 _ rfl) (bdrewP W)
  go_region_held3 (fun V => V.cell? ⟨G, 2, none⟩ = some (.int .i64 (m.n : Int)) ∧ V.cell? ⟨bg, 0, none⟩ = some (pW G) ∧ V.cell? ⟨w.heap.size, 3, none⟩ = some (.int .i64 (k : Int))) (exact ⟨c1, c2, c4⟩) (fail)
  have bd := bW.trans ((bdrewP W).mono bW.size)
  have hR2 := hR.below (bdrewP W) hR.lt
  have HMo2 := Lib.hid (HMo.out W.drew bd)
  generalize W.drew = W2 at *
  clear hR hB bW HMo
  have e0 := hR2.cell 0 _ rfl
  go_upto_region 3 with fail
  go_upto_region 4 with (first
    | (go_at_call 139; (with_reducible refine HMo2.out.mono ?_); rintro e w3 ⟨u, rfl, ⟨a, c, rfl, hu⟩, hub, b3⟩; have R3 := hR2.below b3 hR2.lt; have e0 := R3.cell 0 _ rfl; have e1 := R3.cell 1 _ rfl; have e2 := R3.cell 2 _ rfl; have f0 := R3.free 0; have f1 := R3.free 1; have f2 := R3.free 2))
  have bd2 := bd.size
  have b3s := b3.size
  generalize hl : notO ow (waitG m mm (↑k * 8 + 2) m.t) = l at *
  have R4 := ((R3.set 0 (.int .i64 ow)).set 1 (.int .i64 dp)).set 2 (.slice a l.length c)
  have k4 : Keep (fun b => b = w.heap.size + 1) w3 (((w3.setCell ⟨w.heap.size + 1, 0, none⟩ (.int .i64 ow)).setCell ⟨w.heap.size + 1, 1, none⟩ (.int .i64 dp)).setCell ⟨w.heap.size + 1, 2, none⟩ (.slice a l.length c)) := (((Keep.refl (fun b => b = w.heap.size + 1) w3).set (p := ⟨w.heap.size + 1, 0, none⟩) (fun _ => rfl) _).set (p := ⟨w.heap.size + 1, 1, none⟩) (fun _ => rfl) _).set (p := ⟨w.heap.size + 1, 2, none⟩) (fun _ => rfl) _
  generalize (((w3.setCell ⟨w.heap.size + 1, 0, none⟩ (.int .i64 ow)).setCell ⟨w.heap.size + 1, 1, none⟩ (.int .i64 dp)).setCell ⟨w.heap.size + 1, 2, none⟩ (.slice a l.length c)) = w4 at *
  have q0 := R4.cell 0 _ rfl
  have q1 := R4.cell 1 _ rfl
  have q2 := R4.cell 2 _ rfl
  have hb4 : Below w.heap.size w w4 := (bd.trans (b3.mono bd.size)).trans (k4.below (by omega) (fun i hi e => by omega))
  refine bodyPost_ret (v := viewV ow dp (.slice a l.length c)) (by simp [results, Tryz.results138, go_sem, q0, q1, q2]) rfl ⟨_, rfl, ⟨a, c, rfl, fun i y hy => ?_⟩, fun b hb => by have := hub b hb; omega, hb4⟩
  obtain ⟨b, off, ha, hc⟩ := hu i y hy
  refine ⟨b, off, ha, kcell hc k4 (fun e => ?_)⟩
  have h7 := hub b (by rw [ha]; simp [Value.ownBlock])
  have h8 := hR2.lt
  omega
theorem fns_four {w : World} {bm bg ba : Nat} {t : Int} (h : FnsAt w bm 3 (meanF bg ba)) (ht : t = 4) : (Instr.lookup 131 (.map (some bm)) (.int .i64 t) false).run Tryz.prog w = .ok (.func (.func 138) #[] #[pW bg, pW ba]) w := by
  have := h.look (u := t) (by omega)
  rw [this]
  subst ht
  rfl
theorem fn_ne (bg ba : Nat) (W : World) : (binOp .neq 130 (.func (.func 138) #[] #[pW bg, pW ba]) .nilFunc).run Tryz.prog W = .ok (.bool true) W := by kernel_rfl
section
variable {w w1 : World} {g : GrP} {m : Mp} {mm mm' : List Int} {k k' : Int} {l l' : List Bool} {vo vo' : Value} {E E' : List Ev}
set_option maxHeartbeats 4000000 in
theorem gview_fat (h : GrAt w g m mm k l vo E) (o : Nat) (ho : o < m.o) (v : Nat) (hv : mm[wordN o]? = some (v : Int)) (x : Hd) (ht : x.t = 4) (km : Nat) (hkm : x.m = km) (hkn : km < m.n) (ow dp y : Int) (hy : mm[holdN m km]? = some y)
    (hO : ∀ V, Calls Tryz.prog 136 #[.int .u64 (v : Int)] V fun e w' => e = .returned (.tuple #[hdV x, .bool true]) ∧ Below V.heap.size V w')
    (hH : ∀ V, Calls Tryz.prog 83 #[.int .u64 y] V fun e w' => e = .returned (.tuple #[.int .i64 ow, .int .i64 dp]) ∧ V = w') :
    Calls Tryz.prog 22 #[grV g, .int .i64 (o : Int)] w fun e w' => ∃ u, e = .returned (viewV ow dp u) ∧ SliceAt intE w' u (notO ow (waitG m mm (km * 8 + 2) m.t)) ∧ (∀ b, u.ownBlock = some b → w.heap.size ≤ b) ∧ Below w.heap.size w w' := by
  have HL := Lib.hid fun V (hb : Below w.heap.size w V) => look_any (h.below hb) o ho v hv x true hO
  have hhsz : Hid ((Tryz.prog.info? 77).map (·.size) = some (hdArr x).size) := Lib.hid hd_size
  have hhone := Lib.hid (hd_one x)
  have HG := Lib.hid h
  have HT := Lib.hid ht
  have hmlen : 0 < mm.length := by have := (List.getElem?_eq_some_iff.1 hv).1; omega
  have HKM := Lib.hid (And.intro hkm (And.intro hkn (And.intro hy hH)))
  clear h hO hv ht hkm hkn hy hH
  go_enter Tryz.func22, Tryz.ntmps22
  go_upto_region 1 with fail
  generalize hW : w.alloc _ = W
  have bW : Below w.heap.size w W := by rw [← hW]; go_grown
  have R0 : Blk W w.heap.size 58 (viewA 0 0 (.slice none 0 0)) := by rw [← hW]; exact Blk.new _ _ _
  clear hW
  have HL1 := Lib.hid (HL.out W bW)
  clear HL
  go_upto_region 2 with (first
    | (go_at_call 80; refine HL1.out.mono ?_; rintro e w2 ⟨a, c, rfl, h2, b2⟩; have R2 := (R0.below b2 R0.lt).alloc (.cells zero6 77))
    | (refine wpList_store_row rfl 77 _ _ rfl w2.heap.size (hdArr x) rfl rfl 77 zero6 (Blk.new w2 _ _) hhsz.out rfl hhone.out ?_; (try simp only [Act.put, List.setIfInBounds_toArray, List.set_cons_zero, List.set_cons_succ])))
  rw [World.setRow_alloc_new]
  have Q3 := Blk.new w2 77 (hdArr x)
  have R3 := (R0.below b2 R0.lt).alloc (.cells (hdArr x) 77)
  have b3 : Below w.heap.size w (w2.alloc (.cells (hdArr x) 77)) := (bW.trans (b2.mono bW.size)).alloc (by have := bW.size; have := b2.size; omega) _
  have bA3 : Below w2.heap.size w2 (w2.alloc (.cells (hdArr x) 77)) := by go_grown
  obtain ⟨ga, ca, hac⟩ := row_slice h2 hmlen
  cases hac
  have H3 := row_ownkeep h2 (Keep.ofBelow (Q := fun _ => False) bA3) (fun _ _ h => h)
  have lga : ga < (w2.alloc (.cells (hdArr x) 77)).heap.size := Nat.lt_of_lt_of_le (row_lt h2 rfl).1 bA3.size
  clear R2 h2 R0
  generalize hW : w2.alloc (.cells (hdArr x) 77) = w3 at *
  clear hW
  have hgw : RowW w3 ga mm := fun i y hy => by
    have := H3.cells (g := ga) rfl i (.int .u64 y) (by rw [List.getElem?_map, hy]; rfl)
    rwa [addr_add] at this
  have HGW := Lib.hid hgw
  have LGA := Lib.hid lga
  clear H3 hgw lga
  go_upto_region 3 with fail
  have t3 : w3.cell? ⟨w2.heap.size, 0, none⟩ = some (.int .i64 x.t) := Q3.cell 0 _ rfl
  have HM := Lib.hid fun V => meanings_any (some ⟨g.G, 0, none⟩) (some ⟨ga, 0, none⟩) mm.length c V
  have bd := bdrewP w3
  have hlt3 : w2.heap.size < w3.heap.size := Q3.lt
  have HT3 := Lib.hid (show ∀ V, Below w3.heap.size w3 V → V.cell? ⟨w2.heap.size, 0, none⟩ = some (.int .i64 x.t) from fun V hV => cell_below t3 hV)
  clear t3
  go_region_held3 (fun V => V.cell? ⟨w2.heap.size, 0, none⟩ = some (.int .i64 x.t)) (first | exact HT3.out _ b5 | exact HT3.out _ bd) (first
    | (go_at_call 81; refine (HM.out _).mono ?_; rintro e w5 ⟨bm, bg, ba, rfl, hF, hg, ha, b5⟩; replace b5 := Below.trans bd b5; have hlk := fns_four hF HT.out))
  have R5 := R3.below b5 R3.lt
  have Q5 := Q3.below b5 Q3.lt
  have bc5 := b3.trans (b5.mono b3.size)
  have q0 := Q5.cell 0 _ rfl
  have q1 := Q5.cell 1 _ rfl
  have q2 := Q5.cell 2 _ rfl
  have q3 := Q5.cell 3 _ rfl
  have q4 := Q5.cell 4 _ rfl
  have q5 := Q5.cell 5 _ rfl
  have hnn := fn_ne
  have h5 := HG.out.below bc5
  obtain ⟨hkm, hkn, hy, hH⟩ := HKM.out
  have HMe := Lib.hid (mean2_any x g.G m mm km ow dp y ga c bg ba w5 h5.ok h5.size hkn hkm (fun V hV => by have z := (h5.below hV).own; exact ⟨z.cell 0 _ rfl, z.cell 1 _ rfl, z.cell 2 _ rfl⟩) h5.own.lt (HGW.out.keep (F := fun _ => False) (Keep.ofBelow b5) (fun h => h)) (Nat.lt_of_lt_of_le LGA.out b5.size) hy hg ha hH)
  clear hkm hkn hy hH h5 hF hg ha
  go_upto_region 5 with fail
  go_upto_region 6 with (first
    | (go_at_call 138; refine HMe.out.mono ?_; rintro e w6 ⟨u, rfl, ⟨a6, c6, rfl, hu⟩, hub, b6⟩; have R6 := R5.below b6 R5.lt; have e0 := R6.cell 0 _ rfl; have e1 := R6.cell 1 _ rfl; have e2 := R6.cell 2 _ rfl; have f0 := R6.free 0; have f1 := R6.free 1; have f2 := R6.free 2))
  have s6 := b6.size
  have s5 := bc5.size
  have lt5 := R5.lt
  generalize hl : notO ow (waitG m mm (↑km * 8 + 2) m.t) = ll at *
  have R7 := ((R6.set 0 (.int .i64 ow)).set 1 (.int .i64 dp)).set 2 (.slice a6 ll.length c6)
  have k7 : Keep (fun b => b = w.heap.size) w6 (((w6.setCell ⟨w.heap.size, 0, none⟩ (.int .i64 ow)).setCell ⟨w.heap.size, 1, none⟩ (.int .i64 dp)).setCell ⟨w.heap.size, 2, none⟩ (.slice a6 ll.length c6)) := (((Keep.refl (fun b => b = w.heap.size) w6).set (p := ⟨w.heap.size, 0, none⟩) (fun _ => rfl) _).set (p := ⟨w.heap.size, 1, none⟩) (fun _ => rfl) _).set (p := ⟨w.heap.size, 2, none⟩) (fun _ => rfl) _
  generalize (((w6.setCell ⟨w.heap.size, 0, none⟩ (.int .i64 ow)).setCell ⟨w.heap.size, 1, none⟩ (.int .i64 dp)).setCell ⟨w.heap.size, 2, none⟩ (.slice a6 ll.length c6)) = w7 at *
  have p0 := R7.cell 0 _ rfl
  have p1 := R7.cell 1 _ rfl
  have p2 := R7.cell 2 _ rfl
  have hb7 : Below w.heap.size w w7 := (bc5.trans (b6.mono bc5.size)).trans (k7.below (by omega) (fun i hi e => by omega))
  refine bodyPost_ret (v := viewV ow dp (.slice a6 ll.length c6)) (by simp [results, Tryz.results22, go_sem, p0, p1, p2]) rfl ⟨_, rfl, ⟨a6, c6, rfl, fun i y hy => ?_⟩, fun b hb => by have := hub b hb; omega, hb7⟩
  obtain ⟨b, off, ha, hc⟩ := hu i y hy
  refine ⟨b, off, ha, kcell hc k7 (fun e => ?_)⟩
  have h7 := hub b (by rw [ha]; simp [Value.ownBlock])
  omega
end
theorem wait13 {mm : List Int} (h0 : mm[5]? = some 2) (h1 : mm[11]? = some 2) : waitG ⟨2, 2, 1⟩ mm (((0 : Nat) : Int) * 8 + 2) 2 = [0, 1] := by
  have e1 := waitG_yes (m := ⟨2, 2, 1⟩) (mm := mm) (v := ((0 : Nat) : Int) * 8 + 2) (j := 1) (by rw [show stateN ⟨2, 2, 1⟩ ((1 : Nat) : Int) = 11 from rfl, h1]; rfl)
  have e0 := waitG_yes (m := ⟨2, 2, 1⟩) (mm := mm) (v := ((0 : Nat) : Int) * 8 + 2) (j := 0) (by rw [show stateN ⟨2, 2, 1⟩ ((0 : Nat) : Int) = 5 from rfl, h0]; rfl)
  rw [e0] at e1
  exact e1
end Go.Proofs.YtbaehokffdpopaaGreat
