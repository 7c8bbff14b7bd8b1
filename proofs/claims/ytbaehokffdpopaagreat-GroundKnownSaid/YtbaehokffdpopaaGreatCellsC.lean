/- Contracts of package cells: the operations. -/
import Derived.Test.YtbaehokffdpopaaGreatCellsB
import Derived.Deep.CutBlock
import Derived.LoopTactic
import Derived.StillTailTactics
namespace Go.Proofs.YtbaehokffdpopaaGreat
open Go.ChangeShapes Go.WideShapes Go.ChangeAt Go.RowKit
set_option linter.unusedVariables false
set_option maxRecDepth 100000
set_option linter.unusedSimpArgs false
theorem call_opC : ∀ (W : World) (args : Array Value), (callFunc 157 args).run Tryz.prog W = .ok (.enter 157 args) W := by
  intro W args
  go_simp
abbrev unitV : Value := .tuple #[]
abbrev doV (F : Nat) (caps : Array Value) : Value := .func (.func F) #[] caps
theorem opC_any (bd bc C : Nat) (x : Value) (k : Int) (F : Nat) (caps : Array Value) (w : World) (Q : Nat → Prop) (G : World → Prop)
    (hd : Blk w bd 1 #[doV F caps]) (hc : Blk w bc 36 #[cellsV C]) (hC : Blk w C 143 #[x, .int .i64 k]) (h0 : 0 ≤ k) (h1 : k < 9223372036854775807)
    (hcall : ∀ (W : World) (args : Array Value), (callFunc F args).run Tryz.prog W = .ok (.enter F args) W)
    (hF : Calls Tryz.prog F caps w fun e w2 => e = .returned unitV ∧ Keep Q w w2 ∧ G w2) (hQc : ¬ Q bc) (hQC : ¬ Q C) (hG : ∀ w2 v, G w2 → G (w2.setCell ⟨C, 1, none⟩ v)) :
    Calls Tryz.prog 157 #[.pointer (some ⟨bd, 0, none⟩), .pointer (some ⟨bc, 0, none⟩)] w fun e w' => e = .returned unitV ∧ Keep (fun b => Q b ∨ b = C) w w' ∧ G w' ∧ Blk w' C 143 #[x, .int .i64 (k + 1)] := by
  have d0 := hd.cell 0 _ rfl
  have HF := Lib.hid hF
  have HG := Lib.hid hG
  clear hF hG
  go_enter Tryz.func157, Tryz.ntmps157
  go_wp2_with fail
  refine HF.out.mono ?_
  rintro e w2 ⟨rfl, hk, hg⟩
  have c2 := hc.keep hk hQc
  have C2 := hC.keep hk hQC
  have d1 := c2.cell 0 _ rfl
  have d2 := C2.cell 1 _ rfl
  have d3 := C2.free 1
  clear d0
  go_wp2_with (go_at_call 158; (with_reducible refine (aAdd_any C k _ d2 d3).mono ?_); rintro e w3 ⟨rfl, rfl⟩)
  have hw : wrap64 (k + 1) = k + 1 := IntWalk.wrap64_in _ ⟨by omega, by omega⟩
  go_end0
  refine ⟨rfl, (hk.mono fun _ _ h => .inl h).set (fun _ => .inr rfl) _, HG.out _ _ hg, ?_⟩
  have := C2.set 1 (.int .i64 (wrap64 (k + 1)))
  rw [hw] at this
  rw [hw]
  exact this
theorem operate_yes (C S : Nat) (l : List Int) (k : Int) (i : Nat) (F : Nat) (caps : Array Value) (w : World) (Q : Nat → Prop) (G : World → Prop)
    (hC : CellsAt w C S l k) (hi : i < l.length) (h0 : 0 ≤ k) (h1 : k < 9223372036854775807)
    (hcall : ∀ (W : World) (args : Array Value), (callFunc F args).run Tryz.prog W = .ok (.enter F args) W)
    (hF : ∀ w1, Below w.heap.size w w1 → Calls Tryz.prog F caps w1 fun e w2 => e = .returned unitV ∧ Keep Q w1 w2 ∧ G w2)
    (hQ : ∀ b, Q b → b < w.heap.size ∧ b ≠ C) (hG : ∀ w2 v, G w2 → G (w2.setCell ⟨C, 1, none⟩ v)) :
    Calls Tryz.prog 100 #[cellsV C, .int .i64 i, doV F caps] w fun e w' => e = .returned (.bool true) ∧ Keep (fun b => Q b ∨ b = C) w w' ∧ G w' ∧ Blk w' C 143 #[.iface 165 (rowV S l.length), .int .i64 (k + 1)] := by
  have hm := hC.few
  have HF := Lib.hid hF
  have HG := Lib.hid hG
  have HQ := Lib.hid hQ
  have HL := Lib.hid hcall
  clear hF hG hQ hcall
  have hmf : ∀ (fn : Fn) (first cap : Array Value) (w : World), (Instr.makeFunc fn first cap).run Tryz.prog w = .ok (.func fn first cap) w := fun _ _ _ _ => rfl
  go_enter Tryz.func100, Tryz.ntmps100
  go_upto_region 1 with fail
  generalize hW : (w.alloc _).alloc _ = W
  have bW : Below w.heap.size w W := by rw [← hW]; go_grown
  have sW : W.heap.size = w.heap.size + 2 := by rw [← hW]; simp
  have cW : Blk W w.heap.size 36 #[cellsV C] := by rw [← hW]; exact (Blk.new w _ _).alloc _
  have dW : Blk W (w.heap.size + 1) 1 #[doV F caps] := by rw [← hW]; exact blk_two w _ _ _
  have CW : CellsAt W C S l k := hC.keep (Keep.ofBelow (Q := fun _ => False) bW) (fun h => h) (fun h => h)
  clear hW
  have e0 := cW.cell 0 _ rfl
  have HlenW := Lib.hid (len_any C S l k W CW)
  generalize hn : l.length = n at *
  go_upto_region 3 with (go_at_call 109; refine HlenW.out.mono ?_; rintro e w1 ⟨rfl, hb⟩)
  have b1 : Below w.heap.size w w1 := bW.trans (hb.mono bW.size)
  have c1 := cW.below hb cW.lt
  have d1 := dW.below hb dW.lt
  have C1 := CW.keep (Keep.ofBelow (Q := fun _ => False) hb) (fun h => h) (fun h => h)
  have hle := C1.own.lt
  have hC0 := hC.own.lt
  clear e0
  have HA := Lib.hid (attempt_any 157 _ w1 _ call_opC (opC_any (w.heap.size + 1) w.heap.size C _ k F caps w1 Q G d1 c1 C1.own h0 h1 HL.out (HF.out w1 b1) (fun h => by have := (HQ.out _ h).1; omega) (fun h => (HQ.out _ h).2 rfl) HG.out))
  rw [hn] at HA
  go_wp2_with (refine HA.out.mono ?_; rintro e w2 ⟨rfl, hk, hg, hB⟩)
  go_ret
  refine ⟨rfl, ?_, hg, by rw [hn]; exact hB⟩
  exact (Keep.ofBelow b1).trans (hk.mono fun _ _ h => h)
theorem operate_no (C S : Nat) (l : List Int) (k i : Int) (F : Nat) (caps : Array Value) (w : World)
    (hC : CellsAt w C S l k) (hi : i < 0 ∨ l.length ≤ i) :
    Calls Tryz.prog 100 #[cellsV C, .int .i64 i, doV F caps] w fun e w' => e = .returned (.bool false) ∧ Below w.heap.size w w' := by
  have hm := hC.few
  rcases hi with hi | hi
  · go_enter Tryz.func100, Tryz.ntmps100
    go_wp2_with fail
    go_ret
    exact ⟨rfl, by go_grown⟩
  have hi0 : 0 ≤ i := by omega
  go_enter Tryz.func100, Tryz.ntmps100
  go_upto_region 1 with fail
  generalize hW : (w.alloc _).alloc _ = W
  have bW : Below w.heap.size w W := by rw [← hW]; go_grown
  have cW : Blk W w.heap.size 36 #[cellsV C] := by rw [← hW]; exact (Blk.new w _ _).alloc _
  have CW : CellsAt W C S l k := hC.keep (Keep.ofBelow (Q := fun _ => False) bW) (fun h => h) (fun h => h)
  clear hW
  have e0 := cW.cell 0 _ rfl
  have HlenW := Lib.hid (len_any C S l k W CW)
  generalize hn : l.length = n at *
  go_wp2_with (go_at_call 109; refine HlenW.out.mono ?_; rintro e w1 ⟨rfl, hb⟩)
  go_ret
  exact ⟨rfl, bW.trans (hb.mono bW.size)⟩
theorem operate_nil (i : Int) (F : Nat) (caps : Array Value) (w : World) :
    Calls Tryz.prog 100 #[.pointer none, .int .i64 i, doV F caps] w fun e w' => e = .returned (.bool false) ∧ Below w.heap.size w w' := by
  by_cases hi : i < 0
  · go_enter Tryz.func100, Tryz.ntmps100
    go_wp2_with fail
    go_ret
    exact ⟨rfl, by go_grown⟩
  have hi0 : 0 ≤ i := by omega
  go_enter Tryz.func100, Tryz.ntmps100
  go_upto_region 1 with fail
  generalize hW : (w.alloc _).alloc _ = W
  have bW : Below w.heap.size w W := by rw [← hW]; go_grown
  have cW : Blk W w.heap.size 36 #[.pointer none] := by rw [← hW]; exact (Blk.new w _ _).alloc _
  clear hW
  have e0 := cW.cell 0 _ rfl
  go_wp2_with (go_at_call 109; refine (len_nil W).mono ?_; rintro e w1 ⟨rfl, hb⟩)
  go_ret
  exact ⟨rfl, bW.trans (hb.mono bW.size)⟩
/- the operations' own work -/
theorem call_loadC : ∀ (W : World) (args : Array Value), (callFunc 234 args).run Tryz.prog W = .ok (.enter 234 args) W := by
  intro W args
  go_simp
theorem loadC_any (bc bi v C S : Nat) (l : List Int) (k x : Int) (i : Nat) (y : Value) (w : World) (hc : Blk w bc 36 #[cellsV C]) (hi : Blk w bi 3 #[.int .i64 i]) (hv : Blk w v 55 #[y])
    (hC : CellsAt w C S l k) (hx : l[i]? = some x) :
    Calls Tryz.prog 234 #[.pointer (some ⟨bc, 0, none⟩), .pointer (some ⟨bi, 0, none⟩), .pointer (some ⟨v, 0, none⟩)] w fun e w2 => e = .returned unitV ∧ Keep (fun b => b = v) w w2 ∧ Blk w2 v 55 #[.int .u64 x] := by
  have hm := hC.few
  have c0 := hc.cell 0 _ rfl
  have i0 := hi.cell 0 _ rfl
  have C0 := hC.own.cell 0 _ rfl
  have HP := Lib.hid (pLoad_any S l i x w.drew hC.row.drew hx (by omega))
  have kW : Keep (fun b => b = v) w w.drew := (Keep.refl _ _).drew
  have vW : Blk w.drew v 55 #[y] := hv.drew
  clear hx
  generalize l.length = n at *
  go_enter Tryz.func234, Tryz.ntmps234
  go_still_tail 5, (by kernel_rfl)
  change wpList _ _ _ _ _ w.drew
  generalize w.drew = W at *
  clear c0 i0 C0
  have v0 := vW.cell 0 _ rfl
  have v1 := vW.free 0
  go_wp2_with (go_at_call 271; (with_reducible refine HP.out.mono ?_); rintro e w1 ⟨rfl, rfl⟩)
  go_end0
  exact ⟨rfl, kW.set (fun _ => rfl) _, vW.set 0 _⟩
theorem call_storeC : ∀ (W : World) (args : Array Value), (callFunc 101 args).run Tryz.prog W = .ok (.enter 101 args) W := by
  intro W args
  go_simp
theorem storeC_any (bc bi bv C S : Nat) (l : List Int) (k x u : Int) (i : Nat) (w : World) (hc : Blk w bc 36 #[cellsV C]) (hi : Blk w bi 3 #[.int .i64 i]) (hv : Blk w bv 55 #[.int .u64 u])
    (hC : CellsAt w C S l k) (hx : l[i]? = some x) :
    Calls Tryz.prog 101 #[.pointer (some ⟨bc, 0, none⟩), .pointer (some ⟨bi, 0, none⟩), .pointer (some ⟨bv, 0, none⟩)] w fun e w2 => e = .returned unitV ∧ Keep (fun b => b = S) w w2 ∧ Blk w2 S 55 (words (l.set i u)) := by
  have hm := hC.few
  have c0 := hc.cell 0 _ rfl
  have i0 := hi.cell 0 _ rfl
  have v0 := hv.cell 0 _ rfl
  have C0 := hC.own.cell 0 _ rfl
  have HP := Lib.hid (pStore_any S l i x u w.drew hC.row.drew hx (by omega))
  have kW : Keep (fun b => b = S) w w.drew := (Keep.refl _ _).drew
  have vW : Blk w.drew S 55 (words l) := hC.row.drew
  have HL := Lib.hid (words_set l i u)
  clear hx
  generalize l.length = n at *
  go_enter Tryz.func101, Tryz.ntmps101
  go_still_tail 6, (by kernel_rfl)
  change wpList _ _ _ _ _ w.drew
  generalize w.drew = W at *
  clear c0 i0 C0 v0
  go_wp2_with (go_at_call 272; (with_reducible refine HP.out.mono ?_); rintro e w1 ⟨rfl, rfl⟩)
  go_end0
  exact ⟨rfl, kW.set (fun _ => rfl) _, HL.out ▸ vW.set i _⟩
theorem call_swapC : ∀ (W : World) (args : Array Value), (callFunc 230 args).run Tryz.prog W = .ok (.enter 230 args) W := by
  intro W args
  go_simp
theorem swapC_yes (bc bi bo bu v C S : Nat) (l : List Int) (k x u : Int) (i : Nat) (y : Value) (w : World) (hc : Blk w bc 36 #[cellsV C]) (hi : Blk w bi 3 #[.int .i64 i]) (ho : Blk w bo 55 #[.int .u64 x])
    (hu : Blk w bu 55 #[.int .u64 u]) (hv : Blk w v 4 #[y]) (hC : CellsAt w C S l k) (hx : l[i]? = some x) (hne : v ≠ S) :
    Calls Tryz.prog 230 #[.pointer (some ⟨bc, 0, none⟩), .pointer (some ⟨bi, 0, none⟩), .pointer (some ⟨bo, 0, none⟩), .pointer (some ⟨bu, 0, none⟩), .pointer (some ⟨v, 0, none⟩)] w
      fun e w2 => e = .returned unitV ∧ Keep (fun b => b = S ∨ b = v) w w2 ∧ (Blk w2 S 55 (words (l.set i u)) ∧ Blk w2 v 4 #[.bool true]) := by
  have hm := hC.few
  have c0 := hc.cell 0 _ rfl
  have i0 := hi.cell 0 _ rfl
  have o0 := ho.cell 0 _ rfl
  have u0 := hu.cell 0 _ rfl
  have C0 := hC.own.cell 0 _ rfl
  have HP := Lib.hid (pSwap_yes S l i x u w.drew hC.row.drew hx (by omega))
  have kW : Keep (fun b => b = S ∨ b = v) w w.drew := (Keep.refl _ _).drew
  have rW : Blk w.drew S 55 (words l) := hC.row.drew
  have vW : Blk w.drew v 4 #[y] := hv.drew
  have HL := Lib.hid (words_set l i u)
  clear hx
  generalize l.length = n at *
  go_enter Tryz.func230, Tryz.ntmps230
  go_still_tail 7, (by kernel_rfl)
  change wpList _ _ _ _ _ w.drew
  generalize w.drew = W at *
  clear c0 i0 C0 o0 u0
  have v2 := vW.far hne i (.int .u64 u)
  have v0 := v2.cell 0 _ rfl
  have v1 := v2.free 0
  go_wp2_with (go_at_call 273; (with_reducible refine HP.out.mono ?_); rintro e w1 ⟨rfl, rfl⟩)
  go_end0
  exact ⟨rfl, (kW.set (fun _ => .inl rfl) _).set (fun _ => .inr rfl) _, HL.out ▸ (rW.set i _).far (Ne.symm hne) _ _, v2.set 0 _⟩
theorem swapC_no (bc bi bo bu v C S : Nat) (l : List Int) (k x o u : Int) (i : Nat) (y : Value) (w : World) (hc : Blk w bc 36 #[cellsV C]) (hi : Blk w bi 3 #[.int .i64 i]) (ho : Blk w bo 55 #[.int .u64 o])
    (hu : Blk w bu 55 #[.int .u64 u]) (hv : Blk w v 4 #[y]) (hC : CellsAt w C S l k) (hx : l[i]? = some x) (hne : (x != o) = true) :
    Calls Tryz.prog 230 #[.pointer (some ⟨bc, 0, none⟩), .pointer (some ⟨bi, 0, none⟩), .pointer (some ⟨bo, 0, none⟩), .pointer (some ⟨bu, 0, none⟩), .pointer (some ⟨v, 0, none⟩)] w
      fun e w2 => e = .returned unitV ∧ Keep (fun b => b = v) w w2 ∧ Blk w2 v 4 #[.bool false] := by
  have hm := hC.few
  have c0 := hc.cell 0 _ rfl
  have i0 := hi.cell 0 _ rfl
  have o0 := ho.cell 0 _ rfl
  have u0 := hu.cell 0 _ rfl
  have C0 := hC.own.cell 0 _ rfl
  have HP := Lib.hid (pSwap_no S l i x o u w.drew hC.row.drew hx (by omega) hne)
  have kW : Keep (fun b => b = v) w w.drew := (Keep.refl _ _).drew
  have vW : Blk w.drew v 4 #[y] := hv.drew
  clear hx hne
  generalize l.length = n at *
  go_enter Tryz.func230, Tryz.ntmps230
  go_still_tail 7, (by kernel_rfl)
  change wpList _ _ _ _ _ w.drew
  generalize w.drew = W at *
  clear c0 i0 C0 o0 u0
  have v0 := vW.cell 0 _ rfl
  have v1 := vW.free 0
  go_wp2_with (go_at_call 273; (with_reducible refine HP.out.mono ?_); rintro e w1 ⟨rfl, rfl⟩)
  go_end0
  exact ⟨rfl, kW.set (fun _ => rfl) _, vW.set 0 _⟩
end Go.Proofs.YtbaehokffdpopaaGreat
