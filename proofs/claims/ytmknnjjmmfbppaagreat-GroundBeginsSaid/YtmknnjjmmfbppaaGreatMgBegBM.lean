/- Contracts of package cells: New, Over, Len, Steps. -/
import Derived.Test.YtmknnjjmmfbppaaGreatMgBegBL
import Derived.Test.YtmknnjjmmfbppaaGreatMgBegAB
import Derived.WalkSpells
import Derived.OwnWalk
import Derived.Laws.OwnMore
import Derived.Deep.CutBlock
import Derived.LoopTactic
import Derived.StillTailTactics
namespace Go.Proofs.YtmknnjjmmfbppaaGreat.Re
open Go.ChangeShapes Go.WideShapes Go.ChangeAt Go.RowKit
set_option linter.unusedVariables false
set_option maxRecDepth 100000
set_option linter.unusedSimpArgs false
/-- cells: their own block, and their row's -/
structure CellsAt (w : World) (C S : Nat) (l : List Int) (k : Int) : Prop where
  own : Blk w C 173 #[.iface 186 (rowV S l.length), .int .i64 k]
  row : Blk w S 304 (words l)
  ne : C ≠ S
  few : l.length ≤ 16777216
abbrev cellsV (C : Nat) : Value := .pointer (some ⟨C, 0, none⟩)
theorem CellsAt.keep {w w1 : World} {C S : Nat} {l : List Int} {k : Int} {Q : Nat → Prop} (h : CellsAt w C S l k) (hk : Keep Q w w1) (h1 : ¬ Q C) (h2 : ¬ Q S) : CellsAt w1 C S l k :=
  ⟨h.own.keep hk h1, h.row.keep hk h2, h.ne, h.few⟩
theorem call_lenC : ∀ (W : World) (args : Array Value), (callFunc 173 args).run Tryz.prog W = .ok (.enter 173 args) W := by
  intro W args
  go_simp
theorem lenC_any (b v C S : Nat) (l : List Int) (k x : Int) (w : World) (hb : w.cell? ⟨b, 0, none⟩ = some (cellsV C)) (hC : CellsAt w C S l k)
    (hv : w.cell? ⟨v, 0, none⟩ = some (.int .i64 x)) (hz : w.frozen? ⟨v, 0, none⟩ = false) :
    Calls Tryz.prog 173 #[.pointer (some ⟨b, 0, none⟩), .pointer (some ⟨v, 0, none⟩)] w fun e w' => e = .returned (.tuple #[]) ∧ w.setCell ⟨v, 0, none⟩ (.int .i64 l.length) = w' := by
  have hc := hC.own.cell 0 _ rfl
  have hm := hC.few
  clear hC
  generalize l.length = n at *
  go_enter Tryz.func173, Tryz.ntmps173
  go_wp2
  · go_end0
    exact ⟨rfl, rfl⟩
  · obtain rfl : n = 0 := by omega
    go_end0
    exact ⟨rfl, rfl⟩
theorem len_any (C S : Nat) (l : List Int) (k : Int) (w : World) (hC : CellsAt w C S l k) :
    Calls Tryz.prog 107 #[cellsV C] w fun e w' => e = .returned (.int .i64 l.length) ∧ Below w.heap.size w w' := by
  have hc := hC.own.cell 0 _ rfl
  have hlt := hC.own.lt
  have hmf : ∀ (fn : Fn) (first cap : Array Value) (w : World), (Instr.makeFunc fn first cap).run Tryz.prog w = .ok (.func fn first cap) w := fun _ _ _ _ => rfl
  go_enter Tryz.func107, Tryz.ntmps107
  go_wp2_with fail
  refine (attempt_any 173 _ _ _ call_lenC (lenC_any w.heap.size (w.heap.size + 1) C S l k 0 _ (by simp) ?_ (by simp) (by simp))).mono ?_
  · exact hC.keep (((Keep.refl (fun _ => False) w).alloc _).alloc _) (fun h => h) (fun h => h)
  rintro e w1 ⟨rfl, rfl⟩
  go_wp2_with fail
  exact bodyPost_ret (v := .int .i64 l.length) (by simp [results, Tryz.results107, go_sem]) rfl ⟨rfl, by go_grown⟩
theorem len_nil (w : World) : Calls Tryz.prog 107 #[.pointer none] w fun e w' => e = .returned (.int .i64 0) ∧ Below w.heap.size w w' := by
  go_enter Tryz.func107, Tryz.ntmps107
  go_wp2_with fail
  exact bodyPost_ret (v := .int .i64 0) (by simp [results, Tryz.results107, go_sem]) rfl ⟨rfl, by go_grown⟩
/-- cells over a row of its own -/
theorem over_plain (S : Nat) (l : List Int) (w : World) (hS : Blk w S 304 (words l)) (hm : l.length ≤ 16777216) :
    Calls Tryz.prog 102 #[.iface 186 (rowV S l.length)] w fun e w' => e = .returned (cellsV w.heap.size) ∧ CellsAt w' w.heap.size S l 0 ∧ Below w.heap.size w w' := by
  go_enter Tryz.func102, Tryz.ntmps102
  go_wp2_with fail
  go_ret
  exact ⟨rfl, ⟨Blk.new _ _ _, hS.alloc _, by have := hS.lt; omega, hm⟩, by go_grown⟩
theorem over_nil (w : World) :
    Calls Tryz.prog 102 #[.nilIface] w fun e w' => e = .returned (.pointer none) ∧ w = w' := by
  go_enter Tryz.func102, Tryz.ntmps102
  go_wp2_with fail
  go_ret
  exact ⟨rfl, rfl⟩
theorem words_zeros (n : Nat) : madeCells #[Value.int .u64 0] n = words (List.replicate n 0) := by
  rw [← Array.toList_inj, toList_madeCells_one]
  simp [words, List.map_replicate]
theorem au64_info : (Tryz.prog.info? 304).map (fun i => (i.zero, i.size, i.bytes)) = some (some (.agg #[.int .u64 0]), 1, 8) := by kernel_rfl
theorem make_plain (n : Nat) (w : World) (hn : n ≤ 16777216) : (Instr.makeSlice 186 (.int .i64 (n : Int)) (.int .i64 (n : Int))).run Tryz.prog w = .ok (rowV w.heap.size n) (w.alloc (.cells (words (List.replicate n 0)) 304)) := by
  obtain ⟨i, hi, hz0, hz1, hz2⟩ := info_parts au64_info
  have h := run_make (P := Tryz.prog) w 186 304 i _ Tryz.underlying186 hi hz0 .i64 .i64 n n (by omega) (by omega) (by rw [hz2]; omega) (by omega)
  rw [h, hz1, Nat.mul_one]
  simp only [Int.toNat_natCast]
  rw [← words_zeros]
  rfl
theorem new_some (n : Nat) (w : World) (hn : n ≤ 16777216) :
    Calls Tryz.prog 47 #[.int .i64 n] w fun e w' => e = .returned (cellsV (w.heap.size + 1)) ∧ CellsAt w' (w.heap.size + 1) w.heap.size (List.replicate n 0) 0 ∧ Below w.heap.size w w' := by
  have hmk := make_plain n w hn
  have hover := over_plain w.heap.size (List.replicate n 0) (w.alloc (.cells (words (List.replicate n 0)) 304)) (Blk.new _ _ _) (by simpa using hn)
  rw [List.length_replicate] at hover
  have HO := Lib.hid hover
  clear hover
  generalize List.replicate n (0 : Int) = l at *
  go_enter Tryz.func47, Tryz.ntmps47
  go_wp2_with (go_at_call 102; refine HO.out.mono ?_; rintro e w1 ⟨rfl, hc, hb⟩)
  simp only [World.size_alloc] at hc hb
  go_ret
  refine ⟨?_, hc, ?_⟩
  · simp
  · exact ((Below.refl _ _).alloc (Nat.le_refl _) _).trans (hb.mono (by omega))
theorem new_none (n : Int) (w : World) (hn : n < 0 ∨ 16777216 < n) :
    Calls Tryz.prog 47 #[.int .i64 n] w fun e w' => e = .returned (.pointer none) ∧ w = w' := by
  rcases hn with hn | hn
  · go_enter Tryz.func47, Tryz.ntmps47
    go_wp2_with fail
    go_ret
    exact ⟨rfl, rfl⟩
  · have h0 : ¬ n < 0 := by omega
    go_enter Tryz.func47, Tryz.ntmps47
    go_wp2_with fail
    go_ret
    exact ⟨rfl, rfl⟩
end Go.Proofs.YtmknnjjmmfbppaaGreat.Re
/- Contracts of package cells: the operations. -/
namespace Go.Proofs.YtmknnjjmmfbppaaGreat.Re
open Go.ChangeShapes Go.WideShapes Go.ChangeAt Go.RowKit
set_option linter.unusedVariables false
set_option maxRecDepth 100000
set_option linter.unusedSimpArgs false
theorem call_opC : ∀ (W : World) (args : Array Value), (callFunc 165 args).run Tryz.prog W = .ok (.enter 165 args) W := by
  intro W args
  go_simp
abbrev unitV : Value := .tuple #[]
abbrev doV (F : Nat) (caps : Array Value) : Value := .func (.func F) #[] caps
theorem opC_any (bd bc C : Nat) (x : Value) (k : Int) (F : Nat) (caps : Array Value) (w : World) (Q : Nat → Prop) (G : World → Prop)
    (hd : Blk w bd 1 #[doV F caps]) (hc : Blk w bc 36 #[cellsV C]) (hC : Blk w C 173 #[x, .int .i64 k]) (h0 : 0 ≤ k) (h1 : k < 9223372036854775807)
    (hcall : ∀ (W : World) (args : Array Value), (callFunc F args).run Tryz.prog W = .ok (.enter F args) W)
    (hF : Calls Tryz.prog F caps w fun e w2 => e = .returned unitV ∧ Keep Q w w2 ∧ G w2) (hQc : ¬ Q bc) (hQC : ¬ Q C) (hG : ∀ w2 v, G w2 → G (w2.setCell ⟨C, 1, none⟩ v)) :
    Calls Tryz.prog 165 #[.pointer (some ⟨bd, 0, none⟩), .pointer (some ⟨bc, 0, none⟩)] w fun e w' => e = .returned unitV ∧ Keep (fun b => Q b ∨ b = C) w w' ∧ G w' ∧ Blk w' C 173 #[x, .int .i64 (k + 1)] := by
  have d0 := hd.cell 0 _ rfl
  have HF := Lib.hid hF
  have HG := Lib.hid hG
  clear hF hG
  go_enter Tryz.func165, Tryz.ntmps165
  go_wp2_with fail
  refine HF.out.mono ?_
  rintro e w2 ⟨rfl, hk, hg⟩
  have c2 := hc.keep hk hQc
  have C2 := hC.keep hk hQC
  have d1 := c2.cell 0 _ rfl
  have d2 := C2.cell 1 _ rfl
  have d3 := C2.free 1
  clear d0
  go_wp2_with (go_at_call 166; (with_reducible refine (aAdd_any C k _ d2 d3).mono ?_); rintro e w3 ⟨rfl, rfl⟩)
  have hw : wrap64 (k + 1) = k + 1 := IntWalk.wrap64_in _ ⟨by omega, by omega⟩
  go_end0
  refine ⟨rfl, (hk.mono fun _ _ h => .inl h).set (fun _ => .inr rfl) _, HG.out _ _ hg, ?_⟩
  have := C2.set 1 (.int .i64 (wrap64 (k + 1)))
  rw [hw] at this
  rw [hw]
  exact this
theorem operate_yes (C S : Nat) (l : List Int) (k : Int) (i : Nat) (F : Nat) (caps : Array Value) (w : World) (Q : Nat → Prop) (G : World → Prop)
    (hC : CellsAt w C S l k) (hi : i < l.length) (h0 : 0 ≤ k) (h1 : k < 9223372036854775807)
    (hcall : ∀ (W : World) (args : Array Value), (callFunc F args).run Tryz.prog W = .ok (.enter F args) W)
    (hF : ∀ w1, Below w.heap.size w w1 → Calls Tryz.prog F caps w1 fun e w2 => e = .returned unitV ∧ Keep Q w1 w2 ∧ G w2)
    (hQ : ∀ b, Q b → b < w.heap.size ∧ b ≠ C) (hG : ∀ w2 v, G w2 → G (w2.setCell ⟨C, 1, none⟩ v)) :
    Calls Tryz.prog 93 #[cellsV C, .int .i64 i, doV F caps] w fun e w' => e = .returned (.bool true) ∧ Keep (fun b => Q b ∨ b = C) w w' ∧ G w' ∧ Blk w' C 173 #[.iface 186 (rowV S l.length), .int .i64 (k + 1)] := by
  have hm := hC.few
  have HF := Lib.hid hF
  have HG := Lib.hid hG
  have HQ := Lib.hid hQ
  have HL := Lib.hid hcall
  clear hF hG hQ hcall
  have hmf : ∀ (fn : Fn) (first cap : Array Value) (w : World), (Instr.makeFunc fn first cap).run Tryz.prog w = .ok (.func fn first cap) w := fun _ _ _ _ => rfl
  go_enter Tryz.func93, Tryz.ntmps93
  go_upto_region 1 with fail
  generalize hW : (w.alloc _).alloc _ = W
  have bW : Below w.heap.size w W := by rw [← hW]; go_grown
  have sW : W.heap.size = w.heap.size + 2 := by rw [← hW]; simp
  have cW : Blk W w.heap.size 36 #[cellsV C] := by rw [← hW]; exact (Blk.new w _ _).alloc _
  have dW : Blk W (w.heap.size + 1) 1 #[doV F caps] := by rw [← hW]; exact blk_two w _ _ _
  have CW : CellsAt W C S l k := hC.keep (Keep.ofBelow (Q := fun _ => False) bW) (fun h => h) (fun h => h)
  clear hW
  have e0 := cW.cell 0 _ rfl
  have HlenW := Lib.hid (len_any C S l k W CW)
  generalize hn : l.length = n at *
  go_upto_region 3 with (go_at_call 107; refine HlenW.out.mono ?_; rintro e w1 ⟨rfl, hb⟩)
  have b1 : Below w.heap.size w w1 := bW.trans (hb.mono bW.size)
  have c1 := cW.below hb cW.lt
  have d1 := dW.below hb dW.lt
  have C1 := CW.keep (Keep.ofBelow (Q := fun _ => False) hb) (fun h => h) (fun h => h)
  have hle := C1.own.lt
  have hC0 := hC.own.lt
  clear e0
  have HA := Lib.hid (attempt_any 165 _ w1 _ call_opC (opC_any (w.heap.size + 1) w.heap.size C _ k F caps w1 Q G d1 c1 C1.own h0 h1 HL.out (HF.out w1 b1) (fun h => by have := (HQ.out _ h).1; omega) (fun h => (HQ.out _ h).2 rfl) HG.out))
  rw [hn] at HA
  go_wp2_with (refine HA.out.mono ?_; rintro e w2 ⟨rfl, hk, hg, hB⟩)
  go_ret
  refine ⟨rfl, ?_, hg, by rw [hn]; exact hB⟩
  exact (Keep.ofBelow b1).trans (hk.mono fun _ _ h => h)
theorem operate_no (C S : Nat) (l : List Int) (k i : Int) (F : Nat) (caps : Array Value) (w : World)
    (hC : CellsAt w C S l k) (hi : i < 0 ∨ l.length ≤ i) :
    Calls Tryz.prog 93 #[cellsV C, .int .i64 i, doV F caps] w fun e w' => e = .returned (.bool false) ∧ Below w.heap.size w w' := by
  have hm := hC.few
  rcases hi with hi | hi
  · go_enter Tryz.func93, Tryz.ntmps93
    go_wp2_with fail
    go_ret
    exact ⟨rfl, by go_grown⟩
  have hi0 : 0 ≤ i := by omega
  go_enter Tryz.func93, Tryz.ntmps93
  go_upto_region 1 with fail
  generalize hW : (w.alloc _).alloc _ = W
  have bW : Below w.heap.size w W := by rw [← hW]; go_grown
  have cW : Blk W w.heap.size 36 #[cellsV C] := by rw [← hW]; exact (Blk.new w _ _).alloc _
  have CW : CellsAt W C S l k := hC.keep (Keep.ofBelow (Q := fun _ => False) bW) (fun h => h) (fun h => h)
  clear hW
  have e0 := cW.cell 0 _ rfl
  have HlenW := Lib.hid (len_any C S l k W CW)
  generalize hn : l.length = n at *
  go_wp2_with (go_at_call 107; refine HlenW.out.mono ?_; rintro e w1 ⟨rfl, hb⟩)
  go_ret
  exact ⟨rfl, bW.trans (hb.mono bW.size)⟩
theorem operate_nil (i : Int) (F : Nat) (caps : Array Value) (w : World) :
    Calls Tryz.prog 93 #[.pointer none, .int .i64 i, doV F caps] w fun e w' => e = .returned (.bool false) ∧ Below w.heap.size w w' := by
  by_cases hi : i < 0
  · go_enter Tryz.func93, Tryz.ntmps93
    go_wp2_with fail
    go_ret
    exact ⟨rfl, by go_grown⟩
  have hi0 : 0 ≤ i := by omega
  go_enter Tryz.func93, Tryz.ntmps93
  go_upto_region 1 with fail
  generalize hW : (w.alloc _).alloc _ = W
  have bW : Below w.heap.size w W := by rw [← hW]; go_grown
  have cW : Blk W w.heap.size 36 #[.pointer none] := by rw [← hW]; exact (Blk.new w _ _).alloc _
  clear hW
  have e0 := cW.cell 0 _ rfl
  go_wp2_with (go_at_call 107; refine (len_nil W).mono ?_; rintro e w1 ⟨rfl, hb⟩)
  go_ret
  exact ⟨rfl, bW.trans (hb.mono bW.size)⟩
/- the operations' own work -/
theorem call_loadC : ∀ (W : World) (args : Array Value), (callFunc 296 args).run Tryz.prog W = .ok (.enter 296 args) W := by
  intro W args
  go_simp
theorem loadC_any (bc bi v C S : Nat) (l : List Int) (k x : Int) (i : Nat) (y : Value) (w : World) (hc : Blk w bc 36 #[cellsV C]) (hi : Blk w bi 3 #[.int .i64 i]) (hv : Blk w v 55 #[y])
    (hC : CellsAt w C S l k) (hx : l[i]? = some x) :
    Calls Tryz.prog 296 #[.pointer (some ⟨bc, 0, none⟩), .pointer (some ⟨bi, 0, none⟩), .pointer (some ⟨v, 0, none⟩)] w fun e w2 => e = .returned unitV ∧ Keep (fun b => b = v) w w2 ∧ Blk w2 v 55 #[.int .u64 x] := by
  have hm := hC.few
  have c0 := hc.cell 0 _ rfl
  have i0 := hi.cell 0 _ rfl
  have C0 := hC.own.cell 0 _ rfl
  have HP := Lib.hid (pLoad_any S l i x w.drew hC.row.drew hx (by omega))
  have kW : Keep (fun b => b = v) w w.drew := (Keep.refl _ _).drew
  have vW : Blk w.drew v 55 #[y] := hv.drew
  clear hx
  generalize l.length = n at *
  go_enter Tryz.func296, Tryz.ntmps296
  go_still_tail 5, (by kernel_rfl)
  change wpList _ _ _ _ _ w.drew
  generalize w.drew = W at *
  clear c0 i0 C0
  have v0 := vW.cell 0 _ rfl
  have v1 := vW.free 0
  go_wp2_with (go_at_call 325; (with_reducible refine HP.out.mono ?_); rintro e w1 ⟨rfl, rfl⟩)
  go_end0
  exact ⟨rfl, kW.set (fun _ => rfl) _, vW.set 0 _⟩
theorem call_storeC : ∀ (W : World) (args : Array Value), (callFunc 94 args).run Tryz.prog W = .ok (.enter 94 args) W := by
  intro W args
  go_simp
theorem storeC_any (bc bi bv C S : Nat) (l : List Int) (k x u : Int) (i : Nat) (w : World) (hc : Blk w bc 36 #[cellsV C]) (hi : Blk w bi 3 #[.int .i64 i]) (hv : Blk w bv 55 #[.int .u64 u])
    (hC : CellsAt w C S l k) (hx : l[i]? = some x) :
    Calls Tryz.prog 94 #[.pointer (some ⟨bc, 0, none⟩), .pointer (some ⟨bi, 0, none⟩), .pointer (some ⟨bv, 0, none⟩)] w fun e w2 => e = .returned unitV ∧ Keep (fun b => b = S) w w2 ∧ Blk w2 S 304 (words (l.set i u)) := by
  have hm := hC.few
  have c0 := hc.cell 0 _ rfl
  have i0 := hi.cell 0 _ rfl
  have v0 := hv.cell 0 _ rfl
  have C0 := hC.own.cell 0 _ rfl
  have HP := Lib.hid (pStore_any S l i x u w.drew hC.row.drew hx (by omega))
  have kW : Keep (fun b => b = S) w w.drew := (Keep.refl _ _).drew
  have vW : Blk w.drew S 304 (words l) := hC.row.drew
  have HL := Lib.hid (words_set l i u)
  clear hx
  generalize l.length = n at *
  go_enter Tryz.func94, Tryz.ntmps94
  go_still_tail 6, (by kernel_rfl)
  change wpList _ _ _ _ _ w.drew
  generalize w.drew = W at *
  clear c0 i0 C0 v0
  go_wp2_with (go_at_call 326; (with_reducible refine HP.out.mono ?_); rintro e w1 ⟨rfl, rfl⟩)
  go_end0
  exact ⟨rfl, kW.set (fun _ => rfl) _, HL.out ▸ vW.set i _⟩
theorem call_swapC : ∀ (W : World) (args : Array Value), (callFunc 298 args).run Tryz.prog W = .ok (.enter 298 args) W := by
  intro W args
  go_simp
theorem swapC_yes (bc bi bo bu v C S : Nat) (l : List Int) (k x u : Int) (i : Nat) (y : Value) (w : World) (hc : Blk w bc 36 #[cellsV C]) (hi : Blk w bi 3 #[.int .i64 i]) (ho : Blk w bo 55 #[.int .u64 x])
    (hu : Blk w bu 55 #[.int .u64 u]) (hv : Blk w v 4 #[y]) (hC : CellsAt w C S l k) (hx : l[i]? = some x) (hne : v ≠ S) :
    Calls Tryz.prog 298 #[.pointer (some ⟨bc, 0, none⟩), .pointer (some ⟨bi, 0, none⟩), .pointer (some ⟨bo, 0, none⟩), .pointer (some ⟨bu, 0, none⟩), .pointer (some ⟨v, 0, none⟩)] w
      fun e w2 => e = .returned unitV ∧ Keep (fun b => b = S ∨ b = v) w w2 ∧ (Blk w2 S 304 (words (l.set i u)) ∧ Blk w2 v 4 #[.bool true]) := by
  have hm := hC.few
  have c0 := hc.cell 0 _ rfl
  have i0 := hi.cell 0 _ rfl
  have o0 := ho.cell 0 _ rfl
  have u0 := hu.cell 0 _ rfl
  have C0 := hC.own.cell 0 _ rfl
  have HP := Lib.hid (pSwap_yes S l i x u w.drew hC.row.drew hx (by omega))
  have kW : Keep (fun b => b = S ∨ b = v) w w.drew := (Keep.refl _ _).drew
  have rW : Blk w.drew S 304 (words l) := hC.row.drew
  have vW : Blk w.drew v 4 #[y] := hv.drew
  have HL := Lib.hid (words_set l i u)
  clear hx
  generalize l.length = n at *
  go_enter Tryz.func298, Tryz.ntmps298
  go_still_tail 7, (by kernel_rfl)
  change wpList _ _ _ _ _ w.drew
  generalize w.drew = W at *
  clear c0 i0 C0 o0 u0
  have v2 := vW.far hne i (.int .u64 u)
  have v0 := v2.cell 0 _ rfl
  have v1 := v2.free 0
  go_wp2_with (go_at_call 327; (with_reducible refine HP.out.mono ?_); rintro e w1 ⟨rfl, rfl⟩)
  go_end0
  exact ⟨rfl, (kW.set (fun _ => .inl rfl) _).set (fun _ => .inr rfl) _, HL.out ▸ (rW.set i _).far (Ne.symm hne) _ _, v2.set 0 _⟩
theorem swapC_no (bc bi bo bu v C S : Nat) (l : List Int) (k x o u : Int) (i : Nat) (y : Value) (w : World) (hc : Blk w bc 36 #[cellsV C]) (hi : Blk w bi 3 #[.int .i64 i]) (ho : Blk w bo 55 #[.int .u64 o])
    (hu : Blk w bu 55 #[.int .u64 u]) (hv : Blk w v 4 #[y]) (hC : CellsAt w C S l k) (hx : l[i]? = some x) (hne : (x != o) = true) :
    Calls Tryz.prog 298 #[.pointer (some ⟨bc, 0, none⟩), .pointer (some ⟨bi, 0, none⟩), .pointer (some ⟨bo, 0, none⟩), .pointer (some ⟨bu, 0, none⟩), .pointer (some ⟨v, 0, none⟩)] w
      fun e w2 => e = .returned unitV ∧ Keep (fun b => b = v) w w2 ∧ Blk w2 v 4 #[.bool false] := by
  have hm := hC.few
  have c0 := hc.cell 0 _ rfl
  have i0 := hi.cell 0 _ rfl
  have o0 := ho.cell 0 _ rfl
  have u0 := hu.cell 0 _ rfl
  have C0 := hC.own.cell 0 _ rfl
  have HP := Lib.hid (pSwap_no S l i x o u w.drew hC.row.drew hx (by omega) hne)
  have kW : Keep (fun b => b = v) w w.drew := (Keep.refl _ _).drew
  have vW : Blk w.drew v 4 #[y] := hv.drew
  clear hx hne
  generalize l.length = n at *
  go_enter Tryz.func298, Tryz.ntmps298
  go_still_tail 7, (by kernel_rfl)
  change wpList _ _ _ _ _ w.drew
  generalize w.drew = W at *
  clear c0 i0 C0 o0 u0
  have v0 := vW.cell 0 _ rfl
  have v1 := vW.free 0
  go_wp2_with (go_at_call 327; (with_reducible refine HP.out.mono ?_); rintro e w1 ⟨rfl, rfl⟩)
  go_end0
  exact ⟨rfl, kW.set (fun _ => rfl) _, vW.set 0 _⟩
end Go.Proofs.YtmknnjjmmfbppaaGreat.Re
