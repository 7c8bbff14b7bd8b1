/- Contracts of package cells: the operations. -/
import Derived.Test.YtmknnjjmmfbppaaGreatMgBegAB
import Derived.Deep.CutBlock
import Derived.LoopTactic
import Derived.StillTailTactics
namespace Go.Proofs.YtmknnjjmmfbppaaGreat
open Go.ChangeShapes Go.WideShapes Go.ChangeAt Go.RowKit
set_option linter.unusedVariables false
set_option maxRecDepth 100000
set_option linter.unusedSimpArgs false
theorem call_opC : ∀ (W : World) (args : Array Value), (callFunc 165 args).run Tryz.prog W = .ok (.enter 165 args) W := by
  intro W args
  go_simp
abbrev unitV : Value := .tuple #[]
abbrev doV (F : Nat) (caps : Array Value) : Value := .func (.func F) #[] caps
theorem opC_any (bd bc C : Nat) (x : Value) (k : Int) (F : Nat) (caps : Array Value) (w : World) (Q : Nat → Prop) (G : World → Prop)
    (hd : Blk w bd 1 #[doV F caps]) (hc : Blk w bc 36 #[cellsV C]) (hC : Blk w C 173 #[x, .int .i64 k]) (h0 : 0 ≤ k) (h1 : k < 9223372036854775807)
    (hcall : ∀ (W : World) (args : Array Value), (callFunc F args).run Tryz.prog W = .ok (.enter F args) W)
    (hF : Calls Tryz.prog F caps w fun e w2 => e = .returned unitV ∧ Keep Q w w2 ∧ G w2) (hQc : ¬ Q bc) (hQC : ¬ Q C) (hG : ∀ w2 v, G w2 → G (w2.setCell ⟨C, 1, none⟩ v)) :
    Calls Tryz.prog 165 #[.pointer (some ⟨bd, 0, none⟩), .pointer (some ⟨bc, 0, none⟩)] w fun e w' => e = .returned unitV ∧ Keep (fun b => Q b ∨ b = C) w w' ∧ G w' ∧ Blk w' C 173 #[x, .int .i64 (k + 1)] := by
  have d0 := hd.cell 0 _ rfl
  have HF := Lib.hid hF
  have HG := Lib.hid hG
  clear hF hG
  go_enter Tryz.func165, Tryz.ntmps165
  go_wp2_with fail
  refine HF.out.mono ?_
  rintro e w2 ⟨rfl, hk, hg⟩
  have c2 := hc.keep hk hQc
  have C2 := hC.keep hk hQC
  have d1 := c2.cell 0 _ rfl
  have d2 := C2.cell 1 _ rfl
  have d3 := C2.free 1
  clear d0
  go_wp2_with (go_at_call 166; (with_reducible refine (aAdd_any C k _ d2 d3).mono ?_); rintro e w3 ⟨rfl, rfl⟩)
  have hw : wrap64 (k + 1) = k + 1 := IntWalk.wrap64_in _ ⟨by omega, by omega⟩
  go_end0
  refine ⟨rfl, (hk.mono fun _ _ h => .inl h).set (fun _ => .inr rfl) _, HG.out _ _ hg, ?_⟩
  have := C2.set 1 (.int .i64 (wrap64 (k + 1)))
  rw [hw] at this
  rw [hw]
  exact this
theorem operate_yes (C S : Nat) (l : List Int) (k : Int) (i : Nat) (F : Nat) (caps : Array Value) (w : World) (Q : Nat → Prop) (G : World → Prop)
    (hC : CellsAt w C S l k) (hi : i < l.length) (h0 : 0 ≤ k) (h1 : k < 9223372036854775807)
    (hcall : ∀ (W : World) (args : Array Value), (callFunc F args).run Tryz.prog W = .ok (.enter F args) W)
    (hF : ∀ w1, Below w.heap.size w w1 → Calls Tryz.prog F caps w1 fun e w2 => e = .returned unitV ∧ Keep Q w1 w2 ∧ G w2)
    (hQ : ∀ b, Q b → b < w.heap.size ∧ b ≠ C) (hG : ∀ w2 v, G w2 → G (w2.setCell ⟨C, 1, none⟩ v)) :
    Calls Tryz.prog 93 #[cellsV C, .int .i64 i, doV F caps] w fun e w' => e = .returned (.bool true) ∧ Keep (fun b => Q b ∨ b = C) w w' ∧ G w' ∧ Blk w' C 173 #[.iface 184 (rowV S l.length), .int .i64 (k + 1)] := by
  have hm := hC.few
  have HF := Lib.hid hF
  have HG := Lib.hid hG
  have HQ := Lib.hid hQ
  have HL := Lib.hid hcall
  clear hF hG hQ hcall
  have hmf : ∀ (fn : Fn) (first cap : Array Value) (w : World), (Instr.makeFunc fn first cap).run Tryz.prog w = .ok (.func fn first cap) w := fun _ _ _ _ => rfl
  go_enter Tryz.func93, Tryz.ntmps93
  go_upto_region 1 with fail
  generalize hW : (w.alloc _).alloc _ = W
  have bW : Below w.heap.size w W := by rw [← hW]; go_grown
  have sW : W.heap.size = w.heap.size + 2 := by rw [← hW]; simp
  have cW : Blk W w.heap.size 36 #[cellsV C] := by rw [← hW]; exact (Blk.new w _ _).alloc _
  have dW : Blk W (w.heap.size + 1) 1 #[doV F caps] := by rw [← hW]; exact blk_two w _ _ _
  have CW : CellsAt W C S l k := hC.keep (Keep.ofBelow (Q := fun _ => False) bW) (fun h => h) (fun h => h)
  clear hW
  have e0 := cW.cell 0 _ rfl
  have HlenW := Lib.hid (len_any C S l k W CW)
  generalize hn : l.length = n at *
  go_upto_region 3 with (go_at_call 107; refine HlenW.out.mono ?_; rintro e w1 ⟨rfl, hb⟩)
  have b1 : Below w.heap.size w w1 := bW.trans (hb.mono bW.size)
  have c1 := cW.below hb cW.lt
  have d1 := dW.below hb dW.lt
  have C1 := CW.keep (Keep.ofBelow (Q := fun _ => False) hb) (fun h => h) (fun h => h)
  have hle := C1.own.lt
  have hC0 := hC.own.lt
  clear e0
  have HA := Lib.hid (attempt_any 165 _ w1 _ call_opC (opC_any (w.heap.size + 1) w.heap.size C _ k F caps w1 Q G d1 c1 C1.own h0 h1 HL.out (HF.out w1 b1) (fun h => by have := (HQ.out _ h).1; omega) (fun h => (HQ.out _ h).2 rfl) HG.out))
  rw [hn] at HA
  go_wp2_with (refine HA.out.mono ?_; rintro e w2 ⟨rfl, hk, hg, hB⟩)
  go_ret
  refine ⟨rfl, ?_, hg, by rw [hn]; exact hB⟩
  exact (Keep.ofBelow b1).trans (hk.mono fun _ _ h => h)
theorem operate_no (C S : Nat) (l : List Int) (k i : Int) (F : Nat) (caps : Array Value) (w : World)
    (hC : CellsAt w C S l k) (hi : i < 0 ∨ l.length ≤ i) :
    Calls Tryz.prog 93 #[cellsV C, .int .i64 i, doV F caps] w fun e w' => e = .returned (.bool false) ∧ Below w.heap.size w w' := by
  have hm := hC.few
  rcases hi with hi | hi
  · go_enter Tryz.func93, Tryz.ntmps93
    go_wp2_with fail
    go_ret
    exact ⟨rfl, by go_grown⟩
  have hi0 : 0 ≤ i := by omega
  go_enter Tryz.func93, Tryz.ntmps93
  go_upto_region 1 with fail
  generalize hW : (w.alloc _).alloc _ = W
  have bW : Below w.heap.size w W := by rw [← hW]; go_grown
  have cW : Blk W w.heap.size 36 #[cellsV C] := by rw [← hW]; exact (Blk.new w _ _).alloc _
  have CW : CellsAt W C S l k := hC.keep (Keep.ofBelow (Q := fun _ => False) bW) (fun h => h) (fun h => h)
  clear hW
  have e0 := cW.cell 0 _ rfl
  have HlenW := Lib.hid (len_any C S l k W CW)
  generalize hn : l.length = n at *
  go_wp2_with (go_at_call 107; refine HlenW.out.mono ?_; rintro e w1 ⟨rfl, hb⟩)
  go_ret
  exact ⟨rfl, bW.trans (hb.mono bW.size)⟩
theorem operate_nil (i : Int) (F : Nat) (caps : Array Value) (w : World) :
    Calls Tryz.prog 93 #[.pointer none, .int .i64 i, doV F caps] w fun e w' => e = .returned (.bool false) ∧ Below w.heap.size w w' := by
  by_cases hi : i < 0
  · go_enter Tryz.func93, Tryz.ntmps93
    go_wp2_with fail
    go_ret
    exact ⟨rfl, by go_grown⟩
  have hi0 : 0 ≤ i := by omega
  go_enter Tryz.func93, Tryz.ntmps93
  go_upto_region 1 with fail
  generalize hW : (w.alloc _).alloc _ = W
  have bW : Below w.heap.size w W := by rw [← hW]; go_grown
  have cW : Blk W w.heap.size 36 #[.pointer none] := by rw [← hW]; exact (Blk.new w _ _).alloc _
  clear hW
  have e0 := cW.cell 0 _ rfl
  go_wp2_with (go_at_call 107; refine (len_nil W).mono ?_; rintro e w1 ⟨rfl, hb⟩)
  go_ret
  exact ⟨rfl, bW.trans (hb.mono bW.size)⟩
/- the operations' own work -/
theorem call_loadC : ∀ (W : World) (args : Array Value), (callFunc 296 args).run Tryz.prog W = .ok (.enter 296 args) W := by
  intro W args
  go_simp
theorem loadC_any (bc bi v C S : Nat) (l : List Int) (k x : Int) (i : Nat) (y : Value) (w : World) (hc : Blk w bc 36 #[cellsV C]) (hi : Blk w bi 3 #[.int .i64 i]) (hv : Blk w v 55 #[y])
    (hC : CellsAt w C S l k) (hx : l[i]? = some x) :
    Calls Tryz.prog 296 #[.pointer (some ⟨bc, 0, none⟩), .pointer (some ⟨bi, 0, none⟩), .pointer (some ⟨v, 0, none⟩)] w fun e w2 => e = .returned unitV ∧ Keep (fun b => b = v) w w2 ∧ Blk w2 v 55 #[.int .u64 x] := by
  have hm := hC.few
  have c0 := hc.cell 0 _ rfl
  have i0 := hi.cell 0 _ rfl
  have C0 := hC.own.cell 0 _ rfl
  have HP := Lib.hid (pLoad_any S l i x w.drew hC.row.drew hx (by omega))
  have kW : Keep (fun b => b = v) w w.drew := (Keep.refl _ _).drew
  have vW : Blk w.drew v 55 #[y] := hv.drew
  clear hx
  generalize l.length = n at *
  go_enter Tryz.func296, Tryz.ntmps296
  go_still_tail 5, (by kernel_rfl)
  change wpList _ _ _ _ _ w.drew
  generalize w.drew = W at *
  clear c0 i0 C0
  have v0 := vW.cell 0 _ rfl
  have v1 := vW.free 0
  go_wp2_with (go_at_call 320; (with_reducible refine HP.out.mono ?_); rintro e w1 ⟨rfl, rfl⟩)
  go_end0
  exact ⟨rfl, kW.set (fun _ => rfl) _, vW.set 0 _⟩
theorem call_storeC : ∀ (W : World) (args : Array Value), (callFunc 94 args).run Tryz.prog W = .ok (.enter 94 args) W := by
  intro W args
  go_simp
theorem storeC_any (bc bi bv C S : Nat) (l : List Int) (k x u : Int) (i : Nat) (w : World) (hc : Blk w bc 36 #[cellsV C]) (hi : Blk w bi 3 #[.int .i64 i]) (hv : Blk w bv 55 #[.int .u64 u])
    (hC : CellsAt w C S l k) (hx : l[i]? = some x) :
    Calls Tryz.prog 94 #[.pointer (some ⟨bc, 0, none⟩), .pointer (some ⟨bi, 0, none⟩), .pointer (some ⟨bv, 0, none⟩)] w fun e w2 => e = .returned unitV ∧ Keep (fun b => b = S) w w2 ∧ Blk w2 S 55 (words (l.set i u)) := by
  have hm := hC.few
  have c0 := hc.cell 0 _ rfl
  have i0 := hi.cell 0 _ rfl
  have v0 := hv.cell 0 _ rfl
  have C0 := hC.own.cell 0 _ rfl
  have HP := Lib.hid (pStore_any S l i x u w.drew hC.row.drew hx (by omega))
  have kW : Keep (fun b => b = S) w w.drew := (Keep.refl _ _).drew
  have vW : Blk w.drew S 55 (words l) := hC.row.drew
  have HL := Lib.hid (words_set l i u)
  clear hx
  generalize l.length = n at *
  go_enter Tryz.func94, Tryz.ntmps94
  go_still_tail 6, (by kernel_rfl)
  change wpList _ _ _ _ _ w.drew
  generalize w.drew = W at *
  clear c0 i0 C0 v0
  go_wp2_with (go_at_call 321; (with_reducible refine HP.out.mono ?_); rintro e w1 ⟨rfl, rfl⟩)
  go_end0
  exact ⟨rfl, kW.set (fun _ => rfl) _, HL.out ▸ vW.set i _⟩
theorem call_swapC : ∀ (W : World) (args : Array Value), (callFunc 298 args).run Tryz.prog W = .ok (.enter 298 args) W := by
  intro W args
  go_simp
theorem swapC_yes (bc bi bo bu v C S : Nat) (l : List Int) (k x u : Int) (i : Nat) (y : Value) (w : World) (hc : Blk w bc 36 #[cellsV C]) (hi : Blk w bi 3 #[.int .i64 i]) (ho : Blk w bo 55 #[.int .u64 x])
    (hu : Blk w bu 55 #[.int .u64 u]) (hv : Blk w v 4 #[y]) (hC : CellsAt w C S l k) (hx : l[i]? = some x) (hne : v ≠ S) :
    Calls Tryz.prog 298 #[.pointer (some ⟨bc, 0, none⟩), .pointer (some ⟨bi, 0, none⟩), .pointer (some ⟨bo, 0, none⟩), .pointer (some ⟨bu, 0, none⟩), .pointer (some ⟨v, 0, none⟩)] w
      fun e w2 => e = .returned unitV ∧ Keep (fun b => b = S ∨ b = v) w w2 ∧ (Blk w2 S 55 (words (l.set i u)) ∧ Blk w2 v 4 #[.bool true]) := by
  have hm := hC.few
  have c0 := hc.cell 0 _ rfl
  have i0 := hi.cell 0 _ rfl
  have o0 := ho.cell 0 _ rfl
  have u0 := hu.cell 0 _ rfl
  have C0 := hC.own.cell 0 _ rfl
  have HP := Lib.hid (pSwap_yes S l i x u w.drew hC.row.drew hx (by omega))
  have kW : Keep (fun b => b = S ∨ b = v) w w.drew := (Keep.refl _ _).drew
  have rW : Blk w.drew S 55 (words l) := hC.row.drew
  have vW : Blk w.drew v 4 #[y] := hv.drew
  have HL := Lib.hid (words_set l i u)
  clear hx
  generalize l.length = n at *
  go_enter Tryz.func298, Tryz.ntmps298
  go_still_tail 7, (by kernel_rfl)
  change wpList _ _ _ _ _ w.drew
  generalize w.drew = W at *
  clear c0 i0 C0 o0 u0
  have v2 := vW.far hne i (.int .u64 u)
  have v0 := v2.cell 0 _ rfl
  have v1 := v2.free 0
  go_wp2_with (go_at_call 322; (with_reducible refine HP.out.mono ?_); rintro e w1 ⟨rfl, rfl⟩)
  go_end0
  exact ⟨rfl, (kW.set (fun _ => .inl rfl) _).set (fun _ => .inr rfl) _, HL.out ▸ (rW.set i _).far (Ne.symm hne) _ _, v2.set 0 _⟩
theorem swapC_no (bc bi bo bu v C S : Nat) (l : List Int) (k x o u : Int) (i : Nat) (y : Value) (w : World) (hc : Blk w bc 36 #[cellsV C]) (hi : Blk w bi 3 #[.int .i64 i]) (ho : Blk w bo 55 #[.int .u64 o])
    (hu : Blk w bu 55 #[.int .u64 u]) (hv : Blk w v 4 #[y]) (hC : CellsAt w C S l k) (hx : l[i]? = some x) (hne : (x != o) = true) :
    Calls Tryz.prog 298 #[.pointer (some ⟨bc, 0, none⟩), .pointer (some ⟨bi, 0, none⟩), .pointer (some ⟨bo, 0, none⟩), .pointer (some ⟨bu, 0, none⟩), .pointer (some ⟨v, 0, none⟩)] w
      fun e w2 => e = .returned unitV ∧ Keep (fun b => b = v) w w2 ∧ Blk w2 v 4 #[.bool false] := by
  have hm := hC.few
  have c0 := hc.cell 0 _ rfl
  have i0 := hi.cell 0 _ rfl
  have o0 := ho.cell 0 _ rfl
  have u0 := hu.cell 0 _ rfl
  have C0 := hC.own.cell 0 _ rfl
  have HP := Lib.hid (pSwap_no S l i x o u w.drew hC.row.drew hx (by omega) hne)
  have kW : Keep (fun b => b = v) w w.drew := (Keep.refl _ _).drew
  have vW : Blk w.drew v 4 #[y] := hv.drew
  clear hx hne
  generalize l.length = n at *
  go_enter Tryz.func298, Tryz.ntmps298
  go_still_tail 7, (by kernel_rfl)
  change wpList _ _ _ _ _ w.drew
  generalize w.drew = W at *
  clear c0 i0 C0 o0 u0
  have v0 := vW.cell 0 _ rfl
  have v1 := vW.free 0
  go_wp2_with (go_at_call 322; (with_reducible refine HP.out.mono ?_); rintro e w1 ⟨rfl, rfl⟩)
  go_end0
  exact ⟨rfl, kW.set (fun _ => rfl) _, vW.set 0 _⟩
end Go.Proofs.YtmknnjjmmfbppaaGreat
/- Contracts of package cells: Load, Store, Swap, Add, as callers see them. -/
namespace Go.Proofs.YtmknnjjmmfbppaaGreat
open Go.ChangeShapes Go.WideShapes Go.ChangeAt Go.RowKit
set_option linter.unusedVariables false
set_option maxRecDepth 100000
set_option linter.unusedSimpArgs false
abbrev ofCells (C S : Nat) : Nat → Prop := fun b => b = C ∨ b = S
theorem CellsAt.step {w w' : World} {C S : Nat} {l l' : List Int} {k k' : Int} (h : CellsAt w C S l k) (hl : l'.length = l.length) (h1 : Blk w' C 173 #[.iface 184 (rowV S l.length), .int .i64 k'])
    (h2 : Blk w' S 55 (words l')) : CellsAt w' C S l' k' := ⟨by rw [hl]; exact h1, h2, h.ne, by rw [hl]; exact h.few⟩
theorem load_yes (C S : Nat) (l : List Int) (k : Int) (i : Nat) (x : Int) (w : World) (hC : CellsAt w C S l k) (hx : l[i]? = some x) (h0 : 0 ≤ k) (h1 : k < 9223372036854775807) :
    Calls Tryz.prog 283 #[cellsV C, .int .i64 i] w fun e w' => e = .returned (.int .u64 x) ∧ CellsAt w' C S (l) (k + 1) ∧ Keep (ofCells C S) w w' := by
  have hlt : i < l.length := by rw [List.getElem?_eq_some_iff] at hx; exact hx.1
  have hCl := hC.own.lt
  have hSl := hC.row.lt
  have hmf : ∀ (fn : Fn) (first cap : Array Value) (w : World), (Instr.makeFunc fn first cap).run Tryz.prog w = .ok (.func fn first cap) w := fun _ _ _ _ => rfl
  have HH : Hid True := Lib.hid trivial
  have HX := Lib.hid hx
  clear hx
  go_enter Tryz.func283, Tryz.ntmps283
  go_upto_region 1 with fail
  generalize hW : ((w.alloc _).alloc _).alloc _ = W
  have bW : Below w.heap.size w W := by rw [← hW]; go_grown
  have sW : W.heap.size = w.heap.size + 3 := by rw [← hW]; simp
  have q0 : Blk W w.heap.size 36 #[cellsV C] := by rw [← hW]; have h := Blk.new w 36 #[cellsV C]; (try simp only [World.size_alloc] at h); exact ((h.alloc _).alloc _)
  have q1 : Blk W (w.heap.size + 1) 3 #[.int .i64 i] := by rw [← hW]; have h := Blk.new (w.alloc (.cells #[cellsV C] 36)) 3 #[.int .i64 i]; (try simp only [World.size_alloc] at h); exact (h.alloc _)
  have q2 : Blk W (w.heap.size + 2) 55 #[.int .u64 0] := by rw [← hW]; have h := Blk.new ((w.alloc (.cells #[cellsV C] 36)).alloc (.cells #[.int .i64 i] 3)) 55 #[.int .u64 0]; (try simp only [World.size_alloc] at h); exact h
  have CW : CellsAt W C S l k := hC.keep (Keep.ofBelow (Q := fun _ => False) bW) (fun h => h) (fun h => h)
  clear hW
  have HO := Lib.hid (operate_yes C S l k i 296 #[.pointer (some ⟨w.heap.size, 0, none⟩), .pointer (some ⟨w.heap.size + 1, 0, none⟩), .pointer (some ⟨w.heap.size + 2, 0, none⟩)] W (fun b => b = w.heap.size + 2) (fun w2 => Blk w2 (w.heap.size + 2) 55 #[.int .u64 x]) CW hlt h0 h1 call_loadC (fun w1 hb => loadC_any _ _ _ C S l k x i _ w1 (q0.below hb q0.lt) (q1.below hb q1.lt) (q2.below hb q2.lt) (CW.keep (Keep.ofBelow (Q := fun _ => False) hb) (fun h => h) (fun h => h)) HX.out) (fun b h => by have h2 := h; subst h2; (have := hC.ne; omega)) (fun w2 v h => h.far (by omega) _ _))
  have e0 := q0.cell 0 _ rfl
  have e1 := q1.cell 0 _ rfl
  go_wp2_with (go_at_call 93; refine HO.out.mono ?_; rintro e w1 ⟨rfl, hk, hg, hB⟩; have v0 := Blk.cell hg 0 _ rfl; have v1 := Blk.free hg 0; clear e0 e1)
  have hrow : Blk w1 S 55 (words l) := CW.row.keep hk (fun h => by have := hC.ne; rcases h with h | h <;> simp_all <;> omega)
  have hK : Keep (ofCells C S) w w1 := (Keep.ofBelow bW).step hk (fun b hb h => by simp only [ofCells]; omega)
  refine bodyPost_ret (v := .int .u64 x) (by simp [results, Tryz.results283, go_sem, v0]) rfl ⟨rfl, ?_, hK.set (fun h => by simp at h; omega) _⟩
  exact hC.step (by simp) (hB.far (by omega) _ _) (Blk.far hrow (by omega) _ _)
theorem load_no (C S : Nat) (l : List Int) (k i : Int) (w : World) (hC : CellsAt w C S l k) (hi : i < 0 ∨ l.length ≤ i) :
    Calls Tryz.prog 283 #[cellsV C, .int .i64 i] w fun e w' => e = .returned (.int .u64 0) ∧ Below w.heap.size w w' := by
  have hmf : ∀ (fn : Fn) (first cap : Array Value) (w : World), (Instr.makeFunc fn first cap).run Tryz.prog w = .ok (.func fn first cap) w := fun _ _ _ _ => rfl
  go_enter Tryz.func283, Tryz.ntmps283
  go_upto_region 1 with fail
  generalize hW : ((w.alloc _).alloc _).alloc _ = W
  have bW : Below w.heap.size w W := by rw [← hW]; go_grown
  have sW : W.heap.size = w.heap.size + 3 := by rw [← hW]; simp
  have q0 : Blk W w.heap.size 36 #[cellsV C] := by rw [← hW]; have h := Blk.new w 36 #[cellsV C]; (try simp only [World.size_alloc] at h); exact ((h.alloc _).alloc _)
  have q1 : Blk W (w.heap.size + 1) 3 #[.int .i64 i] := by rw [← hW]; have h := Blk.new (w.alloc (.cells #[cellsV C] 36)) 3 #[.int .i64 i]; (try simp only [World.size_alloc] at h); exact (h.alloc _)
  have q2 : Blk W (w.heap.size + 2) 55 #[.int .u64 0] := by rw [← hW]; have h := Blk.new ((w.alloc (.cells #[cellsV C] 36)).alloc (.cells #[.int .i64 i] 3)) 55 #[.int .u64 0]; (try simp only [World.size_alloc] at h); exact h
  have CW : CellsAt W C S l k := hC.keep (Keep.ofBelow (Q := fun _ => False) bW) (fun h => h) (fun h => h)
  clear hW
  have HO := Lib.hid (operate_no C S l k i 296 #[.pointer (some ⟨w.heap.size, 0, none⟩), .pointer (some ⟨w.heap.size + 1, 0, none⟩), .pointer (some ⟨w.heap.size + 2, 0, none⟩)] W CW hi)
  have e0 := q0.cell 0 _ rfl
  have e1 := q1.cell 0 _ rfl
  go_wp2_with (go_at_call 93; refine HO.out.mono ?_; rintro e w1 ⟨rfl, hb⟩; have qv := q2.below hb q2.lt; have v0 := qv.cell 0 _ rfl; have v1 := qv.free 0; clear e0 e1)
  exact bodyPost_ret (v := .int .u64 0) (by simp [results, Tryz.results283, go_sem, v0]) rfl ⟨rfl, (bW.trans (hb.mono bW.size)).setCell (by dsimp only; omega) _⟩
theorem load_nil (i : Int) (w : World) :
    Calls Tryz.prog 283 #[.pointer none, .int .i64 i] w fun e w' => e = .returned (.int .u64 0) ∧ Below w.heap.size w w' := by
  have hmf : ∀ (fn : Fn) (first cap : Array Value) (w : World), (Instr.makeFunc fn first cap).run Tryz.prog w = .ok (.func fn first cap) w := fun _ _ _ _ => rfl
  go_enter Tryz.func283, Tryz.ntmps283
  go_upto_region 1 with fail
  generalize hW : ((w.alloc _).alloc _).alloc _ = W
  have bW : Below w.heap.size w W := by rw [← hW]; go_grown
  have sW : W.heap.size = w.heap.size + 3 := by rw [← hW]; simp
  have q0 : Blk W w.heap.size 36 #[.pointer none] := by rw [← hW]; have h := Blk.new w 36 #[.pointer none]; (try simp only [World.size_alloc] at h); exact ((h.alloc _).alloc _)
  have q1 : Blk W (w.heap.size + 1) 3 #[.int .i64 i] := by rw [← hW]; have h := Blk.new (w.alloc (.cells #[.pointer none] 36)) 3 #[.int .i64 i]; (try simp only [World.size_alloc] at h); exact (h.alloc _)
  have q2 : Blk W (w.heap.size + 2) 55 #[.int .u64 0] := by rw [← hW]; have h := Blk.new ((w.alloc (.cells #[.pointer none] 36)).alloc (.cells #[.int .i64 i] 3)) 55 #[.int .u64 0]; (try simp only [World.size_alloc] at h); exact h
  clear hW
  have HO := Lib.hid (operate_nil i 296 #[.pointer (some ⟨w.heap.size, 0, none⟩), .pointer (some ⟨w.heap.size + 1, 0, none⟩), .pointer (some ⟨w.heap.size + 2, 0, none⟩)] W)
  have e0 := q0.cell 0 _ rfl
  have e1 := q1.cell 0 _ rfl
  go_wp2_with (go_at_call 93; refine HO.out.mono ?_; rintro e w1 ⟨rfl, hb⟩; have qv := q2.below hb q2.lt; have v0 := qv.cell 0 _ rfl; have v1 := qv.free 0; clear e0 e1)
  exact bodyPost_ret (v := .int .u64 0) (by simp [results, Tryz.results283, go_sem, v0]) rfl ⟨rfl, (bW.trans (hb.mono bW.size)).setCell (by dsimp only; omega) _⟩
theorem store_yes (C S : Nat) (l : List Int) (k : Int) (i : Nat) (x : Int) (u : Int) (w : World) (hC : CellsAt w C S l k) (hx : l[i]? = some x) (h0 : 0 ≤ k) (h1 : k < 9223372036854775807) :
    Calls Tryz.prog 40 #[cellsV C, .int .i64 i, .int .u64 u] w fun e w' => e = .returned (.bool true) ∧ CellsAt w' C S (l.set i u) (k + 1) ∧ Keep (ofCells C S) w w' := by
  have hlt : i < l.length := by rw [List.getElem?_eq_some_iff] at hx; exact hx.1
  have hCl := hC.own.lt
  have hSl := hC.row.lt
  have hmf : ∀ (fn : Fn) (first cap : Array Value) (w : World), (Instr.makeFunc fn first cap).run Tryz.prog w = .ok (.func fn first cap) w := fun _ _ _ _ => rfl
  have HH : Hid True := Lib.hid trivial
  have HX := Lib.hid hx
  clear hx
  go_enter Tryz.func40, Tryz.ntmps40
  go_upto_region 1 with fail
  generalize hW : ((w.alloc _).alloc _).alloc _ = W
  have bW : Below w.heap.size w W := by rw [← hW]; go_grown
  have sW : W.heap.size = w.heap.size + 3 := by rw [← hW]; simp
  have q0 : Blk W w.heap.size 36 #[cellsV C] := by rw [← hW]; have h := Blk.new w 36 #[cellsV C]; (try simp only [World.size_alloc] at h); exact ((h.alloc _).alloc _)
  have q1 : Blk W (w.heap.size + 1) 3 #[.int .i64 i] := by rw [← hW]; have h := Blk.new (w.alloc (.cells #[cellsV C] 36)) 3 #[.int .i64 i]; (try simp only [World.size_alloc] at h); exact (h.alloc _)
  have q2 : Blk W (w.heap.size + 2) 55 #[.int .u64 u] := by rw [← hW]; have h := Blk.new ((w.alloc (.cells #[cellsV C] 36)).alloc (.cells #[.int .i64 i] 3)) 55 #[.int .u64 u]; (try simp only [World.size_alloc] at h); exact h
  have CW : CellsAt W C S l k := hC.keep (Keep.ofBelow (Q := fun _ => False) bW) (fun h => h) (fun h => h)
  clear hW
  have HO := Lib.hid (operate_yes C S l k i 94 #[.pointer (some ⟨w.heap.size, 0, none⟩), .pointer (some ⟨w.heap.size + 1, 0, none⟩), .pointer (some ⟨w.heap.size + 2, 0, none⟩)] W (fun b => b = S) (fun w2 => Blk w2 S 55 (words (l.set i u))) CW hlt h0 h1 call_storeC (fun w1 hb => storeC_any _ _ _ C S l k x u i w1 (q0.below hb q0.lt) (q1.below hb q1.lt) (q2.below hb q2.lt) (CW.keep (Keep.ofBelow (Q := fun _ => False) hb) (fun h => h) (fun h => h)) HX.out) (fun b h => by have h2 := h; subst h2; (have := hC.ne; omega)) (fun w2 v h => h.far (Ne.symm hC.ne) _ _))
  have e0 := q0.cell 0 _ rfl
  have e1 := q1.cell 0 _ rfl
  go_wp2_with (go_at_call 93; refine HO.out.mono ?_; rintro e w1 ⟨rfl, hk, hg, hB⟩; clear e0 e1)
  have hK : Keep (ofCells C S) w w1 := (Keep.ofBelow bW).step hk (fun b hb h => by simp only [ofCells]; omega)
  go_ret
  exact ⟨rfl, hC.step (by simp) hB hg, hK⟩
theorem store_no (C S : Nat) (l : List Int) (k i : Int) (u : Int) (w : World) (hC : CellsAt w C S l k) (hi : i < 0 ∨ l.length ≤ i) :
    Calls Tryz.prog 40 #[cellsV C, .int .i64 i, .int .u64 u] w fun e w' => e = .returned (.bool false) ∧ Below w.heap.size w w' := by
  have hmf : ∀ (fn : Fn) (first cap : Array Value) (w : World), (Instr.makeFunc fn first cap).run Tryz.prog w = .ok (.func fn first cap) w := fun _ _ _ _ => rfl
  go_enter Tryz.func40, Tryz.ntmps40
  go_upto_region 1 with fail
  generalize hW : ((w.alloc _).alloc _).alloc _ = W
  have bW : Below w.heap.size w W := by rw [← hW]; go_grown
  have sW : W.heap.size = w.heap.size + 3 := by rw [← hW]; simp
  have q0 : Blk W w.heap.size 36 #[cellsV C] := by rw [← hW]; have h := Blk.new w 36 #[cellsV C]; (try simp only [World.size_alloc] at h); exact ((h.alloc _).alloc _)
  have q1 : Blk W (w.heap.size + 1) 3 #[.int .i64 i] := by rw [← hW]; have h := Blk.new (w.alloc (.cells #[cellsV C] 36)) 3 #[.int .i64 i]; (try simp only [World.size_alloc] at h); exact (h.alloc _)
  have q2 : Blk W (w.heap.size + 2) 55 #[.int .u64 u] := by rw [← hW]; have h := Blk.new ((w.alloc (.cells #[cellsV C] 36)).alloc (.cells #[.int .i64 i] 3)) 55 #[.int .u64 u]; (try simp only [World.size_alloc] at h); exact h
  have CW : CellsAt W C S l k := hC.keep (Keep.ofBelow (Q := fun _ => False) bW) (fun h => h) (fun h => h)
  clear hW
  have HO := Lib.hid (operate_no C S l k i 94 #[.pointer (some ⟨w.heap.size, 0, none⟩), .pointer (some ⟨w.heap.size + 1, 0, none⟩), .pointer (some ⟨w.heap.size + 2, 0, none⟩)] W CW hi)
  have e0 := q0.cell 0 _ rfl
  have e1 := q1.cell 0 _ rfl
  go_wp2_with (go_at_call 93; refine HO.out.mono ?_; rintro e w1 ⟨rfl, hb⟩; clear e0 e1)
  go_ret
  exact ⟨rfl, bW.trans (hb.mono bW.size)⟩
theorem store_nil (i : Int) (u : Int) (w : World) :
    Calls Tryz.prog 40 #[.pointer none, .int .i64 i, .int .u64 u] w fun e w' => e = .returned (.bool false) ∧ Below w.heap.size w w' := by
  have hmf : ∀ (fn : Fn) (first cap : Array Value) (w : World), (Instr.makeFunc fn first cap).run Tryz.prog w = .ok (.func fn first cap) w := fun _ _ _ _ => rfl
  go_enter Tryz.func40, Tryz.ntmps40
  go_upto_region 1 with fail
  generalize hW : ((w.alloc _).alloc _).alloc _ = W
  have bW : Below w.heap.size w W := by rw [← hW]; go_grown
  have sW : W.heap.size = w.heap.size + 3 := by rw [← hW]; simp
  have q0 : Blk W w.heap.size 36 #[.pointer none] := by rw [← hW]; have h := Blk.new w 36 #[.pointer none]; (try simp only [World.size_alloc] at h); exact ((h.alloc _).alloc _)
  have q1 : Blk W (w.heap.size + 1) 3 #[.int .i64 i] := by rw [← hW]; have h := Blk.new (w.alloc (.cells #[.pointer none] 36)) 3 #[.int .i64 i]; (try simp only [World.size_alloc] at h); exact (h.alloc _)
  have q2 : Blk W (w.heap.size + 2) 55 #[.int .u64 u] := by rw [← hW]; have h := Blk.new ((w.alloc (.cells #[.pointer none] 36)).alloc (.cells #[.int .i64 i] 3)) 55 #[.int .u64 u]; (try simp only [World.size_alloc] at h); exact h
  clear hW
  have HO := Lib.hid (operate_nil i 94 #[.pointer (some ⟨w.heap.size, 0, none⟩), .pointer (some ⟨w.heap.size + 1, 0, none⟩), .pointer (some ⟨w.heap.size + 2, 0, none⟩)] W)
  have e0 := q0.cell 0 _ rfl
  have e1 := q1.cell 0 _ rfl
  go_wp2_with (go_at_call 93; refine HO.out.mono ?_; rintro e w1 ⟨rfl, hb⟩; clear e0 e1)
  go_ret
  exact ⟨rfl, bW.trans (hb.mono bW.size)⟩
theorem swap_yes (C S : Nat) (l : List Int) (k : Int) (i : Nat) (o u : Int) (w : World) (hC : CellsAt w C S l k) (hx : l[i]? = some o) (h0 : 0 ≤ k) (h1 : k < 9223372036854775807) :
    Calls Tryz.prog 287 #[cellsV C, .int .i64 i, .int .u64 o, .int .u64 u] w fun e w' => e = .returned (.bool true) ∧ CellsAt w' C S (l.set i u) (k + 1) ∧ Keep (ofCells C S) w w' := by
  have hlt : i < l.length := by rw [List.getElem?_eq_some_iff] at hx; exact hx.1
  have hCl := hC.own.lt
  have hSl := hC.row.lt
  have hmf : ∀ (fn : Fn) (first cap : Array Value) (w : World), (Instr.makeFunc fn first cap).run Tryz.prog w = .ok (.func fn first cap) w := fun _ _ _ _ => rfl
  have HH : Hid True := Lib.hid trivial
  have HX := Lib.hid hx
  clear hx
  go_enter Tryz.func287, Tryz.ntmps287
  go_upto_region 1 with fail
  generalize hW : ((((w.alloc _).alloc _).alloc _).alloc _).alloc _ = W
  have bW : Below w.heap.size w W := by rw [← hW]; go_grown
  have sW : W.heap.size = w.heap.size + 5 := by rw [← hW]; simp
  have q0 : Blk W w.heap.size 36 #[cellsV C] := by rw [← hW]; have h := Blk.new w 36 #[cellsV C]; (try simp only [World.size_alloc] at h); exact ((((h.alloc _).alloc _).alloc _).alloc _)
  have q1 : Blk W (w.heap.size + 1) 3 #[.int .i64 i] := by rw [← hW]; have h := Blk.new (w.alloc (.cells #[cellsV C] 36)) 3 #[.int .i64 i]; (try simp only [World.size_alloc] at h); exact (((h.alloc _).alloc _).alloc _)
  have q2 : Blk W (w.heap.size + 2) 55 #[.int .u64 o] := by rw [← hW]; have h := Blk.new ((w.alloc (.cells #[cellsV C] 36)).alloc (.cells #[.int .i64 i] 3)) 55 #[.int .u64 o]; (try simp only [World.size_alloc] at h); exact ((h.alloc _).alloc _)
  have q3 : Blk W (w.heap.size + 3) 55 #[.int .u64 u] := by rw [← hW]; have h := Blk.new (((w.alloc (.cells #[cellsV C] 36)).alloc (.cells #[.int .i64 i] 3)).alloc (.cells #[.int .u64 o] 55)) 55 #[.int .u64 u]; (try simp only [World.size_alloc] at h); exact (h.alloc _)
  have q4 : Blk W (w.heap.size + 4) 4 #[.bool false] := by rw [← hW]; have h := Blk.new ((((w.alloc (.cells #[cellsV C] 36)).alloc (.cells #[.int .i64 i] 3)).alloc (.cells #[.int .u64 o] 55)).alloc (.cells #[.int .u64 u] 55)) 4 #[.bool false]; (try simp only [World.size_alloc] at h); exact h
  have CW : CellsAt W C S l k := hC.keep (Keep.ofBelow (Q := fun _ => False) bW) (fun h => h) (fun h => h)
  clear hW
  have HO := Lib.hid (operate_yes C S l k i 298 #[.pointer (some ⟨w.heap.size, 0, none⟩), .pointer (some ⟨w.heap.size + 1, 0, none⟩), .pointer (some ⟨w.heap.size + 2, 0, none⟩), .pointer (some ⟨w.heap.size + 3, 0, none⟩), .pointer (some ⟨w.heap.size + 4, 0, none⟩)] W (fun b => b = S ∨ b = w.heap.size + 4) (fun w2 => Blk w2 S 55 (words (l.set i u)) ∧ Blk w2 (w.heap.size + 4) 4 #[.bool true]) CW hlt h0 h1 call_swapC (fun w1 hb => swapC_yes _ _ _ _ _ C S l k o u i _ w1 (q0.below hb q0.lt) (q1.below hb q1.lt) (q2.below hb q2.lt) (q3.below hb q3.lt) (q4.below hb q4.lt) (CW.keep (Keep.ofBelow (Q := fun _ => False) hb) (fun h => h) (fun h => h)) HX.out (by omega)) (fun b h => by rcases h with rfl | rfl <;> (have := hC.ne; omega)) (fun w2 v h => ⟨h.1.far (Ne.symm hC.ne) _ _, h.2.far (by omega) _ _⟩))
  have e0 := q0.cell 0 _ rfl
  have e1 := q1.cell 0 _ rfl
  go_wp2_with (go_at_call 93; refine HO.out.mono ?_; rintro e w1 ⟨rfl, hk, hg, hB⟩; have v0 := Blk.cell hg.2 0 _ rfl; have v1 := Blk.free hg.2 0; clear e0 e1)
  have hK : Keep (ofCells C S) w w1 := (Keep.ofBelow bW).step hk (fun b hb h => by simp only [ofCells]; omega)
  refine bodyPost_ret (v := .bool true) (by simp [results, Tryz.results287, go_sem, v0]) rfl ⟨rfl, ?_, hK.set (fun h => by simp at h; omega) _⟩
  exact hC.step (by simp) (hB.far (by omega) _ _) (Blk.far hg.1 (by omega) _ _)
theorem swap_other (C S : Nat) (l : List Int) (k : Int) (i : Nat) (x : Int) (o u : Int) (w : World) (hC : CellsAt w C S l k) (hx : l[i]? = some x) (hne : x ≠ o) (h0 : 0 ≤ k) (h1 : k < 9223372036854775807) :
    Calls Tryz.prog 287 #[cellsV C, .int .i64 i, .int .u64 o, .int .u64 u] w fun e w' => e = .returned (.bool false) ∧ CellsAt w' C S (l) (k + 1) ∧ Keep (ofCells C S) w w' := by
  have hlt : i < l.length := by rw [List.getElem?_eq_some_iff] at hx; exact hx.1
  have hCl := hC.own.lt
  have hSl := hC.row.lt
  have hmf : ∀ (fn : Fn) (first cap : Array Value) (w : World), (Instr.makeFunc fn first cap).run Tryz.prog w = .ok (.func fn first cap) w := fun _ _ _ _ => rfl
  have HH : Hid True := Lib.hid trivial
  have HX := Lib.hid hx
  clear hx
  have HN := Lib.hid hne
  clear hne
  go_enter Tryz.func287, Tryz.ntmps287
  go_upto_region 1 with fail
  generalize hW : ((((w.alloc _).alloc _).alloc _).alloc _).alloc _ = W
  have bW : Below w.heap.size w W := by rw [← hW]; go_grown
  have sW : W.heap.size = w.heap.size + 5 := by rw [← hW]; simp
  have q0 : Blk W w.heap.size 36 #[cellsV C] := by rw [← hW]; have h := Blk.new w 36 #[cellsV C]; (try simp only [World.size_alloc] at h); exact ((((h.alloc _).alloc _).alloc _).alloc _)
  have q1 : Blk W (w.heap.size + 1) 3 #[.int .i64 i] := by rw [← hW]; have h := Blk.new (w.alloc (.cells #[cellsV C] 36)) 3 #[.int .i64 i]; (try simp only [World.size_alloc] at h); exact (((h.alloc _).alloc _).alloc _)
  have q2 : Blk W (w.heap.size + 2) 55 #[.int .u64 o] := by rw [← hW]; have h := Blk.new ((w.alloc (.cells #[cellsV C] 36)).alloc (.cells #[.int .i64 i] 3)) 55 #[.int .u64 o]; (try simp only [World.size_alloc] at h); exact ((h.alloc _).alloc _)
  have q3 : Blk W (w.heap.size + 3) 55 #[.int .u64 u] := by rw [← hW]; have h := Blk.new (((w.alloc (.cells #[cellsV C] 36)).alloc (.cells #[.int .i64 i] 3)).alloc (.cells #[.int .u64 o] 55)) 55 #[.int .u64 u]; (try simp only [World.size_alloc] at h); exact (h.alloc _)
  have q4 : Blk W (w.heap.size + 4) 4 #[.bool false] := by rw [← hW]; have h := Blk.new ((((w.alloc (.cells #[cellsV C] 36)).alloc (.cells #[.int .i64 i] 3)).alloc (.cells #[.int .u64 o] 55)).alloc (.cells #[.int .u64 u] 55)) 4 #[.bool false]; (try simp only [World.size_alloc] at h); exact h
  have CW : CellsAt W C S l k := hC.keep (Keep.ofBelow (Q := fun _ => False) bW) (fun h => h) (fun h => h)
  clear hW
  have HO := Lib.hid (operate_yes C S l k i 298 #[.pointer (some ⟨w.heap.size, 0, none⟩), .pointer (some ⟨w.heap.size + 1, 0, none⟩), .pointer (some ⟨w.heap.size + 2, 0, none⟩), .pointer (some ⟨w.heap.size + 3, 0, none⟩), .pointer (some ⟨w.heap.size + 4, 0, none⟩)] W (fun b => b = w.heap.size + 4) (fun w2 => Blk w2 (w.heap.size + 4) 4 #[.bool false]) CW hlt h0 h1 call_swapC (fun w1 hb => swapC_no _ _ _ _ _ C S l k x o u i _ w1 (q0.below hb q0.lt) (q1.below hb q1.lt) (q2.below hb q2.lt) (q3.below hb q3.lt) (q4.below hb q4.lt) (CW.keep (Keep.ofBelow (Q := fun _ => False) hb) (fun h => h) (fun h => h)) HX.out (by simpa using HN.out)) (fun b h => by have h2 := h; subst h2; (have := hC.ne; omega)) (fun w2 v h => h.far (by omega) _ _))
  have e0 := q0.cell 0 _ rfl
  have e1 := q1.cell 0 _ rfl
  go_wp2_with (go_at_call 93; refine HO.out.mono ?_; rintro e w1 ⟨rfl, hk, hg, hB⟩; have v0 := Blk.cell hg 0 _ rfl; have v1 := Blk.free hg 0; clear e0 e1)
  have hrow : Blk w1 S 55 (words l) := CW.row.keep hk (fun h => by have := hC.ne; rcases h with h | h <;> simp_all <;> omega)
  have hK : Keep (ofCells C S) w w1 := (Keep.ofBelow bW).step hk (fun b hb h => by simp only [ofCells]; omega)
  refine bodyPost_ret (v := .bool false) (by simp [results, Tryz.results287, go_sem, v0]) rfl ⟨rfl, ?_, hK.set (fun h => by simp at h; omega) _⟩
  exact hC.step (by simp) (hB.far (by omega) _ _) (Blk.far hrow (by omega) _ _)
theorem swap_no (C S : Nat) (l : List Int) (k i : Int) (o u : Int) (w : World) (hC : CellsAt w C S l k) (hi : i < 0 ∨ l.length ≤ i) :
    Calls Tryz.prog 287 #[cellsV C, .int .i64 i, .int .u64 o, .int .u64 u] w fun e w' => e = .returned (.bool false) ∧ Below w.heap.size w w' := by
  have hmf : ∀ (fn : Fn) (first cap : Array Value) (w : World), (Instr.makeFunc fn first cap).run Tryz.prog w = .ok (.func fn first cap) w := fun _ _ _ _ => rfl
  go_enter Tryz.func287, Tryz.ntmps287
  go_upto_region 1 with fail
  generalize hW : ((((w.alloc _).alloc _).alloc _).alloc _).alloc _ = W
  have bW : Below w.heap.size w W := by rw [← hW]; go_grown
  have sW : W.heap.size = w.heap.size + 5 := by rw [← hW]; simp
  have q0 : Blk W w.heap.size 36 #[cellsV C] := by rw [← hW]; have h := Blk.new w 36 #[cellsV C]; (try simp only [World.size_alloc] at h); exact ((((h.alloc _).alloc _).alloc _).alloc _)
  have q1 : Blk W (w.heap.size + 1) 3 #[.int .i64 i] := by rw [← hW]; have h := Blk.new (w.alloc (.cells #[cellsV C] 36)) 3 #[.int .i64 i]; (try simp only [World.size_alloc] at h); exact (((h.alloc _).alloc _).alloc _)
  have q2 : Blk W (w.heap.size + 2) 55 #[.int .u64 o] := by rw [← hW]; have h := Blk.new ((w.alloc (.cells #[cellsV C] 36)).alloc (.cells #[.int .i64 i] 3)) 55 #[.int .u64 o]; (try simp only [World.size_alloc] at h); exact ((h.alloc _).alloc _)
  have q3 : Blk W (w.heap.size + 3) 55 #[.int .u64 u] := by rw [← hW]; have h := Blk.new (((w.alloc (.cells #[cellsV C] 36)).alloc (.cells #[.int .i64 i] 3)).alloc (.cells #[.int .u64 o] 55)) 55 #[.int .u64 u]; (try simp only [World.size_alloc] at h); exact (h.alloc _)
  have q4 : Blk W (w.heap.size + 4) 4 #[.bool false] := by rw [← hW]; have h := Blk.new ((((w.alloc (.cells #[cellsV C] 36)).alloc (.cells #[.int .i64 i] 3)).alloc (.cells #[.int .u64 o] 55)).alloc (.cells #[.int .u64 u] 55)) 4 #[.bool false]; (try simp only [World.size_alloc] at h); exact h
  have CW : CellsAt W C S l k := hC.keep (Keep.ofBelow (Q := fun _ => False) bW) (fun h => h) (fun h => h)
  clear hW
  have HO := Lib.hid (operate_no C S l k i 298 #[.pointer (some ⟨w.heap.size, 0, none⟩), .pointer (some ⟨w.heap.size + 1, 0, none⟩), .pointer (some ⟨w.heap.size + 2, 0, none⟩), .pointer (some ⟨w.heap.size + 3, 0, none⟩), .pointer (some ⟨w.heap.size + 4, 0, none⟩)] W CW hi)
  have e0 := q0.cell 0 _ rfl
  have e1 := q1.cell 0 _ rfl
  go_wp2_with (go_at_call 93; refine HO.out.mono ?_; rintro e w1 ⟨rfl, hb⟩; have qv := q4.below hb q4.lt; have v0 := qv.cell 0 _ rfl; have v1 := qv.free 0; clear e0 e1)
  exact bodyPost_ret (v := .bool false) (by simp [results, Tryz.results287, go_sem, v0]) rfl ⟨rfl, (bW.trans (hb.mono bW.size)).setCell (by dsimp only; omega) _⟩
theorem swap_nil (i : Int) (o u : Int) (w : World) :
    Calls Tryz.prog 287 #[.pointer none, .int .i64 i, .int .u64 o, .int .u64 u] w fun e w' => e = .returned (.bool false) ∧ Below w.heap.size w w' := by
  have hmf : ∀ (fn : Fn) (first cap : Array Value) (w : World), (Instr.makeFunc fn first cap).run Tryz.prog w = .ok (.func fn first cap) w := fun _ _ _ _ => rfl
  go_enter Tryz.func287, Tryz.ntmps287
  go_upto_region 1 with fail
  generalize hW : ((((w.alloc _).alloc _).alloc _).alloc _).alloc _ = W
  have bW : Below w.heap.size w W := by rw [← hW]; go_grown
  have sW : W.heap.size = w.heap.size + 5 := by rw [← hW]; simp
  have q0 : Blk W w.heap.size 36 #[.pointer none] := by rw [← hW]; have h := Blk.new w 36 #[.pointer none]; (try simp only [World.size_alloc] at h); exact ((((h.alloc _).alloc _).alloc _).alloc _)
  have q1 : Blk W (w.heap.size + 1) 3 #[.int .i64 i] := by rw [← hW]; have h := Blk.new (w.alloc (.cells #[.pointer none] 36)) 3 #[.int .i64 i]; (try simp only [World.size_alloc] at h); exact (((h.alloc _).alloc _).alloc _)
  have q2 : Blk W (w.heap.size + 2) 55 #[.int .u64 o] := by rw [← hW]; have h := Blk.new ((w.alloc (.cells #[.pointer none] 36)).alloc (.cells #[.int .i64 i] 3)) 55 #[.int .u64 o]; (try simp only [World.size_alloc] at h); exact ((h.alloc _).alloc _)
  have q3 : Blk W (w.heap.size + 3) 55 #[.int .u64 u] := by rw [← hW]; have h := Blk.new (((w.alloc (.cells #[.pointer none] 36)).alloc (.cells #[.int .i64 i] 3)).alloc (.cells #[.int .u64 o] 55)) 55 #[.int .u64 u]; (try simp only [World.size_alloc] at h); exact (h.alloc _)
  have q4 : Blk W (w.heap.size + 4) 4 #[.bool false] := by rw [← hW]; have h := Blk.new ((((w.alloc (.cells #[.pointer none] 36)).alloc (.cells #[.int .i64 i] 3)).alloc (.cells #[.int .u64 o] 55)).alloc (.cells #[.int .u64 u] 55)) 4 #[.bool false]; (try simp only [World.size_alloc] at h); exact h
  clear hW
  have HO := Lib.hid (operate_nil i 298 #[.pointer (some ⟨w.heap.size, 0, none⟩), .pointer (some ⟨w.heap.size + 1, 0, none⟩), .pointer (some ⟨w.heap.size + 2, 0, none⟩), .pointer (some ⟨w.heap.size + 3, 0, none⟩), .pointer (some ⟨w.heap.size + 4, 0, none⟩)] W)
  have e0 := q0.cell 0 _ rfl
  have e1 := q1.cell 0 _ rfl
  go_wp2_with (go_at_call 93; refine HO.out.mono ?_; rintro e w1 ⟨rfl, hb⟩; have qv := q4.below hb q4.lt; have v0 := qv.cell 0 _ rfl; have v1 := qv.free 0; clear e0 e1)
  exact bodyPost_ret (v := .bool false) (by simp [results, Tryz.results287, go_sem, v0]) rfl ⟨rfl, (bW.trans (hb.mono bW.size)).setCell (by dsimp only; omega) _⟩
end Go.Proofs.YtmknnjjmmfbppaaGreat
