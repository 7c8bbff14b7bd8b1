/- Contracts of package cells: Load, Store, Swap, Add, as callers see them. -/
import Derived.Test.YtmknnjjmmfbppaaGreatMgBegBL
import Derived.Test.YtmknnjjmmfbppaaGreatMgBegBM
import Derived.Test.YtmknnjjmmfbppaaGreatMgBegAC
import Derived.RangeFuncNested
import Derived.RangeFuncBound
import Derived.RangeFuncCalls
import Derived.RangeFuncLeaves
import Derived.Shelf.Abstract
import Derived.Shelf.RegionOpen
import Derived.OwnWalkIn
import Derived.TacticsInMore
import Derived.LoopNIn
import Derived.LoopIn
import Derived.Maps.AppendAt
namespace Go.Proofs.YtmknnjjmmfbppaaGreat.Re
open Go.ChangeShapes Go.WideShapes Go.ChangeAt Go.RowKit
set_option linter.unusedVariables false
set_option maxRecDepth 100000
set_option linter.unusedSimpArgs false
abbrev ofCells (C S : Nat) : Nat → Prop := fun b => b = C ∨ b = S
theorem CellsAt.step {w w' : World} {C S : Nat} {l l' : List Int} {k k' : Int} (h : CellsAt w C S l k) (hl : l'.length = l.length) (h1 : Blk w' C 173 #[.iface 186 (rowV S l.length), .int .i64 k'])
    (h2 : Blk w' S 304 (words l')) : CellsAt w' C S l' k' := ⟨by rw [hl]; exact h1, h2, h.ne, by rw [hl]; exact h.few⟩
theorem load_yes (C S : Nat) (l : List Int) (k : Int) (i : Nat) (x : Int) (w : World) (hC : CellsAt w C S l k) (hx : l[i]? = some x) (h0 : 0 ≤ k) (h1 : k < 9223372036854775807) :
    Calls Tryz.prog 283 #[cellsV C, .int .i64 i] w fun e w' => e = .returned (.int .u64 x) ∧ CellsAt w' C S (l) (k + 1) ∧ Keep (ofCells C S) w w' := by
  have hlt : i < l.length := by rw [List.getElem?_eq_some_iff] at hx; exact hx.1
  have hCl := hC.own.lt
  have hSl := hC.row.lt
  have hmf : ∀ (fn : Fn) (first cap : Array Value) (w : World), (Instr.makeFunc fn first cap).run Tryz.prog w = .ok (.func fn first cap) w := fun _ _ _ _ => rfl
  have HH : Hid True := Lib.hid trivial
  have HX := Lib.hid hx
  clear hx
  go_enter Tryz.func283, Tryz.ntmps283
  go_upto_region 1 with fail
  generalize hW : ((w.alloc _).alloc _).alloc _ = W
  have bW : Below w.heap.size w W := by rw [← hW]; go_grown
  have sW : W.heap.size = w.heap.size + 3 := by rw [← hW]; simp
  have q0 : Blk W w.heap.size 36 #[cellsV C] := by rw [← hW]; have h := Blk.new w 36 #[cellsV C]; (try simp only [World.size_alloc] at h); exact ((h.alloc _).alloc _)
  have q1 : Blk W (w.heap.size + 1) 3 #[.int .i64 i] := by rw [← hW]; have h := Blk.new (w.alloc (.cells #[cellsV C] 36)) 3 #[.int .i64 i]; (try simp only [World.size_alloc] at h); exact (h.alloc _)
  have q2 : Blk W (w.heap.size + 2) 55 #[.int .u64 0] := by rw [← hW]; have h := Blk.new ((w.alloc (.cells #[cellsV C] 36)).alloc (.cells #[.int .i64 i] 3)) 55 #[.int .u64 0]; (try simp only [World.size_alloc] at h); exact h
  have CW : CellsAt W C S l k := hC.keep (Keep.ofBelow (Q := fun _ => False) bW) (fun h => h) (fun h => h)
  clear hW
  have HO := Lib.hid (operate_yes C S l k i 296 #[.pointer (some ⟨w.heap.size, 0, none⟩), .pointer (some ⟨w.heap.size + 1, 0, none⟩), .pointer (some ⟨w.heap.size + 2, 0, none⟩)] W (fun b => b = w.heap.size + 2) (fun w2 => Blk w2 (w.heap.size + 2) 55 #[.int .u64 x]) CW hlt h0 h1 call_loadC (fun w1 hb => loadC_any _ _ _ C S l k x i _ w1 (q0.below hb q0.lt) (q1.below hb q1.lt) (q2.below hb q2.lt) (CW.keep (Keep.ofBelow (Q := fun _ => False) hb) (fun h => h) (fun h => h)) HX.out) (fun b h => by have h2 := h; subst h2; (have := hC.ne; omega)) (fun w2 v h => h.far (by omega) _ _))
  have e0 := q0.cell 0 _ rfl
  have e1 := q1.cell 0 _ rfl
  go_wp2_with (go_at_call 93; refine HO.out.mono ?_; rintro e w1 ⟨rfl, hk, hg, hB⟩; have v0 := Blk.cell hg 0 _ rfl; have v1 := Blk.free hg 0; clear e0 e1)
  have hrow : Blk w1 S 304 (words l) := CW.row.keep hk (fun h => by have := hC.ne; rcases h with h | h <;> simp_all <;> omega)
  have hK : Keep (ofCells C S) w w1 := (Keep.ofBelow bW).step hk (fun b hb h => by simp only [ofCells]; omega)
  refine bodyPost_ret (v := .int .u64 x) (by simp [results, Tryz.results283, go_sem, v0]) rfl ⟨rfl, ?_, hK.set (fun h => by simp at h; omega) _⟩
  exact hC.step (by simp) (hB.far (by omega) _ _) (Blk.far hrow (by omega) _ _)
theorem load_no (C S : Nat) (l : List Int) (k i : Int) (w : World) (hC : CellsAt w C S l k) (hi : i < 0 ∨ l.length ≤ i) :
    Calls Tryz.prog 283 #[cellsV C, .int .i64 i] w fun e w' => e = .returned (.int .u64 0) ∧ Below w.heap.size w w' := by
  have hmf : ∀ (fn : Fn) (first cap : Array Value) (w : World), (Instr.makeFunc fn first cap).run Tryz.prog w = .ok (.func fn first cap) w := fun _ _ _ _ => rfl
  go_enter Tryz.func283, Tryz.ntmps283
  go_upto_region 1 with fail
  generalize hW : ((w.alloc _).alloc _).alloc _ = W
  have bW : Below w.heap.size w W := by rw [← hW]; go_grown
  have sW : W.heap.size = w.heap.size + 3 := by rw [← hW]; simp
  have q0 : Blk W w.heap.size 36 #[cellsV C] := by rw [← hW]; have h := Blk.new w 36 #[cellsV C]; (try simp only [World.size_alloc] at h); exact ((h.alloc _).alloc _)
  have q1 : Blk W (w.heap.size + 1) 3 #[.int .i64 i] := by rw [← hW]; have h := Blk.new (w.alloc (.cells #[cellsV C] 36)) 3 #[.int .i64 i]; (try simp only [World.size_alloc] at h); exact (h.alloc _)
  have q2 : Blk W (w.heap.size + 2) 55 #[.int .u64 0] := by rw [← hW]; have h := Blk.new ((w.alloc (.cells #[cellsV C] 36)).alloc (.cells #[.int .i64 i] 3)) 55 #[.int .u64 0]; (try simp only [World.size_alloc] at h); exact h
  have CW : CellsAt W C S l k := hC.keep (Keep.ofBelow (Q := fun _ => False) bW) (fun h => h) (fun h => h)
  clear hW
  have HO := Lib.hid (operate_no C S l k i 296 #[.pointer (some ⟨w.heap.size, 0, none⟩), .pointer (some ⟨w.heap.size + 1, 0, none⟩), .pointer (some ⟨w.heap.size + 2, 0, none⟩)] W CW hi)
  have e0 := q0.cell 0 _ rfl
  have e1 := q1.cell 0 _ rfl
  go_wp2_with (go_at_call 93; refine HO.out.mono ?_; rintro e w1 ⟨rfl, hb⟩; have qv := q2.below hb q2.lt; have v0 := qv.cell 0 _ rfl; have v1 := qv.free 0; clear e0 e1)
  exact bodyPost_ret (v := .int .u64 0) (by simp [results, Tryz.results283, go_sem, v0]) rfl ⟨rfl, (bW.trans (hb.mono bW.size)).setCell (by dsimp only; omega) _⟩
theorem load_nil (i : Int) (w : World) :
    Calls Tryz.prog 283 #[.pointer none, .int .i64 i] w fun e w' => e = .returned (.int .u64 0) ∧ Below w.heap.size w w' := by
  have hmf : ∀ (fn : Fn) (first cap : Array Value) (w : World), (Instr.makeFunc fn first cap).run Tryz.prog w = .ok (.func fn first cap) w := fun _ _ _ _ => rfl
  go_enter Tryz.func283, Tryz.ntmps283
  go_upto_region 1 with fail
  generalize hW : ((w.alloc _).alloc _).alloc _ = W
  have bW : Below w.heap.size w W := by rw [← hW]; go_grown
  have sW : W.heap.size = w.heap.size + 3 := by rw [← hW]; simp
  have q0 : Blk W w.heap.size 36 #[.pointer none] := by rw [← hW]; have h := Blk.new w 36 #[.pointer none]; (try simp only [World.size_alloc] at h); exact ((h.alloc _).alloc _)
  have q1 : Blk W (w.heap.size + 1) 3 #[.int .i64 i] := by rw [← hW]; have h := Blk.new (w.alloc (.cells #[.pointer none] 36)) 3 #[.int .i64 i]; (try simp only [World.size_alloc] at h); exact (h.alloc _)
  have q2 : Blk W (w.heap.size + 2) 55 #[.int .u64 0] := by rw [← hW]; have h := Blk.new ((w.alloc (.cells #[.pointer none] 36)).alloc (.cells #[.int .i64 i] 3)) 55 #[.int .u64 0]; (try simp only [World.size_alloc] at h); exact h
  clear hW
  have HO := Lib.hid (operate_nil i 296 #[.pointer (some ⟨w.heap.size, 0, none⟩), .pointer (some ⟨w.heap.size + 1, 0, none⟩), .pointer (some ⟨w.heap.size + 2, 0, none⟩)] W)
  have e0 := q0.cell 0 _ rfl
  have e1 := q1.cell 0 _ rfl
  go_wp2_with (go_at_call 93; refine HO.out.mono ?_; rintro e w1 ⟨rfl, hb⟩; have qv := q2.below hb q2.lt; have v0 := qv.cell 0 _ rfl; have v1 := qv.free 0; clear e0 e1)
  exact bodyPost_ret (v := .int .u64 0) (by simp [results, Tryz.results283, go_sem, v0]) rfl ⟨rfl, (bW.trans (hb.mono bW.size)).setCell (by dsimp only; omega) _⟩
theorem store_yes (C S : Nat) (l : List Int) (k : Int) (i : Nat) (x : Int) (u : Int) (w : World) (hC : CellsAt w C S l k) (hx : l[i]? = some x) (h0 : 0 ≤ k) (h1 : k < 9223372036854775807) :
    Calls Tryz.prog 40 #[cellsV C, .int .i64 i, .int .u64 u] w fun e w' => e = .returned (.bool true) ∧ CellsAt w' C S (l.set i u) (k + 1) ∧ Keep (ofCells C S) w w' := by
  have hlt : i < l.length := by rw [List.getElem?_eq_some_iff] at hx; exact hx.1
  have hCl := hC.own.lt
  have hSl := hC.row.lt
  have hmf : ∀ (fn : Fn) (first cap : Array Value) (w : World), (Instr.makeFunc fn first cap).run Tryz.prog w = .ok (.func fn first cap) w := fun _ _ _ _ => rfl
  have HH : Hid True := Lib.hid trivial
  have HX := Lib.hid hx
  clear hx
  go_enter Tryz.func40, Tryz.ntmps40
  go_upto_region 1 with fail
  generalize hW : ((w.alloc _).alloc _).alloc _ = W
  have bW : Below w.heap.size w W := by rw [← hW]; go_grown
  have sW : W.heap.size = w.heap.size + 3 := by rw [← hW]; simp
  have q0 : Blk W w.heap.size 36 #[cellsV C] := by rw [← hW]; have h := Blk.new w 36 #[cellsV C]; (try simp only [World.size_alloc] at h); exact ((h.alloc _).alloc _)
  have q1 : Blk W (w.heap.size + 1) 3 #[.int .i64 i] := by rw [← hW]; have h := Blk.new (w.alloc (.cells #[cellsV C] 36)) 3 #[.int .i64 i]; (try simp only [World.size_alloc] at h); exact (h.alloc _)
  have q2 : Blk W (w.heap.size + 2) 55 #[.int .u64 u] := by rw [← hW]; have h := Blk.new ((w.alloc (.cells #[cellsV C] 36)).alloc (.cells #[.int .i64 i] 3)) 55 #[.int .u64 u]; (try simp only [World.size_alloc] at h); exact h
  have CW : CellsAt W C S l k := hC.keep (Keep.ofBelow (Q := fun _ => False) bW) (fun h => h) (fun h => h)
  clear hW
  have HO := Lib.hid (operate_yes C S l k i 94 #[.pointer (some ⟨w.heap.size, 0, none⟩), .pointer (some ⟨w.heap.size + 1, 0, none⟩), .pointer (some ⟨w.heap.size + 2, 0, none⟩)] W (fun b => b = S) (fun w2 => Blk w2 S 304 (words (l.set i u))) CW hlt h0 h1 call_storeC (fun w1 hb => storeC_any _ _ _ C S l k x u i w1 (q0.below hb q0.lt) (q1.below hb q1.lt) (q2.below hb q2.lt) (CW.keep (Keep.ofBelow (Q := fun _ => False) hb) (fun h => h) (fun h => h)) HX.out) (fun b h => by have h2 := h; subst h2; (have := hC.ne; omega)) (fun w2 v h => h.far (Ne.symm hC.ne) _ _))
  have e0 := q0.cell 0 _ rfl
  have e1 := q1.cell 0 _ rfl
  go_wp2_with (go_at_call 93; refine HO.out.mono ?_; rintro e w1 ⟨rfl, hk, hg, hB⟩; clear e0 e1)
  have hK : Keep (ofCells C S) w w1 := (Keep.ofBelow bW).step hk (fun b hb h => by simp only [ofCells]; omega)
  go_ret
  exact ⟨rfl, hC.step (by simp) hB hg, hK⟩
theorem store_no (C S : Nat) (l : List Int) (k i : Int) (u : Int) (w : World) (hC : CellsAt w C S l k) (hi : i < 0 ∨ l.length ≤ i) :
    Calls Tryz.prog 40 #[cellsV C, .int .i64 i, .int .u64 u] w fun e w' => e = .returned (.bool false) ∧ Below w.heap.size w w' := by
  have hmf : ∀ (fn : Fn) (first cap : Array Value) (w : World), (Instr.makeFunc fn first cap).run Tryz.prog w = .ok (.func fn first cap) w := fun _ _ _ _ => rfl
  go_enter Tryz.func40, Tryz.ntmps40
  go_upto_region 1 with fail
  generalize hW : ((w.alloc _).alloc _).alloc _ = W
  have bW : Below w.heap.size w W := by rw [← hW]; go_grown
  have sW : W.heap.size = w.heap.size + 3 := by rw [← hW]; simp
  have q0 : Blk W w.heap.size 36 #[cellsV C] := by rw [← hW]; have h := Blk.new w 36 #[cellsV C]; (try simp only [World.size_alloc] at h); exact ((h.alloc _).alloc _)
  have q1 : Blk W (w.heap.size + 1) 3 #[.int .i64 i] := by rw [← hW]; have h := Blk.new (w.alloc (.cells #[cellsV C] 36)) 3 #[.int .i64 i]; (try simp only [World.size_alloc] at h); exact (h.alloc _)
  have q2 : Blk W (w.heap.size + 2) 55 #[.int .u64 u] := by rw [← hW]; have h := Blk.new ((w.alloc (.cells #[cellsV C] 36)).alloc (.cells #[.int .i64 i] 3)) 55 #[.int .u64 u]; (try simp only [World.size_alloc] at h); exact h
  have CW : CellsAt W C S l k := hC.keep (Keep.ofBelow (Q := fun _ => False) bW) (fun h => h) (fun h => h)
  clear hW
  have HO := Lib.hid (operate_no C S l k i 94 #[.pointer (some ⟨w.heap.size, 0, none⟩), .pointer (some ⟨w.heap.size + 1, 0, none⟩), .pointer (some ⟨w.heap.size + 2, 0, none⟩)] W CW hi)
  have e0 := q0.cell 0 _ rfl
  have e1 := q1.cell 0 _ rfl
  go_wp2_with (go_at_call 93; refine HO.out.mono ?_; rintro e w1 ⟨rfl, hb⟩; clear e0 e1)
  go_ret
  exact ⟨rfl, bW.trans (hb.mono bW.size)⟩
theorem store_nil (i : Int) (u : Int) (w : World) :
    Calls Tryz.prog 40 #[.pointer none, .int .i64 i, .int .u64 u] w fun e w' => e = .returned (.bool false) ∧ Below w.heap.size w w' := by
  have hmf : ∀ (fn : Fn) (first cap : Array Value) (w : World), (Instr.makeFunc fn first cap).run Tryz.prog w = .ok (.func fn first cap) w := fun _ _ _ _ => rfl
  go_enter Tryz.func40, Tryz.ntmps40
  go_upto_region 1 with fail
  generalize hW : ((w.alloc _).alloc _).alloc _ = W
  have bW : Below w.heap.size w W := by rw [← hW]; go_grown
  have sW : W.heap.size = w.heap.size + 3 := by rw [← hW]; simp
  have q0 : Blk W w.heap.size 36 #[.pointer none] := by rw [← hW]; have h := Blk.new w 36 #[.pointer none]; (try simp only [World.size_alloc] at h); exact ((h.alloc _).alloc _)
  have q1 : Blk W (w.heap.size + 1) 3 #[.int .i64 i] := by rw [← hW]; have h := Blk.new (w.alloc (.cells #[.pointer none] 36)) 3 #[.int .i64 i]; (try simp only [World.size_alloc] at h); exact (h.alloc _)
  have q2 : Blk W (w.heap.size + 2) 55 #[.int .u64 u] := by rw [← hW]; have h := Blk.new ((w.alloc (.cells #[.pointer none] 36)).alloc (.cells #[.int .i64 i] 3)) 55 #[.int .u64 u]; (try simp only [World.size_alloc] at h); exact h
  clear hW
  have HO := Lib.hid (operate_nil i 94 #[.pointer (some ⟨w.heap.size, 0, none⟩), .pointer (some ⟨w.heap.size + 1, 0, none⟩), .pointer (some ⟨w.heap.size + 2, 0, none⟩)] W)
  have e0 := q0.cell 0 _ rfl
  have e1 := q1.cell 0 _ rfl
  go_wp2_with (go_at_call 93; refine HO.out.mono ?_; rintro e w1 ⟨rfl, hb⟩; clear e0 e1)
  go_ret
  exact ⟨rfl, bW.trans (hb.mono bW.size)⟩
theorem swap_yes (C S : Nat) (l : List Int) (k : Int) (i : Nat) (o u : Int) (w : World) (hC : CellsAt w C S l k) (hx : l[i]? = some o) (h0 : 0 ≤ k) (h1 : k < 9223372036854775807) :
    Calls Tryz.prog 287 #[cellsV C, .int .i64 i, .int .u64 o, .int .u64 u] w fun e w' => e = .returned (.bool true) ∧ CellsAt w' C S (l.set i u) (k + 1) ∧ Keep (ofCells C S) w w' := by
  have hlt : i < l.length := by rw [List.getElem?_eq_some_iff] at hx; exact hx.1
  have hCl := hC.own.lt
  have hSl := hC.row.lt
  have hmf : ∀ (fn : Fn) (first cap : Array Value) (w : World), (Instr.makeFunc fn first cap).run Tryz.prog w = .ok (.func fn first cap) w := fun _ _ _ _ => rfl
  have HH : Hid True := Lib.hid trivial
  have HX := Lib.hid hx
  clear hx
  go_enter Tryz.func287, Tryz.ntmps287
  go_upto_region 1 with fail
  generalize hW : ((((w.alloc _).alloc _).alloc _).alloc _).alloc _ = W
  have bW : Below w.heap.size w W := by rw [← hW]; go_grown
  have sW : W.heap.size = w.heap.size + 5 := by rw [← hW]; simp
  have q0 : Blk W w.heap.size 36 #[cellsV C] := by rw [← hW]; have h := Blk.new w 36 #[cellsV C]; (try simp only [World.size_alloc] at h); exact ((((h.alloc _).alloc _).alloc _).alloc _)
  have q1 : Blk W (w.heap.size + 1) 3 #[.int .i64 i] := by rw [← hW]; have h := Blk.new (w.alloc (.cells #[cellsV C] 36)) 3 #[.int .i64 i]; (try simp only [World.size_alloc] at h); exact (((h.alloc _).alloc _).alloc _)
  have q2 : Blk W (w.heap.size + 2) 55 #[.int .u64 o] := by rw [← hW]; have h := Blk.new ((w.alloc (.cells #[cellsV C] 36)).alloc (.cells #[.int .i64 i] 3)) 55 #[.int .u64 o]; (try simp only [World.size_alloc] at h); exact ((h.alloc _).alloc _)
  have q3 : Blk W (w.heap.size + 3) 55 #[.int .u64 u] := by rw [← hW]; have h := Blk.new (((w.alloc (.cells #[cellsV C] 36)).alloc (.cells #[.int .i64 i] 3)).alloc (.cells #[.int .u64 o] 55)) 55 #[.int .u64 u]; (try simp only [World.size_alloc] at h); exact (h.alloc _)
  have q4 : Blk W (w.heap.size + 4) 4 #[.bool false] := by rw [← hW]; have h := Blk.new ((((w.alloc (.cells #[cellsV C] 36)).alloc (.cells #[.int .i64 i] 3)).alloc (.cells #[.int .u64 o] 55)).alloc (.cells #[.int .u64 u] 55)) 4 #[.bool false]; (try simp only [World.size_alloc] at h); exact h
  have CW : CellsAt W C S l k := hC.keep (Keep.ofBelow (Q := fun _ => False) bW) (fun h => h) (fun h => h)
  clear hW
  have HO := Lib.hid (operate_yes C S l k i 298 #[.pointer (some ⟨w.heap.size, 0, none⟩), .pointer (some ⟨w.heap.size + 1, 0, none⟩), .pointer (some ⟨w.heap.size + 2, 0, none⟩), .pointer (some ⟨w.heap.size + 3, 0, none⟩), .pointer (some ⟨w.heap.size + 4, 0, none⟩)] W (fun b => b = S ∨ b = w.heap.size + 4) (fun w2 => Blk w2 S 304 (words (l.set i u)) ∧ Blk w2 (w.heap.size + 4) 4 #[.bool true]) CW hlt h0 h1 call_swapC (fun w1 hb => swapC_yes _ _ _ _ _ C S l k o u i _ w1 (q0.below hb q0.lt) (q1.below hb q1.lt) (q2.below hb q2.lt) (q3.below hb q3.lt) (q4.below hb q4.lt) (CW.keep (Keep.ofBelow (Q := fun _ => False) hb) (fun h => h) (fun h => h)) HX.out (by omega)) (fun b h => by rcases h with rfl | rfl <;> (have := hC.ne; omega)) (fun w2 v h => ⟨h.1.far (Ne.symm hC.ne) _ _, h.2.far (by omega) _ _⟩))
  have e0 := q0.cell 0 _ rfl
  have e1 := q1.cell 0 _ rfl
  go_wp2_with (go_at_call 93; refine HO.out.mono ?_; rintro e w1 ⟨rfl, hk, hg, hB⟩; have v0 := Blk.cell hg.2 0 _ rfl; have v1 := Blk.free hg.2 0; clear e0 e1)
  have hK : Keep (ofCells C S) w w1 := (Keep.ofBelow bW).step hk (fun b hb h => by simp only [ofCells]; omega)
  refine bodyPost_ret (v := .bool true) (by simp [results, Tryz.results287, go_sem, v0]) rfl ⟨rfl, ?_, hK.set (fun h => by simp at h; omega) _⟩
  exact hC.step (by simp) (hB.far (by omega) _ _) (Blk.far hg.1 (by omega) _ _)
theorem swap_other (C S : Nat) (l : List Int) (k : Int) (i : Nat) (x : Int) (o u : Int) (w : World) (hC : CellsAt w C S l k) (hx : l[i]? = some x) (hne : x ≠ o) (h0 : 0 ≤ k) (h1 : k < 9223372036854775807) :
    Calls Tryz.prog 287 #[cellsV C, .int .i64 i, .int .u64 o, .int .u64 u] w fun e w' => e = .returned (.bool false) ∧ CellsAt w' C S (l) (k + 1) ∧ Keep (ofCells C S) w w' := by
  have hlt : i < l.length := by rw [List.getElem?_eq_some_iff] at hx; exact hx.1
  have hCl := hC.own.lt
  have hSl := hC.row.lt
  have hmf : ∀ (fn : Fn) (first cap : Array Value) (w : World), (Instr.makeFunc fn first cap).run Tryz.prog w = .ok (.func fn first cap) w := fun _ _ _ _ => rfl
  have HH : Hid True := Lib.hid trivial
  have HX := Lib.hid hx
  clear hx
  have HN := Lib.hid hne
  clear hne
  go_enter Tryz.func287, Tryz.ntmps287
  go_upto_region 1 with fail
  generalize hW : ((((w.alloc _).alloc _).alloc _).alloc _).alloc _ = W
  have bW : Below w.heap.size w W := by rw [← hW]; go_grown
  have sW : W.heap.size = w.heap.size + 5 := by rw [← hW]; simp
  have q0 : Blk W w.heap.size 36 #[cellsV C] := by rw [← hW]; have h := Blk.new w 36 #[cellsV C]; (try simp only [World.size_alloc] at h); exact ((((h.alloc _).alloc _).alloc _).alloc _)
  have q1 : Blk W (w.heap.size + 1) 3 #[.int .i64 i] := by rw [← hW]; have h := Blk.new (w.alloc (.cells #[cellsV C] 36)) 3 #[.int .i64 i]; (try simp only [World.size_alloc] at h); exact (((h.alloc _).alloc _).alloc _)
  have q2 : Blk W (w.heap.size + 2) 55 #[.int .u64 o] := by rw [← hW]; have h := Blk.new ((w.alloc (.cells #[cellsV C] 36)).alloc (.cells #[.int .i64 i] 3)) 55 #[.int .u64 o]; (try simp only [World.size_alloc] at h); exact ((h.alloc _).alloc _)
  have q3 : Blk W (w.heap.size + 3) 55 #[.int .u64 u] := by rw [← hW]; have h := Blk.new (((w.alloc (.cells #[cellsV C] 36)).alloc (.cells #[.int .i64 i] 3)).alloc (.cells #[.int .u64 o] 55)) 55 #[.int .u64 u]; (try simp only [World.size_alloc] at h); exact (h.alloc _)
  have q4 : Blk W (w.heap.size + 4) 4 #[.bool false] := by rw [← hW]; have h := Blk.new ((((w.alloc (.cells #[cellsV C] 36)).alloc (.cells #[.int .i64 i] 3)).alloc (.cells #[.int .u64 o] 55)).alloc (.cells #[.int .u64 u] 55)) 4 #[.bool false]; (try simp only [World.size_alloc] at h); exact h
  have CW : CellsAt W C S l k := hC.keep (Keep.ofBelow (Q := fun _ => False) bW) (fun h => h) (fun h => h)
  clear hW
  have HO := Lib.hid (operate_yes C S l k i 298 #[.pointer (some ⟨w.heap.size, 0, none⟩), .pointer (some ⟨w.heap.size + 1, 0, none⟩), .pointer (some ⟨w.heap.size + 2, 0, none⟩), .pointer (some ⟨w.heap.size + 3, 0, none⟩), .pointer (some ⟨w.heap.size + 4, 0, none⟩)] W (fun b => b = w.heap.size + 4) (fun w2 => Blk w2 (w.heap.size + 4) 4 #[.bool false]) CW hlt h0 h1 call_swapC (fun w1 hb => swapC_no _ _ _ _ _ C S l k x o u i _ w1 (q0.below hb q0.lt) (q1.below hb q1.lt) (q2.below hb q2.lt) (q3.below hb q3.lt) (q4.below hb q4.lt) (CW.keep (Keep.ofBelow (Q := fun _ => False) hb) (fun h => h) (fun h => h)) HX.out (by simpa using HN.out)) (fun b h => by have h2 := h; subst h2; (have := hC.ne; omega)) (fun w2 v h => h.far (by omega) _ _))
  have e0 := q0.cell 0 _ rfl
  have e1 := q1.cell 0 _ rfl
  go_wp2_with (go_at_call 93; refine HO.out.mono ?_; rintro e w1 ⟨rfl, hk, hg, hB⟩; have v0 := Blk.cell hg 0 _ rfl; have v1 := Blk.free hg 0; clear e0 e1)
  have hrow : Blk w1 S 304 (words l) := CW.row.keep hk (fun h => by have := hC.ne; rcases h with h | h <;> simp_all <;> omega)
  have hK : Keep (ofCells C S) w w1 := (Keep.ofBelow bW).step hk (fun b hb h => by simp only [ofCells]; omega)
  refine bodyPost_ret (v := .bool false) (by simp [results, Tryz.results287, go_sem, v0]) rfl ⟨rfl, ?_, hK.set (fun h => by simp at h; omega) _⟩
  exact hC.step (by simp) (hB.far (by omega) _ _) (Blk.far hrow (by omega) _ _)
theorem swap_no (C S : Nat) (l : List Int) (k i : Int) (o u : Int) (w : World) (hC : CellsAt w C S l k) (hi : i < 0 ∨ l.length ≤ i) :
    Calls Tryz.prog 287 #[cellsV C, .int .i64 i, .int .u64 o, .int .u64 u] w fun e w' => e = .returned (.bool false) ∧ Below w.heap.size w w' := by
  have hmf : ∀ (fn : Fn) (first cap : Array Value) (w : World), (Instr.makeFunc fn first cap).run Tryz.prog w = .ok (.func fn first cap) w := fun _ _ _ _ => rfl
  go_enter Tryz.func287, Tryz.ntmps287
  go_upto_region 1 with fail
  generalize hW : ((((w.alloc _).alloc _).alloc _).alloc _).alloc _ = W
  have bW : Below w.heap.size w W := by rw [← hW]; go_grown
  have sW : W.heap.size = w.heap.size + 5 := by rw [← hW]; simp
  have q0 : Blk W w.heap.size 36 #[cellsV C] := by rw [← hW]; have h := Blk.new w 36 #[cellsV C]; (try simp only [World.size_alloc] at h); exact ((((h.alloc _).alloc _).alloc _).alloc _)
  have q1 : Blk W (w.heap.size + 1) 3 #[.int .i64 i] := by rw [← hW]; have h := Blk.new (w.alloc (.cells #[cellsV C] 36)) 3 #[.int .i64 i]; (try simp only [World.size_alloc] at h); exact (((h.alloc _).alloc _).alloc _)
  have q2 : Blk W (w.heap.size + 2) 55 #[.int .u64 o] := by rw [← hW]; have h := Blk.new ((w.alloc (.cells #[cellsV C] 36)).alloc (.cells #[.int .i64 i] 3)) 55 #[.int .u64 o]; (try simp only [World.size_alloc] at h); exact ((h.alloc _).alloc _)
  have q3 : Blk W (w.heap.size + 3) 55 #[.int .u64 u] := by rw [← hW]; have h := Blk.new (((w.alloc (.cells #[cellsV C] 36)).alloc (.cells #[.int .i64 i] 3)).alloc (.cells #[.int .u64 o] 55)) 55 #[.int .u64 u]; (try simp only [World.size_alloc] at h); exact (h.alloc _)
  have q4 : Blk W (w.heap.size + 4) 4 #[.bool false] := by rw [← hW]; have h := Blk.new ((((w.alloc (.cells #[cellsV C] 36)).alloc (.cells #[.int .i64 i] 3)).alloc (.cells #[.int .u64 o] 55)).alloc (.cells #[.int .u64 u] 55)) 4 #[.bool false]; (try simp only [World.size_alloc] at h); exact h
  have CW : CellsAt W C S l k := hC.keep (Keep.ofBelow (Q := fun _ => False) bW) (fun h => h) (fun h => h)
  clear hW
  have HO := Lib.hid (operate_no C S l k i 298 #[.pointer (some ⟨w.heap.size, 0, none⟩), .pointer (some ⟨w.heap.size + 1, 0, none⟩), .pointer (some ⟨w.heap.size + 2, 0, none⟩), .pointer (some ⟨w.heap.size + 3, 0, none⟩), .pointer (some ⟨w.heap.size + 4, 0, none⟩)] W CW hi)
  have e0 := q0.cell 0 _ rfl
  have e1 := q1.cell 0 _ rfl
  go_wp2_with (go_at_call 93; refine HO.out.mono ?_; rintro e w1 ⟨rfl, hb⟩; have qv := q4.below hb q4.lt; have v0 := qv.cell 0 _ rfl; have v1 := qv.free 0; clear e0 e1)
  exact bodyPost_ret (v := .bool false) (by simp [results, Tryz.results287, go_sem, v0]) rfl ⟨rfl, (bW.trans (hb.mono bW.size)).setCell (by dsimp only; omega) _⟩
theorem swap_nil (i : Int) (o u : Int) (w : World) :
    Calls Tryz.prog 287 #[.pointer none, .int .i64 i, .int .u64 o, .int .u64 u] w fun e w' => e = .returned (.bool false) ∧ Below w.heap.size w w' := by
  have hmf : ∀ (fn : Fn) (first cap : Array Value) (w : World), (Instr.makeFunc fn first cap).run Tryz.prog w = .ok (.func fn first cap) w := fun _ _ _ _ => rfl
  go_enter Tryz.func287, Tryz.ntmps287
  go_upto_region 1 with fail
  generalize hW : ((((w.alloc _).alloc _).alloc _).alloc _).alloc _ = W
  have bW : Below w.heap.size w W := by rw [← hW]; go_grown
  have sW : W.heap.size = w.heap.size + 5 := by rw [← hW]; simp
  have q0 : Blk W w.heap.size 36 #[.pointer none] := by rw [← hW]; have h := Blk.new w 36 #[.pointer none]; (try simp only [World.size_alloc] at h); exact ((((h.alloc _).alloc _).alloc _).alloc _)
  have q1 : Blk W (w.heap.size + 1) 3 #[.int .i64 i] := by rw [← hW]; have h := Blk.new (w.alloc (.cells #[.pointer none] 36)) 3 #[.int .i64 i]; (try simp only [World.size_alloc] at h); exact (((h.alloc _).alloc _).alloc _)
  have q2 : Blk W (w.heap.size + 2) 55 #[.int .u64 o] := by rw [← hW]; have h := Blk.new ((w.alloc (.cells #[.pointer none] 36)).alloc (.cells #[.int .i64 i] 3)) 55 #[.int .u64 o]; (try simp only [World.size_alloc] at h); exact ((h.alloc _).alloc _)
  have q3 : Blk W (w.heap.size + 3) 55 #[.int .u64 u] := by rw [← hW]; have h := Blk.new (((w.alloc (.cells #[.pointer none] 36)).alloc (.cells #[.int .i64 i] 3)).alloc (.cells #[.int .u64 o] 55)) 55 #[.int .u64 u]; (try simp only [World.size_alloc] at h); exact (h.alloc _)
  have q4 : Blk W (w.heap.size + 4) 4 #[.bool false] := by rw [← hW]; have h := Blk.new ((((w.alloc (.cells #[.pointer none] 36)).alloc (.cells #[.int .i64 i] 3)).alloc (.cells #[.int .u64 o] 55)).alloc (.cells #[.int .u64 u] 55)) 4 #[.bool false]; (try simp only [World.size_alloc] at h); exact h
  clear hW
  have HO := Lib.hid (operate_nil i 298 #[.pointer (some ⟨w.heap.size, 0, none⟩), .pointer (some ⟨w.heap.size + 1, 0, none⟩), .pointer (some ⟨w.heap.size + 2, 0, none⟩), .pointer (some ⟨w.heap.size + 3, 0, none⟩), .pointer (some ⟨w.heap.size + 4, 0, none⟩)] W)
  have e0 := q0.cell 0 _ rfl
  have e1 := q1.cell 0 _ rfl
  go_wp2_with (go_at_call 93; refine HO.out.mono ?_; rintro e w1 ⟨rfl, hb⟩; have qv := q4.below hb q4.lt; have v0 := qv.cell 0 _ rfl; have v1 := qv.free 0; clear e0 e1)
  exact bodyPost_ret (v := .bool false) (by simp [results, Tryz.results287, go_sem, v0]) rfl ⟨rfl, (bW.trans (hb.mono bW.size)).setCell (by dsimp only; omega) _⟩
end Go.Proofs.YtmknnjjmmfbppaaGreat.Re
/- The contract of cells.All: the values of all cells, in new memory. -/
namespace Go.Proofs.YtmknnjjmmfbppaaGreat.Re
open Go.ChangeShapes Go.WideShapes Go.ChangeAt Go.RowKit Go.Shelf
set_option linter.unusedVariables false
set_option maxRecDepth 100000
set_option linter.unusedSimpArgs false
attribute [local go_sem] Oper.semAt_some
/-- what a round keeps: all below n₀, and one box -/
def Kc (n₀ Bn : Nat) (W W' : World) : Prop := Below n₀ W W' ∧ W'.heap[Bn]? = W.heap[Bn]?
theorem kc_t {n₀ Bn : Nat} {A B C : World} (h : Kc n₀ Bn A B) (k : Kc n₀ Bn B C) : Kc n₀ Bn A C := ⟨h.1.trans k.1, k.2.trans h.2⟩
theorem kc_b {n₀ Bn : Nat} {w : World} (hn : n₀ ≤ w.heap.size) (hb : Bn < w.heap.size) (W : World) (l : Nat) (o o' : Obj) (hl : w.heap.size ≤ l) (h : W.heap[l]? = some o) (h1 : o.isCells = false) (h2 : o.isWalk = false) : Kc n₀ Bn W (W.putObj l o') :=
  ⟨belowK_b hn W l o o' hl h h1 h2, World.putObj_heap_other (by omega)⟩
theorem grown_of_below {W W' : World} (h : Below W.heap.size W W') : W.grownBy W' none := ⟨h.os, h.tape, h.output, h.size, fun k hk _ => h.block k hk⟩
theorem take_snoc_w {xs : List Int} {k : Nat} {x : Int} (h : xs[k]? = some x) : xs.take (k + 1) = xs.take k ++ [x] := by
  rw [List.take_add_one, h]; rfl
theorem take_prefix_w (xs : List Int) (k : Nat) : xs.take k <+: xs := List.take_prefix k xs
set_option maxRecDepth 100000 in
set_option maxHeartbeats 2000000 in
theorem valuesC_in (n : Nat) (hn : 1 ≤ n) (l Bn n₀ C S : Nat) (xs : List Int) (k0 : Int) (J Jx : List Int → World → Prop)
    (hJ : ∀ pre W W', J pre W → Below W.heap.size W W' → J pre W')
    (hY : ∀ pre x W, J pre W → pre.length < xs.length → YieldAt Fence.wide (n - 1) Tryz.prog l #[.int .u64 x] W fun e W' =>
      (e = .returned (.bool true) ∧ J (pre ++ [x]) W' ∧ Kc n₀ Bn W W') ∨ (e = .returned (.bool false) ∧ Jx (pre ++ [x]) W'))
    (W : World) (hB : Blk W Bn 36 #[cellsV C]) (hC : CellsAt W C S xs k0) (hC1 : C < n₀) (hS1 : S < n₀) (h0 : J [] W) :
    CallsIn Fence.wide n Tryz.prog 106 #[.func (.yield l) #[] #[], .pointer (some ⟨Bn, 0, none⟩)] W fun e W' => (∃ v, e = .returned v) ∧
      ((∃ ys, ys = xs ∧ J ys W') ∨ (∃ pre, pre <+: xs ∧ Jx pre W')) := by
  have hro : Fence.wide.round = none := rfl
  have hm := hC.few
  have c0 := hB.cell 0 _ rfl
  have HLen := Lib.hid (len_any C S xs k0 W hC)
  generalize hxn : xs.length = N at *
  have HX := Lib.hid hxn
  clear hxn
  refine callsIn_of_wp Tryz.func106 rfl trivial ?_ hro
  simp only [Tryz.ntmps106, List.size_toArray, List.length_cons, List.length_nil, Nat.reduceAdd, Nat.reduceSub, Array.replicate_succ, Array.replicate_zero, List.push_toArray, List.append_toArray, List.nil_append, List.cons_append]
  gi_wp2_with (refine ⟨trivial, ?_⟩; gi_at_call 107; refine (callsIn_wide.2 HLen.out).mono ?_; rintro e w1 ⟨rfl, hb⟩)
  have B1 := hB.below hb hB.lt
  have C1 := hC.keep (Keep.ofBelow (Q := fun _ => False) hb) (fun h => h) (fun h => h)
  have J1 := hJ [] W w1 h0 hb
  clear c0
  gi_loopw [6] (fun i wr => ∃ k : Nat, k ≤ N ∧ i = .int .i64 k ∧ J (xs.take k) wr ∧ Blk wr Bn 36 #[cellsV C] ∧ CellsAt wr C S xs k0)
    (fun i wr => N - (intOf i).toNat)
  case atStart => exact ⟨0, Nat.zero_le _, rfl, J1, B1, C1⟩
  case round =>
    obtain ⟨k, hk, rfl, hJ2, hB2, hC2⟩ := hrel
    by_cases hlt : k < N
    · obtain ⟨x, hx⟩ : ∃ x, xs[k]? = some x := ⟨_, List.getElem?_eq_getElem (by rw [HX.out]; exact hlt)⟩
      have hlen : (xs.take k).length < N := by rw [List.length_take, HX.out]; omega
      obtain ⟨fn, tmps, assign, body, hy, hR⟩ := hY (xs.take k) x wr hJ2 hlen
      have HT := Lib.hid (take_snoc_w hx)
      have HP := Lib.hid (pLoad_any S xs k x wr hC2.row hx (by rw [HX.out]; omega))
      rw [HX.out] at HP
      have q0 := hB2.cell 0 _ rfl
      have q1 := hC2.own.cell 0 _ rfl
      rw [HX.out] at q1
      clear hx
      have hm1 : 0 ≤ (k : Int) := by omega
      have HM := Lib.hid (show (k : Int) + 1 ≤ 16777216 by omega)
      clear hm
      have hmeth : ∀ W, (method 416 186 (rowV S N) "Load").run Tryz.prog W = .ok (325, rowV S N) W := fun _ => by kernel_rfl
      gi_wp2_with (refine ⟨trivial, ?_⟩; gi_at_call 325; refine (callsIn_wide.2 HP.out).mono ?_; rintro e w3 ⟨rfl, rfl⟩)
      refine hR.mono ?_
      rintro e W3 (⟨rfl, hJ3, hk3⟩ | ⟨rfl, hJx3⟩)
      · have B3 : Blk W3 Bn 36 #[cellsV C] := hk3.2.trans hB2
        have C3 : CellsAt W3 C S xs k0 := ⟨hC2.own.below hk3.1 hC1, hC2.row.below hk3.1 hS1, hC2.ne, hC2.few⟩
        rw [← HT.out] at hJ3
        have hkm := HM.out
        have hk1 : (k : Int) + 1 ≤ 9223372036854775807 := by omega
        clear hkm q0 q1 hmeth
        gi_wp2
        go_roundw
        case rel => exact ⟨k + 1, by omega, by go_num, hJ3, B3, C3⟩
        case measure => simp [intOf]; omega
      · rw [← HT.out] at hJx3
        clear q0 q1 hmeth
        gi_wp2
        refine bodyPost_ret (results_none rfl _ _ _) rfl ?_
        exact ⟨⟨_, rfl⟩, .inr ⟨_, take_prefix_w xs (k + 1), hJx3⟩⟩
    · have hke : k = N := by omega
      have HE := Lib.hid hke
      clear hke hm
      gi_wp2
      go_end0
      refine ⟨⟨_, rfl⟩, .inl ⟨_, rfl, ?_⟩⟩
      rw [HE.out, ← HX.out, List.take_length] at hJ2
      exact hJ2
theorem values_in (n : Nat) (C : Nat) (w : World) :
    CallsIn Fence.wide n Tryz.prog 57 #[cellsV C] w fun e w' => e = .returned (.func (.func 106) #[] #[.pointer (some ⟨w.heap.size, 0, none⟩)]) ∧ w' = w.alloc (.cells #[cellsV C] 36) := by
  have hro : Fence.wide.round = none := rfl
  refine callsIn_of_wp Tryz.func57 rfl trivial ?_ hro
  simp only [Tryz.ntmps57, List.size_toArray, List.length_cons, List.length_nil, Nat.reduceAdd, Nat.reduceSub, Array.replicate_succ, Array.replicate_zero, List.push_toArray, List.append_toArray, List.nil_append, List.cons_append]
  gi_wp2
  go_ret
  exact ⟨rfl, by simp⟩
theorem valuesC_stops (n : Nat) (hn : 1 ≤ n) (Bn n₀ C S : Nat) (xs : List Int) (k0 : Int) (w : World) (hB : Blk w Bn 36 #[cellsV C]) (hC : CellsAt w C S xs k0) (hC1 : C < n₀) (hS1 : S < n₀) :
    SeqStopsK Fence.wide n Tryz.prog 106 #[.pointer (some ⟨Bn, 0, none⟩)] (fun x : Int => #[.int .u64 x]) (Kc n₀ Bn) (fun ys => ys = xs) (fun pre => pre <+: xs) xs.length w := fun l J Jx W hW hJ _ hY h0 =>
  valuesC_in n hn l Bn n₀ C S xs k0 J Jx (fun pre W W' h hb => hJ pre W W' none h (grown_of_below hb) (fun r e => by cases e)) hY W (hB.below hW hB.lt)
    (hC.keep (Keep.ofBelow (Q := fun _ => False) hW) (fun h => h) (fun h => h)) hC1 hS1 h0
theorem u64_size1 : (Tryz.prog.info? 55).map (fun i => (i.zero, i.size, i.bytes)) = some (some (.int .u64 0), 1, 8) := u64_info
/-- behind the reading: the variable holds a slice of the words, in new memory -/
def AllPost (n₀ a : Nat) (xs : List Int) (w w' : World) : Prop :=
  Below n₀ w w' ∧ ∃ u, Boxed w' a 34 u ∧ w'.ownsRow n₀ 55 1 u xs.length (xs.map (.int .u64))
set_option maxRecDepth 100000 in
set_option maxHeartbeats 4000000 in
theorem allC_in (n : Nat) (hn : 3 ≤ n) (b a n₀ C S : Nat) (xs : List Int) (k0 : Int) (w : World) (hB : Blk w b 36 #[cellsV C]) (hA : Boxed w a 34 (.slice none 0 0)) (hn₀ : n₀ ≤ a) (hC : CellsAt w C S xs k0) (hC1 : C < n₀) (hS1 : S < n₀) :
    CallsIn Fence.wide n Tryz.prog 56 #[.pointer (some ⟨b, 0, none⟩), .pointer (some ⟨a, 0, none⟩)] w fun e w' => e = .returned unitV ∧ AllPost n₀ a xs w w' := by
  have h1 : 1 ≤ n := by omega
  have hro : Fence.wide.round = none := rfl
  have halt := hA.lt
  have hfew := hC.few
  obtain ⟨i0, hi, hz0, hz1, hz2⟩ := info_parts u64_info
  have c0 := hB.cell 0 _ rfl
  refine callsIn_of_wp_marks Tryz.func56 rfl trivial ?_ hro
  simp only [Tryz.ntmps56, List.size_toArray, List.length_cons, List.length_nil, Nat.reduceAdd, Nat.reduceSub, Array.replicate_succ, Array.replicate_zero, List.push_toArray, List.append_toArray, List.nil_append, List.cons_append]
  gi_wp2_with (refine ⟨trivial, ?_⟩; gi_at_call 57; refine (values_in (n - 1) C _).mono ?_; rintro e w' ⟨rfl, rfl⟩)
  have bn : Blk (w.alloc (.cells #[cellsV C] 36)) w.heap.size 36 #[cellsV C] := Blk.new w _ _
  have hB0 : Below w.heap.size w (w.alloc (.cells #[cellsV C] 36)) := (Below.refl _ w).alloc (Nat.le_refl _) _
  have hsz : (w.alloc (.cells #[cellsV C] 36)).heap.size = w.heap.size + 1 := by simp
  have bA := hA.alloc (.cells #[cellsV C] 36)
  obtain ⟨W0, hW0⟩ : ∃ W0, w.alloc (.cells #[cellsV C] 36) = W0 := ⟨_, rfl⟩
  rw [hW0] at bn hB0 hsz bA ⊢
  clear hW0
  have hCW := hC.keep (Keep.ofBelow (Q := fun _ => False) hB0) (fun h => h) (fun h => h)
  refine wpIn_rangeFunc_ownH hro h1 (gf := 106) (lb := #[.pointer (some ⟨w.heap.size, 0, none⟩)]) rfl trivial (enters_of Tryz.func106 (by kernel_rfl) rfl)
    (valuesC_stops (n - 1) (by omega) w.heap.size n₀ C S xs k0 W0 bn hCW hC1 hS1) kc_t (kc_b (by omega) (by omega)) (Below.refl _ _) (fun _ => rfl)
    (fun (pre : List Int) W => (∃ u, Boxed W a 34 u ∧ W.ownsRow n₀ 55 1 u pre.length (pre.map (.int .u64)) ∧ True) ∧ (Boxed W w.heap.size 36 (cellsV C) ∧ Below n₀ w W))
    (fun c pre W => False)
    (OwnFrom.and (Own.from (holdsRow_own n₀ a 34 55 1 (fun pre : List Int => pre.length) (fun pre : List Int => pre.map (.int .u64)) (fun _ _ => True)) _) (OwnFrom.and (Own.from (boxed_own _ _ (fun _ => cellsV C)) _) (ownFrom_below (by omega) (by omega))))
    (fun c => ownFrom_pure _ _)
    ⟨⟨_, bA, World.ownsRow_nil _ _ _ _, trivial⟩, bn, hB0.mono (by omega)⟩
    (fun x a' W => a' = { tmps := #[.pointer (some ⟨b, 0, none⟩), .pointer (some ⟨a, 0, none⟩), .int .u64 x, cellsV C, .func (.func 106) #[] #[.pointer (some ⟨w.heap.size, 0, none⟩)], .int .u64 x, undef, undef, undef, undef], defers := [] })
    (fun x a' _ X Y row hs hg hr => hs)
    ?assign ?body ?done ?stop
  case assign =>
    rintro l pre x W K hI hK
    gi_wp2
    exact hK _ _ (KeepsFrom.refl _ _) ⟨Below.refl _ _, rfl⟩ hI rfl
  case body =>
    rintro l pre x a' W hl ⟨r, hr⟩ ⟨⟨u, bF1, hrow, _⟩, bP, hB1⟩ rfl hlt
    have h1' : 1 ≤ n - 1 - 1 := by omega
    have hs1 := hB1.size
    have cF := bF1.cell
    have HC := Lib.hid (show (pre ++ [x]).map (Value.int .u64) = pre.map (Value.int .u64) ++ [.int .u64 x] by simp)
    gi_wp2_with (gi_at_builtin; refine wpListIn_append_own _ rfl _ _ 34 rfl n₀ 55 i0 (.int .u64 0) 1 8 Tryz.underlying34 hi hz0 hz1 hz2 rfl (by decide) _ _ _ rfl (hrow.alloc _) ⟨W.heap.size, 0, none⟩ 1 1 [.int .u64 x] rfl rfl (cell_one_new _ _ _) (by simp [Value.oneCell']) (by unfold maxLen; omega) (by omega) (by simp; omega) ?_; intro v' w2 hown' hgrow _; obtain ⟨g', cap', rfl⟩ := ownsRow_succ hown'; obtain ⟨hv1, hv2, hr2, hk2, hb2⟩ := bF1.appended (by decide) hrow (by omega) hn₀ hown' hgrow; have hc1 := hv1.cell; have hf1 := hv1.frozen)
    have bP2 : Boxed w2 w.heap.size 36 (cellsV C) := (bP.alloc _).kept hgrow (bP.not_row (by decide) hrow)
    have bP3 := bP2.other (B' := a) (by omega) (.slice (some ⟨g', 0, none⟩) (pre.length + 1) cap')
    exact ⟨hk2.from _, ⟨hb2, bP3.trans bP.symm⟩, ⟨⟨_, hv2, by rw [HC.out]; simpa using hr2, trivial⟩, bP3, hB1.trans hb2⟩⟩
  case done =>
    rintro D ys W hD rfl ⟨⟨u, bF1, hrow, _⟩, bP, hB1⟩ hK
    gi_wp2
    refine ⟨by simp, .inl ⟨_, _, rfl, run_takeDeferred hK, ?_⟩⟩
    refine ⟨_, results_none rfl _ _ _, rfl, hB1.trans (belowK_b (w := w) (by omega) W D _ _ (by omega) hK rfl rfl), u, ?_, ?_⟩
    · exact bF1.kept (grownBy_putObj' _ D (.deferred none)) (fun e => by cases e; omega)
    · exact ownsRow_putObj hrow _ hK rfl
  case stop =>
    rintro D c pre W hD hpre h hK
    exact h.elim
theorem call_allC : ∀ (W : World) (args : Array Value), (callFunc 56 args).run Tryz.prog W = .ok (.enter 56 args) W := by
  intro W args
  go_simp
theorem allC_any (b a n₀ C S : Nat) (xs : List Int) (k0 : Int) (w : World) (hB : Blk w b 36 #[cellsV C]) (hA : Boxed w a 34 (.slice none 0 0)) (hn₀ : n₀ ≤ a) (hC : CellsAt w C S xs k0) (hC1 : C < n₀) (hS1 : S < n₀) :
    Calls Tryz.prog 56 #[.pointer (some ⟨b, 0, none⟩), .pointer (some ⟨a, 0, none⟩)] w fun e w' => e = .returned unitV ∧ AllPost n₀ a xs w w' :=
  callsIn_wide.1 (allC_in 3 (Nat.le_refl _) b a n₀ C S xs k0 w hB hA hn₀ hC hC1 hS1)
/-- the values of all cells -/
def AllIs (w : World) (xs : List Int) (e : Ending) (w' : World) : Prop :=
  ∃ u, e = .returned u ∧ Below w.heap.size w w' ∧ w'.ownsRow w.heap.size 55 1 u xs.length (xs.map (.int .u64))
theorem all_any (C S : Nat) (xs : List Int) (k0 : Int) (w : World) (hC : CellsAt w C S xs k0) :
    Calls Tryz.prog 12 #[cellsV C] w (AllIs w xs) := by
  have hCl := hC.own.lt
  have hSl := hC.row.lt
  have hmf : ∀ (fn : Fn) (first cap : Array Value) (w : World), (Instr.makeFunc fn first cap).run Tryz.prog w = .ok (.func fn first cap) w := fun _ _ _ _ => rfl
  go_enter Tryz.func12, Tryz.ntmps12
  go_upto_region 2 with fail
  generalize hW : (w.alloc _).alloc _ = W
  have bW : Below w.heap.size w W := by rw [← hW]; go_grown
  have cW : Blk W w.heap.size 36 #[cellsV C] := by rw [← hW]; exact (Blk.new w _ _).alloc _
  have aW : Boxed W (w.heap.size + 1) 34 (.slice none 0 0) := by rw [← hW]; exact blk_two w _ _ _
  have CW : CellsAt W C S xs k0 := hC.keep (Keep.ofBelow (Q := fun _ => False) bW) (fun h => h) (fun h => h)
  clear hW
  have HA := Lib.hid (attempt_any 56 _ W _ call_allC (allC_any w.heap.size (w.heap.size + 1) w.heap.size C S xs k0 W cW aW (by omega) CW hCl hSl))
  go_upto_region 3 with (refine HA.out.mono ?_; rintro e w1 ⟨rfl, hb, u, hu, hrow⟩)
  obtain ⟨ua, ul, uc, rfl⟩ : ∃ ua ul uc, u = .slice ua ul uc := by
    rcases hrow.2 with ⟨rfl, _⟩ | ⟨g, cap, cur, rfl, _⟩
    · exact ⟨_, _, _, rfl⟩
    · exact ⟨_, _, _, rfl⟩
  have u0 := hu.cell
  go_wp2_with fail
  go_ret
  exact ⟨_, rfl, bW.trans hb, hrow⟩
/- nil cells -/
set_option maxRecDepth 100000 in
set_option maxHeartbeats 2000000 in
theorem valuesN_in (n : Nat) (hn : 1 ≤ n) (l Bn n₀ : Nat) (J Jx : List Int → World → Prop)
    (hJ : ∀ pre W W', J pre W → Below W.heap.size W W' → J pre W')
    (W : World) (hB : Blk W Bn 36 #[.pointer none]) (h0 : J [] W) :
    CallsIn Fence.wide n Tryz.prog 106 #[.func (.yield l) #[] #[], .pointer (some ⟨Bn, 0, none⟩)] W fun e W' => (∃ v, e = .returned v) ∧
      ((∃ ys, ys = [] ∧ J ys W') ∨ (∃ pre, pre <+: [] ∧ Jx pre W')) := by
  have hro : Fence.wide.round = none := rfl
  have c0 := hB.cell 0 _ rfl
  have HLen := Lib.hid (len_nil W)
  refine callsIn_of_wp Tryz.func106 rfl trivial ?_ hro
  simp only [Tryz.ntmps106, List.size_toArray, List.length_cons, List.length_nil, Nat.reduceAdd, Nat.reduceSub, Array.replicate_succ, Array.replicate_zero, List.push_toArray, List.append_toArray, List.nil_append, List.cons_append]
  gi_wp2_with (refine ⟨trivial, ?_⟩; gi_at_call 107; refine (callsIn_wide.2 HLen.out).mono ?_; rintro e w1 ⟨rfl, hb⟩)
  have J1 := hJ [] W w1 h0 hb
  clear c0
  gi_loopw [6] (fun i wr => i = .int .i64 0 ∧ J [] wr)
    (fun i wr => 0)
  case atStart => exact ⟨rfl, J1⟩
  case round =>
    obtain ⟨rfl, hJ2⟩ := hrel
    gi_wp2
    go_end0
    exact ⟨⟨_, rfl⟩, .inl ⟨[], rfl, hJ2⟩⟩
theorem valuesN_stops (n : Nat) (hn : 1 ≤ n) (Bn n₀ : Nat) (w : World) (hB : Blk w Bn 36 #[.pointer none]) :
    SeqStopsK Fence.wide n Tryz.prog 106 #[.pointer (some ⟨Bn, 0, none⟩)] (fun x : Int => #[.int .u64 x]) (Kc n₀ Bn) (fun ys => ys = []) (fun pre => pre <+: []) 0 w := fun l J Jx W hW hJ _ hY h0 =>
  valuesN_in n hn l Bn n₀ J Jx (fun pre W W' h hb => hJ pre W W' none h (grown_of_below hb) (fun r e => by cases e)) W (hB.below hW hB.lt) h0
theorem valuesN_call (n : Nat) (w : World) :
    CallsIn Fence.wide n Tryz.prog 57 #[.pointer none] w fun e w' => e = .returned (.func (.func 106) #[] #[.pointer (some ⟨w.heap.size, 0, none⟩)]) ∧ w' = w.alloc (.cells #[.pointer none] 36) := by
  have hro : Fence.wide.round = none := rfl
  refine callsIn_of_wp Tryz.func57 rfl trivial ?_ hro
  simp only [Tryz.ntmps57, List.size_toArray, List.length_cons, List.length_nil, Nat.reduceAdd, Nat.reduceSub, Array.replicate_succ, Array.replicate_zero, List.push_toArray, List.append_toArray, List.nil_append, List.cons_append]
  gi_wp2
  go_ret
  exact ⟨rfl, by simp⟩
set_option maxRecDepth 100000 in
set_option maxHeartbeats 4000000 in
theorem allN_in (n : Nat) (hn : 3 ≤ n) (b a n₀ : Nat) (w : World) (hB : Blk w b 36 #[.pointer none]) (hA : Boxed w a 34 (.slice none 0 0)) (hn₀ : n₀ ≤ a) :
    CallsIn Fence.wide n Tryz.prog 56 #[.pointer (some ⟨b, 0, none⟩), .pointer (some ⟨a, 0, none⟩)] w fun e w' => e = .returned unitV ∧ Below n₀ w w' ∧ Boxed w' a 34 (.slice none 0 0) := by
  have h1 : 1 ≤ n := by omega
  have hro : Fence.wide.round = none := rfl
  have halt := hA.lt
  have c0 := hB.cell 0 _ rfl
  refine callsIn_of_wp_marks Tryz.func56 rfl trivial ?_ hro
  simp only [Tryz.ntmps56, List.size_toArray, List.length_cons, List.length_nil, Nat.reduceAdd, Nat.reduceSub, Array.replicate_succ, Array.replicate_zero, List.push_toArray, List.append_toArray, List.nil_append, List.cons_append]
  gi_wp2_with (refine ⟨trivial, ?_⟩; gi_at_call 57; refine (valuesN_call (n - 1) _).mono ?_; rintro e w' ⟨rfl, rfl⟩)
  have bn : Blk (w.alloc (.cells #[.pointer none] 36)) w.heap.size 36 #[.pointer none] := Blk.new w _ _
  have hB0 : Below w.heap.size w (w.alloc (.cells #[.pointer none] 36)) := (Below.refl _ w).alloc (Nat.le_refl _) _
  have hsz : (w.alloc (.cells #[.pointer none] 36)).heap.size = w.heap.size + 1 := by simp
  have bA := hA.alloc (.cells #[.pointer none] 36)
  obtain ⟨W0, hW0⟩ : ∃ W0, w.alloc (.cells #[.pointer none] 36) = W0 := ⟨_, rfl⟩
  rw [hW0] at bn hB0 hsz bA ⊢
  clear hW0
  refine wpIn_rangeFunc_ownH hro h1 (gf := 106) (lb := #[.pointer (some ⟨w.heap.size, 0, none⟩)]) rfl trivial (enters_of Tryz.func106 (by kernel_rfl) rfl)
    (valuesN_stops (n - 1) (by omega) w.heap.size n₀ W0 bn) kc_t (kc_b (by omega) (by omega)) (Below.refl _ _) (fun _ => rfl)
    (fun (pre : List Int) W => (pre = [] ∧ Boxed W a 34 (.slice none 0 0)) ∧ Below n₀ w W)
    (fun c pre W => False)
    (OwnFrom.and (OwnFrom.and (ownFrom_pure _ _) (Own.from (boxed_own _ _ (fun _ => .slice none 0 0)) _)) (ownFrom_below (by omega) (by omega)))
    (fun c => ownFrom_pure _ _)
    ⟨⟨rfl, bA⟩, hB0.mono (by omega)⟩
    (fun x a' W => True)
    (fun x a' _ X Y row hs hg hr => hs)
    ?assign ?body ?done ?stop
  case assign =>
    rintro l pre x W K hI hK
    gi_wp2
    exact hK _ _ (KeepsFrom.refl _ _) ⟨Below.refl _ _, rfl⟩ hI trivial
  case body =>
    rintro l pre x a' W hl ⟨r, hr⟩ _ _ hlt
    exact absurd hlt (Nat.not_lt_zero _)
  case done =>
    rintro D ys W hD rfl ⟨⟨_, bF1⟩, hB1⟩ hK
    gi_wp2
    refine ⟨by simp, .inl ⟨_, _, rfl, run_takeDeferred hK, ?_⟩⟩
    exact ⟨_, results_none rfl _ _ _, rfl, hB1.trans (belowK_b (w := w) (by omega) W D _ _ (by omega) hK rfl rfl), bF1.kept (grownBy_putObj' _ D (.deferred none)) (fun e => by cases e; omega)⟩
  case stop =>
    rintro D c pre W hD hpre h hK
    exact h.elim
theorem all_nil (w : World) : Calls Tryz.prog 12 #[.pointer none] w fun e w' => e = .returned (.slice none 0 0) ∧ Below w.heap.size w w' := by
  have hmf : ∀ (fn : Fn) (first cap : Array Value) (w : World), (Instr.makeFunc fn first cap).run Tryz.prog w = .ok (.func fn first cap) w := fun _ _ _ _ => rfl
  go_enter Tryz.func12, Tryz.ntmps12
  go_upto_region 2 with fail
  generalize hW : (w.alloc _).alloc _ = W
  have bW : Below w.heap.size w W := by rw [← hW]; go_grown
  have cW : Blk W w.heap.size 36 #[.pointer none] := by rw [← hW]; exact (Blk.new w _ _).alloc _
  have aW : Boxed W (w.heap.size + 1) 34 (.slice none 0 0) := by rw [← hW]; exact blk_two w _ _ _
  clear hW
  have HA := Lib.hid (attempt_any 56 _ W _ call_allC (callsIn_wide.1 (allN_in 3 (Nat.le_refl _) w.heap.size (w.heap.size + 1) w.heap.size W cW aW (by omega))))
  go_upto_region 3 with (refine HA.out.mono ?_; rintro e w1 ⟨rfl, hb, hu⟩)
  have u0 := hu.cell
  go_wp2_with fail
  go_ret
  exact ⟨rfl, bW.trans hb⟩
end Go.Proofs.YtmknnjjmmfbppaaGreat.Re
