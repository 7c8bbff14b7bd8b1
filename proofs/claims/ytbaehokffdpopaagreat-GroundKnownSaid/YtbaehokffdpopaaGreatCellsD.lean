/- Contracts of package cells: Load, Store, Swap, Add, as callers see them. -/
import Derived.Test.YtbaehokffdpopaaGreatCellsC
namespace Go.Proofs.YtbaehokffdpopaaGreat
open Go.ChangeShapes Go.WideShapes Go.ChangeAt Go.RowKit
set_option linter.unusedVariables false
set_option maxRecDepth 100000
set_option linter.unusedSimpArgs false
abbrev ofCells (C S : Nat) : Nat → Prop := fun b => b = C ∨ b = S
theorem CellsAt.step {w w' : World} {C S : Nat} {l l' : List Int} {k k' : Int} (h : CellsAt w C S l k) (hl : l'.length = l.length) (h1 : Blk w' C 143 #[.iface 165 (rowV S l.length), .int .i64 k'])
    (h2 : Blk w' S 55 (words l')) : CellsAt w' C S l' k' := ⟨by rw [hl]; exact h1, h2, h.ne, by rw [hl]; exact h.few⟩
theorem load_yes (C S : Nat) (l : List Int) (k : Int) (i : Nat) (x : Int) (w : World) (hC : CellsAt w C S l k) (hx : l[i]? = some x) (h0 : 0 ≤ k) (h1 : k < 9223372036854775807) :
    Calls Tryz.prog 204 #[cellsV C, .int .i64 i] w fun e w' => e = .returned (.int .u64 x) ∧ CellsAt w' C S (l) (k + 1) ∧ Keep (ofCells C S) w w' := by
  have hlt : i < l.length := by rw [List.getElem?_eq_some_iff] at hx; exact hx.1
  have hCl := hC.own.lt
  have hSl := hC.row.lt
  have hmf : ∀ (fn : Fn) (first cap : Array Value) (w : World), (Instr.makeFunc fn first cap).run Tryz.prog w = .ok (.func fn first cap) w := fun _ _ _ _ => rfl
  have HH : Hid True := Lib.hid trivial
  have HX := Lib.hid hx
  clear hx
  go_enter Tryz.func204, Tryz.ntmps204
  go_upto_region 1 with fail
  generalize hW : ((w.alloc _).alloc _).alloc _ = W
  have bW : Below w.heap.size w W := by rw [← hW]; go_grown
  have sW : W.heap.size = w.heap.size + 3 := by rw [← hW]; simp
  have q0 : Blk W w.heap.size 36 #[cellsV C] := by rw [← hW]; have h := Blk.new w 36 #[cellsV C]; (try simp only [World.size_alloc] at h); exact ((h.alloc _).alloc _)
  have q1 : Blk W (w.heap.size + 1) 3 #[.int .i64 i] := by rw [← hW]; have h := Blk.new (w.alloc (.cells #[cellsV C] 36)) 3 #[.int .i64 i]; (try simp only [World.size_alloc] at h); exact (h.alloc _)
  have q2 : Blk W (w.heap.size + 2) 55 #[.int .u64 0] := by rw [← hW]; have h := Blk.new ((w.alloc (.cells #[cellsV C] 36)).alloc (.cells #[.int .i64 i] 3)) 55 #[.int .u64 0]; (try simp only [World.size_alloc] at h); exact h
  have CW : CellsAt W C S l k := hC.keep (Keep.ofBelow (Q := fun _ => False) bW) (fun h => h) (fun h => h)
  clear hW
  have HO := Lib.hid (operate_yes C S l k i 234 #[.pointer (some ⟨w.heap.size, 0, none⟩), .pointer (some ⟨w.heap.size + 1, 0, none⟩), .pointer (some ⟨w.heap.size + 2, 0, none⟩)] W (fun b => b = w.heap.size + 2) (fun w2 => Blk w2 (w.heap.size + 2) 55 #[.int .u64 x]) CW hlt h0 h1 call_loadC (fun w1 hb => loadC_any _ _ _ C S l k x i _ w1 (q0.below hb q0.lt) (q1.below hb q1.lt) (q2.below hb q2.lt) (CW.keep (Keep.ofBelow (Q := fun _ => False) hb) (fun h => h) (fun h => h)) HX.out) (fun b h => by have h2 := h; subst h2; (have := hC.ne; omega)) (fun w2 v h => h.far (by omega) _ _))
  have e0 := q0.cell 0 _ rfl
  have e1 := q1.cell 0 _ rfl
  go_wp2_with (go_at_call 100; refine HO.out.mono ?_; rintro e w1 ⟨rfl, hk, hg, hB⟩; have v0 := Blk.cell hg 0 _ rfl; have v1 := Blk.free hg 0; clear e0 e1)
  have hrow : Blk w1 S 55 (words l) := CW.row.keep hk (fun h => by have := hC.ne; rcases h with h | h <;> simp_all <;> omega)
  have hK : Keep (ofCells C S) w w1 := (Keep.ofBelow bW).step hk (fun b hb h => by simp only [ofCells]; omega)
  refine bodyPost_ret (v := .int .u64 x) (by simp [results, Tryz.results204, go_sem, v0]) rfl ⟨rfl, ?_, hK.set (fun h => by simp at h; omega) _⟩
  exact hC.step (by simp) (hB.far (by omega) _ _) (Blk.far hrow (by omega) _ _)
theorem load_no (C S : Nat) (l : List Int) (k i : Int) (w : World) (hC : CellsAt w C S l k) (hi : i < 0 ∨ l.length ≤ i) :
    Calls Tryz.prog 204 #[cellsV C, .int .i64 i] w fun e w' => e = .returned (.int .u64 0) ∧ Below w.heap.size w w' := by
  have hmf : ∀ (fn : Fn) (first cap : Array Value) (w : World), (Instr.makeFunc fn first cap).run Tryz.prog w = .ok (.func fn first cap) w := fun _ _ _ _ => rfl
  go_enter Tryz.func204, Tryz.ntmps204
  go_upto_region 1 with fail
  generalize hW : ((w.alloc _).alloc _).alloc _ = W
  have bW : Below w.heap.size w W := by rw [← hW]; go_grown
  have sW : W.heap.size = w.heap.size + 3 := by rw [← hW]; simp
  have q0 : Blk W w.heap.size 36 #[cellsV C] := by rw [← hW]; have h := Blk.new w 36 #[cellsV C]; (try simp only [World.size_alloc] at h); exact ((h.alloc _).alloc _)
  have q1 : Blk W (w.heap.size + 1) 3 #[.int .i64 i] := by rw [← hW]; have h := Blk.new (w.alloc (.cells #[cellsV C] 36)) 3 #[.int .i64 i]; (try simp only [World.size_alloc] at h); exact (h.alloc _)
  have q2 : Blk W (w.heap.size + 2) 55 #[.int .u64 0] := by rw [← hW]; have h := Blk.new ((w.alloc (.cells #[cellsV C] 36)).alloc (.cells #[.int .i64 i] 3)) 55 #[.int .u64 0]; (try simp only [World.size_alloc] at h); exact h
  have CW : CellsAt W C S l k := hC.keep (Keep.ofBelow (Q := fun _ => False) bW) (fun h => h) (fun h => h)
  clear hW
  have HO := Lib.hid (operate_no C S l k i 234 #[.pointer (some ⟨w.heap.size, 0, none⟩), .pointer (some ⟨w.heap.size + 1, 0, none⟩), .pointer (some ⟨w.heap.size + 2, 0, none⟩)] W CW hi)
  have e0 := q0.cell 0 _ rfl
  have e1 := q1.cell 0 _ rfl
  go_wp2_with (go_at_call 100; refine HO.out.mono ?_; rintro e w1 ⟨rfl, hb⟩; have qv := q2.below hb q2.lt; have v0 := qv.cell 0 _ rfl; have v1 := qv.free 0; clear e0 e1)
  exact bodyPost_ret (v := .int .u64 0) (by simp [results, Tryz.results204, go_sem, v0]) rfl ⟨rfl, (bW.trans (hb.mono bW.size)).setCell (by dsimp only; omega) _⟩
theorem load_nil (i : Int) (w : World) :
    Calls Tryz.prog 204 #[.pointer none, .int .i64 i] w fun e w' => e = .returned (.int .u64 0) ∧ Below w.heap.size w w' := by
  have hmf : ∀ (fn : Fn) (first cap : Array Value) (w : World), (Instr.makeFunc fn first cap).run Tryz.prog w = .ok (.func fn first cap) w := fun _ _ _ _ => rfl
  go_enter Tryz.func204, Tryz.ntmps204
  go_upto_region 1 with fail
  generalize hW : ((w.alloc _).alloc _).alloc _ = W
  have bW : Below w.heap.size w W := by rw [← hW]; go_grown
  have sW : W.heap.size = w.heap.size + 3 := by rw [← hW]; simp
  have q0 : Blk W w.heap.size 36 #[.pointer none] := by rw [← hW]; have h := Blk.new w 36 #[.pointer none]; (try simp only [World.size_alloc] at h); exact ((h.alloc _).alloc _)
  have q1 : Blk W (w.heap.size + 1) 3 #[.int .i64 i] := by rw [← hW]; have h := Blk.new (w.alloc (.cells #[.pointer none] 36)) 3 #[.int .i64 i]; (try simp only [World.size_alloc] at h); exact (h.alloc _)
  have q2 : Blk W (w.heap.size + 2) 55 #[.int .u64 0] := by rw [← hW]; have h := Blk.new ((w.alloc (.cells #[.pointer none] 36)).alloc (.cells #[.int .i64 i] 3)) 55 #[.int .u64 0]; (try simp only [World.size_alloc] at h); exact h
  clear hW
  have HO := Lib.hid (operate_nil i 234 #[.pointer (some ⟨w.heap.size, 0, none⟩), .pointer (some ⟨w.heap.size + 1, 0, none⟩), .pointer (some ⟨w.heap.size + 2, 0, none⟩)] W)
  have e0 := q0.cell 0 _ rfl
  have e1 := q1.cell 0 _ rfl
  go_wp2_with (go_at_call 100; refine HO.out.mono ?_; rintro e w1 ⟨rfl, hb⟩; have qv := q2.below hb q2.lt; have v0 := qv.cell 0 _ rfl; have v1 := qv.free 0; clear e0 e1)
  exact bodyPost_ret (v := .int .u64 0) (by simp [results, Tryz.results204, go_sem, v0]) rfl ⟨rfl, (bW.trans (hb.mono bW.size)).setCell (by dsimp only; omega) _⟩
theorem store_yes (C S : Nat) (l : List Int) (k : Int) (i : Nat) (x : Int) (u : Int) (w : World) (hC : CellsAt w C S l k) (hx : l[i]? = some x) (h0 : 0 ≤ k) (h1 : k < 9223372036854775807) :
    Calls Tryz.prog 40 #[cellsV C, .int .i64 i, .int .u64 u] w fun e w' => e = .returned (.bool true) ∧ CellsAt w' C S (l.set i u) (k + 1) ∧ Keep (ofCells C S) w w' := by
  have hlt : i < l.length := by rw [List.getElem?_eq_some_iff] at hx; exact hx.1
  have hCl := hC.own.lt
  have hSl := hC.row.lt
  have hmf : ∀ (fn : Fn) (first cap : Array Value) (w : World), (Instr.makeFunc fn first cap).run Tryz.prog w = .ok (.func fn first cap) w := fun _ _ _ _ => rfl
  have HH : Hid True := Lib.hid trivial
  have HX := Lib.hid hx
  clear hx
  go_enter Tryz.func40, Tryz.ntmps40
  go_upto_region 1 with fail
  generalize hW : ((w.alloc _).alloc _).alloc _ = W
  have bW : Below w.heap.size w W := by rw [← hW]; go_grown
  have sW : W.heap.size = w.heap.size + 3 := by rw [← hW]; simp
  have q0 : Blk W w.heap.size 36 #[cellsV C] := by rw [← hW]; have h := Blk.new w 36 #[cellsV C]; (try simp only [World.size_alloc] at h); exact ((h.alloc _).alloc _)
  have q1 : Blk W (w.heap.size + 1) 3 #[.int .i64 i] := by rw [← hW]; have h := Blk.new (w.alloc (.cells #[cellsV C] 36)) 3 #[.int .i64 i]; (try simp only [World.size_alloc] at h); exact (h.alloc _)
  have q2 : Blk W (w.heap.size + 2) 55 #[.int .u64 u] := by rw [← hW]; have h := Blk.new ((w.alloc (.cells #[cellsV C] 36)).alloc (.cells #[.int .i64 i] 3)) 55 #[.int .u64 u]; (try simp only [World.size_alloc] at h); exact h
  have CW : CellsAt W C S l k := hC.keep (Keep.ofBelow (Q := fun _ => False) bW) (fun h => h) (fun h => h)
  clear hW
  have HO := Lib.hid (operate_yes C S l k i 101 #[.pointer (some ⟨w.heap.size, 0, none⟩), .pointer (some ⟨w.heap.size + 1, 0, none⟩), .pointer (some ⟨w.heap.size + 2, 0, none⟩)] W (fun b => b = S) (fun w2 => Blk w2 S 55 (words (l.set i u))) CW hlt h0 h1 call_storeC (fun w1 hb => storeC_any _ _ _ C S l k x u i w1 (q0.below hb q0.lt) (q1.below hb q1.lt) (q2.below hb q2.lt) (CW.keep (Keep.ofBelow (Q := fun _ => False) hb) (fun h => h) (fun h => h)) HX.out) (fun b h => by have h2 := h; subst h2; (have := hC.ne; omega)) (fun w2 v h => h.far (Ne.symm hC.ne) _ _))
  have e0 := q0.cell 0 _ rfl
  have e1 := q1.cell 0 _ rfl
  go_wp2_with (go_at_call 100; refine HO.out.mono ?_; rintro e w1 ⟨rfl, hk, hg, hB⟩; clear e0 e1)
  have hK : Keep (ofCells C S) w w1 := (Keep.ofBelow bW).step hk (fun b hb h => by simp only [ofCells]; omega)
  go_ret
  exact ⟨rfl, hC.step (by simp) hB hg, hK⟩
theorem store_no (C S : Nat) (l : List Int) (k i : Int) (u : Int) (w : World) (hC : CellsAt w C S l k) (hi : i < 0 ∨ l.length ≤ i) :
    Calls Tryz.prog 40 #[cellsV C, .int .i64 i, .int .u64 u] w fun e w' => e = .returned (.bool false) ∧ Below w.heap.size w w' := by
  have hmf : ∀ (fn : Fn) (first cap : Array Value) (w : World), (Instr.makeFunc fn first cap).run Tryz.prog w = .ok (.func fn first cap) w := fun _ _ _ _ => rfl
  go_enter Tryz.func40, Tryz.ntmps40
  go_upto_region 1 with fail
  generalize hW : ((w.alloc _).alloc _).alloc _ = W
  have bW : Below w.heap.size w W := by rw [← hW]; go_grown
  have sW : W.heap.size = w.heap.size + 3 := by rw [← hW]; simp
  have q0 : Blk W w.heap.size 36 #[cellsV C] := by rw [← hW]; have h := Blk.new w 36 #[cellsV C]; (try simp only [World.size_alloc] at h); exact ((h.alloc _).alloc _)
  have q1 : Blk W (w.heap.size + 1) 3 #[.int .i64 i] := by rw [← hW]; have h := Blk.new (w.alloc (.cells #[cellsV C] 36)) 3 #[.int .i64 i]; (try simp only [World.size_alloc] at h); exact (h.alloc _)
  have q2 : Blk W (w.heap.size + 2) 55 #[.int .u64 u] := by rw [← hW]; have h := Blk.new ((w.alloc (.cells #[cellsV C] 36)).alloc (.cells #[.int .i64 i] 3)) 55 #[.int .u64 u]; (try simp only [World.size_alloc] at h); exact h
  have CW : CellsAt W C S l k := hC.keep (Keep.ofBelow (Q := fun _ => False) bW) (fun h => h) (fun h => h)
  clear hW
  have HO := Lib.hid (operate_no C S l k i 101 #[.pointer (some ⟨w.heap.size, 0, none⟩), .pointer (some ⟨w.heap.size + 1, 0, none⟩), .pointer (some ⟨w.heap.size + 2, 0, none⟩)] W CW hi)
  have e0 := q0.cell 0 _ rfl
  have e1 := q1.cell 0 _ rfl
  go_wp2_with (go_at_call 100; refine HO.out.mono ?_; rintro e w1 ⟨rfl, hb⟩; clear e0 e1)
  go_ret
  exact ⟨rfl, bW.trans (hb.mono bW.size)⟩
theorem store_nil (i : Int) (u : Int) (w : World) :
    Calls Tryz.prog 40 #[.pointer none, .int .i64 i, .int .u64 u] w fun e w' => e = .returned (.bool false) ∧ Below w.heap.size w w' := by
  have hmf : ∀ (fn : Fn) (first cap : Array Value) (w : World), (Instr.makeFunc fn first cap).run Tryz.prog w = .ok (.func fn first cap) w := fun _ _ _ _ => rfl
  go_enter Tryz.func40, Tryz.ntmps40
  go_upto_region 1 with fail
  generalize hW : ((w.alloc _).alloc _).alloc _ = W
  have bW : Below w.heap.size w W := by rw [← hW]; go_grown
  have sW : W.heap.size = w.heap.size + 3 := by rw [← hW]; simp
  have q0 : Blk W w.heap.size 36 #[.pointer none] := by rw [← hW]; have h := Blk.new w 36 #[.pointer none]; (try simp only [World.size_alloc] at h); exact ((h.alloc _).alloc _)
  have q1 : Blk W (w.heap.size + 1) 3 #[.int .i64 i] := by rw [← hW]; have h := Blk.new (w.alloc (.cells #[.pointer none] 36)) 3 #[.int .i64 i]; (try simp only [World.size_alloc] at h); exact (h.alloc _)
  have q2 : Blk W (w.heap.size + 2) 55 #[.int .u64 u] := by rw [← hW]; have h := Blk.new ((w.alloc (.cells #[.pointer none] 36)).alloc (.cells #[.int .i64 i] 3)) 55 #[.int .u64 u]; (try simp only [World.size_alloc] at h); exact h
  clear hW
  have HO := Lib.hid (operate_nil i 101 #[.pointer (some ⟨w.heap.size, 0, none⟩), .pointer (some ⟨w.heap.size + 1, 0, none⟩), .pointer (some ⟨w.heap.size + 2, 0, none⟩)] W)
  have e0 := q0.cell 0 _ rfl
  have e1 := q1.cell 0 _ rfl
  go_wp2_with (go_at_call 100; refine HO.out.mono ?_; rintro e w1 ⟨rfl, hb⟩; clear e0 e1)
  go_ret
  exact ⟨rfl, bW.trans (hb.mono bW.size)⟩
theorem swap_yes (C S : Nat) (l : List Int) (k : Int) (i : Nat) (o u : Int) (w : World) (hC : CellsAt w C S l k) (hx : l[i]? = some o) (h0 : 0 ≤ k) (h1 : k < 9223372036854775807) :
    Calls Tryz.prog 191 #[cellsV C, .int .i64 i, .int .u64 o, .int .u64 u] w fun e w' => e = .returned (.bool true) ∧ CellsAt w' C S (l.set i u) (k + 1) ∧ Keep (ofCells C S) w w' := by
  have hlt : i < l.length := by rw [List.getElem?_eq_some_iff] at hx; exact hx.1
  have hCl := hC.own.lt
  have hSl := hC.row.lt
  have hmf : ∀ (fn : Fn) (first cap : Array Value) (w : World), (Instr.makeFunc fn first cap).run Tryz.prog w = .ok (.func fn first cap) w := fun _ _ _ _ => rfl
  have HH : Hid True := Lib.hid trivial
  have HX := Lib.hid hx
  clear hx
  go_enter Tryz.func191, Tryz.ntmps191
  go_upto_region 1 with fail
  generalize hW : ((((w.alloc _).alloc _).alloc _).alloc _).alloc _ = W
  have bW : Below w.heap.size w W := by rw [← hW]; go_grown
  have sW : W.heap.size = w.heap.size + 5 := by rw [← hW]; simp
  have q0 : Blk W w.heap.size 36 #[cellsV C] := by rw [← hW]; have h := Blk.new w 36 #[cellsV C]; (try simp only [World.size_alloc] at h); exact ((((h.alloc _).alloc _).alloc _).alloc _)
  have q1 : Blk W (w.heap.size + 1) 3 #[.int .i64 i] := by rw [← hW]; have h := Blk.new (w.alloc (.cells #[cellsV C] 36)) 3 #[.int .i64 i]; (try simp only [World.size_alloc] at h); exact (((h.alloc _).alloc _).alloc _)
  have q2 : Blk W (w.heap.size + 2) 55 #[.int .u64 o] := by rw [← hW]; have h := Blk.new ((w.alloc (.cells #[cellsV C] 36)).alloc (.cells #[.int .i64 i] 3)) 55 #[.int .u64 o]; (try simp only [World.size_alloc] at h); exact ((h.alloc _).alloc _)
  have q3 : Blk W (w.heap.size + 3) 55 #[.int .u64 u] := by rw [← hW]; have h := Blk.new (((w.alloc (.cells #[cellsV C] 36)).alloc (.cells #[.int .i64 i] 3)).alloc (.cells #[.int .u64 o] 55)) 55 #[.int .u64 u]; (try simp only [World.size_alloc] at h); exact (h.alloc _)
  have q4 : Blk W (w.heap.size + 4) 4 #[.bool false] := by rw [← hW]; have h := Blk.new ((((w.alloc (.cells #[cellsV C] 36)).alloc (.cells #[.int .i64 i] 3)).alloc (.cells #[.int .u64 o] 55)).alloc (.cells #[.int .u64 u] 55)) 4 #[.bool false]; (try simp only [World.size_alloc] at h); exact h
  have CW : CellsAt W C S l k := hC.keep (Keep.ofBelow (Q := fun _ => False) bW) (fun h => h) (fun h => h)
  clear hW
  have HO := Lib.hid (operate_yes C S l k i 230 #[.pointer (some ⟨w.heap.size, 0, none⟩), .pointer (some ⟨w.heap.size + 1, 0, none⟩), .pointer (some ⟨w.heap.size + 2, 0, none⟩), .pointer (some ⟨w.heap.size + 3, 0, none⟩), .pointer (some ⟨w.heap.size + 4, 0, none⟩)] W (fun b => b = S ∨ b = w.heap.size + 4) (fun w2 => Blk w2 S 55 (words (l.set i u)) ∧ Blk w2 (w.heap.size + 4) 4 #[.bool true]) CW hlt h0 h1 call_swapC (fun w1 hb => swapC_yes _ _ _ _ _ C S l k o u i _ w1 (q0.below hb q0.lt) (q1.below hb q1.lt) (q2.below hb q2.lt) (q3.below hb q3.lt) (q4.below hb q4.lt) (CW.keep (Keep.ofBelow (Q := fun _ => False) hb) (fun h => h) (fun h => h)) HX.out (by omega)) (fun b h => by rcases h with rfl | rfl <;> (have := hC.ne; omega)) (fun w2 v h => ⟨h.1.far (Ne.symm hC.ne) _ _, h.2.far (by omega) _ _⟩))
  have e0 := q0.cell 0 _ rfl
  have e1 := q1.cell 0 _ rfl
  go_wp2_with (go_at_call 100; refine HO.out.mono ?_; rintro e w1 ⟨rfl, hk, hg, hB⟩; have v0 := Blk.cell hg.2 0 _ rfl; have v1 := Blk.free hg.2 0; clear e0 e1)
  have hK : Keep (ofCells C S) w w1 := (Keep.ofBelow bW).step hk (fun b hb h => by simp only [ofCells]; omega)
  refine bodyPost_ret (v := .bool true) (by simp [results, Tryz.results191, go_sem, v0]) rfl ⟨rfl, ?_, hK.set (fun h => by simp at h; omega) _⟩
  exact hC.step (by simp) (hB.far (by omega) _ _) (Blk.far hg.1 (by omega) _ _)
theorem swap_other (C S : Nat) (l : List Int) (k : Int) (i : Nat) (x : Int) (o u : Int) (w : World) (hC : CellsAt w C S l k) (hx : l[i]? = some x) (hne : x ≠ o) (h0 : 0 ≤ k) (h1 : k < 9223372036854775807) :
    Calls Tryz.prog 191 #[cellsV C, .int .i64 i, .int .u64 o, .int .u64 u] w fun e w' => e = .returned (.bool false) ∧ CellsAt w' C S (l) (k + 1) ∧ Keep (ofCells C S) w w' := by
  have hlt : i < l.length := by rw [List.getElem?_eq_some_iff] at hx; exact hx.1
  have hCl := hC.own.lt
  have hSl := hC.row.lt
  have hmf : ∀ (fn : Fn) (first cap : Array Value) (w : World), (Instr.makeFunc fn first cap).run Tryz.prog w = .ok (.func fn first cap) w := fun _ _ _ _ => rfl
  have HH : Hid True := Lib.hid trivial
  have HX := Lib.hid hx
  clear hx
  have HN := Lib.hid hne
  clear hne
  go_enter Tryz.func191, Tryz.ntmps191
  go_upto_region 1 with fail
  generalize hW : ((((w.alloc _).alloc _).alloc _).alloc _).alloc _ = W
  have bW : Below w.heap.size w W := by rw [← hW]; go_grown
  have sW : W.heap.size = w.heap.size + 5 := by rw [← hW]; simp
  have q0 : Blk W w.heap.size 36 #[cellsV C] := by rw [← hW]; have h := Blk.new w 36 #[cellsV C]; (try simp only [World.size_alloc] at h); exact ((((h.alloc _).alloc _).alloc _).alloc _)
  have q1 : Blk W (w.heap.size + 1) 3 #[.int .i64 i] := by rw [← hW]; have h := Blk.new (w.alloc (.cells #[cellsV C] 36)) 3 #[.int .i64 i]; (try simp only [World.size_alloc] at h); exact (((h.alloc _).alloc _).alloc _)
  have q2 : Blk W (w.heap.size + 2) 55 #[.int .u64 o] := by rw [← hW]; have h := Blk.new ((w.alloc (.cells #[cellsV C] 36)).alloc (.cells #[.int .i64 i] 3)) 55 #[.int .u64 o]; (try simp only [World.size_alloc] at h); exact ((h.alloc _).alloc _)
  have q3 : Blk W (w.heap.size + 3) 55 #[.int .u64 u] := by rw [← hW]; have h := Blk.new (((w.alloc (.cells #[cellsV C] 36)).alloc (.cells #[.int .i64 i] 3)).alloc (.cells #[.int .u64 o] 55)) 55 #[.int .u64 u]; (try simp only [World.size_alloc] at h); exact (h.alloc _)
  have q4 : Blk W (w.heap.size + 4) 4 #[.bool false] := by rw [← hW]; have h := Blk.new ((((w.alloc (.cells #[cellsV C] 36)).alloc (.cells #[.int .i64 i] 3)).alloc (.cells #[.int .u64 o] 55)).alloc (.cells #[.int .u64 u] 55)) 4 #[.bool false]; (try simp only [World.size_alloc] at h); exact h
  have CW : CellsAt W C S l k := hC.keep (Keep.ofBelow (Q := fun _ => False) bW) (fun h => h) (fun h => h)
  clear hW
  have HO := Lib.hid (operate_yes C S l k i 230 #[.pointer (some ⟨w.heap.size, 0, none⟩), .pointer (some ⟨w.heap.size + 1, 0, none⟩), .pointer (some ⟨w.heap.size + 2, 0, none⟩), .pointer (some ⟨w.heap.size + 3, 0, none⟩), .pointer (some ⟨w.heap.size + 4, 0, none⟩)] W (fun b => b = w.heap.size + 4) (fun w2 => Blk w2 (w.heap.size + 4) 4 #[.bool false]) CW hlt h0 h1 call_swapC (fun w1 hb => swapC_no _ _ _ _ _ C S l k x o u i _ w1 (q0.below hb q0.lt) (q1.below hb q1.lt) (q2.below hb q2.lt) (q3.below hb q3.lt) (q4.below hb q4.lt) (CW.keep (Keep.ofBelow (Q := fun _ => False) hb) (fun h => h) (fun h => h)) HX.out (by simpa using HN.out)) (fun b h => by have h2 := h; subst h2; (have := hC.ne; omega)) (fun w2 v h => h.far (by omega) _ _))
  have e0 := q0.cell 0 _ rfl
  have e1 := q1.cell 0 _ rfl
  go_wp2_with (go_at_call 100; refine HO.out.mono ?_; rintro e w1 ⟨rfl, hk, hg, hB⟩; have v0 := Blk.cell hg 0 _ rfl; have v1 := Blk.free hg 0; clear e0 e1)
  have hrow : Blk w1 S 55 (words l) := CW.row.keep hk (fun h => by have := hC.ne; rcases h with h | h <;> simp_all <;> omega)
  have hK : Keep (ofCells C S) w w1 := (Keep.ofBelow bW).step hk (fun b hb h => by simp only [ofCells]; omega)
  refine bodyPost_ret (v := .bool false) (by simp [results, Tryz.results191, go_sem, v0]) rfl ⟨rfl, ?_, hK.set (fun h => by simp at h; omega) _⟩
  exact hC.step (by simp) (hB.far (by omega) _ _) (Blk.far hrow (by omega) _ _)
theorem swap_no (C S : Nat) (l : List Int) (k i : Int) (o u : Int) (w : World) (hC : CellsAt w C S l k) (hi : i < 0 ∨ l.length ≤ i) :
    Calls Tryz.prog 191 #[cellsV C, .int .i64 i, .int .u64 o, .int .u64 u] w fun e w' => e = .returned (.bool false) ∧ Below w.heap.size w w' := by
  have hmf : ∀ (fn : Fn) (first cap : Array Value) (w : World), (Instr.makeFunc fn first cap).run Tryz.prog w = .ok (.func fn first cap) w := fun _ _ _ _ => rfl
  go_enter Tryz.func191, Tryz.ntmps191
  go_upto_region 1 with fail
  generalize hW : ((((w.alloc _).alloc _).alloc _).alloc _).alloc _ = W
  have bW : Below w.heap.size w W := by rw [← hW]; go_grown
  have sW : W.heap.size = w.heap.size + 5 := by rw [← hW]; simp
  have q0 : Blk W w.heap.size 36 #[cellsV C] := by rw [← hW]; have h := Blk.new w 36 #[cellsV C]; (try simp only [World.size_alloc] at h); exact ((((h.alloc _).alloc _).alloc _).alloc _)
  have q1 : Blk W (w.heap.size + 1) 3 #[.int .i64 i] := by rw [← hW]; have h := Blk.new (w.alloc (.cells #[cellsV C] 36)) 3 #[.int .i64 i]; (try simp only [World.size_alloc] at h); exact (((h.alloc _).alloc _).alloc _)
  have q2 : Blk W (w.heap.size + 2) 55 #[.int .u64 o] := by rw [← hW]; have h := Blk.new ((w.alloc (.cells #[cellsV C] 36)).alloc (.cells #[.int .i64 i] 3)) 55 #[.int .u64 o]; (try simp only [World.size_alloc] at h); exact ((h.alloc _).alloc _)
  have q3 : Blk W (w.heap.size + 3) 55 #[.int .u64 u] := by rw [← hW]; have h := Blk.new (((w.alloc (.cells #[cellsV C] 36)).alloc (.cells #[.int .i64 i] 3)).alloc (.cells #[.int .u64 o] 55)) 55 #[.int .u64 u]; (try simp only [World.size_alloc] at h); exact (h.alloc _)
  have q4 : Blk W (w.heap.size + 4) 4 #[.bool false] := by rw [← hW]; have h := Blk.new ((((w.alloc (.cells #[cellsV C] 36)).alloc (.cells #[.int .i64 i] 3)).alloc (.cells #[.int .u64 o] 55)).alloc (.cells #[.int .u64 u] 55)) 4 #[.bool false]; (try simp only [World.size_alloc] at h); exact h
  have CW : CellsAt W C S l k := hC.keep (Keep.ofBelow (Q := fun _ => False) bW) (fun h => h) (fun h => h)
  clear hW
  have HO := Lib.hid (operate_no C S l k i 230 #[.pointer (some ⟨w.heap.size, 0, none⟩), .pointer (some ⟨w.heap.size + 1, 0, none⟩), .pointer (some ⟨w.heap.size + 2, 0, none⟩), .pointer (some ⟨w.heap.size + 3, 0, none⟩), .pointer (some ⟨w.heap.size + 4, 0, none⟩)] W CW hi)
  have e0 := q0.cell 0 _ rfl
  have e1 := q1.cell 0 _ rfl
  go_wp2_with (go_at_call 100; refine HO.out.mono ?_; rintro e w1 ⟨rfl, hb⟩; have qv := q4.below hb q4.lt; have v0 := qv.cell 0 _ rfl; have v1 := qv.free 0; clear e0 e1)
  exact bodyPost_ret (v := .bool false) (by simp [results, Tryz.results191, go_sem, v0]) rfl ⟨rfl, (bW.trans (hb.mono bW.size)).setCell (by dsimp only; omega) _⟩
theorem swap_nil (i : Int) (o u : Int) (w : World) :
    Calls Tryz.prog 191 #[.pointer none, .int .i64 i, .int .u64 o, .int .u64 u] w fun e w' => e = .returned (.bool false) ∧ Below w.heap.size w w' := by
  have hmf : ∀ (fn : Fn) (first cap : Array Value) (w : World), (Instr.makeFunc fn first cap).run Tryz.prog w = .ok (.func fn first cap) w := fun _ _ _ _ => rfl
  go_enter Tryz.func191, Tryz.ntmps191
  go_upto_region 1 with fail
  generalize hW : ((((w.alloc _).alloc _).alloc _).alloc _).alloc _ = W
  have bW : Below w.heap.size w W := by rw [← hW]; go_grown
  have sW : W.heap.size = w.heap.size + 5 := by rw [← hW]; simp
  have q0 : Blk W w.heap.size 36 #[.pointer none] := by rw [← hW]; have h := Blk.new w 36 #[.pointer none]; (try simp only [World.size_alloc] at h); exact ((((h.alloc _).alloc _).alloc _).alloc _)
  have q1 : Blk W (w.heap.size + 1) 3 #[.int .i64 i] := by rw [← hW]; have h := Blk.new (w.alloc (.cells #[.pointer none] 36)) 3 #[.int .i64 i]; (try simp only [World.size_alloc] at h); exact (((h.alloc _).alloc _).alloc _)
  have q2 : Blk W (w.heap.size + 2) 55 #[.int .u64 o] := by rw [← hW]; have h := Blk.new ((w.alloc (.cells #[.pointer none] 36)).alloc (.cells #[.int .i64 i] 3)) 55 #[.int .u64 o]; (try simp only [World.size_alloc] at h); exact ((h.alloc _).alloc _)
  have q3 : Blk W (w.heap.size + 3) 55 #[.int .u64 u] := by rw [← hW]; have h := Blk.new (((w.alloc (.cells #[.pointer none] 36)).alloc (.cells #[.int .i64 i] 3)).alloc (.cells #[.int .u64 o] 55)) 55 #[.int .u64 u]; (try simp only [World.size_alloc] at h); exact (h.alloc _)
  have q4 : Blk W (w.heap.size + 4) 4 #[.bool false] := by rw [← hW]; have h := Blk.new ((((w.alloc (.cells #[.pointer none] 36)).alloc (.cells #[.int .i64 i] 3)).alloc (.cells #[.int .u64 o] 55)).alloc (.cells #[.int .u64 u] 55)) 4 #[.bool false]; (try simp only [World.size_alloc] at h); exact h
  clear hW
  have HO := Lib.hid (operate_nil i 230 #[.pointer (some ⟨w.heap.size, 0, none⟩), .pointer (some ⟨w.heap.size + 1, 0, none⟩), .pointer (some ⟨w.heap.size + 2, 0, none⟩), .pointer (some ⟨w.heap.size + 3, 0, none⟩), .pointer (some ⟨w.heap.size + 4, 0, none⟩)] W)
  have e0 := q0.cell 0 _ rfl
  have e1 := q1.cell 0 _ rfl
  go_wp2_with (go_at_call 100; refine HO.out.mono ?_; rintro e w1 ⟨rfl, hb⟩; have qv := q4.below hb q4.lt; have v0 := qv.cell 0 _ rfl; have v1 := qv.free 0; clear e0 e1)
  exact bodyPost_ret (v := .bool false) (by simp [results, Tryz.results191, go_sem, v0]) rfl ⟨rfl, (bW.trans (hb.mono bW.size)).setCell (by dsimp only; omega) _⟩
end Go.Proofs.YtbaehokffdpopaaGreat
