/- Contracts of package cells: Load, Store, Swap, Add, as callers see them. -/
import Derived.Test.YtldofbkjjmnooaaGreatMgGSlC
import Derived.Test.YtldofbkjjmnooaaGreatProg
import Derived.Test.YtldofbkjjmnooaaGreatMgGSlA
import Derived.WalkSpells
import Derived.OwnWalk
import Derived.Laws.OwnMore
import Derived.Lib.Hide
import Derived.Conc.LoneSelect
import Derived.Test.YtldofbkjjmnooaaGreatMgGSlB
namespace Go.Proofs.YtldofbkjjmnooaaGreat
open Go.ChangeShapes Go.WideShapes Go.ChangeAt Go.RowKit
set_option linter.unusedVariables false
set_option maxRecDepth 100000
set_option linter.unusedSimpArgs false
abbrev ofCells (C S : Nat) : Nat → Prop := fun b => b = C ∨ b = S
theorem CellsAt.step {w w' : World} {C S : Nat} {l l' : List Int} {k k' : Int} (h : CellsAt w C S l k) (hl : l'.length = l.length) (h1 : Blk w' C 149 #[.iface 135 (rowV S l.length), .int .i64 k'])
    (h2 : Blk w' S 47 (words l')) : CellsAt w' C S l' k' := ⟨by rw [hl]; exact h1, h2, h.ne, by rw [hl]; exact h.few⟩
theorem load_yes (C S : Nat) (l : List Int) (k : Int) (i : Nat) (x : Int) (w : World) (hC : CellsAt w C S l k) (hx : l[i]? = some x) (h0 : 0 ≤ k) (h1 : k < 9223372036854775807) :
    Calls Tryz.prog 86 #[cellsV C, .int .i64 i] w fun e w' => e = .returned (.int .u64 x) ∧ CellsAt w' C S (l) (k + 1) ∧ Keep (ofCells C S) w w' := by
  have hlt : i < l.length := by rw [List.getElem?_eq_some_iff] at hx; exact hx.1
  have hCl := hC.own.lt
  have hSl := hC.row.lt
  have hmf : ∀ (fn : Fn) (first cap : Array Value) (w : World), (Instr.makeFunc fn first cap).run Tryz.prog w = .ok (.func fn first cap) w := fun _ _ _ _ => rfl
  have HH : Hid True := Lib.hid trivial
  have HX := Lib.hid hx
  clear hx
  go_enter Tryz.func86, Tryz.ntmps86
  go_upto_region 1 with fail
  generalize hW : ((w.alloc _).alloc _).alloc _ = W
  have bW : Below w.heap.size w W := by rw [← hW]; go_grown
  have sW : W.heap.size = w.heap.size + 3 := by rw [← hW]; simp
  have q0 : Blk W w.heap.size 26 #[cellsV C] := by rw [← hW]; have h := Blk.new w 26 #[cellsV C]; (try simp only [World.size_alloc] at h); exact ((h.alloc _).alloc _)
  have q1 : Blk W (w.heap.size + 1) 3 #[.int .i64 i] := by rw [← hW]; have h := Blk.new (w.alloc (.cells #[cellsV C] 26)) 3 #[.int .i64 i]; (try simp only [World.size_alloc] at h); exact (h.alloc _)
  have q2 : Blk W (w.heap.size + 2) 47 #[.int .u64 0] := by rw [← hW]; have h := Blk.new ((w.alloc (.cells #[cellsV C] 26)).alloc (.cells #[.int .i64 i] 3)) 47 #[.int .u64 0]; (try simp only [World.size_alloc] at h); exact h
  have CW : CellsAt W C S l k := hC.keep (Keep.ofBelow (Q := fun _ => False) bW) (fun h => h) (fun h => h)
  clear hW
  have HO := Lib.hid (operate_yes C S l k i 166 #[.pointer (some ⟨w.heap.size, 0, none⟩), .pointer (some ⟨w.heap.size + 1, 0, none⟩), .pointer (some ⟨w.heap.size + 2, 0, none⟩)] W (fun b => b = w.heap.size + 2) (fun w2 => Blk w2 (w.heap.size + 2) 47 #[.int .u64 x]) CW hlt h0 h1 call_loadC (fun w1 hb => loadC_any _ _ _ C S l k x i _ w1 (q0.below hb q0.lt) (q1.below hb q1.lt) (q2.below hb q2.lt) (CW.keep (Keep.ofBelow (Q := fun _ => False) hb) (fun h => h) (fun h => h)) HX.out) (fun b h => by have h2 := h; subst h2; (have := hC.ne; omega)) (fun w2 v h => h.far (by omega) _ _))
  have e0 := q0.cell 0 _ rfl
  have e1 := q1.cell 0 _ rfl
  go_wp2_with (go_at_call 143; refine HO.out.mono ?_; rintro e w1 ⟨rfl, hk, hg, hB⟩; have v0 := Blk.cell hg 0 _ rfl; have v1 := Blk.free hg 0; clear e0 e1)
  have hrow : Blk w1 S 47 (words l) := CW.row.keep hk (fun h => by have := hC.ne; rcases h with h | h <;> simp_all <;> omega)
  have hK : Keep (ofCells C S) w w1 := (Keep.ofBelow bW).step hk (fun b hb h => by simp only [ofCells]; omega)
  refine bodyPost_ret (v := .int .u64 x) (by simp [results, Tryz.results86, go_sem, v0]) rfl ⟨rfl, ?_, hK.set (fun h => by simp at h; omega) _⟩
  exact hC.step (by simp) (hB.far (by omega) _ _) (Blk.far hrow (by omega) _ _)
theorem load_no (C S : Nat) (l : List Int) (k i : Int) (w : World) (hC : CellsAt w C S l k) (hi : i < 0 ∨ l.length ≤ i) :
    Calls Tryz.prog 86 #[cellsV C, .int .i64 i] w fun e w' => e = .returned (.int .u64 0) ∧ Below w.heap.size w w' := by
  have hmf : ∀ (fn : Fn) (first cap : Array Value) (w : World), (Instr.makeFunc fn first cap).run Tryz.prog w = .ok (.func fn first cap) w := fun _ _ _ _ => rfl
  go_enter Tryz.func86, Tryz.ntmps86
  go_upto_region 1 with fail
  generalize hW : ((w.alloc _).alloc _).alloc _ = W
  have bW : Below w.heap.size w W := by rw [← hW]; go_grown
  have sW : W.heap.size = w.heap.size + 3 := by rw [← hW]; simp
  have q0 : Blk W w.heap.size 26 #[cellsV C] := by rw [← hW]; have h := Blk.new w 26 #[cellsV C]; (try simp only [World.size_alloc] at h); exact ((h.alloc _).alloc _)
  have q1 : Blk W (w.heap.size + 1) 3 #[.int .i64 i] := by rw [← hW]; have h := Blk.new (w.alloc (.cells #[cellsV C] 26)) 3 #[.int .i64 i]; (try simp only [World.size_alloc] at h); exact (h.alloc _)
  have q2 : Blk W (w.heap.size + 2) 47 #[.int .u64 0] := by rw [← hW]; have h := Blk.new ((w.alloc (.cells #[cellsV C] 26)).alloc (.cells #[.int .i64 i] 3)) 47 #[.int .u64 0]; (try simp only [World.size_alloc] at h); exact h
  have CW : CellsAt W C S l k := hC.keep (Keep.ofBelow (Q := fun _ => False) bW) (fun h => h) (fun h => h)
  clear hW
  have HO := Lib.hid (operate_no C S l k i 166 #[.pointer (some ⟨w.heap.size, 0, none⟩), .pointer (some ⟨w.heap.size + 1, 0, none⟩), .pointer (some ⟨w.heap.size + 2, 0, none⟩)] W CW hi)
  have e0 := q0.cell 0 _ rfl
  have e1 := q1.cell 0 _ rfl
  go_wp2_with (go_at_call 143; refine HO.out.mono ?_; rintro e w1 ⟨rfl, hb⟩; have qv := q2.below hb q2.lt; have v0 := qv.cell 0 _ rfl; have v1 := qv.free 0; clear e0 e1)
  exact bodyPost_ret (v := .int .u64 0) (by simp [results, Tryz.results86, go_sem, v0]) rfl ⟨rfl, (bW.trans (hb.mono bW.size)).setCell (by dsimp only; omega) _⟩
theorem load_nil (i : Int) (w : World) :
    Calls Tryz.prog 86 #[.pointer none, .int .i64 i] w fun e w' => e = .returned (.int .u64 0) ∧ Below w.heap.size w w' := by
  have hmf : ∀ (fn : Fn) (first cap : Array Value) (w : World), (Instr.makeFunc fn first cap).run Tryz.prog w = .ok (.func fn first cap) w := fun _ _ _ _ => rfl
  go_enter Tryz.func86, Tryz.ntmps86
  go_upto_region 1 with fail
  generalize hW : ((w.alloc _).alloc _).alloc _ = W
  have bW : Below w.heap.size w W := by rw [← hW]; go_grown
  have sW : W.heap.size = w.heap.size + 3 := by rw [← hW]; simp
  have q0 : Blk W w.heap.size 26 #[.pointer none] := by rw [← hW]; have h := Blk.new w 26 #[.pointer none]; (try simp only [World.size_alloc] at h); exact ((h.alloc _).alloc _)
  have q1 : Blk W (w.heap.size + 1) 3 #[.int .i64 i] := by rw [← hW]; have h := Blk.new (w.alloc (.cells #[.pointer none] 26)) 3 #[.int .i64 i]; (try simp only [World.size_alloc] at h); exact (h.alloc _)
  have q2 : Blk W (w.heap.size + 2) 47 #[.int .u64 0] := by rw [← hW]; have h := Blk.new ((w.alloc (.cells #[.pointer none] 26)).alloc (.cells #[.int .i64 i] 3)) 47 #[.int .u64 0]; (try simp only [World.size_alloc] at h); exact h
  clear hW
  have HO := Lib.hid (operate_nil i 166 #[.pointer (some ⟨w.heap.size, 0, none⟩), .pointer (some ⟨w.heap.size + 1, 0, none⟩), .pointer (some ⟨w.heap.size + 2, 0, none⟩)] W)
  have e0 := q0.cell 0 _ rfl
  have e1 := q1.cell 0 _ rfl
  go_wp2_with (go_at_call 143; refine HO.out.mono ?_; rintro e w1 ⟨rfl, hb⟩; have qv := q2.below hb q2.lt; have v0 := qv.cell 0 _ rfl; have v1 := qv.free 0; clear e0 e1)
  exact bodyPost_ret (v := .int .u64 0) (by simp [results, Tryz.results86, go_sem, v0]) rfl ⟨rfl, (bW.trans (hb.mono bW.size)).setCell (by dsimp only; omega) _⟩
theorem store_yes (C S : Nat) (l : List Int) (k : Int) (i : Nat) (x : Int) (u : Int) (w : World) (hC : CellsAt w C S l k) (hx : l[i]? = some x) (h0 : 0 ≤ k) (h1 : k < 9223372036854775807) :
    Calls Tryz.prog 59 #[cellsV C, .int .i64 i, .int .u64 u] w fun e w' => e = .returned (.bool true) ∧ CellsAt w' C S (l.set i u) (k + 1) ∧ Keep (ofCells C S) w w' := by
  have hlt : i < l.length := by rw [List.getElem?_eq_some_iff] at hx; exact hx.1
  have hCl := hC.own.lt
  have hSl := hC.row.lt
  have hmf : ∀ (fn : Fn) (first cap : Array Value) (w : World), (Instr.makeFunc fn first cap).run Tryz.prog w = .ok (.func fn first cap) w := fun _ _ _ _ => rfl
  have HH : Hid True := Lib.hid trivial
  have HX := Lib.hid hx
  clear hx
  go_enter Tryz.func59, Tryz.ntmps59
  go_upto_region 1 with fail
  generalize hW : ((w.alloc _).alloc _).alloc _ = W
  have bW : Below w.heap.size w W := by rw [← hW]; go_grown
  have sW : W.heap.size = w.heap.size + 3 := by rw [← hW]; simp
  have q0 : Blk W w.heap.size 26 #[cellsV C] := by rw [← hW]; have h := Blk.new w 26 #[cellsV C]; (try simp only [World.size_alloc] at h); exact ((h.alloc _).alloc _)
  have q1 : Blk W (w.heap.size + 1) 3 #[.int .i64 i] := by rw [← hW]; have h := Blk.new (w.alloc (.cells #[cellsV C] 26)) 3 #[.int .i64 i]; (try simp only [World.size_alloc] at h); exact (h.alloc _)
  have q2 : Blk W (w.heap.size + 2) 47 #[.int .u64 u] := by rw [← hW]; have h := Blk.new ((w.alloc (.cells #[cellsV C] 26)).alloc (.cells #[.int .i64 i] 3)) 47 #[.int .u64 u]; (try simp only [World.size_alloc] at h); exact h
  have CW : CellsAt W C S l k := hC.keep (Keep.ofBelow (Q := fun _ => False) bW) (fun h => h) (fun h => h)
  clear hW
  have HO := Lib.hid (operate_yes C S l k i 144 #[.pointer (some ⟨w.heap.size, 0, none⟩), .pointer (some ⟨w.heap.size + 1, 0, none⟩), .pointer (some ⟨w.heap.size + 2, 0, none⟩)] W (fun b => b = S) (fun w2 => Blk w2 S 47 (words (l.set i u))) CW hlt h0 h1 call_storeC (fun w1 hb => storeC_any _ _ _ C S l k x u i w1 (q0.below hb q0.lt) (q1.below hb q1.lt) (q2.below hb q2.lt) (CW.keep (Keep.ofBelow (Q := fun _ => False) hb) (fun h => h) (fun h => h)) HX.out) (fun b h => by have h2 := h; subst h2; (have := hC.ne; omega)) (fun w2 v h => h.far (Ne.symm hC.ne) _ _))
  have e0 := q0.cell 0 _ rfl
  have e1 := q1.cell 0 _ rfl
  go_wp2_with (go_at_call 143; refine HO.out.mono ?_; rintro e w1 ⟨rfl, hk, hg, hB⟩; clear e0 e1)
  have hK : Keep (ofCells C S) w w1 := (Keep.ofBelow bW).step hk (fun b hb h => by simp only [ofCells]; omega)
  go_ret
  exact ⟨rfl, hC.step (by simp) hB hg, hK⟩
theorem store_no (C S : Nat) (l : List Int) (k i : Int) (u : Int) (w : World) (hC : CellsAt w C S l k) (hi : i < 0 ∨ l.length ≤ i) :
    Calls Tryz.prog 59 #[cellsV C, .int .i64 i, .int .u64 u] w fun e w' => e = .returned (.bool false) ∧ Below w.heap.size w w' := by
  have hmf : ∀ (fn : Fn) (first cap : Array Value) (w : World), (Instr.makeFunc fn first cap).run Tryz.prog w = .ok (.func fn first cap) w := fun _ _ _ _ => rfl
  go_enter Tryz.func59, Tryz.ntmps59
  go_upto_region 1 with fail
  generalize hW : ((w.alloc _).alloc _).alloc _ = W
  have bW : Below w.heap.size w W := by rw [← hW]; go_grown
  have sW : W.heap.size = w.heap.size + 3 := by rw [← hW]; simp
  have q0 : Blk W w.heap.size 26 #[cellsV C] := by rw [← hW]; have h := Blk.new w 26 #[cellsV C]; (try simp only [World.size_alloc] at h); exact ((h.alloc _).alloc _)
  have q1 : Blk W (w.heap.size + 1) 3 #[.int .i64 i] := by rw [← hW]; have h := Blk.new (w.alloc (.cells #[cellsV C] 26)) 3 #[.int .i64 i]; (try simp only [World.size_alloc] at h); exact (h.alloc _)
  have q2 : Blk W (w.heap.size + 2) 47 #[.int .u64 u] := by rw [← hW]; have h := Blk.new ((w.alloc (.cells #[cellsV C] 26)).alloc (.cells #[.int .i64 i] 3)) 47 #[.int .u64 u]; (try simp only [World.size_alloc] at h); exact h
  have CW : CellsAt W C S l k := hC.keep (Keep.ofBelow (Q := fun _ => False) bW) (fun h => h) (fun h => h)
  clear hW
  have HO := Lib.hid (operate_no C S l k i 144 #[.pointer (some ⟨w.heap.size, 0, none⟩), .pointer (some ⟨w.heap.size + 1, 0, none⟩), .pointer (some ⟨w.heap.size + 2, 0, none⟩)] W CW hi)
  have e0 := q0.cell 0 _ rfl
  have e1 := q1.cell 0 _ rfl
  go_wp2_with (go_at_call 143; refine HO.out.mono ?_; rintro e w1 ⟨rfl, hb⟩; clear e0 e1)
  go_ret
  exact ⟨rfl, bW.trans (hb.mono bW.size)⟩
theorem store_nil (i : Int) (u : Int) (w : World) :
    Calls Tryz.prog 59 #[.pointer none, .int .i64 i, .int .u64 u] w fun e w' => e = .returned (.bool false) ∧ Below w.heap.size w w' := by
  have hmf : ∀ (fn : Fn) (first cap : Array Value) (w : World), (Instr.makeFunc fn first cap).run Tryz.prog w = .ok (.func fn first cap) w := fun _ _ _ _ => rfl
  go_enter Tryz.func59, Tryz.ntmps59
  go_upto_region 1 with fail
  generalize hW : ((w.alloc _).alloc _).alloc _ = W
  have bW : Below w.heap.size w W := by rw [← hW]; go_grown
  have sW : W.heap.size = w.heap.size + 3 := by rw [← hW]; simp
  have q0 : Blk W w.heap.size 26 #[.pointer none] := by rw [← hW]; have h := Blk.new w 26 #[.pointer none]; (try simp only [World.size_alloc] at h); exact ((h.alloc _).alloc _)
  have q1 : Blk W (w.heap.size + 1) 3 #[.int .i64 i] := by rw [← hW]; have h := Blk.new (w.alloc (.cells #[.pointer none] 26)) 3 #[.int .i64 i]; (try simp only [World.size_alloc] at h); exact (h.alloc _)
  have q2 : Blk W (w.heap.size + 2) 47 #[.int .u64 u] := by rw [← hW]; have h := Blk.new ((w.alloc (.cells #[.pointer none] 26)).alloc (.cells #[.int .i64 i] 3)) 47 #[.int .u64 u]; (try simp only [World.size_alloc] at h); exact h
  clear hW
  have HO := Lib.hid (operate_nil i 144 #[.pointer (some ⟨w.heap.size, 0, none⟩), .pointer (some ⟨w.heap.size + 1, 0, none⟩), .pointer (some ⟨w.heap.size + 2, 0, none⟩)] W)
  have e0 := q0.cell 0 _ rfl
  have e1 := q1.cell 0 _ rfl
  go_wp2_with (go_at_call 143; refine HO.out.mono ?_; rintro e w1 ⟨rfl, hb⟩; clear e0 e1)
  go_ret
  exact ⟨rfl, bW.trans (hb.mono bW.size)⟩
theorem swap_yes (C S : Nat) (l : List Int) (k : Int) (i : Nat) (o u : Int) (w : World) (hC : CellsAt w C S l k) (hx : l[i]? = some o) (h0 : 0 ≤ k) (h1 : k < 9223372036854775807) :
    Calls Tryz.prog 289 #[cellsV C, .int .i64 i, .int .u64 o, .int .u64 u] w fun e w' => e = .returned (.bool true) ∧ CellsAt w' C S (l.set i u) (k + 1) ∧ Keep (ofCells C S) w w' := by
  have hlt : i < l.length := by rw [List.getElem?_eq_some_iff] at hx; exact hx.1
  have hCl := hC.own.lt
  have hSl := hC.row.lt
  have hmf : ∀ (fn : Fn) (first cap : Array Value) (w : World), (Instr.makeFunc fn first cap).run Tryz.prog w = .ok (.func fn first cap) w := fun _ _ _ _ => rfl
  have HH : Hid True := Lib.hid trivial
  have HX := Lib.hid hx
  clear hx
  go_enter Tryz.func289, Tryz.ntmps289
  go_upto_region 1 with fail
  generalize hW : ((((w.alloc _).alloc _).alloc _).alloc _).alloc _ = W
  have bW : Below w.heap.size w W := by rw [← hW]; go_grown
  have sW : W.heap.size = w.heap.size + 5 := by rw [← hW]; simp
  have q0 : Blk W w.heap.size 26 #[cellsV C] := by rw [← hW]; have h := Blk.new w 26 #[cellsV C]; (try simp only [World.size_alloc] at h); exact ((((h.alloc _).alloc _).alloc _).alloc _)
  have q1 : Blk W (w.heap.size + 1) 3 #[.int .i64 i] := by rw [← hW]; have h := Blk.new (w.alloc (.cells #[cellsV C] 26)) 3 #[.int .i64 i]; (try simp only [World.size_alloc] at h); exact (((h.alloc _).alloc _).alloc _)
  have q2 : Blk W (w.heap.size + 2) 47 #[.int .u64 o] := by rw [← hW]; have h := Blk.new ((w.alloc (.cells #[cellsV C] 26)).alloc (.cells #[.int .i64 i] 3)) 47 #[.int .u64 o]; (try simp only [World.size_alloc] at h); exact ((h.alloc _).alloc _)
  have q3 : Blk W (w.heap.size + 3) 47 #[.int .u64 u] := by rw [← hW]; have h := Blk.new (((w.alloc (.cells #[cellsV C] 26)).alloc (.cells #[.int .i64 i] 3)).alloc (.cells #[.int .u64 o] 47)) 47 #[.int .u64 u]; (try simp only [World.size_alloc] at h); exact (h.alloc _)
  have q4 : Blk W (w.heap.size + 4) 4 #[.bool false] := by rw [← hW]; have h := Blk.new ((((w.alloc (.cells #[cellsV C] 26)).alloc (.cells #[.int .i64 i] 3)).alloc (.cells #[.int .u64 o] 47)).alloc (.cells #[.int .u64 u] 47)) 4 #[.bool false]; (try simp only [World.size_alloc] at h); exact h
  have CW : CellsAt W C S l k := hC.keep (Keep.ofBelow (Q := fun _ => False) bW) (fun h => h) (fun h => h)
  clear hW
  have HO := Lib.hid (operate_yes C S l k i 341 #[.pointer (some ⟨w.heap.size, 0, none⟩), .pointer (some ⟨w.heap.size + 1, 0, none⟩), .pointer (some ⟨w.heap.size + 2, 0, none⟩), .pointer (some ⟨w.heap.size + 3, 0, none⟩), .pointer (some ⟨w.heap.size + 4, 0, none⟩)] W (fun b => b = S ∨ b = w.heap.size + 4) (fun w2 => Blk w2 S 47 (words (l.set i u)) ∧ Blk w2 (w.heap.size + 4) 4 #[.bool true]) CW hlt h0 h1 call_swapC (fun w1 hb => swapC_yes _ _ _ _ _ C S l k o u i _ w1 (q0.below hb q0.lt) (q1.below hb q1.lt) (q2.below hb q2.lt) (q3.below hb q3.lt) (q4.below hb q4.lt) (CW.keep (Keep.ofBelow (Q := fun _ => False) hb) (fun h => h) (fun h => h)) HX.out (by omega)) (fun b h => by rcases h with rfl | rfl <;> (have := hC.ne; omega)) (fun w2 v h => ⟨h.1.far (Ne.symm hC.ne) _ _, h.2.far (by omega) _ _⟩))
  have e0 := q0.cell 0 _ rfl
  have e1 := q1.cell 0 _ rfl
  go_wp2_with (go_at_call 143; refine HO.out.mono ?_; rintro e w1 ⟨rfl, hk, hg, hB⟩; have v0 := Blk.cell hg.2 0 _ rfl; have v1 := Blk.free hg.2 0; clear e0 e1)
  have hK : Keep (ofCells C S) w w1 := (Keep.ofBelow bW).step hk (fun b hb h => by simp only [ofCells]; omega)
  refine bodyPost_ret (v := .bool true) (by simp [results, Tryz.results289, go_sem, v0]) rfl ⟨rfl, ?_, hK.set (fun h => by simp at h; omega) _⟩
  exact hC.step (by simp) (hB.far (by omega) _ _) (Blk.far hg.1 (by omega) _ _)
theorem swap_other (C S : Nat) (l : List Int) (k : Int) (i : Nat) (x : Int) (o u : Int) (w : World) (hC : CellsAt w C S l k) (hx : l[i]? = some x) (hne : x ≠ o) (h0 : 0 ≤ k) (h1 : k < 9223372036854775807) :
    Calls Tryz.prog 289 #[cellsV C, .int .i64 i, .int .u64 o, .int .u64 u] w fun e w' => e = .returned (.bool false) ∧ CellsAt w' C S (l) (k + 1) ∧ Keep (ofCells C S) w w' := by
  have hlt : i < l.length := by rw [List.getElem?_eq_some_iff] at hx; exact hx.1
  have hCl := hC.own.lt
  have hSl := hC.row.lt
  have hmf : ∀ (fn : Fn) (first cap : Array Value) (w : World), (Instr.makeFunc fn first cap).run Tryz.prog w = .ok (.func fn first cap) w := fun _ _ _ _ => rfl
  have HH : Hid True := Lib.hid trivial
  have HX := Lib.hid hx
  clear hx
  have HN := Lib.hid hne
  clear hne
  go_enter Tryz.func289, Tryz.ntmps289
  go_upto_region 1 with fail
  generalize hW : ((((w.alloc _).alloc _).alloc _).alloc _).alloc _ = W
  have bW : Below w.heap.size w W := by rw [← hW]; go_grown
  have sW : W.heap.size = w.heap.size + 5 := by rw [← hW]; simp
  have q0 : Blk W w.heap.size 26 #[cellsV C] := by rw [← hW]; have h := Blk.new w 26 #[cellsV C]; (try simp only [World.size_alloc] at h); exact ((((h.alloc _).alloc _).alloc _).alloc _)
  have q1 : Blk W (w.heap.size + 1) 3 #[.int .i64 i] := by rw [← hW]; have h := Blk.new (w.alloc (.cells #[cellsV C] 26)) 3 #[.int .i64 i]; (try simp only [World.size_alloc] at h); exact (((h.alloc _).alloc _).alloc _)
  have q2 : Blk W (w.heap.size + 2) 47 #[.int .u64 o] := by rw [← hW]; have h := Blk.new ((w.alloc (.cells #[cellsV C] 26)).alloc (.cells #[.int .i64 i] 3)) 47 #[.int .u64 o]; (try simp only [World.size_alloc] at h); exact ((h.alloc _).alloc _)
  have q3 : Blk W (w.heap.size + 3) 47 #[.int .u64 u] := by rw [← hW]; have h := Blk.new (((w.alloc (.cells #[cellsV C] 26)).alloc (.cells #[.int .i64 i] 3)).alloc (.cells #[.int .u64 o] 47)) 47 #[.int .u64 u]; (try simp only [World.size_alloc] at h); exact (h.alloc _)
  have q4 : Blk W (w.heap.size + 4) 4 #[.bool false] := by rw [← hW]; have h := Blk.new ((((w.alloc (.cells #[cellsV C] 26)).alloc (.cells #[.int .i64 i] 3)).alloc (.cells #[.int .u64 o] 47)).alloc (.cells #[.int .u64 u] 47)) 4 #[.bool false]; (try simp only [World.size_alloc] at h); exact h
  have CW : CellsAt W C S l k := hC.keep (Keep.ofBelow (Q := fun _ => False) bW) (fun h => h) (fun h => h)
  clear hW
  have HO := Lib.hid (operate_yes C S l k i 341 #[.pointer (some ⟨w.heap.size, 0, none⟩), .pointer (some ⟨w.heap.size + 1, 0, none⟩), .pointer (some ⟨w.heap.size + 2, 0, none⟩), .pointer (some ⟨w.heap.size + 3, 0, none⟩), .pointer (some ⟨w.heap.size + 4, 0, none⟩)] W (fun b => b = w.heap.size + 4) (fun w2 => Blk w2 (w.heap.size + 4) 4 #[.bool false]) CW hlt h0 h1 call_swapC (fun w1 hb => swapC_no _ _ _ _ _ C S l k x o u i _ w1 (q0.below hb q0.lt) (q1.below hb q1.lt) (q2.below hb q2.lt) (q3.below hb q3.lt) (q4.below hb q4.lt) (CW.keep (Keep.ofBelow (Q := fun _ => False) hb) (fun h => h) (fun h => h)) HX.out (by simpa using HN.out)) (fun b h => by have h2 := h; subst h2; (have := hC.ne; omega)) (fun w2 v h => h.far (by omega) _ _))
  have e0 := q0.cell 0 _ rfl
  have e1 := q1.cell 0 _ rfl
  go_wp2_with (go_at_call 143; refine HO.out.mono ?_; rintro e w1 ⟨rfl, hk, hg, hB⟩; have v0 := Blk.cell hg 0 _ rfl; have v1 := Blk.free hg 0; clear e0 e1)
  have hrow : Blk w1 S 47 (words l) := CW.row.keep hk (fun h => by have := hC.ne; rcases h with h | h <;> simp_all <;> omega)
  have hK : Keep (ofCells C S) w w1 := (Keep.ofBelow bW).step hk (fun b hb h => by simp only [ofCells]; omega)
  refine bodyPost_ret (v := .bool false) (by simp [results, Tryz.results289, go_sem, v0]) rfl ⟨rfl, ?_, hK.set (fun h => by simp at h; omega) _⟩
  exact hC.step (by simp) (hB.far (by omega) _ _) (Blk.far hrow (by omega) _ _)
theorem swap_no (C S : Nat) (l : List Int) (k i : Int) (o u : Int) (w : World) (hC : CellsAt w C S l k) (hi : i < 0 ∨ l.length ≤ i) :
    Calls Tryz.prog 289 #[cellsV C, .int .i64 i, .int .u64 o, .int .u64 u] w fun e w' => e = .returned (.bool false) ∧ Below w.heap.size w w' := by
  have hmf : ∀ (fn : Fn) (first cap : Array Value) (w : World), (Instr.makeFunc fn first cap).run Tryz.prog w = .ok (.func fn first cap) w := fun _ _ _ _ => rfl
  go_enter Tryz.func289, Tryz.ntmps289
  go_upto_region 1 with fail
  generalize hW : ((((w.alloc _).alloc _).alloc _).alloc _).alloc _ = W
  have bW : Below w.heap.size w W := by rw [← hW]; go_grown
  have sW : W.heap.size = w.heap.size + 5 := by rw [← hW]; simp
  have q0 : Blk W w.heap.size 26 #[cellsV C] := by rw [← hW]; have h := Blk.new w 26 #[cellsV C]; (try simp only [World.size_alloc] at h); exact ((((h.alloc _).alloc _).alloc _).alloc _)
  have q1 : Blk W (w.heap.size + 1) 3 #[.int .i64 i] := by rw [← hW]; have h := Blk.new (w.alloc (.cells #[cellsV C] 26)) 3 #[.int .i64 i]; (try simp only [World.size_alloc] at h); exact (((h.alloc _).alloc _).alloc _)
  have q2 : Blk W (w.heap.size + 2) 47 #[.int .u64 o] := by rw [← hW]; have h := Blk.new ((w.alloc (.cells #[cellsV C] 26)).alloc (.cells #[.int .i64 i] 3)) 47 #[.int .u64 o]; (try simp only [World.size_alloc] at h); exact ((h.alloc _).alloc _)
  have q3 : Blk W (w.heap.size + 3) 47 #[.int .u64 u] := by rw [← hW]; have h := Blk.new (((w.alloc (.cells #[cellsV C] 26)).alloc (.cells #[.int .i64 i] 3)).alloc (.cells #[.int .u64 o] 47)) 47 #[.int .u64 u]; (try simp only [World.size_alloc] at h); exact (h.alloc _)
  have q4 : Blk W (w.heap.size + 4) 4 #[.bool false] := by rw [← hW]; have h := Blk.new ((((w.alloc (.cells #[cellsV C] 26)).alloc (.cells #[.int .i64 i] 3)).alloc (.cells #[.int .u64 o] 47)).alloc (.cells #[.int .u64 u] 47)) 4 #[.bool false]; (try simp only [World.size_alloc] at h); exact h
  have CW : CellsAt W C S l k := hC.keep (Keep.ofBelow (Q := fun _ => False) bW) (fun h => h) (fun h => h)
  clear hW
  have HO := Lib.hid (operate_no C S l k i 341 #[.pointer (some ⟨w.heap.size, 0, none⟩), .pointer (some ⟨w.heap.size + 1, 0, none⟩), .pointer (some ⟨w.heap.size + 2, 0, none⟩), .pointer (some ⟨w.heap.size + 3, 0, none⟩), .pointer (some ⟨w.heap.size + 4, 0, none⟩)] W CW hi)
  have e0 := q0.cell 0 _ rfl
  have e1 := q1.cell 0 _ rfl
  go_wp2_with (go_at_call 143; refine HO.out.mono ?_; rintro e w1 ⟨rfl, hb⟩; have qv := q4.below hb q4.lt; have v0 := qv.cell 0 _ rfl; have v1 := qv.free 0; clear e0 e1)
  exact bodyPost_ret (v := .bool false) (by simp [results, Tryz.results289, go_sem, v0]) rfl ⟨rfl, (bW.trans (hb.mono bW.size)).setCell (by dsimp only; omega) _⟩
theorem swap_nil (i : Int) (o u : Int) (w : World) :
    Calls Tryz.prog 289 #[.pointer none, .int .i64 i, .int .u64 o, .int .u64 u] w fun e w' => e = .returned (.bool false) ∧ Below w.heap.size w w' := by
  have hmf : ∀ (fn : Fn) (first cap : Array Value) (w : World), (Instr.makeFunc fn first cap).run Tryz.prog w = .ok (.func fn first cap) w := fun _ _ _ _ => rfl
  go_enter Tryz.func289, Tryz.ntmps289
  go_upto_region 1 with fail
  generalize hW : ((((w.alloc _).alloc _).alloc _).alloc _).alloc _ = W
  have bW : Below w.heap.size w W := by rw [← hW]; go_grown
  have sW : W.heap.size = w.heap.size + 5 := by rw [← hW]; simp
  have q0 : Blk W w.heap.size 26 #[.pointer none] := by rw [← hW]; have h := Blk.new w 26 #[.pointer none]; (try simp only [World.size_alloc] at h); exact ((((h.alloc _).alloc _).alloc _).alloc _)
  have q1 : Blk W (w.heap.size + 1) 3 #[.int .i64 i] := by rw [← hW]; have h := Blk.new (w.alloc (.cells #[.pointer none] 26)) 3 #[.int .i64 i]; (try simp only [World.size_alloc] at h); exact (((h.alloc _).alloc _).alloc _)
  have q2 : Blk W (w.heap.size + 2) 47 #[.int .u64 o] := by rw [← hW]; have h := Blk.new ((w.alloc (.cells #[.pointer none] 26)).alloc (.cells #[.int .i64 i] 3)) 47 #[.int .u64 o]; (try simp only [World.size_alloc] at h); exact ((h.alloc _).alloc _)
  have q3 : Blk W (w.heap.size + 3) 47 #[.int .u64 u] := by rw [← hW]; have h := Blk.new (((w.alloc (.cells #[.pointer none] 26)).alloc (.cells #[.int .i64 i] 3)).alloc (.cells #[.int .u64 o] 47)) 47 #[.int .u64 u]; (try simp only [World.size_alloc] at h); exact (h.alloc _)
  have q4 : Blk W (w.heap.size + 4) 4 #[.bool false] := by rw [← hW]; have h := Blk.new ((((w.alloc (.cells #[.pointer none] 26)).alloc (.cells #[.int .i64 i] 3)).alloc (.cells #[.int .u64 o] 47)).alloc (.cells #[.int .u64 u] 47)) 4 #[.bool false]; (try simp only [World.size_alloc] at h); exact h
  clear hW
  have HO := Lib.hid (operate_nil i 341 #[.pointer (some ⟨w.heap.size, 0, none⟩), .pointer (some ⟨w.heap.size + 1, 0, none⟩), .pointer (some ⟨w.heap.size + 2, 0, none⟩), .pointer (some ⟨w.heap.size + 3, 0, none⟩), .pointer (some ⟨w.heap.size + 4, 0, none⟩)] W)
  have e0 := q0.cell 0 _ rfl
  have e1 := q1.cell 0 _ rfl
  go_wp2_with (go_at_call 143; refine HO.out.mono ?_; rintro e w1 ⟨rfl, hb⟩; have qv := q4.below hb q4.lt; have v0 := qv.cell 0 _ rfl; have v1 := qv.free 0; clear e0 e1)
  exact bodyPost_ret (v := .bool false) (by simp [results, Tryz.results289, go_sem, v0]) rfl ⟨rfl, (bW.trans (hb.mono bW.size)).setCell (by dsimp only; omega) _⟩
end Go.Proofs.YtldofbkjjmnooaaGreat
/- Contracts of package permit, for one goroutine alone: what permits are in memory; of, Len, Has. -/
namespace Go.Proofs.YtldofbkjjmnooaaGreat
open Go.ChangeShapes Go.WideShapes Go.ChangeAt Go.RowKit
set_option linter.unusedVariables false
set_option maxRecDepth 100000
set_option linter.unusedSimpArgs false
/-- the value of a permit -/
abbrev tokV : Value := .agg #[]
/-- channel c holds a permit, or none -/
def ChanAt (w : World) (c : Nat) (b : Bool) : Prop := ∃ s r, w.heap[c]? = some (.chan 1 (if b then #[tokV] else #[]) false s r false)
def chansV (cs : List Nat) : Array Value := (cs.map fun c => Value.chan (some c)).toArray
theorem chansV_at {cs : List Nat} {i c : Nat} (h : cs[i]? = some c) : (chansV cs)[i]? = some (.chan (some c)) := by simp [chansV, h]
theorem chansV_size (cs : List Nat) : (chansV cs).size = cs.length := by simp [chansV]
/-- permits: their own block, their row, a channel for each -/
structure PermitsAt (w : World) (P S : Nat) (cs : List Nat) (l : List Bool) : Prop where
  own : Blk w P 185 #[.slice (some ⟨S, 0, none⟩) l.length l.length]
  row : Blk w S 201 (chansV cs)
  len : cs.length = l.length
  chan : ∀ (i : Nat) (c : Nat) (b : Bool), cs[i]? = some c → l[i]? = some b → ChanAt w c b
  once : cs.Nodup
  few : l.length ≤ 32766
abbrev permitsV (P : Nat) : Value := .pointer (some ⟨P, 0, none⟩)
theorem ChanAt.keep {w w1 : World} {c : Nat} {b : Bool} {Q : Nat → Prop} (h : ChanAt w c b) (hk : Keep Q w w1) (hn : ¬ Q c) : ChanAt w1 c b := by
  obtain ⟨s, r, h⟩ := h
  exact ⟨s, r, (hk.block c (Array.getElem?_eq_some_iff.1 h).1 hn).trans h⟩
theorem PermitsAt.keep {w w1 : World} {P S : Nat} {cs : List Nat} {l : List Bool} {Q : Nat → Prop} (h : PermitsAt w P S cs l) (hk : Keep Q w w1) (h1 : ¬ Q P) (h2 : ¬ Q S) (h3 : ∀ c ∈ cs, ¬ Q c) : PermitsAt w1 P S cs l :=
  ⟨h.own.keep hk h1, h.row.keep hk h2, h.len, fun i c b hc hb => (h.chan i c b hc hb).keep hk (h3 c (List.mem_of_getElem? hc)), h.once, h.few⟩
theorem PermitsAt.below {w w1 : World} {P S : Nat} {cs : List Nat} {l : List Bool} (h : PermitsAt w P S cs l) (hk : Below w.heap.size w w1) : PermitsAt w1 P S cs l :=
  h.keep (Keep.ofBelow (Q := fun _ => False) hk) (fun h => h) (fun h => h) (fun _ _ h => h)
/-- the channel of thread i turns -/
theorem PermitsAt.setChan {w : World} {P S : Nat} {cs : List Nat} {l : List Bool} (h : PermitsAt w P S cs l) {i c : Nat} (hc : cs[i]? = some c) (b : Bool) (s r : Nat) :
    PermitsAt (w.setChan c 1 (if b then #[tokV] else #[]) false s r false) P S cs (l.set i b) ∧ Keep (fun k => k ∈ cs) w (w.setChan c 1 (if b then #[tokV] else #[]) false s r false) := by
  have hi : i < cs.length := (List.getElem?_eq_some_iff.1 hc).1
  have hl := h.len
  have hlt : c < w.heap.size := by
    obtain ⟨s0, r0, hx⟩ := h.chan i c (l[i]'(by omega)) hc (by simp)
    exact (Array.getElem?_eq_some_iff.1 hx).1
  have hother : ∀ k, k ≠ c → (w.setChan c 1 (if b then #[tokV] else #[]) false s r false).heap[k]? = w.heap[k]? := fun k hk => by
    simp only [World.setChan]; rw [Array.getElem?_setIfInBounds_ne (by omega)]
  have hself := Go.Conc.heap_setChan w c 1 (if b then #[tokV] else #[]) false s r false hlt
  have hcell : ∀ B t xs, Blk w B t xs → B ≠ c := by
    rintro B t xs hB rfl
    obtain ⟨s0, r0, hx⟩ := h.chan i B (l[i]'(by omega)) hc (by simp)
    rw [show w.heap[B]? = _ from hB] at hx
    cases hx
  refine ⟨⟨?_, ?_, by simp [hl], fun i' c' b' hc' hb' => ?_, h.once, by simpa using h.few⟩, ⟨rfl, rfl, rfl, by simp [World.setChan], fun k _ hk => hother k (fun e => hk (e ▸ List.mem_of_getElem? hc))⟩⟩
  · show (w.setChan c 1 (if b then #[tokV] else #[]) false s r false).heap[P]? = _
    rw [hother P (hcell _ _ _ h.own), List.length_set]
    exact h.own
  · show (w.setChan c 1 (if b then #[tokV] else #[]) false s r false).heap[S]? = _
    rw [hother S (hcell _ _ _ h.row)]
    exact h.row
  · by_cases e : i' = i
    · subst e
      rw [hc] at hc'
      cases hc'
      have : b' = b := by
        rw [List.getElem?_set_self (by omega)] at hb'
        exact (Option.some.inj hb').symm
      subst this
      exact ⟨s, r, hself⟩
    · have hne : c' ≠ c := fun ec => by
        subst ec
        exact e ((List.getElem?_inj (List.getElem?_eq_some_iff.1 hc').1 h.once).1 (hc'.trans hc.symm))
      obtain ⟨s0, r0, hx⟩ := h.chan i' c' b' hc' (by rwa [List.getElem?_set_ne (by omega)] at hb')
      exact ⟨s0, r0, (hother c' hne).trans hx⟩
theorem plen_any (P S : Nat) (cs : List Nat) (l : List Bool) (w : World) (hP : PermitsAt w P S cs l) :
    Calls Tryz.prog 45 #[permitsV P] w fun e w' => e = .returned (.int .i64 l.length) ∧ w = w' := by
  have hc := hP.own.cell 0 _ rfl
  clear hP
  generalize l.length = n at *
  go_enter Tryz.func45, Tryz.ntmps45
  go_wp2
  go_ret
  exact ⟨rfl, rfl⟩
theorem plen_nil (w : World) : Calls Tryz.prog 45 #[.pointer none] w fun e w' => e = .returned (.int .i64 0) ∧ w = w' := by
  go_enter Tryz.func45, Tryz.ntmps45
  go_wp2
  go_ret
  exact ⟨rfl, rfl⟩
theorem of_nil (t : Int) (w : World) : Calls Tryz.prog 145 #[.pointer none, .int .i64 t] w fun e w' => e = .returned (.chan none) ∧ w = w' := by
  go_enter Tryz.func145, Tryz.ntmps145
  go_wp2_with (go_at_call 45; (with_reducible refine (plen_nil _).mono ?_); rintro e w1 ⟨rfl, rfl⟩)
  all_goals (go_ret; exact ⟨rfl, rfl⟩)
theorem pof_no (P S : Nat) (cs : List Nat) (l : List Bool) (t : Int) (w : World) (hP : PermitsAt w P S cs l) (ht : t < 0 ∨ (l.length : Int) ≤ t) :
    Calls Tryz.prog 145 #[permitsV P, .int .i64 t] w fun e w' => e = .returned (.chan none) ∧ w = w' := by
  have hl := plen_any P S cs l
  generalize l.length = n at *
  go_enter Tryz.func145, Tryz.ntmps145
  go_wp2_with (go_at_call 45; (with_reducible refine (hl _ hP).mono ?_); rintro e w1 ⟨rfl, rfl⟩)
  all_goals (go_ret; exact ⟨rfl, rfl⟩)
theorem of_any (P S : Nat) (cs : List Nat) (l : List Bool) (t c : Nat) (w : World) (hP : PermitsAt w P S cs l) (hc : cs[t]? = some c) :
    Calls Tryz.prog 145 #[permitsV P, .int .i64 t] w fun e w' => e = .returned (.chan (some c)) ∧ w = w' := by
  have hl := plen_any P S cs l w hP
  have ht : t < l.length := by rw [← hP.len]; exact (List.getElem?_eq_some_iff.1 hc).1
  have h0 := hP.own.cell 0 _ rfl
  have h1 := hP.row.cell t _ (chansV_at hc)
  have hf := hP.few
  clear hP hc
  generalize l.length = n at *
  go_enter Tryz.func145, Tryz.ntmps145
  go_wp2_with (go_at_call 45; (with_reducible refine hl.mono ?_); rintro e w1 ⟨rfl, rfl⟩)
  all_goals (go_ret; exact ⟨rfl, rfl⟩)
theorem run_len_chan_none {P : Program} {t u : TypeId} {d : ChanDir} {e : TypeId} (h : P.underlying t = some (.chan d e)) (w : World) :
    (Builtin.len_ #[t] u #[.chan none]).run P w = .ok (goInt 0) w := by
  simp [Builtin.len_, run_underlying h]
theorem run_len_chan {P : Program} {t u : TypeId} {d : ChanDir} {e : TypeId} (h : P.underlying t = some (.chan d e)) (w : World) {c cap s r : Nat} {buf : Array Value} {cl : Bool} (hc : w.heap[c]? = some (.chan cap buf cl s r false)) :
    (Builtin.len_ #[t] u #[.chan (some c)]).run P w = .ok (goInt buf.size) w := by
  have hg : Sem.run P (Sem.getObj c Sem.pure) w = .ok (.chan cap buf cl s r false) w := by simp [Sem.run, hc]
  simp only [Builtin.len_, run_underlying h]
  simp [run_underlying h, getObj, hg]
theorem has_any (P S : Nat) (cs : List Nat) (l : List Bool) (t : Nat) (b : Bool) (w : World) (hP : PermitsAt w P S cs l) (hb : l[t]? = some b) :
    Calls Tryz.prog 61 #[permitsV P, .int .i64 t] w fun e w' => e = .returned (.bool b) ∧ w = w' := by
  have ht : t < cs.length := by rw [hP.len]; exact (List.getElem?_eq_some_iff.1 hb).1
  obtain ⟨c, hc⟩ : ∃ c, cs[t]? = some c := ⟨cs[t], by simp [ht]⟩
  have ho := of_any P S cs l t c w hP hc
  obtain ⟨s, r, hch⟩ := hP.chan t c b hc hb
  clear hP hc ht hb
  have hn := fun u => run_len_chan (P := Tryz.prog) (t := 201) (u := u) Tryz.underlying201 w hch
  cases b
  all_goals
    go_enter Tryz.func61, Tryz.ntmps61
    go_wp2_with (go_at_call 145; (with_reducible refine ho.mono ?_); rintro e w1 ⟨rfl, rfl⟩)
    go_ret
    exact ⟨rfl, rfl⟩
theorem has_no (P S : Nat) (cs : List Nat) (l : List Bool) (t : Int) (w : World) (hP : PermitsAt w P S cs l) (ht : t < 0 ∨ (l.length : Int) ≤ t) :
    Calls Tryz.prog 61 #[permitsV P, .int .i64 t] w fun e w' => e = .returned (.bool false) ∧ w = w' := by
  have ho := pof_no P S cs l t w hP ht
  have hn := fun u => run_len_chan_none (P := Tryz.prog) (t := 201) (u := u) Tryz.underlying201 w
  clear hP ht
  go_enter Tryz.func61, Tryz.ntmps61
  go_wp2_with (go_at_call 145; (with_reducible refine ho.mono ?_); rintro e w1 ⟨rfl, rfl⟩)
  go_ret
  exact ⟨rfl, rfl⟩
theorem has_nil (t : Int) (w : World) : Calls Tryz.prog 61 #[.pointer none, .int .i64 t] w fun e w' => e = .returned (.bool false) ∧ w = w' := by
  have ho := of_nil t w
  have hn := fun u => run_len_chan_none (P := Tryz.prog) (t := 201) (u := u) Tryz.underlying201 w
  go_enter Tryz.func61, Tryz.ntmps61
  go_wp2_with (go_at_call 145; (with_reducible refine ho.mono ?_); rintro e w1 ⟨rfl, rfl⟩)
  go_ret
  exact ⟨rfl, rfl⟩
end Go.Proofs.YtldofbkjjmnooaaGreat
/- Contracts of package permit, for one goroutine alone: Give, Take, Block (of a thread that has a permit, or that there is not). -/
namespace Go.Proofs.YtldofbkjjmnooaaGreat
open Go.ChangeShapes Go.WideShapes Go.ChangeAt Go.RowKit Go.Conc
set_option linter.unusedVariables false
set_option maxRecDepth 100000
set_option linter.unusedSimpArgs false
/-- a call, by its contract, within the machine of one -/
theorem LoneTo.call {P : Program} {Q : Goroutine → World → Prop} {R : Ending → World → Prop} {b : Frame} {a : Act} {k : List Item} {cs : List Frame} {w : World} {ops : Array Oper} {i : Nat} {rest : List Nat} {o : Oper} {f : FuncId} {fn : Func} {args : Array Operand} {ats : Array TypeId} {vs : Array Value}
    (ho : ops[i]? = some o) (hw : Region.wanted o (yielded ops a.tmps) = true) (hk : b.kind ≠ .early) (hop : o.op = .call { callee := .value (.func f), args, argTypes := ats })
    (hf : P.funcs[f]? = some fn) (hname : (fn.name == "runtime.NumGoroutine") = false) (hb : fn.body.isNone = false) (hv : args.map a.eval = vs) (h : Calls P f vs w R)
    (hR : ∀ e w', R e w' → ∃ v, e = .returned v ∧ LoneTo P Q (G (b.at (a.put ((ops[i]?).bind (·.dst)) v) (.inRegion ops rest :: k)) cs) w') :
    LoneTo P Q (G (b.at a (.inRegion ops (i :: rest) :: k)) cs) w := by
  subst hv
  obtain ⟨e, w', fr', hR', hc, hf', hl⟩ := h (b.at a (.inRegion ops (i :: rest) :: k) :: cs)
  obtain ⟨v, rfl, g, w2, hs, hq⟩ := hR e w' hR'
  refine ⟨g, w2, Steps.head (step_solo_go rfl (stepG_enter ho hw hk (run_call_body hop hf hname hb))) (Steps.trans hc (Steps.head (step_leave_returned hl) ?_)), hq⟩
  rw [Frame.finish_at]
  exact hs
theorem set_same {l : List Bool} {t : Nat} {b : Bool} (h : l[t]? = some b) : l.set t b = l := by
  apply List.ext_getElem?
  intro i
  by_cases e : t = i
  · subst e
    rw [List.getElem?_set_self (List.getElem?_eq_some_iff.1 h).1, h]
  · rw [List.getElem?_set_ne e]
theorem chan_for {w : World} {P S : Nat} {cs : List Nat} {l : List Bool} {t : Nat} {b : Bool} (hP : PermitsAt w P S cs l) (hb : l[t]? = some b) : ∃ c, cs[t]? = some c := by
  have := hP.len
  have h2 := (List.getElem?_eq_some_iff.1 hb).1
  exact ⟨cs[t]'(by omega), by simp⟩
set_option maxRecDepth 100000 in
theorem give_any (P S : Nat) (cs : List Nat) (l : List Bool) (t : Nat) (b : Bool) (w : World) (hP : PermitsAt w P S cs l) (hb : l[t]? = some b) :
    Calls Tryz.prog 60 #[permitsV P, .int .i64 t] w fun e w' => e = .returned (.bool true) ∧ PermitsAt w' P S cs (l.set t true) ∧ Keep (fun k => k ∈ cs) w w' := by
  obtain ⟨c, hc⟩ := chan_for hP hb
  have ho := of_any P S cs l t c w hP hc
  obtain ⟨s, r, hch⟩ := hP.chan t c b hc hb
  refine calls_of_loneTo fun cs' => ?_
  have e : Frame.enter Tryz.prog 60 #[permitsV P, .int .i64 t] .normal = (base 60).at ⟨#[permitsV P, .int .i64 t] ++ Array.replicate (Tryz.f60.ntmps - 2) undef, []⟩ [.code (Tryz.f60.body.getD .skip)] := by
    rw [enter_at _ Tryz.func60 rfl]; rfl
  rw [e]
  refine LoneTo.goes (n := 60) ?_
  simp only [Tryz.f60, Option.getD_some]
  walk_nrm
  repeat (first | s_c stepG_seq | s_c stepG_region_end | s_c stepG_skip | s_c stepG_block | s_c stepG_inBlock | s_reg | s_op)
  s_stop
  refine LoneTo.call (f := 145) (fn := Tryz.f145) rfl rfl (by decide) rfl Tryz.func145 (by kernel_rfl) (by kernel_rfl) ?_ ho ?_
  · walk_nrm
  rintro e1 w1 ⟨rfl, rfl⟩
  refine ⟨_, rfl, ?_⟩
  walk_nrm
  refine LoneTo.goes (n := 60) ?_
  repeat (first | s_c stepG_seq | s_c stepG_region_end | s_c stepG_skip | s_c stepG_block | s_c stepG_inBlock | s_reg | s_op)
  s_cond false
  repeat (first | s_c stepG_seq | s_c stepG_region_end | s_c stepG_skip | s_c stepG_block | s_c stepG_inBlock | s_reg | s_op)
  s_stop
  have hcomm : (execOp (Act.eval ⟨#[permitsV P, .int .i64 t, undef, undef, .bool false, .chan (some c), permitsV P, .int .i64 t, .chan (some c), .chan (some c), .bool false, .chan (some c), .agg #[], undef, undef, undef], []⟩)
      { dst := some 13, op := Op.select #[{ chan := Operand.tmp 11, send := some (Operand.tmp 12), elem := 68 }] false, type := 0, pos := "permit.go:49", after := #[], guard := none }).run Tryz.prog w = .ok (.comm #[scase c tokV tokV] false .select) w := by
    simp [go_sem, execOp, scase, Act.eval]
  cases b
  · refine LoneTo.step (step_lone_select_send_room (c := c) (cap := 1) (buf := #[]) (s := s) (r := r) (tm := false) (stepG_comm rfl rfl (by decide) hcomm) hch (by simp)) ?_
    rw [Frame.finish_at]
    walk_nrm
    refine LoneTo.goes (n := 60) ?_
    repeat (first | s_c stepG_seq | s_c stepG_region_end | s_c stepG_skip | s_c stepG_block | s_c stepG_inBlock | s_reg | s_op)
    s_cond true
    repeat (first | s_c stepG_seq | s_c stepG_region_end | s_c stepG_skip | s_c stepG_block | s_c stepG_inBlock | s_reg | s_op)
    s_c stepG_ret'
    s_stop
    refine LoneTo.done ⟨.returned (.bool true), _, rfl, ⟨rfl, ?_⟩, rfl, rfl, rfl, rfl, _, Tryz.func60, by simp [results, Tryz.results60, Frame.at]⟩
    exact hP.setChan hc true (s + 1) r
  · refine LoneTo.step (step_lone_select_send_full (c := c) (cap := 1) (buf := #[tokV]) (s := s) (r := r) (tm := false) (stepG_comm rfl rfl (by decide) hcomm) hch (by simp)) ?_
    rw [Frame.finish_at]
    walk_nrm
    refine LoneTo.goes (n := 60) ?_
    repeat (first | s_c stepG_seq | s_c stepG_region_end | s_c stepG_skip | s_c stepG_block | s_c stepG_inBlock | s_reg | s_op)
    s_cond false
    repeat (first | s_c stepG_seq | s_c stepG_region_end | s_c stepG_skip | s_c stepG_block | s_c stepG_inBlock | s_reg | s_op)
    s_c stepG_ret'
    s_stop
    refine LoneTo.done ⟨.returned (.bool true), _, rfl, ⟨rfl, ?_⟩, rfl, rfl, rfl, rfl, _, Tryz.func60, by simp [results, Tryz.results60, Frame.at]⟩
    exact ⟨by rwa [set_same hb], Keep.refl _ w⟩
theorem give_no (P S : Nat) (cs : List Nat) (l : List Bool) (t : Int) (w : World) (hP : PermitsAt w P S cs l) (ht : t < 0 ∨ (l.length : Int) ≤ t) :
    Calls Tryz.prog 60 #[permitsV P, .int .i64 t] w fun e w' => e = .returned (.bool false) ∧ w = w' := by
  have ho := pof_no P S cs l t w hP ht
  have hcn : ∀ W : World, (binOp .eql 201 (.chan none) (.chan none)).run Tryz.prog W = .ok (.bool true) W := by intro W; kernel_rfl
  go_enter Tryz.func60, Tryz.ntmps60
  go_wp2_with (go_at_call 145; (with_reducible refine ho.mono ?_); rintro e w1 ⟨rfl, rfl⟩)
  go_ret
  exact ⟨rfl, rfl⟩
theorem give_nil (t : Int) (w : World) :
    Calls Tryz.prog 60 #[.pointer none, .int .i64 t] w fun e w' => e = .returned (.bool false) ∧ w = w' := by
  have ho := of_nil t w
  have hcn : ∀ W : World, (binOp .eql 201 (.chan none) (.chan none)).run Tryz.prog W = .ok (.bool true) W := by intro W; kernel_rfl
  go_enter Tryz.func60, Tryz.ntmps60
  go_wp2_with (go_at_call 145; (with_reducible refine ho.mono ?_); rintro e w1 ⟨rfl, rfl⟩)
  go_ret
  exact ⟨rfl, rfl⟩
set_option maxRecDepth 100000 in
theorem take_any (P S : Nat) (cs : List Nat) (l : List Bool) (t : Nat) (b : Bool) (w : World) (hP : PermitsAt w P S cs l) (hb : l[t]? = some b) :
    Calls Tryz.prog 279 #[permitsV P, .int .i64 t] w fun e w' => e = .returned (.bool b) ∧ PermitsAt w' P S cs (l.set t false) ∧ Keep (fun k => k ∈ cs) w w' := by
  obtain ⟨c, hc⟩ := chan_for hP hb
  have ho := of_any P S cs l t c w hP hc
  obtain ⟨s, r, hch⟩ := hP.chan t c b hc hb
  refine calls_of_loneTo fun cs' => ?_
  have e : Frame.enter Tryz.prog 279 #[permitsV P, .int .i64 t] .normal = (base 279).at ⟨#[permitsV P, .int .i64 t] ++ Array.replicate (Tryz.f279.ntmps - 2) undef, []⟩ [.code (Tryz.f279.body.getD .skip)] := by
    rw [enter_at _ Tryz.func279 rfl]; rfl
  rw [e]
  refine LoneTo.goes (n := 60) ?_
  simp only [Tryz.f279, Option.getD_some]
  walk_nrm
  repeat (first | s_c stepG_seq | s_c stepG_region_end | s_c stepG_skip | s_c stepG_block | s_c stepG_inBlock | s_reg | s_op)
  s_stop
  refine LoneTo.call (f := 145) (fn := Tryz.f145) rfl rfl (by decide) rfl Tryz.func145 (by kernel_rfl) (by kernel_rfl) ?_ ho ?_
  · walk_nrm
  rintro e1 w1 ⟨rfl, rfl⟩
  refine ⟨_, rfl, ?_⟩
  walk_nrm
  refine LoneTo.goes (n := 60) ?_
  repeat (first | s_c stepG_seq | s_c stepG_region_end | s_c stepG_skip | s_c stepG_block | s_c stepG_inBlock | s_reg | s_op)
  s_stop
  have hcomm : (execOp (Act.eval ⟨#[permitsV P, .int .i64 t, undef, undef, .bool false, permitsV P, .int .i64 t, .chan (some c), undef, undef, undef], []⟩)
      { dst := some 8, op := Op.select #[{ chan := Operand.tmp 7, send := none, elem := 68 }] false, type := 0, pos := "permit.go:59", after := #[], guard := none }).run Tryz.prog w = .ok (.comm #[rcase c tokV] false .select) w := by
    simp [go_sem, execOp, rcase, rcaseNil, Act.eval]
  cases b
  · refine LoneTo.step (step_lone_select_default (c := c) (cap := 1) (s := s) (r := r) (tm := false) (stepG_comm rfl rfl (by decide) hcomm) hch) ?_
    rw [Frame.finish_at]
    walk_nrm
    refine LoneTo.goes (n := 60) ?_
    repeat (first | s_c stepG_seq | s_c stepG_region_end | s_c stepG_skip | s_c stepG_block | s_c stepG_inBlock | s_reg | s_op)
    s_cond false
    repeat (first | s_c stepG_seq | s_c stepG_region_end | s_c stepG_skip | s_c stepG_block | s_c stepG_inBlock | s_reg | s_op)
    s_c stepG_ret'
    s_stop
    refine LoneTo.done ⟨.returned (.bool false), _, rfl, ⟨rfl, ?_⟩, rfl, rfl, rfl, rfl, _, Tryz.func279, by simp [results, Tryz.results279, Frame.at]⟩
    exact ⟨by rwa [set_same hb], Keep.refl _ w⟩
  · refine LoneTo.step (step_lone_select_recv_buf (c := c) (cap := 1) (buf := #[tokV]) (s := s) (r := r) (tm := false) (stepG_comm rfl rfl (by decide) hcomm) hch (by simp)) ?_
    rw [Frame.finish_at]
    walk_nrm
    refine LoneTo.goes (n := 60) ?_
    repeat (first | s_c stepG_seq | s_c stepG_region_end | s_c stepG_skip | s_c stepG_block | s_c stepG_inBlock | s_reg | s_op)
    s_cond true
    repeat (first | s_c stepG_seq | s_c stepG_region_end | s_c stepG_skip | s_c stepG_block | s_c stepG_inBlock | s_reg | s_op)
    s_c stepG_ret'
    s_stop
    refine LoneTo.done ⟨.returned (.bool true), _, rfl, ⟨rfl, ?_⟩, rfl, rfl, rfl, rfl, _, Tryz.func279, by simp [results, Tryz.results279, Frame.at]⟩
    exact hP.setChan hc false s (r + 1)
set_option maxRecDepth 100000 in
theorem take_no (P S : Nat) (cs : List Nat) (l : List Bool) (t : Int) (w : World) (hP : PermitsAt w P S cs l) (ht : t < 0 ∨ (l.length : Int) ≤ t) :
    Calls Tryz.prog 279 #[permitsV P, .int .i64 t] w fun e w' => e = .returned (.bool false) ∧ w = w' := by
  have ho := pof_no P S cs l t w hP ht
  refine calls_of_loneTo fun cs' => ?_
  have e : Frame.enter Tryz.prog 279 #[permitsV P, .int .i64 t] .normal = (base 279).at ⟨#[permitsV P, .int .i64 t] ++ Array.replicate (Tryz.f279.ntmps - 2) undef, []⟩ [.code (Tryz.f279.body.getD .skip)] := by
    rw [enter_at _ Tryz.func279 rfl]; rfl
  rw [e]
  refine LoneTo.goes (n := 60) ?_
  simp only [Tryz.f279, Option.getD_some]
  walk_nrm
  repeat (first | s_c stepG_seq | s_c stepG_region_end | s_c stepG_skip | s_c stepG_block | s_c stepG_inBlock | s_reg | s_op)
  s_stop
  refine LoneTo.call (f := 145) (fn := Tryz.f145) rfl rfl (by decide) rfl Tryz.func145 (by kernel_rfl) (by kernel_rfl) ?_ ho ?_
  · walk_nrm
  rintro e1 w1 ⟨rfl, rfl⟩
  refine ⟨_, rfl, ?_⟩
  walk_nrm
  refine LoneTo.goes (n := 60) ?_
  repeat (first | s_c stepG_seq | s_c stepG_region_end | s_c stepG_skip | s_c stepG_block | s_c stepG_inBlock | s_reg | s_op)
  s_stop
  have hcomm : (execOp (Act.eval ⟨#[permitsV P, .int .i64 t, undef, undef, .bool false, permitsV P, .int .i64 t, .chan none, undef, undef, undef], []⟩)
      { dst := some 8, op := Op.select #[{ chan := Operand.tmp 7, send := none, elem := 68 }] false, type := 0, pos := "permit.go:59", after := #[], guard := none }).run Tryz.prog w = .ok (.comm #[rcaseNil tokV] false .select) w := by
    simp [go_sem, execOp, rcase, rcaseNil, Act.eval]
  refine LoneTo.step (step_lone_select_recv_nil (stepG_comm rfl rfl (by decide) hcomm)) ?_
  rw [Frame.finish_at]
  walk_nrm
  refine LoneTo.goes (n := 60) ?_
  repeat (first | s_c stepG_seq | s_c stepG_region_end | s_c stepG_skip | s_c stepG_block | s_c stepG_inBlock | s_reg | s_op)
  s_cond false
  repeat (first | s_c stepG_seq | s_c stepG_region_end | s_c stepG_skip | s_c stepG_block | s_c stepG_inBlock | s_reg | s_op)
  s_c stepG_ret'
  s_stop
  refine LoneTo.done ⟨.returned (.bool false), _, rfl, ⟨rfl, ?_⟩, rfl, rfl, rfl, rfl, _, Tryz.func279, by simp [results, Tryz.results279, Frame.at]⟩
  rfl
set_option maxRecDepth 100000 in
theorem take_nil (t : Int) (w : World) :
    Calls Tryz.prog 279 #[.pointer none, .int .i64 t] w fun e w' => e = .returned (.bool false) ∧ w = w' := by
  have ho := of_nil t w
  refine calls_of_loneTo fun cs' => ?_
  have e : Frame.enter Tryz.prog 279 #[.pointer none, .int .i64 t] .normal = (base 279).at ⟨#[.pointer none, .int .i64 t] ++ Array.replicate (Tryz.f279.ntmps - 2) undef, []⟩ [.code (Tryz.f279.body.getD .skip)] := by
    rw [enter_at _ Tryz.func279 rfl]; rfl
  rw [e]
  refine LoneTo.goes (n := 60) ?_
  simp only [Tryz.f279, Option.getD_some]
  walk_nrm
  repeat (first | s_c stepG_seq | s_c stepG_region_end | s_c stepG_skip | s_c stepG_block | s_c stepG_inBlock | s_reg | s_op)
  s_stop
  refine LoneTo.call (f := 145) (fn := Tryz.f145) rfl rfl (by decide) rfl Tryz.func145 (by kernel_rfl) (by kernel_rfl) ?_ ho ?_
  · walk_nrm
  rintro e1 w1 ⟨rfl, rfl⟩
  refine ⟨_, rfl, ?_⟩
  walk_nrm
  refine LoneTo.goes (n := 60) ?_
  repeat (first | s_c stepG_seq | s_c stepG_region_end | s_c stepG_skip | s_c stepG_block | s_c stepG_inBlock | s_reg | s_op)
  s_stop
  have hcomm : (execOp (Act.eval ⟨#[.pointer none, .int .i64 t, undef, undef, .bool false, .pointer none, .int .i64 t, .chan none, undef, undef, undef], []⟩)
      { dst := some 8, op := Op.select #[{ chan := Operand.tmp 7, send := none, elem := 68 }] false, type := 0, pos := "permit.go:59", after := #[], guard := none }).run Tryz.prog w = .ok (.comm #[rcaseNil tokV] false .select) w := by
    simp [go_sem, execOp, rcase, rcaseNil, Act.eval]
  refine LoneTo.step (step_lone_select_recv_nil (stepG_comm rfl rfl (by decide) hcomm)) ?_
  rw [Frame.finish_at]
  walk_nrm
  refine LoneTo.goes (n := 60) ?_
  repeat (first | s_c stepG_seq | s_c stepG_region_end | s_c stepG_skip | s_c stepG_block | s_c stepG_inBlock | s_reg | s_op)
  s_cond false
  repeat (first | s_c stepG_seq | s_c stepG_region_end | s_c stepG_skip | s_c stepG_block | s_c stepG_inBlock | s_reg | s_op)
  s_c stepG_ret'
  s_stop
  refine LoneTo.done ⟨.returned (.bool false), _, rfl, ⟨rfl, ?_⟩, rfl, rfl, rfl, rfl, _, Tryz.func279, by simp [results, Tryz.results279, Frame.at]⟩
  rfl
end Go.Proofs.YtldofbkjjmnooaaGreat
/- Package task: what a task is in memory: its operation at hand, and the list of what follows. -/
namespace Go.Proofs.YtldofbkjjmnooaaGreat
open Go.ChangeShapes Go.WideShapes Go.ChangeAt Go.RowKit
set_option linter.unusedVariables false
set_option maxRecDepth 100000
set_option linter.unusedSimpArgs false
/-- going on past values -/
structure Equiv6 (s r : List Itm) (v : Int) : Prop where
  fresh : Fresh r
  on : ∀ x, (onS s x).1 = r ∧ (r = [] → (onS s x).2 = v)
theorem onS_append (s r : List Itm) (v : Int) : onS (s ++ r) v = if (onS s v).1 = [] then onS r (onS s v).2 else ((onS s v).1 ++ r, (onS s v).2) := by
  induction s generalizing v with
  | nil => simp [onS]
  | cons x s ih =>
    by_cases h : x.kind = 7
    · rw [List.cons_append, onS_ready h, onS_ready h]; exact ih _
    · rw [List.cons_append, onS_other h, onS_other h]; simp
theorem Fresh.append {r s : List Itm} (h : Fresh r) (hn : r ≠ []) : Fresh (r ++ s) := by
  cases r with
  | nil => exact absurd rfl hn
  | cons x r => simpa [Fresh] using h
theorem Equiv6.ne {s r : List Itm} {v : Int} (h : Equiv6 s r v) : s ≠ [] := by
  rintro rfl
  have h0 := h.on (v + 1)
  have h1 := h0.1
  simp only [onS] at h1 h0
  have := h0.2 h1.symm
  omega
/-- a closure's own work, as an item's -/
def CloAt (w : World) (C : Nat) (Q : Nat → Prop) (x : Itm) (F : Nat) (caps : Array Value) : Prop :=
  ∃ bc bi, Q bc ∧ Q bi ∧ Blk w bc 26 #[cellsV C] ∧ Blk w bi 3 #[.int .i64 x.at'] ∧
    ((x.kind = 0 ∧ F = 277 ∧ caps = #[pV bc, pV bi]) ∨
     (x.kind = 1 ∧ F = 269 ∧ ∃ bv, caps = #[pV bc, pV bi, pV bv] ∧ Q bv ∧ Blk w bv 47 #[.int .u64 x.a]) ∨
     ((x.kind = 2 ∨ x.kind = 4) ∧ F = 288 ∧ ∃ bo bn, caps = #[pV bc, pV bi, pV bo, pV bn] ∧ Q bo ∧ Q bn ∧ Blk w bo 47 #[.int .u64 x.a] ∧ Blk w bn 47 #[.int .u64 x.b]) ∨
     (x.kind = 3 ∧ False ∧ ∃ bv, caps = #[pV bc, pV bi, pV bv] ∧ Q bv ∧ Blk w bv 47 #[.int .u64 x.a]))
theorem CloAt.keep {w w1 : World} {C : Nat} {Q Q' F : Nat → Prop} {x : Itm} {G : Nat} {caps : Array Value} (h : CloAt w C Q x G caps) (hk : Keep F w w1) (hd : ∀ b, Q b → ¬ F b) (hq : ∀ b, b < w.heap.size → Q b → Q' b) : CloAt w1 C Q' x G caps := by
  obtain ⟨bc, bi, h1, h2, h3, h4, h⟩ := h
  refine ⟨bc, bi, hq _ h3.lt h1, hq _ h4.lt h2, h3.keep hk (hd _ h1), h4.keep hk (hd _ h2), ?_⟩
  rcases h with h | ⟨a, b, bv, c, d, e⟩ | ⟨a, b, bo, bn, c, d, e, f, g⟩ | ⟨a, b, bv, c, d, e⟩
  · exact .inl h
  · exact .inr (.inl ⟨a, b, bv, c, hq _ e.lt d, e.keep hk (hd _ d)⟩)
  · exact .inr (.inr (.inl ⟨a, b, bo, bn, c, hq _ f.lt d, hq _ g.lt e, f.keep hk (hd _ d), g.keep hk (hd _ e)⟩))
  · exact .inr (.inr (.inr ⟨a, b, bv, c, hq _ e.lt d, e.keep hk (hd _ d)⟩))
/-- the body of a spin's loop -/
def SpinB (w : World) (C : Nat) (Q : Nat → Prop) (x : Itm) (body : Value) : Prop :=
  ∃ bc bi bo bn, body = cloV 216 #[pV bc, pV bi, pV bo, pV bn] ∧ Q bc ∧ Q bi ∧ Q bo ∧ Q bn ∧ Blk w bc 26 #[cellsV C] ∧ Blk w bi 3 #[.int .i64 x.at'] ∧ Blk w bo 47 #[.int .u64 x.a] ∧ Blk w bn 47 #[.int .u64 x.b]
theorem SpinB.keep {w w1 : World} {C : Nat} {Q Q' F : Nat → Prop} {x : Itm} {body : Value} (h : SpinB w C Q x body) (hk : Keep F w w1) (hd : ∀ b, Q b → ¬ F b) (hq : ∀ b, b < w.heap.size → Q b → Q' b) : SpinB w1 C Q' x body := by
  obtain ⟨bc, bi, bo, bn, e, h1, h2, h3, h4, b1, b2, b3, b4⟩ := h
  exact ⟨bc, bi, bo, bn, e, hq _ b1.lt h1, hq _ b2.lt h2, hq _ b3.lt h3, hq _ b4.lt h4, b1.keep hk (hd _ h1), b2.keep hk (hd _ h2), b3.keep hk (hd _ h3), b4.keep hk (hd _ h4)⟩
/-- what follows an operation of a spin -/
def Link3 (w : World) (Q : Nat → Prop) (f : Nat) : Prop := Q f ∧ Blk w f 89 #[cloV 218 #[]]
def Link2 (w : World) (C : Nat) (Q : Nat → Prop) (x : Itm) (f : Nat) : Prop := Q f ∧ ∃ bb body, Blk w f 89 #[cloV 274 #[pV bb]] ∧ Q bb ∧ Blk w bb 155 #[body] ∧ SpinB w C Q x body
theorem Link3.keep {w w1 : World} {Q Q' F : Nat → Prop} {f : Nat} (h : Link3 w Q f) (hk : Keep F w w1) (hd : ∀ b, Q b → ¬ F b) (hq : ∀ b, b < w.heap.size → Q b → Q' b) : Link3 w1 Q' f := ⟨hq _ h.2.lt h.1, h.2.keep hk (hd _ h.1)⟩
theorem Link2.keep {w w1 : World} {C : Nat} {Q Q' F : Nat → Prop} {x : Itm} {f : Nat} (h : Link2 w C Q x f) (hk : Keep F w w1) (hd : ∀ b, Q b → ¬ F b) (hq : ∀ b, b < w.heap.size → Q b → Q' b) : Link2 w1 C Q' x f := by
  obtain ⟨h1, bb, body, h2, h3, h4, h5⟩ := h
  exact ⟨hq _ h2.lt h1, bb, body, h2.keep hk (hd _ h1), hq _ h4.lt h3, h4.keep hk (hd _ h3), h5.keep hk hd hq⟩
/-- the operation at hand of a task: 'do', 'park', and what follows of its own -/
def OpAt (w : World) (C P : Nat) (Q : Nat → Prop) (x : Itm) (d p : Value) (gs : List Nat) : Prop :=
  ((∃ b F caps, d = cloV 260 #[pV b] ∧ p = .pointer none ∧ Q b ∧ Blk w b 28 #[cloV F caps] ∧ CloAt w C Q x F caps) ∧ ((x.kind ≠ 4 ∧ gs = []) ∨ (x.kind = 4 ∧ ∃ k3 k2, gs = [k3, k2] ∧ Link3 w Q k3 ∧ Link2 w C Q x k2))) ∨
  ((x.kind = 5 ∨ x.kind = 6) ∧ d = .nilFunc ∧ gs = [] ∧ ∃ pb, p = pV pb ∧ Q pb ∧ Blk w pb 265 #[pV P, .int .i64 x.at', .bool (x.kind == 6)])
theorem OpAt.keep {w w1 : World} {C P : Nat} {Q Q' F : Nat → Prop} {x : Itm} {d p : Value} {gs : List Nat} (h : OpAt w C P Q x d p gs) (hk : Keep F w w1) (hd : ∀ b, Q b → ¬ F b) (hq : ∀ b, b < w.heap.size → Q b → Q' b) : OpAt w1 C P Q' x d p gs := by
  rcases h with ⟨⟨b, G, caps, e1, e2, h1, h2, h3⟩, h4⟩ | ⟨e1, e2, e3, pb, e4, h1, h2⟩
  · refine .inl ⟨⟨b, G, caps, e1, e2, hq _ h2.lt h1, h2.keep hk (hd _ h1), h3.keep hk hd hq⟩, ?_⟩
    rcases h4 with h4 | ⟨h4, k3, k2, e3, l3, l2⟩
    · exact .inl h4
    · exact .inr ⟨h4, k3, k2, e3, l3.keep hk hd hq, l2.keep hk hd hq⟩
  · exact .inr ⟨e1, e2, e3, pb, e4, hq _ h2.lt h1, h2.keep hk (hd _ h1)⟩
theorem OpAt.kind {w : World} {C P : Nat} {Q : Nat → Prop} {x : Itm} {d p : Value} {gs : List Nat} (h : OpAt w C P Q x d p gs) : x.kind < 7 := by
  rcases h with ⟨⟨b, G, caps, e1, e2, h1, h2, bc, bi, _, _, _, _, h3⟩, h4⟩ | ⟨e1, e2, e3, pb, e4, h1, h2⟩
  · rcases h3 with ⟨h3, _⟩ | ⟨h3, _⟩ | ⟨h3, _⟩ | ⟨h3, _⟩ <;> omega
  · omega
/-- continuations, one behind the other -/
def Conts (K : Nat → List Itm → Prop) : List Nat → List Itm → Prop
  | [], r => r = []
  | f :: fs, r => ∃ s r2, K f s ∧ Conts K fs r2 ∧ r = s ++ r2
theorem Conts.mono {K K' : Nat → List Itm → Prop} (h : ∀ f s, K f s → K' f s) : ∀ (fs : List Nat) (r : List Itm), Conts K fs r → Conts K' fs r
  | [], r, e => e
  | f :: fs, r, ⟨s, r2, h1, h2, e⟩ => ⟨s, r2, h f s h1, Conts.mono h fs r2 h2, e⟩
theorem Conts.append {K : Nat → List Itm → Prop} : ∀ (fs gs : List Nat) (r s : List Itm), Conts K fs r → Conts K gs s → Conts K (fs ++ gs) (r ++ s)
  | [], gs, r, s, e, h => by simp only [Conts] at e; subst e; simpa using h
  | f :: fs, gs, r, s, ⟨s1, r2, h1, h2, e⟩, h => ⟨s1, r2 ++ s, h1, Conts.append fs gs r2 s h2 h, by rw [e, List.append_assoc]⟩
def Shape (K : Nat → List Itm → Prop) (w : World) (C P : Nat) (Q : Nat → Prop) (d p rest : Value) (val : Int) (r : List Itm) (v : Int) : Prop :=
  match r with
  | [] => d = .nilFunc ∧ p = .pointer none ∧ rest = .pointer none ∧ val = v
  | x :: r' => val = 0 ∧ ∃ gs fs, TreeO w Q rest (gs ++ fs) ∧ OpAt w C P Q x d p gs ∧ Conts K fs r'
/-- the task at block t: what is left of it, and its value when nothing is -/
def TaskIn (K : Nat → List Itm → Prop) (w : World) (C P : Nat) (Q : Nat → Prop) (t : Nat) (r : List Itm) (v : Int) : Prop :=
  ∃ d p rest val, Blk w t 161 #[d, p, rest, .int .i64 val] ∧ Shape K w C P Q d p rest val r v
theorem Shape.keep {K K' : Nat → List Itm → Prop} {w w1 : World} {C P : Nat} {Q Q' F : Nat → Prop} {d p rest : Value} {val : Int} {r : List Itm} {v : Int} (h : Shape K w C P Q d p rest val r v) (hK : ∀ f s, K f s → K' f s) (hk : Keep F w w1) (hd : ∀ b, Q b → ¬ F b) (hq : ∀ b, b < w.heap.size → Q b → Q' b) : Shape K' w1 C P Q' d p rest val r v := by
  cases r with
  | nil => exact h
  | cons x r =>
    obtain ⟨e, gs, fs, h1, h2, h3⟩ := h
    refine ⟨e, gs, fs, ?_, h2.keep hk hd hq, Conts.mono hK _ _ h3⟩
    exact ((h1.mono (Q' := fun b => Q b ∧ Q' b) fun b hb h => ⟨h, hq b hb h⟩).keep hk fun b h => hd b h.1).mono fun b _ h => h.2
theorem TaskIn.keep {K K' : Nat → List Itm → Prop} {w w1 : World} {C P : Nat} {Q Q' F : Nat → Prop} {t : Nat} {r : List Itm} {v : Int} (h : TaskIn K w C P Q t r v) (hK : ∀ f s, K f s → K' f s) (hk : Keep F w w1) (hd : ∀ b, Q b → ¬ F b) (ht : ¬ F t) (hq : ∀ b, b < w.heap.size → Q b → Q' b) : TaskIn K' w1 C P Q' t r v := by
  obtain ⟨d, p, rest, val, h1, h2⟩ := h
  exact ⟨d, p, rest, val, h1.keep hk ht, h2.keep hK hk hd hq⟩
theorem TaskIn.fresh {K : Nat → List Itm → Prop} {w : World} {C P : Nat} {Q : Nat → Prop} {t : Nat} {r : List Itm} {v : Int} (h : TaskIn K w C P Q t r v) : Fresh r := by
  obtain ⟨d, p, rest, val, h1, h2⟩ := h
  cases r with
  | nil => simp [Fresh]
  | cons x r =>
    obtain ⟨_, gs, fs, _, h3, _⟩ := h2
    have := h3.kind
    simp [Fresh]; omega
theorem TaskIn.value {K : Nat → List Itm → Prop} {w : World} {C P : Nat} {Q : Nat → Prop} {t : Nat} {r : List Itm} {v : Int} (h : TaskIn K w C P Q t r v) (u : Int) (hu : r = [] → u = v) : TaskIn K w C P Q t r u := by
  obtain ⟨d, p, rest, val, h1, h2⟩ := h
  cases r with
  | nil => obtain ⟨a, b, c, e⟩ := h2; exact ⟨d, p, rest, val, h1, a, b, c, by rw [e, hu rfl]⟩
  | cons x r => exact ⟨d, p, rest, val, h1, h2⟩
/-- a task in a list of tasks, or none -/
def Elem (K : Nat → List Itm → Prop) (w : World) (C P : Nat) (Q : Nat → Prop) (u : Option Addr) (s : List Itm) : Prop :=
  (u = none ∧ Equiv6 s [] 0) ∨ ∃ t r v, u = some ⟨t, 0, none⟩ ∧ Q t ∧ TaskIn K w C P Q t r v ∧ Equiv6 s r v
theorem Elem.keep {K K' : Nat → List Itm → Prop} {w w1 : World} {C P : Nat} {Q Q' F : Nat → Prop} {u : Option Addr} {s : List Itm} (h : Elem K w C P Q u s) (hK : ∀ f s, K f s → K' f s) (hk : Keep F w w1) (hd : ∀ b, Q b → ¬ F b) (hq : ∀ b, b < w.heap.size → Q b → Q' b) : Elem K' w1 C P Q' u s := by
  rcases h with h | ⟨t, r, v, e, h1, h2, h3⟩
  · exact .inl h
  · have hlt : t < w.heap.size := by obtain ⟨_, _, _, _, hb, _⟩ := h2; exact hb.lt
    exact .inr ⟨t, r, v, e, hq t hlt h1, h2.keep hK hk hd (hd t h1) hq, h3⟩
theorem Elem.ne {K : Nat → List Itm → Prop} {w : World} {C P : Nat} {Q : Nat → Prop} {u : Option Addr} {s : List Itm} (h : Elem K w C P Q u s) : s ≠ [] := by
  rcases h with ⟨_, h⟩ | ⟨t, r, v, e, h1, h2, h3⟩
  · exact h.ne
  · exact h3.ne
/-- a row of tasks, from place o of block B -/
def RowAt (K : Nat → List Itm → Prop) (w : World) (C P : Nat) (Q : Nat → Prop) (B o : Nat) (L : List (Option Addr × List Itm)) : Prop :=
  ∀ i x, L[i]? = some x → w.cell? ⟨B, o + i, none⟩ = some (.pointer x.1) ∧ Elem K w C P Q x.1 x.2
theorem cell_keep6 {w w1 : World} {F : Nat → Prop} {p : Addr} {v : Value} (h : w.cell? p = some v) (hk : Keep F w w1) (hn : ¬ F p.block) : w1.cell? p = some v := by
  have hb : p.block < w.heap.size := by
    unfold World.cell? at h
    cases hb : w.heap[p.block]? with
    | none => rw [hb] at h; cases h
    | some y => exact (Array.getElem?_eq_some_iff.1 hb).1
  unfold World.cell? at h ⊢
  rw [hk.block p.block hb hn]
  exact h
theorem RowAt.keep {K K' : Nat → List Itm → Prop} {w w1 : World} {C P : Nat} {Q Q' F : Nat → Prop} {B o : Nat} {L : List (Option Addr × List Itm)} (h : RowAt K w C P Q B o L) (hK : ∀ f s, K f s → K' f s) (hk : Keep F w w1) (hd : ∀ b, Q b → ¬ F b) (hB : ¬ F B) (hq : ∀ b, b < w.heap.size → Q b → Q' b) : RowAt K' w1 C P Q' B o L :=
  fun i x hx => ⟨cell_keep6 (h i x hx).1 hk hB, (h i x hx).2.keep hK hk hd hq⟩
def flat (L : List (Option Addr × List Itm)) : List Itm := (L.map (·.2)).flatten
/-- one continuation, over what deeper ones are -/
def ContStep (K : Nat → List Itm → Prop) (w : World) (C P : Nat) (Q : Nat → Prop) (f : Nat) (s : List Itm) : Prop :=
  Q f ∧ ∃ bl B o cap L, Blk w f 89 #[cloV 291 #[pV bl]] ∧ Q bl ∧ Blk w bl 54 #[.slice (some ⟨B, o, none⟩) (L.length + 1) cap] ∧ (L ≠ [] → Q B) ∧ L.length < 1000 ∧ L.length + 1 ≤ cap ∧ cap ≤ maxLen ∧ RowAt K w C P Q B (o + 1) L ∧ s = flat L
theorem ContStep.keep {K K' : Nat → List Itm → Prop} {w w1 : World} {C P : Nat} {Q Q' F : Nat → Prop} {f : Nat} {s : List Itm} (h : ContStep K w C P Q f s) (hK : ∀ f s, K f s → K' f s) (hk : Keep F w w1) (hd : ∀ b, Q b → ¬ F b) (hq : ∀ b, b < w.heap.size → Q b → Q' b) : ContStep K' w1 C P Q' f s := by
  obtain ⟨h1, bl, B, o, cap, L, h2, h3, h4, h5, h6, h7, h7b, h8, h9⟩ := h
  refine ⟨hq _ h2.lt h1, bl, B, o, cap, L, h2.keep hk (hd _ h1), hq _ h4.lt h3, h4.keep hk (hd _ h3), fun hL => ?_, h6, h7, h7b, ?_, h9⟩
  · cases L with
    | nil => exact absurd rfl hL
    | cons x L =>
      have hc := (h8 0 x rfl).1
      have hb : B < w.heap.size := by
        unfold World.cell? at hc
        cases hb : w.heap[B]? with
        | none => simp [hb] at hc
        | some y => exact (Array.getElem?_eq_some_iff.1 hb).1
      exact hq B hb (h5 hL)
  · cases L with
    | nil => intro i x hx; simp at hx
    | cons x L => exact h8.keep hK hk hd (hd _ (h5 (by simp))) hq
/-- a continuation: the least there is -/
def Cont (w : World) (C P : Nat) (Q : Nat → Prop) (f : Nat) (s : List Itm) : Prop :=
  ∀ K : Nat → List Itm → Prop, (∀ f s, ContStep K w C P Q f s → K f s) → K f s
theorem Cont.fold {w : World} {C P : Nat} {Q : Nat → Prop} {f : Nat} {s : List Itm} (h : ContStep (Cont w C P Q) w C P Q f s) : Cont w C P Q f s :=
  fun K hK => hK f s (h.keep (F := fun _ => False) (fun f s h => h K hK) (Keep.refl _ _) (fun _ _ h => h) (fun _ _ h => h))
theorem Cont.unfold {w : World} {C P : Nat} {Q : Nat → Prop} {f : Nat} {s : List Itm} (h : Cont w C P Q f s) : ContStep (Cont w C P Q) w C P Q f s :=
  h _ fun f s hs => hs.keep (F := fun _ => False) (fun f s h => Cont.fold h) (Keep.refl _ _) (fun _ _ h => h) (fun _ _ h => h)
theorem Cont.keep {w w1 : World} {C P : Nat} {Q Q' F : Nat → Prop} {f : Nat} {s : List Itm} (h : Cont w C P Q f s) (hk : Keep F w w1) (hd : ∀ b, Q b → ¬ F b) (hq : ∀ b, b < w.heap.size → Q b → Q' b) : Cont w1 C P Q' f s :=
  h _ fun f s hs => Cont.fold (hs.keep (fun _ _ h => h) hk hd hq)
/-- a task with all that is behind it -/
def TaskC (w : World) (C P : Nat) (Q : Nat → Prop) (t : Nat) (r : List Itm) (v : Int) : Prop := TaskIn (Cont w C P Q) w C P Q t r v
theorem TaskC.keep {w w1 : World} {C P : Nat} {Q Q' F : Nat → Prop} {t : Nat} {r : List Itm} {v : Int} (h : TaskC w C P Q t r v) (hk : Keep F w w1) (hd : ∀ b, Q b → ¬ F b) (ht : ¬ F t) (hq : ∀ b, b < w.heap.size → Q b → Q' b) : TaskC w1 C P Q' t r v :=
  TaskIn.keep h (fun _ _ h => h.keep hk hd hq) hk hd ht hq
theorem TaskC.lt {w : World} {C P : Nat} {Q : Nat → Prop} {t : Nat} {r : List Itm} {v : Int} (h : TaskC w C P Q t r v) : t < w.heap.size := by
  obtain ⟨_, _, _, _, hb, _⟩ := h
  exact hb.lt
/-- done, or in need of a step -/
theorem TaskC.view {w : World} {C P : Nat} {Q : Nat → Prop} {t : Nat} {r : List Itm} {v : Int} (h : TaskC w C P Q t r v) :
    (r = [] ∧ DoneV w (some ⟨t, 0, none⟩) v) ∨ ∃ x r' d p rest gs fs, r = x :: r' ∧ Live w t d p rest ∧ TreeO w Q rest (gs ++ fs) ∧ OpAt w C P Q x d p gs ∧ Conts (Cont w C P Q) fs r' := by
  obtain ⟨d, p, rest, val, h1, h2⟩ := h
  cases r with
  | nil => obtain ⟨rfl, rfl, rfl, rfl⟩ := h2; exact .inl ⟨rfl, .inr ⟨t, rfl, h1⟩⟩
  | cons x r =>
    obtain ⟨rfl, gs, fs, h3, h4, h5⟩ := h2
    refine .inr ⟨x, r, d, p, rest, gs, fs, rfl, ⟨h1, ?_⟩, h3, h4, h5⟩
    rcases h4 with ⟨⟨b, G, caps, e1, e2, _⟩, _⟩ | ⟨_, e2, _, pb, e4, _⟩
    · exact .inl ⟨_, _, e1, e2⟩
    · exact .inr ⟨pb, e2, e4⟩
end Go.Proofs.YtldofbkjjmnooaaGreat
