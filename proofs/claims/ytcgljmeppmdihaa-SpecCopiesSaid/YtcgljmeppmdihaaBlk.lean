/- Blocks of known cells: made, kept, set, read. A block whose cells are known whole is what wpList_load_row, wpList_store_row and results_cell_row ask for. No program is named here. -/
import Derived.WalkKit
import Derived.ProofKit
import Derived.OpenShut
import Derived.Handy
import Derived.Below
import Derived.Deep.QuietTactic
import Derived.BigQuiet
import Derived.Deep.RegionHeld3
import Derived.Laws.Rows
import Derived.Laws.CopyOwn
import Derived.Deep.WholeRow
import Derived.Deep.RegionHeld
namespace Go.Proofs.Ytcgljmeppmdihaa
open Go.ChangeShapes Go.WideShapes Go.ChangeAt Go.RowKit
set_option linter.unusedVariables false
/-- block B has just these cells, and may be written -/
def Blk (w : World) (B : Nat) (t : TypeId) (cs : Array Value) : Prop := w.heap[B]? = some (.cells cs t (0, 0))
theorem Blk.new (w : World) (t : TypeId) (cs : Array Value) : Blk (w.alloc (.cells cs t)) w.heap.size t cs := by
  show (w.heap.push _)[w.heap.size]? = some _
  simp
theorem Blk.lt {w : World} {B : Nat} {t : TypeId} {cs : Array Value} (h : Blk w B t cs) : B < w.heap.size := (Array.getElem?_eq_some_iff.1 h).1
theorem Blk.below {w w1 : World} {B n : Nat} {t : TypeId} {cs : Array Value} (h : Blk w B t cs) (hb : Below n w w1) (hn : B < n) : Blk w1 B t cs := (hb.block B hn).trans h
theorem Blk.drew {w : World} {B : Nat} {t : TypeId} {cs : Array Value} (h : Blk w B t cs) : Blk w.drew B t cs := h
theorem Blk.alloc {w : World} {B : Nat} {t : TypeId} {cs : Array Value} (h : Blk w B t cs) (o : Obj) : Blk (w.alloc o) B t cs := (Below.heap_alloc w o B h.lt).trans h
theorem Blk.set {w : World} {B : Nat} {t : TypeId} {cs : Array Value} (h : Blk w B t cs) (i : Nat) (v : Value) : Blk (w.setCell ⟨B, i, none⟩ v) B t (cs.setIfInBounds i v) := by
  rw [setCell_eq_setRow w B i cs t (0, 0) v h]
  exact setRow_heap w B cs _ t (0, 0) h
theorem Blk.far {w : World} {B C : Nat} {t : TypeId} {cs : Array Value} (h : Blk w B t cs) (hne : B ≠ C) (i : Nat) (v : Value) : Blk (w.setCell ⟨C, i, none⟩ v) B t cs := (Below.heap_setCell w ⟨C, i, none⟩ v B hne).trans h
theorem Blk.row {w : World} {B : Nat} {t : TypeId} {cs : Array Value} (h : Blk w B t cs) (cs' : Array Value) : Blk (w.setRow B cs') B t cs' := setRow_heap w B cs cs' t (0, 0) h
theorem Blk.rowFar {w : World} {B C : Nat} {t : TypeId} {cs : Array Value} (h : Blk w B t cs) (hne : B ≠ C) (cs' : Array Value) : Blk (w.setRow C cs') B t cs := (setRow_other w C B cs' hne).trans h
theorem Blk.cell {w : World} {B : Nat} {t : TypeId} {cs : Array Value} (h : Blk w B t cs) (i : Nat) (v : Value) (hv : cs[i]? = some v) : w.cell? ⟨B, i, none⟩ = some v := by
  unfold World.cell?
  rw [show w.heap[B]? = _ from h]
  exact hv
theorem Blk.free {w : World} {B : Nat} {t : TypeId} {cs : Array Value} (h : Blk w B t cs) (i : Nat) : w.frozen? ⟨B, i, none⟩ = false := by
  unfold World.frozen?
  rw [show w.heap[B]? = _ from h]
  simp
theorem bdrewN {B : Nat} {a w : World} (h : Below B a w) (n : Nat) : Below B a (w.drewN n) := h.trans ⟨rfl, rfl, rfl, Nat.le_refl _, fun _ _ => rfl⟩
theorem Blk.drewN {w : World} {B : Nat} {t : TypeId} {cs : Array Value} (h : Blk w B t cs) (n : Nat) : Blk (w.drewN n) B t cs := h
theorem blk_two (w : World) (o : Obj) (t : TypeId) (cs : Array Value) : Blk ((w.alloc o).alloc (.cells cs t)) (w.heap.size + 1) t cs := by
  have := Blk.new (w.alloc o) t cs
  rwa [World.size_alloc] at this
theorem take_at {α : Type} {L : List α} {k : Nat} {y : α} (h : L[k]? = some y) : L.take (k + 1) = L.take k ++ [y] := by
  rw [List.take_add_one, h]; rfl
end Go.Proofs.Ytcgljmeppmdihaa
