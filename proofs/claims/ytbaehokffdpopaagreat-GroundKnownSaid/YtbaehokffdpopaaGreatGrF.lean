/- A ground: what tags mean. -/
import Derived.Test.YtbaehokffdpopaaGreatGrD
import Derived.Maps.Own
import Derived.Maps.OwnSet
import Derived.Maps.Views
namespace Go.Proofs.YtbaehokffdpopaaGreat
open Go.ChangeShapes Go.WideShapes Go.ChangeAt Go.RowKit Go.Maps
set_option linter.unusedVariables false
set_option maxRecDepth 100000
set_option linter.unusedSimpArgs false
/-- functions, as a map's elements -/
def heldR (v : Value) : Option (DataW Value × List MemPlace) := some (.held v, [])
/-- a map of functions by small numbers, of the call's own -/
def FnsAt (w : World) (bm n : Nat) (f : Int → Value) : Prop := ∃ D : DataW Value, w.ownsMap Tryz.prog 3 heldR bm n D ∧ IsMap D ∧ ∀ u : Int, -9223372036854775808 ≤ u ∧ u ≤ 9223372036854775807 → D.atKey (.int .i64 u) (.held .nilFunc) = .held (f u)
theorem lawFns : Keyed Tryz.prog 3 := int_keyed Tryz.underlying3
theorem zeroFn (w : World) : (zeroValue 130).run Tryz.prog w = .ok .nilFunc w := by kernel_rfl
theorem int_wf13 {u : Int} (h : -9223372036854775808 ≤ u ∧ u ≤ 9223372036854775807) : (Lit.int .i64 u).wf = true := by
  simp [Lit.wf, IntKind.min, IntKind.max, IntKind.signed, IntKind.bits]
  omega
theorem FnsAt.lt {w : World} {bm n : Nat} {f : Int → Value} (h : FnsAt w bm n f) : bm < w.heap.size := by
  obtain ⟨D, h1, _⟩ := h
  exact h1.lt
theorem FnsAt.keep {w w1 : World} {F : Nat → Prop} {bm n : Nat} {f : Int → Value} (h : FnsAt w bm n f) (hk : Keep F w w1) (hn : ¬ F bm) : FnsAt w1 bm n f := by
  obtain ⟨D, h1, h2, h3⟩ := h
  have hlt := h1.lt
  obtain ⟨es, clock, hb, hr⟩ := h1
  exact ⟨D, ⟨es, clock, (hk.block bm hlt hn).trans hb, hr⟩, h2, h3⟩
theorem FnsAt.made (w : World) : FnsAt (w.alloc (.map #[] 0)) w.heap.size 0 (fun _ => .nilFunc) :=
  ⟨.map [], World.ownsMap_made w _ _ _, isMap_empty, fun u _ => by simp [DataW.atKey]⟩
theorem FnsAt.look {w : World} {bm n : Nat} {f : Int → Value} (h : FnsAt w bm n f) {u : Int} (hu : -9223372036854775808 ≤ u ∧ u ≤ 9223372036854775807) :
    (Instr.lookup 131 (.map (some bm)) (.int .i64 u) false).run Tryz.prog w = .ok (f u) w := by
  obtain ⟨D, h1, h2, h3⟩ := h
  obtain ⟨v, ps, hrun, hv⟩ := h1.lookup lawFns Tryz.underlying131 (zeroFn w) (zd := .held .nilFunc) (zp := []) rfl (keyOf_int_mk Tryz.underlying3 (int_wf13 hu))
  rw [h3 u hu] at hv
  rw [hrun]
  simp only [heldR, Option.some.injEq, Prod.mk.injEq, DataW.held.injEq] at hv
  rw [hv.1]
theorem FnsAt.put {w : World} {bm n : Nat} {f : Int → Value} (h : FnsAt w bm n f) {u : Int} (hu : -9223372036854775808 ≤ u ∧ u ≤ 9223372036854775807) (hn : n < maxLen) (x : Value) :
    ∃ w', (Instr.mapUpdate 131 (.map (some bm)) (.int .i64 u) x).run Tryz.prog w = .ok () w' ∧ FnsAt w' bm (n + 1) (fun y => if y = u then x else f y) ∧ w.grownBy w' (some bm) := by
  obtain ⟨D, h1, h2, h3⟩ := h
  obtain ⟨w', hrun, h4, h5⟩ := h1.update lawFns Tryz.underlying131 hn (keyOf_int_mk Tryz.underlying3 (int_wf13 hu)) (d := .held x) (ps := []) rfl
  refine ⟨w', hrun, ⟨_, h4, h2.put _ _, fun y hy => ?_⟩, h5⟩
  by_cases e : y = u
  · subst e
    rw [atKey_put_same h2 (by exact trivial)]
    simp
  · rw [atKey_put_other (by simpa using e), h3 y hy]
    simp [e]
/-- what tags mean -/
def meanF (bg ba : Nat) : Int → Value := fun y => if y = 4 then .func (.func 138) #[] #[.pointer (some ⟨bg, 0, none⟩), .pointer (some ⟨ba, 0, none⟩)] else if y = 3 then .func (.func 137) #[] #[] else if y = 2 then .func (.func 137) #[] #[] else .nilFunc
theorem grown_old {w w' : World} {bm : Nat} (h : w.grownBy w' (some bm)) {B : Nat} (hB : B ≤ bm) (hw : B ≤ w.heap.size) : Below B w w' :=
  ⟨h.1, h.2, h.3, h.4, fun i hi => h.5 i (by omega) (by intro e; cases e; omega)⟩
theorem meanings_any (p : Option Addr) (a0 : Option Addr) (n c : Nat) (w : World) : Calls Tryz.prog 81 #[.pointer p, .slice a0 n c] w fun e w' => ∃ bm bg ba, e = .returned (.map (some bm)) ∧ FnsAt w' bm 3 (meanF bg ba) ∧
    w'.cell? ⟨bg, 0, none⟩ = some (.pointer p) ∧ w'.cell? ⟨ba, 0, none⟩ = some (.slice a0 n c) ∧ Below w.heap.size w w' := by
  have hmf : ∀ (fn : Fn) (first cap : Array Value) (w : World), (Instr.makeFunc fn first cap).run Tryz.prog w = .ok (.func fn first cap) w := fun _ _ _ _ => rfl
  have hmk := @run_makeMap Tryz.prog
  go_enter Tryz.func81, Tryz.ntmps81
  go_upto_region 2 with fail
  generalize hW : (w.alloc _).alloc _ = W
  have bW : Below w.heap.size w W := by rw [← hW]; go_grown
  have sW : W.heap.size = w.heap.size + 2 := by rw [← hW]; simp
  have q0 : W.cell? ⟨w.heap.size, 0, none⟩ = some (.pointer p) := by rw [← hW]; exact ((Blk.new w _ _).alloc _).cell 0 _ rfl
  have q1 : W.cell? ⟨w.heap.size + 1, 0, none⟩ = some (.slice a0 n c) := by rw [← hW]; exact (blk_two w _ _ _).cell 0 _ rfl
  clear hW
  clear sW
  obtain ⟨w2, r2, h2, g2⟩ := (FnsAt.made W).put (u := 2) (by omega) (by unfold maxLen; omega) (.func (.func 137) #[] #[])
  obtain ⟨w3, r3, h3, g3⟩ := h2.put (u := 3) (by omega) (by unfold maxLen; omega) (.func (.func 137) #[] #[])
  obtain ⟨w4, r4, h4, g4⟩ := h3.put (u := 4) (by omega) (by unfold maxLen; omega) (.func (.func 138) #[] #[.pointer (some ⟨w.heap.size, 0, none⟩), .pointer (some ⟨w.heap.size + 1, 0, none⟩)])
  have b2 := grown_old g2 (B := W.heap.size) (Nat.le_refl _) (by simp)
  have s0 : (W.alloc (.map #[] 0)).heap.size = W.heap.size + 1 := by simp
  have s2 : W.heap.size ≤ w2.heap.size := by have := b2.size; omega
  have ba : Below W.heap.size W (W.alloc (.map #[] 0)) := by go_grown
  have b3 := grown_old g3 (B := W.heap.size) (Nat.le_refl _) s2
  have s3 := b3.size
  have b4 := grown_old g4 (B := W.heap.size) (Nat.le_refl _) (by omega)
  have bb : Below W.heap.size W w4 := ba.trans (b2.trans (b3.trans b4))
  go_wp2_with fail
  go_ret
  exact ⟨_, _, _, rfl, h4, cell_below q0 bb, cell_below q1 bb, bW.trans (bb.mono bW.size)⟩
end Go.Proofs.YtbaehokffdpopaaGreat
