/- Grounds are made. -/
import Derived.Test.YtmknnjjmmfbppaaGreatMgBegBL
import Derived.Test.YtmknnjjmmfbppaaGreatMgBegBM
import Derived.Test.YtmknnjjmmfbppaaGreatMgBegBN
import Derived.Test.YtmknnjjmmfbppaaGreatMgBegBO
import Derived.Test.YtmknnjjmmfbppaaGreatMgBegBP
import Derived.Test.YtmknnjjmmfbppaaGreatMgBegAI
import Derived.Test.YtmknnjjmmfbppaaGreatMgBegAN
import Derived.Test.YtmknnjjmmfbppaaGreatMgBegAO
import Derived.Maps.Own
import Derived.Maps.OwnSet
import Derived.Maps.Views
namespace Go.Proofs.YtmknnjjmmfbppaaGreat.Re
open Go.ChangeShapes Go.WideShapes Go.ChangeAt Go.RowKit Wd
set_option linter.unusedVariables false
set_option maxRecDepth 100000
set_option linter.unusedSimpArgs false
/-- a slice that reads as a list -/
def SliceAt {α : Type} (enc : α → Value) (w : World) (v : Value) (l : List α) : Prop :=
  ∃ a c, v = .slice a l.length c ∧ ∀ (i : Nat) (x : α), l[i]? = some x → ∃ b off, a = some ⟨b, off, none⟩ ∧ w.cell? ⟨b, off + i, none⟩ = some (enc x)
theorem cell_below {w w1 : World} {p : Addr} {v : Value} (h : w.cell? p = some v) (hb : Below w.heap.size w w1) : w1.cell? p = some v := by
  have hlt : p.block < w.heap.size := by
    unfold World.cell? at h
    rcases Nat.lt_or_ge p.block w.heap.size with h1 | h1
    · exact h1
    · rw [Array.getElem?_eq_none h1] at h
      simp at h
  unfold World.cell? at h ⊢
  rwa [hb.block _ hlt]
theorem SliceAt.below {α : Type} {enc : α → Value} {w w1 : World} {v : Value} {l : List α} (h : SliceAt enc w v l) (hb : Below w.heap.size w w1) : SliceAt enc w1 v l := by
  obtain ⟨a, c, e, h⟩ := h
  refine ⟨a, c, e, fun i x hx => ?_⟩
  obtain ⟨b, off, e1, e2⟩ := h i x hx
  exact ⟨b, off, e1, cell_below e2 hb⟩
def hashO (H : List Int) (o : Nat) : Int := (H[o]?).getD 0
def freshO (F : List Bool) (o : Nat) : Bool := (F[o]?).getD false
theorem elI_any (H : List Int) (hv : Value) (o : Nat) (w : World) (h : SliceAt (Value.int .i64) w hv H) (ho : o < 1000000) :
    Calls Tryz.prog 100 #[hv, .int .i64 (o : Int)] w fun e w' => e = .returned (.int .i64 (hashO H o)) ∧ w = w' := by
  obtain ⟨a, c, rfl, h⟩ := h
  by_cases hlt : o < H.length
  · obtain ⟨b, off, rfl, hc⟩ := h o _ (List.getElem?_eq_getElem hlt)
    have e1 : hashO H o = H[o] := by simp [hashO, hlt]
    rw [e1]
    clear h e1
    generalize H[o] = x at *
    generalize H.length = n at *
    have hi : ∀ W, (Instr.indexAt 23 (.slice (some ⟨b, off, none⟩) n c) (.int .i64 (o : Int))).run Tryz.prog W = .ok (.pointer (some ⟨b, off + o, none⟩)) W := by
      intro W
      go_simp
    go_enter Tryz.func100, Tryz.ntmps100
    go_wp2
    go_ret
    exact ⟨rfl, rfl⟩
  · have e1 : hashO H o = 0 := by simp [hashO, Nat.le_of_not_lt hlt]
    rw [e1]
    clear h e1
    generalize H.length = n at *
    go_enter Tryz.func100, Tryz.ntmps100
    go_wp2
    go_ret
    exact ⟨rfl, rfl⟩
theorem elB_any (F : List Bool) (fv : Value) (o : Nat) (w : World) (h : SliceAt Value.bool w fv F) (ho : o < 1000000) :
    Calls Tryz.prog 99 #[fv, .int .i64 (o : Int)] w fun e w' => e = .returned (.bool (freshO F o)) ∧ w = w' := by
  obtain ⟨a, c, rfl, h⟩ := h
  by_cases hlt : o < F.length
  · obtain ⟨b, off, rfl, hc⟩ := h o _ (List.getElem?_eq_getElem hlt)
    have e1 : freshO F o = F[o] := by simp [freshO, hlt]
    rw [e1]
    clear h e1
    generalize F[o] = x at *
    generalize F.length = n at *
    have hi : ∀ W, (Instr.indexAt 24 (.slice (some ⟨b, off, none⟩) n c) (.int .i64 (o : Int))).run Tryz.prog W = .ok (.pointer (some ⟨b, off + o, none⟩)) W := by
      intro W
      go_simp
    go_enter Tryz.func99, Tryz.ntmps99
    go_wp2
    go_ret
    exact ⟨rfl, rfl⟩
  · have e1 : freshO F o = false := by simp [freshO, Nat.le_of_not_lt hlt]
    rw [e1]
    clear h e1
    generalize F.length = n at *
    go_enter Tryz.func99, Tryz.ntmps99
    go_wp2
    go_ret
    exact ⟨rfl, rfl⟩
def tagO (F : List Bool) (o : Nat) : Int := if freshO F o then 0 else 1
theorem firstTag_any (b : Bool) (w : World) : Calls Tryz.prog 98 #[.bool b] w fun e w' => e = .returned (.int .i64 (if b then 0 else 1)) ∧ w = w' := by
  cases b
  all_goals
    go_enter Tryz.func98, Tryz.ntmps98
    go_wp2
    go_ret
    exact ⟨rfl, rfl⟩
/-- an object's header at first; its word -/
def hd0 (H : List Int) (F : List Bool) (o : Nat) : Hd := ⟨tagO F o, 0, 0, 0, 0, hashO H o⟩
def goodO (H : List Int) (o : Nat) : Prop := 0 ≤ hashO H o ∧ hashO H o ≤ 16777215
theorem hd0_ok {H : List Int} {F : List Bool} {o : Nat} : okP (hd0 H F o) ↔ goodO H o := by
  unfold okP hd0 goodO tagO
  split <;> simp
theorem hd0_pack {H : List Int} {F : List Bool} {o : Nat} (h : goodO H o) : packP (hd0 H F o) = some (wordOf (hd0 H F o)) := by
  rw [packP_eq, if_pos (hd0_ok.2 h)]
theorem hd0_none {H : List Int} {F : List Bool} {o : Nat} (h : ¬ goodO H o) : packP (hd0 H F o) = none := by
  rw [packP_eq, if_neg (fun k => h (hd0_ok.1 k))]
def wordsGo (f : Nat → Int) (mm : List Int) : Nat → List Int
  | 0 => mm
  | j + 1 => (wordsGo f mm j).set (wordN j) (f j)
def safesGo (m : Mp) (mm : List Int) : Nat → List Int
  | 0 => mm
  | j + 1 => (safesGo m mm j).set (safeN m j) 1
theorem wordsGo_len (f : Nat → Int) (mm : List Int) : ∀ j, (wordsGo f mm j).length = mm.length
  | 0 => rfl
  | j + 1 => by simp [wordsGo, wordsGo_len f mm j]
theorem safesGo_len (m : Mp) (mm : List Int) : ∀ j, (safesGo m mm j).length = mm.length
  | 0 => rfl
  | j + 1 => by simp [safesGo, safesGo_len m mm j]
/-- all cells, at first -/
def mmF (m : Mp) (f : Nat → Int) : List Int := layL m (safesGo m (wordsGo f (List.replicate (sizeN m) 0) m.o) m.t)
def mm0 (m : Mp) (H : List Int) (F : List Bool) : List Int := mmF m (fun o => (wordOf (hd0 H F o) : Nat))
def GoodH (m : Mp) (H : List Int) : Prop := ∀ o, o < m.o → goodO H o
def NewF (w : World) (m : Mp) (H : List Int) (f : Nat → Int) (e : Ending) (w' : World) : Prop :=
  (GoodH m H ∧ ∃ g, e = .returned (grV g) ∧ GrAt w' g m (mmF m f) (m.o + m.t + m.n + 1) (List.replicate m.t false) (.slice none 0 0) [] ∧ Below w.heap.size w w' ∧ ∀ b, grB g (.slice none 0 0) b → w.heap.size ≤ b) ∨
  (¬ GoodH m H ∧ e = .returned (.pointer none) ∧ Below w.heap.size w w')
def NewPost (w : World) (m : Mp) (H : List Int) (F : List Bool) (e : Ending) (w' : World) : Prop := NewF w m H (fun o => (wordOf (hd0 H F o) : Nat)) e w'
end Go.Proofs.YtmknnjjmmfbppaaGreat.Re
/- A ground: what tags mean. -/
namespace Go.Proofs.YtmknnjjmmfbppaaGreat.Re
open Go.ChangeShapes Go.WideShapes Go.ChangeAt Go.RowKit Go.Maps
set_option linter.unusedVariables false
set_option maxRecDepth 100000
set_option linter.unusedSimpArgs false
/-- functions, as a map's elements -/
def heldR (v : Value) : Option (DataW Value × List MemPlace) := some (.held v, [])
/-- a map of functions by small numbers, of the call's own -/
def FnsAt (w : World) (bm n : Nat) (f : Int → Value) : Prop := ∃ D : DataW Value, w.ownsMap Tryz.prog 3 heldR bm n D ∧ IsMap D ∧ ∀ u : Int, -9223372036854775808 ≤ u ∧ u ≤ 9223372036854775807 → D.atKey (.int .i64 u) (.held .nilFunc) = .held (f u)
theorem lawFns : Keyed Tryz.prog 3 := int_keyed Tryz.underlying3
theorem zeroFn (w : World) : (zeroValue 121).run Tryz.prog w = .ok .nilFunc w := by kernel_rfl
theorem int_wf13 {u : Int} (h : -9223372036854775808 ≤ u ∧ u ≤ 9223372036854775807) : (Lit.int .i64 u).wf = true := by
  simp [Lit.wf, IntKind.min, IntKind.max, IntKind.signed, IntKind.bits]
  omega
theorem FnsAt.lt {w : World} {bm n : Nat} {f : Int → Value} (h : FnsAt w bm n f) : bm < w.heap.size := by
  obtain ⟨D, h1, _⟩ := h
  exact h1.lt
theorem FnsAt.keep {w w1 : World} {F : Nat → Prop} {bm n : Nat} {f : Int → Value} (h : FnsAt w bm n f) (hk : Keep F w w1) (hn : ¬ F bm) : FnsAt w1 bm n f := by
  obtain ⟨D, h1, h2, h3⟩ := h
  have hlt := h1.lt
  obtain ⟨es, clock, hb, hr⟩ := h1
  exact ⟨D, ⟨es, clock, (hk.block bm hlt hn).trans hb, hr⟩, h2, h3⟩
theorem FnsAt.made (w : World) : FnsAt (w.alloc (.map #[] 0)) w.heap.size 0 (fun _ => .nilFunc) :=
  ⟨.map [], World.ownsMap_made w _ _ _, isMap_empty, fun u _ => by simp [DataW.atKey]⟩
theorem FnsAt.look {w : World} {bm n : Nat} {f : Int → Value} (h : FnsAt w bm n f) {u : Int} (hu : -9223372036854775808 ≤ u ∧ u ≤ 9223372036854775807) :
    (Instr.lookup 122 (.map (some bm)) (.int .i64 u) false).run Tryz.prog w = .ok (f u) w := by
  obtain ⟨D, h1, h2, h3⟩ := h
  obtain ⟨v, ps, hrun, hv⟩ := h1.lookup lawFns Tryz.underlying122 (zeroFn w) (zd := .held .nilFunc) (zp := []) rfl (keyOf_int_mk Tryz.underlying3 (int_wf13 hu))
  rw [h3 u hu] at hv
  rw [hrun]
  simp only [heldR, Option.some.injEq, Prod.mk.injEq, DataW.held.injEq] at hv
  rw [hv.1]
theorem FnsAt.put {w : World} {bm n : Nat} {f : Int → Value} (h : FnsAt w bm n f) {u : Int} (hu : -9223372036854775808 ≤ u ∧ u ≤ 9223372036854775807) (hn : n < maxLen) (x : Value) :
    ∃ w', (Instr.mapUpdate 122 (.map (some bm)) (.int .i64 u) x).run Tryz.prog w = .ok () w' ∧ FnsAt w' bm (n + 1) (fun y => if y = u then x else f y) ∧ w.grownBy w' (some bm) := by
  obtain ⟨D, h1, h2, h3⟩ := h
  obtain ⟨w', hrun, h4, h5⟩ := h1.update lawFns Tryz.underlying122 hn (keyOf_int_mk Tryz.underlying3 (int_wf13 hu)) (d := .held x) (ps := []) rfl
  refine ⟨w', hrun, ⟨_, h4, h2.put _ _, fun y hy => ?_⟩, h5⟩
  by_cases e : y = u
  · subst e
    rw [atKey_put_same h2 (by exact trivial)]
    simp
  · rw [atKey_put_other (by simpa using e), h3 y hy]
    simp [e]
/-- what tags mean -/
def meanF (bg ba : Nat) : Int → Value := fun y => if y = 4 then .func (.func 115) #[] #[.pointer (some ⟨bg, 0, none⟩), .pointer (some ⟨ba, 0, none⟩)] else if y = 3 then .func (.func 114) #[] #[] else if y = 2 then .func (.func 114) #[] #[] else .nilFunc
theorem grown_old {w w' : World} {bm : Nat} (h : w.grownBy w' (some bm)) {B : Nat} (hB : B ≤ bm) (hw : B ≤ w.heap.size) : Below B w w' :=
  ⟨h.1, h.2, h.3, h.4, fun i hi => h.5 i (by omega) (by intro e; cases e; omega)⟩
theorem meanings_any (p : Option Addr) (a0 : Option Addr) (n c : Nat) (w : World) : Calls Tryz.prog 63 #[.pointer p, .slice a0 n c] w fun e w' => ∃ bm bg ba, e = .returned (.map (some bm)) ∧ FnsAt w' bm 3 (meanF bg ba) ∧
    w'.cell? ⟨bg, 0, none⟩ = some (.pointer p) ∧ w'.cell? ⟨ba, 0, none⟩ = some (.slice a0 n c) ∧ Below w.heap.size w w' := by
  have hmf : ∀ (fn : Fn) (first cap : Array Value) (w : World), (Instr.makeFunc fn first cap).run Tryz.prog w = .ok (.func fn first cap) w := fun _ _ _ _ => rfl
  have hmk := @run_makeMap Tryz.prog
  go_enter Tryz.func63, Tryz.ntmps63
  go_upto_region 2 with fail
  generalize hW : (w.alloc _).alloc _ = W
  have bW : Below w.heap.size w W := by rw [← hW]; go_grown
  have sW : W.heap.size = w.heap.size + 2 := by rw [← hW]; simp
  have q0 : W.cell? ⟨w.heap.size, 0, none⟩ = some (.pointer p) := by rw [← hW]; exact ((Blk.new w _ _).alloc _).cell 0 _ rfl
  have q1 : W.cell? ⟨w.heap.size + 1, 0, none⟩ = some (.slice a0 n c) := by rw [← hW]; exact (blk_two w _ _ _).cell 0 _ rfl
  clear hW
  clear sW
  obtain ⟨w2, r2, h2, g2⟩ := (FnsAt.made W).put (u := 2) (by omega) (by unfold maxLen; omega) (.func (.func 114) #[] #[])
  obtain ⟨w3, r3, h3, g3⟩ := h2.put (u := 3) (by omega) (by unfold maxLen; omega) (.func (.func 114) #[] #[])
  obtain ⟨w4, r4, h4, g4⟩ := h3.put (u := 4) (by omega) (by unfold maxLen; omega) (.func (.func 115) #[] #[.pointer (some ⟨w.heap.size, 0, none⟩), .pointer (some ⟨w.heap.size + 1, 0, none⟩)])
  have b2 := grown_old g2 (B := W.heap.size) (Nat.le_refl _) (by simp)
  have s0 : (W.alloc (.map #[] 0)).heap.size = W.heap.size + 1 := by simp
  have s2 : W.heap.size ≤ w2.heap.size := by have := b2.size; omega
  have ba : Below W.heap.size W (W.alloc (.map #[] 0)) := by go_grown
  have b3 := grown_old g3 (B := W.heap.size) (Nat.le_refl _) s2
  have s3 := b3.size
  have b4 := grown_old g4 (B := W.heap.size) (Nat.le_refl _) (by omega)
  have bb : Below W.heap.size W w4 := ba.trans (b2.trans (b3.trans b4))
  go_wp2_with fail
  go_ret
  exact ⟨_, _, _, rfl, h4, cell_below q0 bb, cell_below q1 bb, bW.trans (bb.mono bW.size)⟩
end Go.Proofs.YtmknnjjmmfbppaaGreat.Re
