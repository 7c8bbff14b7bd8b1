/- The two maps: letters by kinds, kinds by letters. -/
import Derived.Test.YtkmadabpfialbaaGreatDoorScPicks
import Derived.Maps.Own
import Derived.Maps.OwnOps
import Derived.Maps.OwnSet
import Derived.Maps.RangeWalk
import Derived.Maps.StringElems
import Derived.OwnWalk
import Derived.StringKeys
import Derived.StillTailTactics
import Derived.Deep.CutBlock
import Derived.Deep.RegionHeld3
import Derived.BigGuardPart
import Derived.WalkSpells
namespace Go.Proofs.YtkmadabpfialbaaGreatDoor
open Go.ChangeShapes Go.WideShapes Go.ChangeAt Go.RowKit Go.Maps
set_option linter.unusedVariables false
set_option maxRecDepth 100000
set_option linter.unusedSimpArgs false
/-- an entry of a map's literal, at the operation -/
theorem wpList_insert_own {H : Type} {P : Program} (w : World) {ops : Array Oper} {rest : List Oper} {o : Oper} {a : Act} {Q : Exit → Act → World → Prop}
    (hg : o.guard = none) (m x v : Operand) (t : TypeId) (hop : o.op = Op.insert t m x v)
    (k e : TypeId) (K : Keyed P k) (ht : P.underlying t = some (.map k e)) (R : Value → Option (DataW H × List MemPlace)) (b n : Nat) (D : DataW H)
    (hm : a.eval m = .map (some b)) (hown : w.ownsMap P k R b n D) (hn : n < maxLen) (key val : Value) (kl : Lit) (hx : a.eval x = key) (hv : a.eval v = val) (hkey : keyOf P k key = some kl)
    (d : DataW H) (ps : List MemPlace) (hval : R val = some (d, ps))
    (hK : ∀ w', w'.ownsMap P k R b (n + 1) (D.put kl d) → w.grownBy w' (some b) → wpList P ops Q rest (a.put o.dst undef) w') :
    wpList P ops Q (o :: rest) a w := by
  refine wpList_plain hg fun K' hK' => ?_
  obtain ⟨w', hrun, r1, r2⟩ := hown.update K ht hn hkey hval
  unfold Oper.wp
  simp [execOp, hop, hm, hx, hv, hrun, Result.andThen]
  exact hK' _ _ (hK w' r1 r2)
/-- 'v, ok := m[k]' at elements that are strings -/
theorem wpList_lookup_own_ok_string {H : Type} {P : Program} (w : World) {ops : Array Oper} {rest : List Oper} {o : Oper} {a : Act} {Q : Exit → Act → World → Prop} (hg : o.guard = none) (m x : Operand) (t : TypeId) (hop : o.op = Op.lookup t m x true)
    (k e : TypeId) (K : Keyed P k) (ht : P.underlying t = some (.map k e)) (he : P.underlying e = some .string) (hz : (zeroValue e).run P w = .ok (.string ⟨#[]⟩) w) (b n : Nat) (D : DataW H)
    (hm : a.eval m = .map (some b)) (hown : w.ownsMap P k (plainElem P e) b n D) (key : Value) (kl : Lit) (hx : a.eval x = key) (hkey : keyOf P k key = some kl) (s : ByteArray) (hs : D.atKey kl (.lit (.string [])) = .lit (.string s.data.toList))
    (hK : wpList P ops Q rest (a.put o.dst (.tuple #[.string s, .bool (Maps.has D kl)])) w) :
    wpList P ops Q (o :: rest) a w :=
  wpList_lookup_own_ok w hg m x t hop k e K ht (plainElem P e) hz (.lit (.string [])) [] (by rw [plainElem_string he (by decide)]) b n D hm hown key kl hx hkey (fun v ps hv => by
    obtain ⟨c, rfl, hc, hwc⟩ := plainElem_string_inv he hv
    have e1 := congrArg Prod.fst hc
    simp only at e1
    rw [hs] at e1
    have e2 : s.data.toList = c.data.toList := by simpa using e1
    have e3 : c = s := by
      cases c; cases s
      simp at e2
      simp [e2]
    rw [e3]
    exact hK)
theorem lawInt : Keyed Tryz.prog 3 := int_keyed Tryz.underlying3
theorem lawStr : Keyed Tryz.prog 9 := string_keyed Tryz.underlying9
theorem zeroI (w : World) : (zeroValue 3).run Tryz.prog w = .ok (.int .i64 0) w := by kernel_rfl
theorem zeroS (w : World) : (zeroValue 9).run Tryz.prog w = .ok (.string ⟨#[]⟩) w := by kernel_rfl
def letD : DataW Unit := .map [(.int .i64 0, .lit (.string [])), (.int .i64 1, .lit (.string [116])), (.int .i64 2, .lit (.string [115]))]
def LetMap (w : World) (b : Nat) : Prop := w.ownsMap Tryz.prog 3 (plainElem Tryz.prog 9) b 3 letD
theorem letters_any (w : World) : Calls Tryz.prog 24 #[] w fun e w' => e = .returned (.map (some w.heap.size)) ∧ Below w.heap.size w w' ∧ LetMap w' w.heap.size := by
  have hmm := @run_makeMap Tryz.prog
  have h0 := World.ownsMap_made (H := Unit) w Tryz.prog 3 (plainElem Tryz.prog 9)
  go_enter Tryz.func24, Tryz.ntmps24
  go_wp2_with (first
    | (refine wpList_insert_own _ rfl _ _ _ 54 rfl 3 9 lawInt Tryz.underlying54 _ w.heap.size 0 _ rfl h0 (by decide) _ _ (.int .i64 0) rfl rfl (keyOf_int_mk Tryz.underlying3 (by decide)) _ [] (plainElem_string Tryz.underlying9 (by decide)) ?_; intro w1 h1 g1; clear h0)
    | (refine wpList_insert_own _ rfl _ _ _ 54 rfl 3 9 lawInt Tryz.underlying54 _ w.heap.size 1 _ rfl h1 (by decide) _ _ (.int .i64 1) rfl rfl (keyOf_int_mk Tryz.underlying3 (by decide)) _ [] (plainElem_string Tryz.underlying9 (by decide)) ?_; intro w2 h2 g2; clear h1)
    | (refine wpList_insert_own _ rfl _ _ _ 54 rfl 3 9 lawInt Tryz.underlying54 _ w.heap.size 2 _ rfl h2 (by decide) _ _ (.int .i64 2) rfl rfl (keyOf_int_mk Tryz.underlying3 (by decide)) _ [] (plainElem_string Tryz.underlying9 (by decide)) ?_; intro w3 h3 g3; clear h2))
  go_ret
  refine ⟨rfl, ?_, h3⟩
  have b0 : Below w.heap.size w (w.alloc (.map #[] 0)) := (Below.refl _ w).alloc (Nat.le_refl _) _
  exact ((b0.grown g1 b0.size (fun j e => by cases e; exact Nat.le_refl _)).grown g2 (Nat.le_trans b0.size g1.size) (fun j e => by cases e; exact Nat.le_refl _)).grown g3 (Nat.le_trans (Nat.le_trans b0.size g1.size) g2.size) (fun j e => by cases e; exact Nat.le_refl _)
def kdat (l0 l1 l2 : Bool) : DataW Unit := .map ((if l0 then [] else [(.string [], .lit (.int .i64 0))]) ++ (if l2 then [] else [(.string [115], .lit (.int .i64 2))]) ++ (if l1 then [] else [(.string [116], .lit (.int .i64 1))]))
def kindD2 : DataW Unit := kdat false false false
def KindMap (w : World) (b : Nat) : Prop := w.ownsMap Tryz.prog 9 (plainElem Tryz.prog 3) b 3 kindD2
theorem kdat_put (l0 l1 l2 : Bool) : (kdat l0 l1 l2).put (.string []) (.lit (.int .i64 0)) = kdat false l1 l2 ∧ (kdat l0 l1 l2).put (.string [116]) (.lit (.int .i64 1)) = kdat l0 false l2 ∧ (kdat l0 l1 l2).put (.string [115]) (.lit (.int .i64 2)) = kdat l0 l1 false := by
  cases l0 <;> cases l1 <;> cases l2 <;> exact ⟨rfl, rfl, rfl⟩
theorem letD_at (x : Int) (c : List UInt8) (h : ∀ zd, letD.atKey (.int .i64 x) zd = .lit (.string c)) : (x = 0 ∧ c = []) ∨ (x = 1 ∧ c = [116]) ∨ (x = 2 ∧ c = [115]) := by
  by_cases h0 : x = 0
  · subst h0; left
    have := h .nil
    exact ⟨rfl, by simpa [letD, DataW.atKey, Lit.sameKey] using this.symm⟩
  · by_cases h1 : x = 1
    · subst h1; right; left
      have := h .nil
      exact ⟨rfl, by simpa [letD, DataW.atKey, Lit.sameKey] using this.symm⟩
    · by_cases h2 : x = 2
      · subst h2; right; right
        have := h .nil
        exact ⟨rfl, by simpa [letD, DataW.atKey, Lit.sameKey] using this.symm⟩
      · exfalso
        have := h .nil
        have e0 : (0 : Int) ≠ x := fun e => h0 e.symm
        have e1 : (1 : Int) ≠ x := fun e => h1 e.symm
        have e2 : (2 : Int) ≠ x := fun e => h2 e.symm
        simp [letD, DataW.atKey, Lit.sameKey, e0, e1, e2] at this
theorem same_int (x y : Int) : (Lit.int .i64 x).sameKey (Lit.int .i64 y) = decide (x = y) := by
  by_cases h : x = y
  · subst h; simp [Lit.sameKey]
  · simp [Lit.sameKey, h]
set_option maxHeartbeats 2000000 in
theorem kinds_any (w : World) : Calls Tryz.prog 28 #[] w fun e w' => ∃ b, e = .returned (.map (some b)) ∧ Below w.heap.size w w' ∧ w.heap.size ≤ b ∧ KindMap w' b := by
  have hmm := @run_makeMap Tryz.prog
  have hm1 : (w.alloc (.map #[] 0)).ownsMap (H := Unit) Tryz.prog 9 (plainElem Tryz.prog 3) w.heap.size 0 (.map []) := World.ownsMap_made (H := Unit) w Tryz.prog 9 (plainElem Tryz.prog 3)
  have z1 : (w.alloc (.map #[] 0)).heap.size = w.heap.size + 1 := by simp
  have b1 : Below w.heap.size w (w.alloc (.map #[] 0)) := (Below.refl _ w).alloc (Nat.le_refl _) _
  go_enter Tryz.func28, Tryz.ntmps28
  go_upto_region 2 with fail
  generalize w.alloc (.map #[] 0) = w1 at *
  go_wp2_with (first
    | (go_at_call 24; refine (letters_any _).mono ?_; rintro e w2 ⟨rfl, b2, hL⟩; rw [z1] at hL)
    | (at_range; refine wpList_range_own _ rfl _ _ rfl 3 9 lawInt Tryz.underlying54 (plainElem Tryz.prog 9) (w.heap.size + 1) 3 letD rfl hL ?_; intro w3 hrg3 hg3 hs3))
  go_frame
  have b3 : Below w.heap.size w w3 := ((b1.trans (b2.mono b1.size)).grown hg3 (Nat.le_trans b1.size b2.size) (fun j e => by cases e))
  have hm3 : w3.ownsMap (H := Unit) Tryz.prog 9 (plainElem Tryz.prog 3) w.heap.size 0 (.map []) := by
    obtain ⟨es, clock, hb, F, hs, hD⟩ := hm1
    have hlt : w.heap.size < w1.heap.size := by omega
    refine ⟨es, clock, ?_, F, hs, hD⟩
    rw [hg3.block _ (Nat.lt_of_lt_of_le hlt b2.size) (by simp), b2.block _ hlt]
    exact hb
  have hsz : w.heap.size + 1 ≤ w2.heap.size := by have := b2.size; omega
  clear hm1 hL b1 b2 hg3
  go_loopw [2] (fun _ wr => ∃ (left : Lit → Bool) (cnt : Nat), wr.ranges Tryz.prog 3 (plainElem Tryz.prog 9) (w.heap.size + 1) w2.heap.size 3 letD left cnt ∧
      cnt ≤ 3 ∧ wr.ownsMap (H := Unit) Tryz.prog 9 (plainElem Tryz.prog 3) w.heap.size (3 - cnt) (kdat (left (.int .i64 0)) (left (.int .i64 1)) (left (.int .i64 2))) ∧ Below w.heap.size w wr)
    (fun _ wr => wr.rangeLeft (w.heap.size + 1) w2.heap.size)
  case atStart => exact ⟨_, _, hrg3, Nat.le_refl 3, hm3, b3⟩
  case round =>
    obtain ⟨left, cnt, hrg, hcs, hout, hnx⟩ := hrel
    go_wp2_with (first
      | (at_next; refine wpList_next_ranges_is _ rfl _ rfl 3 9 .i64 lawInt Tryz.underlying3 Tryz.underlying9 (w.heap.size + 1) w2.heap.size 3 _ _ _ rfl hrg ?_ ?_))
    · intro hc0 hl0
      go_wp2
      go_ret
      refine ⟨_, rfl, hnx, Nat.le_refl _, ?_⟩
      rw [hl0, hl0, hl0, hc0] at hout
      exact hout
    · intro x c w5 cnt1 hwx hwc hlx hat hrg1 hlt hg1 hs1 hen
      have hout1 := hout.kept hg1 (by simp; omega)
      have hc : ∃ cs : ByteArray, c = cs ∧ ((x = 0 ∧ cs.data.toList = []) ∨ (x = 1 ∧ cs.data.toList = [116]) ∨ (x = 2 ∧ cs.data.toList = [115])) := ⟨c, rfl, letD_at x _ hat⟩
      go_wp2_with (first
        | (at_mapUpdate; refine wpList_mapUpdate_own _ rfl _ _ _ 60 rfl 9 3 lawStr Tryz.underlying60 _ w.heap.size _ _ rfl hout1 (by unfold maxLen; omega) _ _ _ rfl rfl (WideMaps.keyOf_string_mk Tryz.underlying9 hwc) _ [] (plainElem_int Tryz.underlying3 hwx) ?_; intro w6 hout2 hg2; go_frame))
      have hrg2 := hrg1.kept hg2 (fun e => by have := Option.some.inj e; omega) (fun e => by have := Option.some.inj e; omega)
      go_roundw
      case rel =>
        refine ⟨_, cnt1, hrg2, by omega, ?_, (hnx.grown hg1 hnx.size (fun j hj => by cases hj; omega)).grown hg2 (by have := hnx.size; omega) (fun j hj => by cases hj; exact Nat.le_refl _)⟩
        have hp := kdat_put (left (.int .i64 0)) (left (.int .i64 1)) (left (.int .i64 2))
        obtain ⟨cs, rfl, ⟨rfl, hcs⟩ | ⟨rfl, hcs⟩ | ⟨rfl, hcs⟩⟩ := hc
        · rw [hcs, hp.1] at hout2
          simp only [same_int]
          simpa using hout2.mono (by omega)
        · rw [hcs, hp.2.1] at hout2
          simp only [same_int]
          simpa using hout2.mono (by omega)
        · rw [hcs, hp.2.2] at hout2
          simp only [same_int]
          simpa using hout2.mono (by omega)
      case measure => rw [hrg2.left_eq, hrg.left_eq]; exact hlt
end Go.Proofs.YtkmadabpfialbaaGreatDoor
