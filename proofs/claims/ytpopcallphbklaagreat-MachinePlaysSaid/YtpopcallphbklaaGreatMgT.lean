/- Layer 8's law: few. -/
import Derived.Test.YtpopcallphbklaaGreatMgR
import Derived.Test.YtpopcallphbklaaGreatRowsOwn
import Derived.Laws.OwnMore
import Derived.OwnWalk
import Derived.Test.YtpopcallphbklaaGreatMacSpec
import Derived.Test.YtpopcallphbklaaGreatMacE
namespace Go.Proofs.YtpopcallphbklaaGreat
open Go.ChangeShapes Go.WideShapes Go.ChangeAt Go.RowKit
set_option linter.unusedVariables false
set_option maxRecDepth 100000
set_option linter.unusedSimpArgs false
/-- items, as cells -/
def itmCells (l : List Itm) : List Value := l.flatMap fun x => [.int .i64 x.kind, .int .i64 x.at', .int .u64 x.a, .int .u64 x.b]
theorem itmCells_len (l : List Itm) : (itmCells l).length = l.length * 4 := by
  induction l with
  | nil => rfl
  | cons x l ih => simp only [itmCells, List.flatMap_cons, List.length_append, List.length_cons, List.length_nil] at ih ⊢; omega
theorem itmCells_at : ∀ (l : List Itm) (i : Nat) (x : Itm), l[i]? = some x → (itmCells l)[i * 4]? = some (.int .i64 x.kind) ∧ (itmCells l)[i * 4 + 1]? = some (.int .i64 x.at') ∧ (itmCells l)[i * 4 + 2]? = some (.int .u64 x.a) ∧ (itmCells l)[i * 4 + 3]? = some (.int .u64 x.b)
  | [], i, x, h => by simp at h
  | y :: l, 0, x, h => by
    obtain rfl : y = x := by simpa using h
    simp [itmCells]
  | y :: l, i + 1, x, h => by
    have := itmCells_at l i x (by simpa using h)
    have e : itmCells (y :: l) = [.int .i64 y.kind, .int .i64 y.at', .int .u64 y.a, .int .u64 y.b] ++ itmCells l := rfl
    rw [e]
    refine ⟨?_, ?_, ?_, ?_⟩
    · rw [List.getElem?_append_right (by simp; omega)]; rw [← this.1]; congr 1; simp; omega
    · rw [List.getElem?_append_right (by simp; omega)]; rw [← this.2.1]; congr 1; simp; omega
    · rw [List.getElem?_append_right (by simp; omega)]; rw [← this.2.2.1]; congr 1; simp; omega
    · rw [List.getElem?_append_right (by simp; omega)]; rw [← this.2.2.2]; congr 1; simp; omega
theorem itmCells_snoc (l : List Itm) (x : Itm) : itmCells (l ++ [x]) = itmCells l ++ [.int .i64 x.kind, .int .i64 x.at', .int .u64 x.a, .int .u64 x.b] := by
  simp [itmCells]
theorem itemsAt_of_row {w : World} {B : Nat} {v : Value} {l : List Itm} (h : w.ownsRow B 69 4 v l.length (itmCells l)) (hok : ∀ x ∈ l, x.ok) (hf : l.length ≤ 30) (hB : B ≤ w.heap.size) (h0 : 0 < B) : ∃ I, ItemsAt w I v l ∧ I < w.heap.size ∧ (0 < l.length → B ≤ I ∧ ∃ cur, Blk w I 69 cur) := by
  rcases h.2 with ⟨hv, h0'⟩ | ⟨g, cap, cur, hv, hg, hh, hnc, _, hs, ht⟩
  · have : l = [] := List.length_eq_zero_iff.1 h0'
    subst this
    exact ⟨0, ⟨⟨none, 0, hv, fun h => absurd h (by simp)⟩, fun i x hx => by simp at hx, by simp, by simp⟩, by omega, by simp⟩
  · refine ⟨g, ⟨⟨_, cap, hv, fun _ => rfl⟩, fun i x hx => ?_, hok, hf⟩, (Array.getElem?_eq_some_iff.1 hh).1, fun _ => ⟨hg, cur, hh⟩⟩
    have hi := (List.getElem?_eq_some_iff.1 hx).1
    obtain ⟨c0, c1, c2, c3⟩ := itmCells_at l i x hx
    have key : ∀ j u, (itmCells l)[j]? = some u → w.cell? ⟨g, j, none⟩ = some u := fun j u hj => by
      unfold World.cell?
      rw [hh]
      rw [← ht] at hj
      have hj2 := (List.getElem?_eq_some_iff.1 hj).1
      rw [List.getElem?_take_of_lt (by simp at hj2; omega)] at hj
      simpa using hj
    exact ⟨key _ _ c0, key _ _ c1, key _ _ c2, key _ _ c3⟩
theorem item_info : (Tryz.prog.info? 69).map (fun i => (i.zero, i.size, i.bytes)) = some (some (.agg #[.int .i64 0, .int .i64 0, .int .u64 0, .int .u64 0]), 4, 32) := by kernel_rfl
/-- a slice of items that came in -/
def RawsAt (w : World) (n0 : Nat) (a : Option Addr) (R : List Raw) : Prop :=
  ∀ (i : Nat) r, R[i]? = some r → r.ok ∧ ∃ b off, a = some ⟨b, off, none⟩ ∧ b < n0 ∧
    w.cell? ⟨b, off + i * 4, none⟩ = some (.int .i64 r.k) ∧ w.cell? ⟨b, off + i * 4 + 1, none⟩ = some (.int .i64 r.a) ∧ w.cell? ⟨b, off + i * 4 + 2, none⟩ = some (.int .u64 r.x) ∧ w.cell? ⟨b, off + i * 4 + 3, none⟩ = some (.int .u64 r.y)
theorem RawsAt.below {w w1 : World} {n0 : Nat} {a : Option Addr} {R : List Raw} (h : RawsAt w n0 a R) (hb : Below n0 w w1) : RawsAt w1 n0 a R := fun i r hr => by
  obtain ⟨hk, b, off, e, hl, h0, h1, h2, h3⟩ := h i r hr
  exact ⟨hk, b, off, e, hl, (hb.cell (p := ⟨b, _, none⟩) hl).trans h0, (hb.cell (p := ⟨b, _, none⟩) hl).trans h1, (hb.cell (p := ⟨b, _, none⟩) hl).trans h2, (hb.cell (p := ⟨b, _, none⟩) hl).trans h3⟩
set_option maxHeartbeats 4000000 in
theorem few8_any (n : Nat) (a : Option Addr) (cap : Nat) (R : List Raw) (hR : R.length ≤ 9223372036854775807) (hn : 1 ≤ n ∧ n ≤ 6) (w : World) (n0 : Nat) (hA : RawsAt w n0 a R) (hn0 : n0 ≤ w.heap.size) (h0 : 0 < w.heap.size) :
    Calls Tryz.prog 23 #[.slice a R.length cap, .int .i64 n] w fun e w' => ∃ v, e = .returned v ∧ (∃ I, ItemsAt w' I v (fewS n R) ∧ I < w'.heap.size ∧ (0 < (fewS n R).length → w.heap.size ≤ I ∧ ∃ cur, Blk w' I 69 cur)) ∧ Below w.heap.size w w' := by
  have HA := Lib.hid hA
  have HN := Lib.hid hn
  obtain ⟨hn1, hn6⟩ := hn
  clear hA
  obtain ⟨i0, hi, hz0, hz1, hz2⟩ := info_parts item_info
  obtain ⟨len, hlen⟩ : ∃ len, R.length = len := ⟨_, rfl⟩
  have HL := Lib.hid hlen
  rw [hlen] at hR ⊢
  clear hlen
  go_enter Tryz.func23, Tryz.ntmps23
  go_wp2
  go_loopw [5, 6] (fun v i wr => ∃ k : Nat, k ≤ 8 ∧ k ≤ len ∧ i = .int .i64 k ∧ wr.ownsRow w.heap.size 69 4 v k (itmCells ((R.take k).map (cutItm n))) ∧ Below w.heap.size w wr) (fun _ i wr => 8 - (intOf i).toNat)
  case atStart => exact ⟨0, by omega, by omega, rfl, World.ownsRow_nil _ _ _ _, Below.refl _ _⟩
  case round =>
    obtain ⟨m, hm8, hml, rfl, hrow, hB⟩ := hrel
    have hh := hB.size
    by_cases hlt : m < len ∧ m < 8
    · obtain ⟨hl3, hl4⟩ := hlt
      obtain ⟨r, hr⟩ : ∃ r, R[m]? = some r := ⟨_, List.getElem?_eq_getElem (by rw [HL.out]; exact hl3)⟩
      obtain ⟨hro, b, off, rfl, hb, q0, q1, q2, q3⟩ := HA.out _ r hr
      obtain ⟨kX, kY⟩ := And.intro hro.x hro.y
      have HO : Hid (itmCells ((R.take (m + 1)).map (cutItm n)) = itmCells ((R.take m).map (cutItm n)) ++ [.int .i64 (cutItm n r).kind, .int .i64 (cutItm n r).at', .int .u64 (cutItm n r).a, .int .u64 (cutItm n r).b]) := Lib.hid (by rw [few_next hr, itmCells_snoc])
      dsimp only [cutItm] at HO
      obtain ⟨K, A, X, Y⟩ := r
      dsimp only at q0 q1 q2 q3 kX kY HO
      have hbw := Nat.lt_of_lt_of_le hb hn0
      replace q0 := (hB.cell (p := ⟨b, off + m * 4, none⟩) hbw).trans q0
      replace q1 := (hB.cell (p := ⟨b, off + m * 4 + 1, none⟩) hbw).trans q1
      replace q2 := (hB.cell (p := ⟨b, off + m * 4 + 2, none⟩) hbw).trans q2
      replace q3 := (hB.cell (p := ⟨b, off + m * 4 + 3, none⟩) hbw).trans q3
      have HR := Lib.hid hr
      clear HA hr hro hbw
      go_upto_region 6 with fail
      have hX : Blk (wr.alloc (.cells #[.int .i64 K, .int .i64 A, .int .u64 X, .int .u64 Y] 69)) wr.heap.size 69 #[.int .i64 K, .int .i64 A, .int .u64 X, .int .u64 Y] := Blk.new _ _ _
      have k0 : Keep (fun _ => False) wr (wr.alloc (.cells #[.int .i64 K, .int .i64 A, .int .u64 X, .int .u64 Y] 69)) := (Keep.refl _ _).alloc _
      clear q0 q1 q2 q3
      generalize wr.alloc (.cells #[.int .i64 K, .int .i64 A, .int .u64 X, .int .u64 Y] 69) = W0 at *
      obtain ⟨xb, hxb⟩ : ∃ xb, wr.heap.size = xb := ⟨_, rfl⟩
      rw [hxb] at hX hh
      simp only [hxb]
      have x0 := hX.cell 0 (.int .i64 K) rfl
      have z0 := hX.free 0
      obtain ⟨hk', hk8⟩ := kindOf_is K
      obtain ⟨ht', ht3⟩ := cellOf_is A
      generalize kindOf K = k' at *
      generalize cellOf A = t at *
      go_upto_region 7 with fail
      simp only [hk']
      have HX := Lib.hid (hX.set 0 (.int .i64 k'))
      replace k0 := k0.set (p := ⟨xb, 0, none⟩) (fun h => absurd h (by rw [hxb]; exact Nat.lt_irrefl _)) (.int .i64 k')
      clear hX x0 z0
      generalize W0.setCell ⟨xb, 0, none⟩ (.int .i64 k') = W1 at *
      simp only [List.setIfInBounds_toArray, List.set_cons_zero] at HX
      have x1 : W1.cell? ⟨xb, 1, none⟩ = some (.int .i64 A) := HX.out.cell 1 _ rfl
      have z1 := HX.out.free 1
      go_upto_region 8 with fail
      simp only [ht']
      replace HX := Lib.hid (HX.out.set 1 (.int .i64 t))
      replace k0 := k0.set (p := ⟨xb, 1, none⟩) (fun h => absurd h (by rw [hxb]; exact Nat.lt_irrefl _)) (.int .i64 t)
      clear x1 z1
      generalize W1.setCell ⟨xb, 1, none⟩ (.int .i64 t) = W2 at *
      simp only [List.setIfInBounds_toArray, List.set_cons_zero, List.set_cons_succ] at HX
      have x0 : W2.cell? ⟨xb, 0, none⟩ = some (.int .i64 k') := HX.out.cell 0 _ rfl
      have x1 : W2.cell? ⟨xb, 1, none⟩ = some (.int .i64 t) := HX.out.cell 1 _ rfl
      have z1 := HX.out.free 1
      have xm : 0 ≤ X.tmod 4 ∧ X.tmod 4 < 4 := ⟨Int.tmod_nonneg _ kX.1, Int.tmod_lt_of_pos _ (by omega)⟩
      have ym : 0 ≤ Y.tmod 4 ∧ Y.tmod 4 < 4 := ⟨Int.tmod_nonneg _ kY.1, Int.tmod_lt_of_pos _ (by omega)⟩
      have XM := Lib.hid xm
      have YM := Lib.hid ym
      have H8 := Lib.hid hk8
      clear xm ym hk8 kX kY hk' ht'
      by_cases h56 : k' = 5 ∨ k' = 6
      · have HT : Hid ((if k' = 5 ∨ k' = 6 then t % n else t) = t % n) := Lib.hid (if_pos h56)
        have hnz : ¬ n = 0 := by omega
        rcases h56 with rfl | rfl
        · go_upto_region 10 with fail
          have em : (t : Int) % (n : Int) = ((t % n : Nat) : Int) := (Int.natCast_emod t n).symm
          simp only [em]
          replace HX := Lib.hid (HX.out.set 1 (.int .i64 ((t % n : Nat) : Int)))
          replace k0 := k0.set (p := ⟨xb, 1, none⟩) (fun h => absurd h (by rw [hxb]; exact Nat.lt_irrefl _)) (.int .i64 ((t % n : Nat) : Int))
          simp only [List.setIfInBounds_toArray, List.set_cons_zero, List.set_cons_succ] at HX
          clear x0 x1 z1
          generalize W2.setCell ⟨xb, 1, none⟩ (.int .i64 ((t % n : Nat) : Int)) = W3 at *
          generalize htn : t % n = tn at *
          clear htn em
          have HX := Lib.hid HX.out
          have x2 := HX.out.cell 2 (.int .u64 X) rfl
          have z2 := HX.out.free 2
          have x3 := HX.out.cell 3 (.int .u64 Y) rfl
          have z3 := (HX.out.set 2 (.int .u64 (X.tmod 4))).free 3
          have x4 := (HX.out.set 2 (.int .u64 (X.tmod 4))).cell 3 (.int .u64 Y) rfl
          go_upto_region 11 with fail
          have HX4 := Lib.hid ((HX.out.set 2 (.int .u64 (X.tmod 4))).set 3 (.int .u64 (Y.tmod 4)))
          simp only [List.setIfInBounds_toArray, List.set_cons_zero, List.set_cons_succ] at HX4
          replace k0 := (k0.set (p := ⟨xb, 2, none⟩) (fun h => absurd h (by rw [hxb]; exact Nat.lt_irrefl _)) (.int .u64 (X.tmod 4))).set (p := ⟨xb, 3, none⟩) (fun h => absurd h (by rw [hxb]; exact Nat.lt_irrefl _)) (.int .u64 (Y.tmod 4))
          clear x2 z2 x3 z3 x4 HX
          generalize (World.setCell _ ⟨xb, 2, none⟩ (.int .u64 (X.tmod 4))).setCell ⟨xb, 3, none⟩ (.int .u64 (Y.tmod 4)) = W4 at *
          have y0 : W4.cell? ⟨xb, 0, none⟩ = some (.int .i64 5) := HX4.out.cell 0 _ rfl
          have y1 : W4.cell? ⟨xb, 1, none⟩ = some (.int .i64 tn) := HX4.out.cell 1 _ rfl
          have y2 : W4.cell? ⟨xb, 2, none⟩ = some (.int .u64 (X.tmod 4)) := HX4.out.cell 2 _ rfl
          have y3 : W4.cell? ⟨xb, 3, none⟩ = some (.int .u64 (Y.tmod 4)) := HX4.out.cell 3 _ rfl
          have hrow4 := ownsRow_keep hrow k0
          have B4 := hB.trans (k0.below (by rw [hxb]; exact hh) (fun _ _ h => h.elim))
          have hh4 := B4.size
          clear HX4 hrow k0 hB
          go_wp2_with (at_builtin; refine wpList_append_own _ rfl _ _ 64 rfl w.heap.size 69 i0 (.agg #[.int .i64 0, .int .i64 0, .int .u64 0, .int .u64 0]) 4 32 Tryz.underlying64 hi hz0 hz1 hz2 rfl (by decide) _ _ _ rfl (hrow4.alloc _) ⟨W4.heap.size, 0, none⟩ 1 1 [.int .i64 5, .int .i64 tn, .int .u64 (X.tmod 4), .int .u64 (Y.tmod 4)] rfl rfl (cells4_new _ _ _ _ _ _) (by simp [Value.oneCell']) (by unfold maxLen; omega) (by omega) (by simp; omega) ?_; intro v' w2 hown' hgrow _; have hgb := grown_below hgrow hrow4 hh4)
          go_roundw
          case rel =>
            refine ⟨m + 1, by omega, by omega, by simp, ?_, B4.trans hgb⟩
            rw [HO.out, HT.out]
            exact hown'
          case measure => simp [intOf]; omega
        · go_upto_region 10 with fail
          have em : (t : Int) % (n : Int) = ((t % n : Nat) : Int) := (Int.natCast_emod t n).symm
          simp only [em]
          replace HX := Lib.hid (HX.out.set 1 (.int .i64 ((t % n : Nat) : Int)))
          replace k0 := k0.set (p := ⟨xb, 1, none⟩) (fun h => absurd h (by rw [hxb]; exact Nat.lt_irrefl _)) (.int .i64 ((t % n : Nat) : Int))
          simp only [List.setIfInBounds_toArray, List.set_cons_zero, List.set_cons_succ] at HX
          clear x0 x1 z1
          generalize W2.setCell ⟨xb, 1, none⟩ (.int .i64 ((t % n : Nat) : Int)) = W3 at *
          generalize htn : t % n = tn at *
          clear htn em
          have HX := Lib.hid HX.out
          have x2 := HX.out.cell 2 (.int .u64 X) rfl
          have z2 := HX.out.free 2
          have x3 := HX.out.cell 3 (.int .u64 Y) rfl
          have z3 := (HX.out.set 2 (.int .u64 (X.tmod 4))).free 3
          have x4 := (HX.out.set 2 (.int .u64 (X.tmod 4))).cell 3 (.int .u64 Y) rfl
          go_upto_region 11 with fail
          have HX4 := Lib.hid ((HX.out.set 2 (.int .u64 (X.tmod 4))).set 3 (.int .u64 (Y.tmod 4)))
          simp only [List.setIfInBounds_toArray, List.set_cons_zero, List.set_cons_succ] at HX4
          replace k0 := (k0.set (p := ⟨xb, 2, none⟩) (fun h => absurd h (by rw [hxb]; exact Nat.lt_irrefl _)) (.int .u64 (X.tmod 4))).set (p := ⟨xb, 3, none⟩) (fun h => absurd h (by rw [hxb]; exact Nat.lt_irrefl _)) (.int .u64 (Y.tmod 4))
          clear x2 z2 x3 z3 x4 HX
          generalize (World.setCell _ ⟨xb, 2, none⟩ (.int .u64 (X.tmod 4))).setCell ⟨xb, 3, none⟩ (.int .u64 (Y.tmod 4)) = W4 at *
          have y0 : W4.cell? ⟨xb, 0, none⟩ = some (.int .i64 6) := HX4.out.cell 0 _ rfl
          have y1 : W4.cell? ⟨xb, 1, none⟩ = some (.int .i64 tn) := HX4.out.cell 1 _ rfl
          have y2 : W4.cell? ⟨xb, 2, none⟩ = some (.int .u64 (X.tmod 4)) := HX4.out.cell 2 _ rfl
          have y3 : W4.cell? ⟨xb, 3, none⟩ = some (.int .u64 (Y.tmod 4)) := HX4.out.cell 3 _ rfl
          have hrow4 := ownsRow_keep hrow k0
          have B4 := hB.trans (k0.below (by rw [hxb]; exact hh) (fun _ _ h => h.elim))
          have hh4 := B4.size
          clear HX4 hrow k0 hB
          go_wp2_with (at_builtin; refine wpList_append_own _ rfl _ _ 64 rfl w.heap.size 69 i0 (.agg #[.int .i64 0, .int .i64 0, .int .u64 0, .int .u64 0]) 4 32 Tryz.underlying64 hi hz0 hz1 hz2 rfl (by decide) _ _ _ rfl (hrow4.alloc _) ⟨W4.heap.size, 0, none⟩ 1 1 [.int .i64 6, .int .i64 tn, .int .u64 (X.tmod 4), .int .u64 (Y.tmod 4)] rfl rfl (cells4_new _ _ _ _ _ _) (by simp [Value.oneCell']) (by unfold maxLen; omega) (by omega) (by simp; omega) ?_; intro v' w2 hown' hgrow _; have hgb := grown_below hgrow hrow4 hh4)
          go_roundw
          case rel =>
            refine ⟨m + 1, by omega, by omega, by simp, ?_, B4.trans hgb⟩
            rw [HO.out, HT.out]
            exact hown'
          case measure => simp [intOf]; omega
      · have HT : Hid ((if k' = 5 ∨ k' = 6 then t % n else t) = t) := Lib.hid (if_neg h56)
        have g5 : ¬ (k' : Int) = 5 := by omega
        have g6 : ¬ (k' : Int) = 6 := by omega
        go_upto_region 10 with fail
        clear x0 x1 z1
        have HX := Lib.hid HX.out
        have x2 := HX.out.cell 2 (.int .u64 X) rfl
        have z2 := HX.out.free 2
        have x3 := HX.out.cell 3 (.int .u64 Y) rfl
        have z3 := (HX.out.set 2 (.int .u64 (X.tmod 4))).free 3
        have x4 := (HX.out.set 2 (.int .u64 (X.tmod 4))).cell 3 (.int .u64 Y) rfl
        go_upto_region 11 with fail
        have HX4 := Lib.hid ((HX.out.set 2 (.int .u64 (X.tmod 4))).set 3 (.int .u64 (Y.tmod 4)))
        simp only [List.setIfInBounds_toArray, List.set_cons_zero, List.set_cons_succ] at HX4
        replace k0 := (k0.set (p := ⟨xb, 2, none⟩) (fun h => absurd h (by rw [hxb]; exact Nat.lt_irrefl _)) (.int .u64 (X.tmod 4))).set (p := ⟨xb, 3, none⟩) (fun h => absurd h (by rw [hxb]; exact Nat.lt_irrefl _)) (.int .u64 (Y.tmod 4))
        clear x2 z2 x3 z3 x4 HX
        generalize (World.setCell _ ⟨xb, 2, none⟩ (.int .u64 (X.tmod 4))).setCell ⟨xb, 3, none⟩ (.int .u64 (Y.tmod 4)) = W4 at *
        have y0 : W4.cell? ⟨xb, 0, none⟩ = some (.int .i64 k') := HX4.out.cell 0 _ rfl
        have y1 : W4.cell? ⟨xb, 1, none⟩ = some (.int .i64 t) := HX4.out.cell 1 _ rfl
        have y2 : W4.cell? ⟨xb, 2, none⟩ = some (.int .u64 (X.tmod 4)) := HX4.out.cell 2 _ rfl
        have y3 : W4.cell? ⟨xb, 3, none⟩ = some (.int .u64 (Y.tmod 4)) := HX4.out.cell 3 _ rfl
        have hrow4 := ownsRow_keep hrow k0
        have B4 := hB.trans (k0.below (by rw [hxb]; exact hh) (fun _ _ h => h.elim))
        have hh4 := B4.size
        clear HX4 hrow k0 hB
        go_wp2_with (at_builtin; refine wpList_append_own _ rfl _ _ 64 rfl w.heap.size 69 i0 (.agg #[.int .i64 0, .int .i64 0, .int .u64 0, .int .u64 0]) 4 32 Tryz.underlying64 hi hz0 hz1 hz2 rfl (by decide) _ _ _ rfl (hrow4.alloc _) ⟨W4.heap.size, 0, none⟩ 1 1 [.int .i64 k', .int .i64 t, .int .u64 (X.tmod 4), .int .u64 (Y.tmod 4)] rfl rfl (cells4_new _ _ _ _ _ _) (by simp [Value.oneCell']) (by unfold maxLen; omega) (by omega) (by simp; omega) ?_; intro v' w2 hown' hgrow _; have hgb := grown_below hgrow hrow4 hh4)
        go_roundw
        case rel =>
          refine ⟨m + 1, by omega, by omega, by simp, ?_, B4.trans hgb⟩
          rw [HO.out, HT.out]
          exact hown'
        case measure => simp [intOf]; omega
    · have hge : ¬ ((m : Int) < len ∧ (m : Int) < 8) := by omega
      have hE := fewS_end (n := n) (i := m) (R := R) (by rw [HL.out]; omega) hm8 (by rw [HL.out]; omega)
      have hfl := few_len (n := n) (i := m) (R := R) (by rw [HL.out]; omega)
      rw [hE] at hrow hfl
      have hrow' := hrow
      rw [← hfl] at hrow'
      obtain ⟨I, hI, hI2, hI3⟩ := itemsAt_of_row hrow' (fun x hx => by
        obtain ⟨r, hr, rfl⟩ := List.mem_map.1 hx
        obtain ⟨i, hi⟩ := List.mem_iff_getElem?.1 (List.mem_of_mem_take hr)
        exact cutItm_ok HN.out.1 (HA.out i r hi).1) (by have := fewS_len (n := n) (R := R); omega) (by omega) h0
      clear hE hfl
      by_cases hc : m < len
      · have hc2 : ¬ (m : Int) < 8 := by omega
        go_wp2
        go_ret
        exact ⟨_, rfl, ⟨I, hI, hI2, hI3⟩, hB⟩
      · have hc2 : ¬ (m : Int) < len := by omega
        go_wp2
        go_ret
        exact ⟨_, rfl, ⟨I, hI, hI2, hI3⟩, hB⟩
end Go.Proofs.YtpopcallphbklaaGreat
/- The document's own threads (doorkeeperref08): what they are in memory; on. -/
namespace Go.Proofs.YtpopcallphbklaaGreat
open Go.ChangeShapes Go.WideShapes Go.ChangeAt Go.RowKit
set_option linter.unusedVariables false
set_option maxRecDepth 100000
set_option linter.unusedSimpArgs false
theorem RTask.keepE {w w1 : World} {T I : Nat} {l r : List Itm} {x : Int} {Q : Nat → Prop} (h : RTask w T I l r x) (hk : Keep Q w w1) (h1 : ¬ Q T) (h2 : l ≠ [] → ¬ Q I) : RTask w1 T I l r x := by
  by_cases hl : l = []
  · subst hl
    obtain ⟨v, hb, hi⟩ := h.own
    exact ⟨⟨v, hb.keep hk h1, ⟨hi.is, fun i x hx => by simp at hx, hi.ok, hi.few⟩⟩, h.rest, h.ne⟩
  · exact h.keep hk h1 (h2 hl)
/-- a task of a thread of the document's -/
structure RTk where
  T : Nat
  I : Nat
  l : List Itm
  r : List Itm
  x : Int
abbrev RTk.tsk (k : RTk) : Tsk := (k.r, k.x)
/-- what is left of a thread, and its values -/
def thrOf (K : List RTk) (n : Nat) : Thr := ((K.drop n).map RTk.tsk, (K.take n).map RTk.x)
/-- past what is done -/
def endOf (K : List RTk) (n : Nat) : Thr := goS (thrOf K n).1 (thrOf K n).2
/-- the row of its tasks, in block B -/
structure RRow (w : World) (B : Nat) (v : Value) (K : List RTk) : Prop where
  is : ∃ a c, v = .slice a K.length c ∧ (0 < K.length → a = some ⟨B, 0, none⟩)
  cell : ∀ (i : Nat) k, K[i]? = some k → w.cell? ⟨B, i, none⟩ = some (ptrV k.T)
theorem RRow.keep {w w1 : World} {B : Nat} {v : Value} {K : List RTk} {Q : Nat → Prop} (h : RRow w B v K) (hk : Keep Q w w1) (hn : K ≠ [] → ¬ Q B) : RRow w1 B v K :=
  ⟨h.is, fun i k hi => cell_keep (h.cell i k hi) hk (hn (by intro e; subst e; simp at hi))⟩
/-- a thread of the document's, at block H, of the blocks of which O is said -/
structure RThr (w : World) (H : Nat) (O : Nat → Prop) (K : List RTk) (n : Nat) : Prop where
  own : ∃ v u n0 B, Blk w H 79 #[v, .int .i64 n, u] ∧ RRow w B v K ∧ (K ≠ [] → O B ∧ ∃ cur, Blk w B 71 cur) ∧ w.ownsRow n0 3 1 u n ((K.take n).map fun k => Value.int .i64 k.x) ∧ n0 ≤ w.heap.size ∧ ∀ g, u.ownBlock = some g → O g
  mine : O H
  tk : ∀ k ∈ K, RTask w k.T k.I k.l k.r k.x ∧ O k.T ∧ (k.l ≠ [] → O k.I ∧ ∃ cur, Blk w k.I 69 cur)
  le : n ≤ K.length
  apart : K.Pairwise (fun k j => k.T ≠ j.T)
  lt : ∀ b, O b → b < w.heap.size
  few : K.length ≤ 5
theorem RThr.keep {w w1 : World} {H : Nat} {O F : Nat → Prop} {K : List RTk} {n : Nat} (h : RThr w H O K n) (hk : Keep F w w1) (hF : ∀ b, O b → ¬ F b) : RThr w1 H O K n := by
  obtain ⟨v, u, n0, B, h1, h2, h3, h4, h5, h6⟩ := h.own
  refine ⟨⟨v, u, n0, B, h1.keep hk (hF _ h.mine), h2.keep hk (fun hK => hF _ (h3 hK).1), fun hK => ⟨(h3 hK).1, ?_⟩, row_ownkeep h4 hk (fun g hg => hF g (h6 g hg)), Nat.le_trans h5 hk.size, h6⟩, h.mine, fun k hk' => ?_, h.le, h.apart, fun b hb => Nat.lt_of_lt_of_le (h.lt b hb) hk.size, h.few⟩
  · obtain ⟨cur, hc⟩ := (h3 hK).2
    exact ⟨cur, hc.keep hk (hF _ (h3 hK).1)⟩
  · obtain ⟨a, b, c⟩ := h.tk k hk'
    exact ⟨a.keepE hk (hF _ b) (fun hl => hF _ (c hl).1), b, fun hl => ⟨(c hl).1, (c hl).2.choose, (c hl).2.choose_spec.keep hk (hF _ (c hl).1)⟩⟩
theorem thrOf_done {K : List RTk} {n : Nat} {k : RTk} (h : K[n]? = some k) (hr : k.r = []) : endOf K n = endOf K (n + 1) := by
  have hl := (List.getElem?_eq_some_iff.1 h).1
  have hd : K.drop n = k :: K.drop (n + 1) := by
    rw [List.drop_eq_getElem_cons hl]; congr 1; exact (List.getElem?_eq_some_iff.1 h).2
  have ht : K.take (n + 1) = K.take n ++ [k] := by rw [List.take_add_one, h]; rfl
  unfold endOf thrOf
  rw [hd, ht]
  simp [goS, hr]
theorem thrOf_live {K : List RTk} {n : Nat} {k : RTk} (h : K[n]? = some k) (hr : k.r ≠ []) : endOf K n = thrOf K n := by
  have hl := (List.getElem?_eq_some_iff.1 h).1
  have hd : K.drop n = k :: K.drop (n + 1) := by
    rw [List.drop_eq_getElem_cons hl]; congr 1; exact (List.getElem?_eq_some_iff.1 h).2
  unfold endOf thrOf
  rw [hd]
  simp [goS, hr]
theorem thrOf_end {K : List RTk} : endOf K K.length = thrOf K K.length := by
  unfold endOf thrOf
  simp [goS]
theorem rint_info : (Tryz.prog.info? 3).map (fun i => (i.zero, i.size, i.bytes)) = some (some (.int .i64 0), 1, 8) := by kernel_rfl
theorem idx_rtasks (len c B o i : Nat) (h : i < len) : ∀ W, (Instr.indexAt 62 (.slice (some ⟨B, o, none⟩) len c) (.int .i64 (i : Int))).run Tryz.prog W = .ok (.pointer (some ⟨B, o + i, none⟩)) W := by
  intro W
  go_simp
theorem bcell_lt9 {w : World} {b o : Nat} {v : Value} (h : w.cell? ⟨b, o, none⟩ = some v) : b < w.heap.size := by
  by_cases hb : b < w.heap.size
  · exact hb
  · have : w.heap[b]? = none := by simp; omega
    simp [World.cell?, this] at h
theorem kk_set6 {F : Nat → Prop} {w w1 : World} (h : Keep F w w1) (b i : Nat) (v : Value) : Keep (fun x => F x ∨ x = b) w (w1.setCell ⟨b, i, none⟩ v) := (h.mono (fun _ _ h => .inl h)).set (p := ⟨b, i, none⟩) (fun _ => .inr rfl) v
set_option maxHeartbeats 4000000 in
theorem on8_any (H : Nat) (O : Nat → Prop) (K : List RTk) (n : Nat) (w : World) (h : RThr w H O K n) :
    Calls Tryz.prog 39 #[ptrV H] w fun e w' => e = .returned (.tuple #[]) ∧ (∃ O' n', RThr w' H O' K n' ∧ thrOf K n' = endOf K n ∧ ∀ b, O' b → O b ∨ w.heap.size ≤ b) ∧ Keep O w w' := by
  have H0 := Lib.hid h
  obtain ⟨i0, hi, hz0, hz1, hz2⟩ := info_parts rint_info
  clear h
  go_enter Tryz.func39, Tryz.ntmps39
  go_wp2
  go_loopw [] (fun wr => ∃ n' O', n ≤ n' ∧ endOf K n' = endOf K n ∧ RThr wr H O' K n' ∧ (∀ b, O' b → O b ∨ w.heap.size ≤ b) ∧ Keep O w wr) (fun wr => match wr.cell? ⟨H, 1, none⟩ with | some (.int _ z) => K.length - z.toNat | _ => 0)
  case atStart => exact ⟨n, O, Nat.le_refl _, rfl, H0.out, fun b h => .inl h, Keep.refl _ _⟩
  case round =>
    obtain ⟨m, O', hm, hE, hT, hO, hK⟩ := hrel
    obtain ⟨v, u, n0, B, o1, o2, o3, o4, o5, o6⟩ := hT.own
    obtain ⟨a, c, rfl, hs⟩ := o2.is
    have c0 : wr.cell? ⟨H, 0, none⟩ = some (.slice a K.length c) := o1.cell 0 _ rfl
    have c1 : wr.cell? ⟨H, 1, none⟩ = some (.int .i64 (m : Int)) := o1.cell 1 _ rfl
    have C1 := Lib.hid c1
    have hmK := hT.le
    have hf := hT.few
    by_cases hend : m = K.length
    · have HT := Lib.hid hT
      have HE := Lib.hid hE
      have HEND := Lib.hid hend
      have hlt : ¬ (m : Int) < (K.length : Int) := by omega
      clear hs o1 o2 o3 o4 o5 o6 hT hE hend hmK hf
      go_upto_region 0 with fail
      go_quiet (fail)
      go_wp2
      go_end0
      refine ⟨rfl, ⟨O', m, HT.out.keep (F := fun _ => False) ((Keep.refl _ _).drewN _) (fun _ _ h => h), ?_, hO⟩, hK.drewN _⟩
      rw [← HE.out]
      have := HEND.out
      subst this
      exact thrOf_end.symm
    · have hlt : (m : Int) < (K.length : Int) := by omega
      obtain ⟨k, hk⟩ : ∃ k, K[m]? = some k := ⟨_, List.getElem?_eq_getElem (by omega)⟩
      obtain rfl := hs (by omega)
      have q0 := o2.cell m k hk
      obtain ⟨t1, t2, t3⟩ := hT.tk k (List.mem_of_getElem? hk)
      have HD : Hid (∀ j, Calls Tryz.prog 73 #[ptrV k.T] (wr.drewN j) fun e w' => e = .returned (.bool k.r.isEmpty) ∧ ∃ m, w' = (wr.drewN j).drewN m) := Lib.hid fun j => rdone_any k.T k.I k.l k.r k.x (wr.drewN j) (t1.keep (Q := fun _ => False) ((Keep.refl _ _).drewN j) (fun h => h) (fun h => h))
      have hix := idx_rtasks K.length c B 0 m (by omega)
      simp only [Nat.zero_add] at hix
      have HT := Lib.hid hT
      have HK := Lib.hid hk
      have HE := Lib.hid hE
      by_cases hr : k.r = []
      · have hre : k.r.isEmpty = true := by simp [hr]
        rw [hre] at HD
        obtain ⟨vI, hTx, t1b⟩ := t1.own
        have q2 := hTx.cell 2 _ rfl
        have HR := Lib.hid hr
        have HX := Lib.hid hTx
        have O1 := Lib.hid o1
        have O2 := Lib.hid o2
        have O4 := Lib.hid o4
        have O6 := Lib.hid o6
        have hTH : k.T ≠ H := hTx.apart o1 (by decide)
        have hBH : B ≠ H := by obtain ⟨cur, hc⟩ := (o3 (by intro e; simp [e] at hk)).2; exact hc.apart o1 (by decide)
        have hTu : ∀ g, u.ownBlock = some g → g ≠ k.T := fun g hg => by obtain ⟨_, cur, hc⟩ := row_lt o4 hg; exact hc.apart hTx (by decide)
        have hBu : ∀ g, u.ownBlock = some g → g ≠ B := fun g hg => by obtain ⟨_, cur, hc⟩ := row_lt o4 hg; obtain ⟨cur2, hc2⟩ := (o3 (by intro e; simp [e] at hk)).2; exact hc.apart hc2 (by decide)
        have hHu : ∀ g, u.ownBlock = some g → g ≠ H := fun g hg => by obtain ⟨_, cur, hc⟩ := row_lt o4 hg; exact hc.apart o1 (by decide)
        have HU := Lib.hid (And.intro hTu (And.intro hBu hHu))
        have O3 := Lib.hid o3
        have hsz := hK.size
        have Tl := hTx.lt
        have Bl := bcell_lt9 q0
        have Hl := o1.lt
        clear o1 o2 o3 o4 o6 hT hE hk hs t1 t1b t2 t3 hr hre hTx hTu hBu hHu
        obtain ⟨T, I, kl', kr, x⟩ := k
        dsimp only at *
        generalize hkl : K.length = kl at *
        have HKL := Lib.hid hkl
        clear hkl
        go_upto_region 0 with fail
        go_quiet (first | (go_at_call 73; exact Calls.quiet_of (HD.out _)))
        go_wp2
        have kW : Keep (fun _ => False) wr (wr.drewN nq) := (Keep.refl _ _).drewN _
        replace c0 := cell_keep c0 kW (fun h => h)
        replace c1 := cell_keep c1 kW (fun h => h)
        replace q0 := cell_keep q0 kW (fun h => h)
        replace q2 := cell_keep q2 kW (fun h => h)
        replace O1 := Lib.hid (O1.out.keep kW (fun h => h))
        replace O4 := Lib.hid (ownsRow_keep O4.out kW)
        replace O2 := Lib.hid (O2.out.keep kW (fun _ h => h))
        replace O3 := Lib.hid (fun h => And.intro (O3.out h).1 (Exists.elim (O3.out h).2 (fun cur hc => Exists.intro cur (hc.keep kW (fun h => h)))))
        replace HT := Lib.hid (HT.out.keep kW (fun _ _ h => h))
        have hK2 := hK.step kW (fun _ _ h => h.elim)
        have es : (wr.drewN nq).heap.size = wr.heap.size := rfl
        rw [← es] at o5 hsz Tl Bl Hl
        clear kW HD HX hK es
        generalize wr.drewN nq = W1 at *
        have c2 : W1.cell? ⟨H, 2, none⟩ = some u := O1.out.cell 2 _ rfl
        have sK : ∀ W, Keep (fun b => u.ownBlock = some b) W1 W → (fun w' => w'.cell? ⟨H, 0, none⟩ = some (.slice (some ⟨B, 0, none⟩) kl c) ∧ w'.cell? ⟨H, 1, none⟩ = some (.int .i64 (m : Int)) ∧ w'.cell? ⟨B, m, none⟩ = some (ptrV T) ∧ w'.cell? ⟨T, 2, none⟩ = some (.int .i64 x)) W := fun W hk => ⟨cell_keep c0 hk (fun e => HU.out.2.2 _ e rfl), cell_keep c1 hk (fun e => HU.out.2.2 _ e rfl), cell_keep q0 hk (fun e => HU.out.2.1 _ e rfl), cell_keep q2 hk (fun e => HU.out.1 _ e rfl)⟩
        have kI : Keep (fun b => u.ownBlock = some b) W1 W1 := Keep.refl _ _
        refine wp_region_held_drew (S := (fun w' => w'.cell? ⟨H, 0, none⟩ = some (.slice (some ⟨B, 0, none⟩) kl c) ∧ w'.cell? ⟨H, 1, none⟩ = some (.int .i64 (m : Int)) ∧ w'.cell? ⟨B, m, none⟩ = some (ptrV T) ∧ w'.cell? ⟨T, 2, none⟩ = some (.int .i64 x))) (by kernel_rfl) (sK _ kI.drew) (fun hHeld => ?_)
        refine wpAnyH_take (i := 0) (oi := _) (v := ?_) rfl (by kernel_rfl) (by kernel_rfl) (by kernel_rfl) (fun _ _ _ h => h) (Or.inl ⟨by rfl, ?_⟩) (by assumption) ?_
        rotate_left
        · intro w hSw; (try dsimp only at hSw); go_simp; try with_reducible rfl
        (try simp only [Act.put, List.setIfInBounds_toArray, List.set_cons_zero, List.set_cons_succ])
        refine wpAnyH_take (i := 1) (oi := _) (v := ?_) rfl (by kernel_rfl) (by kernel_rfl) (by kernel_rfl) (fun _ _ _ h => h) (Or.inl ⟨by rfl, ?_⟩) (by assumption) ?_
        rotate_left
        · intro w hSw; (try dsimp only at hSw); go_simp; try with_reducible rfl
        (try simp only [Act.put, List.setIfInBounds_toArray, List.set_cons_zero, List.set_cons_succ])
        refine wpAnyH_take (i := 2) (oi := _) (v := ?_) rfl (by kernel_rfl) (by kernel_rfl) (by kernel_rfl) (fun _ _ _ h => h) (Or.inl ⟨by rfl, ?_⟩) (by assumption) ?_
        rotate_left
        · intro w hSw; (try dsimp only at hSw); go_simp; try with_reducible rfl
        (try simp only [Act.put, List.setIfInBounds_toArray, List.set_cons_zero, List.set_cons_succ])
        refine wpAnyH_take (i := 3) (oi := _) (v := ?_) rfl (by kernel_rfl) (by kernel_rfl) (by kernel_rfl) (fun _ _ _ h => h) (Or.inl ⟨by rfl, ?_⟩) (by assumption) ?_
        rotate_left
        · intro w hSw; (try dsimp only at hSw); go_simp; try with_reducible rfl
        (try simp only [Act.put, List.setIfInBounds_toArray, List.set_cons_zero, List.set_cons_succ])
        refine wpAnyH_take (i := 5) (oi := _) (v := ?_) rfl (by kernel_rfl) (by kernel_rfl) (by kernel_rfl) (fun _ _ _ h => h) (Or.inl ⟨by rfl, ?_⟩) (by assumption) ?_
        rotate_left
        · intro w hSw; (try dsimp only at hSw); go_simp; try with_reducible rfl
        (try simp only [Act.put, List.setIfInBounds_toArray, List.set_cons_zero, List.set_cons_succ])
        refine wpAnyH_take (i := 6) (oi := _) (v := ?_) rfl (by kernel_rfl) (by kernel_rfl) (by kernel_rfl) (fun _ _ _ h => h) (Or.inl ⟨by rfl, ?_⟩) (by assumption) ?_
        rotate_left
        · intro w hSw; (try dsimp only at hSw); go_simp; try with_reducible rfl
        (try simp only [Act.put, List.setIfInBounds_toArray, List.set_cons_zero, List.set_cons_succ])
        refine wpAnyH_take (i := 7) (oi := _) (v := ?_) rfl (by kernel_rfl) (by kernel_rfl) (by kernel_rfl) (fun _ _ _ h => h) (Or.inl ⟨by rfl, ?_⟩) (by assumption) ?_
        rotate_left
        · intro w hSw; (try dsimp only at hSw); go_simp; try with_reducible rfl
        (try simp only [Act.put, List.setIfInBounds_toArray, List.set_cons_zero, List.set_cons_succ])
        refine wpAnyH_take (i := 8) (oi := _) (v := ?_) rfl (by kernel_rfl) (by kernel_rfl) (by kernel_rfl) (fun _ _ _ h => h) (Or.inl ⟨by rfl, ?_⟩) (by assumption) ?_
        rotate_left
        · intro w hSw; (try dsimp only at hSw); go_simp; try with_reducible rfl
        (try simp only [Act.put, List.setIfInBounds_toArray, List.set_cons_zero, List.set_cons_succ])
        refine wpAnyH_take (i := 9) (oi := _) (v := ?_) rfl (by kernel_rfl) (by kernel_rfl) (by kernel_rfl) (fun _ _ _ h => h) (Or.inl ⟨by rfl, ?_⟩) (by assumption) ?_
        rotate_left
        · intro w hSw; (try dsimp only at hSw); go_simp; try with_reducible rfl
        (try simp only [Act.put, List.setIfInBounds_toArray, List.set_cons_zero, List.set_cons_succ])
        refine wpAnyH_take (i := 10) (oi := _) (v := ?_) rfl (by kernel_rfl) (by kernel_rfl) (by kernel_rfl) (fun _ _ _ h => h) (Or.inl ⟨by rfl, ?_⟩) (by assumption) ?_
        rotate_left
        · intro w hSw; (try dsimp only at hSw); go_simp; try with_reducible rfl
        (try simp only [Act.put, List.setIfInBounds_toArray, List.set_cons_zero, List.set_cons_succ])
        refine wpAnyH_take (i := 11) (oi := _) (v := ?_) rfl (by kernel_rfl) (by kernel_rfl) (by kernel_rfl) (fun _ _ _ h => h) (Or.inl ⟨by rfl, ?_⟩) (by assumption) ?_
        rotate_left
        · intro w hSw; (try dsimp only at hSw); go_simp; try with_reducible rfl
        (try simp only [Act.put, List.setIfInBounds_toArray, List.set_cons_zero, List.set_cons_succ])
        refine wpAnyH_take (i := 12) (oi := _) (v := ?_) rfl (by kernel_rfl) (by kernel_rfl) (by kernel_rfl) (fun _ _ _ h => h) (Or.inl ⟨by rfl, ?_⟩) (by assumption) ?_
        rotate_left
        · intro w hSw; (try dsimp only at hSw); go_simp; try with_reducible rfl
        (try simp only [Act.put, List.setIfInBounds_toArray, List.set_cons_zero, List.set_cons_succ])
        refine wpAnyH_take (i := 13) (oi := _) (v := ?_) rfl (by kernel_rfl) (by kernel_rfl) (by kernel_rfl) (fun _ _ _ h => h) (Or.inl ⟨by rfl, ?_⟩) (by assumption) ?_
        rotate_left
        · intro w hSw; (try dsimp only at hSw); go_simp; try with_reducible rfl
        (try simp only [Act.put, List.setIfInBounds_toArray, List.set_cons_zero, List.set_cons_succ])
        refine wpAnyH_take (i := 14) (oi := _) (v := ?_) rfl (by kernel_rfl) (by kernel_rfl) (by kernel_rfl) (fun _ _ _ h => h) (Or.inl ⟨by rfl, ?_⟩) (by assumption) ?_
        rotate_left
        · intro w hSw; (try dsimp only at hSw); go_simp; try with_reducible rfl
        (try simp only [Act.put, List.setIfInBounds_toArray, List.set_cons_zero, List.set_cons_succ])
        refine wpAnyH_take (i := 15) (oi := _) (v := ?_) rfl (by kernel_rfl) (by kernel_rfl) (by kernel_rfl) (fun _ _ _ h => h) (Or.inl ⟨by rfl, ?_⟩) (by assumption) ?_
        rotate_left
        · intro w hSw; (try dsimp only at hSw); go_simp; try with_reducible rfl
        (try simp only [Act.put, List.setIfInBounds_toArray, List.set_cons_zero, List.set_cons_succ])
        refine wpAnyH_take (i := 16) (oi := _) (v := ?_) rfl (by kernel_rfl) (by kernel_rfl) (by kernel_rfl) (fun _ _ _ h => h) (Or.inl ⟨by rfl, ?_⟩) (by assumption) ?_
        rotate_left
        · intro w hSw; (try dsimp only at hSw); go_simp; try with_reducible rfl
        (try simp only [Act.put, List.setIfInBounds_toArray, List.set_cons_zero, List.set_cons_succ])
        refine wpAnyH_take (i := 17) (oi := _) (v := ?_) rfl (by kernel_rfl) (by kernel_rfl) (by kernel_rfl) (fun _ _ _ h => h) (Or.inl ⟨by rfl, ?_⟩) (by assumption) ?_
        rotate_left
        · intro w hSw; (try dsimp only at hSw); go_simp; try with_reducible rfl
        (try simp only [Act.put, List.setIfInBounds_toArray, List.set_cons_zero, List.set_cons_succ])
        refine wpAnyH_ready (rs := [4, 18]) (by kernel_rfl) (by simp) ?_
        refine AllReadyH.cons rfl (fun KK hKK => ?_) (AllReadyH.cons rfl (fun KK hKK => ?_) AllReadyH.nil)
        · go_simp
          go_wp2_with fail
          refine hKK.out _ _ (sK _ kI.drew) (fun hHeld => ?_)
          clear hKK KK
          (try dsimp only [Act.put]); (try simp only [Act.put, List.setIfInBounds_toArray, List.set_cons_zero, List.set_cons_succ])
          refine wpAnyH_ready (rs := [18]) (by kernel_rfl) (by simp) ?_
          refine AllReadyH.cons rfl (fun KK hKK => ?_) AllReadyH.nil
          go_simp
          go_wp2_with fail
          refine hKK.out _ _ (sK _ (kI.alloc _).drew) (fun hHeld => ?_)
          clear hKK KK
          (try dsimp only [Act.put]); (try simp only [Act.put, List.setIfInBounds_toArray, List.set_cons_zero, List.set_cons_succ])
          have hr5 : (W1.alloc (.cells #[.int .i64 x] 3)).drew.ownsRow n0 3 1 u m ((K.take m).map fun k => Value.int .i64 k.x) := (O4.out.alloc _).drew
          have hnew := cell_one_new W1 (.int .i64 x) 3
          replace hnew : ∀ (j : Nat) (u : Value), [Value.int .i64 x][j]? = some u → (W1.alloc (.cells #[.int .i64 x] 3)).drew.cell? ((⟨W1.heap.size, 0, none⟩ : Addr).add j) = some u := hnew
          have hB5 : n0 ≤ (W1.alloc (.cells #[.int .i64 x] 3)).drew.heap.size := by simp; omega
          have kX : Keep (fun b => u.ownBlock = some b) W1 (W1.alloc (.cells #[.int .i64 x] 3)).drew := ((Keep.refl _ _).alloc _).drew
          have sX : (W1.alloc (.cells #[.int .i64 x] 3)).drew.heap.size = W1.heap.size + 1 := by simp
          have hgr : ∀ w6 r, (W1.alloc (.cells #[.int .i64 x] 3)).drew.grownBy w6 r → (W1.alloc (.cells #[.int .i64 x] 3)).grownBy w6 r := fun w6 r h => ⟨h.1, h.2, h.3, h.4, h.5⟩
          clear hHeld
          generalize (W1.alloc (.cells #[.int .i64 x] 3)).drew = X5 at *
          refine wpAnyH_ready (rs := [19]) (by kernel_rfl) (by simp) ?_
          refine AllReadyH.cons rfl (fun K' hK' => ?_) AllReadyH.nil
          rw [if_pos (by kernel_rfl)]
          refine wp_append_own2 _ _ _ _ rfl n0 3 i0 (.int .i64 0) 1 8 Tryz.underlying48 hi hz0 hz1 hz2 rfl (by decide) _ _ _ rfl hr5 ⟨W1.heap.size, 0, none⟩ 1 1 [.int .i64 x] rfl rfl hnew (by simp [Value.oneCell']) (by unfold maxLen; omega) (by omega) hB5 (by omega) ?_
          intro g cap w6 hown' hgrow hg
          replace hgrow : X5.grownBy w6 u.ownBlock := hgrow
          replace hg : u.ownBlock = some g ∨ X5.heap.size ≤ g := hg
          have k6 : Keep (fun b => u.ownBlock = some b) W1 w6 := grown_keep (hgr _ _ hgrow)
          have D6 : Blk w6 H 79 #[.slice (some ⟨B, 0, none⟩) kl c, .int .i64 (m : Int), u] := O1.out.keep k6 (fun e => HU.out.2.2 _ e rfl)
          have z2 := D6.free 2
          have d2 := D6.cell 2 u rfl
          have D7 := D6.set 2 (.slice (some ⟨g, 0, none⟩) (m + 1) cap)
          have k7 := kk_set6 k6 H 2 (.slice (some ⟨g, 0, none⟩) (m + 1) cap)
          refine hK'.out _ _ (sK _ k6) (fun hHeld => ?_)
          clear hK' K'
          (try dsimp only [Act.put]); (try simp only [Act.put, List.setIfInBounds_toArray, List.set_cons_zero, List.set_cons_succ])
          refine wpAnyH_take (i := 20) (oi := _) (v := ?_) rfl (by kernel_rfl) (by kernel_rfl) (by kernel_rfl) (fun _ _ _ h => h) (Or.inl ⟨by rfl, ?_⟩) (by assumption) ?_
          rotate_left
          · intro w hSw; (try dsimp only at hSw); go_simp; try with_reducible rfl
          (try simp only [Act.put, List.setIfInBounds_toArray, List.set_cons_zero, List.set_cons_succ])
          refine wpAnyH_take (i := 21) (oi := _) (v := ?_) rfl (by kernel_rfl) (by kernel_rfl) (by kernel_rfl) (fun _ _ _ h => h) (Or.inl ⟨by rfl, ?_⟩) (by assumption) ?_
          rotate_left
          · intro w hSw; (try dsimp only at hSw); go_simp; try with_reducible rfl
          (try simp only [Act.put, List.setIfInBounds_toArray, List.set_cons_zero, List.set_cons_succ])
          clear hHeld
          refine wpAnyH_ready (rs := [22]) (by kernel_rfl) (by simp) ?_
          refine AllReadyH.cons rfl (fun K' hK' => ?_) AllReadyH.nil
          go_simp
          go_wp2_with fail
          refine hK'.out _ _ ⟨D7.cell 0 _ rfl, D7.cell 1 _ rfl, cell_keep q0 k7 (fun e => e.elim (fun e => HU.out.2.1 _ e rfl) (fun e => hBH e)), cell_keep q2 k7 (fun e => e.elim (fun e => HU.out.1 _ e rfl) (fun e => hTH e))⟩ (fun hHeld => ?_)
          clear hK' K' hHeld
          refine wpAnyH_done (by kernel_rfl) ?_ _
          simp only [List.setIfInBounds_toArray, List.set_cons_zero, List.set_cons_succ] at D7
          have row7 := row_ownkeep hown' (Q := fun b => b = H) ((Keep.refl (fun b => b = H) w6).set (p := ⟨H, 2, none⟩) (fun _ => rfl) (.slice (some ⟨g, 0, none⟩) (m + 1) cap)) (fun g' e e2 => by obtain rfl := own_some e; subst e2; rcases hg with hg | hg; exact HU.out.2.2 _ hg rfl; omega)
          clear sK kI c0 c1 c2 q0 q2 z2 d2 D6 hown' hgrow hr5 hnew hB5 k6 kX
          generalize w6.setCell ⟨H, 2, none⟩ (.slice (some ⟨g, 0, none⟩) (m + 1) cap) = W7 at *
          have d1 := D7.cell 1 _ rfl
          have z1 := D7.free 1
          have hm1 : (m : Int) + 1 ≤ 6 := by omega
          go_wp2
          go_roundw
          case rel =>
            have D8 := D7.set 1 (.int .i64 ((m : Int) + 1))
            simp only [List.setIfInBounds_toArray, List.set_cons_zero, List.set_cons_succ] at D8
            have k8 : Keep (fun b => u.ownBlock = some b ∨ b = H) W1 _ := (kk_set6 k7 H 1 (.int .i64 ((m : Int) + 1))).mono (fun _ _ h => h.elim id .inr)
            have row8 := row_ownkeep row7 (Q := fun b => b = H) ((Keep.refl (fun b => b = H) W7).set (p := ⟨H, 1, none⟩) (fun _ => rfl) (.int .i64 ((m : Int) + 1))) (fun g' e e2 => by obtain rfl := own_some e; subst e2; rcases hg with hg | hg; exact HU.out.2.2 _ hg rfl; omega)
            obtain ⟨gl, curg, hgB⟩ := row_lt row8 (g := g) rfl
            have htk : (K.take (m + 1)).map (fun k => Value.int .i64 k.x) = (K.take m).map (fun k => Value.int .i64 k.x) ++ [.int .i64 x] := by
              rw [List.take_add_one, HK.out]; simp
            have hkl : ((m + 1 : Nat) : Int) = (m : Int) + 1 := by omega
            have hml : m + 1 ≤ K.length := by rw [HKL.out]; omega
            refine ⟨m + 1, fun b => O' b ∨ b = g, by omega, (thrOf_done HK.out HR.out).symm.trans HE.out, ⟨⟨_, _, n0, B, by rw [hkl]; exact D8, ?_, fun hn => ⟨.inl (O3.out hn).1, ?_⟩, by rw [htk]; exact row8, by have := k8.size; omega, fun g' e => .inr (own_some e).symm⟩, .inl HT.out.mine, fun k hk => ?_, hml, HT.out.apart, fun b hb => ?_, HT.out.few⟩, fun b hb => ?_, hK2.step k8 (fun i hi e => ?_)⟩
            · exact O2.out.keep k8 (fun _ e => e.elim (fun e => HU.out.2.1 _ e rfl) (fun e => hBH e))
            · obtain ⟨cur, hc⟩ := (O3.out hn).2
              exact ⟨cur, hc.keep k8 (fun e => e.elim (fun e => HU.out.2.1 _ e rfl) (fun e => hBH e))⟩
            · obtain ⟨a1, a2, a3⟩ := HT.out.tk k hk
              obtain ⟨v1, b1, _⟩ := a1.own
              have nT : ¬ (u.ownBlock = some k.T ∨ k.T = H) := fun e => e.elim (fun e => by obtain ⟨_, cur, hc⟩ := row_lt O4.out e; exact hc.apart b1 (by decide) rfl) (fun e => b1.apart O1.out (by decide) e)
              have nI : k.l ≠ [] → ¬ (u.ownBlock = some k.I ∨ k.I = H) := fun hl => by
                obtain ⟨_, cur2, hc2⟩ := a3 hl
                exact fun e => e.elim (fun e => by obtain ⟨_, cur, hc⟩ := row_lt O4.out e; exact hc.apart hc2 (by decide) rfl) (fun e => hc2.apart O1.out (by decide) e)
              refine ⟨a1.keepE k8 nT nI, .inl a2, fun hl => ⟨.inl (a3 hl).1, ?_⟩⟩
              obtain ⟨_, cur2, hc2⟩ := a3 hl
              exact ⟨cur2, hc2.keep k8 (nI hl)⟩
            · rcases hb with hb | rfl
              · exact Nat.lt_of_lt_of_le (HT.out.lt b hb) k8.size
              · exact gl
            · rcases hb with hb | rfl
              · exact hO b hb
              · rcases hg with hg | hg
                · exact hO _ (O6.out _ hg)
                · exact .inr (by omega)
            · rcases e with e | rfl
              · rcases hO i (O6.out i e) with h | h
                · exact h
                · omega
              · exact H0.out.mine
          case measure =>
            have d8 := (D7.set 1 (.int .i64 ((m : Int) + 1))).cell 1 _ rfl
            rw [d8, C1.out]
            simp
            omega
        · go_simp
          go_wp2_with fail
          refine hKK.out _ _ (sK _ (kI.alloc _).drew) (fun hHeld => ?_)
          clear hKK KK
          (try dsimp only [Act.put]); (try simp only [Act.put, List.setIfInBounds_toArray, List.set_cons_zero, List.set_cons_succ])
          have c2' : (W1.alloc (.cells #[.int .i64 x] 3)).cell? ⟨H, 2, none⟩ = some u := (O1.out.alloc _).cell 2 _ rfl
          refine wpAnyH_ready (rs := [4]) (by kernel_rfl) (by simp) ?_
          refine AllReadyH.cons rfl (fun KK hKK => ?_) AllReadyH.nil
          go_simp
          go_wp2_with fail
          refine hKK.out _ _ (sK _ (kI.alloc _).drew) (fun hHeld => ?_)
          clear hKK KK c2'
          (try dsimp only [Act.put]); (try simp only [Act.put, List.setIfInBounds_toArray, List.set_cons_zero, List.set_cons_succ])
          have hr5 : (W1.alloc (.cells #[.int .i64 x] 3)).drew.ownsRow n0 3 1 u m ((K.take m).map fun k => Value.int .i64 k.x) := (O4.out.alloc _).drew
          have hnew := cell_one_new W1 (.int .i64 x) 3
          replace hnew : ∀ (j : Nat) (u : Value), [Value.int .i64 x][j]? = some u → (W1.alloc (.cells #[.int .i64 x] 3)).drew.cell? ((⟨W1.heap.size, 0, none⟩ : Addr).add j) = some u := hnew
          have hB5 : n0 ≤ (W1.alloc (.cells #[.int .i64 x] 3)).drew.heap.size := by simp; omega
          have kX : Keep (fun b => u.ownBlock = some b) W1 (W1.alloc (.cells #[.int .i64 x] 3)).drew := ((Keep.refl _ _).alloc _).drew
          have sX : (W1.alloc (.cells #[.int .i64 x] 3)).drew.heap.size = W1.heap.size + 1 := by simp
          have hgr : ∀ w6 r, (W1.alloc (.cells #[.int .i64 x] 3)).drew.grownBy w6 r → (W1.alloc (.cells #[.int .i64 x] 3)).grownBy w6 r := fun w6 r h => ⟨h.1, h.2, h.3, h.4, h.5⟩
          clear hHeld
          generalize (W1.alloc (.cells #[.int .i64 x] 3)).drew = X5 at *
          refine wpAnyH_ready (rs := [19]) (by kernel_rfl) (by simp) ?_
          refine AllReadyH.cons rfl (fun K' hK' => ?_) AllReadyH.nil
          rw [if_pos (by kernel_rfl)]
          refine wp_append_own2 _ _ _ _ rfl n0 3 i0 (.int .i64 0) 1 8 Tryz.underlying48 hi hz0 hz1 hz2 rfl (by decide) _ _ _ rfl hr5 ⟨W1.heap.size, 0, none⟩ 1 1 [.int .i64 x] rfl rfl hnew (by simp [Value.oneCell']) (by unfold maxLen; omega) (by omega) hB5 (by omega) ?_
          intro g cap w6 hown' hgrow hg
          replace hgrow : X5.grownBy w6 u.ownBlock := hgrow
          replace hg : u.ownBlock = some g ∨ X5.heap.size ≤ g := hg
          have k6 : Keep (fun b => u.ownBlock = some b) W1 w6 := grown_keep (hgr _ _ hgrow)
          have D6 : Blk w6 H 79 #[.slice (some ⟨B, 0, none⟩) kl c, .int .i64 (m : Int), u] := O1.out.keep k6 (fun e => HU.out.2.2 _ e rfl)
          have z2 := D6.free 2
          have d2 := D6.cell 2 u rfl
          have D7 := D6.set 2 (.slice (some ⟨g, 0, none⟩) (m + 1) cap)
          have k7 := kk_set6 k6 H 2 (.slice (some ⟨g, 0, none⟩) (m + 1) cap)
          refine hK'.out _ _ (sK _ k6) (fun hHeld => ?_)
          clear hK' K'
          (try dsimp only [Act.put]); (try simp only [Act.put, List.setIfInBounds_toArray, List.set_cons_zero, List.set_cons_succ])
          refine wpAnyH_take (i := 20) (oi := _) (v := ?_) rfl (by kernel_rfl) (by kernel_rfl) (by kernel_rfl) (fun _ _ _ h => h) (Or.inl ⟨by rfl, ?_⟩) (by assumption) ?_
          rotate_left
          · intro w hSw; (try dsimp only at hSw); go_simp; try with_reducible rfl
          (try simp only [Act.put, List.setIfInBounds_toArray, List.set_cons_zero, List.set_cons_succ])
          refine wpAnyH_take (i := 21) (oi := _) (v := ?_) rfl (by kernel_rfl) (by kernel_rfl) (by kernel_rfl) (fun _ _ _ h => h) (Or.inl ⟨by rfl, ?_⟩) (by assumption) ?_
          rotate_left
          · intro w hSw; (try dsimp only at hSw); go_simp; try with_reducible rfl
          (try simp only [Act.put, List.setIfInBounds_toArray, List.set_cons_zero, List.set_cons_succ])
          clear hHeld
          refine wpAnyH_ready (rs := [22]) (by kernel_rfl) (by simp) ?_
          refine AllReadyH.cons rfl (fun K' hK' => ?_) AllReadyH.nil
          go_simp
          go_wp2_with fail
          refine hK'.out _ _ ⟨D7.cell 0 _ rfl, D7.cell 1 _ rfl, cell_keep q0 k7 (fun e => e.elim (fun e => HU.out.2.1 _ e rfl) (fun e => hBH e)), cell_keep q2 k7 (fun e => e.elim (fun e => HU.out.1 _ e rfl) (fun e => hTH e))⟩ (fun hHeld => ?_)
          clear hK' K' hHeld
          refine wpAnyH_done (by kernel_rfl) ?_ _
          simp only [List.setIfInBounds_toArray, List.set_cons_zero, List.set_cons_succ] at D7
          have row7 := row_ownkeep hown' (Q := fun b => b = H) ((Keep.refl (fun b => b = H) w6).set (p := ⟨H, 2, none⟩) (fun _ => rfl) (.slice (some ⟨g, 0, none⟩) (m + 1) cap)) (fun g' e e2 => by obtain rfl := own_some e; subst e2; rcases hg with hg | hg; exact HU.out.2.2 _ hg rfl; omega)
          clear sK kI c0 c1 c2 q0 q2 z2 d2 D6 hown' hgrow hr5 hnew hB5 k6 kX
          generalize w6.setCell ⟨H, 2, none⟩ (.slice (some ⟨g, 0, none⟩) (m + 1) cap) = W7 at *
          have d1 := D7.cell 1 _ rfl
          have z1 := D7.free 1
          have hm1 : (m : Int) + 1 ≤ 6 := by omega
          go_wp2
          go_roundw
          case rel =>
            have D8 := D7.set 1 (.int .i64 ((m : Int) + 1))
            simp only [List.setIfInBounds_toArray, List.set_cons_zero, List.set_cons_succ] at D8
            have k8 : Keep (fun b => u.ownBlock = some b ∨ b = H) W1 _ := (kk_set6 k7 H 1 (.int .i64 ((m : Int) + 1))).mono (fun _ _ h => h.elim id .inr)
            have row8 := row_ownkeep row7 (Q := fun b => b = H) ((Keep.refl (fun b => b = H) W7).set (p := ⟨H, 1, none⟩) (fun _ => rfl) (.int .i64 ((m : Int) + 1))) (fun g' e e2 => by obtain rfl := own_some e; subst e2; rcases hg with hg | hg; exact HU.out.2.2 _ hg rfl; omega)
            obtain ⟨gl, curg, hgB⟩ := row_lt row8 (g := g) rfl
            have htk : (K.take (m + 1)).map (fun k => Value.int .i64 k.x) = (K.take m).map (fun k => Value.int .i64 k.x) ++ [.int .i64 x] := by
              rw [List.take_add_one, HK.out]; simp
            have hkl : ((m + 1 : Nat) : Int) = (m : Int) + 1 := by omega
            have hml : m + 1 ≤ K.length := by rw [HKL.out]; omega
            refine ⟨m + 1, fun b => O' b ∨ b = g, by omega, (thrOf_done HK.out HR.out).symm.trans HE.out, ⟨⟨_, _, n0, B, by rw [hkl]; exact D8, ?_, fun hn => ⟨.inl (O3.out hn).1, ?_⟩, by rw [htk]; exact row8, by have := k8.size; omega, fun g' e => .inr (own_some e).symm⟩, .inl HT.out.mine, fun k hk => ?_, hml, HT.out.apart, fun b hb => ?_, HT.out.few⟩, fun b hb => ?_, hK2.step k8 (fun i hi e => ?_)⟩
            · exact O2.out.keep k8 (fun _ e => e.elim (fun e => HU.out.2.1 _ e rfl) (fun e => hBH e))
            · obtain ⟨cur, hc⟩ := (O3.out hn).2
              exact ⟨cur, hc.keep k8 (fun e => e.elim (fun e => HU.out.2.1 _ e rfl) (fun e => hBH e))⟩
            · obtain ⟨a1, a2, a3⟩ := HT.out.tk k hk
              obtain ⟨v1, b1, _⟩ := a1.own
              have nT : ¬ (u.ownBlock = some k.T ∨ k.T = H) := fun e => e.elim (fun e => by obtain ⟨_, cur, hc⟩ := row_lt O4.out e; exact hc.apart b1 (by decide) rfl) (fun e => b1.apart O1.out (by decide) e)
              have nI : k.l ≠ [] → ¬ (u.ownBlock = some k.I ∨ k.I = H) := fun hl => by
                obtain ⟨_, cur2, hc2⟩ := a3 hl
                exact fun e => e.elim (fun e => by obtain ⟨_, cur, hc⟩ := row_lt O4.out e; exact hc.apart hc2 (by decide) rfl) (fun e => hc2.apart O1.out (by decide) e)
              refine ⟨a1.keepE k8 nT nI, .inl a2, fun hl => ⟨.inl (a3 hl).1, ?_⟩⟩
              obtain ⟨_, cur2, hc2⟩ := a3 hl
              exact ⟨cur2, hc2.keep k8 (nI hl)⟩
            · rcases hb with hb | rfl
              · exact Nat.lt_of_lt_of_le (HT.out.lt b hb) k8.size
              · exact gl
            · rcases hb with hb | rfl
              · exact hO b hb
              · rcases hg with hg | hg
                · exact hO _ (O6.out _ hg)
                · exact .inr (by omega)
            · rcases e with e | rfl
              · rcases hO i (O6.out i e) with h | h
                · exact h
                · omega
              · exact H0.out.mine
          case measure =>
            have d8 := (D7.set 1 (.int .i64 ((m : Int) + 1))).cell 1 _ rfl
            rw [d8, C1.out]
            simp
            omega
      · have hre : k.r.isEmpty = false := by cases hkr : k.r with
          | nil => exact absurd hkr hr
          | cons _ _ => rfl
        rw [hre] at HD
        have HR := Lib.hid hr
        clear o1 o2 o3 o4 o5 o6 hT hE hk hs t1 t2 t3 hr hre
        generalize hkl : K.length = kl at *
        generalize hkT : k.T = T at *
        clear hkl hkT
        go_upto_region 0 with fail
        go_quiet (first | (go_at_call 73; exact Calls.quiet_of (HD.out _)))
        go_wp2
        go_end0
        refine ⟨rfl, ⟨O', m, HT.out.keep (F := fun _ => False) ((Keep.refl _ _).drewN _) (fun _ _ h => h), ?_, hO⟩, hK.drewN _⟩
        rw [← HE.out]
        exact (thrOf_live HK.out HR.out).symm
end Go.Proofs.YtpopcallphbklaaGreat
/- The document's own machine (doorkeeperref08): what it is in memory; Add. -/
namespace Go.Proofs.YtpopcallphbklaaGreat
open Go.ChangeShapes Go.WideShapes Go.ChangeAt Go.RowKit
set_option linter.unusedVariables false
set_option maxRecDepth 100000
set_option linter.unusedSimpArgs false
/-- a thread of the document's machine -/
structure RTh where
  H : Nat
  O : Nat → Prop
  K : List RTk
  n : Nat
def RTh.x (k : RTh) : Thr := thrOf k.K k.n
/-- the document's machine at block R, of the blocks of which V is said -/
structure RMach (w : World) (R : Nat) (V : Nat → Prop) (L : List RTh) : Prop where
  own : ∃ v n0, Blk w R 41 #[v] ∧ w.ownsRow n0 80 1 v L.length (L.map fun k => ptrV k.H) ∧ n0 ≤ w.heap.size ∧ ∀ g, v.ownBlock = some g → V g ∧ ∀ k ∈ L, ¬ k.O g
  mine : V R ∧ ∀ k ∈ L, ¬ k.O R
  thr : ∀ k ∈ L, RThr w k.H k.O k.K k.n ∧ ThrOk k.x ∧ ∀ b, k.O b → V b
  apart : L.Pairwise (fun k j => ∀ b, k.O b → ¬ j.O b)
  lt : ∀ b, V b → b < w.heap.size
  few : L.length ≤ 6
theorem RMach.keep {w w1 : World} {R : Nat} {V F : Nat → Prop} {L : List RTh} (h : RMach w R V L) (hk : Keep F w w1) (hF : ∀ b, V b → ¬ F b) : RMach w1 R V L := by
  obtain ⟨v, n0, h1, h2, h3, h4⟩ := h.own
  refine ⟨⟨v, n0, h1.keep hk (hF R h.mine.1), row_ownkeep h2 hk (fun g hg => hF g (h4 g hg).1), Nat.le_trans h3 hk.size, h4⟩, h.mine, fun k hk' => ?_, h.apart, fun b hb => Nat.lt_of_lt_of_le (h.lt b hb) hk.size, h.few⟩
  obtain ⟨a, b, c⟩ := h.thr k hk'
  exact ⟨a.keep hk (fun x hx => hF x (c x hx)), b, c⟩
/-- tasks of the document's, handed over -/
structure RGives (w : World) (O0 : Nat → Prop) (v : Value) (K : List RTk) : Prop where
  row : ∃ B, RRow w B v K ∧ (K ≠ [] → O0 B ∧ ∃ cur, Blk w B 71 cur)
  tk : ∀ k ∈ K, RTask w k.T k.I k.l k.r k.x ∧ O0 k.T ∧ (k.l ≠ [] → O0 k.I ∧ ∃ cur, Blk w k.I 69 cur)
  apart : K.Pairwise (fun k j => k.T ≠ j.T)
  lt : ∀ b, O0 b → b < w.heap.size
  few : K.length ≤ 5
theorem endOf_ok (K : List RTk) (n : Nat) : ThrOk (endOf K n) := goS_ok _ _
theorem prthread_info : (Tryz.prog.info? 80).map (fun i => (i.zero, i.size, i.bytes)) = some (some (.pointer none), 1, 8) := by kernel_rfl
set_option maxHeartbeats 2000000 in
theorem radd_any (R : Nat) (V O0 : Nat → Prop) (L : List RTh) (K : List RTk) (v : Value) (w : World) (h : RMach w R V L) (hG : RGives w O0 v K) (hO : ∀ b, O0 b → ¬ V b) (hf : L.length + 1 ≤ 6) :
    Calls Tryz.prog 28 #[ptrV R, v] w fun e w' => e = .returned (.tuple #[]) ∧ (∃ k V', RMach w' R V' (L ++ [k]) ∧ k.x = endOf K 0 ∧ ∀ b, V' b → V b ∨ O0 b ∨ w.heap.size ≤ b) ∧ Keep (fun b => V b ∨ O0 b) w w' := by
  obtain ⟨ua, n0, h1, h2, h3, h4⟩ := h.own
  obtain ⟨p0, hp0, hp1, hp2, hp3⟩ := info_parts prthread_info
  obtain ⟨B, r1, r2⟩ := hG.row
  obtain ⟨ra, rc, rfl, r3⟩ := r1.is
  have ka : Keep (fun _ => False) w (w.alloc (.cells #[.slice ra K.length rc, .int .i64 0, .slice none 0 0] 79)) := (Keep.refl _ _).alloc _
  have hX : Blk (w.alloc (.cells #[.slice ra K.length rc, .int .i64 0, .slice none 0 0] 79)) w.heap.size 79 #[.slice ra K.length rc, .int .i64 0, .slice none 0 0] := Blk.new _ _ _
  have hT : RThr (w.alloc (.cells #[.slice ra K.length rc, .int .i64 0, .slice none 0 0] 79)) w.heap.size (fun b => O0 b ∨ b = w.heap.size) K 0 := by
    refine ⟨⟨_, _, 0, B, hX, r1.keep ka (fun _ h => h), fun hK => ⟨.inl (r2 hK).1, ?_⟩, World.ownsRow_nil _ _ _ _, by omega, fun g e => by simp [Value.ownBlock] at e⟩, .inr rfl, fun k hk => ?_, by omega, hG.apart, fun b hb => ?_, hG.few⟩
    · obtain ⟨cur, hc⟩ := (r2 hK).2
      exact ⟨cur, hc.keep ka (fun h => h)⟩
    · obtain ⟨a1, a2, a3⟩ := hG.tk k hk
      exact ⟨a1.keep ka (fun h => h) (fun h => h), .inl a2, fun hl => ⟨.inl (a3 hl).1, (a3 hl).2.choose, (a3 hl).2.choose_spec.keep ka (fun h => h)⟩⟩
    · rw [World.size_alloc]
      rcases hb with hb | rfl
      · have := hG.lt b hb; omega
      · omega
  have HO := Lib.hid (on8_any w.heap.size _ K 0 _ hT)
  have HM := Lib.hid h
  have HV := Lib.hid hO
  have HGl := Lib.hid hG.lt
  have H4 := Lib.hid h4
  have H1 := Lib.hid h1
  have H2 := Lib.hid h2
  have hlt := h.lt
  have HL := Lib.hid hlt
  clear h hG hO h1 h2 h4 r1 r2 r3 hX hT hlt ka
  obtain ⟨kl, hkl⟩ : ∃ kl, kl = K.length := ⟨_, rfl⟩
  rw [← hkl] at HO ⊢
  clear hkl
  go_enter Tryz.func28, Tryz.ntmps28
  go_upto_region 2 with (go_at_call 39; refine HO.out.mono ?_; rintro e w1 ⟨rfl, hO1, k1⟩)
  obtain ⟨O', n', hT', hE, hO'⟩ := hO1
  have ka : Keep (fun _ => False) w (w.alloc (.cells #[.slice ra kl rc, .int .i64 0, .slice none 0 0] 79)) := (Keep.refl _ _).alloc _
  have kA : Keep O0 w w1 := (ka.mono (fun _ _ h => h.elim)).step k1 (fun i hi e => e.elim id (fun e => by omega))
  have hs1 := kA.size
  have hs1' := k1.size
  rw [World.size_alloc] at hO' hs1'
  have HT := Lib.hid hT'
  have HE := Lib.hid hE
  have HO' := Lib.hid hO'
  have nV : ∀ b, V b → ¬ O0 b := fun b hv ho => HV.out b ho hv
  have m1 := H1.out.keep kA (nV R HM.out.mine.1)
  have o1 := row_ownkeep H2.out kA (fun g hg => nV g (H4.out g hg).1)
  have hM1 := HM.out.keep kA nV
  have c0 : w1.cell? ⟨R, 0, none⟩ = some ua := m1.cell 0 _ rfl
  have HM1 := Lib.hid m1
  have h3' : n0 ≤ w1.heap.size := by omega
  clear HO k1 ka hT' hE hO' m1
  go_wp2_with (at_builtin; refine wpList_append_own2 _ rfl _ _ 39 rfl n0 80 p0 (.pointer none) 1 8 Tryz.underlying39 hp0 hp1 hp2 hp3 rfl (by decide) _ _ _ rfl (o1.alloc _) ⟨w1.heap.size, 0, none⟩ 1 1 [ptrV w.heap.size] rfl rfl (cell_one_new _ _ _) (by simp [Value.oneCell']) (by unfold maxLen; omega) (by omega) (by simp; omega) (by omega) ?_; intro g2 cap2 w2 hr2 hgr2 hg2; replace hgr2 : (w1.alloc _).grownBy w2 ua.ownBlock := hgr2; have m2 := HM1.out.keep (grown_keep hgr2) (fun e => by have := (row_lt o1 e).2; obtain ⟨_, hb⟩ := this; exact HM1.out.apart hb (by decide) rfl); have d0 := m2.cell 0 _ rfl; have z0 := m2.free 0)
  go_end0
  have kB : Keep (fun b => ua.ownBlock = some b ∨ b = R) w1 (w2.setCell ⟨R, 0, none⟩ (.slice (some ⟨g2, 0, none⟩) (L.length + 1) cap2)) := kk_set6 (grown_keep hgr2) R 0 _
  obtain ⟨g2l, g2c, g2k⟩ := row_lt hr2 (g := g2) rfl
  have g2R : g2 ≠ R := g2k.apart m2 (by decide)
  have m3 : Blk (w2.setCell ⟨R, 0, none⟩ (.slice (some ⟨g2, 0, none⟩) (L.length + 1) cap2)) R 41 #[.slice (some ⟨g2, 0, none⟩) (L.length + 1) cap2] := m2.set 0 _
  have hr3 := row_ownkeep hr2 (keep_one w2 R 0 (.slice (some ⟨g2, 0, none⟩) (L.length + 1) cap2)) (fun g' e => by rw [← own_some e]; exact g2R)
  have g2l3 : g2 < (w2.setCell ⟨R, 0, none⟩ (.slice (some ⟨g2, 0, none⟩) (L.length + 1) cap2)).heap.size := by rw [World.size_setCell]; exact g2l
  replace hg2 : ua.ownBlock = some g2 ∨ w1.heap.size + 1 ≤ g2 := hg2.imp id (fun h => by rw [World.size_alloc] at h; exact h)
  clear d0 z0 m2 hr2 g2k g2l
  generalize w2.setCell ⟨R, 0, none⟩ (.slice (some ⟨g2, 0, none⟩) (L.length + 1) cap2) = W3 at *
  have hs3 := kB.size
  have vB : ∀ b, (ua.ownBlock = some b ∨ b = R) → V b := fun b e => e.elim (fun e => (H4.out b e).1) (fun e => e ▸ HM.out.mine.1)
  have oV : ∀ b, O' b → ¬ V b := fun b hb hv => by
    rcases HO'.out b hb with (h | h) | h
    · exact nV b hv h
    · have := HL.out b hv; omega
    · have := HL.out b hv; omega
  have hT3 := HT.out.keep kB (fun b hb e => oV b hb (vB b e))
  have gO : ¬ O' g2 := fun hb => by
    rcases hg2 with e | e
    · exact oV g2 hb (H4.out g2 e).1
    · have := HT.out.lt g2 hb; omega
  have mem : ∀ k, k ∈ L ++ [(⟨w.heap.size, O', K, n'⟩ : RTh)] → k ∈ L ∨ k = ⟨w.heap.size, O', K, n'⟩ := fun k hk => by simpa using hk
  refine ⟨rfl, ⟨⟨w.heap.size, O', K, n'⟩, fun b => (V b ∨ O' b) ∨ b = g2, ⟨⟨_, n0, m3, by simpa using hr3, by omega, fun g e => ⟨.inr (own_some e).symm, fun k hk => ?_⟩⟩, ⟨.inl (.inl HM.out.mine.1), fun k hk => ?_⟩, fun k hk => ?_, ?_, fun b hb => ?_, by simpa using hf⟩, HE.out, fun b hb => ?_⟩, (kA.mono (fun _ _ h => .inr h)).step kB (fun i _ e => .inl (vB i e))⟩
  · obtain rfl := own_some e
    rcases mem k hk with hk | rfl
    · intro hkg
      rcases hg2 with e | e
      · exact (H4.out _ e).2 k hk hkg
      · have := HL.out _ ((HM.out.thr k hk).2.2 _ hkg); omega
    · exact gO
  · rcases mem k hk with hk | rfl
    · exact HM.out.mine.2 k hk
    · exact fun h => oV R h HM.out.mine.1
  · rcases mem k hk with hk | rfl
    · obtain ⟨a, b, c⟩ := hM1.thr k hk
      exact ⟨a.keep kB (fun x hx e => e.elim (fun e => (H4.out x e).2 k hk hx) (fun e => HM.out.mine.2 k hk (e ▸ hx))), b, fun x hx => .inl (.inl (c x hx))⟩
    · exact ⟨hT3, by show ThrOk (thrOf K n'); rw [HE.out]; exact endOf_ok _ _, fun x hx => .inl (.inr hx)⟩
  · rw [List.pairwise_append]
    refine ⟨hM1.apart, List.pairwise_singleton _ _, fun a ha b hb z hz hz2 => ?_⟩
    obtain rfl := List.mem_singleton.1 hb
    exact oV z hz2 ((HM.out.thr a ha).2.2 z hz)
  · rcases hb with (hb | hb) | rfl
    · have := HL.out b hb; omega
    · exact hT3.lt b hb
    · exact g2l3
  · rcases hb with (hb | hb) | rfl
    · exact .inl hb
    · rcases HO'.out b hb with (h | h) | h
      · exact .inr (.inl h)
      · exact .inr (.inr (by omega))
      · exact .inr (.inr (by omega))
    · rcases hg2 with e | e
      · exact .inl (H4.out _ e).1
      · exact .inr (.inr (by omega))
/-- a thread of it has gone on -/
theorem RMach.turn {w w1 : World} {R i : Nat} {V F O' : Nat → Prop} {L : List RTh} {k : RTh} {K' : List RTk} {n' : Nat} (h : RMach w R V L) (hi : L[i]? = some k) (hk : Keep (fun b => k.O b ∨ F b) w w1) (hF : ∀ b, V b → ¬ F b) (hT : RThr w1 k.H O' K' n') (hO : ∀ b, O' b → k.O b ∨ w.heap.size ≤ b) (hok : ThrOk (thrOf K' n')) :
    ∃ V', RMach w1 R V' (L.set i ⟨k.H, O', K', n'⟩) ∧ ∀ b, V' b → V b ∨ w.heap.size ≤ b := by
  have hlt := (List.getElem?_eq_some_iff.1 hi).1
  have hke : L[i] = k := (List.getElem?_eq_some_iff.1 hi).2
  have hkm : k ∈ L := List.mem_of_getElem? hi
  obtain ⟨u, n0, h1, h2, h3, h4⟩ := h.own
  have hs := hk.size
  have oth : ∀ j : Nat, ∀ y, L[j]? = some y → j ≠ i → ∀ b, y.O b → ¬ k.O b := fun j y hj hji b hb hbk => by
    have hjl := (List.getElem?_eq_some_iff.1 hj).1
    have hje : L[j] = y := (List.getElem?_eq_some_iff.1 hj).2
    rcases Nat.lt_or_gt_of_ne hji with hc | hc
    · exact (hje ▸ hke ▸ List.pairwise_iff_getElem.1 h.apart j i hjl hlt hc) b hb hbk
    · exact (hje ▸ hke ▸ List.pairwise_iff_getElem.1 h.apart i j hlt hjl hc) b hbk hb
  have oV : ∀ b, V b → O' b → k.O b := fun b hv hb => (hO b hb).elim id (fun e => by have := h.lt b hv; omega)
  have each : ∀ j y, (L.set i ⟨k.H, O', K', n'⟩)[j]? = some y → (j = i ∧ y = ⟨k.H, O', K', n'⟩) ∨ (j ≠ i ∧ L[j]? = some y) := fun j y hj => by
    by_cases e : j = i
    · subst e
      rw [List.getElem?_set_self hlt] at hj
      exact .inl ⟨rfl, (Option.some.inj hj).symm⟩
    · rw [List.getElem?_set_ne (Ne.symm e)] at hj
      exact .inr ⟨e, hj⟩
  refine ⟨fun b => V b ∨ O' b, ⟨⟨u, n0, h1.keep hk (fun e => e.elim (h.mine.2 k hkm) (hF R h.mine.1)), ?_, by omega, fun g hg => ⟨.inl (h4 g hg).1, fun y hy => ?_⟩⟩, ⟨.inl h.mine.1, fun y hy => ?_⟩, fun y hy => ?_, ?_, fun b hb => ?_, by simpa using h.few⟩, fun b hb => hb.elim .inl (fun hb => (hO b hb).imp (fun e => (h.thr k hkm).2.2 b e) id)⟩
  · have e : (L.set i ⟨k.H, O', K', n'⟩).map (fun k => ptrV k.H) = L.map (fun k => ptrV k.H) := by
      apply List.ext_getElem?
      intro j
      rw [List.getElem?_map, List.getElem?_map]
      by_cases ej : i = j
      · subst ej; rw [List.getElem?_set_self hlt, hi]; simp
      · rw [List.getElem?_set_ne ej]
    rw [List.length_set, e]
    exact row_ownkeep h2 hk (fun g hg h' => h'.elim ((h4 g hg).2 k hkm) (hF g (h4 g hg).1))
  · obtain ⟨j, hj⟩ := List.mem_iff_getElem?.1 hy
    rcases each j y hj with ⟨_, rfl⟩ | ⟨_, hj⟩
    · exact fun hb => (h4 g hg).2 k hkm (oV g (h4 g hg).1 hb)
    · exact (h4 g hg).2 y (List.mem_of_getElem? hj)
  · obtain ⟨j, hj⟩ := List.mem_iff_getElem?.1 hy
    rcases each j y hj with ⟨_, rfl⟩ | ⟨_, hj⟩
    · exact fun hb => h.mine.2 k hkm (oV R h.mine.1 hb)
    · exact h.mine.2 y (List.mem_of_getElem? hj)
  · obtain ⟨j, hj⟩ := List.mem_iff_getElem?.1 hy
    rcases each j y hj with ⟨_, rfl⟩ | ⟨hji, hj⟩
    · exact ⟨hT, hok, fun x hx => .inr hx⟩
    · obtain ⟨a, b, c⟩ := h.thr y (List.mem_of_getElem? hj)
      exact ⟨a.keep hk (fun x hx e => e.elim (oth j y hj hji x hx) (hF x (c x hx))), b, fun x hx => .inl (c x hx)⟩
  · rw [List.pairwise_iff_getElem]
    intro a b ha hb hab x hx hx2
    have ea := each a _ (List.getElem?_eq_getElem ha)
    have eb := each b _ (List.getElem?_eq_getElem hb)
    rcases ea with ⟨ea, e1⟩ | ⟨ea, e1⟩ <;> rcases eb with ⟨eb, e2⟩ | ⟨eb, e2⟩
    · omega
    · rw [e1] at hx
      have hv := (h.thr _ (List.mem_of_getElem? e2)).2.2 x hx2
      exact oth b _ e2 eb x hx2 (oV x hv hx)
    · rw [e2] at hx2
      have hv := (h.thr _ (List.mem_of_getElem? e1)).2.2 x hx
      exact oth a _ e1 ea x hx (oV x hv hx2)
    · have ha' := (List.getElem?_eq_some_iff.1 e1)
      have hb' := (List.getElem?_eq_some_iff.1 e2)
      exact List.pairwise_iff_getElem.1 h.apart a b ha'.1 hb'.1 hab x (ha'.2 ▸ hx) (hb'.2 ▸ hx2)
  · rcases hb with hb | hb
    · have := h.lt b hb; omega
    · exact hT.lt b hb
end Go.Proofs.YtpopcallphbklaaGreat
