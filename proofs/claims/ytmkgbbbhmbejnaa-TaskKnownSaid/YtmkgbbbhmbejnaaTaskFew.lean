/- Layer 6's law: few. -/
import Derived.Test.YtmkgbbbhmbejnaaTaskRefD
import Derived.Laws.OwnMore
import Derived.OwnWalk
namespace Go.Proofs.Ytmkgbbbhmbejnaa
open Go.ChangeShapes Go.WideShapes Go.ChangeAt Go.RowKit
set_option linter.unusedVariables false
set_option maxRecDepth 100000
set_option linter.unusedSimpArgs false
/-- a slice of items that came in -/
def RawAt (w : World) (n0 : Nat) (a : Option Addr) (len : Nat) : Prop :=
  ∀ i, i < len → ∃ b off, a = some ⟨b, off, none⟩ ∧ b < n0 ∧ ∃ K A X Y : Int, (-9223372036854775808 ≤ K ∧ K ≤ 9223372036854775807) ∧ (-9223372036854775808 ≤ A ∧ A ≤ 9223372036854775807) ∧ (0 ≤ X ∧ X ≤ 18446744073709551615) ∧ (0 ≤ Y ∧ Y ≤ 18446744073709551615) ∧
    w.cell? ⟨b, off + i * 4, none⟩ = some (.int .i64 K) ∧ w.cell? ⟨b, off + i * 4 + 1, none⟩ = some (.int .i64 A) ∧ w.cell? ⟨b, off + i * 4 + 2, none⟩ = some (.int .u64 X) ∧ w.cell? ⟨b, off + i * 4 + 3, none⟩ = some (.int .u64 Y)
/-- items, as cells -/
def itmCells (l : List Itm) : List Value := l.flatMap fun x => [.int .i64 x.kind, .int .i64 x.at', .int .u64 x.a, .int .u64 x.b]
theorem itmCells_len (l : List Itm) : (itmCells l).length = l.length * 4 := by
  induction l with
  | nil => rfl
  | cons x l ih => simp only [itmCells, List.flatMap_cons, List.length_append, List.length_cons, List.length_nil] at ih ⊢; omega
theorem itmCells_at : ∀ (l : List Itm) (i : Nat) (x : Itm), l[i]? = some x → (itmCells l)[i * 4]? = some (.int .i64 x.kind) ∧ (itmCells l)[i * 4 + 1]? = some (.int .i64 x.at') ∧ (itmCells l)[i * 4 + 2]? = some (.int .u64 x.a) ∧ (itmCells l)[i * 4 + 3]? = some (.int .u64 x.b)
  | [], i, x, h => by simp at h
  | y :: l, 0, x, h => by
    obtain rfl : y = x := by simpa using h
    simp [itmCells]
  | y :: l, i + 1, x, h => by
    have := itmCells_at l i x (by simpa using h)
    have e : itmCells (y :: l) = [.int .i64 y.kind, .int .i64 y.at', .int .u64 y.a, .int .u64 y.b] ++ itmCells l := rfl
    rw [e]
    refine ⟨?_, ?_, ?_, ?_⟩
    · rw [List.getElem?_append_right (by simp; omega)]; rw [← this.1]; congr 1; simp; omega
    · rw [List.getElem?_append_right (by simp; omega)]; rw [← this.2.1]; congr 1; simp; omega
    · rw [List.getElem?_append_right (by simp; omega)]; rw [← this.2.2.1]; congr 1; simp; omega
    · rw [List.getElem?_append_right (by simp; omega)]; rw [← this.2.2.2]; congr 1; simp; omega
theorem itmCells_snoc (l : List Itm) (x : Itm) : itmCells (l ++ [x]) = itmCells l ++ [.int .i64 x.kind, .int .i64 x.at', .int .u64 x.a, .int .u64 x.b] := by
  simp [itmCells]
theorem itemsAt_of_row {w : World} {B : Nat} {v : Value} {l : List Itm} (h : w.ownsRow B 72 4 v l.length (itmCells l)) (hok : ∀ x ∈ l, x.ok) (hf : l.length ≤ 30) (hB : B ≤ w.heap.size) (h0 : 0 < B) : ∃ I, ItemsAt w I v l ∧ I < w.heap.size ∧ (0 < l.length → B ≤ I) := by
  rcases h.2 with ⟨hv, h0'⟩ | ⟨g, cap, cur, hv, hg, hh, hnc, _, hs, ht⟩
  · have : l = [] := List.length_eq_zero_iff.1 h0'
    subst this
    exact ⟨0, ⟨⟨none, 0, hv, fun h => absurd h (by simp)⟩, fun i x hx => by simp at hx, by simp, by simp⟩, by omega, by simp⟩
  · refine ⟨g, ⟨⟨_, cap, hv, fun _ => rfl⟩, fun i x hx => ?_, hok, hf⟩, (Array.getElem?_eq_some_iff.1 hh).1, fun _ => hg⟩
    have hi := (List.getElem?_eq_some_iff.1 hx).1
    obtain ⟨c0, c1, c2, c3⟩ := itmCells_at l i x hx
    have key : ∀ j u, (itmCells l)[j]? = some u → w.cell? ⟨g, j, none⟩ = some u := fun j u hj => by
      unfold World.cell?
      rw [hh]
      rw [← ht] at hj
      have hj2 := (List.getElem?_eq_some_iff.1 hj).1
      rw [List.getElem?_take_of_lt (by simp at hj2; omega)] at hj
      simpa using hj
    exact ⟨key _ _ c0, key _ _ c1, key _ _ c2, key _ _ c3⟩
theorem ownsRow_keep {w w' : World} {B size n : Nat} {e : TypeId} {v : Value} {xs : List Value} (h : w.ownsRow B e size v n xs) (hk : Keep (fun _ => False) w w') : w'.ownsRow B e size v n xs := by
  refine ⟨h.1, ?_⟩
  rcases h.2 with h | ⟨g, cap, cur, hv, hg, hh, r⟩
  · exact .inl h
  · exact .inr ⟨g, cap, cur, hv, hg, (hk.block g (Array.getElem?_eq_some_iff.1 hh).1 (fun h => h)).trans hh, r⟩
theorem cells4_new (w : World) (e : TypeId) (c0 c1 c2 c3 : Value) : ∀ (j : Nat) (u : Value), [c0, c1, c2, c3][j]? = some u → (w.alloc (.cells #[c0, c1, c2, c3] e)).cell? ((⟨w.heap.size, 0, none⟩ : Addr).add j) = some u := by
  intro j u hj
  have hb := Blk.new w e #[c0, c1, c2, c3]
  have := hb.cell j u (by simpa using hj)
  unfold Addr.add
  split
  · subst_vars; exact this
  · simpa using this
/-- what an append to a slice of the call's own leaves as it was -/
theorem grown_below {w w2 : World} {base : Nat} {e : TypeId} {n k : Nat} {v : Value} {xs : List Value} {o : Obj} (hg : (w.alloc o).grownBy w2 v.ownBlock) (hrow : w.ownsRow base e n v k xs) (hh : base ≤ w.heap.size) : Below base w w2 := by
  refine ((Below.refl base w).alloc hh o).grown hg (by simp; omega) fun j ej => ?_
  rcases hrow.2 with ⟨rfl, _⟩ | ⟨g, cap, cur, rfl, hb, _⟩
  · simp [Value.ownBlock] at ej
  · simp [Value.ownBlock] at ej
    omega
theorem tmod7 {A : Int} (h : A.tmod 8 = 7) : 0 ≤ A := by
  rcases Int.le_total 0 A with h0 | h0
  · exact h0
  · have h1 := Int.tmod_nonneg (a := -A) 8 (by omega)
    rw [Int.neg_tmod] at h1
    omega
theorem item_info : (Try.prog.info? 72).map (fun i => (i.zero, i.size, i.bytes)) = some (some (.agg #[.int .i64 0, .int .i64 0, .int .u64 0, .int .u64 0]), 4, 32) := by kernel_rfl
theorem rem_small (K : Int) (m : Nat) (h0 : 0 < m) (hm : m ≤ 1000) : ∃ k : Nat, wrap64 ((IntKind.u64.wrap K).tmod (m : Int)) = k ∧ k < m := by
  have h1 : 0 ≤ IntKind.u64.wrap K := by rw [IntKind.wrap_u64]; omega
  have h2 : (IntKind.u64.wrap K).tmod (m : Int) = IntKind.u64.wrap K % (m : Int) := Int.tmod_eq_emod_of_nonneg h1
  have h3 : 0 ≤ IntKind.u64.wrap K % (m : Int) := Int.emod_nonneg _ (by omega)
  have h4 : IntKind.u64.wrap K % (m : Int) < m := Int.emod_lt_of_pos _ (by omega)
  obtain ⟨k, hk⟩ := Int.eq_ofNat_of_zero_le h3
  refine ⟨k, ?_, by omega⟩
  rw [h2, hk]
  exact IntWalk.wrap64_in _ ⟨by omega, by omega⟩
set_option maxHeartbeats 4000000 in
theorem few_any (a : Option Addr) (len cap : Nat) (hlen : len ≤ 9223372036854775807) (w : World) (hA : RawAt w w.heap.size a len) (h0 : 0 < w.heap.size) :
    Calls Try.prog 21 #[.slice a len cap] w fun e w' => ∃ v, e = .returned v ∧ (∃ I l, ItemsAt w' I v l ∧ I < w'.heap.size ∧ (0 < l.length → w.heap.size ≤ I)) ∧ Below w.heap.size w w' := by
  have HA := Lib.hid hA
  clear hA
  obtain ⟨i0, hi, hz0, hz1, hz2⟩ := info_parts item_info
  go_enter Try.func21, Try.ntmps21
  go_wp2
  go_loopw [3, 4] (fun v i wr => ∃ l : List Itm, l.length ≤ 30 ∧ l.length ≤ len ∧ (∀ x ∈ l, x.ok) ∧ i = .int .i64 l.length ∧ wr.ownsRow w.heap.size 72 4 v l.length (itmCells l) ∧ Below w.heap.size w wr) (fun _ i wr => 30 - (intOf i).toNat)
  case atStart => exact ⟨[], by simp, by simp, by simp, rfl, World.ownsRow_nil _ _ _ _, Below.refl _ _⟩
  case round =>
    obtain ⟨l, hl, hl2, hok, rfl, hrow, hB⟩ := hrel
    have hh := hB.size
    by_cases hlt : l.length < len ∧ l.length < 30
    · obtain ⟨hl3, hl4⟩ := hlt
      obtain ⟨b, off, rfl, hb, K, A, X, Y, kK, kA, kX, kY, q0, q1, q2, q3⟩ := HA.out _ hl3
      replace q0 := (hB.cell (p := ⟨b, off + l.length * 4, none⟩) hb).trans q0
      replace q1 := (hB.cell (p := ⟨b, off + l.length * 4 + 1, none⟩) hb).trans q1
      replace q2 := (hB.cell (p := ⟨b, off + l.length * 4 + 2, none⟩) hb).trans q2
      replace q3 := (hB.cell (p := ⟨b, off + l.length * 4 + 3, none⟩) hb).trans q3
      have HOK := Lib.hid hok
      clear HA hok
      go_upto_region 6 with fail
      have hX : Blk (wr.alloc (.cells #[.int .i64 K, .int .i64 A, .int .u64 X, .int .u64 Y] 72)) wr.heap.size 72 #[.int .i64 K, .int .i64 A, .int .u64 X, .int .u64 Y] := Blk.new _ _ _
      have k0 : Keep (fun _ => False) wr (wr.alloc (.cells #[.int .i64 K, .int .i64 A, .int .u64 X, .int .u64 Y] 72)) := (Keep.refl _ _).alloc _
      clear q0 q1 q2 q3
      generalize wr.alloc (.cells #[.int .i64 K, .int .i64 A, .int .u64 X, .int .u64 Y] 72) = W0 at *
      obtain ⟨xb, hxb⟩ : ∃ xb, wr.heap.size = xb := ⟨_, rfl⟩
      rw [hxb] at hX hh
      simp only [hxb]
      have x0 := hX.cell 0 (.int .i64 K) rfl
      have z0 := hX.free 0
      obtain ⟨k', hk', hk8⟩ := rem_small K 8 (by omega) (by omega)
      have ek : (IntKind.u64.wrap K).tmod ((8 : Nat) : Int) = (IntKind.u64.wrap K).tmod 8 := rfl
      rw [ek] at hk'
      clear ek
      go_upto_region 7 with fail
      simp only [hk']
      have HX := Lib.hid (hX.set 0 (.int .i64 k'))
      replace k0 := k0.set (p := ⟨xb, 0, none⟩) (fun h => absurd h (by rw [hxb]; exact Nat.lt_irrefl _)) (.int .i64 k')
      clear hX x0 z0
      generalize W0.setCell ⟨xb, 0, none⟩ (.int .i64 k') = W1 at *
      simp only [List.setIfInBounds_toArray, List.set_cons_zero] at HX
      have x0 : W1.cell? ⟨xb, 0, none⟩ = some (.int .i64 k') := HX.out.cell 0 _ rfl
      have x1 : W1.cell? ⟨xb, 1, none⟩ = some (.int .i64 A) := HX.out.cell 1 _ rfl
      have z1 := HX.out.free 1
      have xm : 0 ≤ X.tmod 4 ∧ X.tmod 4 < 4 := ⟨Int.tmod_nonneg _ kX.1, Int.tmod_lt_of_pos _ (by omega)⟩
      have ym : 0 ≤ Y.tmod 4 ∧ Y.tmod 4 < 4 := ⟨Int.tmod_nonneg _ kY.1, Int.tmod_lt_of_pos _ (by omega)⟩
      have XM := Lib.hid xm
      have YM := Lib.hid ym
      have H8 := Lib.hid hk8
      clear xm ym hk8 kK kX kY
      by_cases h56 : k' = 5 ∨ k' = 6
      · obtain ⟨t, ht, ht3⟩ := rem_small A 3 (by omega) (by omega)
        have ek : (IntKind.u64.wrap A).tmod ((3 : Nat) : Int) = (IntKind.u64.wrap A).tmod 3 := rfl
        rw [ek] at ht
        clear ek kA hk'
        rcases h56 with rfl | rfl
        · go_upto_region 11 with fail
          simp only [ht]
          have HX := Lib.hid (HX.out.set 1 (.int .i64 t))
          simp only [List.setIfInBounds_toArray, List.set_cons_zero, List.set_cons_succ] at HX
          replace k0 := k0.set (p := ⟨xb, 1, none⟩) (fun h => absurd h (by rw [hxb]; exact Nat.lt_irrefl _)) (.int .i64 t)
          clear x0 x1 z1
          generalize W1.setCell ⟨xb, 1, none⟩ (.int .i64 t) = W2 at *
          have x2 := HX.out.cell 2 (.int .u64 X) rfl
          have z2 := HX.out.free 2
          have x3 := HX.out.cell 3 (.int .u64 Y) rfl
          have z3 := (HX.out.set 2 (.int .u64 (X.tmod 4))).free 3
          have x4 := (HX.out.set 2 (.int .u64 (X.tmod 4))).cell 3 (.int .u64 Y) rfl
          go_upto_region 12 with fail
          have HX4 := Lib.hid ((HX.out.set 2 (.int .u64 (X.tmod 4))).set 3 (.int .u64 (Y.tmod 4)))
          simp only [List.setIfInBounds_toArray, List.set_cons_zero, List.set_cons_succ] at HX4
          replace k0 := (k0.set (p := ⟨xb, 2, none⟩) (fun h => absurd h (by rw [hxb]; exact Nat.lt_irrefl _)) (.int .u64 (X.tmod 4))).set (p := ⟨xb, 3, none⟩) (fun h => absurd h (by rw [hxb]; exact Nat.lt_irrefl _)) (.int .u64 (Y.tmod 4))
          clear x2 z2 x3 z3 x4 HX
          generalize (World.setCell _ ⟨xb, 2, none⟩ (.int .u64 (X.tmod 4))).setCell ⟨xb, 3, none⟩ (.int .u64 (Y.tmod 4)) = W4 at *
          have x0 : W4.cell? ⟨xb, 0, none⟩ = some (.int .i64 5) := HX4.out.cell 0 _ rfl
          have x1 : W4.cell? ⟨xb, 1, none⟩ = some (.int .i64 t) := HX4.out.cell 1 _ rfl
          have x2 : W4.cell? ⟨xb, 2, none⟩ = some (.int .u64 (X.tmod 4)) := HX4.out.cell 2 _ rfl
          have x3 : W4.cell? ⟨xb, 3, none⟩ = some (.int .u64 (Y.tmod 4)) := HX4.out.cell 3 _ rfl
          have hrow4 := ownsRow_keep hrow k0
          have B4 := hB.trans (k0.below (by rw [hxb]; exact hh) (fun _ _ h => h.elim))
          have hh4 := B4.size
          clear HX4 hrow k0 hB
          go_wp2_with (at_builtin; refine wpList_append_own _ rfl _ _ 43 rfl w.heap.size 72 i0 (.agg #[.int .i64 0, .int .i64 0, .int .u64 0, .int .u64 0]) 4 32 Try.underlying43 hi hz0 hz1 hz2 rfl (by decide) _ _ _ rfl (hrow4.alloc _) ⟨W4.heap.size, 0, none⟩ 1 1 [.int .i64 5, .int .i64 t, .int .u64 (X.tmod 4), .int .u64 (Y.tmod 4)] rfl rfl (cells4_new _ _ _ _ _ _) (by simp [Value.oneCell']) (by unfold maxLen; omega) (by omega) (by simp; omega) ?_; intro v' w2 hown' hgrow _; have hgb := grown_below hgrow hrow4 hh4)
          go_roundw
          case rel =>
            refine ⟨l ++ [⟨5, t, X.tmod 4, Y.tmod 4⟩], by simp; omega, by simp; omega, ?_, by simp, ?_, B4.trans hgb⟩
            · intro x hx
              rcases List.mem_append.1 hx with hx | hx
              · exact HOK.out x hx
              · obtain rfl := List.mem_singleton.1 hx
                exact ⟨show (5 : Nat) < 8 by decide, show t ≤ 9223372036854775807 by omega, fun _ => ht3, ⟨XM.out.1, by have := XM.out.2; show X.tmod 4 ≤ _; omega⟩, ⟨YM.out.1, by have := YM.out.2; show Y.tmod 4 ≤ _; omega⟩, fun _ => by have := XM.out.2; show X.tmod 4 ≤ _; omega⟩
            · rw [List.length_append, itmCells_snoc]; exact hown'
          case measure => simp [intOf]; omega
        · go_upto_region 11 with fail
          simp only [ht]
          have HX := Lib.hid (HX.out.set 1 (.int .i64 t))
          simp only [List.setIfInBounds_toArray, List.set_cons_zero, List.set_cons_succ] at HX
          replace k0 := k0.set (p := ⟨xb, 1, none⟩) (fun h => absurd h (by rw [hxb]; exact Nat.lt_irrefl _)) (.int .i64 t)
          clear x0 x1 z1
          generalize W1.setCell ⟨xb, 1, none⟩ (.int .i64 t) = W2 at *
          have x2 := HX.out.cell 2 (.int .u64 X) rfl
          have z2 := HX.out.free 2
          have x3 := HX.out.cell 3 (.int .u64 Y) rfl
          have z3 := (HX.out.set 2 (.int .u64 (X.tmod 4))).free 3
          have x4 := (HX.out.set 2 (.int .u64 (X.tmod 4))).cell 3 (.int .u64 Y) rfl
          go_upto_region 12 with fail
          have HX4 := Lib.hid ((HX.out.set 2 (.int .u64 (X.tmod 4))).set 3 (.int .u64 (Y.tmod 4)))
          simp only [List.setIfInBounds_toArray, List.set_cons_zero, List.set_cons_succ] at HX4
          replace k0 := (k0.set (p := ⟨xb, 2, none⟩) (fun h => absurd h (by rw [hxb]; exact Nat.lt_irrefl _)) (.int .u64 (X.tmod 4))).set (p := ⟨xb, 3, none⟩) (fun h => absurd h (by rw [hxb]; exact Nat.lt_irrefl _)) (.int .u64 (Y.tmod 4))
          clear x2 z2 x3 z3 x4 HX
          generalize (World.setCell _ ⟨xb, 2, none⟩ (.int .u64 (X.tmod 4))).setCell ⟨xb, 3, none⟩ (.int .u64 (Y.tmod 4)) = W4 at *
          have x0 : W4.cell? ⟨xb, 0, none⟩ = some (.int .i64 6) := HX4.out.cell 0 _ rfl
          have x1 : W4.cell? ⟨xb, 1, none⟩ = some (.int .i64 t) := HX4.out.cell 1 _ rfl
          have x2 : W4.cell? ⟨xb, 2, none⟩ = some (.int .u64 (X.tmod 4)) := HX4.out.cell 2 _ rfl
          have x3 : W4.cell? ⟨xb, 3, none⟩ = some (.int .u64 (Y.tmod 4)) := HX4.out.cell 3 _ rfl
          have hrow4 := ownsRow_keep hrow k0
          have B4 := hB.trans (k0.below (by rw [hxb]; exact hh) (fun _ _ h => h.elim))
          have hh4 := B4.size
          clear HX4 hrow k0 hB
          go_wp2_with (at_builtin; refine wpList_append_own _ rfl _ _ 43 rfl w.heap.size 72 i0 (.agg #[.int .i64 0, .int .i64 0, .int .u64 0, .int .u64 0]) 4 32 Try.underlying43 hi hz0 hz1 hz2 rfl (by decide) _ _ _ rfl (hrow4.alloc _) ⟨W4.heap.size, 0, none⟩ 1 1 [.int .i64 6, .int .i64 t, .int .u64 (X.tmod 4), .int .u64 (Y.tmod 4)] rfl rfl (cells4_new _ _ _ _ _ _) (by simp [Value.oneCell']) (by unfold maxLen; omega) (by omega) (by simp; omega) ?_; intro v' w2 hown' hgrow _; have hgb := grown_below hgrow hrow4 hh4)
          go_roundw
          case rel =>
            refine ⟨l ++ [⟨6, t, X.tmod 4, Y.tmod 4⟩], by simp; omega, by simp; omega, ?_, by simp, ?_, B4.trans hgb⟩
            · intro x hx
              rcases List.mem_append.1 hx with hx | hx
              · exact HOK.out x hx
              · obtain rfl := List.mem_singleton.1 hx
                exact ⟨show (6 : Nat) < 8 by decide, show t ≤ 9223372036854775807 by omega, fun _ => ht3, ⟨XM.out.1, by have := XM.out.2; show X.tmod 4 ≤ _; omega⟩, ⟨YM.out.1, by have := YM.out.2; show Y.tmod 4 ≤ _; omega⟩, fun _ => by have := XM.out.2; show X.tmod 4 ≤ _; omega⟩
            · rw [List.length_append, itmCells_snoc]; exact hown'
          case measure => simp [intOf]; omega
      
      · have g5 : ¬ (k' : Int) = 5 := by omega
        have g6 : ¬ (k' : Int) = 6 := by omega
        by_cases h7 : A.tmod 8 = 7
        · obtain ⟨t, ht⟩ : ∃ t : Nat, A = t := Int.eq_ofNat_of_zero_le (tmod7 h7)
          subst ht
          have h7' : ¬ ((t : Int).tmod 8 ≠ 7) := by simp [h7]
          go_upto_region 11 with fail
          clear x0 x1 z1
          have x2 := HX.out.cell 2 (.int .u64 X) rfl
          have z2 := HX.out.free 2
          have x3 := HX.out.cell 3 (.int .u64 Y) rfl
          have z3 := (HX.out.set 2 (.int .u64 (X.tmod 4))).free 3
          have x4 := (HX.out.set 2 (.int .u64 (X.tmod 4))).cell 3 (.int .u64 Y) rfl
          go_upto_region 12 with fail
          have HX4 := Lib.hid ((HX.out.set 2 (.int .u64 (X.tmod 4))).set 3 (.int .u64 (Y.tmod 4)))
          simp only [List.setIfInBounds_toArray, List.set_cons_zero, List.set_cons_succ] at HX4
          replace k0 := (k0.set (p := ⟨xb, 2, none⟩) (fun h => absurd h (by rw [hxb]; exact Nat.lt_irrefl _)) (.int .u64 (X.tmod 4))).set (p := ⟨xb, 3, none⟩) (fun h => absurd h (by rw [hxb]; exact Nat.lt_irrefl _)) (.int .u64 (Y.tmod 4))
          clear x2 z2 x3 z3 x4 HX
          generalize (World.setCell _ ⟨xb, 2, none⟩ (.int .u64 (X.tmod 4))).setCell ⟨xb, 3, none⟩ (.int .u64 (Y.tmod 4)) = W4 at *
          have x0 : W4.cell? ⟨xb, 0, none⟩ = some (.int .i64 k') := HX4.out.cell 0 _ rfl
          have x1 : W4.cell? ⟨xb, 1, none⟩ = some (.int .i64 t) := HX4.out.cell 1 _ rfl
          have x2 : W4.cell? ⟨xb, 2, none⟩ = some (.int .u64 (X.tmod 4)) := HX4.out.cell 2 _ rfl
          have x3 : W4.cell? ⟨xb, 3, none⟩ = some (.int .u64 (Y.tmod 4)) := HX4.out.cell 3 _ rfl
          have hrow4 := ownsRow_keep hrow k0
          have B4 := hB.trans (k0.below (by rw [hxb]; exact hh) (fun _ _ h => h.elim))
          have hh4 := B4.size
          clear HX4 hrow k0 hB
          go_wp2_with (at_builtin; refine wpList_append_own _ rfl _ _ 43 rfl w.heap.size 72 i0 (.agg #[.int .i64 0, .int .i64 0, .int .u64 0, .int .u64 0]) 4 32 Try.underlying43 hi hz0 hz1 hz2 rfl (by decide) _ _ _ rfl (hrow4.alloc _) ⟨W4.heap.size, 0, none⟩ 1 1 [.int .i64 k', .int .i64 t, .int .u64 (X.tmod 4), .int .u64 (Y.tmod 4)] rfl rfl (cells4_new _ _ _ _ _ _) (by simp [Value.oneCell']) (by unfold maxLen; omega) (by omega) (by simp; omega) ?_; intro v' w2 hown' hgrow _; have hgb := grown_below hgrow hrow4 hh4)
          go_roundw
          case rel =>
            refine ⟨l ++ [⟨k', t, X.tmod 4, Y.tmod 4⟩], by simp; omega, by simp; omega, ?_, by simp, ?_, B4.trans hgb⟩
            · intro x hx
              rcases List.mem_append.1 hx with hx | hx
              · exact HOK.out x hx
              · obtain rfl := List.mem_singleton.1 hx
                exact ⟨H8.out, show t ≤ 9223372036854775807 by omega, fun h => absurd h h56, ⟨XM.out.1, by have := XM.out.2; show X.tmod 4 ≤ _; omega⟩, ⟨YM.out.1, by have := YM.out.2; show Y.tmod 4 ≤ _; omega⟩, fun _ => by have := XM.out.2; show X.tmod 4 ≤ _; omega⟩
            · rw [List.length_append, itmCells_snoc]; exact hown'
          case measure => simp [intOf]; omega
      
        · obtain ⟨t, ht, ht3⟩ := rem_small A 4 (by omega) (by omega)
          have ek : (IntKind.u64.wrap A).tmod ((4 : Nat) : Int) = (IntKind.u64.wrap A).tmod 4 := rfl
          rw [ek] at ht
          clear ek
          go_upto_region 11 with fail
          simp only [ht]
          have HX := Lib.hid (HX.out.set 1 (.int .i64 t))
          simp only [List.setIfInBounds_toArray, List.set_cons_zero, List.set_cons_succ] at HX
          replace k0 := k0.set (p := ⟨xb, 1, none⟩) (fun h => absurd h (by rw [hxb]; exact Nat.lt_irrefl _)) (.int .i64 t)
          clear x0 x1 z1
          generalize W1.setCell ⟨xb, 1, none⟩ (.int .i64 t) = W2 at *
          have x2 := HX.out.cell 2 (.int .u64 X) rfl
          have z2 := HX.out.free 2
          have x3 := HX.out.cell 3 (.int .u64 Y) rfl
          have z3 := (HX.out.set 2 (.int .u64 (X.tmod 4))).free 3
          have x4 := (HX.out.set 2 (.int .u64 (X.tmod 4))).cell 3 (.int .u64 Y) rfl
          go_upto_region 12 with fail
          have HX4 := Lib.hid ((HX.out.set 2 (.int .u64 (X.tmod 4))).set 3 (.int .u64 (Y.tmod 4)))
          simp only [List.setIfInBounds_toArray, List.set_cons_zero, List.set_cons_succ] at HX4
          replace k0 := (k0.set (p := ⟨xb, 2, none⟩) (fun h => absurd h (by rw [hxb]; exact Nat.lt_irrefl _)) (.int .u64 (X.tmod 4))).set (p := ⟨xb, 3, none⟩) (fun h => absurd h (by rw [hxb]; exact Nat.lt_irrefl _)) (.int .u64 (Y.tmod 4))
          clear x2 z2 x3 z3 x4 HX
          generalize (World.setCell _ ⟨xb, 2, none⟩ (.int .u64 (X.tmod 4))).setCell ⟨xb, 3, none⟩ (.int .u64 (Y.tmod 4)) = W4 at *
          have x0 : W4.cell? ⟨xb, 0, none⟩ = some (.int .i64 k') := HX4.out.cell 0 _ rfl
          have x1 : W4.cell? ⟨xb, 1, none⟩ = some (.int .i64 t) := HX4.out.cell 1 _ rfl
          have x2 : W4.cell? ⟨xb, 2, none⟩ = some (.int .u64 (X.tmod 4)) := HX4.out.cell 2 _ rfl
          have x3 : W4.cell? ⟨xb, 3, none⟩ = some (.int .u64 (Y.tmod 4)) := HX4.out.cell 3 _ rfl
          have hrow4 := ownsRow_keep hrow k0
          have B4 := hB.trans (k0.below (by rw [hxb]; exact hh) (fun _ _ h => h.elim))
          have hh4 := B4.size
          clear HX4 hrow k0 hB
          go_wp2_with (at_builtin; refine wpList_append_own _ rfl _ _ 43 rfl w.heap.size 72 i0 (.agg #[.int .i64 0, .int .i64 0, .int .u64 0, .int .u64 0]) 4 32 Try.underlying43 hi hz0 hz1 hz2 rfl (by decide) _ _ _ rfl (hrow4.alloc _) ⟨W4.heap.size, 0, none⟩ 1 1 [.int .i64 k', .int .i64 t, .int .u64 (X.tmod 4), .int .u64 (Y.tmod 4)] rfl rfl (cells4_new _ _ _ _ _ _) (by simp [Value.oneCell']) (by unfold maxLen; omega) (by omega) (by simp; omega) ?_; intro v' w2 hown' hgrow _; have hgb := grown_below hgrow hrow4 hh4)
          go_roundw
          case rel =>
            refine ⟨l ++ [⟨k', t, X.tmod 4, Y.tmod 4⟩], by simp; omega, by simp; omega, ?_, by simp, ?_, B4.trans hgb⟩
            · intro x hx
              rcases List.mem_append.1 hx with hx | hx
              · exact HOK.out x hx
              · obtain rfl := List.mem_singleton.1 hx
                exact ⟨H8.out, show t ≤ 9223372036854775807 by omega, fun h => absurd h h56, ⟨XM.out.1, by have := XM.out.2; show X.tmod 4 ≤ _; omega⟩, ⟨YM.out.1, by have := YM.out.2; show Y.tmod 4 ≤ _; omega⟩, fun _ => by have := XM.out.2; show X.tmod 4 ≤ _; omega⟩
            · rw [List.length_append, itmCells_snoc]; exact hown'
          case measure => simp [intOf]; omega
    · have hge : ¬ ((l.length : Int) < len ∧ (l.length : Int) < 30) := by omega
      obtain ⟨I, hI, hI2, hI3⟩ := itemsAt_of_row hrow hok hl (by omega) h0
      by_cases hc : l.length < len
      · have hc2 : ¬ (l.length : Int) < 30 := by omega
        go_wp2
        go_ret
        exact ⟨_, rfl, ⟨I, l, hI, hI2, hI3⟩, hB⟩
      · have hc2 : ¬ (l.length : Int) < len := by omega
        go_wp2
        go_ret
        exact ⟨_, rfl, ⟨I, l, hI, hI2, hI3⟩, hB⟩
end Go.Proofs.Ytmkgbbbhmbejnaa
