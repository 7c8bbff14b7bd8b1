/- The document's own answers of layer 7 (doorkeeperref07): round, Fill. -/
import Derived.Test.YtkmadabpfialbaaGreatDoorScRefA
namespace Go.Proofs.YtkmadabpfialbaaGreatDoor
open Go.ChangeShapes Go.WideShapes Go.ChangeAt Go.RowKit Go.Maps
set_option linter.unusedVariables false
set_option maxRecDepth 100000
set_option linter.unusedSimpArgs false
set_option maxHeartbeats 4000000 in
theorem rround_any (t : Nat) (w : World) (ht : t ≤ 1000) :
    Calls Tryz.prog 23 #[.int .i64 (t : Int)] w fun e w' => ∃ v, e = .returned v ∧ Below w.heap.size w w' ∧ w'.ownsRow w.heap.size 46 2 v t (pkCells (roundL t)) := by
  obtain ⟨i0, hi, hz0, hz1, hz2⟩ := info_parts picks_info
  go_enter Tryz.func23, Tryz.ntmps23
  go_wp2
  go_loopw [3, 4] (fun v i wr => ∃ k : Nat, k ≤ t ∧ i = .int .i64 (k : Int) ∧ wr.ownsRow w.heap.size 46 2 v k (pkCells (roundL k)) ∧ Below w.heap.size w wr)
    (fun _ i _ => t - (intOf i).toNat)
  case atStart => exact ⟨0, by omega, rfl, World.ownsRow_nil _ _ _ _, Below.refl _ _⟩
  case round =>
    obtain ⟨k, hk, rfl, hrow, hb⟩ := hrel
    have hh := hb.size
    by_cases hlt : k < t
    · have hlt2 : (k : Int) < (t : Int) := by omega
      go_wp2_with (at_builtin; refine wpList_append_own _ rfl _ _ 22 rfl w.heap.size 46 i0 (.agg #[.int .i64 0, .int .i64 0]) 2 16 Tryz.underlying22 hi hz0 hz1 hz2 rfl (by decide) _ _ _ rfl (hrow.alloc _) ⟨wr.heap.size, 0, none⟩ 1 1 [.int .i64 (k : Int), .int .i64 0] rfl rfl (cell_two_new' _ _ _ _) (by simp [Value.oneCell']) (by unfold maxLen; omega) (by omega) (by simp; omega) ?_; intro v' w6 hown' hgrow _; have hgb := grown_belowP hgrow hrow hh)
      go_roundw
      case rel =>
        refine ⟨k + 1, by omega, by go_num, ?_, hb.trans hgb⟩
        rw [roundL_succ, pkCells_snoc]
        exact hown'
      case measure => simp [intOf]; omega
    · have hke : k = t := by omega
      subst hke
      go_wp2
      go_ret
      exact ⟨_, rfl, hb, hrow⟩
theorem pkCells_one : ∀ (l : List Pk), ∀ u ∈ pkCells l, u.oneCell' = true := by
  intro l u hu
  unfold pkCells at hu
  obtain ⟨p, _, hp⟩ := List.mem_flatMap.1 hu
  simp at hp
  rcases hp with rfl | rfl <;> simp [Value.oneCell']
theorem pkCells_append (l r : List Pk) : pkCells (l ++ r) = pkCells l ++ pkCells r := by simp [pkCells]
theorem grown_belowQ {w w2 : World} {base : Nat} {e : TypeId} {n k : Nat} {v : Value} {xs : List Value} (hg : w.grownBy w2 v.ownBlock) (hrow : w.ownsRow base e n v k xs) (hh : base ≤ w.heap.size) : Below base w w2 :=
  ⟨hg.os, hg.tape, hg.output, hg.size, fun i hi => by
    rw [hg.block i (by omega) (fun e => by
      rcases hrow.2 with ⟨rfl, _⟩ | ⟨g, cap, cur, rfl, hb, _⟩
      · cases e
      · simp [Value.ownBlock] at e; omega)]⟩
theorem row_some {w : World} {B n : Nat} {v : Value} {xs : List Value} (h : w.ownsRow B 46 2 v n xs) (hn : 0 < n) : ∃ g c, v = .slice (some ⟨g, 0, none⟩) n c := by
  rcases h.2 with ⟨_, h0⟩ | ⟨g, cap, cur, rfl, _⟩
  · omega
  · exact ⟨g, cap, rfl⟩
set_option maxHeartbeats 4000000 in
theorem rfill_yes (v : Value) (l : List Pk) (t m : Nat) (w : World) (hv : PicksAt w w.heap.size v l) (hl : l.length ≤ 1000) (ht1 : 1 ≤ t) (ht2 : t ≤ 1000) (hm1 : 1 ≤ m) (hm2 : m ≤ 1000) :
    Calls Tryz.prog 12 #[v, .int .i64 (t : Int), .int .i64 ((m : Int) + (t : Int))] w fun e w' => ∃ v, e = .returned v ∧ Below w.heap.size w w' ∧ w'.ownsRow w.heap.size 46 2 v (fillL m t l).length (pkCells (fillL m t l)) := by
  obtain ⟨i0, hi, hz0, hz1, hz2⟩ := info_parts picks_info
  obtain ⟨a, c, rfl, hc, hp⟩ := id hv
  have h3 : ¬ (t : Int) < 1 := by omega
  have h4 : ¬ (m : Int) + (t : Int) ≤ (t : Int) := by omega
  have HP := Lib.hid hp
  have HR := Lib.hid (fun W => rround_any t W ht2)
  have hlen : ∀ k, k ≤ l.length → (fillPre m t l k).length ≤ 1001000 := fun k hk => by
    rw [fillPre_len]
    have h1 : k / m ≤ 1000 := Nat.le_trans (Nat.div_le_self k m) (by omega)
    have h2 : t * (k / m) ≤ 1000 * 1000 := Nat.mul_le_mul ht2 h1
    omega
  have HLN := Lib.hid hlen
  have hrl := roundL_len t
  have hrc : (pkCells (roundL t)).length = t * 2 := by rw [pkCells_len, hrl]
  have HRC := Lib.hid hrc
  clear hv hp hlen hrl hrc
  go_enter Tryz.func12, Tryz.ntmps12
  go_wp2
  go_loopw [7, 8] (fun v i wr => ∃ (k n : Nat), k ≤ l.length ∧ i = .int .i64 (k : Int) ∧ Hid (n = (fillPre m t l k).length) ∧ wr.ownsRow w.heap.size 46 2 v n (pkCells (fillPre m t l k)) ∧ Below w.heap.size w wr)
    (fun _ i _ => l.length - (intOf i).toNat)
  case atStart => exact ⟨0, 0, by omega, rfl, Lib.hid rfl, World.ownsRow_nil _ _ _ _, Below.refl _ _⟩
  case round =>
    obtain ⟨k, n, hk, rfl, hn, hrow, hb⟩ := hrel
    have hh := hb.size
    have hn2 : n ≤ 1001000 := by rw [hn.out]; exact HLN.out k hk
    by_cases hlt : k < l.length
    · have hlt2 : (k : Int) < (l.length : Int) := by omega
      obtain ⟨p, hpi⟩ : ∃ p, l[k]? = some p := ⟨_, List.getElem?_eq_getElem hlt⟩
      obtain ⟨B, o, rfl, hB1, hB2, c0, c1⟩ := HP.out k p hpi
      replace c0 := (hb.cell (p := ⟨B, o + k * 2, none⟩) hB1).trans c0
      replace c1 := (hb.cell (p := ⟨B, o + (k * 2 + 1), none⟩) hB1).trans c1
      rw [← Nat.add_assoc] at c1
      have hix := idx_nat l.length c B o k hlt
      obtain ⟨pu, pq⟩ := p
      simp only at c0 c1
      have HPI := Lib.hid hpi
      clear hpi
      go_upto_region 8 with (at_builtin; refine wpList_append_own _ rfl _ _ 22 rfl w.heap.size 46 i0 (.agg #[.int .i64 0, .int .i64 0]) 2 16 Tryz.underlying22 hi hz0 hz1 hz2 rfl (by decide) _ _ _ rfl (hrow.alloc _) ⟨wr.heap.size, 0, none⟩ 1 1 [.int .i64 pu, .int .i64 pq] rfl rfl (cell_two_new' _ _ _ _) (by simp [Value.oneCell']) (by unfold maxLen; omega) (by omega) (by simp; omega) ?_; intro v' w6 hown' hgrow _; have hgb := grown_belowP hgrow hrow hh)
      have hgb2 : Below w.heap.size w w6 := hb.trans hgb
      have hh6 := hgb2.size
      have hm0 : ¬ (m : Int) = 0 := by omega
      have htm : ((k : Int) + 1).tmod (m : Int) = (((k + 1) % m : Nat) : Int) := by
        rw [Int.tmod_eq_emod_of_nonneg (by omega)]; simp
      have em : (m : Int) + (t : Int) - (t : Int) = (m : Int) := by omega
      have hk1 : (k : Int) + 1 ≤ 1000000 := by omega
      clear hgb hgrow hrow hix c0 c1
      by_cases hz : (k + 1) % m = 0
      · have HZ := Lib.hid hz
        rw [hz] at htm
        clear hz
        go_upto_region 6 with (first
          | (go_at_call 23; refine (HR.out w6).mono ?_; rintro e w7 ⟨v7, rfl, hb7, hr7⟩; obtain ⟨g7, c7, rfl⟩ := row_some hr7 (by omega); have hcel := Lib.hid (hr7.cells (g := g7) rfl); have hrow7 := ownsRow_below hown' hb7; have hh7 := hb7.size; clear hown' hr7)
          | (at_builtin; refine wpList_append_own _ rfl _ _ 22 rfl w.heap.size 46 i0 (.agg #[.int .i64 0, .int .i64 0]) 2 16 Tryz.underlying22 hi hz0 hz1 hz2 rfl (by decide) _ _ _ rfl hrow7 ⟨g7, 0, none⟩ t c7 (pkCells (roundL t)) rfl HRC.out hcel.out (pkCells_one _) (by unfold maxLen; omega) (by omega) (by omega) ?_; intro v8 w8 hown8 hgrow8 _; have hgb8 := grown_belowQ hgrow8 hrow7 (by omega)))
        have hb8 := (hgb2.trans (hb7.mono hh6)).trans hgb8
        have hst : Hid (fillPre m t l (k + 1) = fillPre m t l k ++ [(pu, pq)] ++ roundL t) := Lib.hid (by
          have := HPI.out
          rw [fillPre, if_pos HZ.out, List.getD_eq_getElem?_getD, this]; rfl)
        clear hgrow8 hrow7 hcel hgb8
        go_wp2
        go_roundw
        case rel =>
          refine ⟨k + 1, n + 1 + t, by omega, by go_num, Lib.hid (by rw [hst.out, List.length_append, List.length_append, roundL_len, ← hn.out]; rfl), ?_, hb8⟩
          rw [hst.out, pkCells_append, pkCells_append]
          exact hown8
        case measure => simp [intOf]; omega
      · have hr : ((((k + 1) % m : Nat) : Int) == 0) = false := by rw [beq_eq_false_iff_ne]; omega
        have hst : Hid (fillPre m t l (k + 1) = fillPre m t l k ++ [(pu, pq)]) := Lib.hid (by
          have := HPI.out
          rw [fillPre, if_neg hz, List.getD_eq_getElem?_getD, this]; simp)
        clear hz
        generalize (k + 1) % m = z at *
        go_wp2
        go_roundw
        case rel =>
          refine ⟨k + 1, n + 1, by omega, by go_num, Lib.hid (by rw [hst.out, List.length_append, ← hn.out]; rfl), ?_, hgb2⟩
          rw [hst.out, pkCells_append]
          exact hown'
        case measure => simp [intOf]; omega
    · have hke : k = l.length := by omega
      subst hke
      go_wp2_with (first
        | (go_at_call 23; refine (HR.out wr).mono ?_; rintro e w7 ⟨v7, rfl, hb7, hr7⟩; obtain ⟨g7, c7, rfl⟩ := row_some hr7 (by omega); have hcel := Lib.hid (hr7.cells (g := g7) rfl); have hrow7 := ownsRow_below hrow hb7; have hh7 := hb7.size; clear hrow hr7)
        | (at_builtin; refine wpList_append_own _ rfl _ _ 22 rfl w.heap.size 46 i0 (.agg #[.int .i64 0, .int .i64 0]) 2 16 Tryz.underlying22 hi hz0 hz1 hz2 rfl (by decide) _ _ _ rfl hrow7 ⟨g7, 0, none⟩ t c7 (pkCells (roundL t)) rfl HRC.out hcel.out (pkCells_one _) (by unfold maxLen; omega) (by omega) (by omega) ?_; intro v8 w8 hown8 hgrow8 _; have hgb8 := grown_belowQ hgrow8 hrow7 (by omega)))
      go_ret
      refine ⟨_, rfl, (hb.trans (hb7.mono hh)).trans hgb8, ?_⟩
      unfold fillL
      rw [List.length_append, roundL_len, pkCells_append, ← hn.out]
      exact hown8
theorem rfill_no (v : Value) (t k : Int) (w : World) (h : t < 1 ∨ k ≤ t) :
    Calls Tryz.prog 12 #[v, .int .i64 t, .int .i64 k] w fun e w' => e = .returned (.slice none 0 0) ∧ Below w.heap.size w w' := by
  rcases Int.lt_or_le t 1 with h1 | h1
  · clear h
    go_enter Tryz.func12, Tryz.ntmps12
    go_wp2
    go_ret
    exact ⟨rfl, Below.refl _ _⟩
  · have h2 : k ≤ t := by omega
    have h1' : ¬ t < 1 := by omega
    clear h h1
    go_enter Tryz.func12, Tryz.ntmps12
    go_wp2
    go_ret
    exact ⟨rfl, Below.refl _ _⟩
end Go.Proofs.YtkmadabpfialbaaGreatDoor
