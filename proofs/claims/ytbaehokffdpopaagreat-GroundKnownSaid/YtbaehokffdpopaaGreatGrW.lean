/- A ground: who waits at a monitor. -/
import Derived.Test.YtbaehokffdpopaaGreatGrG
import Derived.Test.YtbaehokffdpopaaGreatRangeZ
import Derived.Test.YtbaehokffdpopaaGreatHeldIn
import Derived.RegionIn
import Derived.BigGuardPart
import Derived.BigGuardPartIn
namespace Go.Proofs.YtbaehokffdpopaaGreat
open Go.ChangeShapes Go.WideShapes Go.ChangeAt Go.RowKit Go.Shelf
set_option linter.unusedVariables false
set_option maxRecDepth 100000
set_option linter.unusedSimpArgs false
attribute [local go_sem] Oper.semAt_some
abbrev pW (b : Nat) : Value := .pointer (some ⟨b, 0, none⟩)
theorem stateOf_any (s n : Int) (w : World) (hs : 0 ≤ s ∧ s ≤ 7) (hn : 0 ≤ n ∧ n ≤ 5000) : Calls Tryz.prog 49 #[.int .i64 s, .int .i64 n] w fun e w' => e = .returned (.int .u64 (n * 8 + s)) ∧ w = w' := by
  have e1 : IntKind.u64.wrap (n * 8 + s) = n * 8 + s := by rw [IntKind.wrap_u64]; omega
  go_enter Tryz.func49, Tryz.ntmps49
  go_wp2
  go_ret
  exact ⟨rfl, rfl⟩
/-- who waits, of the first ones -/
def waitG (m : Mp) (mm : List Int) (v : Int) : Nat → List Int
  | 0 => []
  | j + 1 => if mm[stateN m (j : Int)]? = some v then waitG m mm v j ++ [(j : Int)] else waitG m mm v j
theorem waitG_yes {m : Mp} {mm : List Int} {v : Int} {j : Nat} (h : mm[stateN m (j : Int)]? = some v) : waitG m mm v (j + 1) = waitG m mm v j ++ [(j : Int)] := if_pos h
theorem waitG_no {m : Mp} {mm : List Int} {v : Int} {j : Nat} (h : ¬ mm[stateN m (j : Int)]? = some v) : waitG m mm v (j + 1) = waitG m mm v j := if_neg h
theorem waitG_len {m : Mp} {mm : List Int} {v : Int} (i : Nat) : ∀ j, i ≤ j → (waitG m mm v i).length ≤ (waitG m mm v j).length
  | 0, h => by
    have : i = 0 := by omega
    subst this
    exact Nat.le_refl _
  | j + 1, h => by
    by_cases e : i = j + 1
    · subst e; exact Nat.le_refl _
    · have ih := waitG_len (m := m) (mm := mm) (v := v) i j (by omega)
      by_cases hy : mm[stateN m (j : Int)]? = some v
      · rw [waitG_yes hy, List.length_append]; omega
      · rw [waitG_no hy]; exact ih
/-- the rows of a slice of words, whatever block it has -/
def RowW (w : World) (g : Nat) (mm : List Int) : Prop := ∀ (i : Nat) x, mm[i]? = some x → w.cell? ⟨g, i, none⟩ = some (.int .u64 x)
theorem kcell {w w1 : World} {F : Nat → Prop} {b i : Nat} {v : Value} (h : w.cell? ⟨b, i, none⟩ = some v) (hk : Keep F w w1) (hn : ¬ F b) : w1.cell? ⟨b, i, none⟩ = some v := by
  have hlt : b < w.heap.size := by
    unfold World.cell? at h
    rcases Nat.lt_or_ge b w.heap.size with h1 | h1
    · exact h1
    · rw [Array.getElem?_eq_none h1] at h
      simp at h
  unfold World.cell? at h ⊢
  rwa [hk.block _ hlt hn]
theorem RowW.keep {w w1 : World} {F : Nat → Prop} {g : Nat} {mm : List Int} (h : RowW w g mm) (hk : Keep F w w1) (hn : ¬ F g) : RowW w1 g mm := fun i x hx => kcell (h i x hx) hk hn
set_option maxHeartbeats 4000000 in
theorem wait1_own (n : Nat) (hn : 1 ≤ n) (G : Nat) (m : Mp) (mm : List Int) (k : Int) (ga ca Bg Ba Bn : Nat) (Qb : Nat → Prop) (w : World) (hm : m.ok) (hml : mm.length = sizeN m) (hk : 0 ≤ k ∧ k ≤ 5000)
    (hG0 : w.cell? ⟨G, 0, none⟩ = some (.int .i64 (m.t : Int))) (hG1 : w.cell? ⟨G, 1, none⟩ = some (.int .i64 (m.o : Int))) (hG2 : w.cell? ⟨G, 2, none⟩ = some (.int .i64 (m.n : Int)))
    (hBg : Blk w Bg 31 #[pW G]) (hBa : Blk w Ba 34 #[.slice (some ⟨ga, 0, none⟩) mm.length ca]) (hBn : Blk w Bn 3 #[.int .i64 k]) (hg : RowW w ga mm)
    (q0 : ¬ Qb G) (q1 : ¬ Qb Bg) (q2 : ¬ Qb Ba) (q3 : ¬ Qb Bn) (q4 : ¬ Qb ga) : SeqOwnZ Fence.wide n Tryz.prog 227 #[pW Bg, pW Ba, pW Bn] (fun t : Int => #[.int .i64 t]) (waitG m mm (k * 8 + 2) m.t) Qb (fun _ => False) w.heap.size w := by
  intro J W hW hsz hJ hY h0
  have hro : Fence.wide.round = none := rfl
  have kW : Keep (fun _ => False) w W := Keep.ofBelow hW
  have lG : G < w.heap.size := by
    by_cases h1 : G < w.heap.size
    · exact h1
    · have : w.heap[G]? = none := by simp; omega
      simp [World.cell?, this] at hG0
  have lBg := hBg.lt
  have lBa := hBa.lt
  have lBn := hBn.lt
  have lga : ga < w.heap.size := by
    have h1 := hg 0 _ (List.getElem?_eq_getElem (by rw [hml]; unfold sizeN; omega))
    by_cases h2 : ga < w.heap.size
    · exact h2
    · have : w.heap[ga]? = none := by simp; omega
      simp [World.cell?, this] at h1
  have ST := Lib.hid (show ∀ V, Keep (fun i => Qb i ∨ (w.heap.size ≤ i ∧ i < w.heap.size + 2)) W V → (V.cell? ⟨G, 0, none⟩ = some (.int .i64 (m.t : Int)) ∧ V.cell? ⟨G, 1, none⟩ = some (.int .i64 (m.o : Int)) ∧ V.cell? ⟨G, 2, none⟩ = some (.int .i64 (m.n : Int))) ∧ V.cell? ⟨Bg, 0, none⟩ = some (pW G) ∧ V.cell? ⟨Ba, 0, none⟩ = some (.slice (some ⟨ga, 0, none⟩) mm.length ca) ∧ V.cell? ⟨Bn, 0, none⟩ = some (.int .i64 k) ∧ RowW V ga mm from fun V hV => by
    have nf : ∀ b, b < w.heap.size → ¬ Qb b → ¬ (Qb b ∨ (w.heap.size ≤ b ∧ b < w.heap.size + 2)) := fun b h1 h2 h3 => h3.elim h2 (fun h => by omega)
    have kc : ∀ {b i : Nat} {v : Value}, w.cell? ⟨b, i, none⟩ = some v → b < w.heap.size → ¬ Qb b → V.cell? ⟨b, i, none⟩ = some v := fun h h1 h2 => kcell (kcell h kW (fun h => h)) hV (nf _ h1 h2)
    exact ⟨⟨kc hG0 lG q0, kc hG1 lG q0, kc hG2 lG q0⟩, kc (hBg.cell 0 _ rfl) lBg q1, kc (hBa.cell 0 _ rfl) lBa q2, kc (hBn.cell 0 _ rfl) lBn q3, (hg.keep kW (fun h => h)).keep hV (nf _ lga q4)⟩)
  have HML := Lib.hid hml
  have HM := Lib.hid hm
  clear hG0 hG1 hG2 hBg hBa hBn hg kW hm hml
  refine callsIn_of_wp Tryz.func227 rfl trivial ?_ hro
  simp only [Tryz.ntmps227, List.size_toArray, List.length_cons, List.length_nil, Nat.reduceAdd, Nat.reduceSub, Array.replicate_succ, Array.replicate_zero, List.push_toArray, List.append_toArray, List.nil_append, List.cons_append]
  obtain ⟨⟨c0, c1, c2⟩, c3, c4, c5, _⟩ := ST.out W (Keep.refl _ _)
  gi_wp2
  clear c0 c1 c2 c3 c4 c5
  gi_loopw [11] (fun v11 wr => ∃ j : Nat, j ≤ m.t ∧ v11 = .int .i64 (j : Int) ∧ J (waitG m mm (k * 8 + 2) j) wr ∧ Keep (fun i => Qb i ∨ (w.heap.size ≤ i ∧ i < w.heap.size + 2)) W wr) (fun v11 _ => (m.t - intOf v11).toNat)
  case atStart => exact ⟨0, by omega, rfl, h0, Keep.refl _ _⟩
  case round =>
    obtain ⟨j, hj, rfl, hjw, hkw⟩ := hrel
    have hj4 : (j : Int) ≤ 40000 := by have := HM.out.t; omega
    by_cases hlt : j < m.t
    · have hin : stateN m (j : Int) < mm.length := by rw [HML.out]; unfold stateN nxN sizeN; omega
      obtain ⟨x, hx⟩ : ∃ x, mm[stateN m (j : Int)]? = some x := ⟨_, List.getElem?_eq_getElem hin⟩
      have hinI : ((stateN m (j : Int) : Nat) : Int) < (mm.length : Int) := by omega
      have hix : ∀ V, (Instr.indexAt 34 (.slice (some ⟨ga, 0, none⟩) mm.length ca) (.int .i64 ((stateN m (j : Int) : Nat) : Int))).run Tryz.prog V = .ok (.pointer (some ⟨ga, stateN m (j : Int), none⟩)) V := by
        intro V
        go_simp
      have HSt := Lib.hid fun V => state_any m (j : Int) V HM.out (by omega)
      have HSo := Lib.hid fun V => stateOf_any 2 k V (by omega) hk
      have SK := Lib.hid (show ∀ V, Below wr.heap.size wr V → V.cell? ⟨G, 0, none⟩ = some (.int .i64 (m.t : Int)) ∧ V.cell? ⟨G, 1, none⟩ = some (.int .i64 (m.o : Int)) ∧ V.cell? ⟨G, 2, none⟩ = some (.int .i64 (m.n : Int)) ∧ V.cell? ⟨Bg, 0, none⟩ = some (pW G) ∧ V.cell? ⟨Ba, 0, none⟩ = some (.slice (some ⟨ga, 0, none⟩) mm.length ca) ∧ V.cell? ⟨Bn, 0, none⟩ = some (.int .i64 k) ∧ V.cell? ⟨ga, stateN m (j : Int), none⟩ = some (.int .u64 x) from fun V hV => by
        obtain ⟨⟨c0, c1, c2⟩, c3, c4, c5, hr⟩ := ST.out V (hkw.trans (Keep.ofBelow hV))
        exact ⟨c0, c1, c2, c3, c4, c5, hr _ _ hx⟩)
      have SK2 := Lib.hid (show ∀ V, Keep (fun i => Qb i ∨ (w.heap.size ≤ i ∧ i < w.heap.size + 2)) W V → V.cell? ⟨G, 0, none⟩ = some (.int .i64 (m.t : Int)) ∧ V.cell? ⟨G, 1, none⟩ = some (.int .i64 (m.o : Int)) ∧ V.cell? ⟨G, 2, none⟩ = some (.int .i64 (m.n : Int)) ∧ V.cell? ⟨Bg, 0, none⟩ = some (pW G) ∧ V.cell? ⟨Ba, 0, none⟩ = some (.slice (some ⟨ga, 0, none⟩) mm.length ca) ∧ V.cell? ⟨Bn, 0, none⟩ = some (.int .i64 k) ∧ V.cell? ⟨ga, stateN m (j : Int), none⟩ = some (.int .u64 x) from fun V hV => by
        obtain ⟨⟨c0, c1, c2⟩, c3, c4, c5, hr⟩ := ST.out V hV
        exact ⟨c0, c1, c2, c3, c4, c5, hr _ _ hx⟩)
      have HLT := Lib.hid hlt
      have HJW := Lib.hid hjw
      have HKW := Lib.hid hkw
      by_cases hxv : x = k * 8 + 2
      · have hyes := waitG_yes (m := m) (mm := mm) (v := k * 8 + 2) (j := j) (by rw [hx, hxv])
        have HYES := Lib.hid hyes
        subst hxv
        have hlen := Lib.hid (show (waitG m mm (k * 8 + 2) j).length < (waitG m mm (k * 8 + 2) m.t).length from by
          have h1 := waitG_len (m := m) (mm := mm) (v := k * 8 + 2) (j + 1) m.t hlt
          rw [hyes, List.length_append] at h1
          simp at h1
          omega)
        have bd := bdrewP wr
        clear hx hin hjw hkw hlt hyes
        obtain ⟨c0, c1, c2, c3, c4, c5, c6⟩ := SK.out _ bd
        gi_wp2
        refine wpIn_region_S (fun V => V.cell? ⟨G, 0, none⟩ = some (.int .i64 (m.t : Int)) ∧ V.cell? ⟨G, 1, none⟩ = some (.int .i64 (m.o : Int)) ∧ V.cell? ⟨G, 2, none⟩ = some (.int .i64 (m.n : Int)) ∧ V.cell? ⟨Bg, 0, none⟩ = some (pW G) ∧ V.cell? ⟨Ba, 0, none⟩ = some (.slice (some ⟨ga, 0, none⟩) mm.length ca) ∧ V.cell? ⟨Bn, 0, none⟩ = some (.int .i64 k) ∧ V.cell? ⟨ga, stateN m (j : Int), none⟩ = some (.int .u64 (k * 8 + 2))) (by kernel_rfl) ?_
        have hHeld := SK.out _ bd
        clear c0 c1 c2 c3 c4 c5 c6
        refine wpAnyIS_take (i := 0) (oi := _) (v := ?_) rfl rfl (by kernel_rfl) (by kernel_rfl) (by kernel_rfl) (fun _ _ _ h => h) ⟨Or.inl ⟨by rfl, ?_⟩, fun _ => rfl⟩ (by assumption) ?_
        rotate_left
        · intro w hSw; (try dsimp only at hSw); go_simp; try with_reducible rfl
        (try simp only [Act.put, List.setIfInBounds_toArray, List.set_cons_zero, List.set_cons_succ])
        refine wpAnyIS_take (i := 1) (oi := _) (v := ?_) rfl rfl (by kernel_rfl) (by kernel_rfl) (by kernel_rfl) (fun _ _ _ h => h) ⟨Or.inl ⟨by rfl, ?_⟩, fun _ => rfl⟩ (by assumption) ?_
        rotate_left
        · intro w hSw; (try dsimp only at hSw); go_simp; try with_reducible rfl
        (try simp only [Act.put, List.setIfInBounds_toArray, List.set_cons_zero, List.set_cons_succ])
        refine wpAnyIS_take (i := 2) (oi := _) (v := ?_) rfl rfl (by kernel_rfl) (by kernel_rfl) (by kernel_rfl) (fun _ _ _ h => h) ⟨Or.inl ⟨by rfl, ?_⟩, fun _ => rfl⟩ (by assumption) ?_
        rotate_left
        · intro w hSw; (try dsimp only at hSw); go_simp; try with_reducible rfl
        (try simp only [Act.put, List.setIfInBounds_toArray, List.set_cons_zero, List.set_cons_succ])
        refine wpAnyIS_take (i := 3) (oi := _) (v := ?_) rfl rfl (by kernel_rfl) (by kernel_rfl) (by kernel_rfl) (fun _ _ _ h => h) ⟨Or.inl ⟨by rfl, ?_⟩, fun _ => rfl⟩ (by assumption) ?_
        rotate_left
        · intro w hSw; (try dsimp only at hSw); go_simp; try with_reducible rfl
        (try simp only [Act.put, List.setIfInBounds_toArray, List.set_cons_zero, List.set_cons_succ])
        refine wpAnyIS_take (i := 4) (oi := _) (v := ?_) rfl rfl (by kernel_rfl) (by kernel_rfl) (by kernel_rfl) (fun _ _ _ h => h) ⟨Or.inl ⟨by rfl, ?_⟩, fun _ => rfl⟩ (by assumption) ?_
        rotate_left
        · intro w hSw; (try dsimp only at hSw); go_simp; try with_reducible rfl
        (try simp only [Act.put, List.setIfInBounds_toArray, List.set_cons_zero, List.set_cons_succ])
        refine wpAnyIS_take (i := 5) (oi := _) (v := ?_) rfl rfl (by kernel_rfl) (by kernel_rfl) (by kernel_rfl) (fun _ _ _ h => h) ⟨Or.inl ⟨by rfl, ?_⟩, fun _ => rfl⟩ (by assumption) ?_
        rotate_left
        · intro w hSw; (try dsimp only at hSw); go_simp; try with_reducible rfl
        (try simp only [Act.put, List.setIfInBounds_toArray, List.set_cons_zero, List.set_cons_succ])
        refine wpAnyIS_take (i := 9) (oi := _) (v := ?_) rfl rfl (by kernel_rfl) (by kernel_rfl) (by kernel_rfl) (fun _ _ _ h => h) ⟨Or.inl ⟨by rfl, ?_⟩, fun _ => rfl⟩ (by assumption) ?_
        rotate_left
        · intro w hSw; (try dsimp only at hSw); go_simp; try with_reducible rfl
        (try simp only [Act.put, List.setIfInBounds_toArray, List.set_cons_zero, List.set_cons_succ])
        refine wpAnyIS_ready (rs := [6]) (by kernel_rfl) (by simp) ?_
        refine AllReadyIS.cons rfl (fun K hK => ?_) AllReadyIS.nil
        replace hK := Lib.hid hK
        go_simp
        refine ⟨trivial, ?_⟩
        gi_at_call 48
        refine (callsIn_wide.2 (HSt.out _)).mono ?_
        rintro e w6 ⟨rfl, b6⟩
        clear hHeld
        have bc := Below.trans bd (Below.mono b6 bd.size)
        gi_wp2
        refine hK.out _ _ (SK.out _ bc) ?_
        clear hK K
        have hHeld := SK.out _ bc
        (try dsimp only [Act.put]); (try simp only [Act.put, List.setIfInBounds_toArray, List.set_cons_zero, List.set_cons_succ])
        refine wpAnyIS_take (i := 7) (oi := _) (v := ?_) rfl rfl (by kernel_rfl) (by kernel_rfl) (by kernel_rfl) (fun _ _ _ h => h) ⟨Or.inl ⟨by rfl, ?_⟩, fun _ => rfl⟩ (by assumption) ?_
        rotate_left
        · intro w hSw; (try dsimp only at hSw); go_simp; try with_reducible rfl
        (try simp only [Act.put, List.setIfInBounds_toArray, List.set_cons_zero, List.set_cons_succ])
        refine wpAnyIS_take (i := 8) (oi := _) (v := ?_) rfl rfl (by kernel_rfl) (by kernel_rfl) (by kernel_rfl) (fun _ _ _ h => h) ⟨Or.inl ⟨by rfl, ?_⟩, fun _ => rfl⟩ (by assumption) ?_
        rotate_left
        · intro w hSw; (try dsimp only at hSw); go_simp; try with_reducible rfl
        (try simp only [Act.put, List.setIfInBounds_toArray, List.set_cons_zero, List.set_cons_succ])
        refine wpAnyIS_ready (rs := [10]) (by kernel_rfl) (by simp) ?_
        refine AllReadyIS.cons rfl (fun K hK => ?_) AllReadyIS.nil
        replace hK := Lib.hid hK
        go_simp
        refine ⟨trivial, ?_⟩
        gi_at_call 49
        refine (callsIn_wide.2 (HSo.out _)).mono ?_
        rintro e w7 ⟨rfl, rfl⟩
        clear hHeld
        gi_wp2
        refine hK.out _ _ (SK.out _ bc) ?_
        clear hK K
        have hHeld := SK.out _ bc
        (try dsimp only [Act.put]); (try simp only [Act.put, List.setIfInBounds_toArray, List.set_cons_zero, List.set_cons_succ])
        refine wpAnyIS_take (i := 11) (oi := _) (v := ?_) rfl rfl (by kernel_rfl) (by kernel_rfl) (by kernel_rfl) (fun _ _ _ h => h) ⟨Or.inl ⟨by rfl, ?_⟩, fun _ => rfl⟩ (by assumption) ?_
        rotate_left
        · intro w hSw; (try dsimp only at hSw); go_simp; try with_reducible rfl
        (try simp only [Act.put, List.setIfInBounds_toArray, List.set_cons_zero, List.set_cons_succ])
        refine wpAnyIS_take (i := 12) (oi := _) (v := ?_) rfl rfl (by kernel_rfl) (by kernel_rfl) (by kernel_rfl) (fun _ _ _ h => h) ⟨Or.inl ⟨by rfl, ?_⟩, fun _ => rfl⟩ (by assumption) ?_
        rotate_left
        · intro w hSw; (try dsimp only at hSw); go_simp; try with_reducible rfl
        (try simp only [Act.put, List.setIfInBounds_toArray, List.set_cons_zero, List.set_cons_succ])
        refine wpAnyIS_take (i := 13) (oi := _) (v := ?_) rfl rfl (by kernel_rfl) (by kernel_rfl) (by kernel_rfl) (fun _ _ _ h => h) ⟨Or.inl ⟨by rfl, ?_⟩, fun _ => rfl⟩ (by assumption) ?_
        rotate_left
        · intro w hSw; (try dsimp only at hSw); go_simp; try with_reducible rfl
        (try simp only [Act.put, List.setIfInBounds_toArray, List.set_cons_zero, List.set_cons_succ])
        refine wpAnyIS_take (i := 14) (oi := _) (v := ?_) rfl rfl (by kernel_rfl) (by kernel_rfl) (by kernel_rfl) (fun _ _ _ h => h) ⟨Or.inl ⟨by rfl, ?_⟩, fun _ => rfl⟩ (by assumption) ?_
        rotate_left
        · intro w hSw; (try dsimp only at hSw); go_simp; try with_reducible rfl
        (try simp only [Act.put, List.setIfInBounds_toArray, List.set_cons_zero, List.set_cons_succ])
        obtain ⟨fn, tmps, assign, body, hy, hR⟩ := hY (waitG m mm (k * 8 + 2) j) (j : Int) w6 (hJ _ _ _ HJW.out (Keep.ofBelow bc)) hlen.out (fun i hi => hi.elim)
        refine wpAnyIS_ready (rs := [15]) (by kernel_rfl) (by simp) ?_
        refine AllReadyIS.cons rfl (fun K hK => ?_) AllReadyIS.nil
        replace hK := Lib.hid hK
        go_simp
        refine hR.mono ?_
        rintro e W3 ⟨rfl, hJ3, hk3⟩
        have hk4 := HKW.out.trans ((Keep.ofBelow bc).trans hk3)
        gi_wp2
        refine hK.out _ _ (SK2.out _ hk4) ?_
        clear hK K
        have hHeld := SK2.out _ hk4
        (try dsimp only [Act.put]); (try simp only [Act.put, List.setIfInBounds_toArray, List.set_cons_zero, List.set_cons_succ])
        refine wpAnyIS_take (i := 16) (oi := _) (v := ?_) rfl rfl (by kernel_rfl) (by kernel_rfl) (by kernel_rfl) (fun _ _ _ h => h) ⟨Or.inl ⟨by rfl, ?_⟩, fun _ => rfl⟩ (by assumption) ?_
        rotate_left
        · intro w hSw; (try dsimp only at hSw); go_simp; try with_reducible rfl
        (try simp only [Act.put, List.setIfInBounds_toArray, List.set_cons_zero, List.set_cons_succ])
        refine wpAnyIS_take (i := 17) (oi := _) (v := ?_) rfl rfl (by kernel_rfl) (by kernel_rfl) (by kernel_rfl) (fun _ _ _ h => h) ⟨Or.inl ⟨by rfl, ?_⟩, fun _ => rfl⟩ (by assumption) ?_
        rotate_left
        · intro w hSw; (try dsimp only at hSw); go_simp; try with_reducible rfl
        (try simp only [Act.put, List.setIfInBounds_toArray, List.set_cons_zero, List.set_cons_succ])
        refine wpAnyIS_done (by kernel_rfl) ?_ _
        gi_wp2
        go_roundw
        case rel => exact ⟨j + 1, HLT.out, by go_num, by rw [HYES.out]; exact hJ3, hk4⟩
        case measure => simp [intOf]; omega
      · have hno := Lib.hid (waitG_no (m := m) (mm := mm) (v := k * 8 + 2) (j := j) (by rw [hx]; intro e; exact hxv (Option.some.inj e)))
        have hbq : (x == k * 8 + 2) = false := by rw [beq_eq_false_iff_ne]; exact hxv
        have bd := bdrewP wr
        clear hx hin hjw hkw hlt
        obtain ⟨c0, c1, c2, c3, c4, c5, c6⟩ := SK.out _ bd
        gi_wp2
        refine wpIn_region_S (fun V => V.cell? ⟨G, 0, none⟩ = some (.int .i64 (m.t : Int)) ∧ V.cell? ⟨G, 1, none⟩ = some (.int .i64 (m.o : Int)) ∧ V.cell? ⟨G, 2, none⟩ = some (.int .i64 (m.n : Int)) ∧ V.cell? ⟨Bg, 0, none⟩ = some (pW G) ∧ V.cell? ⟨Ba, 0, none⟩ = some (.slice (some ⟨ga, 0, none⟩) mm.length ca) ∧ V.cell? ⟨Bn, 0, none⟩ = some (.int .i64 k) ∧ V.cell? ⟨ga, stateN m (j : Int), none⟩ = some (.int .u64 x)) (by kernel_rfl) ?_
        have hHeld := SK.out _ bd
        clear c0 c1 c2 c3 c4 c5 c6
        refine wpAnyIS_take (i := 0) (oi := _) (v := ?_) rfl rfl (by kernel_rfl) (by kernel_rfl) (by kernel_rfl) (fun _ _ _ h => h) ⟨Or.inl ⟨by rfl, ?_⟩, fun _ => rfl⟩ (by assumption) ?_
        rotate_left
        · intro w hSw; (try dsimp only at hSw); go_simp; try with_reducible rfl
        (try simp only [Act.put, List.setIfInBounds_toArray, List.set_cons_zero, List.set_cons_succ])
        refine wpAnyIS_take (i := 1) (oi := _) (v := ?_) rfl rfl (by kernel_rfl) (by kernel_rfl) (by kernel_rfl) (fun _ _ _ h => h) ⟨Or.inl ⟨by rfl, ?_⟩, fun _ => rfl⟩ (by assumption) ?_
        rotate_left
        · intro w hSw; (try dsimp only at hSw); go_simp; try with_reducible rfl
        (try simp only [Act.put, List.setIfInBounds_toArray, List.set_cons_zero, List.set_cons_succ])
        refine wpAnyIS_take (i := 2) (oi := _) (v := ?_) rfl rfl (by kernel_rfl) (by kernel_rfl) (by kernel_rfl) (fun _ _ _ h => h) ⟨Or.inl ⟨by rfl, ?_⟩, fun _ => rfl⟩ (by assumption) ?_
        rotate_left
        · intro w hSw; (try dsimp only at hSw); go_simp; try with_reducible rfl
        (try simp only [Act.put, List.setIfInBounds_toArray, List.set_cons_zero, List.set_cons_succ])
        refine wpAnyIS_take (i := 3) (oi := _) (v := ?_) rfl rfl (by kernel_rfl) (by kernel_rfl) (by kernel_rfl) (fun _ _ _ h => h) ⟨Or.inl ⟨by rfl, ?_⟩, fun _ => rfl⟩ (by assumption) ?_
        rotate_left
        · intro w hSw; (try dsimp only at hSw); go_simp; try with_reducible rfl
        (try simp only [Act.put, List.setIfInBounds_toArray, List.set_cons_zero, List.set_cons_succ])
        refine wpAnyIS_take (i := 4) (oi := _) (v := ?_) rfl rfl (by kernel_rfl) (by kernel_rfl) (by kernel_rfl) (fun _ _ _ h => h) ⟨Or.inl ⟨by rfl, ?_⟩, fun _ => rfl⟩ (by assumption) ?_
        rotate_left
        · intro w hSw; (try dsimp only at hSw); go_simp; try with_reducible rfl
        (try simp only [Act.put, List.setIfInBounds_toArray, List.set_cons_zero, List.set_cons_succ])
        refine wpAnyIS_take (i := 5) (oi := _) (v := ?_) rfl rfl (by kernel_rfl) (by kernel_rfl) (by kernel_rfl) (fun _ _ _ h => h) ⟨Or.inl ⟨by rfl, ?_⟩, fun _ => rfl⟩ (by assumption) ?_
        rotate_left
        · intro w hSw; (try dsimp only at hSw); go_simp; try with_reducible rfl
        (try simp only [Act.put, List.setIfInBounds_toArray, List.set_cons_zero, List.set_cons_succ])
        refine wpAnyIS_take (i := 9) (oi := _) (v := ?_) rfl rfl (by kernel_rfl) (by kernel_rfl) (by kernel_rfl) (fun _ _ _ h => h) ⟨Or.inl ⟨by rfl, ?_⟩, fun _ => rfl⟩ (by assumption) ?_
        rotate_left
        · intro w hSw; (try dsimp only at hSw); go_simp; try with_reducible rfl
        (try simp only [Act.put, List.setIfInBounds_toArray, List.set_cons_zero, List.set_cons_succ])
        refine wpAnyIS_ready (rs := [6]) (by kernel_rfl) (by simp) ?_
        refine AllReadyIS.cons rfl (fun K hK => ?_) AllReadyIS.nil
        replace hK := Lib.hid hK
        go_simp
        refine ⟨trivial, ?_⟩
        gi_at_call 48
        refine (callsIn_wide.2 (HSt.out _)).mono ?_
        rintro e w6 ⟨rfl, b6⟩
        clear hHeld
        have bc := Below.trans bd (Below.mono b6 bd.size)
        gi_wp2
        refine hK.out _ _ (SK.out _ bc) ?_
        clear hK K
        have hHeld := SK.out _ bc
        (try dsimp only [Act.put]); (try simp only [Act.put, List.setIfInBounds_toArray, List.set_cons_zero, List.set_cons_succ])
        refine wpAnyIS_take (i := 7) (oi := _) (v := ?_) rfl rfl (by kernel_rfl) (by kernel_rfl) (by kernel_rfl) (fun _ _ _ h => h) ⟨Or.inl ⟨by rfl, ?_⟩, fun _ => rfl⟩ (by assumption) ?_
        rotate_left
        · intro w hSw; (try dsimp only at hSw); go_simp; try with_reducible rfl
        (try simp only [Act.put, List.setIfInBounds_toArray, List.set_cons_zero, List.set_cons_succ])
        refine wpAnyIS_take (i := 8) (oi := _) (v := ?_) rfl rfl (by kernel_rfl) (by kernel_rfl) (by kernel_rfl) (fun _ _ _ h => h) ⟨Or.inl ⟨by rfl, ?_⟩, fun _ => rfl⟩ (by assumption) ?_
        rotate_left
        · intro w hSw; (try dsimp only at hSw); go_simp; try with_reducible rfl
        (try simp only [Act.put, List.setIfInBounds_toArray, List.set_cons_zero, List.set_cons_succ])
        refine wpAnyIS_ready (rs := [10]) (by kernel_rfl) (by simp) ?_
        refine AllReadyIS.cons rfl (fun K hK => ?_) AllReadyIS.nil
        replace hK := Lib.hid hK
        go_simp
        refine ⟨trivial, ?_⟩
        gi_at_call 49
        refine (callsIn_wide.2 (HSo.out _)).mono ?_
        rintro e w7 ⟨rfl, rfl⟩
        clear hHeld
        gi_wp2
        refine hK.out _ _ (SK.out _ bc) ?_
        clear hK K
        have hHeld := SK.out _ bc
        (try dsimp only [Act.put]); (try simp only [Act.put, List.setIfInBounds_toArray, List.set_cons_zero, List.set_cons_succ])
        refine wpAnyIS_take (i := 11) (oi := _) (v := ?_) rfl rfl (by kernel_rfl) (by kernel_rfl) (by kernel_rfl) (fun _ _ _ h => h) ⟨Or.inl ⟨by rfl, ?_⟩, fun _ => rfl⟩ (by assumption) ?_
        rotate_left
        · intro w hSw; (try dsimp only at hSw); go_simp; try with_reducible rfl
        (try simp only [Act.put, List.setIfInBounds_toArray, List.set_cons_zero, List.set_cons_succ])
        refine wpAnyIS_take (i := 12) (oi := _) (v := ?_) rfl rfl (by kernel_rfl) (by kernel_rfl) (by kernel_rfl) (fun _ _ _ h => h) ⟨Or.inl ⟨by rfl, ?_⟩, fun _ => rfl⟩ (by assumption) ?_
        rotate_left
        · intro w hSw; (try dsimp only at hSw); go_simp; try with_reducible rfl
        (try simp only [Act.put, List.setIfInBounds_toArray, List.set_cons_zero, List.set_cons_succ])
        refine wpAnyIS_take (i := 13) (oi := _) (v := _) rfl rfl (by kernel_rfl) (by kernel_rfl) (by kernel_rfl) (fun _ _ _ h => h) ⟨Or.inr ⟨by rfl, rfl⟩, fun _ => rfl⟩ (by assumption) ?_
        (try simp only [Act.put, List.setIfInBounds_toArray, List.set_cons_zero, List.set_cons_succ])
        refine wpAnyIS_take (i := 14) (oi := _) (v := _) rfl rfl (by kernel_rfl) (by kernel_rfl) (by kernel_rfl) (fun _ _ _ h => h) ⟨Or.inr ⟨by rfl, rfl⟩, fun _ => rfl⟩ (by assumption) ?_
        (try simp only [Act.put, List.setIfInBounds_toArray, List.set_cons_zero, List.set_cons_succ])
        refine wpAnyIS_take (i := 15) (oi := _) (v := _) rfl rfl (by kernel_rfl) (by kernel_rfl) (by kernel_rfl) (fun _ _ _ h => h) ⟨Or.inr ⟨by rfl, rfl⟩, fun _ => rfl⟩ (by assumption) ?_
        (try simp only [Act.put, List.setIfInBounds_toArray, List.set_cons_zero, List.set_cons_succ])
        refine wpAnyIS_take (i := 16) (oi := _) (v := _) rfl rfl (by kernel_rfl) (by kernel_rfl) (by kernel_rfl) (fun _ _ _ h => h) ⟨Or.inr ⟨by rfl, rfl⟩, fun _ => rfl⟩ (by assumption) ?_
        (try simp only [Act.put, List.setIfInBounds_toArray, List.set_cons_zero, List.set_cons_succ])
        refine wpAnyIS_take (i := 17) (oi := _) (v := ?_) rfl rfl (by kernel_rfl) (by kernel_rfl) (by kernel_rfl) (fun _ _ _ h => h) ⟨Or.inl ⟨by rfl, ?_⟩, fun _ => rfl⟩ (by assumption) ?_
        rotate_left
        · intro w hSw; (try dsimp only at hSw); go_simp; try with_reducible rfl
        (try simp only [Act.put, List.setIfInBounds_toArray, List.set_cons_zero, List.set_cons_succ])
        refine wpAnyIS_done (by kernel_rfl) ?_ _
        gi_wp2
        go_roundw
        case rel => exact ⟨j + 1, HLT.out, by go_num, by rw [hno.out]; exact hJ _ _ _ HJW.out (Keep.ofBelow bc), HKW.out.trans (Keep.ofBelow bc)⟩
        case measure => simp [intOf]; omega
    · obtain rfl : j = m.t := by omega
      gi_wp2
      go_end0
      exact ⟨⟨_, rfl⟩, hjw⟩
end Go.Proofs.YtbaehokffdpopaaGreat
