/- The document's own tasks (doorkeeperref06): the world, Can. -/
import Derived.Test.YtmkgbbbhmbejnaaTaskRefA
import Derived.Test.YtmkgbbbhmbejnaaCellsA
namespace Go.Proofs.Ytmkgbbbhmbejnaa
open Go.ChangeShapes Go.WideShapes Go.ChangeAt Go.RowKit
set_option linter.unusedVariables false
set_option maxRecDepth 100000
set_option linter.unusedSimpArgs false
def permV (ps : List Bool) : Array Value := (ps.map fun b => Value.int .i64 (if b then 1 else 0)).toArray
theorem permV_at {ps : List Bool} {i : Nat} {b : Bool} (h : ps[i]? = some b) : (permV ps)[i]? = some (.int .i64 (if b then 1 else 0)) := by simp [permV, h]
theorem permV_set (ps : List Bool) (i : Nat) (b : Bool) : (permV ps).setIfInBounds i (.int .i64 (if b then 1 else 0)) = permV (ps.set i b) := by
  simp [permV, List.map_set]
/-- the document's world -/
structure RWorld (w : World) (D C P : Nat) (m : List Int) (ps : List Bool) (n : Int) : Prop where
  own : ∃ cap, Blk w D 68 #[.slice (some ⟨C, 0, none⟩) m.length cap, .int .i64 n, .slice (some ⟨P, 0, none⟩) ps.length ps.length]
  cells : ∃ cur : Array Value, Blk w C 22 cur ∧ cur.toList.take m.length = m.map (Value.int .u64)
  perms : Blk w P 3 (permV ps)
  few : m.length = 4 ∧ ps.length = 3
  ne : D ≠ C ∧ D ≠ P ∧ C ≠ P
theorem RWorld.keep {w w1 : World} {D C P : Nat} {m : List Int} {ps : List Bool} {n : Int} {Q : Nat → Prop} (h : RWorld w D C P m ps n) (hk : Keep Q w w1) (h1 : ¬ Q D) (h2 : ¬ Q C) (h3 : ¬ Q P) : RWorld w1 D C P m ps n := by
  obtain ⟨cap, ho⟩ := h.own
  obtain ⟨cur, hc, ht⟩ := h.cells
  exact ⟨⟨cap, ho.keep hk h1⟩, ⟨cur, hc.keep hk h2, ht⟩, h.perms.keep hk h3, h.few, h.ne⟩
theorem RWorld.at {w : World} {D C P : Nat} {m : List Int} {ps : List Bool} {n : Int} (h : RWorld w D C P m ps n) {i : Nat} {c : Int} (hc : m[i]? = some c) : w.cell? ⟨C, i, none⟩ = some (.int .u64 c) ∧ w.frozen? ⟨C, i, none⟩ = false := by
  obtain ⟨cur, hb, ht⟩ := h.cells
  refine ⟨hb.cell i _ ?_, hb.free i⟩
  have hi := (List.getElem?_eq_some_iff.1 hc).1
  have : (cur.toList.take m.length)[i]? = some (.int .u64 c) := by rw [ht]; simp [hc]
  rw [List.getElem?_take_of_lt hi] at this
  simpa using this
/-- a struct of four cells is stored into a block, cell by cell -/
theorem store4 {W : World} {b : Nat} {t : TypeId} {x0 x1 x2 x3 : Value} (h : Blk W b t #[x0, x1, x2, x3]) (v0 v1 v2 v3 : Value) :
    (W.cell? ⟨b, 0, none⟩ = some x0 ∧ W.frozen? ⟨b, 0, none⟩ = false) ∧
    ((W.setCell ⟨b, 0, none⟩ v0).cell? ⟨b, 1, none⟩ = some x1 ∧ (W.setCell ⟨b, 0, none⟩ v0).frozen? ⟨b, 1, none⟩ = false) ∧
    (((W.setCell ⟨b, 0, none⟩ v0).setCell ⟨b, 1, none⟩ v1).cell? ⟨b, 2, none⟩ = some x2 ∧ ((W.setCell ⟨b, 0, none⟩ v0).setCell ⟨b, 1, none⟩ v1).frozen? ⟨b, 2, none⟩ = false) ∧
    ((((W.setCell ⟨b, 0, none⟩ v0).setCell ⟨b, 1, none⟩ v1).setCell ⟨b, 2, none⟩ v2).cell? ⟨b, 3, none⟩ = some x3 ∧ (((W.setCell ⟨b, 0, none⟩ v0).setCell ⟨b, 1, none⟩ v1).setCell ⟨b, 2, none⟩ v2).frozen? ⟨b, 3, none⟩ = false) ∧
    Blk ((((W.setCell ⟨b, 0, none⟩ v0).setCell ⟨b, 1, none⟩ v1).setCell ⟨b, 2, none⟩ v2).setCell ⟨b, 3, none⟩ v3) b t #[v0, v1, v2, v3] := by
  have h1 := h.set 0 v0
  have h2 := h1.set 1 v1
  have h3 := h2.set 2 v2
  have h4 := h3.set 3 v3
  exact ⟨⟨h.cell 0 _ rfl, h.free 0⟩, ⟨h1.cell 1 _ rfl, h1.free 1⟩, ⟨h2.cell 2 _ rfl, h2.free 2⟩, ⟨h3.cell 3 _ rfl, h3.free 3⟩, h4⟩
theorem Keep.set4 {Q : Nat → Prop} {a W : World} (h : Keep Q a W) {b : Nat} (hb : b < a.heap.size → Q b) (v0 v1 v2 v3 : Value) :
    Keep Q a ((((W.setCell ⟨b, 0, none⟩ v0).setCell ⟨b, 1, none⟩ v1).setCell ⟨b, 2, none⟩ v2).setCell ⟨b, 3, none⟩ v3) :=
  (((h.set (p := ⟨b, 0, none⟩) hb v0).set (p := ⟨b, 1, none⟩) hb v1).set (p := ⟨b, 2, none⟩) hb v2).set (p := ⟨b, 3, none⟩) hb v3
theorem rcan_any (T I D C P : Nat) (l r : List Itm) (x k n : Int) (m : List Int) (ps : List Bool) (w : World) (h : RTask w T I l r x) (hW : RWorld w D C P m ps n) :
    Calls Try.prog 58 #[ptrV T, ptrV D, .int .i64 k] w fun e w' => e = .returned (.bool (canS ps r k)) ∧ Keep (fun _ => False) w w' := by
  have H := Lib.hid fun W (hk : Keep (fun _ => False) w W) => rdone_any T I l r x W (h.keep hk (fun h => h) (fun h => h))
  have H2 := Lib.hid fun W (hk : Keep (fun _ => False) w W) => rparked_any T I l r x W (h.keep hk (fun h => h) (fun h => h))
  obtain ⟨v, hB, hI⟩ := h.own
  obtain ⟨a, cap, rfl, hs⟩ := hI.is
  have c0 : w.cell? ⟨T, 0, none⟩ = some (.slice a l.length cap) := hB.cell 0 _ rfl
  have c1 : w.cell? ⟨T, 1, none⟩ = some (.int .i64 ((l.length - r.length : Nat) : Int)) := hB.cell 1 _ rfl
  cases r with
  | nil =>
    clear hB hI hs h H2
    go_enter Try.func58, Try.ntmps58
    go_wp2_with (first | (go_at_call 56; refine (H.out _ (Keep.refl _ _)).mono ?_; rintro e w1 ⟨rfl, g1, rfl⟩))
    go_ret
    exact ⟨rfl, (Keep.refl _ _).drewN _⟩
  | cons y r =>
    obtain ⟨e1, e2, e3⟩ := suffix_at h.rest
    obtain rfl := hs (by omega)
    obtain ⟨q0, q1, q2, q3⟩ := hI.cell _ _ e1
    have hy := hI.ok y (List.mem_of_getElem? e1)
    have hfew := hI.few
    obtain ⟨cp, hO⟩ := hW.own
    have d2 : w.cell? ⟨D, 2, none⟩ = some (.slice (some ⟨P, 0, none⟩) ps.length ps.length) := hO.cell 2 _ rfl
    obtain ⟨hm, hp⟩ := hW.few
    rw [hp] at d2
    have hP := hW.perms
    clear hB hI hs h e1 e3 hO hW
    generalize l.length = n at *
    generalize n - (y :: r).length = i at *
    obtain ⟨yk, ya, yv, yb⟩ := y
    dsimp only at *
    by_cases hpk : yk = 5 ∨ yk = 6
    · have hpt : parkedS (⟨yk, ya, yv, yb⟩ :: r) = true := by simp [parkedS, hpk]
      rw [hpt] at H2
      have h3 := hy.park hpk
      dsimp only at h3
      obtain ⟨b, hb⟩ : ∃ b, ps[ya]? = some b := ⟨ps[ya]'(by omega), by simp⟩
      have pc := hP.cell ya _ (permV_at hb)
      have HB := Lib.hid hb
      clear hP hy hb hpt
      have ya3 : (ya : Int) < 3 := by omega
      go_enter Try.func58, Try.ntmps58
      go_wp2_with (first
        | (go_at_call 56; refine (H.out _ (Keep.refl _ _)).mono ?_; rintro e w1 ⟨rfl, g1, rfl⟩)
        | (go_at_call 57; refine (H2.out _ ((Keep.refl _ _).drewN _)).mono ?_; rintro e w1 ⟨rfl, g2, rfl⟩))
      have sK : ∀ W, Keep (fun _ => False) w W → (fun w' => w'.cell? ⟨T, 0, none⟩ = some (.slice (some ⟨I, 0, none⟩) n cap) ∧ w'.cell? ⟨T, 1, none⟩ = some (.int .i64 (i : Int)) ∧ w'.cell? ⟨I, i * 4, none⟩ = some (.int .i64 (yk : Int)) ∧ w'.cell? ⟨I, i * 4 + 1, none⟩ = some (.int .i64 (ya : Int)) ∧ w'.cell? ⟨I, i * 4 + 2, none⟩ = some (.int .u64 yv) ∧ w'.cell? ⟨I, i * 4 + 3, none⟩ = some (.int .u64 yb)) W := fun W hk => ⟨cell_keep c0 hk (fun h => h), cell_keep c1 hk (fun h => h), cell_keep q0 hk (fun h => h), cell_keep q1 hk (fun h => h), cell_keep q2 hk (fun h => h), cell_keep q3 hk (fun h => h)⟩
      refine wp_region_held_drew (S := (fun w' => w'.cell? ⟨T, 0, none⟩ = some (.slice (some ⟨I, 0, none⟩) n cap) ∧ w'.cell? ⟨T, 1, none⟩ = some (.int .i64 (i : Int)) ∧ w'.cell? ⟨I, i * 4, none⟩ = some (.int .i64 (yk : Int)) ∧ w'.cell? ⟨I, i * 4 + 1, none⟩ = some (.int .i64 (ya : Int)) ∧ w'.cell? ⟨I, i * 4 + 2, none⟩ = some (.int .u64 yv) ∧ w'.cell? ⟨I, i * 4 + 3, none⟩ = some (.int .u64 yb))) (by kernel_rfl) (sK _ ((Keep.refl _ _).drewN _).drew) (fun hHeld => ?_)
      refine wpAnyH_take (i := 0) (oi := _) (v := ?_) rfl (by kernel_rfl) (by kernel_rfl) (by kernel_rfl) (fun _ _ _ h => h) (Or.inl ⟨by rfl, ?_⟩) (by assumption) ?_
      rotate_left
      · intro w hSw; (try dsimp only at hSw); go_simp; try with_reducible rfl
      (try simp only [Act.put, List.setIfInBounds_toArray, List.set_cons_zero, List.set_cons_succ])
      refine wpAnyH_take (i := 1) (oi := _) (v := ?_) rfl (by kernel_rfl) (by kernel_rfl) (by kernel_rfl) (fun _ _ _ h => h) (Or.inl ⟨by rfl, ?_⟩) (by assumption) ?_
      rotate_left
      · intro w hSw; (try dsimp only at hSw); go_simp; try with_reducible rfl
      (try simp only [Act.put, List.setIfInBounds_toArray, List.set_cons_zero, List.set_cons_succ])
      refine wpAnyH_take (i := 2) (oi := _) (v := ?_) rfl (by kernel_rfl) (by kernel_rfl) (by kernel_rfl) (fun _ _ _ h => h) (Or.inl ⟨by rfl, ?_⟩) (by assumption) ?_
      rotate_left
      · intro w hSw; (try dsimp only at hSw); go_simp; try with_reducible rfl
      (try simp only [Act.put, List.setIfInBounds_toArray, List.set_cons_zero, List.set_cons_succ])
      refine wpAnyH_take (i := 3) (oi := _) (v := ?_) rfl (by kernel_rfl) (by kernel_rfl) (by kernel_rfl) (fun _ _ _ h => h) (Or.inl ⟨by rfl, ?_⟩) (by assumption) ?_
      rotate_left
      · intro w hSw; (try dsimp only at hSw); go_simp; try with_reducible rfl
      (try simp only [Act.put, List.setIfInBounds_toArray, List.set_cons_zero, List.set_cons_succ])
      refine wpAnyH_take (i := 4) (oi := _) (v := ?_) rfl (by kernel_rfl) (by kernel_rfl) (by kernel_rfl) (fun _ _ _ h => h) (Or.inl ⟨by rfl, ?_⟩) (by assumption) ?_
      rotate_left
      · intro w hSw; (try dsimp only at hSw); go_simp; try with_reducible rfl
      (try simp only [Act.put, List.setIfInBounds_toArray, List.set_cons_zero, List.set_cons_succ])
      refine wpAnyH_take (i := 5) (oi := _) (v := ?_) rfl (by kernel_rfl) (by kernel_rfl) (by kernel_rfl) (fun _ _ _ h => h) (Or.inl ⟨by rfl, ?_⟩) (by assumption) ?_
      rotate_left
      · intro w hSw; (try dsimp only at hSw); go_simp; try with_reducible rfl
      (try simp only [Act.put, List.setIfInBounds_toArray, List.set_cons_zero, List.set_cons_succ])
      refine wpAnyH_take (i := 6) (oi := _) (v := ?_) rfl (by kernel_rfl) (by kernel_rfl) (by kernel_rfl) (fun _ _ _ h => h) (Or.inl ⟨by rfl, ?_⟩) (by assumption) ?_
      rotate_left
      · intro w hSw; (try dsimp only at hSw); go_simp; try with_reducible rfl
      (try simp only [Act.put, List.setIfInBounds_toArray, List.set_cons_zero, List.set_cons_succ])
      refine wpAnyH_take (i := 7) (oi := _) (v := ?_) rfl (by kernel_rfl) (by kernel_rfl) (by kernel_rfl) (fun _ _ _ h => h) (Or.inl ⟨by rfl, ?_⟩) (by assumption) ?_
      rotate_left
      · intro w hSw; (try dsimp only at hSw); go_simp; try with_reducible rfl
      (try simp only [Act.put, List.setIfInBounds_toArray, List.set_cons_zero, List.set_cons_succ])
      refine wpAnyH_take (i := 8) (oi := _) (v := ?_) rfl (by kernel_rfl) (by kernel_rfl) (by kernel_rfl) (fun _ _ _ h => h) (Or.inl ⟨by rfl, ?_⟩) (by assumption) ?_
      rotate_left
      · intro w hSw; (try dsimp only at hSw); go_simp; try with_reducible rfl
      (try simp only [Act.put, List.setIfInBounds_toArray, List.set_cons_zero, List.set_cons_succ])
      refine wpAnyH_take (i := 9) (oi := _) (v := ?_) rfl (by kernel_rfl) (by kernel_rfl) (by kernel_rfl) (fun _ _ _ h => h) (Or.inl ⟨by rfl, ?_⟩) (by assumption) ?_
      rotate_left
      · intro w hSw; (try dsimp only at hSw); go_simp; try with_reducible rfl
      (try simp only [Act.put, List.setIfInBounds_toArray, List.set_cons_zero, List.set_cons_succ])
      refine wpAnyH_ready (rs := [10]) (by kernel_rfl) (by simp) ?_
      refine AllReadyH.cons rfl (fun K hK => ?_) AllReadyH.nil
      go_simp
      go_wp2_with fail
      refine hK.out _ _ (sK _ (((Keep.refl _ _).drewN _).alloc _)) (fun hHeld => ?_)
      clear hK K
      (try dsimp only [Act.put]); (try simp only [Act.put, List.setIfInBounds_toArray, List.set_cons_zero, List.set_cons_succ])
      have hA : Keep (fun _ => False) w ((w.drewN (g1 + g2 + 1)).alloc (.cells #[.int .i64 0, .int .i64 0, .int .u64 0, .int .u64 0] 72)) := ((Keep.refl _ _).drewN _).alloc _
      have hN : Blk ((w.drewN (g1 + g2 + 1)).alloc (.cells #[.int .i64 0, .int .i64 0, .int .u64 0, .int .u64 0] 72)) w.heap.size 72 #[.int .i64 0, .int .i64 0, .int .u64 0, .int .u64 0] := Blk.new _ _ _
      generalize ((w.drewN (g1 + g2 + 1)).alloc (.cells #[.int .i64 0, .int .i64 0, .int .u64 0, .int .u64 0] 72)) = W at *
      obtain ⟨⟨n0, n1⟩, ⟨n2, n3⟩, ⟨n4, n5⟩, ⟨n6, n7⟩, hX⟩ := store4 hN (.int .i64 yk) (.int .i64 ya) (.int .u64 yv) (.int .u64 yb)
      have kX := hA.set4 (b := w.heap.size) (fun h => by omega) (.int .i64 yk) (.int .i64 ya) (.int .u64 yv) (.int .u64 yb)
      clear hHeld
      refine wpAnyH_ready (rs := [11]) (by kernel_rfl) (by simp) ?_
      refine AllReadyH.cons rfl (fun K hK => ?_) AllReadyH.nil
      go_simp
      go_wp2_with fail
      refine hK.out _ _ (sK _ kX) (fun hHeld => ?_)
      clear hK K
      (try dsimp only [Act.put]); (try simp only [Act.put, List.setIfInBounds_toArray, List.set_cons_zero, List.set_cons_succ])
      refine wpAnyH_done (by kernel_rfl) ?_ _
      clear n0 n1 n2 n3 n4 n5 n6 n7 hN hA sK
      replace d2 := cell_keep d2 kX (fun h => h)
      replace pc := cell_keep pc kX (fun h => h)
      generalize ((((W.setCell ⟨w.heap.size, 0, none⟩ (.int .i64 yk)).setCell ⟨w.heap.size, 1, none⟩ (.int .i64 ya)).setCell ⟨w.heap.size, 2, none⟩ (.int .u64 yv)).setCell ⟨w.heap.size, 3, none⟩ (.int .u64 yb)) = X at *
      have x0 : X.cell? ⟨w.heap.size, 0, none⟩ = some (.int .i64 yk) := hX.cell 0 _ rfl
      have x1 : X.cell? ⟨w.heap.size, 1, none⟩ = some (.int .i64 ya) := hX.cell 1 _ rfl
      have ya0 : 0 ≤ (ya : Int) ∧ (ya : Int) < 3 := by omega
      clear hX q0 q1 q2 q3 c0 c1
      go_wp2
      · cases b
        all_goals
          simp only [if_true, if_false, Bool.false_eq_true, ↓reduceIte] at pc
          go_quiet (fail)
          go_wp2
          go_ret
          have hb := HB.out
          exact ⟨by simp_all [canS, List.getD_eq_getElem?_getD], kX.drewN _⟩
      · go_ret
        exact ⟨by simp_all [canS]; rw [Bool.eq_iff_iff]; simp; omega, kX⟩
      · go_ret
        exact ⟨by simp_all [canS], kX⟩
    · have hpt : parkedS (⟨yk, ya, yv, yb⟩ :: r) = false := by
        rw [not_or] at hpk
        simp [parkedS, hpk]
      rw [hpt] at H2
      have HP := Lib.hid hpk
      clear hP hy hpt hpk
      go_enter Try.func58, Try.ntmps58
      go_wp2_with (first
        | (go_at_call 56; refine (H.out _ (Keep.refl _ _)).mono ?_; rintro e w1 ⟨rfl, g1, rfl⟩)
        | (go_at_call 57; refine (H2.out _ ((Keep.refl _ _).drewN _)).mono ?_; rintro e w1 ⟨rfl, g2, rfl⟩))
      go_ret
      have hpk := HP.out
      exact ⟨by simp [canS, hpk], (Keep.refl _ _).drewN _⟩
end Go.Proofs.Ytmkgbbbhmbejnaa
