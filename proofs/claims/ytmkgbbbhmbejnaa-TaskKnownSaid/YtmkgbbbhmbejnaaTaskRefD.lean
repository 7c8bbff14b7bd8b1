/- The document's own tasks (doorkeeperref06): Step, New. (Written by tools/gen_refD.py.) -/
import Derived.Test.YtmkgbbbhmbejnaaTaskRefC
namespace Go.Proofs.Ytmkgbbbhmbejnaa
open Go.ChangeShapes Go.WideShapes Go.ChangeAt Go.RowKit
set_option linter.unusedVariables false
set_option maxRecDepth 100000
set_option linter.unusedSimpArgs false
theorem RTask.value {w : World} {T I : Nat} {l r : List Itm} {x : Int} (h : RTask w T I l r x) (v : Int) : RTask (w.setCell ⟨T, 2, none⟩ (.int .i64 v)) T I l r v := by
  obtain ⟨s, hb, hi⟩ := h.own
  exact ⟨⟨s, hb.set 2 _, hi.keep (Q := fun k => k = T) ((Keep.refl (fun k => k = T) w).set (p := ⟨T, 2, none⟩) (fun _ => rfl) _) (Ne.symm h.ne)⟩, h.rest, h.ne⟩
theorem RTask.next {w : World} {T I : Nat} {l r : List Itm} {y : Itm} {x : Int} (h : RTask w T I l (y :: r) x) : RTask (w.setCell ⟨T, 1, none⟩ (.int .i64 (((l.length - (y :: r).length : Nat) : Int) + 1))) T I l r x := by
  obtain ⟨s, hb, hi⟩ := h.own
  obtain ⟨e1, e2, e3⟩ := suffix_at h.rest
  refine ⟨⟨s, ?_, hi.keep (Q := fun k => k = T) ((Keep.refl (fun k => k = T) w).set (p := ⟨T, 1, none⟩) (fun _ => rfl) _) (Ne.symm h.ne)⟩, (List.suffix_cons y r).trans h.rest, h.ne⟩
  have := hb.set 1 (.int .i64 (((l.length - (y :: r).length : Nat) : Int) + 1))
  rw [e3]
  exact this
theorem rstep_no (T I D C P : Nat) (l r : List Itm) (x k n : Int) (m : List Int) (ps : List Bool) (w : World) (h : RTask w T I l r x) (hW : RWorld w D C P m ps n) (hk : canS ps r k = false) :
    Calls Try.prog 28 #[ptrV T, ptrV D, .int .i64 k] w fun e w' => e = .returned (.bool false) ∧ Keep (fun _ => False) w w' := by
  have H := Lib.hid (rcan_any T I D C P l r x k n m ps w h hW)
  rw [hk] at H
  clear h hW hk
  go_enter Try.func28, Try.ntmps28
  go_wp2_with (go_at_call 58; refine H.out.mono ?_; rintro e w1 ⟨rfl, kC⟩)
  go_ret
  exact ⟨rfl, kC⟩
set_option maxHeartbeats 4000000 in
theorem rstep_yes (T I D C P : Nat) (l r : List Itm) (x k n : Int) (m : List Int) (ps : List Bool) (w : World) (h : RTask w T I l r x) (hW : RWorld w D C P m ps n) (hne : T ≠ D ∧ T ≠ C ∧ T ≠ P ∧ I ≠ D ∧ I ≠ C ∧ I ≠ P) (hk : canS ps r k = true) (hn : 0 ≤ n ∧ n ≤ 1000) :
    Calls Try.prog 28 #[ptrV T, ptrV D, .int .i64 k] w fun e w' => e = .returned (.bool true) ∧ RTask w' T I l (stepS m ps r x k).2.2.1 (stepS m ps r x k).2.2.2 ∧
      RWorld w' D C P (stepS m ps r x k).1 (stepS m ps r x k).2.1 (n + stepCount m r) ∧ Keep (fun b => b = T ∨ b = D ∨ b = C ∨ b = P) w w' := by
  have H := Lib.hid (rcan_any T I D C P l r x k n m ps w h hW)
  rw [hk] at H
  cases r with
  | nil => simp [canS] at hk
  | cons y r =>
  have HK := Lib.hid hk
  clear hk
  obtain ⟨v, hB, hI⟩ := h.own
  obtain ⟨a, cap, rfl, hs⟩ := hI.is
  obtain ⟨e1, e2, e3⟩ := suffix_at h.rest
  obtain rfl := hs (by omega)
  have hy := hI.ok y (List.mem_of_getElem? e1)
  have hfew := hI.few
  have c0 : w.cell? ⟨T, 0, none⟩ = some (.slice (some ⟨I, 0, none⟩) l.length cap) := hB.cell 0 _ rfl
  have c1 : w.cell? ⟨T, 1, none⟩ = some (.int .i64 ((l.length - (y :: r).length : Nat) : Int)) := hB.cell 1 _ rfl
  obtain ⟨q0, q1, q2, q3⟩ := hI.cell _ _ e1
  have HT := Lib.hid h
  have HW := Lib.hid hW
  have HN := Lib.hid hne
  have HY := Lib.hid hy
  have hi : ((l.length - (y :: r).length : Nat) : Int) < 30 := by omega
  have hTlt := hB.lt
  clear hB hI hs h hW hne hy e1 e3
  obtain ⟨yk, ya, yv, yb⟩ := y
  dsimp only at q0 q1 q2 q3
  generalize hlen : l.length = nl at *
  generalize hidx : nl - (⟨yk, ya, yv, yb⟩ :: r : List Itm).length = i at *
  go_enter Try.func28, Try.ntmps28
  go_upto_region 3 with (go_at_call 58; refine H.out.mono ?_; rintro e w0 ⟨rfl, kC⟩)
  replace c0 := cell_keep c0 kC (fun h => h)
  replace c1 := cell_keep c1 kC (fun h => h)
  replace q0 := cell_keep q0 kC (fun h => h)
  replace q1 := cell_keep q1 kC (fun h => h)
  replace q2 := cell_keep q2 kC (fun h => h)
  replace q3 := cell_keep q3 kC (fun h => h)
  replace HT := Lib.hid (HT.out.keep kC (fun h => h) (fun h => h))
  replace HW := Lib.hid (HW.out.keep kC (fun h => h) (fun h => h) (fun h => h))
  replace hTlt := Nat.lt_of_lt_of_le hTlt kC.size
  clear H
  have sK : ∀ W : World, Keep (fun _ => False) w0 W → (fun w' => w'.cell? ⟨T, 0, none⟩ = some (.slice (some ⟨I, 0, none⟩) nl cap) ∧ w'.cell? ⟨T, 1, none⟩ = some (.int .i64 (i : Int)) ∧ w'.cell? ⟨I, i * 4, none⟩ = some (.int .i64 (yk : Int)) ∧ w'.cell? ⟨I, i * 4 + 1, none⟩ = some (.int .i64 (ya : Int)) ∧ w'.cell? ⟨I, i * 4 + 2, none⟩ = some (.int .u64 yv) ∧ w'.cell? ⟨I, i * 4 + 3, none⟩ = some (.int .u64 yb)) W := fun W hk => ⟨cell_keep c0 hk (fun h => h), cell_keep c1 hk (fun h => h), cell_keep q0 hk (fun h => h), cell_keep q1 hk (fun h => h), cell_keep q2 hk (fun h => h), cell_keep q3 hk (fun h => h)⟩
  refine wp_region_held_drew (S := (fun w' => w'.cell? ⟨T, 0, none⟩ = some (.slice (some ⟨I, 0, none⟩) nl cap) ∧ w'.cell? ⟨T, 1, none⟩ = some (.int .i64 (i : Int)) ∧ w'.cell? ⟨I, i * 4, none⟩ = some (.int .i64 (yk : Int)) ∧ w'.cell? ⟨I, i * 4 + 1, none⟩ = some (.int .i64 (ya : Int)) ∧ w'.cell? ⟨I, i * 4 + 2, none⟩ = some (.int .u64 yv) ∧ w'.cell? ⟨I, i * 4 + 3, none⟩ = some (.int .u64 yb))) (by kernel_rfl) (sK _ (Keep.refl _ _).drew) (fun hHeld => ?_)
  refine wpAnyH_take (i := 0) (oi := _) (v := ?_) rfl (by kernel_rfl) (by kernel_rfl) (by kernel_rfl) (fun _ _ _ h => h) (Or.inl ⟨by rfl, ?_⟩) (by assumption) ?_
  rotate_left
  · intro w hSw; (try dsimp only at hSw); go_simp; try with_reducible rfl
  (try simp only [Act.put, List.setIfInBounds_toArray, List.set_cons_zero, List.set_cons_succ])
  refine wpAnyH_take (i := 1) (oi := _) (v := ?_) rfl (by kernel_rfl) (by kernel_rfl) (by kernel_rfl) (fun _ _ _ h => h) (Or.inl ⟨by rfl, ?_⟩) (by assumption) ?_
  rotate_left
  · intro w hSw; (try dsimp only at hSw); go_simp; try with_reducible rfl
  (try simp only [Act.put, List.setIfInBounds_toArray, List.set_cons_zero, List.set_cons_succ])
  refine wpAnyH_take (i := 2) (oi := _) (v := ?_) rfl (by kernel_rfl) (by kernel_rfl) (by kernel_rfl) (fun _ _ _ h => h) (Or.inl ⟨by rfl, ?_⟩) (by assumption) ?_
  rotate_left
  · intro w hSw; (try dsimp only at hSw); go_simp; try with_reducible rfl
  (try simp only [Act.put, List.setIfInBounds_toArray, List.set_cons_zero, List.set_cons_succ])
  refine wpAnyH_take (i := 3) (oi := _) (v := ?_) rfl (by kernel_rfl) (by kernel_rfl) (by kernel_rfl) (fun _ _ _ h => h) (Or.inl ⟨by rfl, ?_⟩) (by assumption) ?_
  rotate_left
  · intro w hSw; (try dsimp only at hSw); go_simp; try with_reducible rfl
  (try simp only [Act.put, List.setIfInBounds_toArray, List.set_cons_zero, List.set_cons_succ])
  refine wpAnyH_take (i := 4) (oi := _) (v := ?_) rfl (by kernel_rfl) (by kernel_rfl) (by kernel_rfl) (fun _ _ _ h => h) (Or.inl ⟨by rfl, ?_⟩) (by assumption) ?_
  rotate_left
  · intro w hSw; (try dsimp only at hSw); go_simp; try with_reducible rfl
  (try simp only [Act.put, List.setIfInBounds_toArray, List.set_cons_zero, List.set_cons_succ])
  refine wpAnyH_take (i := 5) (oi := _) (v := ?_) rfl (by kernel_rfl) (by kernel_rfl) (by kernel_rfl) (fun _ _ _ h => h) (Or.inl ⟨by rfl, ?_⟩) (by assumption) ?_
  rotate_left
  · intro w hSw; (try dsimp only at hSw); go_simp; try with_reducible rfl
  (try simp only [Act.put, List.setIfInBounds_toArray, List.set_cons_zero, List.set_cons_succ])
  refine wpAnyH_take (i := 6) (oi := _) (v := ?_) rfl (by kernel_rfl) (by kernel_rfl) (by kernel_rfl) (fun _ _ _ h => h) (Or.inl ⟨by rfl, ?_⟩) (by assumption) ?_
  rotate_left
  · intro w hSw; (try dsimp only at hSw); go_simp; try with_reducible rfl
  (try simp only [Act.put, List.setIfInBounds_toArray, List.set_cons_zero, List.set_cons_succ])
  refine wpAnyH_take (i := 7) (oi := _) (v := ?_) rfl (by kernel_rfl) (by kernel_rfl) (by kernel_rfl) (fun _ _ _ h => h) (Or.inl ⟨by rfl, ?_⟩) (by assumption) ?_
  rotate_left
  · intro w hSw; (try dsimp only at hSw); go_simp; try with_reducible rfl
  (try simp only [Act.put, List.setIfInBounds_toArray, List.set_cons_zero, List.set_cons_succ])
  refine wpAnyH_take (i := 8) (oi := _) (v := ?_) rfl (by kernel_rfl) (by kernel_rfl) (by kernel_rfl) (fun _ _ _ h => h) (Or.inl ⟨by rfl, ?_⟩) (by assumption) ?_
  rotate_left
  · intro w hSw; (try dsimp only at hSw); go_simp; try with_reducible rfl
  (try simp only [Act.put, List.setIfInBounds_toArray, List.set_cons_zero, List.set_cons_succ])
  refine wpAnyH_take (i := 9) (oi := _) (v := ?_) rfl (by kernel_rfl) (by kernel_rfl) (by kernel_rfl) (fun _ _ _ h => h) (Or.inl ⟨by rfl, ?_⟩) (by assumption) ?_
  rotate_left
  · intro w hSw; (try dsimp only at hSw); go_simp; try with_reducible rfl
  (try simp only [Act.put, List.setIfInBounds_toArray, List.set_cons_zero, List.set_cons_succ])
  refine wpAnyH_ready (rs := [10]) (by kernel_rfl) (by simp) ?_
  refine AllReadyH.cons rfl (fun K hK => ?_) AllReadyH.nil
  go_simp
  go_wp2_with fail
  refine hK.out _ _ (sK _ ((Keep.refl _ _).alloc _).drew) (fun hHeld => ?_)
  clear hK K
  (try dsimp only [Act.put]); (try simp only [Act.put, List.setIfInBounds_toArray, List.set_cons_zero, List.set_cons_succ])
  have hA : Keep (fun _ => False) w0 (w0.alloc (.cells #[.int .i64 0, .int .i64 0, .int .u64 0, .int .u64 0] 72)).drew := ((Keep.refl _ _).alloc _).drew
  have hN : Blk (w0.alloc (.cells #[.int .i64 0, .int .i64 0, .int .u64 0, .int .u64 0] 72)).drew w0.heap.size 72 #[.int .i64 0, .int .i64 0, .int .u64 0, .int .u64 0] := Blk.new _ _ _
  generalize (w0.alloc (.cells #[.int .i64 0, .int .i64 0, .int .u64 0, .int .u64 0] 72)).drew = W at *
  obtain ⟨⟨n0, n1⟩, ⟨n2, n3⟩, ⟨n4, n5⟩, ⟨n6, n7⟩, hX⟩ := store4 hN (.int .i64 yk) (.int .i64 ya) (.int .u64 yv) (.int .u64 yb)
  have kX := hA.set4 (b := w0.heap.size) (fun h => by omega) (.int .i64 yk) (.int .i64 ya) (.int .u64 yv) (.int .u64 yb)
  clear hHeld
  refine wpAnyH_ready (rs := [11]) (by kernel_rfl) (by simp) ?_
  refine AllReadyH.cons rfl (fun K hK => ?_) AllReadyH.nil
  go_simp
  go_wp2_with fail
  refine hK.out _ _ (sK _ kX) (fun hHeld => ?_)
  clear hK K
  (try dsimp only [Act.put]); (try simp only [Act.put, List.setIfInBounds_toArray, List.set_cons_zero, List.set_cons_succ])
  refine wpAnyH_done (by kernel_rfl) ?_ _
  clear n0 n1 n2 n3 n4 n5 n6 n7 hN hA sK hHeld
  generalize ((((W.setCell ⟨w0.heap.size, 0, none⟩ (.int .i64 yk)).setCell ⟨w0.heap.size, 1, none⟩ (.int .i64 ya)).setCell ⟨w0.heap.size, 2, none⟩ (.int .u64 yv)).setCell ⟨w0.heap.size, 3, none⟩ (.int .u64 yb)) = X at *
  replace HT := Lib.hid (HT.out.keep kX (fun h => h) (fun h => h))
  replace HW := Lib.hid (HW.out.keep kX (fun h => h) (fun h => h) (fun h => h))
  replace kC := kC.trans kX
  clear q0 q1 q2 q3 c0 c1 kX
  generalize w0.heap.size = b at *
  have H2 := Lib.hid (rparked_any T I l _ x X HT.out)
  by_cases hpk : yk = 5 ∨ yk = 6
  · have hpt : parkedS (⟨yk, ya, yv, yb⟩ :: r) = true := by simp [parkedS, hpk]
    rw [hpt] at H2
    have h3 := HY.out.park hpk
    dsimp only at h3
    go_upto_region 5 with (first
      | (go_at_call 57; refine H2.out.mono ?_; rintro e w1 ⟨rfl, g1, rfl⟩))
    replace kC := (kC.drewN g1).mono (Q' := fun b => b = T ∨ b = D ∨ b = C ∨ b = P) (fun _ _ h => h.elim)
    have kg : Keep (fun _ => False) X (X.drewN g1) := (Keep.refl _ _).drewN _
    replace HT := Lib.hid (HT.out.keep kg (fun h => h) (fun h => h))
    replace HW := Lib.hid (HW.out.keep kg (fun h => h) (fun h => h) (fun h => h))
    have x1 : (X.drewN g1).cell? ⟨b, 1, none⟩ = some (.int .i64 ya) := hX.cell 1 _ rfl
    clear kg H2 hX
    generalize X.drewN g1 = X1 at *
    by_cases hk0 : k = 0
    · subst hk0
      obtain ⟨cp, hO⟩ := HW.out.own
      obtain ⟨hm4, hp3⟩ := HW.out.few
      have d2 : X1.cell? ⟨D, 2, none⟩ = some (.slice (some ⟨P, 0, none⟩) 3 3) := by have := hO.cell 2 _ rfl; rw [hp3] at this; exact this
      obtain ⟨pb, hpb⟩ : ∃ pb, ps[ya]? = some pb := ⟨ps[ya]'(by omega), by simp⟩
      have pc := HW.out.perms.cell ya _ (permV_at hpb)
      have pz := HW.out.perms.free ya
      have ya3 : 0 ≤ (ya : Int) ∧ (ya : Int) < 3 := by omega
      clear hO hpb
      go_upto_region 6 with fail
      go_still_tail 7, (by kernel_rfl)
      change wpList _ _ _ _ _ X1.drew
      replace HT := Lib.hid (HT.out.keep (Q := fun _ => False) (w1 := X1.drew) (Keep.refl _ _).drew (fun h => h) (fun h => h))
      replace HW := Lib.hid (HW.out.keep (Q := fun _ => False) (w1 := X1.drew) (Keep.refl _ _).drew (fun h => h) (fun h => h) (fun h => h))
      replace kC := kC.drew
      replace pc : X1.drew.cell? _ = _ := pc
      replace pz : X1.drew.frozen? _ = _ := pz
      clear d2 x1
      generalize X1.drew = X2 at *
      go_upto_region 7 with fail
      replace HT := Lib.hid (HT.out.keep (Q := fun k => k = P) ((Keep.refl (fun k => k = P) _).set (p := ⟨P, ya, none⟩) (fun _ => rfl) (.int .i64 0)) HN.out.2.2.1 HN.out.2.2.2.2.2)
      replace HW := Lib.hid (HW.out.grant ya false)
      replace kC := kC.set (p := ⟨P, ya, none⟩) (fun _ => Or.inr (Or.inr (Or.inr rfl))) (.int .i64 0)
      simp only [Bool.false_eq_true, if_false, ↓reduceIte] at HW
      clear pc pz
      generalize X2.setCell ⟨P, ya, none⟩ (.int .i64 0) = X3 at *
      obtain ⟨sT, hBT, hIT⟩ := HT.out.own
      have z2 := hBT.free 2
      have c2 := hBT.cell 2 _ rfl
      clear hBT hIT
      go_upto_region 12 with fail
      replace HT := Lib.hid (HT.out.value 0)
      replace HW := Lib.hid (HW.out.keep (Q := fun k => k = T) ((Keep.refl (fun k => k = T) _).set (p := ⟨T, 2, none⟩) (fun _ => rfl) (.int .i64 0)) (Ne.symm HN.out.1) (Ne.symm HN.out.2.1) (Ne.symm HN.out.2.2.1))
      replace kC := kC.set (p := ⟨T, 2, none⟩) (fun _ => Or.inl rfl) (.int .i64 0)
      clear z2 c2
      generalize X3.setCell ⟨T, 2, none⟩ (.int .i64 0) = Y at *
      obtain ⟨sT, hBT, hIT⟩ := HT.out.own
      have z1 := hBT.free 1
      have c1 : Y.cell? ⟨T, 1, none⟩ = some (.int .i64 i) := by have := hBT.cell 1 _ rfl; rw [hlen, hidx] at this; exact this
      clear hBT hIT
      go_upto_region 13 with fail
      replace HT := Lib.hid HT.out.next
      rw [hlen, hidx] at HT
      replace HW := Lib.hid (HW.out.keep (Q := fun k => k = T) ((Keep.refl (fun k => k = T) _).set (p := ⟨T, 1, none⟩) (fun _ => rfl) (.int .i64 ((i : Int) + 1))) (Ne.symm HN.out.1) (Ne.symm HN.out.2.1) (Ne.symm HN.out.2.2.1))
      replace kC := kC.set (p := ⟨T, 1, none⟩) (fun _ => Or.inl rfl) (.int .i64 ((i : Int) + 1))
      clear z1 c1
      generalize Y.setCell ⟨T, 1, none⟩ (.int .i64 ((i : Int) + 1)) = Z at *
      have HO := Lib.hid (on_any T I l _ 0 Z HT.out)
      clear HT
      go_wp2_with (go_at_call 55; refine HO.out.mono ?_; rintro e w9 ⟨rfl, hT9, k9⟩)
      go_ret
      replace HW := HW.out.keep k9 (Ne.symm HN.out.1) (Ne.symm HN.out.2.1) (Ne.symm HN.out.2.2.1)
      replace kC := kC.step k9 (fun _ _ h => Or.inl h)
      have hst : stepS m ps (⟨yk, ya, yv, yb⟩ :: r) x 0 = (m, ps.set ya false, onS r 0) := by simp [stepS, hpk]
      have hct : stepCount m (⟨yk, ya, yv, yb⟩ :: r) = 0 := by simp [stepCount, hpk]
      rw [hst, hct, Int.add_zero]
      exact ⟨rfl, hT9, HW, kC⟩
    · have hk0' : ¬ k = 0 := hk0
      obtain ⟨sT, hBT, hIT⟩ := HT.out.own
      have z2 := hBT.free 2
      have c2 := hBT.cell 2 _ rfl
      clear hBT hIT
      go_upto_region 12 with fail
      replace HT := Lib.hid (HT.out.value k)
      replace HW := Lib.hid (HW.out.keep (Q := fun k => k = T) ((Keep.refl (fun k => k = T) _).set (p := ⟨T, 2, none⟩) (fun _ => rfl) (.int .i64 k)) (Ne.symm HN.out.1) (Ne.symm HN.out.2.1) (Ne.symm HN.out.2.2.1))
      replace kC := kC.set (p := ⟨T, 2, none⟩) (fun _ => Or.inl rfl) (.int .i64 k)
      clear z2 c2
      generalize X1.setCell ⟨T, 2, none⟩ (.int .i64 k) = Y at *
      obtain ⟨sT, hBT, hIT⟩ := HT.out.own
      have z1 := hBT.free 1
      have c1 : Y.cell? ⟨T, 1, none⟩ = some (.int .i64 i) := by have := hBT.cell 1 _ rfl; rw [hlen, hidx] at this; exact this
      clear hBT hIT
      go_upto_region 13 with fail
      replace HT := Lib.hid HT.out.next
      rw [hlen, hidx] at HT
      replace HW := Lib.hid (HW.out.keep (Q := fun k => k = T) ((Keep.refl (fun k => k = T) _).set (p := ⟨T, 1, none⟩) (fun _ => rfl) (.int .i64 ((i : Int) + 1))) (Ne.symm HN.out.1) (Ne.symm HN.out.2.1) (Ne.symm HN.out.2.2.1))
      replace kC := kC.set (p := ⟨T, 1, none⟩) (fun _ => Or.inl rfl) (.int .i64 ((i : Int) + 1))
      clear z1 c1
      generalize Y.setCell ⟨T, 1, none⟩ (.int .i64 ((i : Int) + 1)) = Z at *
      have HO := Lib.hid (on_any T I l _ k Z HT.out)
      clear HT
      go_wp2_with (go_at_call 55; refine HO.out.mono ?_; rintro e w9 ⟨rfl, hT9, k9⟩)
      go_ret
      replace HW := HW.out.keep k9 (Ne.symm HN.out.1) (Ne.symm HN.out.2.1) (Ne.symm HN.out.2.2.1)
      replace kC := kC.step k9 (fun _ _ h => Or.inl h)
      have hst : stepS m ps (⟨yk, ya, yv, yb⟩ :: r) x k = (m, ps, onS r k) := by simp [stepS, hpk, hk0]
      have hct : stepCount m (⟨yk, ya, yv, yb⟩ :: r) = 0 := by simp [stepCount, hpk]
      rw [hst, hct, Int.add_zero]
      exact ⟨rfl, hT9, HW, kC⟩
  · have hpt : parkedS (⟨yk, ya, yv, yb⟩ :: r) = false := by
      rw [not_or] at hpk
      simp [parkedS, hpk]
    rw [hpt] at H2
    have HPK := Lib.hid hpk
    replace kC := kC.mono (Q' := fun b => b = T ∨ b = D ∨ b = C ∨ b = P) (fun _ _ h => h.elim)
    have hD := HN.out
    clear hpt hpk
    go_upto_region 8 with (first
      | (go_at_call 57; refine H2.out.mono ?_; rintro e w1 ⟨rfl, g1, rfl⟩))
    replace kC := kC.drewN g1
    have kg : Keep (fun _ => False) X (X.drewN g1) := (Keep.refl _ _).drewN _
    replace HT := Lib.hid (HT.out.keep kg (fun h => h) (fun h => h))
    replace HW := Lib.hid (HW.out.keep kg (fun h => h) (fun h => h) (fun h => h))
    have x0 : (X.drewN g1).cell? ⟨b, 0, none⟩ = some (.int .i64 yk) := hX.cell 0 _ rfl
    have x1 : (X.drewN g1).cell? ⟨b, 1, none⟩ = some (.int .i64 ya) := hX.cell 1 _ rfl
    have x2 : (X.drewN g1).cell? ⟨b, 2, none⟩ = some (.int .u64 yv) := hX.cell 2 _ rfl
    have x3 : (X.drewN g1).cell? ⟨b, 3, none⟩ = some (.int .u64 yb) := hX.cell 3 _ rfl
    clear kg H2 hX
    generalize X.drewN g1 = X1 at *
    have HO := Lib.hid (rop_any D C P n m ps ⟨yk, ya, yv, yb⟩ X1 HW.out HY.out hn)
    have hst : stepS m ps (⟨yk, ya, yv, yb⟩ :: r) x k = (if (operS m ⟨yk, ya, yv, yb⟩).2.2 then ((operS m ⟨yk, ya, yv, yb⟩).1, ps, onS r (operS m ⟨yk, ya, yv, yb⟩).2.1) else ((operS m ⟨yk, ya, yv, yb⟩).1, ps, ⟨yk, ya, yv, yb⟩ :: r, x)) := by
      have := HPK.out; simp [stepS, this]
    have hct : stepCount m (⟨yk, ya, yv, yb⟩ :: r) = countS m ⟨yk, ya, yv, yb⟩ := by
      have := HPK.out; simp [stepCount, this]
    have HST := Lib.hid hst
    have HCT := Lib.hid hct
    clear hst hct
    go_upto_region 9 with (first
      | (go_at_call 63; refine HO.out.mono ?_; rintro e w2 ⟨rfl, hW2, k2⟩))
    replace HT := Lib.hid (HT.out.keep k2 (fun h => h.elim hD.1 hD.2.1) (fun h => h.elim hD.2.2.2.1 hD.2.2.2.2.1))
    replace kC := kC.step k2 (fun _ _ h => h.elim (fun h => Or.inr (Or.inl h)) (fun h => Or.inr (Or.inr (Or.inl h))))
    replace HW := Lib.hid hW2
    clear hW2 k2 HO x0 x1 x2 x3
    generalize operS m ⟨yk, ya, yv, yb⟩ = o at *
    obtain ⟨o1, o2, o3⟩ := o
    dsimp only at *
    cases o3
    · go_wp2
      go_ret
      rw [HST.out, HCT.out]
      exact ⟨rfl, HT.out, HW.out, kC⟩
    · go_upto_region 11 with fail
      obtain ⟨sT, hBT, hIT⟩ := HT.out.own
      have z2 := hBT.free 2
      have c2 := hBT.cell 2 _ rfl
      clear hBT hIT
      go_upto_region 12 with fail
      replace HT := Lib.hid (HT.out.value o2)
      replace HW := Lib.hid (HW.out.keep (Q := fun k => k = T) ((Keep.refl (fun k => k = T) _).set (p := ⟨T, 2, none⟩) (fun _ => rfl) (.int .i64 o2)) (Ne.symm HN.out.1) (Ne.symm HN.out.2.1) (Ne.symm HN.out.2.2.1))
      replace kC := kC.set (p := ⟨T, 2, none⟩) (fun _ => Or.inl rfl) (.int .i64 o2)
      clear z2 c2
      generalize w2.setCell ⟨T, 2, none⟩ (.int .i64 o2) = Y at *
      obtain ⟨sT, hBT, hIT⟩ := HT.out.own
      have z1 := hBT.free 1
      have c1 : Y.cell? ⟨T, 1, none⟩ = some (.int .i64 i) := by have := hBT.cell 1 _ rfl; rw [hlen, hidx] at this; exact this
      clear hBT hIT
      go_upto_region 13 with fail
      replace HT := Lib.hid HT.out.next
      rw [hlen, hidx] at HT
      replace HW := Lib.hid (HW.out.keep (Q := fun k => k = T) ((Keep.refl (fun k => k = T) _).set (p := ⟨T, 1, none⟩) (fun _ => rfl) (.int .i64 ((i : Int) + 1))) (Ne.symm HN.out.1) (Ne.symm HN.out.2.1) (Ne.symm HN.out.2.2.1))
      replace kC := kC.set (p := ⟨T, 1, none⟩) (fun _ => Or.inl rfl) (.int .i64 ((i : Int) + 1))
      clear z1 c1
      generalize Y.setCell ⟨T, 1, none⟩ (.int .i64 ((i : Int) + 1)) = Z at *
      have HO := Lib.hid (on_any T I l _ o2 Z HT.out)
      clear HT
      go_wp2_with (go_at_call 55; refine HO.out.mono ?_; rintro e w9 ⟨rfl, hT9, k9⟩)
      go_ret
      replace HW := HW.out.keep k9 (Ne.symm HN.out.1) (Ne.symm HN.out.2.1) (Ne.symm HN.out.2.2.1)
      replace kC := kC.step k9 (fun _ _ h => Or.inl h)
      rw [HST.out, HCT.out]
      exact ⟨rfl, hT9, HW, kC⟩
theorem rnew_any (I : Nat) (v : Value) (l : List Itm) (w : World) (h : ItemsAt w I v l) (hI : I < w.heap.size) :
    Calls Try.prog 23 #[v] w fun e w' => e = .returned (ptrV w.heap.size) ∧ RTask w' w.heap.size I l (onS l 0).1 (onS l 0).2 ∧ Below w.heap.size w w' := by
  obtain ⟨a, cap, rfl, hs⟩ := h.is
  have H := Lib.hid (on_any w.heap.size I l l 0 (w.alloc (.cells #[.slice a l.length cap, .int .i64 0, .int .i64 0] 95))
    ⟨⟨_, by rw [Nat.sub_self]; exact Blk.new _ _ _, h.keep (Q := fun _ => False) ((Keep.refl _ _).alloc _) (fun h => h)⟩, List.suffix_refl _, by omega⟩)
  clear hs h
  go_enter Try.func23, Try.ntmps23
  go_wp2_with (go_at_call 55; refine H.out.mono ?_; rintro e w9 ⟨rfl, hT9, k9⟩)
  go_ret
  exact ⟨rfl, hT9, ((Below.refl _ w).alloc (Nat.le_refl _) _).trans (k9.below (by simp) (fun i _ h => by omega))⟩
end Go.Proofs.Ytmkgbbbhmbejnaa
