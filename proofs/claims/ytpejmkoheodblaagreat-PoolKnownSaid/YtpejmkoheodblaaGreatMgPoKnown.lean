/- Layer 11's laws: PoolKnown. -/
import Derived.Test.YtpejmkoheodblaaGreatMgPoC
namespace Go.Proofs.YtpejmkoheodblaaGreat
open Go.ChangeShapes Go.WideShapes Go.ChangeAt Go.RowKit
set_option linter.unusedVariables false
set_option maxRecDepth 100000
set_option linter.unusedSimpArgs false
abbrev mOne : Mp := ⟨1, 1, 0⟩
abbrev V4k : Value := .agg #[.int .i64 3, .int .i64 2, .int .i64 4096]
theorem mOne_ok : mOne.ok := ⟨by show 1 ≤ 1 ∧ 1 ≤ 32766; omega, by show 1 ≤ 1 ∧ 1 ≤ 65536; omega, by show 0 ≤ 4096; omega⟩
abbrev VOne : Value := .agg #[.int .i64 1, .int .i64 1, .int .i64 0]
abbrev badCs : Array Value := #[.int .i64 0, .int .i64 0, .int .i64 0, .int .i64 1, .int .i64 0, .int .i64 0, .int .i64 0, .int .i64 1, .int .i64 0, .int .i64 1, .int .i64 1, .int .i64 (-1), .int .i64 32768, .int .i64 1, .int .i64 0, .int .i64 1, .int .i64 65537, .int .i64 0, .int .i64 1, .int .i64 1, .int .i64 4097, .int .i64 1, .int .i64 1, .int .i64 1]
/-- maps that may not be, or that nine cells are too few for -/
def BadM (t o k : Int) : Prop := rightS t o k = false ∨ (t = 1 ∧ o = 1 ∧ k = 1)
theorem bad_at (I : Nat) (hI : I < 8) : ∃ t o k : Int, badCs[I * 3]? = some (.int .i64 t) ∧ badCs[I * 3 + 1]? = some (.int .i64 o) ∧ badCs[I * 3 + 2]? = some (.int .i64 k) ∧ BadM t o k := by
  match I, hI with
  | 0, _ => exact ⟨0, 0, 0, rfl, rfl, rfl, .inl (by decide)⟩
  | 1, _ => exact ⟨1, 0, 0, rfl, rfl, rfl, .inl (by decide)⟩
  | 2, _ => exact ⟨0, 1, 0, rfl, rfl, rfl, .inl (by decide)⟩
  | 3, _ => exact ⟨1, 1, -1, rfl, rfl, rfl, .inl (by decide)⟩
  | 4, _ => exact ⟨32768, 1, 0, rfl, rfl, rfl, .inl (by decide)⟩
  | 5, _ => exact ⟨1, 65537, 0, rfl, rfl, rfl, .inl (by decide)⟩
  | 6, _ => exact ⟨1, 1, 4097, rfl, rfl, rfl, .inl (by decide)⟩
  | 7, _ => exact ⟨1, 1, 1, rfl, rfl, rfl, .inr ⟨rfl, rfl, rfl⟩⟩
abbrev mBig : Mp := ⟨1, 1, 1⟩
theorem mBig_ok : mBig.ok := ⟨by show 1 ≤ 1 ∧ 1 ≤ 32766; omega, by show 1 ≤ 1 ∧ 1 ≤ 65536; omega, by show 1 ≤ 4096; omega⟩
theorem bad_lay (cv : Value) (t o k : Int) (w : World) (h : BadM t o k) (hL : ∀ W, Below w.heap.size w W → Calls Tryz.prog 52 #[cv] W fun e w' => e = .returned (.int .i64 ((9 : Nat) : Int)) ∧ Below W.heap.size W w') :
    Calls Tryz.prog 31 #[cv, .agg #[.int .i64 t, .int .i64 o, .int .i64 k]] w fun e w' => e = .returned (.bool false) ∧ Below w.heap.size w w' := by
  rcases h with h | ⟨rfl, rfl, rfl⟩
  · exact lay_bad cv t o k 9 w h hL
  · exact lay_no cv mBig 9 w mBig_ok hL (by decide)
theorem bad_right (t o k : Int) (h : BadM t o k) (w : World) : Calls Tryz.prog 62 #[.int .i64 ((9 : Nat) : Int), .agg #[.int .i64 t, .int .i64 o, .int .i64 k]] w fun e w' => e = .returned (.bool false) ∧ Below w.heap.size w w' := by
  rcases h with h | ⟨rfl, rfl, rfl⟩
  · exact pright_no _ t o k w h
  · exact pright_yes mBig ((9 : Nat) : Int) w mBig_ok
theorem bad_free (C S : Nat) (mm : List Int) (n t o k : Int) (h : BadM t o k) (hl : mm.length = 9) (w : World) (hC : CellsAt w C S mm n) :
    Calls Tryz.prog 38 #[cellsV C, .agg #[.int .i64 t, .int .i64 o, .int .i64 k]] w fun e w' => e = .returned (.slice none 0 0) ∧ Below w.heap.size w w' := by
  refine free_no (cellsV C) t o k w fun W hW => ?_
  refine (allR_any C S mm n W (hC.keep (Keep.ofBelow (Q := fun _ => False) hW) (fun h => h) (fun h => h)) (fun e => by rw [e] at hl; simp at hl)).mono ?_
  rintro e w' ⟨g, cap, rfl, _, _, _, hb⟩
  exact ⟨_, _, _, rfl, hb, fun V => by rw [hl]; exact bad_right t o k h V⟩
theorem nil_lay (w : World) : Calls Tryz.prog 31 #[.pointer none, VOne] w fun e w' => e = .returned (.bool false) ∧ Below w.heap.size w w' :=
  lay_no (.pointer none) mOne 0 w mOne_ok (fun W _ => len_nil W) (by decide)
theorem nil_free (w : World) : Calls Tryz.prog 38 #[.pointer none, VOne] w fun e w' => e = .returned (.slice none 0 0) ∧ Below w.heap.size w w' := by
  refine free_no (.pointer none) 1 1 0 w fun W hW => ?_
  refine (all_nil W).mono ?_
  rintro e w' ⟨rfl, hb⟩
  exact ⟨_, _, _, rfl, hb, fun V => pright_yes mOne ((0 : Nat) : Int) V mOne_ok⟩
set_option maxHeartbeats 8000000 in
theorem known11_law (w : World) : Calls Tryz.prog 7 #[] w fun e w' => e = .returned (.bool true) ∧ Below w.heap.size w w' := by
  have HSz := Lib.hid (show ∀ V, Calls Tryz.prog 10 #[VOne] V fun e w' => e = .returned (.int .i64 9) ∧ Below V.heap.size V w' from fun V => size_any mOne V mOne_ok)
  have HNw := Lib.hid (show ∀ V, Calls Tryz.prog 9 #[.int .i64 9] V fun e w' => e = .returned (cellsV (V.heap.size + 1)) ∧ CellsAt w' (V.heap.size + 1) V.heap.size (List.replicate 9 0) 0 ∧ Below V.heap.size V w' from fun V => new_some 9 V (by omega))
  go_enter Tryz.func7, Tryz.ntmps7
  go_upto_region 2 with fail
  have m1 : Blk (w.alloc (.cells #[.int .i64 1, .int .i64 1, .int .i64 0] 24)) w.heap.size 24 #[.int .i64 1, .int .i64 1, .int .i64 0] := Blk.new w _ _
  have hb1 : Below w.heap.size w (w.alloc (.cells #[.int .i64 1, .int .i64 1, .int .i64 0] 24)) := (Below.refl _ w).alloc (Nat.le_refl _) _
  generalize w.alloc (.cells #[.int .i64 1, .int .i64 1, .int .i64 0] 24) = V at *
  have d0 := m1.cell 0 _ rfl
  have d1 := m1.cell 1 _ rfl
  have d2 := m1.cell 2 _ rfl
  go_upto_region 3 with (first
    | (go_at_call 10; (with_reducible refine (HSz.out _).mono ?_); rintro e w2 ⟨rfl, b2⟩)
    | (go_at_call 9; (with_reducible refine (HNw.out _).mono ?_); rintro e w3 ⟨rfl, hC, b3⟩))
  -- behind cNew
  have MV := m1.below (b2.trans (b3.mono b2.size)) m1.lt
  have HMC := Lib.hid (show w.heap.size ≠ w2.heap.size + 1 ∧ w.heap.size ≠ w2.heap.size from ⟨by have := m1.lt; have := b2.size; omega, by have := m1.lt; have := b2.size; omega⟩)
  have HCS := Lib.hid (show ∀ i, ofCells (w2.heap.size + 1) w2.heap.size i → w.heap.size ≤ i from fun i hi => by have := b2.size; have := hb1.size; rcases hi with hi | hi <;> omega)
  have HB := Lib.hid (hb1.trans ((b2.trans (b3.mono b2.size)).mono hb1.size))
  clear d0 d1 d2 m1 b2 b3 hb1
  generalize w2.heap.size + 1 = C at *
  generalize w2.heap.size = S at *
  have bd := bdrewP w3
  have hCd := hC.keep (Keep.ofBelow (Q := fun _ => False) bd) (fun h => h) (fun h => h)
  have MD := MV.below bd MV.lt
  have SK := Lib.hid (show ∀ A, Blk A w.heap.size 24 #[.int .i64 1, .int .i64 1, .int .i64 0] → A.cell? ⟨w.heap.size, 0, none⟩ = some (.int .i64 1) ∧ A.cell? ⟨w.heap.size, 1, none⟩ = some (.int .i64 1) ∧ A.cell? ⟨w.heap.size, 2, none⟩ = some (.int .i64 0) from fun A h => ⟨h.cell 0 _ rfl, h.cell 1 _ rfl, h.cell 2 _ rfl⟩)
  have HLa := Lib.hid (show ∀ W, Calls Tryz.prog 43 #[VOne] W fun e w' => e = .returned (.int .i64 0) ∧ Below W.heap.size W w' from fun W => latch_any mOne W)
  have HLy := Lib.hid (show Calls Tryz.prog 31 #[cellsV C, VOne] w3.drew fun e w' => e = .returned (.bool true) ∧ AftP w3.drew w' C S mOne 0 [] gZ from by
    refine (lay_any C S mOne (List.replicate 9 0) 0 w3.drew mOne_ok hCd (by decide) (by omega)).mono ?_
    rintro e w' ⟨rfl, h1, h2⟩
    exact ⟨rfl, ⟨_, _, ⟨h1, layL_pfree (m := mOne) (by decide), layL_gens (m := mOne) (by decide), layL_rng (m := mOne) (by decide) (rng_zeros _), by rw [layL_len]; rfl⟩, by decide, by decide⟩, h2⟩)
  clear hC hCd
  refine wp_region_held_drew (S := (fun A : World => A.cell? ⟨w.heap.size, 0, none⟩ = some (.int .i64 1) ∧ A.cell? ⟨w.heap.size, 1, none⟩ = some (.int .i64 1) ∧ A.cell? ⟨w.heap.size, 2, none⟩ = some (.int .i64 0))) (by kernel_rfl) (SK.out _ MD) (fun hHeld => ?_)
  refine wpAnyH_take (i := 0) (oi := _) (v := ?_) rfl (by kernel_rfl) (by kernel_rfl) (by kernel_rfl) (fun _ _ _ h => h) (Or.inl ⟨by rfl, ?_⟩) (by assumption) ?_
  rotate_left
  · intro w hSw; (try dsimp only at hSw); go_simp; try with_reducible rfl
  (try simp only [Act.put, List.setIfInBounds_toArray, List.set_cons_zero, List.set_cons_succ])
  refine wpAnyH_take (i := 1) (oi := _) (v := ?_) rfl (by kernel_rfl) (by kernel_rfl) (by kernel_rfl) (fun _ _ _ h => h) (Or.inl ⟨by rfl, ?_⟩) (by assumption) ?_
  rotate_left
  · intro w hSw; (try dsimp only at hSw); go_simp; try with_reducible rfl
  (try simp only [Act.put, List.setIfInBounds_toArray, List.set_cons_zero, List.set_cons_succ])
  refine wpAnyH_ready (rs := [2]) (by kernel_rfl) (by simp) ?_
  refine AllReadyH.cons rfl (fun K hK => ?_) AllReadyH.nil
  go_simp
  go_at_call 31
  with_reducible refine HLy.out.mono ?_
  rintro e w4 ⟨rfl, ⟨⟨mm4, n4, hq4, hn4⟩, k4⟩⟩
  have M4 := Lib.hid (MD.keep k4 (nofP HMC.out))
  have HF4 := Lib.hid (show Calls Tryz.prog 38 #[cellsV C, VOne] w4 fun e w' => ∃ a c, e = .returned (.slice a 0 c) ∧ RowN w' (fun b => w4.heap.size ≤ b) (.slice a 0 c) [] ∧ Below w4.heap.size w4 w' from vfree mOne_ok 0 rfl hq4)
  go_wp2_with fail
  refine hK.out _ _ (SK.out _ M4.out) (fun hHeld => ?_)
  clear hK K
  (try dsimp only [Act.put]); (try simp only [Act.put, List.setIfInBounds_toArray, List.set_cons_zero, List.set_cons_succ])
  refine wpAnyH_take (i := 3) (oi := _) (v := ?_) rfl (by kernel_rfl) (by kernel_rfl) (by kernel_rfl) (fun _ _ _ h => h) (Or.inl ⟨by rfl, ?_⟩) (by assumption) ?_
  rotate_left
  · intro w hSw; (try dsimp only at hSw); go_simp; try with_reducible rfl
  (try simp only [Act.put, List.setIfInBounds_toArray, List.set_cons_zero, List.set_cons_succ])
  refine wpAnyH_take (i := 4) (oi := _) (v := ?_) rfl (by kernel_rfl) (by kernel_rfl) (by kernel_rfl) (fun _ _ _ h => h) (Or.inl ⟨by rfl, ?_⟩) (by assumption) ?_
  rotate_left
  · intro w hSw; (try dsimp only at hSw); go_simp; try with_reducible rfl
  (try simp only [Act.put, List.setIfInBounds_toArray, List.set_cons_zero, List.set_cons_succ])
  refine wpAnyH_take (i := 5) (oi := _) (v := ?_) rfl (by kernel_rfl) (by kernel_rfl) (by kernel_rfl) (fun _ _ _ h => h) (Or.inl ⟨by rfl, ?_⟩) (by assumption) ?_
  rotate_left
  · intro w hSw; (try dsimp only at hSw); go_simp; try with_reducible rfl
  (try simp only [Act.put, List.setIfInBounds_toArray, List.set_cons_zero, List.set_cons_succ])
  refine wpAnyH_ready (rs := [6]) (by kernel_rfl) (by simp) ?_
  refine AllReadyH.cons rfl (fun K hK => ?_) AllReadyH.nil
  go_simp
  go_at_call 38
  with_reducible refine HF4.out.mono ?_
  rintro e w5 ⟨va, vc, rfl, _, b5⟩
  have M5 := Lib.hid (M4.out.below b5 M4.out.lt)
  have hq5 := hq4.below b5
  have HT5 := Lib.hid (show Calls Tryz.prog 33 #[cellsV C, VOne, .int .i64 0] w5 fun e w' => ∃ k, e = .returned (pV k) ∧ MadeT (cellOps C 0) w5 (fun b => w5.heap.size ≤ b) (takeT mOne 0) k w' from qtake mOne_ok 0 (by omega) hq5)
  go_wp2_with fail
  refine hK.out _ _ (SK.out _ M5.out) (fun hHeld => ?_)
  clear hK K
  (try dsimp only [Act.put]); (try simp only [Act.put, List.setIfInBounds_toArray, List.set_cons_zero, List.set_cons_succ])
  refine wpAnyH_ready (rs := [7]) (by kernel_rfl) (by simp) ?_
  refine AllReadyH.cons rfl (fun K hK => ?_) AllReadyH.nil
  go_simp
  go_wp2_with fail
  refine hK.out _ _ (by assumption) (fun hHeld => ?_)
  clear hK K
  (try dsimp only [Act.put]); (try simp only [Act.put, List.setIfInBounds_toArray, List.set_cons_zero, List.set_cons_succ])
  refine wpAnyH_take (i := 8) (oi := _) (v := ?_) rfl (by kernel_rfl) (by kernel_rfl) (by kernel_rfl) (fun _ _ _ h => h) (Or.inl ⟨by rfl, ?_⟩) (by assumption) ?_
  rotate_left
  · intro w hSw; (try dsimp only at hSw); go_simp; try with_reducible rfl
  (try simp only [Act.put, List.setIfInBounds_toArray, List.set_cons_zero, List.set_cons_succ])
  refine wpAnyH_take (i := 9) (oi := _) (v := ?_) rfl (by kernel_rfl) (by kernel_rfl) (by kernel_rfl) (fun _ _ _ h => h) (Or.inl ⟨by rfl, ?_⟩) (by assumption) ?_
  rotate_left
  · intro w hSw; (try dsimp only at hSw); go_simp; try with_reducible rfl
  (try simp only [Act.put, List.setIfInBounds_toArray, List.set_cons_zero, List.set_cons_succ])
  refine wpAnyH_take (i := 10) (oi := _) (v := ?_) rfl (by kernel_rfl) (by kernel_rfl) (by kernel_rfl) (fun _ _ _ h => h) (Or.inl ⟨by rfl, ?_⟩) (by assumption) ?_
  rotate_left
  · intro w hSw; (try dsimp only at hSw); go_simp; try with_reducible rfl
  (try simp only [Act.put, List.setIfInBounds_toArray, List.set_cons_zero, List.set_cons_succ])
  refine wpAnyH_take (i := 11) (oi := _) (v := ?_) rfl (by kernel_rfl) (by kernel_rfl) (by kernel_rfl) (fun _ _ _ h => h) (Or.inl ⟨by rfl, ?_⟩) (by assumption) ?_
  rotate_left
  · intro w hSw; (try dsimp only at hSw); go_simp; try with_reducible rfl
  (try simp only [Act.put, List.setIfInBounds_toArray, List.set_cons_zero, List.set_cons_succ])
  refine wpAnyH_take (i := 12) (oi := _) (v := ?_) rfl (by kernel_rfl) (by kernel_rfl) (by kernel_rfl) (fun _ _ _ h => h) (Or.inl ⟨by rfl, ?_⟩) (by assumption) ?_
  rotate_left
  · intro w hSw; (try dsimp only at hSw); go_simp; try with_reducible rfl
  (try simp only [Act.put, List.setIfInBounds_toArray, List.set_cons_zero, List.set_cons_succ])
  refine wpAnyH_ready (rs := [13]) (by kernel_rfl) (by simp) ?_
  refine AllReadyH.cons rfl (fun K hK => ?_) AllReadyH.nil
  go_simp
  go_at_call 33
  with_reducible refine HT5.out.mono ?_
  rintro e w6 ⟨k6, rfl, hM⟩
  have M6 := Lib.hid (M5.out.below hM.2.2 M5.out.lt)
  have HA6 := Lib.hid (rnone 10 mOne_ok 0 (by omega) hq5 hn4 (by omega) k6 w6 hM)
  go_wp2_with fail
  refine hK.out _ _ (SK.out _ M6.out) (fun hHeld => ?_)
  clear hK K
  (try dsimp only [Act.put]); (try simp only [Act.put, List.setIfInBounds_toArray, List.set_cons_zero, List.set_cons_succ])
  refine wpAnyH_ready (rs := [14]) (by kernel_rfl) (by simp) ?_
  refine AllReadyH.cons rfl (fun K hK => ?_) AllReadyH.nil
  go_simp
  go_at_call 42
  with_reducible refine HA6.out.mono ?_
  rintro e w7 ⟨rfl, ⟨⟨mm7, n7, hq7, hn7⟩, k7⟩⟩
  have M7 := Lib.hid (M5.out.keep k7 (nofP HMC.out))
  have hl7 := hq7.pool.pool.zero
  have HA7 := Lib.hid (allR_any C S mm7 n7 w7 hq7.cells (fun e => by rw [e] at hl7; simp at hl7))
  go_wp2_with fail
  refine hK.out _ _ (SK.out _ M7.out) (fun hHeld => ?_)
  clear hK K
  (try dsimp only [Act.put]); (try simp only [Act.put, List.setIfInBounds_toArray, List.set_cons_zero, List.set_cons_succ])
  refine wpAnyH_take (i := 15) (oi := _) (v := ?_) rfl (by kernel_rfl) (by kernel_rfl) (by kernel_rfl) (fun _ _ _ h => h) (Or.inl ⟨by rfl, ?_⟩) (by assumption) ?_
  rotate_left
  · intro w hSw; (try dsimp only at hSw); go_simp; try with_reducible rfl
  (try simp only [Act.put, List.setIfInBounds_toArray, List.set_cons_zero, List.set_cons_succ])
  refine wpAnyH_take (i := 16) (oi := _) (v := ?_) rfl (by kernel_rfl) (by kernel_rfl) (by kernel_rfl) (fun _ _ _ h => h) (Or.inl ⟨by rfl, ?_⟩) (by assumption) ?_
  rotate_left
  · intro w hSw; (try dsimp only at hSw); go_simp; try with_reducible rfl
  (try simp only [Act.put, List.setIfInBounds_toArray, List.set_cons_zero, List.set_cons_succ])
  refine wpAnyH_take (i := 17) (oi := _) (v := ?_) rfl (by kernel_rfl) (by kernel_rfl) (by kernel_rfl) (fun _ _ _ h => h) (Or.inl ⟨by rfl, ?_⟩) (by assumption) ?_
  rotate_left
  · intro w hSw; (try dsimp only at hSw); go_simp; try with_reducible rfl
  (try simp only [Act.put, List.setIfInBounds_toArray, List.set_cons_zero, List.set_cons_succ])
  refine wpAnyH_take (i := 18) (oi := _) (v := ?_) rfl (by kernel_rfl) (by kernel_rfl) (by kernel_rfl) (fun _ _ _ h => h) (Or.inl ⟨by rfl, ?_⟩) (by assumption) ?_
  rotate_left
  · intro w hSw; (try dsimp only at hSw); go_simp; try with_reducible rfl
  (try simp only [Act.put, List.setIfInBounds_toArray, List.set_cons_zero, List.set_cons_succ])
  refine wpAnyH_take (i := 20) (oi := _) (v := ?_) rfl (by kernel_rfl) (by kernel_rfl) (by kernel_rfl) (fun _ _ _ h => h) (Or.inl ⟨by rfl, ?_⟩) (by assumption) ?_
  rotate_left
  · intro w hSw; (try dsimp only at hSw); go_simp; try with_reducible rfl
  (try simp only [Act.put, List.setIfInBounds_toArray, List.set_cons_zero, List.set_cons_succ])
  refine wpAnyH_ready (rs := [19]) (by kernel_rfl) (by simp) ?_
  refine AllReadyH.cons rfl (fun K hK => ?_) AllReadyH.nil
  go_simp
  go_at_call 13
  with_reducible refine HA7.out.mono ?_
  rintro e w8 ⟨g, cap, rfl, hr8, hg1, hg2, b8⟩
  have M8 := Lib.hid (M7.out.below b8 M7.out.lt)
  have g0 := hr8 0 0 hq7.pool.free
  have hix : ∀ W, (Instr.indexAt 38 (.slice (some ⟨g, 0, none⟩) mm7.length cap) (.int .i64 0)).run Tryz.prog W = .ok (.pointer (some ⟨g, 0, none⟩)) W := idx_u64 mm7.length cap g 0 hl7
  go_wp2_with fail
  refine hK.out _ _ (SK.out _ M8.out) (fun hHeld => ?_)
  clear hK K
  (try dsimp only [Act.put]); (try simp only [Act.put, List.setIfInBounds_toArray, List.set_cons_zero, List.set_cons_succ])
  refine wpAnyH_moreP (S' := (fun A : World => (A.cell? ⟨w.heap.size, 0, none⟩ = some (.int .i64 1) ∧ A.cell? ⟨w.heap.size, 1, none⟩ = some (.int .i64 1) ∧ A.cell? ⟨w.heap.size, 2, none⟩ = some (.int .i64 0)) ∧ A.cell? ⟨g, 0, none⟩ = some (.int .u64 0))) (fun _ h => h.1) _ _ _ _ ?_
  replace hHeld : (fun A : World => (A.cell? ⟨w.heap.size, 0, none⟩ = some (.int .i64 1) ∧ A.cell? ⟨w.heap.size, 1, none⟩ = some (.int .i64 1) ∧ A.cell? ⟨w.heap.size, 2, none⟩ = some (.int .i64 0)) ∧ A.cell? ⟨g, 0, none⟩ = some (.int .u64 0)) w8 := ⟨SK.out _ M8.out, g0⟩
  refine wpAnyH_ready (rs := [21]) (by kernel_rfl) (by simp) ?_
  refine AllReadyH.cons rfl (fun K hK => ?_) AllReadyH.nil
  go_simp
  go_at_call 43
  with_reducible refine (HLa.out _).mono ?_
  rintro e w9 ⟨rfl, b9⟩
  have M9 := Lib.hid (M8.out.below b9 M8.out.lt)
  have g9 : w9.cell? ⟨g, 0, none⟩ = some (.int .u64 0) := (b9.cell (p := ⟨g, 0, none⟩) hg2).trans g0
  go_wp2_with fail
  refine hK.out _ _ (⟨SK.out _ M9.out, g9⟩) (fun hHeld => ?_)
  clear hK K
  (try dsimp only [Act.put]); (try simp only [Act.put, List.setIfInBounds_toArray, List.set_cons_zero, List.set_cons_succ])
  refine wpAnyH_take (i := 22) (oi := _) (v := ?_) rfl (by kernel_rfl) (by kernel_rfl) (by kernel_rfl) (fun _ _ _ h => h) (Or.inl ⟨by rfl, ?_⟩) (by assumption) ?_
  rotate_left
  · intro w hSw; (try dsimp only at hSw); go_simp; try with_reducible rfl
  (try simp only [Act.put, List.setIfInBounds_toArray, List.set_cons_zero, List.set_cons_succ])
  refine wpAnyH_take (i := 23) (oi := { dst := some 35, op := Op.load 47 (Operand.tmp 34), type := 47, pos := "outright.go:150", after := #[{ on := 22, ground := Ground.data }, { on := 17, ground := Ground.guard }], guard := some (17, true) }) (v := ?_) rfl (by kernel_rfl) (by kernel_rfl) (by kernel_rfl) (fun _ _ _ h => h) (Or.inl ⟨by rfl, ?_⟩) (by assumption) ?_
  rotate_left
  · intro w hSw; (try dsimp only at hSw); go_simp; try with_reducible rfl
  (try simp only [Act.put, List.setIfInBounds_toArray, List.set_cons_zero, List.set_cons_succ])
  refine wpAnyH_take (i := 24) (oi := _) (v := ?_) rfl (by kernel_rfl) (by kernel_rfl) (by kernel_rfl) (fun _ _ _ h => h) (Or.inl ⟨by rfl, ?_⟩) (by assumption) ?_
  rotate_left
  · intro w hSw; (try dsimp only at hSw); go_simp; try with_reducible rfl
  (try simp only [Act.put, List.setIfInBounds_toArray, List.set_cons_zero, List.set_cons_succ])
  refine wpAnyH_take (i := 25) (oi := _) (v := ?_) rfl (by kernel_rfl) (by kernel_rfl) (by kernel_rfl) (fun _ _ _ h => h) (Or.inl ⟨by rfl, ?_⟩) (by assumption) ?_
  rotate_left
  · intro w hSw; (try dsimp only at hSw); go_simp; try with_reducible rfl
  (try simp only [Act.put, List.setIfInBounds_toArray, List.set_cons_zero, List.set_cons_succ])
  refine wpAnyH_ready (rs := [26]) (by kernel_rfl) (by simp) ?_
  refine AllReadyH.cons rfl (fun K hK => ?_) AllReadyH.nil
  go_simp
  go_wp2_with fail
  refine hK.out _ _ (by assumption) (fun hHeld => ?_)
  clear hK K
  (try dsimp only [Act.put]); (try simp only [Act.put, List.setIfInBounds_toArray, List.set_cons_zero, List.set_cons_succ])
  refine wpAnyH_done (by kernel_rfl) ?_ _
  have hq9 := (hq7.below b8).below b9
  have HB9 := Lib.hid ((((((HB.out.trans (bd.mono HB.out.size)).trans (k4.below (by have := HB.out.size; have := bd.size; omega) (fun i _ hi => HCS.out i hi))).trans (b5.mono (by have := HB.out.size; have := bd.size; have := k4.size; omega))).trans (k7.below (by have := HB.out.size; have := bd.size; have := k4.size; have := b5.size; omega) (fun i _ hi => HCS.out i hi))).trans (b8.mono (by have := HB.out.size; have := bd.size; have := k4.size; have := b5.size; have := k7.size; omega))).trans (b9.mono (by have := HB.out.size; have := bd.size; have := k4.size; have := b5.size; have := k7.size; have := b8.size; omega)))
  have HQ := Lib.hid hq9
  have HM := Lib.hid M9.out
  have HLen := Lib.hid (show mm7.length = 9 from hq7.size)
  clear hq9 HA6 HA7 HT5 HF4 HLy hq4 hq5 hq7 k4 b5 k7 b8 b9 hn4 hn7 M4 M5 M6 M7 M8 M9 g0 g9 hix hr8 hg1 hg2 hl7 SK MD hM bd HB
  go_upto_region 5 with fail
  have rB : Blk (w9.alloc (.cells badCs 24)) w9.heap.size 24 badCs := Blk.new w9 _ _
  have bB : Below w9.heap.size w9 (w9.alloc (.cells badCs 24)) := (Below.refl _ w9).alloc (Nat.le_refl _) _
  change Code.wp _ _ _ _ (w9.alloc (.cells badCs 24))
  generalize w9.alloc (.cells badCs 24) = V9 at *
  have HQV := Lib.hid (HQ.out.below bB)
  have HBV := Lib.hid (HB9.out.trans (bB.mono HB9.out.size))
  have HMV := Lib.hid (HM.out.below bB HM.out.lt)
  have HRB := Lib.hid rB
  clear rB bB HQ HB9 HM
  generalize w9.heap.size = B9 at *
  go_wp2_with fail
  go_loopw [5] (fun v5 wr => ∃ I : Nat, I ≤ 8 ∧ v5 = .int .i64 (I : Int) ∧ Below V9.heap.size V9 wr)
    (fun v5 _ => 8 - (intOf v5).toNat)
  case atStart => exact ⟨0, by omega, rfl, Below.refl _ _⟩
  case round =>
    obtain ⟨I, hI, rfl, hb⟩ := hrel
    have hq := HQV.out.below hb
    have hrb := HRB.out.below hb HRB.out.lt
    by_cases hlt : I < 8
    · obtain ⟨t, o, k, e0, e1, e2, hbad⟩ := bad_at I hlt
      have c0 : wr.cell? ⟨B9, I * 3, none⟩ = some (.int .i64 t) := hrb.cell _ _ e0
      have c1 : wr.cell? ⟨B9, I * 3 + 1, none⟩ = some (.int .i64 o) := hrb.cell _ _ e1
      have c2 : wr.cell? ⟨B9, I * 3 + 2, none⟩ = some (.int .i64 k) := hrb.cell _ _ e2
      have hI3 : (I : Int) < 8 := by omega
      have HLe : Hid (∀ W, Below wr.heap.size wr W → Calls Tryz.prog 52 #[cellsV C] W fun e w' => e = .returned (.int .i64 ((9 : Nat) : Int)) ∧ Below W.heap.size W w') := Lib.hid (fun W hW => by
        have := len_any C S mm7 n7 W (hq.below hW).cells
        rw [HLen.out] at this
        exact this)
      have HL := Lib.hid (bad_lay (cellsV C) t o k wr hbad HLe.out)
      have HF := Lib.hid (bad_free C S mm7 n7 t o k hbad HLen.out)
      have HCw := Lib.hid hq
      have HRw := Lib.hid hrb
      have E0 := Lib.hid (And.intro e0 (And.intro e1 e2))
      clear hbad e0 e1 e2 HLe hq hrb
      go_upto_region 8 with fail
      go_wp2_with (first
        | (go_at_call 31; (with_reducible refine HL.out.mono ?_); rintro e w2 ⟨rfl, b2⟩; have r2 := HRw.out.below b2 HRw.out.lt; have HF2 := Lib.hid (HF.out w2 (HCw.out.below b2).cells); clear c0 c1 c2; have c0 : w2.cell? ⟨B9, I * 3, none⟩ = some (.int .i64 t) := r2.cell _ _ E0.out.1; have c1 : w2.cell? ⟨B9, I * 3 + 1, none⟩ = some (.int .i64 o) := r2.cell _ _ E0.out.2.1; have c2 : w2.cell? ⟨B9, I * 3 + 2, none⟩ = some (.int .i64 k) := r2.cell _ _ E0.out.2.2)
        | (go_at_call 38; (with_reducible refine HF2.out.mono ?_); rintro e w3 ⟨rfl, b3⟩))
      go_roundw
      case rel => exact ⟨I + 1, by omega, by go_num, hb.trans ((b2.trans (b3.mono b2.size)).mono hb.size)⟩
      case measure => simp [intOf]; omega
    · obtain rfl : I = 8 := by omega
      have HBW := Lib.hid (HBV.out.trans (hb.mono HBV.out.size))
      have HMW := Lib.hid (HMV.out.below hb HMV.out.lt)
      have HLd := Lib.hid (show ∀ W, Calls Tryz.prog 39 #[.int .i64 4096] W fun e w' => ∃ C S mm, e = .returned (.tuple #[cellsV C, V4k]) ∧ PW w' C S (lawM 4096) mm 4097 (upL 4096) gZ ∧ Below W.heap.size W w' ∧ W.heap.size ≤ C ∧ W.heap.size ≤ S from fun W => vlaid 4096 W (by omega) rfl)
      clear hq hrb hlt hI hb HSz HNw HQV HBV HMV HRB
      go_upto_region 11 with (go_at_call 39; (with_reducible refine (HLd.out _).mono ?_); rintro e w1 ⟨C2, S2, mm2, rfl, hq2, b1, hC2, hS2⟩)
      have nB : Blk (w1.alloc (.cells #[.int .i64 3, .int .i64 2, .int .i64 4096] 24)) w1.heap.size 24 #[.int .i64 3, .int .i64 2, .int .i64 4096] := Blk.new w1 _ _
      have hb1 : Below w1.heap.size w1 (w1.alloc (.cells #[.int .i64 3, .int .i64 2, .int .i64 4096] 24)) := (Below.refl _ w1).alloc (Nat.le_refl _) _
      generalize w1.alloc (.cells #[.int .i64 3, .int .i64 2, .int .i64 4096] 24) = V1 at *
      have bb1 : Below wr.heap.size wr V1 := b1.trans (hb1.mono b1.size)
      have HQ2 := Lib.hid (hq2.below hb1)
      have HN2 := Lib.hid nB
      have HMX := Lib.hid (HMW.out.below bb1 HMW.out.lt)
      have HBX := Lib.hid (HBW.out.trans (bb1.mono HBW.out.size))
      clear hq2 nB b1 hb1 hC2 hS2 bb1 HMW HBW HLd
      generalize w1.heap.size = bn at *
      go_wp2_with (first
        | (go_at_call 30; (with_reducible refine (pworks_any _).mono ?_); rintro e w2 ⟨rfl, b2⟩; have HN3 := Lib.hid (HN2.out.below b2 HN2.out.lt); have HM3 := Lib.hid (HMX.out.below b2 HMX.out.lt); have n0 := HN3.out.cell 0 _ rfl; have n1 := HN3.out.cell 1 _ rfl; have n2 := HN3.out.cell 2 _ rfl; have HB3 := Lib.hid (HBX.out.trans (b2.mono HBX.out.size)); have HF3 := Lib.hid (show Calls Tryz.prog 38 #[cellsV C2, V4k] w2 fun e w' => ∃ a c, e = .returned (.slice a 4096 c) ∧ RowN w' (fun b => w2.heap.size ≤ b) (.slice a 4096 c) (upL 4096) ∧ Below w2.heap.size w2 w' from vfree (lawM_ok (Nat.le_refl _)) 4096 (upL_len _).symm (HQ2.out.below b2)); clear b2)
        | (go_at_call 38; (with_reducible refine HF3.out.mono ?_); rintro e w3 ⟨va3, vc3, rfl, _, b3⟩; have HM4 := Lib.hid (HM3.out.below b3 HM3.out.lt); have c0 := HM4.out.cell 0 _ rfl; have c1 := HM4.out.cell 1 _ rfl; have c2 := HM4.out.cell 2 _ rfl; have HB4 := Lib.hid (HB3.out.trans (b3.mono HB3.out.size)); clear b3 n0 n1 n2 HF3)
        | (go_at_call 31; (with_reducible refine (nil_lay _).mono ?_); rintro e w4 ⟨rfl, b4⟩; clear c0 c1 c2; have HM5 := Lib.hid (HM4.out.below b4 HM4.out.lt); have c0 := HM5.out.cell 0 _ rfl; have c1 := HM5.out.cell 1 _ rfl; have c2 := HM5.out.cell 2 _ rfl; have HB5 := Lib.hid (HB4.out.trans (b4.mono HB4.out.size)); clear b4)
        | (go_at_call 38; (with_reducible refine (nil_free _).mono ?_); rintro e w5 ⟨rfl, b5⟩))
      go_ret
      exact ⟨rfl, HB5.out.trans (b5.mono HB5.out.size)⟩
end Go.Proofs.YtpejmkoheodblaaGreat
