/- MachineAgain returns true. -/
import Derived.Test.YtpopcallphbklaaGreatMgO
import Derived.Laws.OwnMore
namespace Go.Proofs.YtpopcallphbklaaGreat
open Go.ChangeShapes Go.WideShapes Go.ChangeAt Go.RowKit
set_option linter.unusedVariables false
set_option maxRecDepth 100000
set_option linter.unusedSimpArgs false
set_option maxHeartbeats 8000000 in
theorem again_any (f0 f1 f2 : Int) (a : Option Addr) (cap : Nat) (N : List (List (List Raw))) (pa : Option Addr) (pc : Nat) (L : List (Int × Int)) (w : World) (hf : (0 ≤ f0 ∧ f0 ≤ 255) ∧ (0 ≤ f1 ∧ f1 ≤ 255) ∧ (0 ≤ f2 ∧ f2 ≤ 255)) (hA : DraftAt w w.heap.size a N) (hP : PicksIn w w.heap.size pa L) :
    Calls Tryz.prog 4 #[.agg #[.int .u8 f0, .int .u8 f1, .int .u8 f2, .slice a N.length cap], .slice pa L.length pc] w fun e w' => e = .returned (.bool true) ∧ Below w.heap.size w w' := by
  obtain ⟨i0, hi0, hi1, hi2, hi3⟩ := info_parts pick_info
  have hX0 : Blk (w.alloc (.cells #[.int .u8 f0, .int .u8 f1, .int .u8 f2, .slice a N.length cap] 25)) w.heap.size 25 #[.int .u8 f0, .int .u8 f1, .int .u8 f2, .slice a N.length cap] := Blk.new _ _ _
  have hB0 : Below w.heap.size w (w.alloc (.cells #[.int .u8 f0, .int .u8 f1, .int .u8 f2, .slice a N.length cap] 25)) := (Below.refl _ w).alloc (Nat.le_refl _) _
  have hs0 : (w.alloc (.cells #[.int .u8 f0, .int .u8 f1, .int .u8 f2, .slice a N.length cap] 25)).heap.size = w.heap.size + 1 := by simp
  have HW := Lib.hid fun W => works8_any W
  have HM : Hid (∀ W, Below w.heap.size w W → w.heap.size < W.heap.size → Calls Tryz.prog 5 #[.agg #[.int .u8 f0, .int .u8 f1, .int .u8 f2, .slice a N.length cap]] W fun e w' => ∃ (c : PIds) (A : Nat → Prop), e = .returned (.tuple #[pV c.M, cellsV c.C, permitsV c.P, ptrV c.G, ptrV c.D]) ∧
      Play w' c A (startS [cut4 f0, cut4 f1, cut4 f2] (threadsOf N) (N.take 6) 3) (startS [cut4 f0, cut4 f1, cut4 f2] (threadsOf N) (N.take 6) 0) ∧ (∀ b, A b → W.heap.size ≤ b) ∧ Below W.heap.size W w') :=
    Lib.hid fun W hW hs => made_any f0 f1 f2 a cap N W hf w.heap.size hW.size (hA.below hW) (by omega)
  have HP : Hid (∀ W, Below w.heap.size w W → PicksIn W w.heap.size pa L) := Lib.hid fun W hW => hP.below hW
  have hth : (startS [cut4 f0, cut4 f1, cut4 f2] (threadsOf N) (N.take 6) 3).ts.length ≤ threadsOf N ∧ (startS [cut4 f0, cut4 f1, cut4 f2] (threadsOf N) (N.take 6) 3).ps.length = threadsOf N ∧ (startS [cut4 f0, cut4 f1, cut4 f2] (threadsOf N) (N.take 6) 3).n = 3 ∧ (startS [cut4 f0, cut4 f1, cut4 f2] (threadsOf N) (N.take 6) 3).m.length = 3 := by
    refine ⟨?_, by simp [startS], rfl, rfl⟩
    simp [startS, drawnX, threadsOf]
    omega
  have hvl : True := trivial
  have HTH := Lib.hid hth
  clear hA hP hf hth hvl
  generalize startS [cut4 f0, cut4 f1, cut4 f2] (threadsOf N) (N.take 6) 3 = s0 at *
  generalize startS [cut4 f0, cut4 f1, cut4 f2] (threadsOf N) (N.take 6) 0 = q0 at *
  generalize threadsOf N = n at *
  generalize N.length = nl at *
  obtain ⟨len, hlen⟩ : ∃ len, len = L.length := ⟨_, rfl⟩
  have HL := Lib.hid hlen
  rw [← hlen]
  clear hlen
  go_enter Tryz.func4, Tryz.ntmps4
  go_upto_region 1 with fail
  generalize w.alloc (.cells #[.int .u8 f0, .int .u8 f1, .int .u8 f2, .slice a nl cap] 25) = W0 at *
  go_upto_region 3 with (go_at_call 6; refine (HW.out W0).mono ?_; rintro e w1 ⟨rfl, hb1⟩)
  have hs1 := hb1.size
  have B1 := hB0.trans (hb1.mono (by omega))
  have X1 := hX0.below hb1 (by omega)
  have c0 := X1.cell 0 _ rfl
  have c1 := X1.cell 1 _ rfl
  have c2 := X1.cell 2 _ rfl
  have c3 := X1.cell 3 _ rfl
  have HM1 := Lib.hid (HM.out w1 B1 (by omega))
  clear hX0 hB0
  go_upto_region 4 with (go_at_call 5; refine HM1.out.mono ?_; rintro e w2 ⟨c, A, rfl, hp1, hA1, hb2⟩)
  have hs2 := hb2.size
  have B2 := B1.trans (hb2.mono (by omega))
  have X2 := X1.below hb2 (by omega)
  have c0 := X2.cell 0 _ rfl
  have c1 := X2.cell 1 _ rfl
  have c2 := X2.cell 2 _ rfl
  have c3 := X2.cell 3 _ rfl
  have HM2 := Lib.hid (HM.out w2 B2 (by omega))
  have HP1 := Lib.hid hp1
  have HA1 := Lib.hid hA1
  clear X1 HM1 hp1 hA1
  go_upto_region 5 with (go_at_call 5; refine HM2.out.mono ?_; rintro e w3 ⟨d, B, rfl, hp2, hA2, hb3⟩)
  have hs3 := hb3.size
  have B3 := B2.trans (hb3.mono (by omega))
  have hAlt := HP1.out.lt
  have HAG : Hid (AgE w.heap.size w3 c d (fun _ => False) s0 s0) := Lib.hid ⟨A, B, q0, q0, HP1.out.below hb3, hp2, fun b ha hb => by have := hAlt b ha; have := hA2 b hb; omega, fun b hb => hb.elim (fun h => by have := HA1.out b h; omega) (fun h => by have := hA2 b h; omega), fun b h => h.elim, by omega⟩
  have HABl : Hid (∀ b, A b ∨ B b → b < w3.heap.size) := Lib.hid fun b hb => hb.elim (fun h => by have := hAlt b h; omega) (fun h => hp2.lt b h)
  have HPL := Lib.hid (HP.out w3 B3)
  clear X2 HM2 HM hp2 hA2 hAlt HP1 HA1 hb1 hb2 hb3 B1 B2 HW HP c0 c1 c2 c3
  go_upto_region 9 with fail
  go_loopw [15, 16] (fun v i wr => ∃ j : Nat, j ≤ 200 ∧ j ≤ len ∧ i = .int .i64 j ∧ wr.ownsRow w3.heap.size 37 2 v j (pickCells ((L.take j).map cutP)) ∧ Below w3.heap.size w3 wr) (fun _ i wr => 200 - (intOf i).toNat)
  case atStart => exact ⟨0, by omega, by omega, rfl, World.ownsRow_nil _ _ _ _, Below.refl _ _⟩
  case round =>
    obtain ⟨j, hj2, hjl, rfl, hrow, hbr⟩ := hrel
    have hsr := hbr.size
    by_cases hlt : j < len ∧ j < 200
    · obtain ⟨hl1, hl2⟩ := hlt
      have hj1 : (j : Int) < (len : Int) := by omega
      have hj20 : (j : Int) < 200 := by omega
      obtain ⟨p, hp⟩ : ∃ p, L[j]? = some p := ⟨_, List.getElem?_eq_getElem (by rw [← HL.out]; exact hl1)⟩
      obtain ⟨hpt, hpk, b, o, rfl, hbl, k0, k1⟩ := HPL.out j p hp
      have q0c := (hbr.cell (p := ⟨b, o + j * 2, none⟩) (show b < _ by omega)).trans k0
      have q1c := (hbr.cell (p := ⟨b, o + j * 2 + 1, none⟩) (show b < _ by omega)).trans k1
      have HO : Hid (pickCells ((L.take (j + 1)).map cutP) = pickCells ((L.take j).map cutP) ++ [.int .i64 (modOf 7 p.1 : Int), .int .i64 (modOf 3 p.2 : Int)]) := Lib.hid (by
        rw [List.take_add_one, hp]
        simp only [Option.toList_some, List.map_append, List.map_cons, List.map_nil, pickCells_snoc, cutP])
      obtain ⟨pt, pk⟩ := p
      dsimp only at q0c q1c HO hpt hpk
      have hix := idx_picks len pc b o j hl1
      obtain ⟨hm7, hl7⟩ := modOf_is pt 7 (by omega) (by omega)
      obtain ⟨hm3, hl3⟩ := modOf_is pk 3 (by omega) (by omega)
      rw [show (IntKind.u64.wrap pt).tmod ((7 : Nat) : Int) = (IntKind.u64.wrap pt).tmod 7 from rfl] at hm7
      rw [show (IntKind.u64.wrap pk).tmod ((3 : Nat) : Int) = (IntKind.u64.wrap pk).tmod 3 from rfl] at hm3
      replace hm7 : IntKind.i64.wrap ((IntKind.u64.wrap pt).tmod 7) = (modOf 7 pt : Int) := modOf_i64 pt 7 (by omega) (by omega)
      replace hm3 : IntKind.i64.wrap ((IntKind.u64.wrap pk).tmod 3) = (modOf 3 pk : Int) := modOf_i64 pk 3 (by omega) (by omega)
      generalize modOf 7 pt = mt at *
      generalize modOf 3 pk = mk at *
      clear hp k0 k1
      go_upto_region 11 with fail
      have sK : ∀ W, Below wr.heap.size wr W → (fun w' => w'.cell? ⟨b, o + j * 2, none⟩ = some (.int .i64 pt) ∧ w'.cell? ⟨b, o + j * 2 + 1, none⟩ = some (.int .i64 pk)) W := fun W hk => ⟨(hk.cell (p := ⟨b, _, none⟩) (show b < _ by omega)).trans q0c, (hk.cell (p := ⟨b, _, none⟩) (show b < _ by omega)).trans q1c⟩
      refine wp_region_held_drew (S := (fun w' => w'.cell? ⟨b, o + j * 2, none⟩ = some (.int .i64 pt) ∧ w'.cell? ⟨b, o + j * 2 + 1, none⟩ = some (.int .i64 pk))) (by kernel_rfl) (sK _ (Below.refl _ _).drew) (fun hHeld => ?_)
      refine wpAnyH_take (i := 0) (oi := _) (v := ?_) rfl (by kernel_rfl) (by kernel_rfl) (by kernel_rfl) (fun _ _ _ h => h) (Or.inl ⟨by rfl, ?_⟩) (by assumption) ?_
      rotate_left
      · intro w hSw; (try dsimp only at hSw); go_simp; try with_reducible rfl
      (try simp only [Act.put, List.setIfInBounds_toArray, List.set_cons_zero, List.set_cons_succ])
      refine wpAnyH_take (i := 1) (oi := _) (v := ?_) rfl (by kernel_rfl) (by kernel_rfl) (by kernel_rfl) (fun _ _ _ h => h) (Or.inl ⟨by rfl, ?_⟩) (by assumption) ?_
      rotate_left
      · intro w hSw; (try dsimp only at hSw); go_simp; try with_reducible rfl
      (try simp only [Act.put, List.setIfInBounds_toArray, List.set_cons_zero, List.set_cons_succ])
      refine wpAnyH_take (i := 2) (oi := _) (v := ?_) rfl (by kernel_rfl) (by kernel_rfl) (by kernel_rfl) (fun _ _ _ h => h) (Or.inl ⟨by rfl, ?_⟩) (by assumption) ?_
      rotate_left
      · intro w hSw; (try dsimp only at hSw); go_simp; try with_reducible rfl
      (try simp only [Act.put, List.setIfInBounds_toArray, List.set_cons_zero, List.set_cons_succ])
      refine wpAnyH_take (i := 3) (oi := _) (v := ?_) rfl (by kernel_rfl) (by kernel_rfl) (by kernel_rfl) (fun _ _ _ h => h) (Or.inl ⟨by rfl, ?_⟩) (by assumption) ?_
      rotate_left
      · intro w hSw; (try dsimp only at hSw); go_simp; try with_reducible rfl
      (try simp only [Act.put, List.setIfInBounds_toArray, List.set_cons_zero, List.set_cons_succ])
      refine wpAnyH_take (i := 4) (oi := _) (v := ?_) rfl (by kernel_rfl) (by kernel_rfl) (by kernel_rfl) (fun _ _ _ h => h) (Or.inl ⟨by rfl, ?_⟩) (by assumption) ?_
      rotate_left
      · intro w hSw; (try dsimp only at hSw); go_simp; try with_reducible rfl
      (try simp only [Act.put, List.setIfInBounds_toArray, List.set_cons_zero, List.set_cons_succ])
      refine wpAnyH_take (i := 5) (oi := _) (v := ?_) rfl (by kernel_rfl) (by kernel_rfl) (by kernel_rfl) (fun _ _ _ h => h) (Or.inl ⟨by rfl, ?_⟩) (by assumption) ?_
      rotate_left
      · intro w hSw; (try dsimp only at hSw); go_simp; try with_reducible rfl
      (try simp only [Act.put, List.setIfInBounds_toArray, List.set_cons_zero, List.set_cons_succ])
      refine wpAnyH_take (i := 6) (oi := _) (v := ?_) rfl (by kernel_rfl) (by kernel_rfl) (by kernel_rfl) (fun _ _ _ h => h) (Or.inl ⟨by rfl, ?_⟩) (by assumption) ?_
      rotate_left
      · intro w hSw; (try dsimp only at hSw); go_simp; try with_reducible rfl
      (try simp only [Act.put, List.setIfInBounds_toArray, List.set_cons_zero, List.set_cons_succ])
      refine wpAnyH_take (i := 7) (oi := _) (v := ?_) rfl (by kernel_rfl) (by kernel_rfl) (by kernel_rfl) (fun _ _ _ h => h) (Or.inl ⟨by rfl, ?_⟩) (by assumption) ?_
      rotate_left
      · intro w hSw; (try dsimp only at hSw); go_simp; try with_reducible rfl
      (try simp only [Act.put, List.setIfInBounds_toArray, List.set_cons_zero, List.set_cons_succ])
      refine wpAnyH_take (i := 8) (oi := _) (v := ?_) rfl (by kernel_rfl) (by kernel_rfl) (by kernel_rfl) (fun _ _ _ h => h) (Or.inl ⟨by rfl, ?_⟩) (by assumption) ?_
      rotate_left
      · intro w hSw; (try dsimp only at hSw); go_simp; try with_reducible rfl
      (try simp only [Act.put, List.setIfInBounds_toArray, List.set_cons_zero, List.set_cons_succ])
      refine wpAnyH_take (i := 9) (oi := _) (v := ?_) rfl (by kernel_rfl) (by kernel_rfl) (by kernel_rfl) (fun _ _ _ h => h) (Or.inl ⟨by rfl, ?_⟩) (by assumption) ?_
      rotate_left
      · intro w hSw; (try dsimp only at hSw); go_simp; try with_reducible rfl
      (try simp only [Act.put, List.setIfInBounds_toArray, List.set_cons_zero, List.set_cons_succ])
      refine wpAnyH_take (i := 10) (oi := _) (v := ?_) rfl (by kernel_rfl) (by kernel_rfl) (by kernel_rfl) (fun _ _ _ h => h) (Or.inl ⟨by rfl, ?_⟩) (by assumption) ?_
      rotate_left
      · intro w hSw; (try dsimp only at hSw); go_simp; try with_reducible rfl
      (try simp only [Act.put, List.setIfInBounds_toArray, List.set_cons_zero, List.set_cons_succ])
      refine wpAnyH_take (i := 11) (oi := _) (v := ?_) rfl (by kernel_rfl) (by kernel_rfl) (by kernel_rfl) (fun _ _ _ h => h) (Or.inl ⟨by rfl, ?_⟩) (by assumption) ?_
      rotate_left
      · intro w hSw; (try dsimp only at hSw); go_simp; try with_reducible rfl
      (try simp only [Act.put, List.setIfInBounds_toArray, List.set_cons_zero, List.set_cons_succ])
      refine wpAnyH_take (i := 12) (oi := _) (v := ?_) rfl (by kernel_rfl) (by kernel_rfl) (by kernel_rfl) (fun _ _ _ h => h) (Or.inl ⟨by rfl, ?_⟩) (by assumption) ?_
      rotate_left
      · intro w hSw; (try dsimp only at hSw); go_simp; try with_reducible rfl
      (try simp only [Act.put, List.setIfInBounds_toArray, List.set_cons_zero, List.set_cons_succ])
      refine wpAnyH_take (i := 13) (oi := _) (v := ?_) rfl (by kernel_rfl) (by kernel_rfl) (by kernel_rfl) (fun _ _ _ h => h) (Or.inl ⟨by rfl, ?_⟩) (by assumption) ?_
      rotate_left
      · intro w hSw; (try dsimp only at hSw); go_simp; try with_reducible rfl
      (try simp only [Act.put, List.setIfInBounds_toArray, List.set_cons_zero, List.set_cons_succ])
      refine wpAnyH_take (i := 14) (oi := _) (v := ?_) rfl (by kernel_rfl) (by kernel_rfl) (by kernel_rfl) (fun _ _ _ h => h) (Or.inl ⟨by rfl, ?_⟩) (by assumption) ?_
      rotate_left
      · intro w hSw; (try dsimp only at hSw); go_simp; try with_reducible rfl
      (try simp only [Act.put, List.setIfInBounds_toArray, List.set_cons_zero, List.set_cons_succ])
      refine wpAnyH_take (i := 15) (oi := _) (v := ?_) rfl (by kernel_rfl) (by kernel_rfl) (by kernel_rfl) (fun _ _ _ h => h) (Or.inl ⟨by rfl, ?_⟩) (by assumption) ?_
      rotate_left
      · intro w hSw; (try dsimp only at hSw); go_simp; try with_reducible rfl
      (try simp only [Act.put, List.setIfInBounds_toArray, List.set_cons_zero, List.set_cons_succ])
      refine wpAnyH_take (i := 16) (oi := _) (v := ?_) rfl (by kernel_rfl) (by kernel_rfl) (by kernel_rfl) (fun _ _ _ h => h) (Or.inl ⟨by rfl, ?_⟩) (by assumption) ?_
      rotate_left
      · intro w hSw; (try dsimp only at hSw); go_simp; try with_reducible rfl
      (try simp only [Act.put, List.setIfInBounds_toArray, List.set_cons_zero, List.set_cons_succ])
      refine wpAnyH_take (i := 17) (oi := _) (v := ?_) rfl (by kernel_rfl) (by kernel_rfl) (by kernel_rfl) (fun _ _ _ h => h) (Or.inl ⟨by rfl, ?_⟩) (by assumption) ?_
      rotate_left
      · intro w hSw; (try dsimp only at hSw); go_simp; try with_reducible rfl
      (try simp only [Act.put, List.setIfInBounds_toArray, List.set_cons_zero, List.set_cons_succ])
      refine wpAnyH_ready (rs := [18]) (by kernel_rfl) (by simp) ?_
      refine AllReadyH.cons rfl (fun KK hKK => ?_) AllReadyH.nil
      go_simp
      go_wp2_with fail
      refine hKK.out _ _ (sK _ (((Below.refl _ _).alloc (Nat.le_refl _) _).drew)) (fun hHeld => ?_)
      clear hKK KK
      (try dsimp only [Act.put]); (try simp only [Act.put, List.setIfInBounds_toArray, List.set_cons_zero, List.set_cons_succ])
      have hr5 : (wr.alloc (.cells #[.int .i64 mt, .int .i64 mk] 37)).drew.ownsRow w3.heap.size 37 2 u15 j (pickCells ((L.take j).map cutP)) := (hrow.alloc _).drew
      have hnew := cells2_new wr 37 (.int .i64 mt) (.int .i64 mk)
      replace hnew : ∀ (j : Nat) (u : Value), [Value.int .i64 mt, .int .i64 mk][j]? = some u → (wr.alloc (.cells #[.int .i64 mt, .int .i64 mk] 37)).drew.cell? ((⟨wr.heap.size, 0, none⟩ : Addr).add j) = some u := hnew
      have hB5 : w3.heap.size ≤ (wr.alloc (.cells #[.int .i64 mt, .int .i64 mk] 37)).drew.heap.size := by simp; omega
      have hgr : ∀ w6 r, (wr.alloc (.cells #[.int .i64 mt, .int .i64 mk] 37)).drew.grownBy w6 r → (wr.alloc (.cells #[.int .i64 mt, .int .i64 mk] 37)).grownBy w6 r := fun w6 r h => ⟨h.1, h.2, h.3, h.4, h.5⟩
      clear hHeld
      generalize (wr.alloc (.cells #[.int .i64 mt, .int .i64 mk] 37)).drew = X5 at *
      refine wpAnyH_ready (rs := [19]) (by kernel_rfl) (by simp) ?_
      refine AllReadyH.cons rfl (fun KK hKK => ?_) AllReadyH.nil
      rw [if_pos (by kernel_rfl)]
      refine wp_append_own2 _ _ _ _ rfl w3.heap.size 37 i0 (.agg #[.int .i64 0, .int .i64 0]) 2 16 Tryz.underlying26 hi0 hi1 hi2 hi3 rfl (by decide) _ _ _ rfl hr5 ⟨wr.heap.size, 0, none⟩ 1 1 [.int .i64 mt, .int .i64 mk] rfl rfl hnew (by simp [Value.oneCell']) (by unfold maxLen; omega) (by omega) hB5 (by omega) ?_
      intro g gc w6 hown' hgrow hg6
      replace hgrow : X5.grownBy w6 u15.ownBlock := hgrow
      have hgb := grown_below (hgr _ _ hgrow) hrow hsr
      have k0 : w6.cell? ⟨b, o + j * 2, none⟩ = some (.int .i64 pt) := (hgb.cell (p := ⟨b, _, none⟩) (show b < _ by omega)).trans q0c
      have k1 : w6.cell? ⟨b, o + j * 2 + 1, none⟩ = some (.int .i64 pk) := (hgb.cell (p := ⟨b, _, none⟩) (show b < _ by omega)).trans q1c
      refine hKK.out _ _ ⟨k0, k1⟩ (fun hHeld => ?_)
      clear hKK KK
      (try dsimp only [Act.put]); (try simp only [Act.put, List.setIfInBounds_toArray, List.set_cons_zero, List.set_cons_succ])
      refine wpAnyH_take (i := 20) (oi := _) (v := ?_) rfl (by kernel_rfl) (by kernel_rfl) (by kernel_rfl) (fun _ _ _ h => h) (Or.inl ⟨by rfl, ?_⟩) (by assumption) ?_
      rotate_left
      · intro w hSw; (try dsimp only at hSw); go_simp; try with_reducible rfl
      (try simp only [Act.put, List.setIfInBounds_toArray, List.set_cons_zero, List.set_cons_succ])
      refine wpAnyH_done (by kernel_rfl) ?_ _
      clear hHeld k0 k1 q0c q1c sK hr5 hnew hB5
      go_wp2
      go_roundw
      case rel => exact ⟨j + 1, by omega, by omega, by go_num, by rw [HO.out]; exact hown', hbr.trans hgb⟩
      case measure => simp [intOf]; omega
    · have hjE : (L.take j).map cutP = (L.take 200).map cutP := by
        have := HL.out
        congr 1
        rcases Nat.lt_or_ge j 200 with h | h
        · rw [List.take_of_length_le (by omega), List.take_of_length_le (by omega)]
        · rw [show j = 200 by omega]
      have hj200 := hj2
      have hL2 : ((L.take 200).map cutP).length = j := by rw [← hjE]; simp; have := HL.out; omega
      rw [hjE] at hrow
      have hown : ∀ g, u15.ownBlock = some g → w3.heap.size ≤ g ∧ g < wr.heap.size := fun g e => own_lt6 hrow e
      generalize (L.take 200).map cutP = L2 at *
      have HROW : Hid (wr.ownsRow w.heap.size 37 2 u15 L2.length (pickCells L2)) := Lib.hid ⟨by rw [hL2]; exact hrow.1, by
        rcases hrow.2 with h | ⟨g, cap, cur, hv, hg, r⟩
        · exact .inl (by rw [hL2]; exact h)
        · exact .inr ⟨g, cap, cur, by rw [hL2]; exact hv, by omega, by rw [hL2]; exact r⟩⟩
      have HAG3 : Hid (AgE w.heap.size wr c d (fun b => u15.ownBlock = some b) s0 s0) := Lib.hid (HAG.out.own hbr hown)
      obtain ⟨ra, rc, rfl, hcell⟩ := row_pick HROW.out
      have HCELL := Lib.hid hcell
      have HLL := Lib.hid hL2
      have hBw := B3.trans (hbr.mono (by omega))
      have hsw := hBw.size
      clear hrow hcell hjE hL2 hown HPL HAG
      by_cases hc : j < len
      · have hc1 : (j : Int) < (len : Int) := by omega
        have hc2 : ¬ (j : Int) < 200 := by omega
        go_upto_region 14 with fail
        generalize wr = wt at *
        go_loopw [17, 18] (fun vd vi w4 => ∃ i dn : Nat, i ≤ L2.length ∧ vi = .int .i64 i ∧ vd = .int .i64 dn ∧ Hid (dn = (runPicks s0 (L2.take i)).2) ∧ Hid (AgE w.heap.size w4 c d (fun b => (Value.slice ra L2.length rc).ownBlock = some b) (runPicks s0 (L2.take i)).1 s0) ∧ Hid (Keep (fun b => w.heap.size ≤ b ∧ ¬ (Value.slice ra L2.length rc).ownBlock = some b) wt w4)) (fun _ vi _ => L2.length - (intOf vi).toNat)
        case atStart => exact ⟨0, 0, by omega, rfl, rfl, Lib.hid rfl, HAG3, Lib.hid (Keep.refl _ _)⟩
        case round =>
          obtain ⟨i, dn, hil, rfl, rfl, hdn, hAG, hKK⟩ := hrel
          have hll : L2.length ≤ 200 := by rw [HLL.out]; omega
          by_cases hi : i < L2.length
          · obtain ⟨p, hp⟩ : ∃ p, L2[i]? = some p := ⟨_, List.getElem?_eq_getElem hi⟩
            obtain ⟨g, rfl, eo, k0, k1⟩ := HCELL.out i p hp
            have q0c := cell_keep k0 hKK.out (fun e => e.2 eo)
            have q1c := cell_keep k1 hKK.out (fun e => e.2 eo)
            have hn := runPicks_n (L2.take i) s0
            have hn2 : (L2.take i).length ≤ 200 := by simp; omega
            have hs3n := HTH.out.2.2.1
            have HC := Lib.hid (ag_can hAG.out p.1 p.2)
            have HPk : Hid (∀ W, Below wr.heap.size wr W → Calls Tryz.prog 8 #[pV c.M, .agg #[.int .i64 p.1, .int .i64 p.2]] W fun e w' => e = .returned (.bool (pickS (runPicks s0 (L2.take i)).1 p.1 p.2).2) ∧ AgE w.heap.size w' c d (fun b => (Value.slice (some ⟨g, 0, none⟩) L2.length rc).ownBlock = some b) (pickS (runPicks s0 (L2.take i)).1 p.1 p.2).1 s0 ∧ Keep (fun b => w.heap.size ≤ b ∧ ¬ (Value.slice (some ⟨g, 0, none⟩) L2.length rc).ownBlock = some b) W w') := Lib.hid fun W hW => ag_pick1 p.1 p.2 (hAG.out.below hW) (by omega)
            have HS : Hid (runPicks s0 (L2.take (i + 1)) = ((pickS (runPicks s0 (L2.take i)).1 p.1 p.2).1, dn + (pickS (runPicks s0 (L2.take i)).1 p.1 p.2).2.toNat)) := Lib.hid (by rw [List.take_add_one, hp, Option.toList_some, runPicks_snoc, hdn.out])
            have hdl : (dn : Int) ≤ 1000 := by have := runPicks_le (L2.take i) s0; rw [← hdn.out] at this; omega
            have hix := idx_picks L2.length rc g 0 i hi
            simp only [Nat.zero_add] at hix
            have hi1 : (i : Int) < (L2.length : Int) := by omega
            obtain ⟨pt, pk⟩ := p
            dsimp only at q0c q1c HC HPk HS
            generalize pickS (runPicks s0 (L2.take i)).1 pt pk = R1 at *
            obtain ⟨s1, b1⟩ := R1
            dsimp only at HC HPk HS
            clear hp k0 k1 hn hn2 hs3n hdn
            go_upto_region 17 with (go_at_call 10; refine HC.out.mono ?_; rintro e w5 ⟨rfl, hb5⟩)
            have r0c := (hb5.cell (p := ⟨g, i * 2, none⟩) (bcell_lt9 q0c)).trans q0c
            have r1c := (hb5.cell (p := ⟨g, i * 2 + 1, none⟩) (bcell_lt9 q1c)).trans q1c
            have HP5 := Lib.hid (HPk.out w5 hb5)
            have K5 := Lib.hid (hKK.out.trans (Keep.ofBelow hb5))
            clear q0c q1c HC HPk
            go_upto_region 18 with (go_at_call 8; refine HP5.out.mono ?_; rintro e w6 ⟨rfl, hA6, hK6⟩)
            have HA6 := Lib.hid hA6
            have K6 := Lib.hid (K5.out.trans hK6)
            clear hA6 hK6 HP5 K5 r0c r1c
            cases b1
            · go_wp2
              go_roundw
              case rel => exact ⟨i + 1, dn, by omega, by go_num, rfl, Lib.hid (by rw [HS.out]; simp), Lib.hid (by rw [HS.out]; exact HA6.out), K6⟩
              case measure => simp [intOf]; omega
            · go_wp2
              go_roundw
              case rel => exact ⟨i + 1, dn + 1, by omega, by go_num, by go_num, Lib.hid (by rw [HS.out]; simp), Lib.hid (by rw [HS.out]; exact HA6.out), K6⟩
              case measure => simp [intOf]; omega
          · obtain rfl : i = L2.length := by omega
            have hdn' := hdn.out
            have hAG' := hAG.out
            rw [List.take_length] at hdn' hAG'
            have hsz := runPicks_sizes L2 s0
            have hrl := runPicks_le L2 s0
            have hs3n := HTH.out.2.2.1
            have HR2 := ag_run2 hAG' (by omega) (by omega) (row_ownkeep HROW.out hKK.out (fun g e h => h.2 e)) (fun g e => e)
            have hth1 := HTH.out
            rw [← hsz.1, ← hsz.2.1, ← hsz.2.2] at hth1
            generalize runPicks s0 L2 = R1 at *
            obtain ⟨s1, m1⟩ := R1
            dsimp only at hdn' hAG' HR2 hth1 hrl
            subst hdn'
            have HTH1 := Lib.hid (And.intro hth1.1 (And.intro hth1.2.1 hth1.2.2.2))
            have HRun := Lib.hid HR2
            have hdl : (dn : Int) ≤ 1000 := by omega
            have HB2 := Lib.hid (hBw.trans (hKK.out.below (by omega) (fun i _ e => e.1)))
            have HFEW := Lib.hid hAG'.few
            clear HR2 hth1 hsz hs3n hrl hdn hAG hAG'
            have hlt' : ¬ (L2.length : Int) < (L2.length : Int) := by omega
            go_upto_region 24 with (first
              | (go_at_call 11; refine HRun.out.mono ?_; rintro e w5 ⟨rfl, hA5, hK5⟩; have HA5 := Lib.hid hA5; have HB5 := Lib.hid (HB2.out.trans (hK5.below (by have := HB2.out.size; omega) (fun i _ e => e.1))); have HT1 := Lib.hid (ag_threads hA5); have HT2 := Lib.hid (ag_threads hA5.swap); have HO1 := Lib.hid (ag_over hA5); have HO2 : Hid (∀ W, Below w5.heap.size w5 W → _) := Lib.hid fun W hW => ag_over (hA5.swap.below hW); have HE1 : Hid (∀ W, Below w5.heap.size w5 W → _) := Lib.hid fun W hW => ag_able (hA5.below hW); have HE2 : Hid (∀ W, Below w5.heap.size w5 W → _) := Lib.hid fun W hW => ag_able (hA5.swap.below hW); clear hA5 hK5 HRun HB2)
              | (go_at_call 12; (with_reducible refine HT1.out.mono ?_); rintro e w6 ⟨rfl, rfl⟩)
              | (go_at_call 12; (with_reducible refine HT2.out.mono ?_); rintro e w6 ⟨rfl, rfl⟩)
              | (go_at_call 13; (with_reducible refine HO1.out.mono ?_); rintro e w6 ⟨rfl, hb6⟩)
              | (go_at_call 13; (with_reducible refine (HO2.out w6 hb6).mono ?_); rintro e w7 ⟨rfl, hb7⟩)
              | (go_at_call 15; (with_reducible refine (HE1.out w7 (hb6.trans (hb7.mono hb6.size))).mono ?_); rintro e w8 ⟨v8, rfl, r8, hb8⟩)
              | (go_at_call 15; (with_reducible refine (HE2.out w8 ((hb6.trans (hb7.mono hb6.size)).trans (hb8.mono (Nat.le_trans hb6.size hb7.size)))).mono ?_); rintro e w9 ⟨v9, rfl, r9, hb9⟩; have HI := Lib.hid (ints_same v8 v9 _ w9 (r8.below hb9) r9 (by have := ableS_len s1; have := HFEW.out; omega)))
              | (go_at_call 14; refine HI.out.mono ?_; rintro e w10 ⟨rfl, hb10⟩))
            have hb10' : Below w5.heap.size w5 w10 := ((((hb6.trans (hb7.mono hb6.size)).trans (hb8.mono (Nat.le_trans hb6.size hb7.size))).trans (hb9.mono (Nat.le_trans (Nat.le_trans hb6.size hb7.size) hb8.size))).trans (hb10.mono (Nat.le_trans (Nat.le_trans (Nat.le_trans hb6.size hb7.size) hb8.size) hb9.size)))
            have HA10 := Lib.hid (HA5.out.below hb10')
            have HB10 := Lib.hid (HB5.out.trans (hb10'.mono HB5.out.size))
            have HL1 := Lib.hid (ag_all HA10.out)
            have HL2 : Hid (∀ W, Below w10.heap.size w10 W → _) := Lib.hid fun W hW => ag_all (HA10.out.swap.below hW)
            clear hb6 hb7 hb8 hb9 hb10 hb10' HA5 HB5 r8 r9 HI HE1 HE2 HO1 HO2 HT1 HT2
            go_upto_region 26 with (first
              | (go_at_call 16; (with_reducible refine HL1.out.mono ?_); rintro e w11 ⟨u1, rfl, hb11, r11⟩)
              | (go_at_call 16; (with_reducible refine (HL2.out w11 hb11).mono ?_); rintro e w12 ⟨u2, rfl, hb12, r12⟩))
            have hm3 := HTH1.out.2.2
            rw [hm3] at r11 r12
            have r11' := ownsRow_keep r11 (Keep.ofBelow hb12)
            have hb12' : Below w10.heap.size w10 w12 := hb11.trans (hb12.mono hb11.size)
            have HA12 := Lib.hid (HA10.out.below hb12')
            have HB12 := Lib.hid (HB10.out.trans (hb12'.mono HB10.out.size))
            obtain ⟨g1, cp1, rfl⟩ := row_slice r11' (by omega)
            obtain ⟨g2, cp2, rfl⟩ := row_slice r12 (by omega)
            have HR1 := Lib.hid r11'
            have HR2 := Lib.hid r12
            clear r11 r11' r12 hb11 hb12 hb12' HL1 HL2 HA10 HB10 hm3
            go_loopw [23] (fun vi w4 => ∃ i : Nat, i ≤ 3 ∧ vi = .int .i64 i ∧ Hid (Keep (fun _ => False) w12 w4)) (fun vi _ => 3 - (intOf vi).toNat)
            case atStart => exact ⟨0, by omega, rfl, Lib.hid (Keep.refl _ _)⟩
            case round =>
              obtain ⟨i, hi3, rfl, hK⟩ := hrel
              by_cases hi : i < 3
              · obtain ⟨x, hx⟩ : ∃ x, s1.m[i]? = some x := ⟨_, List.getElem?_eq_getElem (by rw [HTH1.out.2.2]; exact hi)⟩
                have e0 := (ownsRow_keep HR1.out hK.out).cells (g := g1) rfl i (.int .u64 x) (by rw [List.getElem?_map, hx]; rfl)
                have e1 := (ownsRow_keep HR2.out hK.out).cells (g := g2) rfl i (.int .u64 x) (by rw [List.getElem?_map, hx]; rfl)
                rw [addr_add, Nat.zero_add] at e0 e1
                have x1 := idx_u64s8 3 cp1 g1 0 i hi
                have x2 := idx_u64s8 3 cp2 g2 0 i hi
                simp only [Nat.zero_add] at x1 x2
                have hj1 : (i : Int) < 3 := by omega
                clear hx
                go_upto_region 28 with fail
                go_quiet (fail)
                go_wp2
                go_roundw
                case rel => exact ⟨i + 1, by omega, by go_num, Lib.hid (hK.out.drewN _)⟩
                case measure => simp [intOf]; omega
              · obtain rfl : i = 3 := by omega
                have HA13 := Lib.hid (HA12.out.still hK.out)
                have HB13 := Lib.hid (HB12.out.trans (hK.out.below (by have := HB12.out.size; omega) (fun _ _ h => h.elim)))
                clear hK HR1 HR2 HA12 HB12
                have h33 : ¬ (3 : Int) < 3 := by omega
                go_upto_region 31 with fail
                generalize wr = w13 at *
                go_loopw [24] (fun vt w4 => ∃ t : Nat, t ≤ s1.ts.length ∧ vt = .int .i64 t ∧ Hid (Below w13.heap.size w13 w4)) (fun vt _ => s1.ts.length - (intOf vt).toNat)
                case atStart => exact ⟨0, by omega, rfl, Lib.hid (Below.refl _ _)⟩
                case round =>
                  obtain ⟨t, ht, rfl, hBt⟩ := hrel
                  have HA := Lib.hid (HA13.out.below hBt.out)
                  have hth1 := HTH1.out
                  have htl := HFEW.out
                  have HT1 := Lib.hid (ag_threads HA.out)
                  generalize htn : s1.ts.length = tl at *
                  clear htn
                  by_cases hlt2 : t < tl
                  · obtain ⟨pb, hpb⟩ : ∃ pb, s1.ps[t]? = some pb := ⟨_, List.getElem?_eq_getElem (by rw [hth1.2.1]; omega)⟩
                    have HV1 := Lib.hid (ag_values HA.out (t : Int) (HA.out.values _))
                    have HV2 : Hid (∀ W, Below wr.heap.size wr W → _) := Lib.hid fun W hW => ag_values (HA.out.swap.below hW) (t : Int) (HA.out.values _)
                    have HH1 : Hid (∀ W, Below wr.heap.size wr W → _) := Lib.hid fun W hW => ag_has (HA.out.below hW) t pb hpb
                    have HH2 : Hid (∀ W, Below wr.heap.size wr W → _) := Lib.hid fun W hW => ag_has (HA.out.swap.below hW) t pb hpb
                    have HVL := Lib.hid (HA.out.values (t : Int))
                    have hj1 : (t : Int) < (tl : Int) := by omega
                    clear hpb hth1
                    go_wp2_with (first
                      | (go_at_call 12; (with_reducible refine HT1.out.mono ?_); rintro e w6 ⟨rfl, rfl⟩)
                      | (go_at_call 17; (with_reducible refine HV1.out.mono ?_); rintro e w6 ⟨v6, rfl, r6, hb6⟩)
                      | (go_at_call 17; (with_reducible refine (HV2.out w6 hb6).mono ?_); rintro e w7 ⟨v7, rfl, r7, hb7⟩; have HI := Lib.hid (ints_same v6 v7 _ w7 (r6.below hb7) r7 (by have := HVL.out; omega)))
                      | (go_at_call 14; refine HI.out.mono ?_; rintro e w8 ⟨rfl, hb8⟩; have hb8' : Below wr.heap.size wr w8 := (hb6.trans (hb7.mono hb6.size)).trans (hb8.mono (Nat.le_trans hb6.size hb7.size)))
                      | (go_at_call 18; (with_reducible refine (HH1.out w8 hb8').mono ?_); rintro e w9 ⟨rfl, rfl⟩)
                      | (go_at_call 18; (with_reducible refine (HH2.out w8 hb8').mono ?_); rintro e w9 ⟨rfl, rfl⟩))
                    go_roundw
                    case rel => exact ⟨t + 1, by omega, by go_num, Lib.hid (hBt.out.trans (hb8'.mono hBt.out.size))⟩
                    case measure => simp [intOf]; omega
                  · obtain rfl : t = tl := by omega
                    have hlt3 : ¬ (t : Int) < (t : Int) := by omega
                    go_wp2_with (go_at_call 12; refine HT1.out.mono ?_; rintro e w6 ⟨rfl, rfl⟩)
                    go_ret
                    exact ⟨rfl, HB13.out.trans (hBt.out.mono HB13.out.size)⟩
      · have hc1 : ¬ (j : Int) < (len : Int) := by omega
        go_upto_region 14 with fail
        generalize wr = wt at *
        go_loopw [17, 18] (fun vd vi w4 => ∃ i dn : Nat, i ≤ L2.length ∧ vi = .int .i64 i ∧ vd = .int .i64 dn ∧ Hid (dn = (runPicks s0 (L2.take i)).2) ∧ Hid (AgE w.heap.size w4 c d (fun b => (Value.slice ra L2.length rc).ownBlock = some b) (runPicks s0 (L2.take i)).1 s0) ∧ Hid (Keep (fun b => w.heap.size ≤ b ∧ ¬ (Value.slice ra L2.length rc).ownBlock = some b) wt w4)) (fun _ vi _ => L2.length - (intOf vi).toNat)
        case atStart => exact ⟨0, 0, by omega, rfl, rfl, Lib.hid rfl, HAG3, Lib.hid (Keep.refl _ _)⟩
        case round =>
          obtain ⟨i, dn, hil, rfl, rfl, hdn, hAG, hKK⟩ := hrel
          have hll : L2.length ≤ 200 := by rw [HLL.out]; omega
          by_cases hi : i < L2.length
          · obtain ⟨p, hp⟩ : ∃ p, L2[i]? = some p := ⟨_, List.getElem?_eq_getElem hi⟩
            obtain ⟨g, rfl, eo, k0, k1⟩ := HCELL.out i p hp
            have q0c := cell_keep k0 hKK.out (fun e => e.2 eo)
            have q1c := cell_keep k1 hKK.out (fun e => e.2 eo)
            have hn := runPicks_n (L2.take i) s0
            have hn2 : (L2.take i).length ≤ 200 := by simp; omega
            have hs3n := HTH.out.2.2.1
            have HC := Lib.hid (ag_can hAG.out p.1 p.2)
            have HPk : Hid (∀ W, Below wr.heap.size wr W → Calls Tryz.prog 8 #[pV c.M, .agg #[.int .i64 p.1, .int .i64 p.2]] W fun e w' => e = .returned (.bool (pickS (runPicks s0 (L2.take i)).1 p.1 p.2).2) ∧ AgE w.heap.size w' c d (fun b => (Value.slice (some ⟨g, 0, none⟩) L2.length rc).ownBlock = some b) (pickS (runPicks s0 (L2.take i)).1 p.1 p.2).1 s0 ∧ Keep (fun b => w.heap.size ≤ b ∧ ¬ (Value.slice (some ⟨g, 0, none⟩) L2.length rc).ownBlock = some b) W w') := Lib.hid fun W hW => ag_pick1 p.1 p.2 (hAG.out.below hW) (by omega)
            have HS : Hid (runPicks s0 (L2.take (i + 1)) = ((pickS (runPicks s0 (L2.take i)).1 p.1 p.2).1, dn + (pickS (runPicks s0 (L2.take i)).1 p.1 p.2).2.toNat)) := Lib.hid (by rw [List.take_add_one, hp, Option.toList_some, runPicks_snoc, hdn.out])
            have hdl : (dn : Int) ≤ 1000 := by have := runPicks_le (L2.take i) s0; rw [← hdn.out] at this; omega
            have hix := idx_picks L2.length rc g 0 i hi
            simp only [Nat.zero_add] at hix
            have hi1 : (i : Int) < (L2.length : Int) := by omega
            obtain ⟨pt, pk⟩ := p
            dsimp only at q0c q1c HC HPk HS
            generalize pickS (runPicks s0 (L2.take i)).1 pt pk = R1 at *
            obtain ⟨s1, b1⟩ := R1
            dsimp only at HC HPk HS
            clear hp k0 k1 hn hn2 hs3n hdn
            go_upto_region 17 with (go_at_call 10; refine HC.out.mono ?_; rintro e w5 ⟨rfl, hb5⟩)
            have r0c := (hb5.cell (p := ⟨g, i * 2, none⟩) (bcell_lt9 q0c)).trans q0c
            have r1c := (hb5.cell (p := ⟨g, i * 2 + 1, none⟩) (bcell_lt9 q1c)).trans q1c
            have HP5 := Lib.hid (HPk.out w5 hb5)
            have K5 := Lib.hid (hKK.out.trans (Keep.ofBelow hb5))
            clear q0c q1c HC HPk
            go_upto_region 18 with (go_at_call 8; refine HP5.out.mono ?_; rintro e w6 ⟨rfl, hA6, hK6⟩)
            have HA6 := Lib.hid hA6
            have K6 := Lib.hid (K5.out.trans hK6)
            clear hA6 hK6 HP5 K5 r0c r1c
            cases b1
            · go_wp2
              go_roundw
              case rel => exact ⟨i + 1, dn, by omega, by go_num, rfl, Lib.hid (by rw [HS.out]; simp), Lib.hid (by rw [HS.out]; exact HA6.out), K6⟩
              case measure => simp [intOf]; omega
            · go_wp2
              go_roundw
              case rel => exact ⟨i + 1, dn + 1, by omega, by go_num, by go_num, Lib.hid (by rw [HS.out]; simp), Lib.hid (by rw [HS.out]; exact HA6.out), K6⟩
              case measure => simp [intOf]; omega
          · obtain rfl : i = L2.length := by omega
            have hdn' := hdn.out
            have hAG' := hAG.out
            rw [List.take_length] at hdn' hAG'
            have hsz := runPicks_sizes L2 s0
            have hrl := runPicks_le L2 s0
            have hs3n := HTH.out.2.2.1
            have HR2 := ag_run2 hAG' (by omega) (by omega) (row_ownkeep HROW.out hKK.out (fun g e h => h.2 e)) (fun g e => e)
            have hth1 := HTH.out
            rw [← hsz.1, ← hsz.2.1, ← hsz.2.2] at hth1
            generalize runPicks s0 L2 = R1 at *
            obtain ⟨s1, m1⟩ := R1
            dsimp only at hdn' hAG' HR2 hth1 hrl
            subst hdn'
            have HTH1 := Lib.hid (And.intro hth1.1 (And.intro hth1.2.1 hth1.2.2.2))
            have HRun := Lib.hid HR2
            have hdl : (dn : Int) ≤ 1000 := by omega
            have HB2 := Lib.hid (hBw.trans (hKK.out.below (by omega) (fun i _ e => e.1)))
            have HFEW := Lib.hid hAG'.few
            clear HR2 hth1 hsz hs3n hrl hdn hAG hAG'
            have hlt' : ¬ (L2.length : Int) < (L2.length : Int) := by omega
            go_upto_region 24 with (first
              | (go_at_call 11; refine HRun.out.mono ?_; rintro e w5 ⟨rfl, hA5, hK5⟩; have HA5 := Lib.hid hA5; have HB5 := Lib.hid (HB2.out.trans (hK5.below (by have := HB2.out.size; omega) (fun i _ e => e.1))); have HT1 := Lib.hid (ag_threads hA5); have HT2 := Lib.hid (ag_threads hA5.swap); have HO1 := Lib.hid (ag_over hA5); have HO2 : Hid (∀ W, Below w5.heap.size w5 W → _) := Lib.hid fun W hW => ag_over (hA5.swap.below hW); have HE1 : Hid (∀ W, Below w5.heap.size w5 W → _) := Lib.hid fun W hW => ag_able (hA5.below hW); have HE2 : Hid (∀ W, Below w5.heap.size w5 W → _) := Lib.hid fun W hW => ag_able (hA5.swap.below hW); clear hA5 hK5 HRun HB2)
              | (go_at_call 12; (with_reducible refine HT1.out.mono ?_); rintro e w6 ⟨rfl, rfl⟩)
              | (go_at_call 12; (with_reducible refine HT2.out.mono ?_); rintro e w6 ⟨rfl, rfl⟩)
              | (go_at_call 13; (with_reducible refine HO1.out.mono ?_); rintro e w6 ⟨rfl, hb6⟩)
              | (go_at_call 13; (with_reducible refine (HO2.out w6 hb6).mono ?_); rintro e w7 ⟨rfl, hb7⟩)
              | (go_at_call 15; (with_reducible refine (HE1.out w7 (hb6.trans (hb7.mono hb6.size))).mono ?_); rintro e w8 ⟨v8, rfl, r8, hb8⟩)
              | (go_at_call 15; (with_reducible refine (HE2.out w8 ((hb6.trans (hb7.mono hb6.size)).trans (hb8.mono (Nat.le_trans hb6.size hb7.size)))).mono ?_); rintro e w9 ⟨v9, rfl, r9, hb9⟩; have HI := Lib.hid (ints_same v8 v9 _ w9 (r8.below hb9) r9 (by have := ableS_len s1; have := HFEW.out; omega)))
              | (go_at_call 14; refine HI.out.mono ?_; rintro e w10 ⟨rfl, hb10⟩))
            have hb10' : Below w5.heap.size w5 w10 := ((((hb6.trans (hb7.mono hb6.size)).trans (hb8.mono (Nat.le_trans hb6.size hb7.size))).trans (hb9.mono (Nat.le_trans (Nat.le_trans hb6.size hb7.size) hb8.size))).trans (hb10.mono (Nat.le_trans (Nat.le_trans (Nat.le_trans hb6.size hb7.size) hb8.size) hb9.size)))
            have HA10 := Lib.hid (HA5.out.below hb10')
            have HB10 := Lib.hid (HB5.out.trans (hb10'.mono HB5.out.size))
            have HL1 := Lib.hid (ag_all HA10.out)
            have HL2 : Hid (∀ W, Below w10.heap.size w10 W → _) := Lib.hid fun W hW => ag_all (HA10.out.swap.below hW)
            clear hb6 hb7 hb8 hb9 hb10 hb10' HA5 HB5 r8 r9 HI HE1 HE2 HO1 HO2 HT1 HT2
            go_upto_region 26 with (first
              | (go_at_call 16; (with_reducible refine HL1.out.mono ?_); rintro e w11 ⟨u1, rfl, hb11, r11⟩)
              | (go_at_call 16; (with_reducible refine (HL2.out w11 hb11).mono ?_); rintro e w12 ⟨u2, rfl, hb12, r12⟩))
            have hm3 := HTH1.out.2.2
            rw [hm3] at r11 r12
            have r11' := ownsRow_keep r11 (Keep.ofBelow hb12)
            have hb12' : Below w10.heap.size w10 w12 := hb11.trans (hb12.mono hb11.size)
            have HA12 := Lib.hid (HA10.out.below hb12')
            have HB12 := Lib.hid (HB10.out.trans (hb12'.mono HB10.out.size))
            obtain ⟨g1, cp1, rfl⟩ := row_slice r11' (by omega)
            obtain ⟨g2, cp2, rfl⟩ := row_slice r12 (by omega)
            have HR1 := Lib.hid r11'
            have HR2 := Lib.hid r12
            clear r11 r11' r12 hb11 hb12 hb12' HL1 HL2 HA10 HB10 hm3
            go_loopw [23] (fun vi w4 => ∃ i : Nat, i ≤ 3 ∧ vi = .int .i64 i ∧ Hid (Keep (fun _ => False) w12 w4)) (fun vi _ => 3 - (intOf vi).toNat)
            case atStart => exact ⟨0, by omega, rfl, Lib.hid (Keep.refl _ _)⟩
            case round =>
              obtain ⟨i, hi3, rfl, hK⟩ := hrel
              by_cases hi : i < 3
              · obtain ⟨x, hx⟩ : ∃ x, s1.m[i]? = some x := ⟨_, List.getElem?_eq_getElem (by rw [HTH1.out.2.2]; exact hi)⟩
                have e0 := (ownsRow_keep HR1.out hK.out).cells (g := g1) rfl i (.int .u64 x) (by rw [List.getElem?_map, hx]; rfl)
                have e1 := (ownsRow_keep HR2.out hK.out).cells (g := g2) rfl i (.int .u64 x) (by rw [List.getElem?_map, hx]; rfl)
                rw [addr_add, Nat.zero_add] at e0 e1
                have x1 := idx_u64s8 3 cp1 g1 0 i hi
                have x2 := idx_u64s8 3 cp2 g2 0 i hi
                simp only [Nat.zero_add] at x1 x2
                have hj1 : (i : Int) < 3 := by omega
                clear hx
                go_upto_region 28 with fail
                go_quiet (fail)
                go_wp2
                go_roundw
                case rel => exact ⟨i + 1, by omega, by go_num, Lib.hid (hK.out.drewN _)⟩
                case measure => simp [intOf]; omega
              · obtain rfl : i = 3 := by omega
                have HA13 := Lib.hid (HA12.out.still hK.out)
                have HB13 := Lib.hid (HB12.out.trans (hK.out.below (by have := HB12.out.size; omega) (fun _ _ h => h.elim)))
                clear hK HR1 HR2 HA12 HB12
                have h33 : ¬ (3 : Int) < 3 := by omega
                go_upto_region 31 with fail
                generalize wr = w13 at *
                go_loopw [24] (fun vt w4 => ∃ t : Nat, t ≤ s1.ts.length ∧ vt = .int .i64 t ∧ Hid (Below w13.heap.size w13 w4)) (fun vt _ => s1.ts.length - (intOf vt).toNat)
                case atStart => exact ⟨0, by omega, rfl, Lib.hid (Below.refl _ _)⟩
                case round =>
                  obtain ⟨t, ht, rfl, hBt⟩ := hrel
                  have HA := Lib.hid (HA13.out.below hBt.out)
                  have hth1 := HTH1.out
                  have htl := HFEW.out
                  have HT1 := Lib.hid (ag_threads HA.out)
                  generalize htn : s1.ts.length = tl at *
                  clear htn
                  by_cases hlt2 : t < tl
                  · obtain ⟨pb, hpb⟩ : ∃ pb, s1.ps[t]? = some pb := ⟨_, List.getElem?_eq_getElem (by rw [hth1.2.1]; omega)⟩
                    have HV1 := Lib.hid (ag_values HA.out (t : Int) (HA.out.values _))
                    have HV2 : Hid (∀ W, Below wr.heap.size wr W → _) := Lib.hid fun W hW => ag_values (HA.out.swap.below hW) (t : Int) (HA.out.values _)
                    have HH1 : Hid (∀ W, Below wr.heap.size wr W → _) := Lib.hid fun W hW => ag_has (HA.out.below hW) t pb hpb
                    have HH2 : Hid (∀ W, Below wr.heap.size wr W → _) := Lib.hid fun W hW => ag_has (HA.out.swap.below hW) t pb hpb
                    have HVL := Lib.hid (HA.out.values (t : Int))
                    have hj1 : (t : Int) < (tl : Int) := by omega
                    clear hpb hth1
                    go_wp2_with (first
                      | (go_at_call 12; (with_reducible refine HT1.out.mono ?_); rintro e w6 ⟨rfl, rfl⟩)
                      | (go_at_call 17; (with_reducible refine HV1.out.mono ?_); rintro e w6 ⟨v6, rfl, r6, hb6⟩)
                      | (go_at_call 17; (with_reducible refine (HV2.out w6 hb6).mono ?_); rintro e w7 ⟨v7, rfl, r7, hb7⟩; have HI := Lib.hid (ints_same v6 v7 _ w7 (r6.below hb7) r7 (by have := HVL.out; omega)))
                      | (go_at_call 14; refine HI.out.mono ?_; rintro e w8 ⟨rfl, hb8⟩; have hb8' : Below wr.heap.size wr w8 := (hb6.trans (hb7.mono hb6.size)).trans (hb8.mono (Nat.le_trans hb6.size hb7.size)))
                      | (go_at_call 18; (with_reducible refine (HH1.out w8 hb8').mono ?_); rintro e w9 ⟨rfl, rfl⟩)
                      | (go_at_call 18; (with_reducible refine (HH2.out w8 hb8').mono ?_); rintro e w9 ⟨rfl, rfl⟩))
                    go_roundw
                    case rel => exact ⟨t + 1, by omega, by go_num, Lib.hid (hBt.out.trans (hb8'.mono hBt.out.size))⟩
                    case measure => simp [intOf]; omega
                  · obtain rfl : t = tl := by omega
                    have hlt3 : ¬ (t : Int) < (t : Int) := by omega
                    go_wp2_with (go_at_call 12; refine HT1.out.mono ?_; rintro e w6 ⟨rfl, rfl⟩)
                    go_ret
                    exact ⟨rfl, HB13.out.trans (hBt.out.mono HB13.out.size)⟩
