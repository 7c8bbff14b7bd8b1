/- MachinePlays returns true. -/
import Derived.Test.YtpopcallphbklaaGreatMpAlike
import Derived.Test.YtpopcallphbklaaGreatMgMade
import Derived.StillTailTactics
namespace Go.Proofs.YtpopcallphbklaaGreat
open Go.ChangeShapes Go.WideShapes Go.ChangeAt Go.RowKit
set_option linter.unusedVariables false
set_option maxRecDepth 100000
set_option linter.unusedSimpArgs false
theorem pickS_pair (m : List Int) (ps : List Bool) (ts : List Thr) (n n' t k : Int) : ∃ m2 ps2 ts2 n2 n2' b, pickS ⟨m, ps, ts, n⟩ t k = (⟨m2, ps2, ts2, n2⟩, b) ∧ pickS ⟨m, ps, ts, n'⟩ t k = (⟨m2, ps2, ts2, n2'⟩, b) ∧ m2.length = m.length ∧ ts2.length = ts.length ∧ (n ≤ n2 ∧ n2 ≤ n + 1) ∧ (n' ≤ n2' ∧ n2' ≤ n' + 1) := by
  have h1 := pickS_n ⟨m, ps, ts, n⟩ t k
  have h2 := pickS_n ⟨m, ps, ts, n'⟩ t k
  have h3 := pickS_sizes ⟨m, ps, ts, n⟩ t k
  unfold pickS at h1 h2 h3 ⊢
  dsimp only at h1 h2 h3 ⊢
  by_cases hc : canT ps (thrAt ts t) k = true
  · simp only [hc, if_true] at h1 h2 h3 ⊢
    exact ⟨_, _, _, _, _, _, rfl, rfl, h3.2.2, h3.1, h1, h2⟩
  · have hc' : canT ps (thrAt ts t) k = false := by simpa using hc
    simp only [hc', Bool.false_eq_true, if_false] at h1 h2 h3 ⊢
    exact ⟨_, _, _, _, _, _, rfl, rfl, rfl, rfl, h1, h2⟩
/-- what the loop has -/
def PlayE (w wr : World) (c : PIds) (ll i : Nat) : Prop := ∃ m ps ts n n' A, Play wr c A ⟨m, ps, ts, n⟩ ⟨m, ps, ts, n'⟩ ∧ m.length = 3 ∧ ts.length = ll ∧ (0 ≤ n ∧ n ≤ 3 + (i : Int)) ∧ (0 ≤ n' ∧ n' ≤ (i : Int)) ∧ (∀ b, A b → w.heap.size ≤ b) ∧ Below w.heap.size w wr
/-- a pick of both, and alike -/
theorem play_turn {w W3 : World} {c : PIds} {A : Nat → Prop} {m : List Int} {ps : List Bool} {ts : List Thr} {n n' : Int} {ll i X : Nat} (t k : Int) (h : Play W3 c A ⟨m, ps, ts, n⟩ ⟨m, ps, ts, n'⟩) (hm3 : m.length = 3) (htl : ts.length = ll) (hn : 0 ≤ n ∧ n ≤ 3 + (i : Int)) (hn' : 0 ≤ n' ∧ n' ≤ (i : Int))
    (hAl : ∀ b, A b → w.heap.size ≤ b) (hB : Below w.heap.size w W3) (hX : ¬ A X) (hXl : X < W3.heap.size) (hi : i ≤ 150) :
    ∃ bb, Calls Tryz.prog 8 #[pV c.M, .agg #[.int .i64 t, .int .i64 k]] W3.drew fun e w4 => e = .returned (.bool bb) ∧ Keep (fun b => b ≠ X) W3 w4 ∧
      Calls Tryz.prog 9 #[ptrV c.G, ptrV c.D, .agg #[.int .i64 t, .int .i64 k]] w4 fun e w5 => e = .returned (.bool bb) ∧ Keep (fun b => b ≠ X) W3 w5 ∧
        Calls Tryz.prog 7 #[pV c.M, cellsV c.C, ptrV c.G, ptrV c.D] w5 fun e w6 => e = .returned (.bool true) ∧ Keep (fun b => b ≠ X) W3 w6 ∧ PlayE w w6 c ll (i + 1) := by
  obtain ⟨m2, ps2, ts2, n2, n2', bb, e1, e2, e3, e4, e5, e6⟩ := pickS_pair m ps ts n n' t k
  refine ⟨bb, ?_⟩
  have kd : Keep A W3 W3.drew := (Keep.refl _ _).drew
  have hP := pl_pick t k (h.keep (F := fun _ => False) (Keep.refl _ _).drew (fun _ _ h => h)) (by dsimp only; omega)
  rw [e1] at hP
  refine hP.mono ?_
  rintro e w4 ⟨rfl, ⟨A4, h4, hA4⟩, hk4⟩
  have s0 : W3.drew.heap.size = W3.heap.size := rfl
  rw [s0] at hA4
  have k4 : Keep A W3 w4 := kd.trans hk4
  have s4 := k4.size
  have sB := hB.size
  have B4 : Below w.heap.size w w4 := hB.trans (k4.below hB.size (fun b _ hb => hAl b hb))
  have nX4 : ¬ A4 X := fun hx => by
    rcases hA4 X hx with e | e
    · exact hX e
    · omega
  have hAl4 : ∀ b, A4 b → w.heap.size ≤ b := fun b hb => by
    rcases hA4 b hb with e | e
    · exact hAl b e
    · omega
  have kx4 : Keep (fun b => b ≠ X) W3 w4 := k4.mono (fun b _ hb e => hX (e ▸ hb))
  refine ⟨rfl, kx4, ?_⟩
  have hR := pl_rpick h4 t k (by dsimp only; omega)
  rw [e2] at hR
  refine hR.mono ?_
  rintro e w5 ⟨rfl, ⟨A5, h5, hA5⟩, k5⟩
  have s5 := k5.size
  have sB4 := B4.size
  have B5 : Below w.heap.size w w5 := B4.trans (k5.below B4.size (fun b _ hb => hAl4 b hb))
  have hAl5 : ∀ b, A5 b → w.heap.size ≤ b := fun b hb => by
    rcases hA5 b hb with e | e
    · exact hAl4 b e
    · omega
  have kx5 : Keep (fun b => b ≠ X) W3 w5 := kx4.trans (k5.mono (fun b _ hb e => nX4 (e ▸ hb)))
  refine ⟨rfl, kx5, ?_⟩
  refine (alike_any c A5 m2 ps2 ts2 n2 n2' w5 h5 (e3.trans hm3)).mono ?_
  rintro e w6 ⟨rfl, hb6⟩
  exact ⟨rfl, kx5.trans (Keep.ofBelow hb6), m2, ps2, ts2, n2, n2', A5, h5.below hb6, e3.trans hm3, e4.trans htl, ⟨by omega, by omega⟩, ⟨by omega, by omega⟩, hAl5, chainB B5 hb6⟩
set_option maxHeartbeats 8000000 in
theorem plays8_any (f0 f1 f2 : Int) (a : Option Addr) (cap : Nat) (N : List (List (List Raw))) (pa : Option Addr) (pc : Nat) (L : List (Int × Int)) (w : World) (hf : (0 ≤ f0 ∧ f0 ≤ 255) ∧ (0 ≤ f1 ∧ f1 ≤ 255) ∧ (0 ≤ f2 ∧ f2 ≤ 255)) (hA : DraftAt w w.heap.size a N) (hP : PicksIn w w.heap.size pa L) :
    Calls Tryz.prog 3 #[.agg #[.int .u8 f0, .int .u8 f1, .int .u8 f2, .slice a N.length cap], .slice pa L.length pc] w fun e w' => e = .returned (.bool true) ∧ Below w.heap.size w w' := by
  have hX0 : Blk (w.alloc (.cells #[.int .u8 f0, .int .u8 f1, .int .u8 f2, .slice a N.length cap] 25)) w.heap.size 25 #[.int .u8 f0, .int .u8 f1, .int .u8 f2, .slice a N.length cap] := Blk.new _ _ _
  have hB0 : Below w.heap.size w (w.alloc (.cells #[.int .u8 f0, .int .u8 f1, .int .u8 f2, .slice a N.length cap] 25)) := (Below.refl _ w).alloc (Nat.le_refl _) _
  have hs0 : (w.alloc (.cells #[.int .u8 f0, .int .u8 f1, .int .u8 f2, .slice a N.length cap] 25)).heap.size = w.heap.size + 1 := by simp
  have HW := Lib.hid fun W => works8_any W
  have HM : Hid (∀ W, Below w.heap.size w W → w.heap.size < W.heap.size → Calls Tryz.prog 5 #[.agg #[.int .u8 f0, .int .u8 f1, .int .u8 f2, .slice a N.length cap]] W fun e w' => ∃ (c : PIds) (A : Nat → Prop), e = .returned (.tuple #[pV c.M, cellsV c.C, permitsV c.P, ptrV c.G, ptrV c.D]) ∧
      Play w' c A (startS [cut4 f0, cut4 f1, cut4 f2] (threadsOf N) (N.take 6) 3) (startS [cut4 f0, cut4 f1, cut4 f2] (threadsOf N) (N.take 6) 0) ∧ (∀ b, A b → W.heap.size ≤ b) ∧ Below W.heap.size W w') :=
    Lib.hid fun W hW hs => made_any f0 f1 f2 a cap N W hf w.heap.size hW.size (hA.below hW) (by omega)
  have HP : Hid (∀ W, Below w.heap.size w W → PicksIn W w.heap.size pa L) := Lib.hid fun W hW => hP.below hW
  obtain ⟨ll, hll⟩ : ∃ ll, ll = (drawnX (threadsOf N) (N.take 6)).length := ⟨_, rfl⟩
  have HLL := Lib.hid hll
  have hl6 : ll ≤ 6 := by rw [hll]; simp [drawnX]; omega
  clear hA hP hf hll
  obtain ⟨nl, hnl⟩ : ∃ nl, nl = N.length := ⟨_, rfl⟩
  rw [← hnl] at HM hX0 hB0 hs0 ⊢
  clear hnl
  obtain ⟨len, hlen⟩ : ∃ len, len = L.length := ⟨_, rfl⟩
  have HL := Lib.hid hlen
  rw [← hlen]
  clear hlen
  go_enter Tryz.func3, Tryz.ntmps3
  go_upto_region 1 with fail
  generalize w.alloc (.cells #[.int .u8 f0, .int .u8 f1, .int .u8 f2, .slice a nl cap] 25) = W0 at *
  have c0 := hX0.cell 0 _ rfl
  have c1 := hX0.cell 1 _ rfl
  have c2 := hX0.cell 2 _ rfl
  have c3 := hX0.cell 3 _ rfl
  have HM1 := Lib.hid (HM.out W0 hB0 (by omega))
  go_upto_region 2 with (go_at_call 5; refine HM1.out.mono ?_; rintro e w2 ⟨c, A, rfl, hp1, hA1, hb2⟩)
  have hs2 := hb2.size
  have B2 := hB0.trans (hb2.mono (by omega))
  have HP1 := Lib.hid hp1
  have HA1 := Lib.hid hA1
  have HAL : Hid (∀ W, Below w2.heap.size w2 W → Calls Tryz.prog 7 #[pV c.M, cellsV c.C, ptrV c.G, ptrV c.D] W fun e w' => e = .returned (.bool true) ∧ Below W.heap.size W w') := Lib.hid fun W hW => alike_any c A [cut4 f0, cut4 f1, cut4 f2] _ _ 3 0 W (HP1.out.below hW) rfl
  clear hp1 hA1 hX0 hB0 HM HM1 c0 c1 c2 c3 hb2
  go_upto_region 5 with (first
    | (go_at_call 6; refine (HW.out w2).mono ?_; rintro e w3 ⟨rfl, hb3⟩; have HAL3 := Lib.hid (HAL.out w3 hb3))
    | (go_at_call 7; refine HAL3.out.mono ?_; rintro e w4 ⟨rfl, hb4⟩))
  have hb24 : Below w2.heap.size w2 w4 := chainB hb3 hb4
  have HE : Hid (PlayE w w4 c ll 0) := Lib.hid ⟨_, _, _, 3, 0, A, HP1.out.below hb24, rfl, by rw [HLL.out], ⟨by omega, by omega⟩, ⟨by omega, by omega⟩, fun b hb => by have := HA1.out b hb; omega, B2.trans (hb24.mono (by omega))⟩
  clear HP1 HA1 hb3 hb4 hb24 HAL HAL3 HW B2
  go_loopw [10] (fun vi w5 => ∃ i : Nat, i ≤ 150 ∧ i ≤ len ∧ vi = .int .i64 i ∧ Hid (PlayE w w5 c ll i)) (fun vi _ => 150 - (intOf vi).toNat)
  case atStart => exact ⟨0, by omega, by omega, rfl, HE⟩
  case round =>
    clear HE
    obtain ⟨i, hi1, hi2, rfl, hE⟩ := hrel
    by_cases hlt : i < len ∧ i < 150
    · obtain ⟨hl1, hl2⟩ := hlt
      have hj1 : (i : Int) < (len : Int) := by omega
      have hj2 : (i : Int) < 150 := by omega
      obtain ⟨p, hp⟩ : ∃ p, L[i]? = some p := ⟨_, List.getElem?_eq_getElem (by rw [← HL.out]; exact hl1)⟩
      obtain ⟨m, ps, ts, n, n', A, hPl, hm3, htl, hn, hn', hAl, hBw⟩ := hE.out
      have hsw := hBw.size
      obtain ⟨hpt, hpk, b, o, rfl, hbl, k0, k1⟩ := HP.out wr hBw i p hp
      have hix := idx_picks len pc b o i hl1
      obtain ⟨pt, pk⟩ := p
      dsimp only at k0 k1
      have hXA : ¬ A wr.heap.size := fun h => by have := hPl.lt _ h; omega
      obtain ⟨ra, rgc, hR⟩ := hPl.rhead
      dsimp only at hR
      rw [htl] at hR
      have hRX : c.G ≠ wr.heap.size := by have := bcell_lt9 hR; omega
      have HPL := Lib.hid hPl
      have HAL := Lib.hid hAl
      have HM3 := Lib.hid hm3
      have HTL := Lib.hid htl
      have HN := Lib.hid (And.intro hn hn')
      clear hp hE hPl hAl hpt hpk hm3 htl hn hn'
      go_upto_region 8 with fail
      have hX : Blk (wr.alloc (.cells #[.int .i64 pt, .int .i64 pk] 37)) wr.heap.size 37 #[.int .i64 pt, .int .i64 pk] := Blk.new _ _ _
      have kA : Keep (fun b => b = wr.heap.size) wr (wr.alloc (.cells #[.int .i64 pt, .int .i64 pk] 37)) := (Keep.refl _ _).alloc _
      obtain ⟨X, hXe⟩ : ∃ X, wr.heap.size = X := ⟨_, rfl⟩
      rw [hXe] at hX kA hXA hRX
      simp only [hXe]
      have HXE := Lib.hid hXe
      rw [hXe] at hsw
      clear k0 k1 hXe
      generalize (wr.alloc (.cells #[.int .i64 pt, .int .i64 pk] 37)) = W1 at *
      have x0 := hX.cell 0 _ rfl
      have z0 := hX.free 0
      have rR := cell_keep hR kA (fun e => hRX e)
      by_cases h7 : pt.tmod 8 = 7
      · obtain ⟨T, hT⟩ : ∃ T : Nat, pt = T := Int.eq_ofNat_of_zero_le (tmod7 h7)
        subst hT
        have h7' : ¬ ((T : Int).tmod 8 ≠ 7) := by simp [h7]
        go_upto_region 10 with fail
        have hX2 := hX
        have kA2 := kA
        generalize W1 = W2 at *
        clear x0 z0 rR hX kA h7 h7'
        generalize (T : Int) = T at *
        have x1 := hX2.cell 1 _ rfl
        have z1 := hX2.free 1
        by_cases hk7 : pk.tmod 8 = 7
        · obtain ⟨kn, hkn⟩ : ∃ kn : Nat, pk = kn := Int.eq_ofNat_of_zero_le (tmod7 hk7)
          subst hkn
          have hk7' : ¬ ((kn : Int).tmod 8 ≠ 7) := by simp [hk7]
          go_upto_region 12 with fail
          clear hk7 hk7' x1 z1
          have hX3 := hX2
          have kA3 : Keep (fun b => b = X) wr W2 := kA2
          generalize W2 = W3 at *
          generalize (kn : Int) = kn at *
          have hP3 := HPL.out.keep kA3 (fun b hb e => hXA (e ▸ hb))
          have hB3 : Below w.heap.size w W3 := hBw.trans (kA3.below hBw.size (fun i hi e => by have := HXE.out; omega))
          obtain ⟨bb, hturn⟩ := play_turn T kn hP3 HM3.out HTL.out HN.out.1 HN.out.2 HAL.out hB3 hXA hX3.lt (by omega)
          have HTU := Lib.hid hturn
          have SK : Hid (∀ W, Keep (fun b => b ≠ X) W3 W → W.cell? ⟨X, 0, none⟩ = some (.int .i64 T) ∧ W.cell? ⟨X, 1, none⟩ = some (.int .i64 kn)) := Lib.hid fun W hW => ⟨(hX3.keep hW (fun h => h rfl)).cell 0 _ rfl, (hX3.keep hW (fun h => h rfl)).cell 1 _ rfl⟩
          have kd : Keep (fun b => b ≠ X) W3 W3.drew := (Keep.refl _ _).drew
          clear hX3 hP3 hXA hX2 kA2 hturn kA3 hB3
          go_region_held3 (fun W => W.cell? ⟨X, 0, none⟩ = some (.int .i64 T) ∧ W.cell? ⟨X, 1, none⟩ = some (.int .i64 kn)) (first | exact SK.out _ k6 | exact SK.out _ k5 | exact SK.out _ k4 | exact SK.out _ kd) (first
            | (go_at_call 8; refine HTU.out.mono ?_; rintro e w4 ⟨rfl, k4, hc5⟩; have HC5 := Lib.hid hc5; clear hc5)
            | (go_at_call 9; refine HC5.out.mono ?_; rintro e w5 ⟨rfl, k5, hc6⟩; have HC6 := Lib.hid hc6; clear hc6)
            | (go_at_call 7; refine HC6.out.mono ?_; rintro e w6 ⟨rfl, k6, hE6⟩; have HE6 := Lib.hid hE6; clear hE6))
          go_wp2
          go_roundw
          case rel => exact ⟨i + 1, by omega, by omega, by go_num, HE6⟩
          case measure => simp [intOf]; omega
        · go_upto_region 12 with fail
          clear hk7
          have hX3 := hX2.set 1 (.int .i64 (wrap64 ((IntKind.u64.wrap pk).tmod 3)))
          have kA3 : Keep (fun b => b = X) wr (W2.setCell ⟨X, 1, none⟩ (.int .i64 (wrap64 ((IntKind.u64.wrap pk).tmod 3)))) := kA2.set (p := ⟨X, 1, none⟩) (fun _ => rfl) _
          simp only [List.setIfInBounds_toArray, List.set_cons_zero, List.set_cons_succ] at hX3
          clear x1 z1
          generalize wrap64 ((IntKind.u64.wrap pk).tmod 3) = K at *
          generalize W2.setCell ⟨X, 1, none⟩ (.int .i64 K) = W3 at *
          have hP3 := HPL.out.keep kA3 (fun b hb e => hXA (e ▸ hb))
          have hB3 : Below w.heap.size w W3 := hBw.trans (kA3.below hBw.size (fun i hi e => by have := HXE.out; omega))
          obtain ⟨bb, hturn⟩ := play_turn T K hP3 HM3.out HTL.out HN.out.1 HN.out.2 HAL.out hB3 hXA hX3.lt (by omega)
          have HTU := Lib.hid hturn
          have SK : Hid (∀ W, Keep (fun b => b ≠ X) W3 W → W.cell? ⟨X, 0, none⟩ = some (.int .i64 T) ∧ W.cell? ⟨X, 1, none⟩ = some (.int .i64 K)) := Lib.hid fun W hW => ⟨(hX3.keep hW (fun h => h rfl)).cell 0 _ rfl, (hX3.keep hW (fun h => h rfl)).cell 1 _ rfl⟩
          have kd : Keep (fun b => b ≠ X) W3 W3.drew := (Keep.refl _ _).drew
          clear hX3 hP3 hXA hX2 kA2 hturn kA3 hB3
          go_region_held3 (fun W => W.cell? ⟨X, 0, none⟩ = some (.int .i64 T) ∧ W.cell? ⟨X, 1, none⟩ = some (.int .i64 K)) (first | exact SK.out _ k6 | exact SK.out _ k5 | exact SK.out _ k4 | exact SK.out _ kd) (first
            | (go_at_call 8; refine HTU.out.mono ?_; rintro e w4 ⟨rfl, k4, hc5⟩; have HC5 := Lib.hid hc5; clear hc5)
            | (go_at_call 9; refine HC5.out.mono ?_; rintro e w5 ⟨rfl, k5, hc6⟩; have HC6 := Lib.hid hc6; clear hc6)
            | (go_at_call 7; refine HC6.out.mono ?_; rintro e w6 ⟨rfl, k6, hE6⟩; have HE6 := Lib.hid hE6; clear hE6))
          go_wp2
          go_roundw
          case rel => exact ⟨i + 1, by omega, by omega, by go_num, HE6⟩
          case measure => simp [intOf]; omega
      · go_upto_region 9 with fail
        by_cases hl1' : 1 < ll
        · have hmx : (1 : Int) < (ll : Int) := by omega
          have hwl : IntKind.u64.wrap (ll : Int) = ll := by rw [IntKind.wrap_u64]; omega
          have hnz : ¬ ll = 0 := by omega
          have sK : ∀ W, Keep (fun b => b = X) W1 W → (fun W => W.cell? ⟨c.G, 0, none⟩ = some (.slice ra ll rgc)) W := fun W hk => cell_keep rR hk (fun e => hRX e)
          refine wp_region_held_drew (S := (fun W => W.cell? ⟨c.G, 0, none⟩ = some (.slice ra ll rgc))) (by kernel_rfl) (sK _ (Keep.refl _ _).drew) (fun hHeld => ?_)
          refine wpAnyH_take (i := 0) (oi := _) (v := ?_) rfl (by kernel_rfl) (by kernel_rfl) (by kernel_rfl) (fun _ _ _ h => h) (Or.inl ⟨by rfl, ?_⟩) (by assumption) ?_
          rotate_left
          · intro w hSw; (try dsimp only at hSw); go_simp; try with_reducible rfl
          (try simp only [Act.put, List.setIfInBounds_toArray, List.set_cons_zero, List.set_cons_succ])
          refine wpAnyH_take (i := 3) (oi := _) (v := ?_) rfl (by kernel_rfl) (by kernel_rfl) (by kernel_rfl) (fun _ _ _ h => h) (Or.inl ⟨by rfl, ?_⟩) (by assumption) ?_
          rotate_left
          · intro w hSw; (try dsimp only at hSw); go_simp; try with_reducible rfl
          (try simp only [Act.put, List.setIfInBounds_toArray, List.set_cons_zero, List.set_cons_succ])
          refine wpAnyH_take (i := 4) (oi := _) (v := ?_) rfl (by kernel_rfl) (by kernel_rfl) (by kernel_rfl) (fun _ _ _ h => h) (Or.inl ⟨by rfl, ?_⟩) (by assumption) ?_
          rotate_left
          · intro w hSw; (try dsimp only at hSw); go_simp; try with_reducible rfl
          (try simp only [Act.put, List.setIfInBounds_toArray, List.set_cons_zero, List.set_cons_succ])
          refine wpAnyH_take (i := 5) (oi := _) (v := ?_) rfl (by kernel_rfl) (by kernel_rfl) (by kernel_rfl) (fun _ _ _ h => h) (Or.inl ⟨by rfl, ?_⟩) (by assumption) ?_
          rotate_left
          · intro w hSw; (try dsimp only at hSw); go_simp; try with_reducible rfl
          (try simp only [Act.put, List.setIfInBounds_toArray, List.set_cons_zero, List.set_cons_succ])
          refine wpAnyH_take (i := 6) (oi := _) (v := ?_) rfl (by kernel_rfl) (by kernel_rfl) (by kernel_rfl) (fun _ _ _ h => h) (Or.inl ⟨by rfl, ?_⟩) (by assumption) ?_
          rotate_left
          · intro w hSw; (try dsimp only at hSw); go_simp; try with_reducible rfl
          (try simp only [Act.put, List.setIfInBounds_toArray, List.set_cons_zero, List.set_cons_succ])
          refine wpAnyH_take (i := 7) (oi := _) (v := ?_) rfl (by kernel_rfl) (by kernel_rfl) (by kernel_rfl) (fun _ _ _ h => h) (Or.inl ⟨by rfl, ?_⟩) (by assumption) ?_
          rotate_left
          · intro w hSw; (try dsimp only at hSw); go_simp; try with_reducible rfl
          (try simp only [Act.put, List.setIfInBounds_toArray, List.set_cons_zero, List.set_cons_succ])
          refine wpAnyH_take (i := 8) (oi := _) (v := ?_) rfl (by kernel_rfl) (by kernel_rfl) (by kernel_rfl) (fun _ _ _ h => h) (Or.inl ⟨by rfl, ?_⟩) (by assumption) ?_
          rotate_left
          · intro w hSw; (try dsimp only at hSw); go_simp; try with_reducible rfl
          (try simp only [Act.put, List.setIfInBounds_toArray, List.set_cons_zero, List.set_cons_succ])
          refine wpAnyH_take (i := 9) (oi := _) (v := ?_) rfl (by kernel_rfl) (by kernel_rfl) (by kernel_rfl) (fun _ _ _ h => h) (Or.inl ⟨by rfl, ?_⟩) (by assumption) ?_
          rotate_left
          · intro w hSw; (try dsimp only at hSw); go_simp; try with_reducible rfl
          (try simp only [Act.put, List.setIfInBounds_toArray, List.set_cons_zero, List.set_cons_succ])
          refine wpAnyH_ready (rs := [1]) (by kernel_rfl) (by simp) ?_
          refine AllReadyH.cons rfl (fun KK hKK => ?_) AllReadyH.nil
          go_simp
          go_wp2_with fail
          refine hKK.out _ _ (sK _ (Keep.refl _ _).drew) (fun hHeld => ?_)
          clear hKK KK
          (try dsimp only [Act.put]); (try simp only [Act.put, List.setIfInBounds_toArray, List.set_cons_zero, List.set_cons_succ])
          refine wpAnyH_take (i := 2) (oi := _) (v := ?_) rfl (by kernel_rfl) (by kernel_rfl) (by kernel_rfl) (fun _ _ _ h => h) (Or.inl ⟨by rfl, ?_⟩) (by assumption) ?_
          rotate_left
          · intro w hSw; (try dsimp only at hSw); go_simp; try with_reducible rfl
          (try simp only [Act.put, List.setIfInBounds_toArray, List.set_cons_zero, List.set_cons_succ])
          refine wpAnyH_take (i := 10) (oi := _) (v := ?_) rfl (by kernel_rfl) (by kernel_rfl) (by kernel_rfl) (fun _ _ _ h => h) (Or.inl ⟨by rfl, ?_⟩) (by assumption) ?_
          rotate_left
          · intro w hSw; (try dsimp only at hSw); go_simp; try with_reducible rfl
          (try simp only [Act.put, List.setIfInBounds_toArray, List.set_cons_zero, List.set_cons_succ])
          refine wpAnyH_take (i := 11) (oi := _) (v := ?_) rfl (by kernel_rfl) (by kernel_rfl) (by kernel_rfl) (fun _ _ _ h => h) (Or.inl ⟨by rfl, ?_⟩) (by assumption) ?_
          rotate_left
          · intro w hSw; (try dsimp only at hSw); go_simp; try with_reducible rfl
          (try simp only [Act.put, List.setIfInBounds_toArray, List.set_cons_zero, List.set_cons_succ])
          refine wpAnyH_take (i := 12) (oi := _) (v := ?_) rfl (by kernel_rfl) (by kernel_rfl) (by kernel_rfl) (fun _ _ _ h => h) (Or.inl ⟨by rfl, ?_⟩) (by assumption) ?_
          rotate_left
          · intro w hSw; (try dsimp only at hSw); go_simp; try with_reducible rfl
          (try simp only [Act.put, List.setIfInBounds_toArray, List.set_cons_zero, List.set_cons_succ])
          clear hHeld
          refine wpAnyH_ready (rs := [13]) (by kernel_rfl) (by simp) ?_
          refine AllReadyH.cons rfl (fun KK hKK => ?_) AllReadyH.nil
          go_simp
          go_wp2_with fail
          refine hKK.out _ _ (sK _ ((Keep.refl (fun b => b = X) W1).set (p := ⟨X, 0, none⟩) (fun _ => rfl) _).drew) (fun hHeld => ?_)
          clear hKK KK hHeld
          (try dsimp only [Act.put]); (try simp only [Act.put, List.setIfInBounds_toArray, List.set_cons_zero, List.set_cons_succ])
          refine wpAnyH_done (by kernel_rfl) ?_ _
          go_upto_region 10 with fail
          have hX2 : Blk (W1.setCell ⟨X, 0, none⟩ (.int .i64 (IntKind.i64.wrap ((IntKind.u64.wrap pt).tmod (ll : Int))))).drew X 37 #[.int .i64 (IntKind.i64.wrap ((IntKind.u64.wrap pt).tmod (ll : Int))), .int .i64 pk] := hX.set 0 _
          have kA2 : Keep (fun b => b = X) wr (W1.setCell ⟨X, 0, none⟩ (.int .i64 (IntKind.i64.wrap ((IntKind.u64.wrap pt).tmod (ll : Int))))).drew := (kA.set (p := ⟨X, 0, none⟩) (fun _ => rfl) _).drew
          generalize (IntKind.i64.wrap ((IntKind.u64.wrap pt).tmod (ll : Int))) = T at *
          generalize (W1.setCell ⟨X, 0, none⟩ (.int .i64 T)).drew = W2 at *
          clear sK x0 z0 rR hX kA hmx hwl hnz
          have x1 := hX2.cell 1 _ rfl
          have z1 := hX2.free 1
          by_cases hk7 : pk.tmod 8 = 7
          · obtain ⟨kn, hkn⟩ : ∃ kn : Nat, pk = kn := Int.eq_ofNat_of_zero_le (tmod7 hk7)
            subst hkn
            have hk7' : ¬ ((kn : Int).tmod 8 ≠ 7) := by simp [hk7]
            go_upto_region 12 with fail
            clear hk7 hk7' x1 z1
            have hX3 := hX2
            have kA3 : Keep (fun b => b = X) wr W2 := kA2
            generalize W2 = W3 at *
            generalize (kn : Int) = kn at *
            have hP3 := HPL.out.keep kA3 (fun b hb e => hXA (e ▸ hb))
            have hB3 : Below w.heap.size w W3 := hBw.trans (kA3.below hBw.size (fun i hi e => by have := HXE.out; omega))
            obtain ⟨bb, hturn⟩ := play_turn T kn hP3 HM3.out HTL.out HN.out.1 HN.out.2 HAL.out hB3 hXA hX3.lt (by omega)
            have HTU := Lib.hid hturn
            have SK : Hid (∀ W, Keep (fun b => b ≠ X) W3 W → W.cell? ⟨X, 0, none⟩ = some (.int .i64 T) ∧ W.cell? ⟨X, 1, none⟩ = some (.int .i64 kn)) := Lib.hid fun W hW => ⟨(hX3.keep hW (fun h => h rfl)).cell 0 _ rfl, (hX3.keep hW (fun h => h rfl)).cell 1 _ rfl⟩
            have kd : Keep (fun b => b ≠ X) W3 W3.drew := (Keep.refl _ _).drew
            clear hX3 hP3 hXA hX2 kA2 hturn kA3 hB3
            go_region_held3 (fun W => W.cell? ⟨X, 0, none⟩ = some (.int .i64 T) ∧ W.cell? ⟨X, 1, none⟩ = some (.int .i64 kn)) (first | exact SK.out _ k6 | exact SK.out _ k5 | exact SK.out _ k4 | exact SK.out _ kd) (first
              | (go_at_call 8; refine HTU.out.mono ?_; rintro e w4 ⟨rfl, k4, hc5⟩; have HC5 := Lib.hid hc5; clear hc5)
              | (go_at_call 9; refine HC5.out.mono ?_; rintro e w5 ⟨rfl, k5, hc6⟩; have HC6 := Lib.hid hc6; clear hc6)
              | (go_at_call 7; refine HC6.out.mono ?_; rintro e w6 ⟨rfl, k6, hE6⟩; have HE6 := Lib.hid hE6; clear hE6))
            go_wp2
            go_roundw
            case rel => exact ⟨i + 1, by omega, by omega, by go_num, HE6⟩
            case measure => simp [intOf]; omega
          · go_upto_region 12 with fail
            clear hk7
            have hX3 := hX2.set 1 (.int .i64 (wrap64 ((IntKind.u64.wrap pk).tmod 3)))
            have kA3 : Keep (fun b => b = X) wr (W2.setCell ⟨X, 1, none⟩ (.int .i64 (wrap64 ((IntKind.u64.wrap pk).tmod 3)))) := kA2.set (p := ⟨X, 1, none⟩) (fun _ => rfl) _
            simp only [List.setIfInBounds_toArray, List.set_cons_zero, List.set_cons_succ] at hX3
            clear x1 z1
            generalize wrap64 ((IntKind.u64.wrap pk).tmod 3) = K at *
            generalize W2.setCell ⟨X, 1, none⟩ (.int .i64 K) = W3 at *
            have hP3 := HPL.out.keep kA3 (fun b hb e => hXA (e ▸ hb))
            have hB3 : Below w.heap.size w W3 := hBw.trans (kA3.below hBw.size (fun i hi e => by have := HXE.out; omega))
            obtain ⟨bb, hturn⟩ := play_turn T K hP3 HM3.out HTL.out HN.out.1 HN.out.2 HAL.out hB3 hXA hX3.lt (by omega)
            have HTU := Lib.hid hturn
            have SK : Hid (∀ W, Keep (fun b => b ≠ X) W3 W → W.cell? ⟨X, 0, none⟩ = some (.int .i64 T) ∧ W.cell? ⟨X, 1, none⟩ = some (.int .i64 K)) := Lib.hid fun W hW => ⟨(hX3.keep hW (fun h => h rfl)).cell 0 _ rfl, (hX3.keep hW (fun h => h rfl)).cell 1 _ rfl⟩
            have kd : Keep (fun b => b ≠ X) W3 W3.drew := (Keep.refl _ _).drew
            clear hX3 hP3 hXA hX2 kA2 hturn kA3 hB3
            go_region_held3 (fun W => W.cell? ⟨X, 0, none⟩ = some (.int .i64 T) ∧ W.cell? ⟨X, 1, none⟩ = some (.int .i64 K)) (first | exact SK.out _ k6 | exact SK.out _ k5 | exact SK.out _ k4 | exact SK.out _ kd) (first
              | (go_at_call 8; refine HTU.out.mono ?_; rintro e w4 ⟨rfl, k4, hc5⟩; have HC5 := Lib.hid hc5; clear hc5)
              | (go_at_call 9; refine HC5.out.mono ?_; rintro e w5 ⟨rfl, k5, hc6⟩; have HC6 := Lib.hid hc6; clear hc6)
              | (go_at_call 7; refine HC6.out.mono ?_; rintro e w6 ⟨rfl, k6, hE6⟩; have HE6 := Lib.hid hE6; clear hE6))
            go_wp2
            go_roundw
            case rel => exact ⟨i + 1, by omega, by omega, by go_num, HE6⟩
            case measure => simp [intOf]; omega
        · have hmx : ¬ (1 : Int) < (ll : Int) := by omega
          obtain ⟨dv, hwl⟩ : ∃ dv : Int, IntKind.u64.wrap 1 = dv := ⟨_, rfl⟩
          have hnz : ¬ dv = 0 := by rw [← hwl, IntKind.wrap_u64]; decide
          have sK : ∀ W, Keep (fun b => b = X) W1 W → (fun W => W.cell? ⟨c.G, 0, none⟩ = some (.slice ra ll rgc)) W := fun W hk => cell_keep rR hk (fun e => hRX e)
          refine wp_region_held_drew (S := (fun W => W.cell? ⟨c.G, 0, none⟩ = some (.slice ra ll rgc))) (by kernel_rfl) (sK _ (Keep.refl _ _).drew) (fun hHeld => ?_)
          refine wpAnyH_take (i := 0) (oi := _) (v := ?_) rfl (by kernel_rfl) (by kernel_rfl) (by kernel_rfl) (fun _ _ _ h => h) (Or.inl ⟨by rfl, ?_⟩) (by assumption) ?_
          rotate_left
          · intro w hSw; (try dsimp only at hSw); go_simp; try with_reducible rfl
          (try simp only [Act.put, List.setIfInBounds_toArray, List.set_cons_zero, List.set_cons_succ])
          refine wpAnyH_take (i := 3) (oi := _) (v := ?_) rfl (by kernel_rfl) (by kernel_rfl) (by kernel_rfl) (fun _ _ _ h => h) (Or.inl ⟨by rfl, ?_⟩) (by assumption) ?_
          rotate_left
          · intro w hSw; (try dsimp only at hSw); go_simp; try with_reducible rfl
          (try simp only [Act.put, List.setIfInBounds_toArray, List.set_cons_zero, List.set_cons_succ])
          refine wpAnyH_take (i := 4) (oi := _) (v := ?_) rfl (by kernel_rfl) (by kernel_rfl) (by kernel_rfl) (fun _ _ _ h => h) (Or.inl ⟨by rfl, ?_⟩) (by assumption) ?_
          rotate_left
          · intro w hSw; (try dsimp only at hSw); go_simp; try with_reducible rfl
          (try simp only [Act.put, List.setIfInBounds_toArray, List.set_cons_zero, List.set_cons_succ])
          refine wpAnyH_take (i := 5) (oi := _) (v := ?_) rfl (by kernel_rfl) (by kernel_rfl) (by kernel_rfl) (fun _ _ _ h => h) (Or.inl ⟨by rfl, ?_⟩) (by assumption) ?_
          rotate_left
          · intro w hSw; (try dsimp only at hSw); go_simp; try with_reducible rfl
          (try simp only [Act.put, List.setIfInBounds_toArray, List.set_cons_zero, List.set_cons_succ])
          refine wpAnyH_take (i := 6) (oi := _) (v := ?_) rfl (by kernel_rfl) (by kernel_rfl) (by kernel_rfl) (fun _ _ _ h => h) (Or.inl ⟨by rfl, ?_⟩) (by assumption) ?_
          rotate_left
          · intro w hSw; (try dsimp only at hSw); go_simp; try with_reducible rfl
          (try simp only [Act.put, List.setIfInBounds_toArray, List.set_cons_zero, List.set_cons_succ])
          refine wpAnyH_take (i := 7) (oi := _) (v := ?_) rfl (by kernel_rfl) (by kernel_rfl) (by kernel_rfl) (fun _ _ _ h => h) (Or.inl ⟨by rfl, ?_⟩) (by assumption) ?_
          rotate_left
          · intro w hSw; (try dsimp only at hSw); go_simp; try with_reducible rfl
          (try simp only [Act.put, List.setIfInBounds_toArray, List.set_cons_zero, List.set_cons_succ])
          refine wpAnyH_take (i := 8) (oi := _) (v := ?_) rfl (by kernel_rfl) (by kernel_rfl) (by kernel_rfl) (fun _ _ _ h => h) (Or.inl ⟨by rfl, ?_⟩) (by assumption) ?_
          rotate_left
          · intro w hSw; (try dsimp only at hSw); go_simp; try with_reducible rfl
          (try simp only [Act.put, List.setIfInBounds_toArray, List.set_cons_zero, List.set_cons_succ])
          refine wpAnyH_take (i := 9) (oi := _) (v := ?_) rfl (by kernel_rfl) (by kernel_rfl) (by kernel_rfl) (fun _ _ _ h => h) (Or.inl ⟨by rfl, ?_⟩) (by assumption) ?_
          rotate_left
          · intro w hSw; (try dsimp only at hSw); go_simp; try with_reducible rfl
          (try simp only [Act.put, List.setIfInBounds_toArray, List.set_cons_zero, List.set_cons_succ])
          refine wpAnyH_ready (rs := [1]) (by kernel_rfl) (by simp) ?_
          refine AllReadyH.cons rfl (fun KK hKK => ?_) AllReadyH.nil
          go_simp
          go_wp2_with fail
          refine hKK.out _ _ (sK _ (Keep.refl _ _).drew) (fun hHeld => ?_)
          clear hKK KK
          (try dsimp only [Act.put]); (try simp only [Act.put, List.setIfInBounds_toArray, List.set_cons_zero, List.set_cons_succ])
          refine wpAnyH_take (i := 2) (oi := _) (v := ?_) rfl (by kernel_rfl) (by kernel_rfl) (by kernel_rfl) (fun _ _ _ h => h) (Or.inl ⟨by rfl, ?_⟩) (by assumption) ?_
          rotate_left
          · intro w hSw; (try dsimp only at hSw); go_simp; try with_reducible rfl
          (try simp only [Act.put, List.setIfInBounds_toArray, List.set_cons_zero, List.set_cons_succ])
          refine wpAnyH_take (i := 10) (oi := _) (v := ?_) rfl (by kernel_rfl) (by kernel_rfl) (by kernel_rfl) (fun _ _ _ h => h) (Or.inl ⟨by rfl, ?_⟩) (by assumption) ?_
          rotate_left
          · intro w hSw; (try dsimp only at hSw); go_simp; try with_reducible rfl
          (try simp only [Act.put, List.setIfInBounds_toArray, List.set_cons_zero, List.set_cons_succ])
          refine wpAnyH_take (i := 11) (oi := _) (v := ?_) rfl (by kernel_rfl) (by kernel_rfl) (by kernel_rfl) (fun _ _ _ h => h) (Or.inl ⟨by rfl, ?_⟩) (by assumption) ?_
          rotate_left
          · intro w hSw; (try dsimp only at hSw); go_simp; try with_reducible rfl
          (try simp only [Act.put, List.setIfInBounds_toArray, List.set_cons_zero, List.set_cons_succ])
          refine wpAnyH_take (i := 12) (oi := _) (v := ?_) rfl (by kernel_rfl) (by kernel_rfl) (by kernel_rfl) (fun _ _ _ h => h) (Or.inl ⟨by rfl, ?_⟩) (by assumption) ?_
          rotate_left
          · intro w hSw; (try dsimp only at hSw); go_simp; try with_reducible rfl
          (try simp only [Act.put, List.setIfInBounds_toArray, List.set_cons_zero, List.set_cons_succ])
          clear hHeld
          refine wpAnyH_ready (rs := [13]) (by kernel_rfl) (by simp) ?_
          refine AllReadyH.cons rfl (fun KK hKK => ?_) AllReadyH.nil
          go_simp
          go_wp2_with fail
          refine hKK.out _ _ (sK _ ((Keep.refl (fun b => b = X) W1).set (p := ⟨X, 0, none⟩) (fun _ => rfl) _).drew) (fun hHeld => ?_)
          clear hKK KK hHeld
          (try dsimp only [Act.put]); (try simp only [Act.put, List.setIfInBounds_toArray, List.set_cons_zero, List.set_cons_succ])
          refine wpAnyH_done (by kernel_rfl) ?_ _
          go_upto_region 10 with fail
          have hX2 : Blk (W1.setCell ⟨X, 0, none⟩ (.int .i64 (IntKind.i64.wrap ((IntKind.u64.wrap pt).tmod dv)))).drew X 37 #[.int .i64 (IntKind.i64.wrap ((IntKind.u64.wrap pt).tmod dv)), .int .i64 pk] := hX.set 0 _
          have kA2 : Keep (fun b => b = X) wr (W1.setCell ⟨X, 0, none⟩ (.int .i64 (IntKind.i64.wrap ((IntKind.u64.wrap pt).tmod dv)))).drew := (kA.set (p := ⟨X, 0, none⟩) (fun _ => rfl) _).drew
          generalize (IntKind.i64.wrap ((IntKind.u64.wrap pt).tmod dv)) = T at *
          generalize (W1.setCell ⟨X, 0, none⟩ (.int .i64 T)).drew = W2 at *
          clear sK x0 z0 rR hX kA hmx hwl hnz
          have x1 := hX2.cell 1 _ rfl
          have z1 := hX2.free 1
          by_cases hk7 : pk.tmod 8 = 7
          · obtain ⟨kn, hkn⟩ : ∃ kn : Nat, pk = kn := Int.eq_ofNat_of_zero_le (tmod7 hk7)
            subst hkn
            have hk7' : ¬ ((kn : Int).tmod 8 ≠ 7) := by simp [hk7]
            go_upto_region 12 with fail
            clear hk7 hk7' x1 z1
            have hX3 := hX2
            have kA3 : Keep (fun b => b = X) wr W2 := kA2
            generalize W2 = W3 at *
            generalize (kn : Int) = kn at *
            have hP3 := HPL.out.keep kA3 (fun b hb e => hXA (e ▸ hb))
            have hB3 : Below w.heap.size w W3 := hBw.trans (kA3.below hBw.size (fun i hi e => by have := HXE.out; omega))
            obtain ⟨bb, hturn⟩ := play_turn T kn hP3 HM3.out HTL.out HN.out.1 HN.out.2 HAL.out hB3 hXA hX3.lt (by omega)
            have HTU := Lib.hid hturn
            have SK : Hid (∀ W, Keep (fun b => b ≠ X) W3 W → W.cell? ⟨X, 0, none⟩ = some (.int .i64 T) ∧ W.cell? ⟨X, 1, none⟩ = some (.int .i64 kn)) := Lib.hid fun W hW => ⟨(hX3.keep hW (fun h => h rfl)).cell 0 _ rfl, (hX3.keep hW (fun h => h rfl)).cell 1 _ rfl⟩
            have kd : Keep (fun b => b ≠ X) W3 W3.drew := (Keep.refl _ _).drew
            clear hX3 hP3 hXA hX2 kA2 hturn kA3 hB3
            go_region_held3 (fun W => W.cell? ⟨X, 0, none⟩ = some (.int .i64 T) ∧ W.cell? ⟨X, 1, none⟩ = some (.int .i64 kn)) (first | exact SK.out _ k6 | exact SK.out _ k5 | exact SK.out _ k4 | exact SK.out _ kd) (first
              | (go_at_call 8; refine HTU.out.mono ?_; rintro e w4 ⟨rfl, k4, hc5⟩; have HC5 := Lib.hid hc5; clear hc5)
              | (go_at_call 9; refine HC5.out.mono ?_; rintro e w5 ⟨rfl, k5, hc6⟩; have HC6 := Lib.hid hc6; clear hc6)
              | (go_at_call 7; refine HC6.out.mono ?_; rintro e w6 ⟨rfl, k6, hE6⟩; have HE6 := Lib.hid hE6; clear hE6))
            go_wp2
            go_roundw
            case rel => exact ⟨i + 1, by omega, by omega, by go_num, HE6⟩
            case measure => simp [intOf]; omega
          · go_upto_region 12 with fail
            clear hk7
            have hX3 := hX2.set 1 (.int .i64 (wrap64 ((IntKind.u64.wrap pk).tmod 3)))
            have kA3 : Keep (fun b => b = X) wr (W2.setCell ⟨X, 1, none⟩ (.int .i64 (wrap64 ((IntKind.u64.wrap pk).tmod 3)))) := kA2.set (p := ⟨X, 1, none⟩) (fun _ => rfl) _
            simp only [List.setIfInBounds_toArray, List.set_cons_zero, List.set_cons_succ] at hX3
            clear x1 z1
            generalize wrap64 ((IntKind.u64.wrap pk).tmod 3) = K at *
            generalize W2.setCell ⟨X, 1, none⟩ (.int .i64 K) = W3 at *
            have hP3 := HPL.out.keep kA3 (fun b hb e => hXA (e ▸ hb))
            have hB3 : Below w.heap.size w W3 := hBw.trans (kA3.below hBw.size (fun i hi e => by have := HXE.out; omega))
            obtain ⟨bb, hturn⟩ := play_turn T K hP3 HM3.out HTL.out HN.out.1 HN.out.2 HAL.out hB3 hXA hX3.lt (by omega)
            have HTU := Lib.hid hturn
            have SK : Hid (∀ W, Keep (fun b => b ≠ X) W3 W → W.cell? ⟨X, 0, none⟩ = some (.int .i64 T) ∧ W.cell? ⟨X, 1, none⟩ = some (.int .i64 K)) := Lib.hid fun W hW => ⟨(hX3.keep hW (fun h => h rfl)).cell 0 _ rfl, (hX3.keep hW (fun h => h rfl)).cell 1 _ rfl⟩
            have kd : Keep (fun b => b ≠ X) W3 W3.drew := (Keep.refl _ _).drew
            clear hX3 hP3 hXA hX2 kA2 hturn kA3 hB3
            go_region_held3 (fun W => W.cell? ⟨X, 0, none⟩ = some (.int .i64 T) ∧ W.cell? ⟨X, 1, none⟩ = some (.int .i64 K)) (first | exact SK.out _ k6 | exact SK.out _ k5 | exact SK.out _ k4 | exact SK.out _ kd) (first
              | (go_at_call 8; refine HTU.out.mono ?_; rintro e w4 ⟨rfl, k4, hc5⟩; have HC5 := Lib.hid hc5; clear hc5)
              | (go_at_call 9; refine HC5.out.mono ?_; rintro e w5 ⟨rfl, k5, hc6⟩; have HC6 := Lib.hid hc6; clear hc6)
              | (go_at_call 7; refine HC6.out.mono ?_; rintro e w6 ⟨rfl, k6, hE6⟩; have HE6 := Lib.hid hE6; clear hE6))
            go_wp2
            go_roundw
            case rel => exact ⟨i + 1, by omega, by omega, by go_num, HE6⟩
            case measure => simp [intOf]; omega
    · obtain ⟨m, ps, ts, n, n', A, hPl, hm3, htl, hn, hn', hAl, hBw⟩ := hE.out
      clear hE hPl hm3 htl hn hn' hAl
      by_cases hc : i < len
      · have hc1 : (i : Int) < (len : Int) := by omega
        have hc2 : ¬ (i : Int) < 150 := by omega
        go_wp2
        go_ret
        exact ⟨rfl, hBw⟩
      · have hc1 : ¬ (i : Int) < (len : Int) := by omega
        go_wp2
        go_ret
        exact ⟨rfl, hBw⟩
end Go.Proofs.YtpopcallphbklaaGreat
