/- LatchOne returns true: the walk. -/
import Derived.Test.YtcocpmoglhgbeaaLatOneA
namespace Go.Proofs.Ytcocpmoglhgbeaa
open Go.ChangeShapes Go.WideShapes Go.ChangeAt Go.RowKit
set_option linter.unusedVariables false
set_option maxRecDepth 100000
set_option linter.unusedSimpArgs false
theorem cut_u8s (a : Option Addr) (l len cap : Nat) (hl : l ≤ cap) : ∀ W, (Instr.slice 40 (.slice a len cap) none (some (.int .i64 (l : Int))) none).run Try.prog W = .ok (.slice a l cap) W := by
  intro W
  rw [run_slice_h _ 40 _ _ _ (by kernel_rfl) .i64 l (by omega) (by omega)]
  have hs : (sizeOf (Try.prog.elem 40)).run Try.prog W = .ok 1 W := by kernel_rfl
  rw [hs]
  cases a <;> simp [Result.andThen, sliced, Addr.add]
set_option maxHeartbeats 8000000 in
theorem one_law (a : Option Addr) (len cap : Nat) (x y : Int) (w : World) (hB : BytesAt w w.heap.size a len) (hlc : len ≤ cap) (hcm : cap ≤ 9223372036854775807) (hx : 0 ≤ x ∧ x ≤ 255) (hy : 0 ≤ y ∧ y ≤ 255) : Calls Try.prog 5 #[.slice a len cap, .int .u8 x, .int .u8 y] w fun e w' => e = .returned (.bool true) ∧ Below w.heap.size w w' := by
  have HWK := Lib.hid (works_any w)
  obtain ⟨q, hq1, hq2, hq3⟩ : ∃ q : Nat, x.tmod 6 = (q : Int) ∧ x % 6 = (q : Int) ∧ q < 6 := by
    have : x.tmod 6 = x % 6 := Int.tmod_eq_emod_of_nonneg hx.1
    exact ⟨(x % 6).toNat, by omega, by omega, by omega⟩
  obtain ⟨p, hp1, hp2, hp3⟩ : ∃ p : Nat, y.tmod 4 = (p : Int) ∧ y % 4 = (p : Int) ∧ p < 4 := by
    have : y.tmod 4 = y % 4 := Int.tmod_eq_emod_of_nonneg hy.1
    exact ⟨(y % 4).toNat, by omega, by omega, by omega⟩
  obtain ⟨n, hn1, hn2⟩ : ∃ n : Nat, 1 + (q : Int) = (n : Int) ∧ 1 ≤ n ∧ n ≤ 6 := ⟨1 + q, by omega, by omega, by omega⟩
  obtain ⟨K, hK1, hK2⟩ : ∃ K : Nat, 1 + (p : Int) = (K : Int) ∧ 1 ≤ K ∧ K ≤ 4 := ⟨1 + p, by omega, by omega, by omega⟩
  obtain ⟨Lb, hL1, hL2⟩ : ∃ Lb : Nat, Lb = min len 200 ∧ Lb ≤ 200 := ⟨min len 200, rfl, by omega⟩
  have hmin : (if (200 : Int) < (len : Int) then (200 : Int) else (len : Int)) = (Lb : Int) := by split <;> omega
  have hlcI : (Lb : Int) ≤ (cap : Int) := by omega
  have HB := Lib.hid (hB.cut (l := Lb) (by omega))
  have HN := Lib.hid fun W (h : w.heap.size ≤ W.heap.size) => wnew (a := 1) 1 rfl W w.heap.size h (by omega)
  have hm1 := fun W => make_pts n W (by omega)
  have hm2 := fun W => make_ints n W (by omega)
  clear hB hL1 hlc
  go_enter Try.func5, Try.ntmps5
  go_upto_region 3 with (go_at_call 8; refine HWK.out.mono ?_; rintro e w0 ⟨rfl, b0⟩; have HN0 := Lib.hid (HN.out w0 b0.size))
  go_upto_region 4 with fail
  go_upto_region 5 with fail
  clear hx hy hq1 hq2 hq3 hp1 hp2 hp3 hn1 hK1
  have hY0 : Blk (w0.alloc (.cells (turnsV a Lb cap n 0) 43)) w0.heap.size 43 (turnsV a Lb cap n 0) := Blk.new w0 _ _
  generalize hW1 : (w0.alloc _) = w1
  have hY : Blk w1 w0.heap.size 43 (turnsV a Lb cap n 0) := by rw [← hW1]; exact hY0
  have b1 : Below w0.heap.size w0 w1 := by rw [← hW1]; go_grown
  clear hW1 hY0
  have HN1 := Lib.hid (HN.out w1 (by have := b0.size; have := b1.size; omega))
  go_upto_region 6 with (go_at_call 9; refine HN1.out.mono ?_; rintro e w2 ⟨C, S, rfl, hW2, b2, hCS⟩)
  go_cut [11, 12] from 37 to 40 (fun v11 v12 wr => ∃ A B, v11 = .slice (some ⟨A, 0, none⟩) n n ∧ v12 = .slice (some ⟨B, 0, none⟩) n n ∧ A ≠ B ∧ w2.heap.size ≤ A ∧ w2.heap.size ≤ B ∧ Blk wr A 29 (ptsV (List.replicate n none)) ∧ Blk wr B 29 (ptsV (List.replicate n none)) ∧ Below w2.heap.size w2 wr)
  case first =>
    go_region_held3 (fun _ => True) (exact trivial) (fail)
    all_goals
      go_wp2_with fail
      go_meet
      refine ⟨_, _, rfl, rfl, by omega, by omega, by omega, ?_, ?_, ?_⟩
      · first | exact ((Blk.new w2 _ _).alloc _).drew | exact (blk_two w2 _ _ _).drew
      · first | exact ((Blk.new w2 _ _).alloc _).drew | exact (blk_two w2 _ _ _).drew
      · exact Below.mono (B := w2.heap.size) ((((Below.refl _ w2).alloc (Nat.le_refl _) _).alloc (by simp) _).trans ⟨rfl, rfl, rfl, Nat.le_refl _, fun _ _ => rfl⟩) (Nat.le_refl _)
  case rest =>
    obtain ⟨A, B, rfl, rfl, hAB, hA, hB, bA, bB, b3⟩ := hcut
    go_upto_region 8 with fail
    generalize hW4 : (wc.alloc _) = w4
    have bD : Blk w4 wc.heap.size 3 (intsV (List.replicate n 0)) := by rw [← hW4]; exact Blk.new wc _ _
    have b4 : Below wc.heap.size wc w4 := by rw [← hW4]; go_grown
    clear hW4
    have e0 := b0.size
    have e1 := b1.size
    have e2 := b2.size
    have e3 := b3.size
    have hYl := hY.lt
    obtain ⟨g, hg⟩ : ∃ g : G1, g = ⟨w.heap.size, C, S, A, B, wc.heap.size, w0.heap.size, n, K, Lb, cap, a⟩ := ⟨_, rfl⟩
    have hL : L1 g w4 (List.replicate n 0) (List.replicate n none) (List.replicate n none) none 0 (fun _ => none) 0 := by
      subst hg
      exact L1.init (wc := wc) hW2 (hY.below b2 hYl) ⟨by show w0.heap.size < C; omega, by show w0.heap.size < S; omega⟩ e0 hA hB hAB rfl bA bB b3 bD b4 (HB.out.keep (Keep.ofBelow (Q := fun _ => False) ((b0.trans (b1.mono e0)).trans (b2.mono (by omega)))) (fun _ h => h.elim)) ⟨hn2.1, hn2.2, hK2.1, hK2.2, hL2⟩
    have hBud : Bud 48 n Lb 2 K none (prog1 (List.replicate n 0) none) 0 := by
      rw [prog1_new]
      refine Bud.new 48 n Lb 2 K (by omega) ?_
      have h1 : 2 * K ≤ 8 := by omega
      have h2 : n * (2 * K) ≤ 6 * 8 := Nat.mul_le_mul hn2.2 h1
      omega
    have hb4 : Below w.heap.size w w4 := (((b0.trans (b1.mono e0)).trans (b2.mono (by omega))).trans (b3.mono (by omega))).trans (b4.mono (by omega))
    have HG : Hid (g.n0 = w.heap.size ∧ g.C = C ∧ g.A = A ∧ g.B = B ∧ g.D = wc.heap.size ∧ g.Y = w0.heap.size ∧ g.n = n ∧ g.K = K ∧ g.Lb = Lb) := Lib.hid (by subst hg; exact ⟨rfl, rfl, rfl, rfl, rfl, rfl, rfl, rfl, rfl⟩)
    clear hg bD b4 b3 b2 b1 b0 bA bB hY hW2 HN HN0 HN1 HWK HB hm1 hm2 e0 e1 e2 e3 hYl hA hB hAB hmin hlcI hCS
    generalize wc.heap.size = D at *
    generalize w0.heap.size = Y at *
    go_wp2_with fail
    go_loopw [14, 15] (fun v14 v15 wr => ∃ (V : List Nat) (TA TD : List (Option Nat)) (o : Option Nat) (j : Nat) (τ : Nat → Option (Nat × Tre Itm)) (nn : Int), j ≤ 4000 ∧ v14 = .int .i64 (ownO o) ∧ v15 = .int .i64 (j : Int) ∧ L1 g wr V TA TD o j τ nn ∧ Bud 48 n Lb 2 K o (prog1 V o) j ∧ Below w.heap.size w wr)
      (fun _ v15 _ => 4000 - (intOf v15).toNat)
    case atStart => exact ⟨_, _, _, none, 0, _, _, by omega, rfl, rfl, hL, hBud, hb4⟩
    case round =>
      clear hL hBud hb4
      obtain ⟨V, TA, TD, o, j, τ, nn, hj, rfl, rfl, hL, hBud, hb⟩ := hrel
      obtain ⟨g1, g2, g3, g4, g5, g6, g7, g8, g9⟩ := HG.out
      by_cases hlt : j < 4000
      · have HNx := l1_next hL (by omega)
        rw [g6, g7, g9] at HNx
        have HX := Lib.hid HNx
        have HBud := Lib.hid hBud
        have Hb := Lib.hid hb
        have hj4 : (j : Int) < 4000 := by omega
        have hsm := hL.sm
        have HCnt := Lib.hid hL.cnt
        clear HNx hBud hb hL
        go_upto_region 13 with (go_at_call 21; (with_reducible refine HX.out.mono ?_); rintro e w1 ⟨t, rfl, ht1, ht2, hL1, b1⟩)
        have hlen := hL1.len
        have hb1 : Below w.heap.size w w1 := Hb.out.trans (by rw [g1] at b1; exact b1)
        obtain ⟨v, hv⟩ : ∃ v, V[t]? = some v := ⟨_, List.getElem?_eq_getElem (by omega)⟩
        obtain ⟨a', ha⟩ : ∃ a', TA[t]? = some a' := ⟨_, List.getElem?_eq_getElem (by omega)⟩
        obtain ⟨d', hd⟩ : ∃ d', TD[t]? = some d' := ⟨_, List.getElem?_eq_getElem (by omega)⟩
        have cD : w1.cell? ⟨D, t, none⟩ = some (.int .i64 (v : Int)) := by rw [← g5]; exact hL1.bd.cell _ _ (intsV_at hv)
        have cB : w1.cell? ⟨B, t, none⟩ = some (ptV d') := by rw [← g4]; exact hL1.bb.cell _ _ (ptsV_at hd)
        have cA : w1.cell? ⟨A, t, none⟩ = some (ptV a') := by rw [← g3]; exact hL1.ba.cell _ _ (ptsV_at ha)
        have i1 := idx_ints9 n D t ht1
        have i2 := idx_pts n B t ht1
        have i3 := idx_pts n A t ht1
        have HL1 := Lib.hid hL1
        have Hb1 := Lib.hid hb1
        have HT := Lib.hid ht2
        have HV := Lib.hid hv
        have HA := Lib.hid ha
        have HD := Lib.hid hd
        have HLen := Lib.hid hlen
        have HSm := Lib.hid hsm
        have HGs : Hid (g.n0 = w.heap.size ∧ g.C = C ∧ g.A = A ∧ g.B = B ∧ g.D = D ∧ g.Y = Y ∧ g.n = n ∧ g.K = K ∧ g.Lb = Lb) := HG
        clear hL1 hb1 ht2 hv ha hd hlen hsm g1 g2 g3 g4 g5 g6 g7 g8 g9 HX b1 Hb
        by_cases hvK : v = K
        · have hvK2 : (v : Int) = (K : Int) := by omega
          have HvK := Lib.hid hvK
          clear hvK
          go_wp2
          go_roundw
          case rel =>
            refine ⟨V, TA, TD, o, j + 1, τ, nn, by omega, rfl, by go_num, HL1.out, HBud.out.turn (by omega) (by rw [prog1_len]; have := HLen.out; have := HG.out; omega) (fun h => ?_) (.inr ⟨rfl, rfl, fun ho => ⟨_, prog1_at HV.out, HvK.out⟩, fun u hu => ?_⟩), Hb1.out⟩
            · exact HT.out h
            · obtain ⟨_, y, h1, h2⟩ := HL1.out.ow u hu
              have hul := (List.getElem?_eq_some_iff.1 h1).1
              have := HLen.out
              have := HG.out
              refine ⟨by omega, fun e => ?_⟩
              subst e
              have := HV.out
              rw [h1] at this
              have := Option.some.inj this
              have := HvK.out
              omega
          case measure => simp [intOf]; omega
        · have hvlt : v < K := by
            have h1 := HL1.out.vk v (List.mem_of_getElem? HV.out)
            have := HG.out
            omega
          have HVlt := Lib.hid hvlt
          have hne : ((v : Int) == (K : Int)) = false := by rw [beq_eq_false_iff_ne]; omega
          have hvI : (v : Int) + 1 ≤ 100 := by omega
          clear hvK hvlt
          cases d' with
          | some d =>
            have ho := (HL1.out.td t d HD.out).1
            subst ho
            have cBd : w1.cell? ⟨B, t, none⟩ = some (pV d) := cB
            clear cB
            have eo : ownO (some t) = (t : Int) := rfl
            rw [eo]
            have HS := Lib.hid (ldrop_yes (2 * t + 1) 0 t HL1.out.wld (HL1.out.td t d HD.out).2 rfl ⟨by omega, by omega⟩ ⟨by have := HCnt.out; omega, by have := HCnt.out; omega⟩)
            go_upto_region 17 with (first
              | (go_at_call 22; (with_reducible refine HS.out.mono ?_); rintro e w2 ⟨rfl, hW2, k2⟩; have cB2 : w2.cell? ⟨B, t, none⟩ = some (pV d) := cell_keep6 cBd k2 (fun h => h.2 (.inr (.inl HG.out.2.2.2.1.symm))); have HVa := Lib.hid (wvalue_ret (2 * t + 1) hW2 (upd_same _ _ _)); have HW2 := Lib.hid hW2; clear HS hW2)
              | (go_at_call 16; (with_reducible refine HVa.out.mono ?_); rintro e w3 ⟨rfl, rfl⟩; clear HVa))
            have eG := HG.out
            have hne6 := HL1.out.ne
            rw [eG.2.2.1, eG.2.2.2.1, eG.2.2.2.2.1] at hne6
            have lo6 := HL1.out.lo
            rw [eG.1, eG.2.2.1, eG.2.2.2.1, eG.2.2.2.2.1] at lo6
            have bA2 : Blk w2 A 29 (ptsV TA) := by rw [← eG.2.2.1]; exact HL1.out.ba.keep k2 (fun h => h.2 (.inl rfl))
            have bB2 : Blk w2 B 29 (ptsV TD) := by rw [← eG.2.2.2.1]; exact HL1.out.bb.keep k2 (fun h => h.2 (.inr (.inl rfl)))
            have bD2 : Blk w2 D 3 (intsV V) := by rw [← eG.2.2.2.2.1]; exact HL1.out.bd.keep k2 (fun h => h.2 (.inr (.inr (.inl rfl))))
            have HNew := Lib.hid (HL1.out.dropped k2 HW2.out (fun u hu => upd_ne _ _ _ _ hu) (by have := HCnt.out; omega) HV.out (by rw [eG.2.2.2.2.2.2.2.1]; exact HVlt.out))
            rw [eG.2.2.1, eG.2.2.2.1, eG.2.2.2.2.1] at HNew
            have hb2 := Hb1.out.trans (k2.below Hb1.out.size (fun i _ h => by have := h.1; rw [eG.1] at this; exact this))
            have HBl := Lib.hid (((hb2.setCell (p := ⟨B, t, none⟩) (by show w.heap.size ≤ B; omega) (.pointer none)).setCell (p := ⟨A, t, none⟩) (by show w.heap.size ≤ A; omega) (.pointer none)).setCell (p := ⟨D, t, none⟩) (by show w.heap.size ≤ D; omega) (.int .i64 ((v : Int) + 1)))
            have fB := bB2.free t
            have fA := bA2.free t
            have cA2 : w2.cell? ⟨A, t, none⟩ = some (ptV a') := bA2.cell _ _ (ptsV_at HA.out)
            clear hb2 cBd cA cD k2 bB2 HW2
            go_upto_region 18 with fail
            have bD3 := (bD2.far (C := B) (by omega) t (.pointer none)).far (C := A) (by omega) t (.pointer none)
            have cD3 := bD3.cell _ _ (intsV_at HV.out)
            have fD3 := bD3.free t
            clear fB fA cA2 cB2 bA2 bD2 bD3
            go_wp2
            go_roundw
            case rel =>
              refine ⟨V.set t (v + 1), TA.set t none, TD.set t none, none, j + 1, _, nn + 1, by omega, rfl, by go_num, HNew.out, HBud.out.turn (by omega) (by rw [prog1_len]; have := HLen.out; omega) (fun h => HT.out h) (.inl ?_), HBl.out⟩
              rw [prog1_out HV.out]
              refine potL_set (x := (v, 1)) ?_ ?_
              · have := prog1_at (o := some t) HV.out
                rw [if_pos rfl] at this
                exact this
              · have := HVlt.out
                simp only
                omega
            case measure => simp [intOf]; omega
          | none =>
            have cB0 : w1.cell? ⟨B, t, none⟩ = some (.pointer none) := cB
            clear cB
            have ct : IntKind.u64.wrap (t : Int) = (t : Int) := by rw [IntKind.wrap_u64]; omega
            have ct1 : IntKind.u64.wrap ((t : Int) + 1) = (t : Int) + 1 := by rw [IntKind.wrap_u64]; omega
            cases a' with
            | some k =>
              have cAk : w1.cell? ⟨A, t, none⟩ = some (pV k) := cA
              clear cA
              cases o with
              | none =>
                have eo : ownO none = (-1 : Int) := rfl
                rw [eo]
                have HS := Lib.hid (ltake_yes (2 * t) 0 t HL1.out.wld (HL1.out.ta t k HA.out HD.out) rfl ⟨by omega, by omega⟩ ⟨by have := HCnt.out; omega, by have := HCnt.out; omega⟩)
                go_upto_region 25 with (first
                  | (go_at_call 22; (with_reducible refine HS.out.mono ?_); rintro e w2 ⟨rfl, hW2, k2⟩; have HAll := Lib.hid (wallL 1 hW2 rfl (by omega)); rw [HG.out.2.1] at HAll; have HW2 := Lib.hid hW2; clear HS hW2)
                  | (go_at_call 15; (with_reducible refine HAll.out.mono ?_); rintro e w3 ⟨gg, cap3, rfl, hc3, hg3, b3⟩; have f3 : w3.cell? ⟨gg, 0, none⟩ = some (.int .u64 ((t : Int) + 1)) := hc3 0 _ rfl; clear HAll hc3))
                have HW3 := Lib.hid (HW2.out.below b3)
                have HDr := Lib.hid (wdrop (a := 0) (2 * t + 1) 0 rfl t HW3.out)
                have eC := HG.out.2.1
                rw [eC] at HDr
                clear f3 hg3
                have hne6 := HL1.out.ne
                have lo6 := HL1.out.lo
                have eG := HG.out
                rw [eG.2.2.1, eG.2.2.2.1, eG.2.2.2.2.1] at hne6
                rw [eG.1, eG.2.2.1, eG.2.2.2.1, eG.2.2.2.2.1] at lo6
                have k3 : Keep (fun b => g.n0 ≤ b ∧ ¬ g.X b) w1 w3 := k2.trans (Keep.ofBelow b3)
                have bB3 : Blk w3 B 29 (ptsV TD) := by rw [← eG.2.2.2.1]; exact HL1.out.bb.keep k3 (fun h => h.2 (.inr (.inl rfl)))
                have HB3 := Lib.hid bB3
                have hB3l := bB3.lt
                clear k2 b3 bB3 cAk
                go_upto_region 26 with fail
                go_wp2_with (go_at_call 17; (with_reducible refine HDr.out.mono ?_); rintro e w4 ⟨d, rfl, hW4, b4⟩; have HW4 : Hid (Wld g.n0 g.X w4 g.C g.S [cellO (some t)] (nn + 1) _) := Lib.hid (by rw [eC]; exact hW4); have HB4 := Lib.hid b4; have c4 : w4.cell? ⟨B, t, none⟩ = some (ptV none) := (HB3.out.below b4 hB3l).cell _ _ (ptsV_at HD.out); have f4 := (HB3.out.below b4 hB3l).free t; clear HDr hW4 b4)
                go_roundw
                case rel =>
                  have HNew := Lib.hid (HL1.out.taken (d := d) (v := v) (k3.trans (Keep.ofBelow HB4.out)) HW4.out (fun u h1 h2 => by rw [upd_ne _ _ _ _ h2, upd_ne _ _ _ _ h1]) (upd_same _ _ _) (by have := HCnt.out; omega) (by rw [eG.2.2.2.2.2.2.1]; exact ht1) HV.out (by rw [eG.2.2.2.2.2.2.2.1]; exact HVlt.out))
                  rw [eG.2.2.2.1] at HNew
                  have hb3 := Hb1.out.trans (k3.below Hb1.out.size (fun i _ h => by have := h.1; rw [eG.1] at this; exact this))
                  refine ⟨V, TA, TD.set t (some d), some t, j + 1, _, nn + 1, by omega, rfl, by go_num, HNew.out, HBud.out.turn (by omega) (by rw [prog1_len]; have := HLen.out; omega) (fun h => HT.out h) (.inl ?_), (hb3.trans (HB4.out.mono hb3.size)).setCell (p := ⟨B, t, none⟩) (by show w.heap.size ≤ B; omega) _⟩
                  rw [prog1_in HV.out]
                  refine potL_set (x := (v, 0)) ?_ ?_
                  · have := prog1_at (o := none) HV.out
                    rwa [if_neg (by simp)] at this
                  · have := HVlt.out
                    simp only
                    omega
                case measure => simp [intOf]; omega
              | some u =>
                have eo : ownO (some u) = (u : Int) := rfl
                rw [eo]
                obtain ⟨⟨kd, hkd⟩, vu, hvu, _⟩ := HL1.out.ow u rfl
                have hut : u ≠ t := fun e => by
                  rw [e, HD.out] at hkd
                  cases hkd
                have hun : u < n := by
                  have h1 := (List.getElem?_eq_some_iff.1 hvu).1
                  have := HLen.out
                  have := HG.out
                  omega
                have hue : ((u : Int) == (t : Int)) = false := by rw [beq_eq_false_iff_ne]; omega
                have hu0 : ¬ ((u : Int) < 0) := by omega
                have HUt := Lib.hid hut
                have HS := Lib.hid (ltake_no (2 * t) 0 t ((u : Int) + 1) HL1.out.wld (HL1.out.ta t k HA.out HD.out) rfl (by omega) ⟨by omega, by omega⟩ ⟨by have := HCnt.out; omega, by have := HCnt.out; omega⟩)
                clear hkd hvu hut
                go_wp2_with (go_at_call 22; (with_reducible refine HS.out.mono ?_); rintro e w2 ⟨rfl, hW2, k2⟩; have HW2 := Lib.hid hW2; clear HS hW2)
                go_roundw
                case rel =>
                  have eG := HG.out
                  refine ⟨V, TA, TD, some u, j + 1, τ, nn + 1, by omega, rfl, by go_num, HL1.out.other k2 HW2.out ⟨by have := HCnt.out; omega, by have := HCnt.out; omega⟩ HL1.out.ta HL1.out.td HL1.out.ow, HBud.out.turn (by omega) (by rw [prog1_len]; have := HLen.out; omega) (fun h => HT.out h) (.inr ⟨rfl, rfl, fun h => (by cases h), fun u' h => ?_⟩), Hb1.out.trans (k2.below Hb1.out.size (fun i _ h => by have := h.1; rw [eG.1] at this; exact this))⟩
                  obtain rfl := Option.some.inj h
                  exact ⟨hun, HUt.out⟩
                case measure => simp [intOf]; omega
            | none =>
              have cA0 : w1.cell? ⟨A, t, none⟩ = some (.pointer none) := cA
              clear cA
              have eC := HG.out.2.1
              have HTk := Lib.hid (wtake (a := 0) (2 * t) 0 rfl t HL1.out.wld)
              rw [eC] at HTk
              have HBA : Hid (Blk w1 A 29 (ptsV TA)) := Lib.hid (by have := HL1.out.ba; rw [HG.out.2.2.1] at this; exact this)
              have hBAl := HBA.out.lt
              go_upto_region 22 with (go_at_call 11; (with_reducible refine HTk.out.mono ?_); rintro e wb ⟨k, rfl, hWb, bb⟩; have HWb : Hid (Wld g.n0 g.X wb g.C g.S [cellO o] nn (upd τ (2 * t) (some (k, spinT (takeI 0 t))))) := Lib.hid (by rw [eC]; exact hWb); have HBb := Lib.hid bb; have c4 : wb.cell? ⟨A, t, none⟩ = some (ptV none) := (HBA.out.below bb hBAl).cell _ _ (ptsV_at HA.out); have f4 := (HBA.out.below bb hBAl).free t; clear HTk hWb bb)
              have HL2 := Lib.hid (HL1.out.make HBb.out HWb.out)
              have Hb2 := Lib.hid ((Hb1.out.trans (HBb.out.mono Hb1.out.size)).setCell (p := ⟨A, t, none⟩) (by show w.heap.size ≤ A; have h1 := HL1.out.lo; have h2 := HG.out; omega) (pV k))
              rw [HG.out.2.2.1] at HL2
              have HA2 : Hid ((TA.set t (some k))[t]? = some (some k)) := Lib.hid (List.getElem?_set_self (by have := HLen.out; have := HG.out; omega))
              clear c4 f4 cA0 cB0 HBA hBAl HWb HBb eC cD
              generalize wb.setCell ⟨A, t, none⟩ (pV k) = w1c at *
              generalize TA.set t (some k) = TA2 at *
              generalize upd τ (2 * t) (some (k, spinT (takeI 0 t))) = τ2 at *
              have cAk : w1c.cell? ⟨A, t, none⟩ = some (pV k) := by rw [← HG.out.2.2.1]; exact HL2.out.ba.cell _ _ (ptsV_at HA2.out)
              cases o with
              | none =>
                have eo : ownO none = (-1 : Int) := rfl
                rw [eo]
                have HS := Lib.hid (ltake_yes (2 * t) 0 t HL2.out.wld (HL2.out.ta t k HA2.out HD.out) rfl ⟨by omega, by omega⟩ ⟨by have := HCnt.out; omega, by have := HCnt.out; omega⟩)
                go_upto_region 25 with (first
                  | (go_at_call 22; (with_reducible refine HS.out.mono ?_); rintro e w2 ⟨rfl, hW2, k2⟩; have HAll := Lib.hid (wallL 1 hW2 rfl (by omega)); rw [HG.out.2.1] at HAll; have HW2 := Lib.hid hW2; clear HS hW2)
                  | (go_at_call 15; (with_reducible refine HAll.out.mono ?_); rintro e w3 ⟨gg, cap3, rfl, hc3, hg3, b3⟩; have f3 : w3.cell? ⟨gg, 0, none⟩ = some (.int .u64 ((t : Int) + 1)) := hc3 0 _ rfl; clear HAll hc3))
                have HW3 := Lib.hid (HW2.out.below b3)
                have HDr := Lib.hid (wdrop (a := 0) (2 * t + 1) 0 rfl t HW3.out)
                have eC := HG.out.2.1
                rw [eC] at HDr
                clear f3 hg3
                have hne6 := HL2.out.ne
                have lo6 := HL2.out.lo
                have eG := HG.out
                rw [eG.2.2.1, eG.2.2.2.1, eG.2.2.2.2.1] at hne6
                rw [eG.1, eG.2.2.1, eG.2.2.2.1, eG.2.2.2.2.1] at lo6
                have k3 : Keep (fun b => g.n0 ≤ b ∧ ¬ g.X b) w1c w3 := k2.trans (Keep.ofBelow b3)
                have bB3 : Blk w3 B 29 (ptsV TD) := by rw [← eG.2.2.2.1]; exact HL2.out.bb.keep k3 (fun h => h.2 (.inr (.inl rfl)))
                have HB3 := Lib.hid bB3
                have hB3l := bB3.lt
                clear k2 b3 bB3 cAk
                go_upto_region 26 with fail
                go_wp2_with (go_at_call 17; (with_reducible refine HDr.out.mono ?_); rintro e w4 ⟨d, rfl, hW4, b4⟩; have HW4 : Hid (Wld g.n0 g.X w4 g.C g.S [cellO (some t)] (nn + 1) _) := Lib.hid (by rw [eC]; exact hW4); have HB4 := Lib.hid b4; have c4 : w4.cell? ⟨B, t, none⟩ = some (ptV none) := (HB3.out.below b4 hB3l).cell _ _ (ptsV_at HD.out); have f4 := (HB3.out.below b4 hB3l).free t; clear HDr hW4 b4)
                go_roundw
                case rel =>
                  have HNew := Lib.hid (HL2.out.taken (d := d) (v := v) (k3.trans (Keep.ofBelow HB4.out)) HW4.out (fun u h1 h2 => by rw [upd_ne _ _ _ _ h2, upd_ne _ _ _ _ h1]) (upd_same _ _ _) (by have := HCnt.out; omega) (by rw [eG.2.2.2.2.2.2.1]; exact ht1) HV.out (by rw [eG.2.2.2.2.2.2.2.1]; exact HVlt.out))
                  rw [eG.2.2.2.1] at HNew
                  have hb3 := Hb2.out.trans (k3.below Hb2.out.size (fun i _ h => by have := h.1; rw [eG.1] at this; exact this))
                  refine ⟨V, TA2, TD.set t (some d), some t, j + 1, _, nn + 1, by omega, rfl, by go_num, HNew.out, HBud.out.turn (by omega) (by rw [prog1_len]; have := HLen.out; omega) (fun h => HT.out h) (.inl ?_), (hb3.trans (HB4.out.mono hb3.size)).setCell (p := ⟨B, t, none⟩) (by show w.heap.size ≤ B; omega) _⟩
                  rw [prog1_in HV.out]
                  refine potL_set (x := (v, 0)) ?_ ?_
                  · have := prog1_at (o := none) HV.out
                    rwa [if_neg (by simp)] at this
                  · have := HVlt.out
                    simp only
                    omega
                case measure => simp [intOf]; omega
              | some u =>
                have eo : ownO (some u) = (u : Int) := rfl
                rw [eo]
                obtain ⟨⟨kd, hkd⟩, vu, hvu, _⟩ := HL2.out.ow u rfl
                have hut : u ≠ t := fun e => by
                  rw [e, HD.out] at hkd
                  cases hkd
                have hun : u < n := by
                  have h1 := (List.getElem?_eq_some_iff.1 hvu).1
                  have := HLen.out
                  have := HG.out
                  omega
                have hue : ((u : Int) == (t : Int)) = false := by rw [beq_eq_false_iff_ne]; omega
                have hu0 : ¬ ((u : Int) < 0) := by omega
                have HUt := Lib.hid hut
                have HS := Lib.hid (ltake_no (2 * t) 0 t ((u : Int) + 1) HL2.out.wld (HL2.out.ta t k HA2.out HD.out) rfl (by omega) ⟨by omega, by omega⟩ ⟨by have := HCnt.out; omega, by have := HCnt.out; omega⟩)
                clear hkd hvu hut
                go_wp2_with (go_at_call 22; (with_reducible refine HS.out.mono ?_); rintro e w2 ⟨rfl, hW2, k2⟩; have HW2 := Lib.hid hW2; clear HS hW2)
                go_roundw
                case rel =>
                  have eG := HG.out
                  refine ⟨V, TA2, TD, some u, j + 1, τ2, nn + 1, by omega, rfl, by go_num, HL2.out.other k2 HW2.out ⟨by have := HCnt.out; omega, by have := HCnt.out; omega⟩ HL2.out.ta HL2.out.td HL2.out.ow, HBud.out.turn (by omega) (by rw [prog1_len]; have := HLen.out; omega) (fun h => HT.out h) (.inr ⟨rfl, rfl, fun h => (by cases h), fun u' h => ?_⟩), Hb2.out.trans (k2.below Hb2.out.size (fun i _ h => by have := h.1; rw [eG.1] at this; exact this))⟩
                  obtain rfl := Option.some.inj h
                  exact ⟨hun, HUt.out⟩
                case measure => simp [intOf]; omega
      · have hj4 : j = 4000 := by omega
        have hsm := hL.sm
        have hpot : potL 2 K (prog1 V o) = 0 := hBud.end hn2 hL2 (by omega)
        have hlen := hL.len
        have hall := potL_done (by omega) hpot (fun x hx => by
          obtain ⟨t, ht⟩ := List.mem_iff_getElem?.1 hx
          have htl := (List.getElem?_eq_some_iff.1 ht).1
          rw [prog1_len] at htl
          obtain ⟨v, hv⟩ : ∃ v, V[t]? = some v := ⟨_, List.getElem?_eq_getElem htl⟩
          rw [prog1_at hv] at ht
          obtain rfl := Option.some.inj ht
          have h1 := hL.vk v (List.mem_of_getElem? hv)
          refine ⟨by simp only; omega, by simp only; split <;> omega, fun h => ?_⟩
          simp only at h ⊢
          by_cases ho : o = some t
          · obtain ⟨_, v', h2, h3⟩ := hL.ow t ho
            rw [hv] at h2
            obtain rfl := Option.some.inj h2
            omega
          · rw [if_neg ho])
        have ho : o = none := by
          cases o with
          | none => rfl
          | some t =>
            obtain ⟨_, v', h2, h3⟩ := hL.ow t rfl
            have h4 := hall _ (List.mem_of_getElem? (prog1_at (o := some t) h2))
            rw [if_pos rfl] at h4
            simp at h4
        subst ho
        have hVK : ∀ (t : Nat) v, V[t]? = some v → v = K := fun t v hv => by
          have h4 := hall _ (List.mem_of_getElem? (prog1_at (o := none) hv))
          simpa using h4
        have hA0 := wallL 1 hL.wld rfl (by omega)
        rw [g2] at hA0
        have HA0 := Lib.hid hA0
        have HVK := Lib.hid hVK
        have Hb := Lib.hid hb
        have HLn := Lib.hid hlen
        have hbD := hL.bd
        rw [g5] at hbD
        have HbD := Lib.hid hbD
        have hj5 : ¬ (j : Int) < 4000 := by omega
        clear hA0 hVK hb hlen hbD hall hpot hBud hL hsm hlt hj4 hj g1 g2 g3 g4 g5 g6 g8 g9
        go_wp2_with fail
        go_loopw [17] (fun v17 wq => ∃ i : Nat, i ≤ n ∧ v17 = .int .i64 (i : Int) ∧ wq = wr)
          (fun v17 _ => n - (intOf v17).toNat)
        case atStart => exact ⟨0, by omega, rfl, rfl⟩
        case round =>
          obtain ⟨i, hi, rfl, rfl⟩ := hrel
          by_cases hin : i < n
          · obtain ⟨v, hv⟩ : ∃ v, V[i]? = some v := ⟨_, List.getElem?_eq_getElem (by have := HLn.out; omega)⟩
            have hvK := HVK.out i v hv
            subst hvK
            have cD := HbD.out.cell _ _ (intsV_at hv)
            have i1 := idx_ints9 n D i hin
            have hinI : (i : Int) < (n : Int) := by omega
            clear hv
            go_wp2
            go_roundw
            case rel => exact ⟨i + 1, by omega, by go_num, by first | trivial | rfl⟩
            case measure => simp [intOf]; omega
          · have hinI : ¬ (i : Int) < (n : Int) := by omega
            go_wp2_with (go_at_call 15; (with_reducible refine HA0.out.mono ?_); rintro e w5 ⟨gg, cap5, rfl, hc5, hg5, b5⟩; have f5 : w5.cell? ⟨gg, 0, none⟩ = some (.int .u64 0) := hc5 0 _ rfl)
            go_ret
            exact ⟨by first | trivial | rfl, Hb.out.trans (b5.mono Hb.out.size)⟩
end Go.Proofs.Ytcocpmoglhgbeaa
