/- LatchCounts returns true: the walk. -/
import Derived.Test.YtcocpmoglhgbeaaLatCountA
namespace Go.Proofs.Ytcocpmoglhgbeaa
open Go.ChangeShapes Go.WideShapes Go.ChangeAt Go.RowKit
set_option linter.unusedVariables false
set_option maxRecDepth 100000
set_option linter.unusedSimpArgs false
theorem idx_intsN (n B i : Nat) (h : i < n) : ∀ W, (Instr.indexAt 45 (.slice (some ⟨B, 0, none⟩) n n) (.int .i64 (i : Int))).run Try.prog W = .ok (.pointer (some ⟨B, i, none⟩)) W := by
  intro W
  go_simp
/-- a task of either kind was handed over -/
theorem stg_bump (b t : Nat) : Stg false b t 0 (bumpT 0 t 1) := by simp [Stg]
theorem stg_loose (b t : Nat) : Stg true b t 0 (looseT 1) := by simp [Stg]
set_option maxHeartbeats 16000000 in
theorem counts_law (a : Option Addr) (len cap : Nat) (x y : Int) (lo : Bool) (w : World) (hB : BytesAt w w.heap.size a len) (hlc : len ≤ cap) (hcm : cap ≤ 9223372036854775807) (hx : 0 ≤ x ∧ x ≤ 255) (hy : 0 ≤ y ∧ y ≤ 255) : Calls Try.prog 6 #[.slice a len cap, .agg #[.int .u8 x, .int .u8 y], .bool lo] w fun e w' => e = .returned (.bool true) ∧ Below w.heap.size w w' := by
  have HWK := Lib.hid fun W => works_any W
  obtain ⟨q, hq1, hq2, hq3⟩ : ∃ q : Nat, x.tmod 6 = (q : Int) ∧ x % 6 = (q : Int) ∧ q < 6 := by
    have : x.tmod 6 = x % 6 := Int.tmod_eq_emod_of_nonneg hx.1
    exact ⟨(x % 6).toNat, by omega, by omega, by omega⟩
  obtain ⟨p, hp1, hp2, hp3⟩ : ∃ p : Nat, y.tmod 4 = (p : Int) ∧ y % 4 = (p : Int) ∧ p < 4 := by
    have : y.tmod 4 = y % 4 := Int.tmod_eq_emod_of_nonneg hy.1
    exact ⟨(y % 4).toNat, by omega, by omega, by omega⟩
  obtain ⟨n, hn1, hn2⟩ : ∃ n : Nat, 1 + (q : Int) = (n : Int) ∧ 1 ≤ n ∧ n ≤ 6 := ⟨1 + q, by omega, by omega, by omega⟩
  obtain ⟨K, hK1, hK2⟩ : ∃ K : Nat, 1 + (p : Int) = (K : Int) ∧ 1 ≤ K ∧ K ≤ 4 := ⟨1 + p, by omega, by omega, by omega⟩
  obtain ⟨N, hN⟩ : ∃ N : Nat, N = n * K := ⟨_, rfl⟩
  have hN1 : (n : Int) * (K : Int) = (N : Int) := by rw [hN, Int.natCast_mul]
  have hN2 : 1 ≤ N ∧ N ≤ 24 := by
    rw [hN]
    exact ⟨Nat.mul_le_mul hn2.1 hK2.1, Nat.mul_le_mul hn2.2 hK2.2⟩
  have hN3 : IntKind.i64.wrap (N : Int) = (N : Int) := IntWalk.i64_in _ ⟨by omega, by omega⟩
  obtain ⟨Lb, hL1, hL2⟩ : ∃ Lb : Nat, Lb = min len 200 ∧ Lb ≤ 200 := ⟨min len 200, rfl, by omega⟩
  have hmin : (if (200 : Int) < (len : Int) then (200 : Int) else (len : Int)) = (Lb : Int) := by split <;> omega
  have hlcI : (Lb : Int) ≤ (cap : Int) := by omega
  have HB := Lib.hid (hB.cut (l := Lb) (by omega))
  have HN := Lib.hid fun W (h : w.heap.size ≤ W.heap.size) => wnew (a := 2) 2 rfl W w.heap.size h (by omega)
  have hm1 := fun W => make_pts n W (by omega)
  have hm2 := fun W => make_ints n W (by omega)
  have hm3 := fun W => make_ints N W (by omega)
  have HNN := Lib.hid hN
  clear hB hL1 hlc hN
  go_enter Try.func6, Try.ntmps6
  go_upto_region 1 with fail
  have hP : Blk (w.alloc (.cells #[.int .u8 x, .int .u8 y] 48)) w.heap.size 48 #[.int .u8 x, .int .u8 y] := Blk.new w _ _
  generalize hWp : (w.alloc _) = wp
  have hP2 : Blk wp w.heap.size 48 #[.int .u8 x, .int .u8 y] := by rw [← hWp]; exact hP
  have bp : Below w.heap.size w wp := by rw [← hWp]; go_grown
  clear hWp hP
  have p0 : wp.cell? ⟨w.heap.size, 0, none⟩ = some (.int .u8 x) := hP2.cell 0 _ rfl
  have p1 : wp.cell? ⟨w.heap.size, 1, none⟩ = some (.int .u8 y) := hP2.cell 1 _ rfl
  clear hP2
  go_quiet (fail)
  have bp2 := bdrewN bp nq
  clear p0 p1 bp
  generalize wp.drewN nq = w00 at *
  have HWK0 := Lib.hid (HWK.out w00)
  go_upto_region 4 with (go_at_call 8; refine HWK0.out.mono ?_; rintro e w0 ⟨rfl, b0⟩)
  have b0' := bp2.trans (b0.mono bp2.size)
  clear bp2 b0
  go_upto_region 5 with fail
  go_upto_region 6 with fail
  clear hx hy hq1 hq2 hq3 hp1 hp2 hp3 hn1 hK1
  have hY0 : Blk (w0.alloc (.cells (turnsV a Lb cap n 0) 43)) w0.heap.size 43 (turnsV a Lb cap n 0) := Blk.new w0 _ _
  generalize hW1 : (w0.alloc _) = w1
  have hY : Blk w1 w0.heap.size 43 (turnsV a Lb cap n 0) := by rw [← hW1]; exact hY0
  have b1 : Below w0.heap.size w0 w1 := by rw [← hW1]; go_grown
  clear hW1 hY0
  have HN1 := Lib.hid (HN.out w1 (by have := b0'.size; have := b1.size; omega))
  go_upto_region 7 with (go_at_call 9; refine HN1.out.mono ?_; rintro e w2 ⟨C, S, rfl, hW2, b2, hCS⟩)
  go_upto_region 8 with fail
  generalize hWa : (w2.alloc _) = wa
  have bA : Blk wa w2.heap.size 29 (ptsV (List.replicate n none)) := by rw [← hWa]; exact Blk.new w2 _ _
  have b3 : Below w2.heap.size w2 wa := by rw [← hWa]; go_grown
  clear hWa
  go_upto_region 9 with fail
  generalize hWd : (wa.alloc _) = wd
  have bD : Blk wd wa.heap.size 3 (intsV (List.replicate n 0)) := by rw [← hWd]; exact Blk.new wa _ _
  have b4 : Below wa.heap.size wa wd := by rw [← hWd]; go_grown
  clear hWd
  go_upto_region 10 with fail
  generalize hWf : (wd.alloc _) = w4
  have bF : Blk w4 wd.heap.size 3 (intsV (List.replicate N 0)) := by rw [← hWf]; exact Blk.new wd _ _
  have b5 : Below wd.heap.size wd w4 := by rw [← hWf]; go_grown
  clear hWf
  have e0 := b0'.size
  have e1 := b1.size
  have e2 := b2.size
  have e3 := b3.size
  have e4 := b4.size
  have hYl := hY.lt
  obtain ⟨g, hg⟩ : ∃ g : G2, g = ⟨w.heap.size, C, S, w2.heap.size, wa.heap.size, wd.heap.size, w0.heap.size, n, K, Lb, cap, a, lo⟩ := ⟨_, rfl⟩
  have hL : L2 g w4 (List.replicate n (0, 0)) (List.replicate n none) none 0 0 (List.replicate N 0) 0 (fun _ => none) 0 := by
    subst hg
    rw [HNN.out] at bF ⊢
    exact L2.init (wa := wa) (wd := wd) hW2 (hY.below b2 hYl) ⟨by show w0.heap.size < C; omega, by show w0.heap.size < S; omega⟩ e0 rfl rfl rfl bA b3 bD b4 bF b5 (HB.out.keep (Keep.ofBelow (Q := fun _ => False) ((b0'.trans (b1.mono e0)).trans (b2.mono (by omega)))) (fun _ h => h.elim)) ⟨hn2.1, hn2.2, hK2.1, hK2.2, hL2⟩
  have hBud : Bud 96 n Lb (stM lo) K none (List.replicate n (0, 0)) 0 := by
    refine Bud.new 96 n Lb (stM lo) K (by omega) ?_
    have h1 : stM lo * K ≤ 4 * 4 := Nat.mul_le_mul (by cases lo <;> decide) hK2.2
    have h2 : n * (stM lo * K) ≤ 6 * 16 := Nat.mul_le_mul hn2.2 (by omega)
    omega
  have hb4 : Below w.heap.size w w4 := ((((b0'.trans (b1.mono e0)).trans (b2.mono (by omega))).trans (b3.mono (by omega))).trans (b4.mono (by omega))).trans (b5.mono (by omega))
  have HG : Hid (g.n0 = w.heap.size ∧ g.C = C ∧ g.A = w2.heap.size ∧ g.D = wa.heap.size ∧ g.F = wd.heap.size ∧ g.Y = w0.heap.size ∧ g.n = n ∧ g.K = K ∧ g.Lb = Lb ∧ g.lo = lo) := Lib.hid (by subst hg; exact ⟨rfl, rfl, rfl, rfl, rfl, rfl, rfl, rfl, rfl, rfl⟩)
  clear hg bD b4 b3 b2 b1 b5 bA bF hY hW2 HN HN1 HWK HWK0 HB hm1 hm2 hm3 e0 e1 e2 e3 e4 hYl hmin hlcI hCS b0'
  generalize w2.heap.size = A at *
  generalize wa.heap.size = D at *
  generalize wd.heap.size = F at *
  generalize w0.heap.size = Y at *
  go_wp2_with fail
  go_loopw [16] (fun v16 wr => ∃ (U : List (Nat × Nat)) (TA : List (Option Nat)) (o : Option Nat) (lock c : Int) (E : List Nat) (j : Nat) (τ : Nat → Option (Nat × Tre Itm)) (nn : Int), j ≤ 8000 ∧ v16 = .int .i64 (j : Int) ∧ L2 g wr U TA o lock c E j τ nn ∧ Bud 96 n Lb (stM lo) K o U j ∧ Below w.heap.size w wr)
    (fun v16 _ => 8000 - (intOf v16).toNat)
  case atStart => exact ⟨_, _, none, _, _, _, 0, _, _, by omega, rfl, hL, hBud, hb4⟩
  case round =>
    clear hL hBud hb4
    obtain ⟨U, TA, o, lock, c, E, j, τ, nn, hj, rfl, hL, hBud, hb⟩ := hrel
    obtain ⟨g1, g2, g3, g4, g5, g6, g7, g8, g9, g10⟩ := HG.out
    by_cases hlt : j < 8000
    · have HNx := hL.next (by omega)
      rw [g6, g7, g9] at HNx
      have HX := Lib.hid HNx
      have HBud := Lib.hid hBud
      have Hb := Lib.hid hb
      have HCnt := Lib.hid hL.cnt
      have hj4 : (j : Int) < 8000 := by omega
      clear HNx hBud hb hL
      go_upto_region 14 with (go_at_call 21; (with_reducible refine HX.out.mono ?_); rintro e w1 ⟨t, rfl, ht1, ht2, hL1, b1⟩)
      have hlen := hL1.inv.len
      have hlen2 := hL1.len
      have hb1 : Below w.heap.size w w1 := Hb.out.trans (by rw [g1] at b1; exact b1)
      obtain ⟨⟨v, p⟩, hv⟩ : ∃ z, U[t]? = some z := ⟨_, List.getElem?_eq_getElem (by omega)⟩
      obtain ⟨a', ha⟩ : ∃ a', TA[t]? = some a' := ⟨_, List.getElem?_eq_getElem (by omega)⟩
      have cD : w1.cell? ⟨D, t, none⟩ = some (.int .i64 (v : Int)) := by rw [← g4]; exact hL1.bd.cell _ _ (intsV_at (by rw [List.getElem?_map, hv]; rfl))
      have cA : w1.cell? ⟨A, t, none⟩ = some (ptV a') := by rw [← g3]; exact hL1.ba.cell _ _ (ptsV_at ha)
      have i1 := idx_ints9 n D t ht1
      have i3 := idx_pts n A t ht1
      have hvK1 := hL1.inv.ok _ (List.mem_of_getElem? hv)
      rw [g8] at hvK1
      have HL1 := Lib.hid hL1
      have Hb1 := Lib.hid hb1
      have HT := Lib.hid ht2
      have HV := Lib.hid hv
      have HA := Lib.hid ha
      have HLen := Lib.hid hlen
      have HLen2 := Lib.hid hlen2
      clear hL1 hb1 ht2 hv ha hlen hlen2 g1 g2 g3 g4 g5 g6 g7 g8 g9 g10 HX b1 Hb
      by_cases hvK : v = K
      · have hvK2 : (v : Int) = (K : Int) := by omega
        have HvK := Lib.hid hvK
        clear hvK hvK1
        go_wp2
        go_roundw
        case rel =>
          refine ⟨U, TA, o, lock, c, E, j + 1, τ, nn, by omega, by go_num, HL1.out, HBud.out.turn (by omega) (by have := HLen.out; have := HG.out; omega) (fun h => HT.out h) (.inr ⟨rfl, rfl, fun ho => ⟨_, HV.out, HvK.out⟩, fun u hu => ?_⟩), Hb1.out⟩
          have hp0 := (HL1.out.inv.ok _ (List.mem_of_getElem? HV.out)).2.2 (by rw [HG.out.2.2.2.2.2.2.2.1]; exact HvK.out)
          simp only at hp0
          rcases Bool.eq_false_or_eq_true g.lo with hl | hl
          · have := (HL1.out.inv.lose hl).1
            rw [hu] at this
            cases this
          · obtain ⟨t1, t2, _⟩ := HL1.out.inv.tight hl
            refine ⟨by have := t2 u hu; have := HG.out; omega, fun e => ?_⟩
            subst e
            have := (t1 _ _ HV.out).2 hu
            simp only at this
            omega
        case measure => simp [intOf]; omega
      · have hvlt : v < K := by simp only at hvK1; omega
        have HVlt := Lib.hid hvlt
        have hne : ((v : Int) == (K : Int)) = false := by rw [beq_eq_false_iff_ne]; omega
        have hvI : (v : Int) + 1 ≤ 100 := by omega
        clear hvK hvlt hvK1
        cases a' with
        | some k =>
          have cAk : w1.cell? ⟨A, t, none⟩ = some (pV k) := cA
          clear cA
          obtain ⟨z, T, hz, hτ, hst⟩ := HL1.out.ta t k HA.out
          rw [HV.out] at hz
          obtain rfl := Option.some.inj hz
          obtain ⟨it, κ, m', u, ok, T', rfl, hk5, hop, hct, hκ, hout⟩ := turn2 HL1.out.inv HL1.out.sm.2.1 HL1.out.sm.2.2.2.1 HV.out (by rw [HG.out.2.2.2.2.2.2.2.1]; exact HVlt.out) hst
          have HS := Lib.hid (wstepE t HL1.out.wld hτ hk5 ⟨by have := HCnt.out; omega, by have := HCnt.out; omega⟩ hop hct hκ)
          clear hz hst hop hct hκ
          have eG := HG.out
          have HE := Lib.hid eG
          clear eG
          cases hout with
          | on p' o' lock' c' hm hT hs hi hp =>
            subst hm
            have HP := Lib.hid (And.intro hs (And.intro hi hp))
            have HF : Hid (Fin false T') := Lib.hid hT
            clear hT hs hi hp
            go_upto_region 21 with (go_at_call 13; (with_reducible refine HS.out.mono ?_); rintro e w2 ⟨rfl, hW2, k2⟩; have HD := Lib.hid (wdone false t hW2 (upd_same _ _ _) HF.out); have HW2 := Lib.hid hW2; have c2 : w2.cell? ⟨A, t, none⟩ = some (pV k) := cell_keep6 cAk k2 (fun h => h.2 (.inl HG.out.2.2.1.symm)); clear HS hW2)
            clear cAk
            go_wp2_with (go_at_call 14; (with_reducible refine HD.out.mono ?_); rintro e w3 ⟨rfl, rfl⟩)
            go_roundw
            case rel =>
              obtain ⟨hs, hi, hp⟩ := HP.out
              have eG := HE.out
              refine ⟨U.set t (v, p'), TA, o', lock', c', E, j + 1, _, nn + 1, by omega, by go_num, HL1.out.on k2 HW2.out HV.out HA.out hs hi (by have := HCnt.out; omega), HBud.out.turn (by omega) (by have := HLen.out; omega) (fun h => HT.out h) ?_, Hb1.out.trans (k2.below Hb1.out.size (fun i _ h => by have := h.1; rw [eG.1] at this; exact this))⟩
              rw [eG.2.2.2.2.2.2.2.1, eG.2.2.2.2.2.2.2.2.2] at hp
              rcases hp with hp | ⟨h1, h2, h3, h4⟩
              · exact .inl hp
              · exact .inr ⟨h1, h2, fun h => (h3 h).elim, fun u' h => by have := h4 u' h; rw [eG.2.2.2.2.2.2.1] at this; exact this⟩
            case measure => simp [intOf]; omega
          | done qv ev lock' c' hm hT hq he hi hp =>
            subst hm hT
            have HP := Lib.hid (And.intro hi hp)
            have HQ : Hid (E[qv]? = some ev) := Lib.hid he
            have hqN : qv < N := by rw [HNN.out]; have eG := HE.out; rw [eG.2.2.2.2.2.2.1, eG.2.2.2.2.2.2.2.1] at hq; exact hq
            have hev : ev ≤ 1000 := by
              have eG := HE.out
              rcases Bool.eq_false_or_eq_true g.lo with hl | hl
              · obtain ⟨_, _, _, _, _, h6⟩ := HL1.out.inv.lose hl
                have h7 := h6 ev (List.mem_of_getElem? he)
                have h8 := sumU_le (K := g.K) (fun x hx => (HL1.out.inv.ok x hx).1)
                have h9 : U.length * g.K ≤ 6 * 4 := Nat.mul_le_mul (by have := HLen.out; have := HL1.out.sm; omega) HL1.out.sm.2.2.2.1
                omega
              · obtain ⟨_, _, _, _, h6⟩ := HL1.out.inv.tight hl
                rw [h6] at he
                have := List.mem_of_getElem? he
                simp at this
                omega
            have hqI : ¬ ((N : Int) ≤ (qv : Int)) := by omega
            have hq0 : ¬ ((qv : Int) < 0) := by omega
            have hevI : (ev : Int) + 1 ≤ 2000 := by omega
            have i5 := idx_intsN N F qv hqN
            clear hq he hi hp
            go_upto_region 21 with (go_at_call 13; (with_reducible refine HS.out.mono ?_); rintro e w2 ⟨rfl, hW2, k2⟩; have HD := Lib.hid (wdone true t hW2 (upd_same _ _ _) (fin_ret _)); have HVv := Lib.hid (wvalue_ret t hW2 (upd_same _ _ _)); have HW2 := Lib.hid hW2; have c2 : w2.cell? ⟨A, t, none⟩ = some (pV k) := cell_keep6 cAk k2 (fun h => h.2 (.inl HG.out.2.2.1.symm)); clear HS hW2)
            clear cAk
            have eG := HE.out
            have hne6 := HL1.out.ne
            rw [eG.2.2.1, eG.2.2.2.1, eG.2.2.2.2.1] at hne6
            have lo6 := HL1.out.low
            rw [eG.1, eG.2.2.1, eG.2.2.2.1, eG.2.2.2.2.1] at lo6
            have bA2 : Blk w2 A 29 (ptsV TA) := by rw [← eG.2.2.1]; exact HL1.out.ba.keep k2 (fun h => h.2 (.inl rfl))
            have bD2 : Blk w2 D 3 (intsV (U.map Prod.fst)) := by rw [← eG.2.2.2.1]; exact HL1.out.bd.keep k2 (fun h => h.2 (.inr (.inl rfl)))
            have bF2 : Blk w2 F 3 (intsV E) := by rw [← eG.2.2.2.2.1]; exact HL1.out.bf.keep k2 (fun h => h.2 (.inr (.inr (.inl rfl))))
            have HNew := Lib.hid (HL1.out.done k2 HW2.out HV.out HA.out HQ.out HP.out.1 (by have := HCnt.out; omega))
            rw [eG.2.2.1, eG.2.2.2.1, eG.2.2.2.2.1] at HNew
            have hb2 := Hb1.out.trans (k2.below Hb1.out.size (fun i _ h => by have := h.1; rw [eG.1] at this; exact this))
            have HBl := Lib.hid (((hb2.setCell (p := ⟨F, qv, none⟩) (by show w.heap.size ≤ F; omega) (.int .i64 ((ev : Int) + 1))).setCell (p := ⟨A, t, none⟩) (by show w.heap.size ≤ A; omega) (.pointer none)).setCell (p := ⟨D, t, none⟩) (by show w.heap.size ≤ D; omega) (.int .i64 ((v : Int) + 1)))
            have cF2 := bF2.cell _ _ (intsV_at HQ.out)
            have fF2 := bF2.free qv
            clear hb2 k2 HW2 eG
            go_upto_region 23 with (first
              | (go_at_call 14; (with_reducible refine HD.out.mono ?_); rintro e w3 ⟨rfl, rfl⟩)
              | (go_at_call 16; (with_reducible refine HVv.out.mono ?_); rintro e w3 ⟨rfl, rfl⟩))
            go_upto_region 26 with fail
            have bA3 := bA2.far (C := F) (by omega) qv (.int .i64 ((ev : Int) + 1))
            have bD3 := bD2.far (C := F) (by omega) qv (.int .i64 ((ev : Int) + 1))
            have cA3 := bA3.cell _ _ (ptsV_at HA.out)
            have fA3 := bA3.free t
            clear cF2 fF2 c2 bA2 bD2 bF2
            go_upto_region 27 with fail
            have bD4 := bD3.far (C := A) (by omega) t (.pointer none)
            have cD4 := bD4.cell _ _ (intsV_at (by rw [List.getElem?_map, HV.out]; rfl))
            have fD4 := bD4.free t
            clear cA3 fA3 bA3 bD3 bD4
            go_wp2
            go_roundw
            case rel =>
              have eG := HE.out
              have hp := HP.out.2
              rw [eG.2.2.2.2.2.2.2.1, eG.2.2.2.2.2.2.2.2.2] at hp
              exact ⟨U.set t (v + 1, 0), TA.set t none, none, lock', c', E.set qv (ev + 1), j + 1, _, nn + 1, by omega, by go_num, HNew.out, HBud.out.turn (by omega) (by have := HLen.out; omega) (fun h => HT.out h) (.inl hp), HBl.out⟩
            case measure => simp [intOf]; omega
        | none =>
          have cA0 : w1.cell? ⟨A, t, none⟩ = some (.pointer none) := cA
          clear cA
          have eC := HG.out.2.1
          have HTk := Lib.hid (wbump (a' := 0) (i' := 1) t 0 1 rfl rfl t HL1.out.wld)
          rw [eC] at HTk
          have HBA : Hid (Blk w1 A 29 (ptsV TA)) := Lib.hid (by have := HL1.out.ba; rw [HG.out.2.2.1] at this; exact this)
          have hBAl := HBA.out.lt
          cases lo with
          | false =>
            go_upto_region 19 with (go_at_call 19; (with_reducible refine HTk.out.mono ?_); rintro e wb ⟨k, rfl, hWb, bb⟩; have HWb : Hid (Wld g.n0 g.X wb g.C g.S [lock, c] nn (upd τ t (some (k, bumpT 0 t 1)))) := Lib.hid (by rw [eC]; exact hWb); have HBb := Lib.hid bb; have hbA := HBA.out.below bb hBAl; have HbA := Lib.hid hbA; have c4 : wb.cell? ⟨A, t, none⟩ = some (ptV none) := hbA.cell _ _ (ptsV_at HA.out); have f4 := hbA.free t; clear HTk hWb bb hbA)
            have hkA : Keep (fun b => b = g.A) w1 (wb.setCell ⟨A, t, none⟩ (pV k)) := (Keep.ofBelow HBb.out).set (p := ⟨A, t, none⟩) (fun _ => HG.out.2.2.1.symm) _
            have hbl : Blk (wb.setCell ⟨A, t, none⟩ (pV k)) g.A 29 (ptsV (TA.set t (some k))) := by
              rw [HG.out.2.2.1, ← ptsV_set]
              exact HbA.out.set t (pV k)
            have HL2 := Lib.hid (HL1.out.make hkA (HWb.out.keep ((Keep.refl (fun b => b = g.A) wb).set (p := ⟨A, t, none⟩) (fun _ => HG.out.2.2.1.symm) _) (fun b hb => .inl hb)) hbl HV.out HA.out (by rw [HG.out.2.2.2.2.2.2.2.2.2]; exact stg_bump _ _))
            have Hb2 := Lib.hid ((Hb1.out.trans (HBb.out.mono Hb1.out.size)).setCell (p := ⟨A, t, none⟩) (by show w.heap.size ≤ A; have h1 := HL1.out.low; have h2 := HG.out; omega) (pV k))
            have HA2 : Hid ((TA.set t (some k))[t]? = some (some k)) := Lib.hid (List.getElem?_set_self (by have := HLen2.out; have := HG.out; omega))
            clear c4 f4 cA0 HBA hBAl HWb HBb HbA eC cD hkA hbl
            generalize wb.setCell ⟨A, t, none⟩ (pV k) = w1c at *
            generalize TA.set t (some k) = TA2 at *
            generalize upd τ t (some (k, bumpT 0 t 1)) = τ2 at *
            have cAk : w1c.cell? ⟨A, t, none⟩ = some (pV k) := by rw [← HG.out.2.2.1]; exact HL2.out.ba.cell _ _ (ptsV_at HA2.out)
            obtain ⟨z, T, hz, hτ, hst⟩ := HL2.out.ta t k HA2.out
            rw [HV.out] at hz
            obtain rfl := Option.some.inj hz
            obtain ⟨it, κ, m', u, ok, T', rfl, hk5, hop, hct, hκ, hout⟩ := turn2 HL2.out.inv HL2.out.sm.2.1 HL2.out.sm.2.2.2.1 HV.out (by rw [HG.out.2.2.2.2.2.2.2.1]; exact HVlt.out) hst
            have HS := Lib.hid (wstepE t HL2.out.wld hτ hk5 ⟨by have := HCnt.out; omega, by have := HCnt.out; omega⟩ hop hct hκ)
            clear hz hst hop hct hκ
            have eG := HG.out
            have HE := Lib.hid eG
            clear eG
            cases hout with
            | on p' o' lock' c' hm hT hs hi hp =>
              subst hm
              have HP := Lib.hid (And.intro hs (And.intro hi hp))
              have HF : Hid (Fin false T') := Lib.hid hT
              clear hT hs hi hp
              go_upto_region 21 with (go_at_call 13; (with_reducible refine HS.out.mono ?_); rintro e w2 ⟨rfl, hW2, k2⟩; have HD := Lib.hid (wdone false t hW2 (upd_same _ _ _) HF.out); have HW2 := Lib.hid hW2; have c2 : w2.cell? ⟨A, t, none⟩ = some (pV k) := cell_keep6 cAk k2 (fun h => h.2 (.inl HG.out.2.2.1.symm)); clear HS hW2)
              clear cAk
              go_wp2_with (go_at_call 14; (with_reducible refine HD.out.mono ?_); rintro e w3 ⟨rfl, rfl⟩)
              go_roundw
              case rel =>
                obtain ⟨hs, hi, hp⟩ := HP.out
                have eG := HE.out
                refine ⟨U.set t (v, p'), TA2, o', lock', c', E, j + 1, _, nn + 1, by omega, by go_num, HL2.out.on k2 HW2.out HV.out HA2.out hs hi (by have := HCnt.out; omega), HBud.out.turn (by omega) (by have := HLen.out; omega) (fun h => HT.out h) ?_, Hb2.out.trans (k2.below Hb2.out.size (fun i _ h => by have := h.1; rw [eG.1] at this; exact this))⟩
                rw [eG.2.2.2.2.2.2.2.1, eG.2.2.2.2.2.2.2.2.2] at hp
                rcases hp with hp | ⟨h1, h2, h3, h4⟩
                · exact .inl hp
                · exact .inr ⟨h1, h2, fun h => (h3 h).elim, fun u' h => by have := h4 u' h; rw [eG.2.2.2.2.2.2.1] at this; exact this⟩
              case measure => simp [intOf]; omega
            | done qv ev lock' c' hm hT hq he hi hp =>
              subst hm hT
              have HP := Lib.hid (And.intro hi hp)
              have HQ : Hid (E[qv]? = some ev) := Lib.hid he
              have hqN : qv < N := by rw [HNN.out]; have eG := HE.out; rw [eG.2.2.2.2.2.2.1, eG.2.2.2.2.2.2.2.1] at hq; exact hq
              have hev : ev ≤ 1000 := by
                have eG := HE.out
                rcases Bool.eq_false_or_eq_true g.lo with hl | hl
                · obtain ⟨_, _, _, _, _, h6⟩ := HL2.out.inv.lose hl
                  have h7 := h6 ev (List.mem_of_getElem? he)
                  have h8 := sumU_le (K := g.K) (fun x hx => (HL2.out.inv.ok x hx).1)
                  have h9 : U.length * g.K ≤ 6 * 4 := Nat.mul_le_mul (by have := HLen.out; have := HL2.out.sm; omega) HL2.out.sm.2.2.2.1
                  omega
                · obtain ⟨_, _, _, _, h6⟩ := HL2.out.inv.tight hl
                  rw [h6] at he
                  have := List.mem_of_getElem? he
                  simp at this
                  omega
              have hqI : ¬ ((N : Int) ≤ (qv : Int)) := by omega
              have hq0 : ¬ ((qv : Int) < 0) := by omega
              have hevI : (ev : Int) + 1 ≤ 2000 := by omega
              have i5 := idx_intsN N F qv hqN
              clear hq he hi hp
              go_upto_region 21 with (go_at_call 13; (with_reducible refine HS.out.mono ?_); rintro e w2 ⟨rfl, hW2, k2⟩; have HD := Lib.hid (wdone true t hW2 (upd_same _ _ _) (fin_ret _)); have HVv := Lib.hid (wvalue_ret t hW2 (upd_same _ _ _)); have HW2 := Lib.hid hW2; have c2 : w2.cell? ⟨A, t, none⟩ = some (pV k) := cell_keep6 cAk k2 (fun h => h.2 (.inl HG.out.2.2.1.symm)); clear HS hW2)
              clear cAk
              have eG := HE.out
              have hne6 := HL2.out.ne
              rw [eG.2.2.1, eG.2.2.2.1, eG.2.2.2.2.1] at hne6
              have lo6 := HL2.out.low
              rw [eG.1, eG.2.2.1, eG.2.2.2.1, eG.2.2.2.2.1] at lo6
              have bA2 : Blk w2 A 29 (ptsV TA2) := by rw [← eG.2.2.1]; exact HL2.out.ba.keep k2 (fun h => h.2 (.inl rfl))
              have bD2 : Blk w2 D 3 (intsV (U.map Prod.fst)) := by rw [← eG.2.2.2.1]; exact HL2.out.bd.keep k2 (fun h => h.2 (.inr (.inl rfl)))
              have bF2 : Blk w2 F 3 (intsV E) := by rw [← eG.2.2.2.2.1]; exact HL2.out.bf.keep k2 (fun h => h.2 (.inr (.inr (.inl rfl))))
              have HNew := Lib.hid (HL2.out.done k2 HW2.out HV.out HA2.out HQ.out HP.out.1 (by have := HCnt.out; omega))
              rw [eG.2.2.1, eG.2.2.2.1, eG.2.2.2.2.1] at HNew
              have hb2 := Hb2.out.trans (k2.below Hb2.out.size (fun i _ h => by have := h.1; rw [eG.1] at this; exact this))
              have HBl := Lib.hid (((hb2.setCell (p := ⟨F, qv, none⟩) (by show w.heap.size ≤ F; omega) (.int .i64 ((ev : Int) + 1))).setCell (p := ⟨A, t, none⟩) (by show w.heap.size ≤ A; omega) (.pointer none)).setCell (p := ⟨D, t, none⟩) (by show w.heap.size ≤ D; omega) (.int .i64 ((v : Int) + 1)))
              have cF2 := bF2.cell _ _ (intsV_at HQ.out)
              have fF2 := bF2.free qv
              clear hb2 k2 HW2 eG
              go_upto_region 23 with (first
                | (go_at_call 14; (with_reducible refine HD.out.mono ?_); rintro e w3 ⟨rfl, rfl⟩)
                | (go_at_call 16; (with_reducible refine HVv.out.mono ?_); rintro e w3 ⟨rfl, rfl⟩))
              go_upto_region 26 with fail
              have bA3 := bA2.far (C := F) (by omega) qv (.int .i64 ((ev : Int) + 1))
              have bD3 := bD2.far (C := F) (by omega) qv (.int .i64 ((ev : Int) + 1))
              have cA3 := bA3.cell _ _ (ptsV_at HA2.out)
              have fA3 := bA3.free t
              clear cF2 fF2 c2 bA2 bD2 bF2
              go_upto_region 27 with fail
              have bD4 := bD3.far (C := A) (by omega) t (.pointer none)
              have cD4 := bD4.cell _ _ (intsV_at (by rw [List.getElem?_map, HV.out]; rfl))
              have fD4 := bD4.free t
              clear cA3 fA3 bA3 bD3 bD4
              go_wp2
              go_roundw
              case rel =>
                have eG := HE.out
                have hp := HP.out.2
                rw [eG.2.2.2.2.2.2.2.1, eG.2.2.2.2.2.2.2.2.2] at hp
                exact ⟨U.set t (v + 1, 0), TA2.set t none, none, lock', c', E.set qv (ev + 1), j + 1, _, nn + 1, by omega, by go_num, HNew.out, HBud.out.turn (by omega) (by have := HLen.out; omega) (fun h => HT.out h) (.inl hp), HBl.out⟩
              case measure => simp [intOf]; omega
          | true =>
            go_upto_region 18 with (go_at_call 19; (with_reducible refine HTk.out.mono ?_); rintro e wb ⟨k0, rfl, hWb, bb⟩; have HWb : Hid (Wld g.n0 g.X wb g.C g.S [lock, c] nn (upd τ t (some (k0, bumpT 0 t 1)))) := Lib.hid (by rw [eC]; exact hWb); have HBb := Lib.hid bb; have hbA := HBA.out.below bb hBAl; have HbA := Lib.hid hbA; have c4 : wb.cell? ⟨A, t, none⟩ = some (ptV none) := hbA.cell _ _ (ptsV_at HA.out); have f4 := hbA.free t; clear HTk hWb bb hbA)
            have hkA : Keep (fun b => b = g.A) w1 (wb.setCell ⟨A, t, none⟩ (pV k0)) := (Keep.ofBelow HBb.out).set (p := ⟨A, t, none⟩) (fun _ => HG.out.2.2.1.symm) _
            have hbl := HbA.out.set t (pV k0)
            have hWc := HWb.out.keep ((Keep.refl (fun b => b = g.A) wb).set (p := ⟨A, t, none⟩) (fun _ => HG.out.2.2.1.symm) (pV k0)) (fun b hb => .inl hb)
            have Hb0 := Lib.hid ((Hb1.out.trans (HBb.out.mono Hb1.out.size)).setCell (p := ⟨A, t, none⟩) (by show w.heap.size ≤ A; have h1 := HL1.out.low; have h2 := HG.out; omega) (pV k0))
            clear c4 f4 cA0 HBA hBAl HWb HBb HbA
            generalize wb.setCell ⟨A, t, none⟩ (pV k0) = w1b at *
            have HKA := Lib.hid hkA
            have HBL := Lib.hid hbl
            have hBLl := hbl.lt
            have HTl := Lib.hid (wloose (i' := 1) t 1 rfl hWc)
            rw [eC] at HTl
            clear hkA hbl hWc
            go_upto_region 19 with (go_at_call 20; (with_reducible refine HTl.out.mono ?_); rintro e wb ⟨k, rfl, hWb, bb⟩; have HWb : Hid (Wld g.n0 g.X wb g.C g.S [lock, c] nn (upd (upd τ t (some (k0, bumpT 0 t 1))) t (some (k, looseT 1)))) := Lib.hid (by rw [eC]; exact hWb); have HBb := Lib.hid bb; have hbA := HBL.out.below bb hBLl; have HbA := Lib.hid hbA; have c4 := hbA.cell t (pV k0) (by simp [(by have := HLen2.out; have := HG.out; omega : t < TA.length)]); have f4 := hbA.free t; clear HTl hWb bb hbA)
            have hkA : Keep (fun b => b = g.A) w1 (wb.setCell ⟨A, t, none⟩ (pV k)) := (HKA.out.trans (Keep.ofBelow HBb.out)).set (p := ⟨A, t, none⟩) (fun _ => HG.out.2.2.1.symm) _
            have hbl : Blk (wb.setCell ⟨A, t, none⟩ (pV k)) g.A 29 (ptsV (TA.set t (some k))) := by
              rw [HG.out.2.2.1, ← ptsV_set]
              have e9 : ((ptsV TA).setIfInBounds t (pV k0)).setIfInBounds t (pV k) = (ptsV TA).setIfInBounds t (pV k) := by simp
              have := HbA.out.set t (pV k)
              rw [e9] at this
              exact this
            have eτ : upd (upd τ t (some (k0, bumpT 0 t 1))) t (some (k, looseT 1)) = upd τ t (some (k, looseT 1)) := by
              funext u
              by_cases e : u = t
              · rw [e, upd_same, upd_same]
              · rw [upd_ne _ _ _ _ e, upd_ne _ _ _ _ e, upd_ne _ _ _ _ e]
            rw [eτ] at HWb
            have HL2 := Lib.hid (HL1.out.make hkA (HWb.out.keep ((Keep.refl (fun b => b = g.A) wb).set (p := ⟨A, t, none⟩) (fun _ => HG.out.2.2.1.symm) _) (fun b hb => .inl hb)) hbl HV.out HA.out (by rw [HG.out.2.2.2.2.2.2.2.2.2]; exact stg_loose _ _))
            have Hb2 := Lib.hid ((Hb0.out.trans (HBb.out.mono Hb0.out.size)).setCell (p := ⟨A, t, none⟩) (by show w.heap.size ≤ A; have h1 := HL1.out.low; have h2 := HG.out; omega) (pV k))
            have HA2 : Hid ((TA.set t (some k))[t]? = some (some k)) := Lib.hid (List.getElem?_set_self (by have := HLen2.out; have := HG.out; omega))
            clear c4 f4 HWb HBb HbA eC cD hkA hbl HKA HBL hBLl eτ Hb0
            generalize wb.setCell ⟨A, t, none⟩ (pV k) = w1c at *
            generalize TA.set t (some k) = TA2 at *
            generalize upd τ t (some (k, looseT 1)) = τ2 at *
            have cAk : w1c.cell? ⟨A, t, none⟩ = some (pV k) := by rw [← HG.out.2.2.1]; exact HL2.out.ba.cell _ _ (ptsV_at HA2.out)
            obtain ⟨z, T, hz, hτ, hst⟩ := HL2.out.ta t k HA2.out
            rw [HV.out] at hz
            obtain rfl := Option.some.inj hz
            obtain ⟨it, κ, m', u, ok, T', rfl, hk5, hop, hct, hκ, hout⟩ := turn2 HL2.out.inv HL2.out.sm.2.1 HL2.out.sm.2.2.2.1 HV.out (by rw [HG.out.2.2.2.2.2.2.2.1]; exact HVlt.out) hst
            have HS := Lib.hid (wstepE t HL2.out.wld hτ hk5 ⟨by have := HCnt.out; omega, by have := HCnt.out; omega⟩ hop hct hκ)
            clear hz hst hop hct hκ
            have eG := HG.out
            have HE := Lib.hid eG
            clear eG
            cases hout with
            | on p' o' lock' c' hm hT hs hi hp =>
              subst hm
              have HP := Lib.hid (And.intro hs (And.intro hi hp))
              have HF : Hid (Fin false T') := Lib.hid hT
              clear hT hs hi hp
              go_upto_region 21 with (go_at_call 13; (with_reducible refine HS.out.mono ?_); rintro e w2 ⟨rfl, hW2, k2⟩; have HD := Lib.hid (wdone false t hW2 (upd_same _ _ _) HF.out); have HW2 := Lib.hid hW2; have c2 : w2.cell? ⟨A, t, none⟩ = some (pV k) := cell_keep6 cAk k2 (fun h => h.2 (.inl HG.out.2.2.1.symm)); clear HS hW2)
              clear cAk
              go_wp2_with (go_at_call 14; (with_reducible refine HD.out.mono ?_); rintro e w3 ⟨rfl, rfl⟩)
              go_roundw
              case rel =>
                obtain ⟨hs, hi, hp⟩ := HP.out
                have eG := HE.out
                refine ⟨U.set t (v, p'), TA2, o', lock', c', E, j + 1, _, nn + 1, by omega, by go_num, HL2.out.on k2 HW2.out HV.out HA2.out hs hi (by have := HCnt.out; omega), HBud.out.turn (by omega) (by have := HLen.out; omega) (fun h => HT.out h) ?_, Hb2.out.trans (k2.below Hb2.out.size (fun i _ h => by have := h.1; rw [eG.1] at this; exact this))⟩
                rw [eG.2.2.2.2.2.2.2.1, eG.2.2.2.2.2.2.2.2.2] at hp
                rcases hp with hp | ⟨h1, h2, h3, h4⟩
                · exact .inl hp
                · exact .inr ⟨h1, h2, fun h => (h3 h).elim, fun u' h => by have := h4 u' h; rw [eG.2.2.2.2.2.2.1] at this; exact this⟩
              case measure => simp [intOf]; omega
            | done qv ev lock' c' hm hT hq he hi hp =>
              subst hm hT
              have HP := Lib.hid (And.intro hi hp)
              have HQ : Hid (E[qv]? = some ev) := Lib.hid he
              have hqN : qv < N := by rw [HNN.out]; have eG := HE.out; rw [eG.2.2.2.2.2.2.1, eG.2.2.2.2.2.2.2.1] at hq; exact hq
              have hev : ev ≤ 1000 := by
                have eG := HE.out
                rcases Bool.eq_false_or_eq_true g.lo with hl | hl
                · obtain ⟨_, _, _, _, _, h6⟩ := HL2.out.inv.lose hl
                  have h7 := h6 ev (List.mem_of_getElem? he)
                  have h8 := sumU_le (K := g.K) (fun x hx => (HL2.out.inv.ok x hx).1)
                  have h9 : U.length * g.K ≤ 6 * 4 := Nat.mul_le_mul (by have := HLen.out; have := HL2.out.sm; omega) HL2.out.sm.2.2.2.1
                  omega
                · obtain ⟨_, _, _, _, h6⟩ := HL2.out.inv.tight hl
                  rw [h6] at he
                  have := List.mem_of_getElem? he
                  simp at this
                  omega
              have hqI : ¬ ((N : Int) ≤ (qv : Int)) := by omega
              have hq0 : ¬ ((qv : Int) < 0) := by omega
              have hevI : (ev : Int) + 1 ≤ 2000 := by omega
              have i5 := idx_intsN N F qv hqN
              clear hq he hi hp
              go_upto_region 21 with (go_at_call 13; (with_reducible refine HS.out.mono ?_); rintro e w2 ⟨rfl, hW2, k2⟩; have HD := Lib.hid (wdone true t hW2 (upd_same _ _ _) (fin_ret _)); have HVv := Lib.hid (wvalue_ret t hW2 (upd_same _ _ _)); have HW2 := Lib.hid hW2; have c2 : w2.cell? ⟨A, t, none⟩ = some (pV k) := cell_keep6 cAk k2 (fun h => h.2 (.inl HG.out.2.2.1.symm)); clear HS hW2)
              clear cAk
              have eG := HE.out
              have hne6 := HL2.out.ne
              rw [eG.2.2.1, eG.2.2.2.1, eG.2.2.2.2.1] at hne6
              have lo6 := HL2.out.low
              rw [eG.1, eG.2.2.1, eG.2.2.2.1, eG.2.2.2.2.1] at lo6
              have bA2 : Blk w2 A 29 (ptsV TA2) := by rw [← eG.2.2.1]; exact HL2.out.ba.keep k2 (fun h => h.2 (.inl rfl))
              have bD2 : Blk w2 D 3 (intsV (U.map Prod.fst)) := by rw [← eG.2.2.2.1]; exact HL2.out.bd.keep k2 (fun h => h.2 (.inr (.inl rfl)))
              have bF2 : Blk w2 F 3 (intsV E) := by rw [← eG.2.2.2.2.1]; exact HL2.out.bf.keep k2 (fun h => h.2 (.inr (.inr (.inl rfl))))
              have HNew := Lib.hid (HL2.out.done k2 HW2.out HV.out HA2.out HQ.out HP.out.1 (by have := HCnt.out; omega))
              rw [eG.2.2.1, eG.2.2.2.1, eG.2.2.2.2.1] at HNew
              have hb2 := Hb2.out.trans (k2.below Hb2.out.size (fun i _ h => by have := h.1; rw [eG.1] at this; exact this))
              have HBl := Lib.hid (((hb2.setCell (p := ⟨F, qv, none⟩) (by show w.heap.size ≤ F; omega) (.int .i64 ((ev : Int) + 1))).setCell (p := ⟨A, t, none⟩) (by show w.heap.size ≤ A; omega) (.pointer none)).setCell (p := ⟨D, t, none⟩) (by show w.heap.size ≤ D; omega) (.int .i64 ((v : Int) + 1)))
              have cF2 := bF2.cell _ _ (intsV_at HQ.out)
              have fF2 := bF2.free qv
              clear hb2 k2 HW2 eG
              go_upto_region 23 with (first
                | (go_at_call 14; (with_reducible refine HD.out.mono ?_); rintro e w3 ⟨rfl, rfl⟩)
                | (go_at_call 16; (with_reducible refine HVv.out.mono ?_); rintro e w3 ⟨rfl, rfl⟩))
              go_upto_region 26 with fail
              have bA3 := bA2.far (C := F) (by omega) qv (.int .i64 ((ev : Int) + 1))
              have bD3 := bD2.far (C := F) (by omega) qv (.int .i64 ((ev : Int) + 1))
              have cA3 := bA3.cell _ _ (ptsV_at HA2.out)
              have fA3 := bA3.free t
              clear cF2 fF2 c2 bA2 bD2 bF2
              go_upto_region 27 with fail
              have bD4 := bD3.far (C := A) (by omega) t (.pointer none)
              have cD4 := bD4.cell _ _ (intsV_at (by rw [List.getElem?_map, HV.out]; rfl))
              have fD4 := bD4.free t
              clear cA3 fA3 bA3 bD3 bD4
              go_wp2
              go_roundw
              case rel =>
                have eG := HE.out
                have hp := HP.out.2
                rw [eG.2.2.2.2.2.2.2.1, eG.2.2.2.2.2.2.2.2.2] at hp
                exact ⟨U.set t (v + 1, 0), TA2.set t none, none, lock', c', E.set qv (ev + 1), j + 1, _, nn + 1, by omega, by go_num, HNew.out, HBud.out.turn (by omega) (by have := HLen.out; omega) (fun h => HT.out h) (.inl hp), HBl.out⟩
              case measure => simp [intOf]; omega
    · have hj4 : j = 8000 := by omega
      have hM : 0 < stM lo := by cases lo <;> decide
      have hpot : potL (stM lo) K U = 0 := hBud.end hn2 hL2 (by omega)
      have hinv := hL.inv
      rw [g7, g8, g10] at hinv
      have hall := potL_done hM hpot hinv.ok
      have hlen := hinv.len
      have hsum : sumU U = N := by
        rw [sumU_all (K := K) (fun x hx => by rw [hall x hx]), hlen, HNN.out]
      have hfin : lock = 0 ∧ (lo = false → c = (N : Int) ∧ E = List.replicate N 1) ∧ 1 ≤ c ∧ c ≤ (N : Int) ∧ E.length = N := by
        cases lo with
        | false =>
          obtain ⟨t1, t2, t3, t4, t5⟩ := hinv.tight rfl
          have ho : o = none := by
            cases o with
            | none => rfl
            | some u =>
              have hun := t2 u rfl
              obtain ⟨z, hz⟩ : ∃ z, U[u]? = some z := ⟨_, List.getElem?_eq_getElem (by omega)⟩
              have h1 := (t1 u z hz).2 rfl
              rw [hall z (List.mem_of_getElem? hz)] at h1
              simp at h1
          subst ho
          have hc := t3 rfl
          rw [hsum] at hc t5
          rw [← HNN.out] at t5
          have hE : E = List.replicate N 1 := by rw [t5]; simp
          exact ⟨hinv.lk, fun _ => ⟨hc, hE⟩, by omega, by omega, by rw [hE]; simp⟩
        | true =>
          obtain ⟨rfl, t2, t3, t4, t5, t6⟩ := hinv.lose rfl
          rw [hsum] at t3 t4
          exact ⟨hinv.lk, fun h => (by cases h), t4 (by omega), t3, by rw [t5, HNN.out]⟩
      obtain ⟨rfl, hE1, hc1, hc2, hE2⟩ := hfin
      have hA0 : ∀ W, Below wr.heap.size wr W → Calls Try.prog 15 #[cellsV g.C] W fun e w' => ∃ gg cap, e = .returned (.slice (some ⟨gg, 0, none⟩) 2 cap) ∧ (∀ (i : Nat) c', [(0 : Int), c][i]? = some c' → w'.cell? ⟨gg, i, none⟩ = some (.int .u64 c')) ∧ W.heap.size ≤ gg ∧ Below W.heap.size W w' := fun W hb => wallL 2 (hL.wld.below hb) rfl (by omega)
      rw [g2] at hA0
      have HA0 := Lib.hid hA0
      have HA1 := Lib.hid (hA0 wr (Below.refl _ _))
      have Hb := Lib.hid hb
      have hbF := hL.bf
      rw [g5] at hbF
      have HbF := Lib.hid hbF
      have HbFl := hbF.lt
      have HE1 : Hid (lo = false → c = (N : Int) ∧ E = List.replicate N 1) := Lib.hid hE1
      have HE2 := Lib.hid hE2
      have hj5 : ¬ (j : Int) < 8000 := by omega
      have hcw : IntKind.i64.wrap c = c := IntWalk.i64_in _ ⟨by omega, by omega⟩
      clear hA0 hb hbF hall hpot hBud hL hlt hj4 hj hinv hlen hsum hE1 hE2 hM g1 g2 g3 g4 g5 g6 g7 g8 g9 g10
      go_wp2_with (go_at_call 15; (with_reducible refine HA1.out.mono ?_); rintro e w5 ⟨gg, cap5, rfl, hc5, hg5, b5⟩; have f5 : w5.cell? ⟨gg, 1, none⟩ = some (.int .u64 c) := hc5 1 _ rfl; have HB5 := Lib.hid b5; have HA2 := Lib.hid (HA0.out w5 b5); clear hc5 b5)
      go_loopw [20] (fun v20 wq => ∃ i : Nat, i ≤ N ∧ v20 = .int .i64 (i : Int) ∧ wq = w5)
        (fun v20 _ => N - (intOf v20).toNat)
      case atStart => exact ⟨0, by omega, rfl, rfl⟩
      case round =>
        clear f5
        obtain ⟨i, hi, rfl, rfl⟩ := hrel
        by_cases hin : i < N ∧ lo = false
        · obtain ⟨hin, rfl⟩ := hin
          have hE := (HE1.out rfl).2
          have cF := (HbF.out.below HB5.out HbFl).cell i (.int .i64 (1 : Int)) (by rw [hE]; simp [hin])
          have i5 := idx_intsN N F i hin
          have hinI : (i : Int) < (N : Int) := by omega
          clear hE
          go_wp2
          go_roundw
          case rel => exact ⟨i + 1, by omega, by go_num, by first | trivial | rfl⟩
          case measure => simp [intOf]; omega
        · have hex : ¬ (i : Int) < (N : Int) ∨ ((i : Int) < (N : Int) ∧ lo = true) := by
            by_cases h1 : i < N
            · right
              refine ⟨by omega, ?_⟩
              cases lo with
              | true => rfl
              | false => exact absurd ⟨h1, rfl⟩ hin
            · left; omega
          have hfin : (lo = false ∧ (c == (N : Int)) = true) ∨ (lo = true ∧ (c == (N : Int)) = true) ∨ (lo = true ∧ (c == (N : Int)) = false) := by
            cases lo with
            | false => exact .inl ⟨rfl, by rw [beq_iff_eq]; exact (HE1.out rfl).1⟩
            | true =>
              by_cases h1 : c = (N : Int)
              · exact .inr (.inl ⟨rfl, by rw [beq_iff_eq]; exact h1⟩)
              · exact .inr (.inr ⟨rfl, by rw [beq_eq_false_iff_ne]; exact h1⟩)
          have hc3 : ¬ (c < 1) := by omega
          clear hin
          rcases hex with hinI | ⟨hinI, hlo⟩
          · rcases hfin with ⟨rfl, h9⟩ | ⟨rfl, h9⟩ | ⟨rfl, h9⟩
            all_goals
              go_wp2_with (go_at_call 15; (with_reducible refine HA2.out.mono ?_); rintro e w6 ⟨gh, cap6, rfl, hc6, hg6, b6⟩; have f6 : w6.cell? ⟨gh, 0, none⟩ = some (.int .u64 0) := hc6 0 _ rfl)
              go_ret
              exact ⟨by first | trivial | rfl, (Hb.out.trans (HB5.out.mono Hb.out.size)).trans (b6.mono (by have := Hb.out.size; have := HB5.out.size; omega))⟩
          · subst hlo
            rcases hfin with ⟨h9, _⟩ | ⟨_, h9⟩ | ⟨_, h9⟩
            · cases h9
            all_goals
              go_wp2_with (go_at_call 15; (with_reducible refine HA2.out.mono ?_); rintro e w6 ⟨gh, cap6, rfl, hc6, hg6, b6⟩; have f6 : w6.cell? ⟨gh, 0, none⟩ = some (.int .u64 0) := hc6 0 _ rfl)
              go_ret
              exact ⟨by first | trivial | rfl, (Hb.out.trans (HB5.out.mono Hb.out.size)).trans (b6.mono (by have := Hb.out.size; have := HB5.out.size; omega))⟩
end Go.Proofs.Ytcocpmoglhgbeaa
