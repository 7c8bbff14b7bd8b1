/- Layer 8's law: alike. -/
import Derived.Test.YtpopcallphbklaaGreatMpK
import Derived.Test.YtpopcallphbklaaGreatMgO
namespace Go.Proofs.YtpopcallphbklaaGreat
open Go.ChangeShapes Go.WideShapes Go.ChangeAt Go.RowKit
set_option linter.unusedVariables false
set_option maxRecDepth 100000
set_option linter.unusedSimpArgs false
theorem chainB {w W W1 : World} (h : Below w.heap.size w W) (hb : Below W.heap.size W W1) : Below w.heap.size w W1 := h.trans (hb.mono h.size)
theorem belowF {w w' : World} (h : Keep (fun _ => False) w w') : Below w.heap.size w w' := h.below (Nat.le_refl _) (fun _ _ h => h.elim)
theorem RowI.up {w w1 : World} {v : Value} {l : List Int} (h : RowI w v l) (hb : Below w.heap.size w w1) : RowI w1 v l := h.below hb
theorem Play.values {w : World} {c : PIds} {A : Nat → Prop} {s q : St} (h : Play w c A s q) (t : Int) : (thrAt s.ts t).2.length ≤ 1000 := by
  obtain ⟨U, V, L, h1, _⟩ := h.it
  obtain ⟨L, e1, hL⟩ := h1.mach
  unfold thrAt
  split
  · rw [List.getD_eq_getElem?_getD]
    cases hx : s.ts[t.toNat]? with
    | none => simp
    | some x =>
      rw [← e1, thrs, List.getElem?_map] at hx
      obtain ⟨k, hk, rfl⟩ := Option.map_eq_some_iff.1 hx
      have := (hL.thr k (List.mem_of_getElem? hk)).2.2.2
      simp
      omega
  · simp
/-- whether the first ones are over -/
def overK (ts : List Thr) (j : Nat) : Bool := (ts.take (j - 1)).all fun x => x.1.isEmpty
def ableK (ps : List Bool) (ts : List Thr) (j : Nat) : List Nat := sift (j - 1) (fun i => canT ps (thrAt ts i) 0)
theorem overK_next {ts : List Thr} {i : Nat} (h : i < ts.length) : overK ts (i + 2) = (overK ts (i + 1) && (thrAt ts i).1.isEmpty) := by
  unfold overK
  obtain ⟨x, hx⟩ : ∃ x, ts[i]? = some x := ⟨_, List.getElem?_eq_getElem h⟩
  rw [thrAt_yes hx]
  show (ts.take (i + 1)).all _ = ((ts.take i).all _ && _)
  rw [List.take_add_one, hx]
  simp
theorem overK_end {ts : List Thr} {j : Nat} (h : ts.length < j) : overK ts j = ts.all fun x => x.1.isEmpty := by
  unfold overK
  rw [List.take_of_length_le (by omega)]
theorem ableK_end {ps : List Bool} {ts : List Thr} {j : Nat} (h : j = ts.length + 2) : ableK ps ts j = sift ts.length (fun i => canT ps (thrAt ts i) 0) := by
  subst h
  unfold ableK
  show sift (ts.length + 1) _ = _
  refine sift_no (n := 0) ?_
  rw [thrAt_no (.inr (Int.le_refl _))]
  rfl
theorem ableK_yes {ps : List Bool} {ts : List Thr} {i : Nat} (h : canT ps (thrAt ts i) 0 = true) : ableK ps ts (i + 2) = ableK ps ts (i + 1) ++ [i] := sift_yes (n := 0) (p := fun i => canT ps (thrAt ts i) 0) h
theorem ableK_no {ps : List Bool} {ts : List Thr} {i : Nat} (h : canT ps (thrAt ts i) 0 = false) : ableK ps ts (i + 2) = ableK ps ts (i + 1) := sift_no (n := 0) (p := fun i => canT ps (thrAt ts i) 0) h
theorem ableK_len {ps : List Bool} {ts : List Thr} {j : Nat} : (ableK ps ts j).length ≤ j := by
  unfold ableK sift
  refine Nat.le_trans (List.length_filter_le _ _) ?_
  simp
theorem ableK_yesT {ps : List Bool} {ts : List Thr} {i j : Nat} {tt : Int} (h1 : tt = (j : Int) - 1) (h2 : tt = (i : Int)) (h : canT ps (thrAt ts tt) 0 = true) : ableK ps ts (j + 1) = ableK ps ts j ++ [i] := by
  obtain rfl : j = i + 1 := by omega
  rw [h2] at h
  exact ableK_yes h
theorem ableK_noT {ps : List Bool} {ts : List Thr} {i j : Nat} {tt : Int} (h1 : tt = (j : Int) - 1) (h2 : tt = (i : Int)) (h : canT ps (thrAt ts tt) 0 = false) : ableK ps ts (j + 1) = ableK ps ts j := by
  obtain rfl : j = i + 1 := by omega
  rw [h2] at h
  exact ableK_no h
theorem so_out {ps : List Bool} {ts : List Thr} {j ll : Nat} {tt : Int} (hl : ll = ts.length) (ht : tt = (j : Int) - 1) (hj : j < ll + 2) (h : ¬ (0 ≤ tt ∧ tt < (ll : Int))) : ableK ps ts (j + 1) = ableK ps ts j ∧ overK ts (j + 1) = overK ts j := by
  rcases Nat.eq_zero_or_pos j with rfl | h0
  · exact ⟨rfl, rfl⟩
  · obtain rfl : j = ll + 1 := by omega
    subst hl
    refine ⟨ableK_no ?_, ?_⟩
    · rw [thrAt_no (.inr (Int.le_refl _))]
      rfl
    · rw [overK_end (by omega), overK_end (by omega)]
set_option maxHeartbeats 8000000 in
theorem alike_any (c : PIds) (A : Nat → Prop) (m : List Int) (ps : List Bool) (ts : List Thr) (n n' : Int) (w : World) (h : Play w c A ⟨m, ps, ts, n⟩ ⟨m, ps, ts, n'⟩) (hm3 : m.length = 3) :
    Calls Tryz.prog 7 #[pV c.M, cellsV c.C, ptrV c.G, ptrV c.D] w fun e w' => e = .returned (.bool true) ∧ Below w.heap.size w w' := by
  obtain ⟨i0, hi0, hi1, hi2, hi3⟩ := info_parts rint_info
  obtain ⟨ra, rgc, hR⟩ := h.rhead
  have hfew := h.rfew
  have HP := Lib.hid fun W (hW : Below w.heap.size w W) => h.below hW
  have H0 := Lib.hid h
  obtain ⟨cap, hO⟩ := h.world.own
  obtain ⟨cur, hcC, hcT⟩ := h.world.cells
  have dW : w.cell? ⟨c.D, 0, none⟩ = some (.slice (some ⟨c.W, 0, none⟩) m.length cap) := hO.cell 0 _ rfl
  have HWC : Hid (∀ (i : Nat) x, m[i]? = some x → w.cell? ⟨c.W, i, none⟩ = some (.int .u64 x)) := Lib.hid fun i x hx => (h.world.at hx).1
  dsimp only at hR hfew
  have hRl := bcell_lt9 hR
  clear h hO hcC hcT
  obtain ⟨ll, hll⟩ : ∃ ll, ll = ts.length := ⟨_, rfl⟩
  have HLL := Lib.hid hll
  rw [← hll] at hR hfew
  clear hll
  have CD1 : Hid (∀ W t, Below w.heap.size w W → Calls Tryz.prog 32 #[pV c.M, .int .i64 t] W fun e w' => e = .returned (.bool (thrAt ts t).1.isEmpty) ∧ Below W.heap.size W w') := Lib.hid fun W t hW => pl_done (HP.out W hW) t
  have CD2 : Hid (∀ W t, Below w.heap.size w W → Calls Tryz.prog 31 #[ptrV c.G, .int .i64 t] W fun e w' => e = .returned (.bool (thrAt ts t).1.isEmpty) ∧ Below W.heap.size W w') := Lib.hid fun W t hW => (pl_rdone (HP.out W hW) t).mono fun e w' h => ⟨h.1, belowF h.2⟩
  have CP1 : Hid (∀ W t, Below w.heap.size w W → Calls Tryz.prog 33 #[pV c.M, .int .i64 t] W fun e w' => e = .returned (.bool (parkedT (thrAt ts t))) ∧ Below W.heap.size W w') := Lib.hid fun W t hW => pl_parked (HP.out W hW) t
  have CP2 : Hid (∀ W t, Below w.heap.size w W → Calls Tryz.prog 34 #[ptrV c.G, .int .i64 t] W fun e w' => e = .returned (.bool (parkedT (thrAt ts t))) ∧ Below W.heap.size W w') := Lib.hid fun W t hW => (pl_rparked (HP.out W hW) t).mono fun e w' h => ⟨h.1, belowF h.2⟩
  have CV : Hid (∀ W t, Below w.heap.size w W → Calls Tryz.prog 17 #[pV c.M, .int .i64 t] W fun e w' => ∃ v, e = .returned v ∧ RowI w' v (thrAt ts t).2 ∧ Below W.heap.size W w') := Lib.hid fun W t hW => pl_values (HP.out W hW) t ((HP.out W hW).values t)
  have CC1 : Hid (∀ W t k, Below w.heap.size w W → Calls Tryz.prog 10 #[pV c.M, .agg #[.int .i64 t, .int .i64 k]] W fun e w' => e = .returned (.bool (canT ps (thrAt ts t) k)) ∧ Below W.heap.size W w') := Lib.hid fun W t k hW => pl_can (HP.out W hW) t k
  have CC2 : Hid (∀ W t k, Below w.heap.size w W → Calls Tryz.prog 35 #[ptrV c.G, ptrV c.D, .agg #[.int .i64 t, .int .i64 k]] W fun e w' => e = .returned (.bool (canT ps (thrAt ts t) k)) ∧ Below W.heap.size W w') := Lib.hid fun W t k hW => (pl_rcan (HP.out W hW) t k).mono fun e w' h => ⟨h.1, belowF h.2⟩
  have CA : Hid (∀ W, Below w.heap.size w W → Calls Tryz.prog 16 #[cellsV c.C] W (AllIs W m)) := Lib.hid fun W hW => pl_all (HP.out W hW)
  have CO : Hid (∀ W, Below w.heap.size w W → Calls Tryz.prog 13 #[pV c.M] W fun e w' => e = .returned (.bool (ts.all fun x => x.1.isEmpty)) ∧ Below W.heap.size W w') := Lib.hid fun W hW => pl_over (HP.out W hW)
  have CE : Hid (∀ W, Below w.heap.size w W → Calls Tryz.prog 15 #[pV c.M] W fun e w' => ∃ u, e = .returned u ∧ RowI w' u ((sift ts.length (fun i => canT ps (thrAt ts i) 0)).map fun x : Nat => (x : Int)) ∧ Below W.heap.size W w') := Lib.hid fun W hW => pl_able (HP.out W hW)
  have CT : Hid (∀ W, Below w.heap.size w W → Calls Tryz.prog 12 #[pV c.M] W fun e w' => e = .returned (.int .i64 ll) ∧ W = w') := Lib.hid fun W hW => by rw [HLL.out]; exact pl_threads (HP.out W hW)
  have hb0 : Below w.heap.size w w := Below.refl _ _
  go_enter Tryz.func7, Tryz.ntmps7
  go_upto_region 4 with fail
  go_loopw [9, 10, 11] (fun vo va vt wr => ∃ (j : Nat) (tt : Int) (ov : Bool), j ≤ ll + 2 ∧ Hid (tt = (j : Int) - 1) ∧ vt = .int .i64 tt ∧ vo = .bool ov ∧ Hid (ov = overK ts j) ∧ Hid (wr.ownsRow w.heap.size 3 1 va (ableK ps ts j).length ((ableK ps ts j).map fun x : Nat => Value.int .i64 (x : Int))) ∧ Below w.heap.size w wr) (fun _ _ vt _ => 9 - (intOf vt + 1).toNat)
  case atStart => exact ⟨0, -1, true, by omega, Lib.hid rfl, rfl, rfl, Lib.hid rfl, Lib.hid (World.ownsRow_nil _ _ _ _), hb0⟩
  case round =>
    clear hb0
    obtain ⟨j, tt, ov, hj, htt, rfl, rfl, hov, hrow, hB⟩ := hrel
    have hsz := hB.size
    have kB : Keep (fun _ => False) w wr := Keep.ofBelow hB
    have c0 := cell_keep hR kB (fun h => h)
    have hbr : Below wr.heap.size wr wr := Below.refl _ _
    have hb1 : -1 ≤ tt := by have := htt.out; omega
    have hb2 : tt ≤ 7 := by have := htt.out; omega
    by_cases hjl : j < ll + 2
    · have hle : tt ≤ (ll : Int) := by have := htt.out; omega
      obtain ⟨eb, heb⟩ : ∃ eb, (thrAt ts tt).1.isEmpty = eb := ⟨_, rfl⟩
      obtain ⟨pb, hpb⟩ : ∃ pb, parkedT (thrAt ts tt) = pb := ⟨_, rfl⟩
      have D1 := Lib.hid fun W hW => CD1.out W tt (hB.trans ((show Below wr.heap.size wr W from hW).mono hsz))
      have D2 := Lib.hid fun W hW => CD2.out W tt (hB.trans ((show Below wr.heap.size wr W from hW).mono hsz))
      have P1 := Lib.hid fun W hW => CP1.out W tt (hB.trans ((show Below wr.heap.size wr W from hW).mono hsz))
      have P2 := Lib.hid fun W hW => CP2.out W tt (hB.trans ((show Below wr.heap.size wr W from hW).mono hsz))
      have V1 := Lib.hid fun W hW => CV.out W tt (hB.trans ((show Below wr.heap.size wr W from hW).mono hsz))
      have HVL := Lib.hid ((HP.out wr hB).values tt)
      dsimp only at HVL
      rw [heb] at D1 D2
      rw [hpb] at P1 P2
      have HEB := Lib.hid heb
      clear heb hpb
      by_cases hin : 0 ≤ tt ∧ tt < (ll : Int)
      · obtain ⟨hin0, hin1⟩ := hin
        obtain ⟨i, hit⟩ := Int.eq_ofNat_of_zero_le hin0
        have hil : i < ts.length := by rw [← HLL.out]; omega
        obtain ⟨g, gc, H, u, r0, r1, r2, rI⟩ := H0.out.rvalues hil
        dsimp only at r0 rI
        obtain ⟨rfl, rfl⟩ : ra = some ⟨g, 0, none⟩ ∧ rgc = gc := by
          rw [← HLL.out] at r0
          rw [hR] at r0
          have := Option.some.inj r0
          simp at this
          exact this
        replace r1 := cell_keep r1 kB (fun h => h)
        replace r2 := cell_keep r2 kB (fun h => h)
        have hix : ∀ W, (Instr.indexAt 39 (.slice (some ⟨g, 0, none⟩) ll rgc) (.int .i64 tt)).run Tryz.prog W = .ok (.pointer (some ⟨g, i, none⟩)) W := by
          have := idx_rthreads ll rgc g 0 i (by omega)
          simp only [Nat.zero_add] at this
          rw [hit]
          exact this
        have hlu : ∃ a' c' l', u = .slice a' l' c' := by obtain ⟨a', c', e, _⟩ := rI; exact ⟨a', c', _, e⟩
        have HV : Hid (∀ W, Below wr.heap.size wr W → RowI W u (thrAt ts tt).2) := Lib.hid fun W hW => by
          rw [hit]
          exact (rI.up hB).up hW
        replace hit := Lib.hid hit
        have HOV : Hid (overK ts (j + 1) = (overK ts j && eb)) := Lib.hid (by
          have h1 := htt.out
          have h2 := hit.out
          obtain rfl : j = i + 1 := by omega
          rw [overK_next hil, ← HEB.out, h2])
        obtain ⟨ua, uc, ul, rfl⟩ := hlu
        clear r0 rI hil
        cases ov
        · go_upto_region 10 with fail
          clear c0 r1 r2 hix
          generalize wr = wo at *
          go_upto_region 12 with (first
            | (go_at_call 32; refine (D1.out _ (by assumption)).mono ?_; rintro e w2 ⟨rfl, hx⟩; have hy2 := chainB (by assumption) hx; clear hx)
            | (go_at_call 31; refine (D2.out _ (by assumption)).mono ?_; rintro e w3 ⟨rfl, hx⟩; have hy3 := chainB (by assumption) hx; clear hx)
            | (go_at_call 33; refine (P1.out _ (by assumption)).mono ?_; rintro e w4 ⟨rfl, hx⟩; have hy4 := chainB (by assumption) hx; clear hx)
            | (go_at_call 34; refine (P2.out _ (by assumption)).mono ?_; rintro e w5 ⟨rfl, hx⟩; have hy5 := chainB (by assumption) hx; clear hx)
            | (go_at_call 17; refine (V1.out _ (by assumption)).mono ?_; rintro e w6 ⟨v6, rfl, r6, hx⟩; have hy6 := chainB (by assumption) hx; clear hx; have HI := Lib.hid (ints_same v6 (.slice ua ul uc) _ w6 r6 (HV.out _ hy6) (by have := HVL.out; omega)))
            | (go_at_call 14; refine HI.out.mono ?_; rintro e w7 ⟨rfl, hx⟩; have hy7 := chainB (by assumption) hx; clear hx))
          go_upto_region 13 with fail
          go_loopw [13] (fun vk w8 => ∃ k : Nat, k ≤ 3 ∧ vk = .int .i64 k ∧ Below wo.heap.size wo w8) (fun vk _ => 3 - (intOf vk).toNat)
          case atStart => exact ⟨0, by omega, rfl, hy7⟩
          case round =>
            obtain ⟨k, hk3, rfl, hyk⟩ := hrel
            by_cases hk : k < 3
            · obtain ⟨cb, hcb⟩ : ∃ cb, canT ps (thrAt ts tt) (k : Int) = cb := ⟨_, rfl⟩
              have C1 := Lib.hid fun W hW => CC1.out W tt (k : Int) (hB.trans ((show Below wo.heap.size wo W from hW).mono hsz))
              have C2 := Lib.hid fun W hW => CC2.out W tt (k : Int) (hB.trans ((show Below wo.heap.size wo W from hW).mono hsz))
              rw [hcb] at C1 C2
              have hkj : (k : Int) < 3 := by omega
              clear hcb
              go_wp2_with (first
                | (go_at_call 10; refine (C1.out _ (by assumption)).mono ?_; rintro e w9 ⟨rfl, hx⟩; have hy9 := chainB (by assumption) hx; clear hx)
                | (go_at_call 35; refine (C2.out _ (by assumption)).mono ?_; rintro e wa ⟨rfl, hx⟩; have hya := chainB (by assumption) hx; clear hx))
              go_roundw
              case rel => exact ⟨k + 1, by omega, by go_num, hya⟩
              case measure => simp [intOf]; omega
            · obtain rfl : k = 3 := by omega
              have hkj : ¬ (3 : Int) < 3 := by omega
              by_cases hcc : canT ps (thrAt ts tt) 0 = true
              · have C3 := Lib.hid fun W hW => CC2.out W tt 0 (hB.trans ((show Below wo.heap.size wo W from hW).mono hsz))
                rw [hcc] at C3
                have hal := Lib.hid (ableK_len (ps := ps) (ts := ts) (j := j))
                have HAY : Hid (ableK ps ts (j + 1) = ableK ps ts j ++ [i]) := Lib.hid (ableK_yesT htt.out hit.out hcc)
                clear hcc
                generalize ableK ps ts j = al at *
                have hall := hal.out
                go_wp2_with (first
                  | (go_at_call 35; refine (C3.out _ (by assumption)).mono ?_; rintro e wb ⟨rfl, hx⟩; have hyb := chainB (by assumption) hx; clear hx; have hrowb := ownsRow_keep hrow.out (Keep.ofBelow hyb); have hsb := hyb.size)
                  | (at_builtin; refine wpList_append_own2 _ rfl _ _ 48 rfl w.heap.size 3 i0 (.int .i64 0) 1 8 Tryz.underlying48 hi0 hi1 hi2 hi3 rfl (by decide) _ _ _ rfl (hrowb.alloc _) ⟨wb.heap.size, 0, none⟩ 1 1 [.int .i64 tt] rfl rfl (cell_one_new _ _ _) (by simp [Value.oneCell']) (by unfold maxLen; omega) (by omega) (by simp; omega) (by omega) ?_; intro g8 c8 w8 h8 hgr8 hg8))
                have hgb := grown_below (show (wb.alloc (.cells #[.int .i64 tt] 3)).grownBy w8 u10.ownBlock from hgr8) hrowb (by omega)
                go_roundw
                case rel => exact ⟨j + 1, tt + 1, false, by omega, Lib.hid (by have := htt.out; omega), by go_num, rfl, Lib.hid (by rw [HOV.out, ← hov.out]; rfl), Lib.hid (by rw [HAY.out, List.length_append, List.map_append, List.length_singleton, List.map_singleton, ← hit.out]; exact h8), (hB.trans (hyb.mono hsz)).trans hgb⟩
                case measure => simp [intOf]; omega
              · have hcc' : canT ps (thrAt ts tt) 0 = false := by simpa using hcc
                have C3 := Lib.hid fun W hW => CC2.out W tt 0 (hB.trans ((show Below wo.heap.size wo W from hW).mono hsz))
                rw [hcc'] at C3
                have HAN : Hid (ableK ps ts (j + 1) = ableK ps ts j) := Lib.hid (ableK_noT htt.out hit.out hcc')
                clear hcc hcc'
                go_wp2_with (go_at_call 35; refine (C3.out _ (by assumption)).mono ?_; rintro e wb ⟨rfl, hx⟩; have hyb := chainB (by assumption) hx; clear hx)
                go_roundw
                case rel => exact ⟨j + 1, tt + 1, false, by omega, Lib.hid (by have := htt.out; omega), by go_num, rfl, Lib.hid (by rw [HOV.out, ← hov.out]; rfl), Lib.hid (by rw [HAN.out]; exact ownsRow_keep hrow.out (Keep.ofBelow hyb)), hB.trans (hyb.mono hsz)⟩
                case measure => simp [intOf]; omega
        · go_upto_region 10 with (go_at_call 31; refine (D2.out _ hbr).mono ?_; rintro e w1 ⟨rfl, hx⟩; have hy1 := chainB hbr hx; clear hx)
          clear c0 r1 r2 hix
          generalize wr = wo at *
          go_upto_region 12 with (first
            | (go_at_call 32; refine (D1.out _ (by assumption)).mono ?_; rintro e w2 ⟨rfl, hx⟩; have hy2 := chainB (by assumption) hx; clear hx)
            | (go_at_call 31; refine (D2.out _ (by assumption)).mono ?_; rintro e w3 ⟨rfl, hx⟩; have hy3 := chainB (by assumption) hx; clear hx)
            | (go_at_call 33; refine (P1.out _ (by assumption)).mono ?_; rintro e w4 ⟨rfl, hx⟩; have hy4 := chainB (by assumption) hx; clear hx)
            | (go_at_call 34; refine (P2.out _ (by assumption)).mono ?_; rintro e w5 ⟨rfl, hx⟩; have hy5 := chainB (by assumption) hx; clear hx)
            | (go_at_call 17; refine (V1.out _ (by assumption)).mono ?_; rintro e w6 ⟨v6, rfl, r6, hx⟩; have hy6 := chainB (by assumption) hx; clear hx; have HI := Lib.hid (ints_same v6 (.slice ua ul uc) _ w6 r6 (HV.out _ hy6) (by have := HVL.out; omega)))
            | (go_at_call 14; refine HI.out.mono ?_; rintro e w7 ⟨rfl, hx⟩; have hy7 := chainB (by assumption) hx; clear hx))
          go_upto_region 13 with fail
          go_loopw [13] (fun vk w8 => ∃ k : Nat, k ≤ 3 ∧ vk = .int .i64 k ∧ Below wo.heap.size wo w8) (fun vk _ => 3 - (intOf vk).toNat)
          case atStart => exact ⟨0, by omega, rfl, hy7⟩
          case round =>
            obtain ⟨k, hk3, rfl, hyk⟩ := hrel
            by_cases hk : k < 3
            · obtain ⟨cb, hcb⟩ : ∃ cb, canT ps (thrAt ts tt) (k : Int) = cb := ⟨_, rfl⟩
              have C1 := Lib.hid fun W hW => CC1.out W tt (k : Int) (hB.trans ((show Below wo.heap.size wo W from hW).mono hsz))
              have C2 := Lib.hid fun W hW => CC2.out W tt (k : Int) (hB.trans ((show Below wo.heap.size wo W from hW).mono hsz))
              rw [hcb] at C1 C2
              have hkj : (k : Int) < 3 := by omega
              clear hcb
              go_wp2_with (first
                | (go_at_call 10; refine (C1.out _ (by assumption)).mono ?_; rintro e w9 ⟨rfl, hx⟩; have hy9 := chainB (by assumption) hx; clear hx)
                | (go_at_call 35; refine (C2.out _ (by assumption)).mono ?_; rintro e wa ⟨rfl, hx⟩; have hya := chainB (by assumption) hx; clear hx))
              go_roundw
              case rel => exact ⟨k + 1, by omega, by go_num, hya⟩
              case measure => simp [intOf]; omega
            · obtain rfl : k = 3 := by omega
              have hkj : ¬ (3 : Int) < 3 := by omega
              by_cases hcc : canT ps (thrAt ts tt) 0 = true
              · have C3 := Lib.hid fun W hW => CC2.out W tt 0 (hB.trans ((show Below wo.heap.size wo W from hW).mono hsz))
                rw [hcc] at C3
                have hal := Lib.hid (ableK_len (ps := ps) (ts := ts) (j := j))
                have HAY : Hid (ableK ps ts (j + 1) = ableK ps ts j ++ [i]) := Lib.hid (ableK_yesT htt.out hit.out hcc)
                clear hcc
                generalize ableK ps ts j = al at *
                have hall := hal.out
                go_wp2_with (first
                  | (go_at_call 35; refine (C3.out _ (by assumption)).mono ?_; rintro e wb ⟨rfl, hx⟩; have hyb := chainB (by assumption) hx; clear hx; have hrowb := ownsRow_keep hrow.out (Keep.ofBelow hyb); have hsb := hyb.size)
                  | (at_builtin; refine wpList_append_own2 _ rfl _ _ 48 rfl w.heap.size 3 i0 (.int .i64 0) 1 8 Tryz.underlying48 hi0 hi1 hi2 hi3 rfl (by decide) _ _ _ rfl (hrowb.alloc _) ⟨wb.heap.size, 0, none⟩ 1 1 [.int .i64 tt] rfl rfl (cell_one_new _ _ _) (by simp [Value.oneCell']) (by unfold maxLen; omega) (by omega) (by simp; omega) (by omega) ?_; intro g8 c8 w8 h8 hgr8 hg8))
                have hgb := grown_below (show (wb.alloc (.cells #[.int .i64 tt] 3)).grownBy w8 u10.ownBlock from hgr8) hrowb (by omega)
                go_roundw
                case rel => exact ⟨j + 1, tt + 1, eb, by omega, Lib.hid (by have := htt.out; omega), by go_num, rfl, Lib.hid (by rw [HOV.out, ← hov.out]; rfl), Lib.hid (by rw [HAY.out, List.length_append, List.map_append, List.length_singleton, List.map_singleton, ← hit.out]; exact h8), (hB.trans (hyb.mono hsz)).trans hgb⟩
                case measure => simp [intOf]; omega
              · have hcc' : canT ps (thrAt ts tt) 0 = false := by simpa using hcc
                have C3 := Lib.hid fun W hW => CC2.out W tt 0 (hB.trans ((show Below wo.heap.size wo W from hW).mono hsz))
                rw [hcc'] at C3
                have HAN : Hid (ableK ps ts (j + 1) = ableK ps ts j) := Lib.hid (ableK_noT htt.out hit.out hcc')
                clear hcc hcc'
                go_wp2_with (go_at_call 35; refine (C3.out _ (by assumption)).mono ?_; rintro e wb ⟨rfl, hx⟩; have hyb := chainB (by assumption) hx; clear hx)
                go_roundw
                case rel => exact ⟨j + 1, tt + 1, eb, by omega, Lib.hid (by have := htt.out; omega), by go_num, rfl, Lib.hid (by rw [HOV.out, ← hov.out]; rfl), Lib.hid (by rw [HAN.out]; exact ownsRow_keep hrow.out (Keep.ofBelow hyb)), hB.trans (hyb.mono hsz)⟩
                case measure => simp [intOf]; omega
      · have HV : Hid (∀ W, Below wr.heap.size wr W → RowI W (.slice none 0 0) (thrAt ts tt).2) := Lib.hid fun W hW => by
          have e : (thrAt ts tt).2 = [] := by rw [thrAt_no (by have := HLL.out; omega)]
          rw [e]
          exact ⟨none, 0, rfl, fun i x hi => by simp at hi⟩
        have hcf : Hid (canT ps (thrAt ts tt) 0 = false) := Lib.hid (by rw [thrAt_no (by have := HLL.out; omega)]; rfl)
        have HOUT := Lib.hid (so_out (ps := ps) HLL.out htt.out hjl hin)
        by_cases hin0 : 0 ≤ tt
        · have hin1 : ¬ tt < (ll : Int) := by omega
          clear hin
          go_upto_region 10 with fail
          clear c0
          generalize wr = wo at *
          go_upto_region 12 with (first
            | (go_at_call 32; refine (D1.out _ (by assumption)).mono ?_; rintro e w2 ⟨rfl, hx⟩; have hy2 := chainB (by assumption) hx; clear hx)
            | (go_at_call 31; refine (D2.out _ (by assumption)).mono ?_; rintro e w3 ⟨rfl, hx⟩; have hy3 := chainB (by assumption) hx; clear hx)
            | (go_at_call 33; refine (P1.out _ (by assumption)).mono ?_; rintro e w4 ⟨rfl, hx⟩; have hy4 := chainB (by assumption) hx; clear hx)
            | (go_at_call 34; refine (P2.out _ (by assumption)).mono ?_; rintro e w5 ⟨rfl, hx⟩; have hy5 := chainB (by assumption) hx; clear hx)
            | (go_at_call 17; refine (V1.out _ (by assumption)).mono ?_; rintro e w6 ⟨v6, rfl, r6, hx⟩; have hy6 := chainB (by assumption) hx; clear hx; have HI := Lib.hid (ints_same v6 (.slice none 0 0) _ w6 r6 (HV.out _ hy6) (by have := HVL.out; omega)))
            | (go_at_call 14; refine HI.out.mono ?_; rintro e w7 ⟨rfl, hx⟩; have hy7 := chainB (by assumption) hx; clear hx))
          go_upto_region 13 with fail
          go_loopw [13] (fun vk w8 => ∃ k : Nat, k ≤ 3 ∧ vk = .int .i64 k ∧ Below wo.heap.size wo w8) (fun vk _ => 3 - (intOf vk).toNat)
          case atStart => exact ⟨0, by omega, rfl, hy7⟩
          case round =>
            obtain ⟨k, hk3, rfl, hyk⟩ := hrel
            by_cases hk : k < 3
            · obtain ⟨cb, hcb⟩ : ∃ cb, canT ps (thrAt ts tt) (k : Int) = cb := ⟨_, rfl⟩
              have C1 := Lib.hid fun W hW => CC1.out W tt (k : Int) (hB.trans ((show Below wo.heap.size wo W from hW).mono hsz))
              have C2 := Lib.hid fun W hW => CC2.out W tt (k : Int) (hB.trans ((show Below wo.heap.size wo W from hW).mono hsz))
              rw [hcb] at C1 C2
              have hkj : (k : Int) < 3 := by omega
              clear hcb
              go_wp2_with (first
                | (go_at_call 10; refine (C1.out _ (by assumption)).mono ?_; rintro e w9 ⟨rfl, hx⟩; have hy9 := chainB (by assumption) hx; clear hx)
                | (go_at_call 35; refine (C2.out _ (by assumption)).mono ?_; rintro e wa ⟨rfl, hx⟩; have hya := chainB (by assumption) hx; clear hx))
              go_roundw
              case rel => exact ⟨k + 1, by omega, by go_num, hya⟩
              case measure => simp [intOf]; omega
            · obtain rfl : k = 3 := by omega
              have hkj : ¬ (3 : Int) < 3 := by omega
              have C3 := Lib.hid fun W hW => CC2.out W tt 0 (hB.trans ((show Below wo.heap.size wo W from hW).mono hsz))
              rw [hcf.out] at C3
              go_wp2_with (go_at_call 35; refine (C3.out _ (by assumption)).mono ?_; rintro e wb ⟨rfl, hx⟩; have hyb := chainB (by assumption) hx; clear hx)
              go_roundw
              case rel => exact ⟨j + 1, tt + 1, ov, by omega, Lib.hid (by have := htt.out; omega), by go_num, rfl, Lib.hid (by rw [HOUT.out.2]; exact hov.out), Lib.hid (by rw [HOUT.out.1]; exact ownsRow_keep hrow.out (Keep.ofBelow hyb)), hB.trans (hyb.mono hsz)⟩
              case measure => simp [intOf]; omega
        · clear hin
          go_upto_region 10 with fail
          clear c0
          generalize wr = wo at *
          go_upto_region 12 with (first
            | (go_at_call 32; refine (D1.out _ (by assumption)).mono ?_; rintro e w2 ⟨rfl, hx⟩; have hy2 := chainB (by assumption) hx; clear hx)
            | (go_at_call 31; refine (D2.out _ (by assumption)).mono ?_; rintro e w3 ⟨rfl, hx⟩; have hy3 := chainB (by assumption) hx; clear hx)
            | (go_at_call 33; refine (P1.out _ (by assumption)).mono ?_; rintro e w4 ⟨rfl, hx⟩; have hy4 := chainB (by assumption) hx; clear hx)
            | (go_at_call 34; refine (P2.out _ (by assumption)).mono ?_; rintro e w5 ⟨rfl, hx⟩; have hy5 := chainB (by assumption) hx; clear hx)
            | (go_at_call 17; refine (V1.out _ (by assumption)).mono ?_; rintro e w6 ⟨v6, rfl, r6, hx⟩; have hy6 := chainB (by assumption) hx; clear hx; have HI := Lib.hid (ints_same v6 (.slice none 0 0) _ w6 r6 (HV.out _ hy6) (by have := HVL.out; omega)))
            | (go_at_call 14; refine HI.out.mono ?_; rintro e w7 ⟨rfl, hx⟩; have hy7 := chainB (by assumption) hx; clear hx))
          go_upto_region 13 with fail
          go_loopw [13] (fun vk w8 => ∃ k : Nat, k ≤ 3 ∧ vk = .int .i64 k ∧ Below wo.heap.size wo w8) (fun vk _ => 3 - (intOf vk).toNat)
          case atStart => exact ⟨0, by omega, rfl, hy7⟩
          case round =>
            obtain ⟨k, hk3, rfl, hyk⟩ := hrel
            by_cases hk : k < 3
            · obtain ⟨cb, hcb⟩ : ∃ cb, canT ps (thrAt ts tt) (k : Int) = cb := ⟨_, rfl⟩
              have C1 := Lib.hid fun W hW => CC1.out W tt (k : Int) (hB.trans ((show Below wo.heap.size wo W from hW).mono hsz))
              have C2 := Lib.hid fun W hW => CC2.out W tt (k : Int) (hB.trans ((show Below wo.heap.size wo W from hW).mono hsz))
              rw [hcb] at C1 C2
              have hkj : (k : Int) < 3 := by omega
              clear hcb
              go_wp2_with (first
                | (go_at_call 10; refine (C1.out _ (by assumption)).mono ?_; rintro e w9 ⟨rfl, hx⟩; have hy9 := chainB (by assumption) hx; clear hx)
                | (go_at_call 35; refine (C2.out _ (by assumption)).mono ?_; rintro e wa ⟨rfl, hx⟩; have hya := chainB (by assumption) hx; clear hx))
              go_roundw
              case rel => exact ⟨k + 1, by omega, by go_num, hya⟩
              case measure => simp [intOf]; omega
            · obtain rfl : k = 3 := by omega
              have hkj : ¬ (3 : Int) < 3 := by omega
              have C3 := Lib.hid fun W hW => CC2.out W tt 0 (hB.trans ((show Below wo.heap.size wo W from hW).mono hsz))
              rw [hcf.out] at C3
              go_wp2_with (go_at_call 35; refine (C3.out _ (by assumption)).mono ?_; rintro e wb ⟨rfl, hx⟩; have hyb := chainB (by assumption) hx; clear hx)
              go_roundw
              case rel => exact ⟨j + 1, tt + 1, ov, by omega, Lib.hid (by have := htt.out; omega), by go_num, rfl, Lib.hid (by rw [HOUT.out.2]; exact hov.out), Lib.hid (by rw [HOUT.out.1]; exact ownsRow_keep hrow.out (Keep.ofBelow hyb)), hB.trans (hyb.mono hsz)⟩
              case measure => simp [intOf]; omega
    · obtain rfl : j = ll + 2 := by omega
      have hgt : ¬ tt ≤ (ll : Int) := by have := htt.out; omega
      have hovE : ov = ts.all (fun x => x.1.isEmpty) := hov.out.trans (overK_end (by have := HLL.out; omega))
      have HAE : ableK ps ts (ll + 2) = sift ts.length (fun i => canT ps (thrAt ts i) 0) := ableK_end (by rw [HLL.out])
      rw [HAE] at hrow
      have hsl : (sift ts.length (fun i => canT ps (thrAt ts i) 0)).length ≤ 6 := by
        have : (sift ts.length (fun i => canT ps (thrAt ts i) 0)).length ≤ ts.length := Nat.le_trans (List.length_filter_le _ _) (by simp)
        have := HLL.out
        omega
      generalize sift ts.length (fun i => canT ps (thrAt ts i) 0) = al at *
      generalize ts.all (fun x => x.1.isEmpty) = ob at *
      subst hovE
      have HSL := Lib.hid hsl
      clear HAE hsl hov htt
      go_upto_region 21 with (go_at_call 16; refine (CA.out wr hB).mono ?_; rintro e w2 ⟨u2, rfl, hx, rA⟩)
      rw [hm3] at rA
      have hB2 := chainB hB hx
      have hrow2 := Lib.hid (ownsRow_keep hrow.out (Keep.ofBelow hx))
      obtain ⟨g2, cp2, rfl⟩ := row_slice rA (by omega)
      have RA := Lib.hid rA
      rw [hm3] at dW
      clear rA hx hrow c0 hbr kB
      have hB2s := hB2.size
      go_loopw [15] (fun vi w3 => ∃ i : Nat, i ≤ 3 ∧ vi = .int .i64 i ∧ Hid (Keep (fun _ => False) w2 w3)) (fun vi _ => 3 - (intOf vi).toNat)
      case atStart => exact ⟨0, by omega, rfl, Lib.hid (Keep.refl _ _)⟩
      case round =>
        obtain ⟨i, hi3', rfl, hK⟩ := hrel
        by_cases hi : i < 3
        · obtain ⟨x, hx⟩ : ∃ x, m[i]? = some x := ⟨_, List.getElem?_eq_getElem (by rw [hm3]; exact hi)⟩
          have e0 := (ownsRow_keep RA.out hK.out).cells (g := g2) rfl i (.int .u64 x) (by rw [List.getElem?_map, hx]; rfl)
          rw [addr_add, Nat.zero_add] at e0
          have kk : Keep (fun _ => False) w wr := (Keep.ofBelow hB2).trans hK.out
          have e1 := cell_keep (HWC.out i x hx) kk (fun h => h)
          have e2 := cell_keep dW kk (fun h => h)
          have x1 := idx_u64s8 3 cp2 g2 0 i hi
          have x2 := idx_u64s8 3 cap c.W 0 i hi
          simp only [Nat.zero_add] at x1 x2
          have hj1 : (i : Int) < 3 := by omega
          clear hx kk
          go_upto_region 23 with fail
          go_quiet (fail)
          go_wp2
          go_roundw
          case rel => exact ⟨i + 1, by omega, by go_num, Lib.hid (hK.out.drewN _)⟩
          case measure => simp [intOf]; omega
        · obtain rfl : i = 3 := by omega
          have hB3 := chainB hB2 (belowF hK.out)
          have hrow3 := Lib.hid (ownsRow_keep hrow2.out hK.out)
          have h33 : ¬ (3 : Int) < 3 := by omega
          have hs3 := hB3.size
          have SK : Hid (∀ W, Below wr.heap.size wr W → W.cell? ⟨c.G, 0, none⟩ = some (.slice ra ll rgc)) := Lib.hid fun W hW => cell_keep hR (Keep.ofBelow (Q := fun _ => False) (hB3.trans (hW.mono hs3))) (fun h => h)
          have bd : Below wr.heap.size wr wr.drew := ⟨rfl, rfl, rfl, Nat.le_refl _, fun _ _ => rfl⟩
          have CO1 := Lib.hid (CO.out wr.drew (hB3.trans (bd.mono hs3)))
          have CT1 : Hid (∀ W, Below wr.heap.size wr W → _) := Lib.hid fun W hW => CT.out W (hB3.trans (hW.mono hs3))
          have CE1 : Hid (∀ W, Below wr.heap.size wr W → _) := Lib.hid fun W hW => CE.out W (hB3.trans (hW.mono hs3))
          have HRI : Hid (∀ W, Below wr.heap.size wr W → RowI W u10 (al.map fun x : Nat => (x : Int))) := Lib.hid fun W hW => RowI.own (n0 := w.heap.size) (by
            have := ownsRow_keep hrow3.out (Keep.ofBelow hW)
            simpa [List.map_map, Function.comp_def] using this)
          clear hK hrow2 RA
          go_upto_region 25 with fail
          go_region_held3 (fun W => W.cell? ⟨c.G, 0, none⟩ = some (.slice ra ll rgc)) (first | exact SK.out _ b4 | exact SK.out _ b3 | exact SK.out _ b2 | exact SK.out _ bd) (first
            | (go_at_call 13; refine CO1.out.mono ?_; rintro e w4 ⟨rfl, hx⟩; have b2 : Below wr.heap.size wr w4 := bd.trans hx; clear hx)
            | (go_at_call 12; refine (CT1.out w4 b2).mono ?_; rintro e w5 ⟨rfl, rfl⟩)
            | (go_at_call 15; refine (CE1.out w4 b2).mono ?_; rintro e w6 ⟨u6, rfl, r6, hx⟩; have b3 : Below wr.heap.size wr w6 := chainB b2 hx; clear hx; have HI := Lib.hid (ints_same u6 u10 _ w6 r6 (HRI.out w6 b3) (by have := HSL.out; simp; omega)))
            | (go_at_call 14; refine HI.out.mono ?_; rintro e w7 ⟨rfl, hx⟩; have b4 : Below wr.heap.size wr w7 := chainB b3 hx; clear hx))
          go_wp2
          go_ret
          exact ⟨rfl, hB3.trans (b4.mono hs3)⟩
end Go.Proofs.YtpopcallphbklaaGreat
