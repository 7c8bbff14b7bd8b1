/- Layer 12's laws: SpecOwns. -/
import Derived.Test.YtcgljmeppmdihaaSoB
namespace Go.Proofs.Ytcgljmeppmdihaa
open Go.ChangeShapes Go.WideShapes Go.ChangeAt Go.RowKit
set_option linter.unusedVariables false
set_option maxRecDepth 100000
set_option linter.unusedSimpArgs false
theorem own_slice {w : World} {N : Nat} {t : TypeId} {k n : Nat} {v : Value} {cs : List Value} (h : w.ownsRow N t k v n cs) : ∃ a c, v = .slice a n c := by
  rcases h.2 with ⟨hv, h0⟩ | ⟨g', c', cur, hv, _⟩
  · exact ⟨none, 0, by rw [h0]; exact hv⟩
  · exact ⟨_, _, hv⟩
/-- two tables, new -/
structure SoN (w W : World) (A : Nat → Prop) (p : Pl) (m n bx : Nat) (cs : Array Value) (bd bs : Nat) : Prop where
  ks : KS w W A p (newS m n)
  dr : Blk W bd 3 (tabA (m * n) fun _ => 0)
  sr : Blk W bs 3 (tabA (m * n) fun _ => 0)
  ne : bd ≠ bs
  nA : ∀ b, A b → b ≠ bd ∧ b ≠ bs
  lo : w.heap.size ≤ bd ∧ w.heap.size ≤ bs
  bx : Blk W bx 24 cs
set_option maxHeartbeats 16000000 in
theorem owns12_any (a b : Nat) (ha : a ≤ 255) (hb : b ≤ 255) (sl : Option Addr) (k c : Nat) (hk : k ≤ c) (hc : c ≤ 9223372036854775807) (w : World) (hB : BytesIn w sl k) :
    Calls Try.prog 3 #[.agg #[.int .u8 (a : Int), .int .u8 (b : Int), .slice sl k c]] w fun e w' => e = .returned (.bool true) ∧ Below w.heap.size w w' := by
  have HWorks := Lib.hid works12_any
  have HSz := Lib.hid (size_any a b ha hb (.slice sl k c))
  have HWalk := Lib.hid fun W (hW : Below w.heap.size w W) => walk_any a b ha hb sl k c hk hc W (hB.below hW)
  obtain ⟨m, hm⟩ : ∃ m, m = 1 + a % 4 := ⟨_, rfl⟩
  obtain ⟨n, hn⟩ : ∃ n, n = 1 + b % 3 := ⟨_, rfl⟩
  have HMN := Lib.hid (show (1 ≤ m ∧ m ≤ 4) ∧ 1 ≤ n ∧ n ≤ 3 from by omega)
  rw [← hm, ← hn] at HSz HWalk
  have HNew := Lib.hid fun W => new_some m n W (by omega) (by omega)
  have HWF := Lib.hid (newS_wf m n (by omega) (by omega))
  have hesz : Hid ((Try.prog.info? 37).map (·.size) = some 8) := Lib.hid evt_info
  have hd3 : Hid ((Try.prog.info? 24).map (·.size) = some 3) := Lib.hid (by kernel_rfl)
  have HB0 := Lib.hid ((Below.refl w.heap.size w).alloc (Nat.le_refl _) (.cells #[.int .u8 (a : Int), .int .u8 (b : Int), .slice sl k c] 24))
  have HQ0 := Lib.hid (Blk.new w 24 #[.int .u8 (a : Int), .int .u8 (b : Int), .slice sl k c])
  obtain ⟨mn, hmn⟩ : ∃ mn, mn = m * n := ⟨_, rfl⟩
  have hmn12 : mn ≤ 12 := by
    have h1 : m * n ≤ 4 * 3 := Nat.mul_le_mul (by omega) (by omega)
    omega
  have emn : IntKind.i64.wrap ((m : Int) * (n : Int)) = (mn : Int) := by
    rw [← Int.natCast_mul, ← hmn]
    exact IntWalk.i64_in _ ⟨by omega, by omega⟩
  have mk := make_tab mn (by omega)
  have HMn := Lib.hid hmn
  clear hm hn hB hk hc ha hb hmn
  go_enter Try.func3, Try.ntmps3
  go_upto_region 1 with fail
  generalize hW : w.alloc _ = W at HB0 HQ0 ⊢
  obtain ⟨bx, hbx⟩ : ∃ bx, bx = w.heap.size := ⟨_, rfl⟩
  rw [← hbx] at HQ0 ⊢
  clear hW hbx
  go_upto_region 3 with (go_at_call 5; (with_reducible refine (HWorks.out _).mono ?_); rintro e1 w1 ⟨rfl, hb1⟩)
  have HQ1 := Lib.hid (HQ0.out.below hb1 HQ0.out.lt)
  have HB1 := Lib.hid (HB0.out.trans (hb1.mono HB0.out.size))
  clear hb1 HB0 HQ0 HWorks
  go_upto_region 4 with (first
    | (refine wpList_load_row rfl 24 _ rfl bx rfl 24 #[.int .u8 (a : Int), .int .u8 (b : Int), .slice sl k c] (0, 0) _ HQ1.out Try.underlying24 rfl hd3.out ?_)
    | (go_at_call 6; (with_reducible refine (HSz.out w1).mono ?_); rintro e3 w3 ⟨rfl, hb3⟩))
  have HQ3 := Lib.hid (HQ1.out.below hb3 HQ1.out.lt)
  have HB3 := Lib.hid (HB1.out.trans (hb3.mono HB1.out.size))
  clear hb3 HB1 HQ1 HSz
  go_upto_region 5 with (go_at_call 7; (with_reducible refine (HNew.out w3).mono ?_); rintro e4 w4 ⟨p, A, rfl, hS, hA, hb4⟩)
  have HQ4 := Lib.hid (HQ3.out.below hb4 HQ3.out.lt)
  have HK4 := Lib.hid (show KS w w4 A p (newS m n) from ⟨hS, HWF.out, fun b h => Nat.le_trans HB3.out.size (hA b h), HB3.out.trans (hb4.mono HB3.out.size)⟩)
  clear hS hA hb4 HB3 HQ3 HNew
  go_cut [6, 7] from 29 to 36 (fun v6 v7 wx => ∃ bd bs, v6 = .slice (some ⟨bd, 0, none⟩) mn mn ∧ v7 = .slice (some ⟨bs, 0, none⟩) mn mn ∧ SoN w wx A p m n bx #[.int .u8 (a : Int), .int .u8 (b : Int), .slice sl k c] bd bs)
  case first => as_aux_lemma =>
    refine wp_region_held_drew (S := (fun _ => True)) (by kernel_rfl) (trivial) (fun hHeld => ?_)
    generalize hq : w4.drew = W5 at *
    have HB5 : Below w4.heap.size w4 W5 := by rw [← hq]; exact rdrew w4
    clear hq
    refine wpAnyH_take (i := 0) (oi := { dst := some 29, op := Op.move (Operand.tmp 3), type := 3, pos := "outright.go:66", after := #[], guard := none }) (v := ?_) rfl (by kernel_rfl) (by kernel_rfl) (by kernel_rfl) (fun _ _ _ h => h) (Or.inl ⟨by rfl, ?_⟩) (by assumption) ?_
    rotate_left
    · intro w hSw; (try dsimp only at hSw); go_simp; try with_reducible rfl
    (try simp only [Act.put, List.setIfInBounds_toArray, List.set_cons_zero, List.set_cons_succ])
    refine wpAnyH_take (i := 1) (oi := { dst := some 30, op := Op.move (Operand.tmp 4), type := 3, pos := "outright.go:66", after := #[], guard := none }) (v := ?_) rfl (by kernel_rfl) (by kernel_rfl) (by kernel_rfl) (fun _ _ _ h => h) (Or.inl ⟨by rfl, ?_⟩) (by assumption) ?_
    rotate_left
    · intro w hSw; (try dsimp only at hSw); go_simp; try with_reducible rfl
    (try simp only [Act.put, List.setIfInBounds_toArray, List.set_cons_zero, List.set_cons_succ])
    refine wpAnyH_take (i := 2) (oi := { dst := some 31, op := Op.binOp BinOp.mul 3 (Operand.tmp 29) (Operand.tmp 30) 3, type := 3, pos := "outright.go:66", after := #[{ on := 0, ground := Ground.data }, { on := 1, ground := Ground.data }], guard := none }) (v := ?_) rfl (by kernel_rfl) (by kernel_rfl) (by kernel_rfl) (fun _ _ _ h => h) (Or.inl ⟨by rfl, ?_⟩) (by assumption) ?_
    rotate_left
    · intro w hSw; (try dsimp only at hSw); go_simp; try with_reducible rfl
    (try simp only [Act.put, List.setIfInBounds_toArray, List.set_cons_zero, List.set_cons_succ])
    refine wpAnyH_take (i := 4) (oi := { dst := some 33, op := Op.move (Operand.tmp 3), type := 3, pos := "outright.go:66", after := #[], guard := none }) (v := ?_) rfl (by kernel_rfl) (by kernel_rfl) (by kernel_rfl) (fun _ _ _ h => h) (Or.inl ⟨by rfl, ?_⟩) (by assumption) ?_
    rotate_left
    · intro w hSw; (try dsimp only at hSw); go_simp; try with_reducible rfl
    (try simp only [Act.put, List.setIfInBounds_toArray, List.set_cons_zero, List.set_cons_succ])
    refine wpAnyH_take (i := 5) (oi := { dst := some 34, op := Op.move (Operand.tmp 4), type := 3, pos := "outright.go:66", after := #[], guard := none }) (v := ?_) rfl (by kernel_rfl) (by kernel_rfl) (by kernel_rfl) (fun _ _ _ h => h) (Or.inl ⟨by rfl, ?_⟩) (by assumption) ?_
    rotate_left
    · intro w hSw; (try dsimp only at hSw); go_simp; try with_reducible rfl
    (try simp only [Act.put, List.setIfInBounds_toArray, List.set_cons_zero, List.set_cons_succ])
    refine wpAnyH_take (i := 6) (oi := { dst := some 35, op := Op.binOp BinOp.mul 3 (Operand.tmp 33) (Operand.tmp 34) 3, type := 3, pos := "outright.go:66", after := #[{ on := 4, ground := Ground.data }, { on := 5, ground := Ground.data }], guard := none }) (v := ?_) rfl (by kernel_rfl) (by kernel_rfl) (by kernel_rfl) (fun _ _ _ h => h) (Or.inl ⟨by rfl, ?_⟩) (by assumption) ?_
    rotate_left
    · intro w hSw; (try dsimp only at hSw); go_simp; try with_reducible rfl
    (try simp only [Act.put, List.setIfInBounds_toArray, List.set_cons_zero, List.set_cons_succ])
    refine wpAnyH_ready (rs := [3, 7]) (by kernel_rfl) (by simp) ?_
    refine AllReadyH.cons rfl (fun K hK => ?_) (AllReadyH.cons rfl (fun K hK => ?_) (AllReadyH.nil))
    · go_simp
      refine hK.out _ _ trivial (fun hHeld => ?_)
      have q3 := Blk.new W5 3 (tabA mn fun _ => 0)
      have b3 := HB5.alloc (HB5.size) (.cells (tabA mn fun _ => 0) 3)
      have l3 : w4.heap.size ≤ W5.heap.size := HB5.size
      have c3 := q3.lt
      generalize W5.heap.size = g3 at *
      generalize W5.alloc _ = X3 at *
      clear hK K
      (try dsimp only [Act.put]); (try simp only [Act.put, List.setIfInBounds_toArray, List.set_cons_zero, List.set_cons_succ])
      refine wpAnyH_ready (rs := [7, 8]) (by kernel_rfl) (by simp) ?_
      refine AllReadyH.cons rfl (fun K hK => ?_) (AllReadyH.cons rfl (fun K hK => ?_) (AllReadyH.nil))
      · go_simp
        refine hK.out _ _ trivial (fun hHeld => ?_)
        have q7 := Blk.new X3 3 (tabA mn fun _ => 0)
        have b7 := b3.alloc (b3.size) (.cells (tabA mn fun _ => 0) 3)
        replace q3 := q3.alloc (.cells (tabA mn fun _ => 0) 3)
        have l7 : w4.heap.size ≤ X3.heap.size := b3.size
        have c7 := q7.lt
        generalize X3.heap.size = g7 at *
        generalize X3.alloc _ = X7 at *
        clear hK K
        (try dsimp only [Act.put]); (try simp only [Act.put, List.setIfInBounds_toArray, List.set_cons_zero, List.set_cons_succ])
        refine wpAnyH_ready (rs := [8]) (by kernel_rfl) (by simp) ?_
        refine AllReadyH.cons rfl (fun K hK => ?_) (AllReadyH.nil)
        go_simp
        refine hK.out _ _ trivial (fun hHeld => ?_)
        clear hK K
        (try dsimp only [Act.put]); (try simp only [Act.put, List.setIfInBounds_toArray, List.set_cons_zero, List.set_cons_succ])
        refine wpAnyH_ready (rs := [9]) (by kernel_rfl) (by simp) ?_
        refine AllReadyH.cons rfl (fun K hK => ?_) (AllReadyH.nil)
        go_simp
        refine hK.out _ _ trivial (fun hHeld => ?_)
        clear hK K
        (try dsimp only [Act.put]); (try simp only [Act.put, List.setIfInBounds_toArray, List.set_cons_zero, List.set_cons_succ])
        refine wpAnyH_done (by kernel_rfl) ?_ _
        clear hHeld
        rw [HMn.out] at q3 q7
        go_wp2_with fail
        go_meet
        refine ⟨_, _, rfl, rfl, ?_⟩
        have hA := fun b hb => HK4.out.sp.lt (b := b) hb
        have hsz := HK4.out.bl.size
        exact ⟨HK4.out.below b7, q3, q7, by omega, fun b hb => by have := hA b hb; omega, by omega, HQ4.out.below b7 HQ4.out.lt⟩
      · go_simp
        refine hK.out _ _ trivial (fun hHeld => ?_)
        clear hK K
        (try dsimp only [Act.put]); (try simp only [Act.put, List.setIfInBounds_toArray, List.set_cons_zero, List.set_cons_succ])
        refine wpAnyH_ready (rs := [7]) (by kernel_rfl) (by simp) ?_
        refine AllReadyH.cons rfl (fun K hK => ?_) (AllReadyH.nil)
        go_simp
        refine hK.out _ _ trivial (fun hHeld => ?_)
        have q7 := Blk.new X3 3 (tabA mn fun _ => 0)
        have b7 := b3.alloc (b3.size) (.cells (tabA mn fun _ => 0) 3)
        replace q3 := q3.alloc (.cells (tabA mn fun _ => 0) 3)
        have l7 : w4.heap.size ≤ X3.heap.size := b3.size
        have c7 := q7.lt
        generalize X3.heap.size = g7 at *
        generalize X3.alloc _ = X7 at *
        clear hK K
        (try dsimp only [Act.put]); (try simp only [Act.put, List.setIfInBounds_toArray, List.set_cons_zero, List.set_cons_succ])
        refine wpAnyH_ready (rs := [9]) (by kernel_rfl) (by simp) ?_
        refine AllReadyH.cons rfl (fun K hK => ?_) (AllReadyH.nil)
        go_simp
        refine hK.out _ _ trivial (fun hHeld => ?_)
        clear hK K
        (try dsimp only [Act.put]); (try simp only [Act.put, List.setIfInBounds_toArray, List.set_cons_zero, List.set_cons_succ])
        refine wpAnyH_done (by kernel_rfl) ?_ _
        clear hHeld
        rw [HMn.out] at q3 q7
        go_wp2_with fail
        go_meet
        refine ⟨_, _, rfl, rfl, ?_⟩
        have hA := fun b hb => HK4.out.sp.lt (b := b) hb
        have hsz := HK4.out.bl.size
        exact ⟨HK4.out.below b7, q3, q7, by omega, fun b hb => by have := hA b hb; omega, by omega, HQ4.out.below b7 HQ4.out.lt⟩
    · go_simp
      refine hK.out _ _ trivial (fun hHeld => ?_)
      have q7 := Blk.new W5 3 (tabA mn fun _ => 0)
      have b7 := HB5.alloc (HB5.size) (.cells (tabA mn fun _ => 0) 3)
      have l7 : w4.heap.size ≤ W5.heap.size := HB5.size
      have c7 := q7.lt
      generalize W5.heap.size = g7 at *
      generalize W5.alloc _ = X7 at *
      clear hK K
      (try dsimp only [Act.put]); (try simp only [Act.put, List.setIfInBounds_toArray, List.set_cons_zero, List.set_cons_succ])
      refine wpAnyH_ready (rs := [3]) (by kernel_rfl) (by simp) ?_
      refine AllReadyH.cons rfl (fun K hK => ?_) (AllReadyH.nil)
      go_simp
      refine hK.out _ _ trivial (fun hHeld => ?_)
      have q3 := Blk.new X7 3 (tabA mn fun _ => 0)
      have b3 := b7.alloc (b7.size) (.cells (tabA mn fun _ => 0) 3)
      replace q7 := q7.alloc (.cells (tabA mn fun _ => 0) 3)
      have l3 : w4.heap.size ≤ X7.heap.size := b7.size
      have c3 := q3.lt
      generalize X7.heap.size = g3 at *
      generalize X7.alloc _ = X3 at *
      clear hK K
      (try dsimp only [Act.put]); (try simp only [Act.put, List.setIfInBounds_toArray, List.set_cons_zero, List.set_cons_succ])
      refine wpAnyH_ready (rs := [8]) (by kernel_rfl) (by simp) ?_
      refine AllReadyH.cons rfl (fun K hK => ?_) (AllReadyH.nil)
      go_simp
      refine hK.out _ _ trivial (fun hHeld => ?_)
      clear hK K
      (try dsimp only [Act.put]); (try simp only [Act.put, List.setIfInBounds_toArray, List.set_cons_zero, List.set_cons_succ])
      refine wpAnyH_ready (rs := [9]) (by kernel_rfl) (by simp) ?_
      refine AllReadyH.cons rfl (fun K hK => ?_) (AllReadyH.nil)
      go_simp
      refine hK.out _ _ trivial (fun hHeld => ?_)
      clear hK K
      (try dsimp only [Act.put]); (try simp only [Act.put, List.setIfInBounds_toArray, List.set_cons_zero, List.set_cons_succ])
      refine wpAnyH_done (by kernel_rfl) ?_ _
      clear hHeld
      rw [HMn.out] at q3 q7
      go_wp2_with fail
      go_meet
      refine ⟨_, _, rfl, rfl, ?_⟩
      have hA := fun b hb => HK4.out.sp.lt (b := b) hb
      have hsz := HK4.out.bl.size
      exact ⟨HK4.out.below b3, q3, q7, by omega, fun b hb => by have := hA b hb; omega, by omega, HQ4.out.below b3 HQ4.out.lt⟩
  case rest =>
    obtain ⟨bd, bs, rfl, rfl, hN⟩ := hcut
    have HN := Lib.hid hN
    clear hN HK4 HQ4 mk emn hmn12
    go_upto_region 7 with (first
      | (refine wpList_load_row rfl 24 _ rfl bx rfl 24 #[.int .u8 (a : Int), .int .u8 (b : Int), .slice sl k c] (0, 0) _ HN.out.bx Try.underlying24 rfl hd3.out ?_)
      | (go_at_call 8; (with_reducible refine (HWalk.out _ HN.out.ks.bl).mono ?_); rintro e6 w6 ⟨vl, l, r, rfl, hrow, hl, hrun, hb6⟩))
    obtain ⟨sE, hto, _⟩ := run_takes (by have := HMN.out; omega) HMN.out.2.1 (by have := HMN.out; omega) hrun (by omega)
    have H6 := Lib.hid (show SoS w w6 A p (newS m n) (fun _ _ => 0) (fun _ _ => 0) m n bd bs vl l from
      ⟨HN.out.ks.below hb6, HN.out.dr.below hb6 HN.out.dr.lt, HN.out.sr.below hb6 HN.out.sr.lt, wrow_lower hrow HN.out.ks.bl.size, HN.out.ne,
       fun b hb => ⟨(HN.out.nA b hb).1, (HN.out.nA b hb).2, fun e => by have := row_lo hrow b e; have := HN.out.ks.sp.lt _ hb; omega⟩,
       HN.out.lo.1, HN.out.lo.2, fun b e => by have := row_lo hrow b e; have := HN.out.dr.lt; have := HN.out.sr.lt; omega⟩)
    have HTo := Lib.hid hto
    clear HN hrow hb6 hrun hto HWalk HWF
    obtain ⟨va, vc, rfl, hform⟩ := H6.out.form
    have HForm := Lib.hid hform
    obtain ⟨ll, hll⟩ : ∃ ll, ll = l.length := ⟨_, rfl⟩
    have HLL := Lib.hid hll
    rw [← hll] at hl H6 ⊢
    clear hll hform
    go_upto_region 8 with fail
    go_loopw [9] (fun v9 wr => ∃ (i : Nat) (A : Nat → Prop) (s : SS) (D V : Tab), i ≤ ll ∧ v9 = .int .i64 (i : Int) ∧ SoS w wr A p s D V m n bd bs (.slice va ll vc) l ∧ OI i s D V ∧ TakesTo m n s (l.drop i) sE) (fun v9 _ => ll - (intOf v9).toNat)
    case atStart => exact ⟨0, A, _, _, _, by omega, rfl, H6.out, OI.new m n, HTo.out⟩
    case round => as_aux_lemma =>
      obtain ⟨i, A, s, D, V, hi, rfl, hS, hOI, hTk⟩ := hrel
      have HS := Lib.hid hS
      have HOI := Lib.hid hOI
      have HTk := Lib.hid hTk
      clear hS hOI hTk H6 HTo
      by_cases hlt : i < ll
      · have hltI : (i : Int) < (ll : Int) := by omega
        obtain ⟨ev, hev⟩ : ∃ ev, l[i]? = some ev := ⟨_, List.getElem?_eq_getElem (by have := HLL.out; omega)⟩
        obtain ⟨g, rfl⟩ := HForm.out i ev hev
        obtain ⟨s2, hts, htk2⟩ := HTk.out.drop hev
        obtain ⟨hTm, hOn, hwf⟩ := HTk.out.here
        obtain ⟨t, ht, htm, hobj⟩ := take_in hwf.toWF0 hts
        have HTk2 := Lib.hid htk2
        have HOI2 := Lib.hid (HOI.out.take hwf.toWF0 (by have := HMN.out; omega) (by omega) hts)
        have HLen := Lib.hid (And.intro hTm hOn)
        have HObj := Lib.hid hobj
        have HTs := Lib.hid hts
        have HTake := Lib.hid fun W (hW : Below wr.heap.size wr W) => take_any (HS.out.below hW).ks.sp hwf ev
        have HEC := Lib.hid (HS.out.evAt hev)
        have ix : ∀ W, (Instr.indexAt 31 (.slice (some ⟨g, 0, none⟩) ll vc) (.int .i64 (i : Int))).run Try.prog W = .ok (.pointer (some ⟨g, i * 8, none⟩)) W := by
          have := idx_rall g 0 ll vc i hlt
          simpa using this
        have hone : Hid ((evC ev).all (·.oneCell') = true) := Lib.hid (ev_one ev)
        rcases ev with ⟨f0, f1, f2, f3, f4, f5, f6, f7⟩
        dsimp only at ht
        subst ht
        clear hwf hTm hOn hobj hts htk2 HTk hev
        go_upto_region 11 with (first
          | (refine wpList_load_at rfl 37 _ rfl ⟨g, i * 8, none⟩ rfl (evL ⟨f0, (t : Int), f2, f3, f4, f5, f6, f7⟩) _ HEC.out Try.underlying37 rfl hesz.out ?_)
          | (refine wpList_store_row rfl 37 _ _ rfl wr.heap.size (evC ⟨f0, (t : Int), f2, f3, f4, f5, f6, f7⟩) rfl rfl 37 #[.int .i64 0, .int .i64 0, .int .i64 0, .int .i64 0, .int .i64 0, .int .i64 0, .int .i64 0, .int .i64 0] (Blk.new wr _ _) hesz.out rfl hone.out ?_; (try simp only [Act.put, List.setIfInBounds_toArray, List.set_cons_zero, List.set_cons_succ])))
        rw [World.setRow_alloc_new]
        have HQ := Lib.hid (Blk.new wr 37 (evC ⟨f0, (t : Int), f2, f3, f4, f5, f6, f7⟩))
        have HBa := Lib.hid ((Below.refl wr.heap.size wr).alloc (Nat.le_refl _) (.cells (evC ⟨f0, (t : Int), f2, f3, f4, f5, f6, f7⟩) 37))
        generalize hW10 : wr.alloc _ = W10 at HQ HBa ⊢
        obtain ⟨be, hbe⟩ : ∃ be, be = wr.heap.size := ⟨_, rfl⟩
        have hnA : Hid (¬ A be) := Lib.hid (by rw [hbe]; exact fun hA => Nat.lt_irrefl _ (HS.out.ks.sp.lt _ hA))
        rw [← hbe] at HQ ⊢
        clear hW10 hbe ix
        have HS10 := Lib.hid (HS.out.below HBa.out)
        go_upto_region 13 with (first
          | (refine wpList_load_row rfl 37 _ rfl be rfl 37 (evC ⟨f0, (t : Int), f2, f3, f4, f5, f6, f7⟩) (0, 0) _ HQ.out Try.underlying37 rfl hesz.out ?_)
          | (go_at_call 9; (with_reducible refine (HTake.out _ HBa.out).mono ?_); rintro e11 w11 hh; obtain ⟨rfl, hk11, A1, hS1⟩ := HS10.out.hand hh HTs.out))
        have HS1 := Lib.hid hS1
        have HQ1 := Lib.hid (HQ.out.keep hk11 hnA.out)
        clear hS1 hk11 hh HS10 HTake HS HQ HEC HBa hnA HTs hone
        have d0 := HQ1.out.cell 0 _ rfl
        have d1 := HQ1.out.cell 1 _ rfl
        have d3 := HQ1.out.cell 3 _ rfl
        have d4 := HQ1.out.cell 4 _ rfl
        go_upto_if 55 with fail
        go_cut [11] from 39 to 234 (fun v11 wx => SoS w wx A1 p s2 (nextD D V ⟨f0, (t : Int), f2, f3, f4, f5, f6, f7⟩) (nextV D V ⟨f0, (t : Int), f2, f3, f4, f5, f6, f7⟩) m n bd bs (.slice (some ⟨g, 0, none⟩) ll vc) l)
        case first => as_aux_lemma =>
          by_cases k1 : f0 = 1
          · subst k1
            obtain ⟨o, rfl, hon⟩ := HObj.out rfl
            obtain ⟨tn, htn⟩ : ∃ tn, tn = t * n := ⟨_, rfl⟩
            obtain ⟨q, hq⟩ : ∃ q, q = tn + o := ⟨_, rfl⟩
            have htm2 : t < m := by have := HLen.out; omega
            have hon2 : o < n := by have := HLen.out; omega
            have hqmn : q < mn := by rw [hq, htn, HMn.out]; exact tab_lt htm2 hon2
            have hmn12 : mn ≤ 12 := by
              have h1 : m * n ≤ 4 * 3 := Nat.mul_le_mul (by have := HMN.out; omega) (by have := HMN.out; omega)
              have := HMn.out
              omega
            have emul : IntKind.i64.wrap ((t : Int) * (n : Int)) = (tn : Int) := by
              rw [← Int.natCast_mul, ← htn]
              exact IntWalk.i64_in _ ⟨by omega, by omega⟩
            have eadd : IntKind.i64.wrap ((tn : Int) + (o : Int)) = (q : Int) := by
              rw [← Int.natCast_add, ← hq]
              exact IntWalk.i64_in _ ⟨by omega, by omega⟩
            have ixd := idx_rints bd mn mn q hqmn
            have ixs := idx_rints bs mn mn q hqmn
            have hqq : q = t * n + o := by rw [hq, htn]
            have cD := HS1.out.dAt htm2 hon2
            have cV := HS1.out.vAt htm2 hon2
            rw [← hqq] at cD cV
            have fD := HS1.out.dr.free q
            have fV := HS1.out.sr.free q
            have nDV := HS1.out.ne
            have nVD := HS1.out.ne.symm
            obtain ⟨dr1, dr2⟩ := HOI.out.rg (t := t) (o := o) hon (by have := HLen.out; omega)
            have eD1 : IntKind.i64.wrap (D t o + 1) = D t o + 1 := IntWalk.i64_in _ ⟨by omega, by omega⟩
            have eD2 : IntKind.i64.wrap (D t o - 1) = D t o - 1 := IntWalk.i64_in _ ⟨by omega, by omega⟩
            have HQq := Lib.hid hqq
            have HOn := Lib.hid hon2
            clear htn hq hqq dr1 dr2 hmn12 hqmn
            by_cases a0 : f3 = 0
            · subst a0
              have E1 := Lib.hid (show nextD D V ⟨1, (t : Int), f2, 0, (o : Int), f5, f6, f7⟩ = D.put t o (D t o + 1) from by simp [nextD])
              have E2 := Lib.hid (show nextV D V ⟨1, (t : Int), f2, 0, (o : Int), f5, f6, f7⟩ = V from by simp [nextV])
              go_wp2_with fail
              go_meet
              rw [E1.out, E2.out]
              rw [HQq.out]
              exact HS1.out.setD HOn.out _
            have a0b : (f3 == 0) = false := beq_eq_false_iff_ne.2 a0
            have A0 := Lib.hid a0
            clear a0
            by_cases a1 : f3 = 1
            · subst a1
              have E1 := Lib.hid (show nextD D V ⟨1, (t : Int), f2, 1, (o : Int), f5, f6, f7⟩ = D.put t o (D t o - 1) from by simp [nextD])
              have E2 := Lib.hid (show nextV D V ⟨1, (t : Int), f2, 1, (o : Int), f5, f6, f7⟩ = V from by simp [nextV])
              go_wp2_with fail
              go_meet
              rw [E1.out, E2.out]
              rw [HQq.out]
              exact HS1.out.setD HOn.out _
            have a1b : (f3 == 1) = false := beq_eq_false_iff_ne.2 a1
            have A1 := Lib.hid a1
            clear a1
            by_cases a2 : f3 = 2
            · subst a2
              have E1 := Lib.hid (show nextD D V ⟨1, (t : Int), f2, 2, (o : Int), f5, f6, f7⟩ = D.put t o 0 from by simp [nextD])
              have E2 := Lib.hid (show nextV D V ⟨1, (t : Int), f2, 2, (o : Int), f5, f6, f7⟩ = V.put t o (D t o) from by simp [nextV])
              go_wp2_with fail
              go_meet
              rw [E1.out, E2.out]
              rw [HQq.out]
              exact (HS1.out.setV HOn.out _).setD HOn.out _
            have a2b : (f3 == 2) = false := beq_eq_false_iff_ne.2 a2
            have A2 := Lib.hid a2
            clear a2
            by_cases a5 : f3 = 5
            · subst a5
              have E1 := Lib.hid (show nextD D V ⟨1, (t : Int), f2, 5, (o : Int), f5, f6, f7⟩ = D.put t o (V t o) from by simp [nextD])
              have E2 := Lib.hid (show nextV D V ⟨1, (t : Int), f2, 5, (o : Int), f5, f6, f7⟩ = V from by simp [nextV])
              go_wp2_with fail
              go_meet
              rw [E1.out, E2.out]
              rw [HQq.out]
              exact HS1.out.setD HOn.out _
            have a5b : (f3 == 5) = false := beq_eq_false_iff_ne.2 a5
            have A5 := Lib.hid a5
            clear a5
            have E1 := Lib.hid (show nextD D V ⟨1, (t : Int), f2, f3, (o : Int), f5, f6, f7⟩ = D from by simp [nextD, A0.out, A1.out, A2.out, A5.out])
            have E2 := Lib.hid (show nextV D V ⟨1, (t : Int), f2, f3, (o : Int), f5, f6, f7⟩ = V from by simp [nextV, A0.out, A1.out, A2.out, A5.out])
            go_wp2_with fail
            go_meet
            rw [E1.out, E2.out]
            exact HS1.out
          · have k1b : (f0 == 1) = false := beq_eq_false_iff_ne.2 k1
            have E1 := Lib.hid (show nextD D V ⟨f0, (t : Int), f2, f3, f4, f5, f6, f7⟩ = D from by simp [nextD, k1])
            have E2 := Lib.hid (show nextV D V ⟨f0, (t : Int), f2, f3, f4, f5, f6, f7⟩ = V from by simp [nextV, k1])
            clear k1
            go_wp2_with fail
            go_meet
            rw [E1.out, E2.out]
            exact HS1.out
        case rest =>
          have HC := Lib.hid hcut
          clear hcut d0 d1 d3 d4 HOI HS1 HQ1 HObj HLen
          generalize nextD D V _ = D2 at HC HOI2
          generalize nextV D V _ = V2 at HC HOI2
          obtain ⟨hTm2, hOn2, hwf2⟩ := HTk2.out.here
          have HWf := Lib.hid hwf2
          have HLen2 := Lib.hid (And.intro hTm2 hOn2)
          have mkm := make_tab m (by have := HMN.out; omega)
          clear hwf2 hTm2 hOn2
          go_upto_region 25 with fail
          have HW := Lib.hid (HC.out.waits (fun _ => 0))
          generalize hW24 : wc.alloc _ = W24 at HW ⊢
          obtain ⟨bw, hbw⟩ : ∃ bw, bw = wc.heap.size := ⟨_, rfl⟩
          rw [← hbw] at HW ⊢
          clear hW24 hbw HC mkm
          go_upto_region 26 with fail
          go_loopw [13] (fun v13 wr => ∃ (o : Nat) (q : Nat → Int), o ≤ n ∧ v13 = .int .i64 (o : Int) ∧ SoW w wr A1 p s2 D2 V2 m n bd bs (.slice (some ⟨g, 0, none⟩) ll vc) l bw q ∧ WtIn s2 m o 0 q) (fun v13 _ => n - (intOf v13).toNat)
          case atStart => exact ⟨0, _, by omega, rfl, HW.out, WtIn.zero s2 m⟩
          case round => as_aux_lemma =>
            obtain ⟨o, q, ho, rfl, hW, hWt⟩ := hrel
            have HW2 := Lib.hid hW
            have HWt := Lib.hid hWt
            clear hW hWt HW
            by_cases hlt2 : o < n
            · have hlt2I : (o : Int) < (n : Int) := by omega
              obtain ⟨bb, hbb⟩ : ∃ bb, s2.O[o]? = some bb := ⟨_, List.getElem?_eq_getElem (by have := HLen2.out; omega)⟩
              have HBb := Lib.hid hbb
              rcases bb with ⟨own, dep, line⟩
              have HView := Lib.hid (view_any HW2.out.so.ks.sp HWf.out hbb)
              have hvsz : Hid ((Try.prog.info? 40).map (·.size) = some 3) := Lib.hid view_info
              dsimp only at HView
              clear hbb
              go_upto_region 29 with (first
                | (refine wpList_store_row rfl 40 _ _ rfl _ #[.int .i64 own, .int .i64 dep, _] rfl rfl 40 #[.int .i64 0, .int .i64 0, .slice none 0 0] (Blk.new _ _ _) hvsz.out rfl (by simp [Value.oneCell']) ?_; (try simp only [Act.put, List.setIfInBounds_toArray, List.set_cons_zero, List.set_cons_succ]))
                | (go_at_call 10; (with_reducible refine (HView.out).mono ?_); rintro e28 w28 ⟨v, rfl, hrow28, hb28⟩; obtain ⟨sa, sc, rfl⟩ := own_slice hrow28))
              rw [World.setRow_alloc_new]
              have HW3 := Lib.hid ((HW2.out.below hb28).below ((Below.refl _ w28).alloc (Nat.le_refl _) (.cells #[.int .i64 own, .int .i64 dep, .slice sa (sortI line).length sc] 40)))
              have HV := Lib.hid (Blk.new w28 40 #[.int .i64 own, .int .i64 dep, .slice sa (sortI line).length sc])
              have HRow := Lib.hid (row_ownkeep hrow28 ((Keep.refl (fun _ => False) w28).alloc (.cells #[.int .i64 own, .int .i64 dep, .slice sa (sortI line).length sc] 40)) (fun _ _ h => h))
              have hbvw : Hid (bw < w28.heap.size ∧ ∀ b, (Value.slice sa (sortI line).length sc).ownBlock = some b → b ≠ bw ∧ b ≠ w28.heap.size) := Lib.hid ⟨Nat.lt_of_lt_of_le HW2.out.wt.lt hb28.size, fun b hb => by have h1 := row_lo hrow28 b hb; have h2 := HW2.out.wt.lt; have h3 := (row_lt hrow28 hb).1; omega⟩
              generalize hW29 : w28.alloc _ = W29 at HW3 HV HRow ⊢
              obtain ⟨bv, hbv⟩ : ∃ bv, bv = w28.heap.size := ⟨_, rfl⟩
              rw [← hbv] at HV hbvw ⊢
              clear hW29 hbv HW2 hrow28 hb28 HView
              go_upto_region 31 with fail
              go_loopw [15, 16] (fun v15 v16 wr => ∃ kk : Nat, kk ≤ m ∧ v15 = .int .i64 (sumTo own dep kk) ∧ v16 = .int .i64 (kk : Int) ∧ wr = W29) (fun _ v16 _ => m - (intOf v16).toNat)
              case atStart => exact ⟨0, by omega, by simp [sumTo]; omega, rfl, rfl⟩
              case round => as_aux_lemma =>
                obtain ⟨kk, hkk, rfl, rfl, hwr⟩ := hrel
                obtain rfl := hwr.symm
                by_cases hlt3 : kk < m
                · have hlt3I : (kk : Int) < (m : Int) := by omega
                  obtain ⟨tn, htn⟩ : ∃ tn, tn = kk * n := ⟨_, rfl⟩
                  obtain ⟨z, hz⟩ : ∃ z, z = tn + o := ⟨_, rfl⟩
                  have hzmn : z < mn := by rw [hz, htn, HMn.out]; exact tab_lt hlt3 hlt2
                  have hmn12 : mn ≤ 12 := by
                    have h1 : m * n ≤ 4 * 3 := Nat.mul_le_mul (by have := HMN.out; omega) (by have := HMN.out; omega)
                    have := HMn.out
                    omega
                  have emul : IntKind.i64.wrap ((kk : Int) * (n : Int)) = (tn : Int) := by
                    rw [← Int.natCast_mul, ← htn]
                    exact IntWalk.i64_in _ ⟨by omega, by omega⟩
                  have eadd : IntKind.i64.wrap ((tn : Int) + (o : Int)) = (z : Int) := by
                    rw [← Int.natCast_add, ← hz]
                    exact IntWalk.i64_in _ ⟨by omega, by omega⟩
                  have ixd := idx_rints bd mn mn z hzmn
                  have cD := HW3.out.so.dAt hlt3 hlt2
                  rw [← htn, ← hz] at cD
                  have hs0 := sumTo_next HOI2.out HBb.out (k := kk) (by have := HLen2.out; omega)
                  dsimp only at hs0
                  have hs1 := sumTo_rg HOI2.out HBb.out (kk + 1)
                  dsimp only at hs1
                  have es : IntKind.i64.wrap (sumTo own dep kk + D2 kk o) = sumTo own dep (kk + 1) := by
                    rw [hs0]
                    exact IntWalk.i64_in _ ⟨by omega, by omega⟩
                  have hm4 : m ≤ 4 := HMN.out.1.2
                  clear htn hz hs0 hs1 hmn12
                  go_wp2_with fail
                  go_roundw
                  case rel => exact ⟨kk + 1, by omega, rfl, by go_num, by first | rfl | trivial⟩
                  case measure => simp [intOf]; omega
                · obtain rfl : m = kk := by omega
                  have hlt3I : ¬ (m : Int) < (m : Int) := by omega
                  have hsm := sumTo_all HOI2.out HBb.out
                  rw [HLen2.out.1] at hsm
                  dsimp only at hsm
                  have HLow := Lib.hid (HOI2.out.own o _ HBb.out)
                  go_upto_region 34 with fail
                  rw [hsm]
                  clear hsm
                  have v0 := HV.out.cell 0 _ rfl
                  have v1 := HV.out.cell 1 _ rfl
                  go_cut [164] from 104 to 224 (fun v164 wx => v164 = .bool false ∧ Below W29.heap.size W29 wx)
                  case first => as_aux_lemma =>
                    rcases HLow.out with ⟨h1, h2⟩ | ⟨t0, h1, h2, h3, h4⟩
                    · dsimp only at h1 h2
                      subst h1
                      subst h2
                      have g1 : ¬ (m : Int) ≤ -1 := by omega
                      go_quiet (fail)
                      go_wp2_with fail
                      go_meet
                      exact ⟨rfl, ⟨rfl, rfl, rfl, Nat.le_refl _, fun _ _ => rfl⟩⟩
                    · dsimp only at h2 h3 h4
                      subst h2
                      obtain ⟨tn, htn⟩ : ∃ tn, tn = t0 * n := ⟨_, rfl⟩
                      obtain ⟨z, hz⟩ : ∃ z, z = tn + o := ⟨_, rfl⟩
                      have htm0 : t0 < m := by have := HLen2.out; omega
                      have hzmn : z < mn := by rw [hz, htn, HMn.out]; exact tab_lt htm0 hlt2
                      have hmn12 : mn ≤ 12 := by
                        have h1 : m * n ≤ 4 * 3 := Nat.mul_le_mul (by have := HMN.out; omega) (by have := HMN.out; omega)
                        have := HMn.out
                        omega
                      have emul : IntKind.i64.wrap ((t0 : Int) * (n : Int)) = (tn : Int) := by
                        rw [← Int.natCast_mul, ← htn]
                        exact IntWalk.i64_in _ ⟨by omega, by omega⟩
                      have eadd : IntKind.i64.wrap ((tn : Int) + (o : Int)) = (z : Int) := by
                        rw [← Int.natCast_add, ← hz]
                        exact IntWalk.i64_in _ ⟨by omega, by omega⟩
                      have ixd := idx_rints bd mn mn z hzmn
                      have cD := HW3.out.so.dAt htm0 hlt2
                      rw [← htn, ← hz, HOI2.out.dep o _ HBb.out t0 h1, if_pos rfl] at cD
                      dsimp only at cD
                      have g1 : ¬ (m : Int) ≤ (t0 : Int) := by omega
                      have g2 : 0 < dep := by omega
                      have g3 : (0 : Int) ≤ (t0 : Int) := by omega
                      clear htn hz hmn12 h1 h3 h4
                      go_quiet (fail)
                      go_wp2_with fail
                      go_meet
                      exact ⟨rfl, ⟨rfl, rfl, rfl, Nat.le_refl _, fun _ _ => rfl⟩⟩
                  case rest =>
                    obtain ⟨rfl, hb34⟩ := hcut
                    have HW4 := Lib.hid (HW3.out.below hb34)
                    have HV4 := Lib.hid (HV.out.below hb34 HV.out.lt)
                    have HRow4 := Lib.hid (row_ownkeep HRow.out (Keep.ofBelow (Q := fun _ => False) hb34) (fun _ _ h => h))
                    clear hb34 v0 v1 HW3 HV HRow HLow hlt3I
                    obtain ⟨Ln, hLn⟩ : ∃ Ln, Ln = (sortI line).length := ⟨_, rfl⟩
                    have HLn := Lib.hid hLn
                    have hLnb : Ln ≤ 40000 := by rw [hLn, sortI_len]; exact Nat.le_trans (Nat.le_trans (HWf.out.len HBb.out) HWf.out.sz.1) (by omega)
                    rw [← hLn] at HV4 HRow4 hbvw
                    clear hLn
                    go_upto_region 37 with fail
                    go_loopw [17] (fun v17 wr => ∃ (j : Nat) (qq : Nat → Int), j ≤ Ln ∧ v17 = .int .i64 (j : Int) ∧ SoW w wr A1 p s2 D2 V2 m n bd bs (.slice (some ⟨g, 0, none⟩) ll vc) l bw qq ∧ WtIn s2 m o j qq ∧ Blk wr bv 40 #[.int .i64 own, .int .i64 dep, .slice sa Ln sc] ∧ wr.ownsRow 0 3 1 (.slice sa Ln sc) Ln (iL (sortI line))) (fun v17 _ => Ln - (intOf v17).toNat)
                    case atStart => exact ⟨0, q, by omega, rfl, HW4.out, HWt.out, HV4.out, wrow_lower HRow4.out (Nat.zero_le _)⟩
                    case round => as_aux_lemma =>
                      obtain ⟨j, qq, hj, rfl, hW5, hWt5, hV5, hRow5⟩ := hrel
                      have HW5 := Lib.hid hW5
                      have HWt5 := Lib.hid hWt5
                      have HV5 := Lib.hid hV5
                      have HRow5 := Lib.hid hRow5
                      have v2 := hV5.cell 2 _ rfl
                      have v0 := hV5.cell 0 _ rfl
                      clear hW5 hWt5 hV5 hRow5 HW4 HV4 HRow4
                      by_cases hlt4 : j < Ln
                      · have hlt4I : (j : Int) < (Ln : Int) := by omega
                        obtain ⟨x, hx⟩ : ∃ x, (sortI line)[j]? = some x := ⟨_, List.getElem?_eq_getElem (by have := HLn.out; omega)⟩
                        obtain ⟨tx, rfl, htx, hown⟩ := waits_in HOI2.out HWf.out HBb.out (rise_mem (l := line) hx)
                        have hrr := HRow5.out
                        rw [HLn.out] at hrr
                        obtain ⟨a5, c5, e5, hc5⟩ := lineR (A := fun _ => True) hrr (fun _ _ => trivial)
                        obtain ⟨gw, rfl, _, hcj⟩ := hc5 j _ hx
                        injection e5 with e5 e6 e7
                        subst e5
                        have htxm : tx < m := by have := HLen2.out; omega
                        have g1 : ¬ (tx : Int) < 0 := by omega
                        have g2 : ¬ (m : Int) ≤ (tx : Int) := by omega
                        have g3 : ((tx : Int) == own) = false := beq_eq_false_iff_ne.2 (fun e => hown e.symm)
                        have ixj := idx_rints gw Ln sc j hlt4
                        have HX := Lib.hid hx
                        have HPrev := Lib.hid (show ∀ j1, j = j1 + 1 → ∃ y, y < (tx : Int) ∧ wr.cell? ⟨gw, j1, none⟩ = some (.int .i64 y) from fun j1 e => by
                          obtain ⟨y, hy⟩ : ∃ y, (sortI line)[j1]? = some y := ⟨_, List.getElem?_eq_getElem (by have := HLn.out; omega)⟩
                          subst e
                          obtain ⟨g', e', _, h'⟩ := hc5 j1 y hy
                          injection e' with e'
                          injection e' with e'
                          subst e'
                          exact ⟨y, rise_lt (HWf.out.ln o _ HBb.out).1 hy hx, h'⟩)
                        clear hrr hc5 hown e6 e7 hx
                        go_upto_region 39 with fail
                        go_cut [214] from 165 to 224 (fun v214 wx => v214 = .bool false ∧ Below wr.heap.size wr wx)
                        case first => as_aux_lemma =>
                          rcases j with _ | j1
                          · have z0 : ((0 : Nat) : Int) = 0 := rfl
                            go_quiet (fail)
                            go_wp2_with fail
                            go_meet
                            exact ⟨rfl, ⟨rfl, rfl, rfl, Nat.le_refl _, fun _ _ => rfl⟩⟩
                          · obtain ⟨y, hyx, hcy⟩ := HPrev.out j1 rfl
                            have g4 : ¬ (tx : Int) ≤ y := by omega
                            have ixp := idx_rints gw Ln sc j1 (by omega)
                            have ew : IntKind.i64.wrap (((j1 + 1 : Nat) : Int) - 1) = (j1 : Int) := by
                              rw [show ((j1 + 1 : Nat) : Int) - 1 = (j1 : Int) by omega]
                              exact IntWalk.i64_in _ ⟨by omega, by omega⟩
                            have g5 : (0 : Int) < ((j1 + 1 : Nat) : Int) := by omega
                            go_quiet (fail)
                            go_wp2_with fail
                            go_meet
                            exact ⟨rfl, ⟨rfl, rfl, rfl, Nat.le_refl _, fun _ _ => rfl⟩⟩
                        case rest =>
                          obtain ⟨rfl, hb39⟩ := hcut
                          have HW6 := Lib.hid (HW5.out.below hb39)
                          have HV6 := Lib.hid (HV5.out.below hb39 HV5.out.lt)
                          have HRow6 := Lib.hid (row_ownkeep HRow5.out (Keep.ofBelow (Q := fun _ => False) hb39) (fun _ _ h => h))
                          have hc6 := (hb39.cell (p := ⟨gw, j, none⟩) (row_lt HRow5.out (show (Value.slice (some ⟨gw, 0, none⟩) Ln sc).ownBlock = some gw from rfl)).1).trans hcj
                          clear hb39 hcj v0 v2 HW5 HV5 HRow5 HPrev g1 g2 g3
                          have v2 := HV6.out.cell 2 _ rfl
                          have cW := HW6.out.wAt htxm
                          have fW := HW6.out.wt.free tx
                          have ixw := idx_rints bw m m tx htxm
                          obtain ⟨hq0, hst⟩ := HWt5.out.step HWf.out HBb.out htxm HX.out
                          have HSt := Lib.hid hst
                          have es : IntKind.i64.wrap (qq tx + 1) = qq tx + 1 := by rw [hq0]; rfl
                          clear hq0 hst
                          go_wp2_with fail
                          go_roundw
                          case rel => exact ⟨j + 1, _, by omega, by go_num, HW6.out.step tx _, HSt.out, HV6.out.far (by have := hbvw.out.1; omega) tx _, row_ownkeep HRow6.out ((Keep.refl (fun b => b = bw) _).set (p := ⟨bw, tx, none⟩) (fun _ => rfl) _) (fun g hg e => (hbvw.out.2 g hg).1 e)⟩
                          case measure => simp [intOf]; omega
                      · have hlt4I : ¬ (j : Int) < (Ln : Int) := by omega
                        have hn3 : n ≤ 3 := HMN.out.2.2
                        go_wp2_with fail
                        go_roundw
                        case rel => exact ⟨o + 1, qq, by omega, by go_num, HW5.out, HWt5.out.next⟩
                        case measure => simp [intOf]; omega
            · have hlt2I : ¬ (o : Int) < (n : Int) := by omega
              go_upto_region 43 with fail
              go_loopw [18] (fun v18 wz => ∃ kk : Nat, kk ≤ m ∧ v18 = .int .i64 (kk : Int) ∧ wz = wr) (fun v18 _ => m - (intOf v18).toNat)
              case atStart => exact ⟨0, by omega, rfl, rfl⟩
              case round => as_aux_lemma =>
                obtain ⟨kk, hkk, rfl, hwz⟩ := hrel
                obtain rfl := hwz.symm
                by_cases hlt5 : kk < m
                · have hlt5I : (kk : Int) < (m : Int) := by omega
                  have cW := HW2.out.wAt hlt5
                  have ixw := idx_rints bw m m kk hlt5
                  have g1 : ¬ 1 < q kk := by have := (HWt.out kk hlt5).2.1; omega
                  have hm4 : m ≤ 4 := HMN.out.1.2
                  go_wp2_with fail
                  go_roundw
                  case rel => exact ⟨kk + 1, by omega, by go_num, by first | rfl | trivial⟩
                  case measure => simp [intOf]; omega
                · have hlt5I : ¬ (kk : Int) < (m : Int) := by omega
                  go_wp2_with fail
                  go_roundw
                  case rel => exact ⟨i + 1, A1, s2, D2, V2, by omega, by go_num, HW2.out.so, HOI2.out, HTk2.out⟩
                  case measure => simp [intOf]; omega
      · have hltI : ¬ (i : Int) < (ll : Int) := by omega
        go_wp2_with fail
        go_ret
        exact ⟨rfl, HS.out.ks.bl⟩
end Go.Proofs.Ytcgljmeppmdihaa
