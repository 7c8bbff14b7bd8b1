/- Layer 12's laws: SpecCopies. -/
import Derived.Test.YtcgljmeppmdihaaMgSoK0
namespace Go.Proofs.Ytcgljmeppmdihaa
open Go.ChangeShapes Go.WideShapes Go.ChangeAt Go.RowKit
set_option linter.unusedVariables false
set_option maxRecDepth 100000
set_option linter.unusedSimpArgs false
theorem keep_row (w : World) (b : Nat) (cs : Array Value) : Keep (fun i => i = b) w (w.setRow b cs) := ⟨rfl, rfl, rfl, by simp [World.setRow], fun i _ hne => setRow_other w b i cs (by first | exact hne | exact fun e => hne e.symm)⟩
theorem KS.no {w W W1 : World} {A : Nat → Prop} {p : Pl} {s : SS} {e : Ev} {v : Ending} (h : KS w W A p s) (hr : HandPost W A p s (takeS s e) v W1) (he : takeS s e = none) : v = .returned (.bool false) ∧ ∃ A1, KS w W1 A1 p s ∧ Keep A W W1 ∧ (∀ k, A1 k → A k ∨ W.heap.size ≤ k) := h.hand hr he
theorem KS.yes {w W W1 : World} {A : Nat → Prop} {p : Pl} {s s1 : SS} {e : Ev} {v : Ending} (h : KS w W A p s) (hr : HandPost W A p s (takeS s e) v W1) (he : takeS s e = some s1) : v = .returned (.bool true) ∧ ∃ A1, KS w W1 A1 p s1 ∧ Keep A W W1 ∧ (∀ k, A1 k → A k ∨ W.heap.size ≤ k) := h.hand hr he
set_option maxHeartbeats 16000000 in
theorem copies12_any (a b : Nat) (ha : a ≤ 255) (hb : b ≤ 255) (sl : Option Addr) (k0 c0 : Nat) (hk : k0 ≤ c0) (hc : c0 ≤ 9223372036854775807) (at0 : Nat) (hat : at0 ≤ 255) (x0 x1 : Nat) (x2 : Int) (w : World) (hB : BytesIn w sl k0) :
    Calls Try.prog 4 #[.agg #[.int .u8 (a : Int), .int .u8 (b : Int), .slice sl k0 c0], .int .u8 (at0 : Int), .agg #[.int .u8 (x0 : Int), .int .u8 (x1 : Int), .int .i8 x2]] w fun e w' => e = .returned (.bool true) ∧ Below w.heap.size w w' := by
  have HWorks := Lib.hid works12_any
  have HSz := Lib.hid (size_any a b ha hb (.slice sl k0 c0))
  have HWalk := Lib.hid fun W (hW : Below w.heap.size w W) => walk_any a b ha hb sl k0 c0 hk hc W (hB.below hW)
  obtain ⟨m, hm⟩ : ∃ m, m = 1 + a % 4 := ⟨_, rfl⟩
  obtain ⟨n, hn⟩ : ∃ n, n = 1 + b % 3 := ⟨_, rfl⟩
  have HMN := Lib.hid (show (1 ≤ m ∧ m ≤ 4) ∧ 1 ≤ n ∧ n ≤ 3 from by omega)
  rw [← hm, ← hn] at HSz HWalk
  have HNew := Lib.hid fun W => new_some m n W (by omega) (by omega)
  have HWF := Lib.hid (newS_wf m n (by omega) (by omega))
  have HAt := Lib.hid hat
  have hesz : Hid ((Try.prog.info? 37).map (·.size) = some 8) := Lib.hid tev_info
  have hd3 : Hid ((Try.prog.info? 24).map (·.size) = some 3) := Lib.hid (by kernel_rfl)
  have ht3 : Hid ((Try.prog.info? 45).map (·.size) = some 3) := Lib.hid (by kernel_rfl)
  have HB0 := Lib.hid (show Below w.heap.size w ((w.alloc (.cells #[.int .u8 (a : Int), .int .u8 (b : Int), .slice sl k0 c0] 24)).alloc (.cells #[.int .u8 (x0 : Int), .int .u8 (x1 : Int), .int .i8 x2] 45)) from by go_grown)
  have HQ0 := Lib.hid ((Blk.new w 24 #[.int .u8 (a : Int), .int .u8 (b : Int), .slice sl k0 c0]).alloc (.cells #[.int .u8 (x0 : Int), .int .u8 (x1 : Int), .int .i8 x2] 45))
  have HT0 := Lib.hid (blk_two w (.cells #[.int .u8 (a : Int), .int .u8 (b : Int), .slice sl k0 c0] 24) 45 #[.int .u8 (x0 : Int), .int .u8 (x1 : Int), .int .i8 x2])
  clear hm hn hB hk hc ha hb hat
  go_enter Try.func4, Try.ntmps4
  go_upto_region 1 with fail
  generalize hW : World.alloc _ _ = W at HB0 HQ0 HT0 ⊢
  obtain ⟨bx, hbx⟩ : ∃ bx, bx = w.heap.size := ⟨_, rfl⟩
  obtain ⟨bt, hbt⟩ : ∃ bt, bt = w.heap.size + 1 := ⟨_, rfl⟩
  rw [← hbt] at HT0 ⊢
  rw [← hbx] at HQ0 ⊢
  clear hW hbx hbt
  go_upto_region 3 with (go_at_call 5; (with_reducible refine (HWorks.out _).mono ?_); rintro e1 w1 ⟨rfl, hb1⟩)
  have HQ1 := Lib.hid (HQ0.out.below hb1 HQ0.out.lt)
  have HT1 := Lib.hid (HT0.out.below hb1 HT0.out.lt)
  have HB1 := Lib.hid (HB0.out.trans (hb1.mono HB0.out.size))
  clear hb1 HB0 HQ0 HT0 HWorks
  go_upto_region 4 with (first
    | (refine wpList_load_row rfl 24 _ rfl bx rfl 24 #[.int .u8 (a : Int), .int .u8 (b : Int), .slice sl k0 c0] (0, 0) _ HQ1.out Try.underlying24 rfl hd3.out ?_)
    | (go_at_call 6; (with_reducible refine (HSz.out w1).mono ?_); rintro e3 w3 ⟨rfl, hb3⟩))
  have HQ3 := Lib.hid (HQ1.out.below hb3 HQ1.out.lt)
  have HT3 := Lib.hid (HT1.out.below hb3 HT1.out.lt)
  have HB3 := Lib.hid (HB1.out.trans (hb3.mono HB1.out.size))
  clear hb3 HB1 HQ1 HT1 HSz
  go_upto_region 5 with (first
    | (refine wpList_load_row rfl 24 _ rfl bx rfl 24 #[.int .u8 (a : Int), .int .u8 (b : Int), .slice sl k0 c0] (0, 0) _ HQ3.out Try.underlying24 rfl hd3.out ?_)
    | (go_at_call 8; (with_reducible refine (HWalk.out _ HB3.out).mono ?_); rintro e6 W6 ⟨vl, l, r, rfl, hrow, hl, hrun, hb6⟩))
  obtain ⟨sE, hto, _⟩ := run_takes (by have := HMN.out; omega) HMN.out.2.1 (by have := HMN.out; omega) hrun (by omega)
  obtain ⟨va, vc, rfl, hlc, hcm, hva⟩ := evsv_own hrow
  have HT6 := Lib.hid (HT3.out.below hb6 HT3.out.lt)
  have HB6 := Lib.hid (HB3.out.trans (hb6.mono HB3.out.size))
  have HVa := Lib.hid hva
  have HTo := Lib.hid hto
  have HLc := Lib.hid (And.intro hlc (And.intro hcm hl))
  obtain ⟨ll, hll⟩ : ∃ ll, ll = l.length := ⟨_, rfl⟩
  have HLL := Lib.hid hll
  rw [← hll] at hl ⊢
  clear hrow hrun hb6 hva hto hlc hcm HWalk HB3 HQ3 HT3 hll
  go_upto_if 26 with fail
  go_cut [10] from 24 to 31 (fun v10 wx => ∃ k : Nat, v10 = .int .i64 (k : Int) ∧ k ≤ ll ∧ (0 < ll → k < ll) ∧ wx = W6)
  case first => as_aux_lemma =>
    by_cases h0 : ll = 0
    · subst h0
      have g0 : ¬ (0 : Int) < ((0 : Nat) : Int) := by omega
      go_wp2_with fail
      go_meet
      exact ⟨0, rfl, Nat.le_refl _, fun h => h, rfl⟩
    · have g0 : (0 : Int) < (ll : Int) := by omega
      obtain ⟨k, hk⟩ : ∃ k, k = at0 % ll := ⟨_, rfl⟩
      have hkl : k < ll := by rw [hk]; exact Nat.mod_lt _ (by omega)
      have ej : ((at0 : Int)).tmod (ll : Int) = (k : Int) := by rw [hk]; rfl
      have ew0 : IntKind.i64.wrap (at0 : Int) = (at0 : Int) := IntWalk.i64_in _ ⟨by omega, by have := HAt.out; omega⟩
      clear hk
      go_wp2_with fail
      go_meet
      exact ⟨k, rfl, by omega, fun _ => hkl, rfl⟩
  case rest =>
    obtain ⟨k, rfl, hkl, hkl2, hwc⟩ := hcut
    obtain rfl := hwc.symm
    obtain ⟨sk, hto1, hto2⟩ := takesTo_cut k HTo.out
    have htk1 := takesTo_S hto1
    have htk2 := takesTo_S hto2
    have htk3 := takesTo_S HTo.out
    have hEv : (va = none ∧ vc = 0 ∧ l = []) ∨ ∃ g, va = some ⟨g, 0, none⟩ ∧ EvsAt W6 g 0 l ∧ g < W6.heap.size := by
      rcases HVa.out with h | ⟨g, h1, h2, h3, _⟩
      · exact .inl h
      · exact .inr ⟨g, h1, h2, h3⟩
    have hgl : ∀ B, va = some ⟨B, 0, none⟩ → B < W6.heap.size := fun B e => by
      rcases hEv with ⟨h, _⟩ | ⟨g, h1, _, h3⟩
      · rw [h] at e; cases e
      · rw [h1] at e
        injection e with e
        injection e with e
        omega
    obtain ⟨v1, hs1, hv1, ho1⟩ := cut_to (k := k) (by have := HLL.out; omega) HLc.out.1 hEv
    obtain ⟨v2, hs2, hv2, ho2⟩ := cut_from (k := k) (by have := HLL.out; omega) HLc.out.1 hEv
    have hv3 : EvsV W6 (.slice va ll vc) l := by
      rcases hEv with ⟨rfl, rfl, rfl⟩ | ⟨g, rfl, h2, h3⟩
      · exact .inl ⟨by rw [HLL.out]; rfl, rfl⟩
      · exact .inr ⟨g, 0, vc, by rw [HLL.out], h2, h3⟩
    rw [← HLL.out] at hs1 hs2
    have HV1 := Lib.hid hv1
    have HV2 := Lib.hid hv2
    have HV3 := Lib.hid hv3
    have HO1 := Lib.hid fun B off c' n' (e : v1 = .slice (some ⟨B, off, none⟩) n' c') => hgl B (ho1 B off c' n' e)
    have HO2 := Lib.hid fun B off c' n' (e : v2 = .slice (some ⟨B, off, none⟩) n' c') => hgl B (ho2 B off c' n' e)
    have HTS := Lib.hid (And.intro htk1 (And.intro htk2 htk3))
    have HSk := Lib.hid hto2.here
    clear hto1 hto2 htk1 htk2 htk3 hEv hv1 hv2 hv3 ho1 ho2 hgl
    go_upto_region 9 with (go_at_call 7; (with_reducible refine (HNew.out W6).mono ?_); rintro e8 w8 ⟨p, A, rfl, hS, hA, hb8⟩)
    have HK8 := Lib.hid (show KS W6 w8 A p (newS m n) from ⟨hS, HWF.out, hA, hb8⟩)
    clear hS hA hb8 HNew
    have HTk1 := Lib.hid (takesV HK8.out.sp HWF.out (HV1.out.below HK8.out.bl) (fun B off c' n' e hh => by have := HO1.out B off c' n' e; have := HK8.out.lo B hh; omega) (by rw [List.length_take]; omega))
    have HCk1 := Lib.hid fun V (hV : Below W6.heap.size W6 V) => checkV m n (by have := HMN.out; omega) (by have := HMN.out; omega) (HV1.out.below hV) (by rw [List.length_take]; omega) (by rw [HTS.out.1])
    go_upto_region 11 with (first
      | (go_at_call 11; (with_reducible refine (HTk1.out).mono ?_); rintro e9 w9 hr9; obtain ⟨rfl, A1, hK9, hk9, hs9⟩ := HK8.out.takesV hr9 (by rw [HTS.out.1]))
      | (go_at_call 12; (with_reducible refine (HCk1.out _ hK9.bl).mono ?_); rintro e10 w10 ⟨rfl, hb10⟩))
    have HK10 := Lib.hid (show KS W6 w10 A1 p sk from by
      have := hK9.below (hb10)
      rwa [HTS.out.1] at this)
    clear hK9 hk9 hs9 hr9 hb10 HTk1 HCk1 HK8 HV1 HO1 hs1
    have HCp1 := Lib.hid (copy_any HK10.out.sp HSk.out.2.2)
    go_upto_region 12 with (go_at_call 13; (with_reducible refine (HCp1.out).mono ?_); rintro e11 w11 hr11; obtain ⟨q, C, rfl, hKK, hC⟩ := HK10.out.copied hr11)
    have HKK := Lib.hid hKK
    clear hKK hC hr11 HCp1 HK10
    go_upto_region 13 with (refine wpList_store_row rfl 37 _ _ rfl _ #[.int .i64 7, .int .i64 0, .int .i64 0, .int .i64 0, .int .i64 0, .int .i64 0, .int .i64 0, .int .i64 0] rfl rfl 37 #[.int .i64 0, .int .i64 0, .int .i64 0, .int .i64 0, .int .i64 0, .int .i64 0, .int .i64 0, .int .i64 0] (Blk.new _ _ _) hesz.out rfl (by simp [Value.oneCell']) ?_; (try simp only [Act.put, List.setIfInBounds_toArray, List.set_cons_zero, List.set_cons_succ]))
    rw [World.setRow_alloc_new]
    have HK12 := Lib.hid (HKK.out.below ((Below.refl _ w11).alloc (Nat.le_refl _) (.cells (evC ⟨7, 0, 0, 0, 0, 0, 0, 0⟩) 37)))
    have HO12 := Lib.hid (Blk.new w11 37 (evC ⟨7, 0, 0, 0, 0, 0, 0, 0⟩))
    have HoN := Lib.hid (show ¬ A1 w11.heap.size ∧ ¬ C w11.heap.size ∧ W6.heap.size ≤ w11.heap.size from ⟨fun h => Nat.lt_irrefl _ (HKK.out.a.sp.lt _ h), fun h => Nat.lt_irrefl _ (HKK.out.c.sp.lt _ h), HKK.out.a.bl.size⟩)
    generalize hW12 : w11.alloc _ = W12 at HK12 HO12 ⊢
    obtain ⟨bo, hbo⟩ : ∃ bo, bo = w11.heap.size := ⟨_, rfl⟩
    rw [← hbo] at HO12 HoN ⊢
    clear hW12 hbo HKK
    go_upto_if 56 with fail
    go_cut [] from 53 to 62 (fun wx => ∃ ev : Ev, KK W6 wx A1 p sk C q sk ∧ Blk wx bo 37 (evC ev))
    case first => as_aux_lemma =>
      by_cases hlt : k < ll
      · have hltI : (k : Int) < (ll : Int) := by omega
        obtain ⟨ev, hev⟩ : ∃ ev, l[k]? = some ev := ⟨_, List.getElem?_eq_getElem (by have := HLL.out; omega)⟩
        obtain ⟨g, rfl, hE, hg, _⟩ : ∃ g, va = some ⟨g, 0, none⟩ ∧ EvsAt W6 g 0 l ∧ g < W6.heap.size ∧ True := by
          rcases HVa.out with ⟨_, _, h⟩ | ⟨g, h1, h2, h3, _⟩
          · rw [h] at hev; simp at hev
          · exact ⟨g, h1, h2, h3, trivial⟩
        have ix : ∀ W, (Instr.indexAt 31 (.slice (some ⟨g, 0, none⟩) ll vc) (.int .i64 (k : Int))).run Try.prog W = .ok (.pointer (some ⟨g, k * 8, none⟩)) W := by
          have := idx_rall g 0 ll vc k hlt
          simpa using this
        rcases ev with ⟨f0, f1, f2, f3, f4, f5, f6, f7⟩
        have hE2 := hE k _ hev
        have e8 : ∀ j, (⟨g, 0 + k * 8 + j, none⟩ : Addr) = ⟨g, k * 8 + j, none⟩ := fun j => by rw [Nat.zero_add]
        have SK := Lib.hid (show ∀ X, Below W6.heap.size W6 X → (X.cell? ⟨bt, 0, none⟩ = some (.int .u8 (x0 : Int)) ∧ X.cell? ⟨bt, 1, none⟩ = some (.int .u8 (x1 : Int)) ∧ X.cell? ⟨bt, 2, none⟩ = some (.int .i8 x2)) ∧ X.cell? ⟨g, k * 8, none⟩ = some (.int .i64 f0) ∧ X.cell? ⟨g, k * 8 + 1, none⟩ = some (.int .i64 f1) ∧ X.cell? ⟨g, k * 8 + 2, none⟩ = some (.int .i64 f2) ∧ X.cell? ⟨g, k * 8 + 3, none⟩ = some (.int .i64 f3) ∧ X.cell? ⟨g, k * 8 + 4, none⟩ = some (.int .i64 f4) ∧ X.cell? ⟨g, k * 8 + 5, none⟩ = some (.int .i64 f5) ∧ X.cell? ⟨g, k * 8 + 6, none⟩ = some (.int .i64 f6) ∧ X.cell? ⟨g, k * 8 + 7, none⟩ = some (.int .i64 f7) from fun X hX => by
          have hT := HT6.out.below hX HT6.out.lt
          have hc : ∀ j v, (evL ⟨f0, f1, f2, f3, f4, f5, f6, f7⟩)[j]? = some v → X.cell? ⟨g, k * 8 + j, none⟩ = some v := fun j v hj => by
            have h1 := hE2 j v hj
            rw [e8 j] at h1
            exact (hX.cell (p := ⟨g, k * 8 + j, none⟩) hg).trans h1
          exact ⟨⟨hT.cell 0 _ rfl, hT.cell 1 _ rfl, hT.cell 2 _ rfl⟩, hc 0 _ rfl, hc 1 _ rfl, hc 2 _ rfl, hc 3 _ rfl, hc 4 _ rfl, hc 5 _ rfl, hc 6 _ rfl, hc 7 _ rfl⟩)
        have HTn := Lib.hid fun V => turned_any x0 x1 x2 ⟨f0, f1, f2, f3, f4, f5, f6, f7⟩ V
        clear hev hE hE2 e8
        go_upto_region 14 with fail
        have HKd := Lib.hid (HK12.out.below (rdrewz W12))
        have HOd := Lib.hid (HO12.out.drew)
        refine wp_region_held_drew (S := (fun (X : World) => (X.cell? ⟨bt, 0, none⟩ = some (.int .u8 (x0 : Int)) ∧ X.cell? ⟨bt, 1, none⟩ = some (.int .u8 (x1 : Int)) ∧ X.cell? ⟨bt, 2, none⟩ = some (.int .i8 x2)) ∧ X.cell? ⟨g, k * 8, none⟩ = some (.int .i64 f0) ∧ X.cell? ⟨g, k * 8 + 1, none⟩ = some (.int .i64 f1) ∧ X.cell? ⟨g, k * 8 + 2, none⟩ = some (.int .i64 f2) ∧ X.cell? ⟨g, k * 8 + 3, none⟩ = some (.int .i64 f3) ∧ X.cell? ⟨g, k * 8 + 4, none⟩ = some (.int .i64 f4) ∧ X.cell? ⟨g, k * 8 + 5, none⟩ = some (.int .i64 f5) ∧ X.cell? ⟨g, k * 8 + 6, none⟩ = some (.int .i64 f6) ∧ X.cell? ⟨g, k * 8 + 7, none⟩ = some (.int .i64 f7))) (by kernel_rfl) (SK.out _ HKd.out.a.bl) (fun hHeld => ?_)
        refine wpAnyH_take (i := 0) (oi := { dst := some 57, op := Op.load 45 (Operand.tmp 5), type := 45, pos := "outright.go:188", after := #[], guard := none }) (v := ?_) rfl (by kernel_rfl) (by kernel_rfl) (by kernel_rfl) (fun _ _ _ h => h) (Or.inl ⟨by rfl, ?_⟩) (by assumption) ?_
        rotate_left
        · intro w hSw; (try dsimp only at hSw); go_simp; try with_reducible rfl
        (try simp only [Act.put, List.setIfInBounds_toArray, List.set_cons_zero, List.set_cons_succ])
        refine wpAnyH_take (i := 1) (oi := { dst := some 58, op := Op.move (Operand.tmp 9), type := 31, pos := "outright.go:188", after := #[], guard := none }) (v := ?_) rfl (by kernel_rfl) (by kernel_rfl) (by kernel_rfl) (fun _ _ _ h => h) (Or.inl ⟨by rfl, ?_⟩) (by assumption) ?_
        rotate_left
        · intro w hSw; (try dsimp only at hSw); go_simp; try with_reducible rfl
        (try simp only [Act.put, List.setIfInBounds_toArray, List.set_cons_zero, List.set_cons_succ])
        refine wpAnyH_take (i := 2) (oi := { dst := some 59, op := Op.move (Operand.tmp 10), type := 3, pos := "outright.go:188", after := #[], guard := none }) (v := ?_) rfl (by kernel_rfl) (by kernel_rfl) (by kernel_rfl) (fun _ _ _ h => h) (Or.inl ⟨by rfl, ?_⟩) (by assumption) ?_
        rotate_left
        · intro w hSw; (try dsimp only at hSw); go_simp; try with_reducible rfl
        (try simp only [Act.put, List.setIfInBounds_toArray, List.set_cons_zero, List.set_cons_succ])
        refine wpAnyH_take (i := 3) (oi := { dst := some 60, op := Op.indexAddr 31 (Operand.tmp 58) (Operand.tmp 59), type := 0, pos := "outright.go:188", after := #[{ on := 1, ground := Ground.data }, { on := 2, ground := Ground.data }], guard := none }) (v := ?_) rfl (by kernel_rfl) (by kernel_rfl) (by kernel_rfl) (fun _ _ _ h => h) (Or.inl ⟨by rfl, ?_⟩) (by assumption) ?_
        rotate_left
        · intro w hSw; (try dsimp only at hSw); go_simp; try with_reducible rfl
        (try simp only [Act.put, List.setIfInBounds_toArray, List.set_cons_zero, List.set_cons_succ])
        refine wpAnyH_take (i := 4) (oi := { dst := some 61, op := Op.load 37 (Operand.tmp 60), type := 37, pos := "outright.go:188", after := #[{ on := 3, ground := Ground.data }], guard := none }) (v := ?_) rfl (by kernel_rfl) (by kernel_rfl) (by kernel_rfl) (fun _ _ _ h => h) (Or.inl ⟨by rfl, ?_⟩) (by assumption) ?_
        rotate_left
        · intro w hSw; (try dsimp only at hSw); go_simp; try with_reducible rfl
        (try simp only [Act.put, List.setIfInBounds_toArray, List.set_cons_zero, List.set_cons_succ])
        refine wpAnyH_ready (rs := [5]) (by kernel_rfl) (by simp) ?_
        refine AllReadyH.cons rfl (fun K hK => ?_) (AllReadyH.nil)
        go_simp
        (with_reducible refine (HTn.out _).mono ?_)
        rintro e14 w14 ⟨ev, rfl, b14⟩
        have HK14 := Lib.hid (HKd.out.below b14)
        have HO14 := Lib.hid (HOd.out.below b14 HOd.out.lt)
        clear b14
        go_wp2_with fail
        refine hK.out _ _ (SK.out _ HK14.out.a.bl) (fun hHeld => ?_)
        clear hK K
        (try dsimp only [Act.put]); (try simp only [Act.put, List.setIfInBounds_toArray, List.set_cons_zero, List.set_cons_succ])
        refine wpAnyH_ready (rs := [6]) (by kernel_rfl) (by simp) ?_
        refine AllReadyH.cons rfl (fun K hK => ?_) (AllReadyH.nil)
        refine wp_store_row 37 _ _ rfl bo (evC ev) rfl rfl 37 _ HO14.out hesz.out rfl (ev_one ev) ?_
        have HK15 := Lib.hid (HK14.out.far (keep_row w14 bo (evC ev)) (fun b h e => HoN.out.1 (e ▸ h)) (fun b h e => HoN.out.2.1 (e ▸ h)) (fun b e => by have := HoN.out.2.2; omega))
        have HO15 := Lib.hid (HO14.out.row (evC ev))
        refine hK.out _ _ (SK.out _ HK15.out.a.bl) (fun hHeld => ?_)
        clear hK K
        (try dsimp only [Act.put]); (try simp only [Act.put, List.setIfInBounds_toArray, List.set_cons_zero, List.set_cons_succ])
        refine wpAnyH_done (by kernel_rfl) ?_ _
        clear hHeld
        go_wp2_with fail
        go_meet
        exact ⟨ev, HK15.out, HO15.out⟩
      · have hltI : ¬ (k : Int) < (ll : Int) := by omega
        go_wp2_with fail
        go_meet
        exact ⟨⟨7, 0, 0, 0, 0, 0, 0, 0⟩, HK12.out, HO12.out⟩
    case rest =>
      obtain ⟨odd, hK13, hO13⟩ := hcut
      have HK13 := Lib.hid hK13
      have HO13 := Lib.hid hO13
      clear hK13 hO13 HK12 HO12
      have HCp2 := Lib.hid (copy_any HK13.out.a.sp HSk.out.2.2)
      go_upto_region 16 with (go_at_call 13; (with_reducible refine (HCp2.out).mono ?_); rintro e15 w15 ⟨qe, E, rfl, hSE, hEl, hbE⟩)
      have HK15 := Lib.hid (HK13.out.below hbE)
      have HO15 := Lib.hid (HO13.out.below hbE HO13.out.lt)
      have HE := Lib.hid (show KS W6 w15 E qe sk from ⟨hSE, HSk.out.2.2, fun b h => Nat.le_trans HK13.out.a.bl.size (hEl b h), HK15.out.a.bl⟩)
      have HNE := Lib.hid (show (∀ b, E b → ¬ A1 b) ∧ (∀ b, E b → ¬ C b) ∧ ¬ E bo from ⟨fun b h1 h2 => by have := hEl b h1; have := HK13.out.a.sp.lt b h2; omega, fun b h1 h2 => by have := hEl b h1; have := HK13.out.c.sp.lt b h2; omega, fun h => by have := hEl bo h; have := HO13.out.lt; omega⟩)
      clear hSE hEl hbE HK13 HO13 HCp2
      rcases odd with ⟨o0, o1, o2, o3, o4, o5, o6, o7⟩
      have HTkE := Lib.hid (take_any HE.out.sp HSk.out.2.2 ⟨o0, o1, o2, o3, o4, o5, o6, o7⟩)
      have HN7 := Lib.hid (takeS_kind (s := sk) (e := ⟨7, 0, 0, 0, 0, 0, 0, 0⟩) (by decide) (by decide) (by decide))
      have HNm := Lib.hid (takeS_low (s := sk) (e := ⟨0, -1, 0, 0, 0, 0, 0, 0⟩) (by decide))
      have HNh := Lib.hid (takeS_high (s := sk) (e := ⟨0, (m : Int), 0, 0, 0, 0, 0, 0⟩) (by rw [HSk.out.1]; exact Int.le_refl _))
      have HT2 := Lib.hid (show (takesS sk (l.drop k)).2 = true from by rw [HTS.out.2.1])
      have HLd := Lib.hid (show (l.drop k).length ≤ 1000000 from by rw [List.length_drop]; have := HLc.out.2.2; omega)
      have HCk3 := Lib.hid fun V (hV : Below W6.heap.size W6 V) => checkV m n (by have := HMN.out; omega) (by have := HMN.out; omega) (HV3.out.below hV) (by have := HLc.out.2.2; omega) (by rw [HTS.out.2.2])
      have d0 := HO15.out.cell 0 _ rfl
      have d1 := HO15.out.cell 1 _ rfl
      have d2 := HO15.out.cell 2 _ rfl
      have d3 := HO15.out.cell 3 _ rfl
      have d4 := HO15.out.cell 4 _ rfl
      have d5 := HO15.out.cell 5 _ rfl
      have d6 := HO15.out.cell 6 _ rfl
      have d7 := HO15.out.cell 7 _ rfl
      cases hodd : takeS sk ⟨o0, o1, o2, o3, o4, o5, o6, o7⟩ with
      | none =>
        have HOdd := Lib.hid hodd
        clear hodd
        go_upto_if 97 with (first
          | (go_at_call 9; (with_reducible refine (HTkE.out).mono ?_); rintro rE w16 hhE; obtain ⟨rfl, E1, hE1, hkE, hsE⟩ := HE.out.no hhE HOdd.out; have kk := HK15.out.far hkE (fun b h1 h2 => HNE.out.1 b h2 h1) (fun b h1 h2 => HNE.out.2.1 b h2 h1) (fun b h => HE.out.lo b h); have oo := HO15.out.keep hkE HNE.out.2.2; have d0 := oo.cell 0 _ rfl; have d1 := oo.cell 1 _ rfl; have d2 := oo.cell 2 _ rfl; have d3 := oo.cell 3 _ rfl; have d4 := oo.cell 4 _ rfl; have d5 := oo.cell 5 _ rfl; have d6 := oo.cell 6 _ rfl; have d7 := oo.cell 7 _ rfl)
          | (go_at_call 9; (with_reducible refine (take_any kk.a.sp HSk.out.2.2 ⟨o0, o1, o2, o3, o4, o5, o6, o7⟩).mono ?_); rintro rS w17 hhS; obtain ⟨rfl, S1, hS1, hkS, hsS⟩ := kk.a.no hhS HOdd.out; replace kk := kk.one hS1 hkS hsS; clear d0 d1 d2 d3 d4 d5 d6 d7 oo)
          | (go_at_call 11; (with_reducible refine (takesV kk.a.sp HSk.out.2.2 (HV2.out.below kk.a.bl) (fun B off c' n' e hh => by have := HO2.out B off c' n' e; have := kk.a.lo B hh; omega) HLd.out).mono ?_); rintro rT w18 hhT; obtain ⟨rfl, S2, hS2, hkT, hsT⟩ := kk.a.takesV hhT HT2.out; replace kk := kk.one hS2 hkT hsT)
          | (go_at_call 9; (with_reducible refine (take_any kk.c.sp HSk.out.2.2 ⟨7, 0, 0, 0, 0, 0, 0, 0⟩).mono ?_); rintro rC w19 hhC; obtain ⟨rfl, S3, hS3, hkC, hsC⟩ := kk.c.no hhC HN7.out; replace kk := kk.two hS3 hkC hsC)
          | (go_at_call 9; (with_reducible refine (take_any kk.c.sp HSk.out.2.2 ⟨0, -1, 0, 0, 0, 0, 0, 0⟩).mono ?_); rintro rC w19 hhC; obtain ⟨rfl, S3, hS3, hkC, hsC⟩ := kk.c.no hhC HNm.out; replace kk := kk.two hS3 hkC hsC)
          | (go_at_call 9; (with_reducible refine (take_any kk.c.sp HSk.out.2.2 ⟨0, (m : Int), 0, 0, 0, 0, 0, 0⟩).mono ?_); rintro rC w19 hhC; obtain ⟨rfl, S3, hS3, hkC, hsC⟩ := kk.c.no hhC HNh.out; replace kk := kk.two hS3 hkC hsC))
        clear HTkE
        have HKc := Lib.hid kk.c
        clear kk
        have HTkc := Lib.hid (takesV HKc.out.sp HSk.out.2.2 (HV2.out.below HKc.out.bl) (fun B off c' n' e hh => by have := HO2.out B off c' n' e; have := HKc.out.lo B hh; omega) HLd.out)
        go_wp2_with (first
          | (go_at_call 11; (with_reducible refine (HTkc.out).mono ?_); rintro rT w28 hhT; obtain ⟨rfl, S8, hS8, hkT, hsT⟩ := HKc.out.takesV hhT HT2.out)
          | (go_at_call 12; (with_reducible refine (HCk3.out _ hS8.bl).mono ?_); rintro e29 w29 ⟨rfl, hb29⟩))
        go_ret
        exact ⟨rfl, HB6.out.trans ((hS8.below hb29).bl.mono HB6.out.size)⟩
      | some s9 =>
        have HOdd := Lib.hid hodd
        clear hodd
        go_upto_if 97 with (first
          | (go_at_call 9; (with_reducible refine (HTkE.out).mono ?_); rintro rE w16 hhE; obtain ⟨rfl, E1, hE1, hkE, hsE⟩ := HE.out.yes hhE HOdd.out; have kk := HK15.out.far hkE (fun b h1 h2 => HNE.out.1 b h2 h1) (fun b h1 h2 => HNE.out.2.1 b h2 h1) (fun b h => HE.out.lo b h); have oo := HO15.out.keep hkE HNE.out.2.2; have d0 := oo.cell 0 _ rfl; have d1 := oo.cell 1 _ rfl; have d2 := oo.cell 2 _ rfl; have d3 := oo.cell 3 _ rfl; have d4 := oo.cell 4 _ rfl; have d5 := oo.cell 5 _ rfl; have d6 := oo.cell 6 _ rfl; have d7 := oo.cell 7 _ rfl)
          | (go_at_call 9; (with_reducible refine (take_any kk.c.sp HSk.out.2.2 ⟨7, 0, 0, 0, 0, 0, 0, 0⟩).mono ?_); rintro rC w19 hhC; obtain ⟨rfl, S3, hS3, hkC, hsC⟩ := kk.c.no hhC HN7.out; replace kk := kk.two hS3 hkC hsC)
          | (go_at_call 9; (with_reducible refine (take_any kk.c.sp HSk.out.2.2 ⟨0, -1, 0, 0, 0, 0, 0, 0⟩).mono ?_); rintro rC w19 hhC; obtain ⟨rfl, S3, hS3, hkC, hsC⟩ := kk.c.no hhC HNm.out; replace kk := kk.two hS3 hkC hsC)
          | (go_at_call 9; (with_reducible refine (take_any kk.c.sp HSk.out.2.2 ⟨0, (m : Int), 0, 0, 0, 0, 0, 0⟩).mono ?_); rintro rC w19 hhC; obtain ⟨rfl, S3, hS3, hkC, hsC⟩ := kk.c.no hhC HNh.out; replace kk := kk.two hS3 hkC hsC))
        clear d0 d1 d2 d3 d4 d5 d6 d7 oo HTkE
        have HKc := Lib.hid kk.c
        clear kk
        have HTkc := Lib.hid (takesV HKc.out.sp HSk.out.2.2 (HV2.out.below HKc.out.bl) (fun B off c' n' e hh => by have := HO2.out B off c' n' e; have := HKc.out.lo B hh; omega) HLd.out)
        go_wp2_with (first
          | (go_at_call 11; (with_reducible refine (HTkc.out).mono ?_); rintro rT w28 hhT; obtain ⟨rfl, S8, hS8, hkT, hsT⟩ := HKc.out.takesV hhT HT2.out)
          | (go_at_call 12; (with_reducible refine (HCk3.out _ hS8.bl).mono ?_); rintro e29 w29 ⟨rfl, hb29⟩))
        go_ret
        exact ⟨rfl, HB6.out.trans ((hS8.below hb29).bl.mono HB6.out.size)⟩
end Go.Proofs.Ytcgljmeppmdihaa
