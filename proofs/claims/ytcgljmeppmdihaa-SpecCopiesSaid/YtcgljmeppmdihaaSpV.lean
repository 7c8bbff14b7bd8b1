/- Law 12's seen; spec.Check. -/
import Derived.Test.YtcgljmeppmdihaaSpU
namespace Go.Proofs.Ytcgljmeppmdihaa
open Go.ChangeShapes Go.WideShapes Go.ChangeAt Go.RowKit
set_option linter.unusedVariables false
set_option maxRecDepth 100000
set_option linter.unusedSimpArgs false
theorem LineR.keep {w w1 : World} {A F : Nat → Prop} {v : Value} {l : List Int} (h : LineR w A v l) (hk : Keep F w w1) (hn : ∀ b, A b → ¬ F b) : LineR w1 A v l := by
  obtain ⟨a, c, e, h⟩ := h
  refine ⟨a, c, e, fun i x hx => ?_⟩
  obtain ⟨g, e1, e2, e3⟩ := h i x hx
  exact ⟨g, e1, e2, scell_keep e3 hk (hn g e2)⟩
set_option maxHeartbeats 4000000 in
theorem seen_yes {w : World} {A Aw : Nat → Prop} {p : Pl} {s : SS} (h : SpecAt w A p s) (hwf : WF s) {b : Ob} (hb : s.O[0]? = some b) (l : List Int) (wv : Value) (hv : LineR w Aw wv l) (hAw : ∀ k, Aw k → k < w.heap.size) (hl : sortI b.line = l) :
    Calls Try.prog 18 #[spV p, .int .i64 b.own, .int .i64 b.dep, wv] w fun e w' => e = .returned (.bool true) ∧ Below w.heap.size w w' := by
  have hln : l.length ≤ 32766 := by rw [← hl, sortI_len]; exact Nat.le_trans (hwf.len hb) hwf.sz.1
  have HV := Lib.hid (show ∀ W, Calls Try.prog 10 #[spV p, .int .i64 0] W (ViewPost W b.own b.dep l) ∨ ¬ SpecAt W A p s from fun W => by
    by_cases hS : SpecAt W A p s
    · left
      have := view_any hS hwf hb
      rw [hl] at this
      exact this
    · exact .inr hS)
  obtain ⟨wa, wc, rfl, hrow⟩ := hv
  have HR := Lib.hid hrow
  have H := Lib.hid h
  have HA := Lib.hid hAw
  obtain ⟨n, hn⟩ : ∃ n, n = l.length := ⟨_, rfl⟩
  have HN := Lib.hid hn
  rw [← hn] at hln ⊢
  clear h hwf hb hl hrow hAw hn
  go_enter Try.func18, Try.ntmps18
  go_wp2_with fail
  refine ((HV.out w).resolve_right (fun k => k H.out)).mono ?_
  rintro e w1 ⟨v, rfl, hr1, hb1⟩
  have HR1 := Lib.hid hr1
  have HB1 := Lib.hid hb1
  obtain ⟨va, vc, hvs⟩ : ∃ va vc, v = .slice va n vc := by
    rw [HN.out]
    rcases hr1.2 with ⟨hv, h0⟩ | ⟨g', c', cur, hv, _⟩
    · exact ⟨none, 0, by rw [h0]; exact hv⟩
    · exact ⟨_, _, hv⟩
  subst hvs
  clear hr1 hb1
  go_upto_region 5 with fail
  generalize hW : w1.alloc _ = W5
  have hb5 : Below w1.heap.size w1 W5 := by rw [← hW]; go_grown
  have cv5 : W5.cell? ⟨w1.heap.size, 2, none⟩ = some (.slice va n vc) := by rw [← hW]; exact (Blk.new _ _ _).cell 2 _ rfl
  have hr5 := row_ownkeep HR1.out (Keep.ofBelow (Q := fun _ => False) hb5) (fun _ _ h => h)
  have hl5 := lineR hr5 (A := fun _ => True) (fun _ _ => trivial)
  obtain ⟨a6, c6, e6, hrow6⟩ := hl5
  have ea : va = a6 := by injection e6
  subst ea
  have HR6 := Lib.hid hrow6
  have HB5 := Lib.hid hb5
  have HB6 := Lib.hid (HB1.out.trans (hb5.mono HB1.out.size))
  obtain ⟨bv, hbv⟩ : ∃ bv, bv = w1.heap.size := ⟨_, rfl⟩
  rw [← hbv] at cv5 ⊢
  clear hW hb5 hr5 hrow6 hbv e6
  go_loopw [10] (fun v10 wr => ∃ k : Nat, k ≤ n ∧ v10 = .int .i64 k ∧ Keep (fun _ => False) W5 wr) (fun v10 _ => n - (intOf v10).toNat)
  case atStart => exact ⟨0, Nat.zero_le _, rfl, Keep.refl _ _⟩
  case round =>
    obtain ⟨k, hk, rfl, hkp⟩ := hrel
    by_cases hlt : k < n
    · obtain ⟨x, hx⟩ : ∃ x, l[k]? = some x := ⟨_, List.getElem?_eq_getElem (by rw [← HN.out]; exact hlt)⟩
      obtain ⟨g1, hg1, hA1, d1⟩ := HR.out k x hx
      obtain ⟨g2, hg2, _, d2⟩ := HR6.out k x hx
      subst hg1
      subst hg2
      have d1' := scell_keep (scell_keep d1 (Keep.ofBelow (Q := fun _ => False) HB6.out) (fun h => h)) hkp (fun h => h)
      have d2' := scell_keep d2 hkp (fun h => h)
      have cv' := scell_keep cv5 hkp (fun h => h)
      have ix1 := idx_ints n wc g1 k hlt
      have ix2 := idx_ints n vc g2 k hlt
      have hki : (k : Int) < (n : Int) := by omega
      have HKp := Lib.hid hkp
      clear d1 d2 hx hkp cv5
      go_upto_region 7 with fail
      go_quiet (fail)
      generalize hq : World.drewN _ _ = W7
      have HK7 := Lib.hid (show Keep (fun _ => False) W5 W7 from by rw [← hq]; exact HKp.out.drewN _)
      clear hq d1' d2' cv' ix1 ix2
      go_wp2_with fail
      go_roundw
      case rel => exact ⟨k + 1, by omega, by go_num, HK7.out⟩
      case measure => simp [intOf]; omega
    · obtain rfl : k = n := by omega
      have hki : ¬ (k : Int) < (k : Int) := by omega
      have HKp := Lib.hid hkp
      clear hkp cv5
      go_wp2_with fail
      go_ret
      exact ⟨rfl, HB6.out.trans (HKp.out.below HB6.out.size (fun _ _ h => h.elim))⟩
/-- Check's closure -/
theorem check1_any {w : World} {A : Nat → Prop} {p : Pl} {s : SS} (h : SpecAt w A p s) (hwf : WF s) (e : Ev) (bs : Nat) (hb : w.cell? ⟨bs, 0, none⟩ = some (spV p)) :
    Calls Try.prog 28 #[evV e, ptrV bs 0] w fun r w' => r = .returned (.bool (takeS s e).isNone) ∧ ∃ A' : Nat → Prop, SpecAt w' A' p ((takeS s e).getD s) ∧ Keep A w w' ∧ (∀ b, A' b → A b ∨ w.heap.size ≤ b) ∧ ∀ b, A b → A' b := by
  have H := Lib.hid h
  have HWF := Lib.hid hwf
  have HF := Lib.hid (Fr.boxed h e)
  have hbl : bs ≠ w.heap.size := fun k => by
    have : bs < w.heap.size := by
      unfold World.cell? at hb
      cases h3 : w.heap[bs]? with
      | none => simp [h3] at hb
      | some y => exact (Array.getElem?_eq_some_iff.1 h3).1
    omega
  have hb1 := scell_keep hb (Keep.ofBelow (Q := fun _ => False) ((Below.refl _ w).alloc (Nat.le_refl _) (.cells (evC e) 37))) (fun h => h)
  clear h hwf hb hbl
  go_enter Try.func28, Try.ntmps28
  go_upto_region 1 with fail
  generalize hW : w.alloc _ = W at HF hb1 ⊢
  obtain ⟨bx, hbx⟩ : ∃ bx, bx = w.heap.size := ⟨_, rfl⟩
  rw [← hbx] at HF ⊢
  clear hbx hW
  obtain ⟨_, b0, b1, b2, b3, b4, b5, b6, b7⟩ := HF.out.cells
  go_wp2_with fail
  refine (take_any HF.out.sp HWF.out e).mono ?_
  rintro r w9 hp9
  have HP9 := Lib.hid (HF.out.post hp9)
  obtain ⟨rfl, _⟩ := hp9
  clear b0 b1 b2 b3 b4 b5 b6 b7 hb1
  go_wp2_with fail
  go_ret
  obtain ⟨_, h5⟩ := HP9.out
  exact ⟨rfl, h5⟩
theorem check1_nil {w : World} (e : Ev) (bs : Nat) (hb : w.cell? ⟨bs, 0, none⟩ = some (.pointer none)) :
    Calls Try.prog 28 #[evV e, ptrV bs 0] w fun r w' => r = .returned (.bool true) ∧ Below w.heap.size w w' := by
  rcases e with ⟨kind, thr, idx, act, obj, oth, code, val⟩
  have hb1 := scell_keep hb (Keep.ofBelow (Q := fun _ => False) ((Below.refl _ w).alloc (Nat.le_refl _) (.cells (evC ⟨kind, thr, idx, act, obj, oth, code, val⟩) 37))) (fun h => h)
  clear hb
  go_enter Try.func28, Try.ntmps28
  go_wp2_with fail
  refine (take_nil kind thr idx act obj oth code val _).mono ?_
  rintro r w9 ⟨rfl, hb9⟩
  clear hb1
  go_wp2_with fail
  go_ret
  exact ⟨rfl, ((Below.refl _ w).alloc (Nat.le_refl _) _).trans (hb9.mono (by simp))⟩
set_option maxHeartbeats 4000000 in
theorem idx_all {w : World} {A : Nat → Prop} {p : Pl} {s : SS} (h : SpecAt w A p s) (hwf : WF s) (l : List Ev) (B off c bs : Nat) (hE : EvsAt w B off l) (hB : ¬ A B) (hb : w.cell? ⟨bs, 0, none⟩ = some (spV p)) (hbA : ¬ A bs) (hll : l.length ≤ 1000000) (hall : (takesS s l).2 = true) :
    Calls Try.prog 27 #[.slice (some ⟨B, off, none⟩) l.length c, .func (.func 28) #[] #[ptrV bs 0]] w fun r w' => r = .returned (.int .i64 (-1)) ∧ Keep A w w' := by
  have H := Lib.hid h
  have HWF := Lib.hid hwf
  have HE := Lib.hid hE
  have HB := Lib.hid hB
  have HBs := Lib.hid hb
  have HBA := Lib.hid hbA
  have HAll := Lib.hid hall
  obtain ⟨ll, hl0⟩ : ∃ ll, ll = l.length := ⟨_, rfl⟩
  have HLL := Lib.hid hl0
  rw [← hl0] at hll ⊢
  clear h hwf hE hB hb hbA hl0 hall
  go_enter Try.func27, Try.ntmps27
  go_upto_region 2 with fail
  go_loopw [8] (fun v8 wr => ∃ (k : Nat) (s1 : SS) (A1 : Nat → Prop), k ≤ ll ∧ v8 = .int .i64 k ∧ Hid (takesS s l = takesS s1 (l.drop k)) ∧ Hid (WF s1) ∧ SpecAt wr A1 p s1 ∧ Keep A w wr ∧ Hid ((∀ b, A1 b → A b ∨ w.heap.size ≤ b) ∧ ∀ b, A b → A1 b)) (fun v8 _ => ll - (intOf v8).toNat)
  case atStart => exact ⟨0, s, A, by omega, rfl, Lib.hid (by simp), HWF, H.out, Keep.refl _ _, Lib.hid ⟨fun b hb => .inl hb, fun _ hb => hb⟩⟩
  case round =>
    obtain ⟨k, s1, A1, hk, rfl, hr, hw, hs, hkp, hA⟩ := hrel
    by_cases hlt : k < ll
    · obtain ⟨e, he⟩ : ∃ e, l[k]? = some e := ⟨_, List.getElem?_eq_getElem (by rw [← HLL.out]; exact hlt)⟩
      have hEk := HE.out.keep hkp HB.out
      have b0 := hEk k e he 0 _ rfl
      have b1 := hEk k e he 1 _ rfl
      have b2 := hEk k e he 2 _ rfl
      have b3 := hEk k e he 3 _ rfl
      have b4 := hEk k e he 4 _ rfl
      have b5 := hEk k e he 5 _ rfl
      have b6 := hEk k e he 6 _ rfl
      have b7 := hEk k e he 7 _ rfl
      rw [Nat.add_zero] at b0
      have ix := idx_evs B off ll c k hlt
      have hki : (k : Int) < (ll : Int) := by omega
      have HS := Lib.hid hs
      have HKp := Lib.hid hkp
      have He := Lib.hid he
      have Hcb := Lib.hid (scell_keep HBs.out hkp HBA.out)
      have hef : ∀ args w, (callFunc 28 args).run Try.prog w = .ok (.enter 28 args) w := enters_of Try.func28 (by kernel_rfl) rfl
      clear hEk hs hkp he
      cases ht : takeS s1 e with
      | none =>
        exfalso
        have e9 := hr.out.trans (takesS_stop He.out ht)
        have := HAll.out
        rw [e9] at this
        cases this
      | some s2 =>
        have Ht := Lib.hid ht
        clear ht
        go_wp2_with fail
        refine (check1_any HS.out hw.out e bs Hcb.out).mono ?_
        rintro r w2 ⟨rfl, A2, h2, k2, a2, a3⟩
        clear b0 b1 b2 b3 b4 b5 b6 b7 ix hef
        have HK2 := Lib.hid (show Keep A w w2 from HKp.out.step k2 (fun i hi hq => (hA.out.1 i hq).resolve_right (by omega)))
        have HA2 := Lib.hid (show (∀ b, A2 b → A b ∨ w.heap.size ≤ b) ∧ ∀ b, A b → A2 b from ⟨fun b hb => (a2 b hb).elim (hA.out.1 b) (fun h => .inr (Nat.le_trans HKp.out.size h)), fun b hb => a3 b (hA.out.2 b hb)⟩)
        clear k2 a2 a3
        rw [Ht.out] at h2 ⊢
        have H2 := Lib.hid h2
        clear h2
        go_wp2_with fail
        go_roundw
        case rel => exact ⟨k + 1, s2, A2, by omega, by go_num, Lib.hid (hr.out.trans (takesS_step He.out Ht.out)), Lib.hid (takeS_wf hw.out Ht.out), H2.out, HK2.out, HA2⟩
        case measure => simp [intOf]; omega
    · obtain rfl : k = ll := by omega
      have hki : ¬ (k : Int) < (k : Int) := by omega
      have HS := Lib.hid hs
      have HKp := Lib.hid hkp
      clear hs hkp
      go_wp2_with fail
      go_ret
      exact ⟨rfl, HKp.out⟩
set_option maxHeartbeats 4000000 in
theorem idx_nil0 {w : World} (e : Ev) (l : List Ev) (B off c bs : Nat) (hE : EvsAt w B off (e :: l)) (hb : w.cell? ⟨bs, 0, none⟩ = some (.pointer none)) :
    Calls Try.prog 27 #[.slice (some ⟨B, off, none⟩) (l.length + 1) c, .func (.func 28) #[] #[ptrV bs 0]] w fun r w' => r = .returned (.int .i64 0) ∧ Below w.heap.size w w' := by
  have b0 := hE 0 e rfl 0 _ rfl
  have b1 := hE 0 e rfl 1 _ rfl
  have b2 := hE 0 e rfl 2 _ rfl
  have b3 := hE 0 e rfl 3 _ rfl
  have b4 := hE 0 e rfl 4 _ rfl
  have b5 := hE 0 e rfl 5 _ rfl
  have b6 := hE 0 e rfl 6 _ rfl
  have b7 := hE 0 e rfl 7 _ rfl
  simp only [Nat.zero_mul, Nat.add_zero] at b0 b1 b2 b3 b4 b5 b6 b7
  have ix := idx_evs B off (l.length + 1) c 0 (by omega)
  simp only [Nat.zero_mul, Nat.add_zero] at ix
  have HBs := Lib.hid hb
  have hef : ∀ args w, (callFunc 28 args).run Try.prog w = .ok (.enter 28 args) w := enters_of Try.func28 (by kernel_rfl) rfl
  generalize l.length = n at *
  have hn : (0 : Int) < ((n + 1 : Nat) : Int) := by omega
  clear hE hb
  go_enter Try.func27, Try.ntmps27
  go_upto_region 2 with fail
  go_loopw [8] (fun v8 wr => v8 = .int .i64 ((0 : Nat) : Int) ∧ wr = w) (fun v8 _ => 0)
  case atStart => exact ⟨rfl, rfl⟩
  case round =>
    obtain ⟨rfl, rfl⟩ := hrel
    go_wp2_with fail
    refine (check1_nil e bs HBs.out).mono ?_
    rintro r w2 ⟨rfl, hb2⟩
    clear b0 b1 b2 b3 b4 b5 b6 b7 ix hef
    go_wp2_with fail
    go_ret
    exact ⟨rfl, hb2⟩
theorem idx_none (v : Value) (w : World) : Calls Try.prog 27 #[.slice none 0 0, v] w fun r w' => r = .returned (.int .i64 (-1)) ∧ w = w' := by
  go_enter Try.func27, Try.ntmps27
  go_upto_region 2 with fail
  go_loopw [8] (fun v8 wr => v8 = .int .i64 ((0 : Nat) : Int) ∧ wr = w) (fun v8 _ => 0)
  case atStart => exact ⟨rfl, rfl⟩
  case round =>
    obtain ⟨rfl, rfl⟩ := hrel
    go_wp2_with fail
    go_ret
    exact ⟨rfl, rfl⟩
end Go.Proofs.Ytcgljmeppmdihaa
