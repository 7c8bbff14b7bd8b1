/- Package spec: act (written by tools/gensp9.py). -/
import Derived.Test.YtcgljmeppmdihaaSpN
namespace Go.Proofs.Ytcgljmeppmdihaa
open Go.ChangeShapes Go.WideShapes Go.ChangeAt Go.RowKit
set_option linter.unusedVariables false
set_option maxRecDepth 100000
set_option linter.unusedSimpArgs false
theorem evOf {w : World} {bx : Nat} {e : Ev} (h : Blk w bx 37 (evC e)) : (w.cell? ⟨bx, 0, none⟩ = some (.int .i64 e.kind) ∧ w.cell? ⟨bx, 1, none⟩ = some (.int .i64 e.thr) ∧ w.cell? ⟨bx, 2, none⟩ = some (.int .i64 e.idx) ∧ w.cell? ⟨bx, 3, none⟩ = some (.int .i64 e.act) ∧ w.cell? ⟨bx, 4, none⟩ = some (.int .i64 e.obj) ∧ w.cell? ⟨bx, 5, none⟩ = some (.int .i64 e.oth) ∧ w.cell? ⟨bx, 6, none⟩ = some (.int .i64 e.code) ∧ w.cell? ⟨bx, 7, none⟩ = some (.int .i64 e.val)) :=
  ⟨h.cell 0 _ rfl, h.cell 1 _ rfl, h.cell 2 _ rfl, h.cell 3 _ rfl, h.cell 4 _ rfl, h.cell 5 _ rfl, h.cell 6 _ rfl, h.cell 7 _ rfl⟩
theorem evKept {w W w' : World} {A : Nat → Prop} {p : Pl} {s : SS} {bx : Nat} {e : Ev} {r : Option SS} {v : Ending} (h : Fr w W A p s bx e) (hp : HandPost W A p s r v w') : Blk w' bx 37 (evC e) := by
  obtain ⟨_, _, _, h3, _⟩ := hp
  exact h.ev.keep h3 h.out
set_option maxHeartbeats 4000000 in
theorem act_6 {w : World} {A : Nat → Prop} {p : Pl} {s : SS} (h : SpecAt w A p s) {t : Nat} {x : Th} (hx : s.T[t]? = some x) (kind idx act obj oth code val : Int) (f : Nat) (R : Option SS) (h0 : x.pr ≠ 0) (h5 : x.pr ≠ 5) (ho : x.obj = obj) (hi : idx = 0) (hc : code = 0) (hv : val = 0) (op0 : 0 ≤ x.op) (op9 : x.op < 9) (f1 : handD.atKey (.int .i64 x.op) (.lit (.int .i64 (-1))) = .lit (.int .i64 (f : Int))) (eg : ∀ args w, (callFunc f args).run Try.prog w = .ok (.enter f args) w) (call : ∀ (W : World) (A : Nat → Prop) (p : Pl), SpecAt W A p s → Calls Try.prog f #[spV p, evV ⟨kind, (t : Int), idx, act, obj, oth, code, val⟩] W (HandPost W A p s R)) :
    Calls Try.prog 22 #[spV p, evV ⟨kind, (t : Int), idx, act, obj, oth, code, val⟩] w (HandPost w A p s R) := by
  have H := Lib.hid h
  have HX := Lib.hid hx
  have ix := idx_thrs p.T s.T.length p.cT t (thr_lt hx)
  have e0 : (x.pr == 0) = false := beq_eq_false_iff_ne.2 h0
  have e5 : (x.pr == 5) = false := beq_eq_false_iff_ne.2 h5
  have Hh0 := Lib.hid h0
  have Hh5 := Lib.hid h5
  have Hho := Lib.hid ho
  have Hhi := Lib.hid hi
  have Hhc := Lib.hid hc
  have Hhv := Lib.hid hv
  have Hop0 := Lib.hid op0
  have Hop9 := Lib.hid op9
  have Hf1 := Lib.hid f1
  have Heg := Lib.hid eg
  have Hcall := Lib.hid call
  have HF0 := Lib.hid (Fr.boxed h ⟨kind, (t : Int), idx, act, obj, oth, code, val⟩)
  clear h hx h0 h5 ho hi hc hv op0 op9 f1 eg call
  go_enter Try.func22, Try.ntmps22
  go_upto_region 1 with fail
  generalize hW : w.alloc _ = W at HF0 ⊢
  obtain ⟨bx, hbx⟩ : ∃ bx, bx = w.heap.size := ⟨_, rfl⟩
  rw [← hbx] at HF0 ⊢
  clear hbx hW
  obtain ⟨⟨c0, c1⟩, b0, b1, b2, b3, b4, b5, b6, b7⟩ := HF0.out.cells
  dsimp only at b0 b1 b2 b3 b4 b5 b6 b7
  rw [Hhi.out] at b2
  rw [Hhc.out] at b6
  rw [Hhv.out] at b7
  have xp := (HF0.out.sp.th HX.out).pr
  have xo := (HF0.out.sp.th HX.out).obj
  rw [Hho.out] at xo
  have xop := (HF0.out.sp.th HX.out).op
  go_quiet (fail)
  generalize hq : World.drewN _ _ = W2
  have HF1 := Lib.hid (show Fr w W2 A p s bx _ from by rw [← hq]; exact HF0.out.drewN _)
  clear hq HF0 c0 c1 b0 b1 b2 b3 b4 b5 b6 b7 xp xo xop
  obtain ⟨⟨c0, c1⟩, b0, b1, b2, b3, b4, b5, b6, b7⟩ := HF1.out.cells
  dsimp only at b0 b1 b2 b3 b4 b5 b6 b7
  rw [Hhi.out] at b2
  rw [Hhc.out] at b6
  rw [Hhv.out] at b7
  have xp := (HF1.out.sp.th HX.out).pr
  have xo := (HF1.out.sp.th HX.out).obj
  rw [Hho.out] at xo
  have xop := (HF1.out.sp.th HX.out).op
  go_upto_region 2 with fail
  go_quiet (fail)
  generalize hq : World.drewN _ _ = W3
  have HF2 := Lib.hid (show Fr w W3 A p s bx _ from by rw [← hq]; exact HF1.out.drewN _)
  clear hq HF1 c0 c1 b0 b1 b2 b3 b4 b5 b6 b7 xp xo xop
  obtain ⟨⟨c0, c1⟩, b0, b1, b2, b3, b4, b5, b6, b7⟩ := HF2.out.cells
  dsimp only at b0 b1 b2 b3 b4 b5 b6 b7
  rw [Hhi.out] at b2
  rw [Hhc.out] at b6
  rw [Hhv.out] at b7
  have xp := (HF2.out.sp.th HX.out).pr
  have xo := (HF2.out.sp.th HX.out).obj
  rw [Hho.out] at xo
  have xop := (HF2.out.sp.th HX.out).op
  clear xp xo e0 e5
  go_upto_region 4 with fail
  have HL := Lib.hid (fun W => handlers_any p W)
  have HFd := Lib.hid HF2.out.drew
  refine wp_region_held_drew (S := fun A => (A.cell? ⟨bx, 0, none⟩ = some (.int .i64 kind) ∧ A.cell? ⟨bx, 1, none⟩ = some (.int .i64 (t : Int)) ∧ A.cell? ⟨bx, 2, none⟩ = some (.int .i64 idx) ∧ A.cell? ⟨bx, 3, none⟩ = some (.int .i64 act) ∧ A.cell? ⟨bx, 4, none⟩ = some (.int .i64 obj) ∧ A.cell? ⟨bx, 5, none⟩ = some (.int .i64 oth) ∧ A.cell? ⟨bx, 6, none⟩ = some (.int .i64 code) ∧ A.cell? ⟨bx, 7, none⟩ = some (.int .i64 val))) (by kernel_rfl) (evOf (HFd.out).ev) (fun hHeld => ?_)
  clear c0 c1 b0 b1 b2 b3 b4 b5 b6 b7
  refine wpAnyH_take (i := 0) (oi := _) (v := ?_) rfl (by kernel_rfl) (by kernel_rfl) (by kernel_rfl) (fun _ _ _ h => h) (Or.inl ⟨by rfl, ?_⟩) (by assumption) ?_
  rotate_left
  · intro w hSw; (try dsimp only at hSw); go_simp; try with_reducible rfl
  (try simp only [Act.put, List.setIfInBounds_toArray, List.set_cons_zero, List.set_cons_succ])
  refine wpAnyH_take (i := 2) (oi := _) (v := ?_) rfl (by kernel_rfl) (by kernel_rfl) (by kernel_rfl) (fun _ _ _ h => h) (Or.inl ⟨by rfl, ?_⟩) (by assumption) ?_
  rotate_left
  · intro w hSw; (try dsimp only at hSw); go_simp; try with_reducible rfl
  (try simp only [Act.put, List.setIfInBounds_toArray, List.set_cons_zero, List.set_cons_succ])
  refine wpAnyH_take (i := 3) (oi := _) (v := ?_) rfl (by kernel_rfl) (by kernel_rfl) (by kernel_rfl) (fun _ _ _ h => h) (Or.inl ⟨by rfl, ?_⟩) (by assumption) ?_
  rotate_left
  · intro w hSw; (try dsimp only at hSw); go_simp; try with_reducible rfl
  (try simp only [Act.put, List.setIfInBounds_toArray, List.set_cons_zero, List.set_cons_succ])
  refine wpAnyH_take (i := 4) (oi := _) (v := ?_) rfl (by kernel_rfl) (by kernel_rfl) (by kernel_rfl) (fun _ _ _ h => h) (Or.inl ⟨by rfl, ?_⟩) (by assumption) ?_
  rotate_left
  · intro w hSw; (try dsimp only at hSw); go_simp; try with_reducible rfl
  (try simp only [Act.put, List.setIfInBounds_toArray, List.set_cons_zero, List.set_cons_succ])
  refine wpAnyH_take (i := 5) (oi := _) (v := ?_) rfl (by kernel_rfl) (by kernel_rfl) (by kernel_rfl) (fun _ _ _ h => h) (Or.inl ⟨by rfl, ?_⟩) (by assumption) ?_
  rotate_left
  · intro w hSw; (try dsimp only at hSw); go_simp; try with_reducible rfl
  (try simp only [Act.put, List.setIfInBounds_toArray, List.set_cons_zero, List.set_cons_succ])
  refine wpAnyH_take (i := 8) (oi := _) (v := ?_) rfl (by kernel_rfl) (by kernel_rfl) (by kernel_rfl) (fun _ _ _ h => h) (Or.inl ⟨by rfl, ?_⟩) (by assumption) ?_
  rotate_left
  · intro w hSw; (try dsimp only at hSw); go_simp; try with_reducible rfl
  (try simp only [Act.put, List.setIfInBounds_toArray, List.set_cons_zero, List.set_cons_succ])
  refine wpAnyH_ready (rs := [1, 6]) (by kernel_rfl) (by simp) ?_
  refine AllReadyH.cons rfl (fun K hK => ?_) (AllReadyH.cons rfl (fun K hK => ?_) AllReadyH.nil)
  · go_simp
    refine (HL.out _).mono ?_
    rintro e w4 ⟨rfl, hb4, hm4⟩
    have HF4 := Lib.hid (HFd.out.below hb4)
    have hlk := hm4.look Hop0.out Hop9.out Hf1.out
    change Sem.run Try.prog (Instr.lookup 82 (.map (some W3.heap.size)) (.int .i64 x.op) false) w4 = _ at hlk
    clear hb4 hm4
    go_wp2_with fail
    refine hK.out _ _ (evOf (HF4.out).ev) (fun hHeld => ?_)
    clear hK K
    (try dsimp only [Act.put]); (try simp only [Act.put, List.setIfInBounds_toArray, List.set_cons_zero, List.set_cons_succ])
    have xop4 := (HF4.out.sp.th HX.out).op
    refine wpAnyH_ready (rs := [6]) (by kernel_rfl) (by simp) ?_
    refine AllReadyH.cons rfl (fun K hK => ?_) AllReadyH.nil
    go_simp
    go_wp2_with fail
    refine hK.out _ _ (evOf (HF4.out).ev) (fun hHeld => ?_)
    clear hK K
    (try dsimp only [Act.put]); (try simp only [Act.put, List.setIfInBounds_toArray, List.set_cons_zero, List.set_cons_succ])
    refine wpAnyH_ready (rs := [7]) (by kernel_rfl) (by simp) ?_
    refine AllReadyH.cons rfl (fun K hK => ?_) AllReadyH.nil
    go_simp
    go_wp2_with fail
    refine hK.out _ _ (evOf (HF4.out).ev) (fun hHeld => ?_)
    clear hK K hlk
    (try dsimp only [Act.put]); (try simp only [Act.put, List.setIfInBounds_toArray, List.set_cons_zero, List.set_cons_succ])
    refine wpAnyH_ready (rs := [9]) (by kernel_rfl) (by simp) ?_
    refine AllReadyH.cons rfl (fun K hK => ?_) AllReadyH.nil
    have hegf := Heg.out
    go_simp
    refine (Hcall.out _ _ _ HF4.out.sp).mono ?_
    rintro e w9 hp9
    have HP9 := Lib.hid (HF4.out.post hp9)
    have HE9 := Lib.hid (evKept HF4.out hp9)
    obtain ⟨rfl, _⟩ := hp9
    clear hegf
    go_wp2_with fail
    refine hK.out _ _ (evOf HE9.out) (fun hHeld => ?_)
    clear hK K
    (try dsimp only [Act.put]); (try simp only [Act.put, List.setIfInBounds_toArray, List.set_cons_zero, List.set_cons_succ])
    refine wpAnyH_ready (rs := [10]) (by kernel_rfl) (by simp) ?_
    refine AllReadyH.cons rfl (fun K hK => ?_) AllReadyH.nil
    go_simp
    go_wp2_with fail
    refine hK.out _ _ (evOf HE9.out) (fun hHeld => ?_)
    clear hK K
    (try dsimp only [Act.put]); (try simp only [Act.put, List.setIfInBounds_toArray, List.set_cons_zero, List.set_cons_succ])
    refine wpAnyH_done (by kernel_rfl) ?_ _
    go_wp2_with fail
    go_ret
    exact HP9.out
  · go_simp
    go_wp2_with fail
    refine hK.out _ _ (evOf (HFd.out).ev) (fun hHeld => ?_)
    clear hK K
    (try dsimp only [Act.put]); (try simp only [Act.put, List.setIfInBounds_toArray, List.set_cons_zero, List.set_cons_succ])
    refine wpAnyH_ready (rs := [1]) (by kernel_rfl) (by simp) ?_
    refine AllReadyH.cons rfl (fun K hK => ?_) AllReadyH.nil
    go_simp
    refine (HL.out _).mono ?_
    rintro e w4 ⟨rfl, hb4, hm4⟩
    have HF4 := Lib.hid (HFd.out.below hb4)
    have hlk := hm4.look Hop0.out Hop9.out Hf1.out
    change Sem.run Try.prog (Instr.lookup 82 (.map (some W3.heap.size)) (.int .i64 x.op) false) w4 = _ at hlk
    clear hb4 hm4
    go_wp2_with fail
    refine hK.out _ _ (evOf (HF4.out).ev) (fun hHeld => ?_)
    clear hK K
    (try dsimp only [Act.put]); (try simp only [Act.put, List.setIfInBounds_toArray, List.set_cons_zero, List.set_cons_succ])
    refine wpAnyH_ready (rs := [7]) (by kernel_rfl) (by simp) ?_
    refine AllReadyH.cons rfl (fun K hK => ?_) AllReadyH.nil
    go_simp
    go_wp2_with fail
    refine hK.out _ _ (evOf (HF4.out).ev) (fun hHeld => ?_)
    clear hK K hlk
    (try dsimp only [Act.put]); (try simp only [Act.put, List.setIfInBounds_toArray, List.set_cons_zero, List.set_cons_succ])
    refine wpAnyH_ready (rs := [9]) (by kernel_rfl) (by simp) ?_
    refine AllReadyH.cons rfl (fun K hK => ?_) AllReadyH.nil
    have hegf := Heg.out
    go_simp
    refine (Hcall.out _ _ _ HF4.out.sp).mono ?_
    rintro e w9 hp9
    have HP9 := Lib.hid (HF4.out.post hp9)
    have HE9 := Lib.hid (evKept HF4.out hp9)
    obtain ⟨rfl, _⟩ := hp9
    clear hegf
    go_wp2_with fail
    refine hK.out _ _ (evOf HE9.out) (fun hHeld => ?_)
    clear hK K
    (try dsimp only [Act.put]); (try simp only [Act.put, List.setIfInBounds_toArray, List.set_cons_zero, List.set_cons_succ])
    refine wpAnyH_ready (rs := [10]) (by kernel_rfl) (by simp) ?_
    refine AllReadyH.cons rfl (fun K hK => ?_) AllReadyH.nil
    go_simp
    go_wp2_with fail
    refine hK.out _ _ (evOf HE9.out) (fun hHeld => ?_)
    clear hK K
    (try dsimp only [Act.put]); (try simp only [Act.put, List.setIfInBounds_toArray, List.set_cons_zero, List.set_cons_succ])
    refine wpAnyH_done (by kernel_rfl) ?_ _
    go_wp2_with fail
    go_ret
    exact HP9.out
/-- act -/
theorem act_any {w : World} {A : Nat → Prop} {p : Pl} {s : SS} (h : SpecAt w A p s) (hwf : WF s) {t : Nat} {x : Th} (hx : s.T[t]? = some x) (kind idx act obj oth code val : Int) :
    Calls Try.prog 22 #[spV p, evV ⟨kind, (t : Int), idx, act, obj, oth, code, val⟩] w (HandPost w A p s (actS s t x ⟨kind, (t : Int), idx, act, obj, oth, code, val⟩)) := by
  unfold actS
  dsimp only
  by_cases h0 : x.pr = 0
  · rw [if_pos (.inl h0)]; exact act_1 h hx kind idx act obj oth code val h0
  by_cases h5 : x.pr = 5
  · rw [if_pos (.inr (.inl h5))]; exact act_2 h hx kind idx act obj oth code val h5
  by_cases ho : obj = x.obj
  rotate_left
  · rw [if_pos (.inr (.inr (.inl ho)))]; exact act_3 h hx kind idx act obj oth code val h0 h5 ho
  by_cases hi : idx = 0
  rotate_left
  · rw [if_pos (.inr (.inr (.inr (.inl hi))))]; exact act_4 h hx kind idx act obj oth code val h0 h5 ho.symm hi
  by_cases hc : code = 0
  rotate_left
  · rw [if_pos (.inr (.inr (.inr (.inr (.inl hc)))))]; exact act_5 h hx kind idx act obj oth code val h0 h5 ho.symm hi hc
  by_cases hv : val = 0
  rotate_left
  · rw [if_pos (.inr (.inr (.inr (.inr (.inr hv)))))]; exact act_5b h hx kind idx act obj oth code val h0 h5 ho.symm hi hc hv
  rw [if_neg (fun k => by omega)]
  have hth := hwf.th t x hx h0 h5
  obtain ⟨b, hb⟩ : ∃ b, s.O[x.obj.toNat]? = some b := ⟨_, List.getElem?_eq_getElem (by omega)⟩
  rw [hb]
  dsimp only
  have hxo : x.obj = (x.obj.toNat : Int) := by omega
  obtain ⟨f, f1, eg, hcall⟩ := hand_pick hwf hx hb hxo h0 h5 kind idx act oth code val
  rw [← hxo] at hcall
  subst ho
  exact act_6 h hx kind idx act x.obj oth code val f _ h0 h5 rfl hi hc hv hth.1 hth.2.1 f1 eg hcall
end Go.Proofs.Ytcgljmeppmdihaa
