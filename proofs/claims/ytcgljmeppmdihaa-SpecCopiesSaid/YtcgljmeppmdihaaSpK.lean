/- Package spec: the release of a wait (written by tools/gen_sp.py). -/
import Derived.Test.YtcgljmeppmdihaaSpF
import Derived.Test.YtcgljmeppmdihaaSpG
namespace Go.Proofs.Ytcgljmeppmdihaa
open Go.ChangeShapes Go.WideShapes Go.ChangeAt Go.RowKit
set_option linter.unusedVariables false
set_option maxRecDepth 100000
set_option linter.unusedSimpArgs false
theorem int_info : (Try.prog.info? 3).map (fun i => (i.zero, i.size, i.bytes)) = some (some (.int .i64 0), 1, 8) := by kernel_rfl
theorem news_one {w : World} {B : Nat} {x : Value} (h : Blk w B 3 #[x]) : ∀ (j : Nat) (u : Value), [x][j]? = some u → w.cell? ((⟨B, 0, none⟩ : Addr).add j) = some u := by
  intro j u hj
  have := h.cell j u (by simpa using hj)
  rw [saddr_add, Nat.zero_add]
  exact this
theorem SpecAt.relT {w : World} {A : Nat → Prop} {p : Pl} {s : SS} (h : SpecAt w A p s) {t : Nat} {x : Th} (hx : s.T[t]? = some x) (d : Int) :
    SpecAt ((w.setCell ⟨p.T, t * 9 + 6, none⟩ (.int .i64 d)).setCell ⟨p.T, t * 9 + 3, none⟩ (.int .i64 2)) A p (s.setT t { x with dep := d, pr := 2 }) := by
  have h1 := h.setT hx (x' := { x with dep := d }) 6 (.int .i64 d) (by omega) rfl
  have h2 := h1.setT (setT_get _ hx) (x' := { x with dep := d, pr := 2 }) 3 (.int .i64 2) (by omega) rfl
  rw [setT2] at h2
  exact h2
set_option maxHeartbeats 4000000 in
theorem begi_4 {w : World} {A : Nat → Prop} {p : Pl} {s : SS} (h : SpecAt w A p s) {t o : Nat} {x : Th} {b : Ob} (hx : s.T[t]? = some x) (hb : s.O[o]? = some b) (kind idx act oth code val : Int) (hwf : WF s) (h1 : act = 2) (h2 : oth = 0) (ho : b.own = (t : Int)) :
    Calls Try.prog 70 #[spV p, evV ⟨kind, (t : Int), idx, act, (o : Int), oth, code, val⟩] w (HandPost w A p s (some ((s.setT t { x with dep := b.dep, pr := 2 }).setO o ⟨-1, 0, b.line ++ [(t : Int)]⟩))) := by
  have H := Lib.hid h
  have HX := Lib.hid hx
  have HB := Lib.hid hb
  have ix := idx_thrs p.T s.T.length p.cT t (thr_lt hx)
  have iy := idx_objs p.O s.O.length p.cO o (obj_lt hb)
  have Hhwf := Lib.hid hwf
  have Hh1 := Lib.hid h1
  have Hh2 := Lib.hid h2
  have Hho := Lib.hid ho
  have HF0 := Lib.hid (Fr.boxed h ⟨kind, (t : Int), idx, act, (o : Int), oth, code, val⟩)
  clear h hx hb hwf h1 h2 ho
  go_enter Try.func70, Try.ntmps70
  go_upto_region 1 with fail
  generalize hW : w.alloc _ = W at HF0 ⊢
  obtain ⟨bx, hbx⟩ : ∃ bx, bx = w.heap.size := ⟨_, rfl⟩
  rw [← hbx] at HF0 ⊢
  clear hbx hW
  obtain ⟨⟨c0, c1⟩, b0, b1, b2, b3, b4, b5, b6, b7⟩ := HF0.out.cells
  have oc := (HF0.out.sp.ob HB.out).1
  rw [Hho.out] at oc
  have od := (HF0.out.sp.ob HB.out).2
  have xd := (HF0.out.sp.th HX.out).dep
  have xp := (HF0.out.sp.th HX.out).pr
  have fo0 := HF0.out.sp.freeO (o * 3)
  have fo1 := HF0.out.sp.freeO (o * 3 + 1)
  go_quiet (fail)
  go_upto_region 2 with fail
  go_quiet (fail)
  generalize hq : World.drewN _ _ = W2
  have HF1 := Lib.hid (show Fr w W2 A p s bx _ from by rw [← hq]; exact ((HF0.out.drewN _).drewN _))
  clear HF0 c0 c1 b0 b1 b2 b3 b4 b5 b6 b7 oc od xd xp fo0 fo1
  obtain ⟨⟨c0, c1⟩, b0, b1, b2, b3, b4, b5, b6, b7⟩ := HF1.out.cells
  have oc := (HF1.out.sp.ob HB.out).1
  rw [Hho.out] at oc
  have od := (HF1.out.sp.ob HB.out).2
  have xd := (HF1.out.sp.th HX.out).dep
  have xp := (HF1.out.sp.th HX.out).pr
  have fo0 := HF1.out.sp.freeO (o * 3)
  have fo1 := HF1.out.sp.freeO (o * 3 + 1)
  clear hq
  go_wp2_with fail
  refine (refuses_no ⟨kind, (t : Int), idx, act, (o : Int), oth, code, val⟩ (4) _ (by intro hh; dsimp only at hh; have h1 := Hh1.out; omega)).mono ?_
  rintro r2 w2 ⟨rfl, hb2⟩
  have HF2 := Lib.hid (HF1.out.below hb2)
  clear HF1 c0 c1 b0 b1 b2 b3 b4 b5 b6 b7 oc od xd xp fo0 fo1
  obtain ⟨⟨c0, c1⟩, b0, b1, b2, b3, b4, b5, b6, b7⟩ := HF2.out.cells
  have oc := (HF2.out.sp.ob HB.out).1
  rw [Hho.out] at oc
  have od := (HF2.out.sp.ob HB.out).2
  have xd := (HF2.out.sp.th HX.out).dep
  have xp := (HF2.out.sp.th HX.out).pr
  have fo0 := HF2.out.sp.freeO (o * 3)
  have fo1 := HF2.out.sp.freeO (o * 3 + 1)
  clear hb2
  go_wp2_with fail
  refine (refuses_no ⟨kind, (t : Int), idx, act, (o : Int), oth, code, val⟩ (3) _ (by intro hh; dsimp only at hh; have h1 := Hh1.out; omega)).mono ?_
  rintro r3 w3 ⟨rfl, hb3⟩
  have HF3 := Lib.hid (HF2.out.below hb3)
  clear HF2 c0 c1 b0 b1 b2 b3 b4 b5 b6 b7 oc od xd xp fo0 fo1
  obtain ⟨⟨c0, c1⟩, b0, b1, b2, b3, b4, b5, b6, b7⟩ := HF3.out.cells
  have oc := (HF3.out.sp.ob HB.out).1
  rw [Hho.out] at oc
  have od := (HF3.out.sp.ob HB.out).2
  have xd := (HF3.out.sp.th HX.out).dep
  have xp := (HF3.out.sp.th HX.out).pr
  have fo0 := HF3.out.sp.freeO (o * 3)
  have fo1 := HF3.out.sp.freeO (o * 3 + 1)
  clear hb3
  go_wp2_with fail
  refine (is_no ⟨kind, (t : Int), idx, act, (o : Int), oth, code, val⟩ (7) (0) _ (by intro hh; dsimp only at hh; have h1 := Hh1.out; omega)).mono ?_
  rintro r4 w4 ⟨rfl, hb4⟩
  have HF4 := Lib.hid (HF3.out.below hb4)
  clear HF3 c0 c1 b0 b1 b2 b3 b4 b5 b6 b7 oc od xd xp fo0 fo1
  obtain ⟨⟨c0, c1⟩, b0, b1, b2, b3, b4, b5, b6, b7⟩ := HF4.out.cells
  have oc := (HF4.out.sp.ob HB.out).1
  rw [Hho.out] at oc
  have od := (HF4.out.sp.ob HB.out).2
  have xd := (HF4.out.sp.th HX.out).dep
  have xp := (HF4.out.sp.th HX.out).pr
  have fo0 := HF4.out.sp.freeO (o * 3)
  have fo1 := HF4.out.sp.freeO (o * 3 + 1)
  clear hb4
  go_wp2_with fail
  refine (is_yes ⟨kind, (t : Int), idx, act, (o : Int), oth, code, val⟩ (2) (0) _ Hh1.out Hh2.out).mono ?_
  rintro r5 w5 ⟨rfl, hb5⟩
  have HF5 := Lib.hid (HF4.out.below hb5)
  clear HF4 c0 c1 b0 b1 b2 b3 b4 b5 b6 b7 oc od xd xp fo0 fo1
  obtain ⟨⟨c0, c1⟩, b0, b1, b2, b3, b4, b5, b6, b7⟩ := HF5.out.cells
  have oc := (HF5.out.sp.ob HB.out).1
  rw [Hho.out] at oc
  have od := (HF5.out.sp.ob HB.out).2
  have xd := (HF5.out.sp.th HX.out).dep
  have xp := (HF5.out.sp.th HX.out).pr
  have fo0 := HF5.out.sp.freeO (o * 3)
  have fo1 := HF5.out.sp.freeO (o * 3 + 1)
  clear hb5
  have hTm := HF5.out.sp.mine.2.1
  have hOm := HF5.out.sp.mine.2.2
  have hTO := HF5.out.sp.apart.2.2
  have hOT : p.O ≠ p.T := fun e => hTO e.symm
  have f6 := HF5.out.sp.freeT (t * 9 + 6)
  have f3 := HF5.out.sp.freeT (t * 9 + 3)
  have HS1 := Lib.hid (HF5.out.step (HF5.out.sp.relT HX.out b.dep) (((Keep.refl A _).set (fun _ => hTm) _).set (fun _ => hTm) _))
  have HS2 := Lib.hid (HS1.out.step (HS1.out.sp.own2 (b := b) HB.out (-1) 0) (((Keep.refl A _).set (fun _ => hOm) _).set (fun _ => hOm) _))
  clear HS1
  go_upto_region 13 with fail
  generalize hq : World.setCell _ _ _ = Ws at HS2 ⊢
  clear hq HF5 c0 c1 b0 b1 b2 b3 b4 b5 b6 b7 oc od xd xp fo0 fo1 f6 f3
  have hb2 : ((s.setT t { x with dep := b.dep, pr := 2 }).setO o { b with own := -1, dep := 0 }).O[o]? = some { b with own := -1, dep := 0 } := set_same HB.out
  obtain ⟨V, hR, hL⟩ := HS2.out.sp.obs
  obtain ⟨v, hv⟩ : ∃ v, v = V o := ⟨_, rfl⟩
  have cl := hR.cell hb2 2 _ rfl
  have hrow := hL.row o _ hb2
  dsimp only at hrow
  rw [← hv] at cl hrow
  have hbA := HS2.out.out
  have eb := (evAt HS2.out.ev).b1
  dsimp only at eb
  have HR := Lib.hid hR
  have HL := Lib.hid hL
  have HV := Lib.hid hv
  have HRow := Lib.hid hrow
  have HB2 := Lib.hid hb2
  have hll : b.line.length ≤ 32766 := Nat.le_trans (Hhwf.out.len HB.out) Hhwf.out.sz.1
  clear hR hL hv hrow hb2
  obtain ⟨i0, hi0, hz0, hz1, hz2⟩ := info_parts int_info
  refine wp_region_held_drew (S := (fun A : World => A.cell? ⟨bx, 1, none⟩ = some (.int .i64 (t : Int)))) (by kernel_rfl) eb (fun hHeld => ?_)
  refine wpAnyH_take (i := 0) (oi := _) (v := ?_) rfl (by kernel_rfl) (by kernel_rfl) (by kernel_rfl) (fun _ _ _ h => h) (Or.inl ⟨by rfl, ?_⟩) (by assumption) ?_
  rotate_left
  · intro w hSw; (try dsimp only at hSw); go_simp; try with_reducible rfl
  (try simp only [Act.put, List.setIfInBounds_toArray, List.set_cons_zero, List.set_cons_succ])
  refine wpAnyH_take (i := 1) (oi := _) (v := ?_) rfl (by kernel_rfl) (by kernel_rfl) (by kernel_rfl) (fun _ _ _ h => h) (Or.inl ⟨by rfl, ?_⟩) (by assumption) ?_
  rotate_left
  · intro w hSw; (try dsimp only at hSw); go_simp; try with_reducible rfl
  (try simp only [Act.put, List.setIfInBounds_toArray, List.set_cons_zero, List.set_cons_succ])
  refine wpAnyH_take (i := 2) (oi := _) (v := ?_) rfl (by kernel_rfl) (by kernel_rfl) (by kernel_rfl) (fun _ _ _ h => h) (Or.inl ⟨by rfl, ?_⟩) (by assumption) ?_
  rotate_left
  · intro w hSw; (try dsimp only at hSw); go_simp; try with_reducible rfl
  (try simp only [Act.put, List.setIfInBounds_toArray, List.set_cons_zero, List.set_cons_succ])
  refine wpAnyH_take (i := 3) (oi := _) (v := ?_) rfl (by kernel_rfl) (by kernel_rfl) (by kernel_rfl) (fun _ _ _ h => h) (Or.inl ⟨by rfl, ?_⟩) (by assumption) ?_
  rotate_left
  · intro w hSw; (try dsimp only at hSw); go_simp; try with_reducible rfl
  (try simp only [Act.put, List.setIfInBounds_toArray, List.set_cons_zero, List.set_cons_succ])
  refine wpAnyH_take (i := 5) (oi := _) (v := ?_) rfl (by kernel_rfl) (by kernel_rfl) (by kernel_rfl) (fun _ _ _ h => h) (Or.inl ⟨by rfl, ?_⟩) (by assumption) ?_
  rotate_left
  · intro w hSw; (try dsimp only at hSw); go_simp; try with_reducible rfl
  (try simp only [Act.put, List.setIfInBounds_toArray, List.set_cons_zero, List.set_cons_succ])
  refine wpAnyH_take (i := 6) (oi := _) (v := ?_) rfl (by kernel_rfl) (by kernel_rfl) (by kernel_rfl) (fun _ _ _ h => h) (Or.inl ⟨by rfl, ?_⟩) (by assumption) ?_
  rotate_left
  · intro w hSw; (try dsimp only at hSw); go_simp; try with_reducible rfl
  (try simp only [Act.put, List.setIfInBounds_toArray, List.set_cons_zero, List.set_cons_succ])
  refine wpAnyH_ready (rs := [4, 7]) (by kernel_rfl) (by simp) ?_
  refine AllReadyH.cons rfl (fun K hK => ?_) (AllReadyH.cons rfl (fun K hK => ?_) AllReadyH.nil)
  · go_simp
    refine hK.out _ _ eb (fun hHeld => ?_)
    clear hK K
    (try dsimp only [Act.put]); (try simp only [Act.put, List.setIfInBounds_toArray, List.set_cons_zero, List.set_cons_succ])
    refine wpAnyH_ready (rs := [7]) (by kernel_rfl) (by simp) ?_
    refine AllReadyH.cons rfl (fun K hK => ?_) AllReadyH.nil
    go_simp
    go_wp2_with fail
    generalize hq : World.drew _ = Wa
    have hbl : Below Ws.heap.size Ws Wa := by rw [← hq]; exact ((Below.refl _ Ws).alloc (Nat.le_refl _) _).trans ⟨rfl, rfl, rfl, by simp [World.drew], fun _ _ => rfl⟩
    have hba : Blk Wa Ws.heap.size 3 #[.int .i64 (t : Int)] := by rw [← hq]; exact (Blk.new Ws _ _).drew
    have hsz : Wa.heap.size = Ws.heap.size + 1 := by rw [← hq]; simp [World.drew]
    clear hq
    have cl2 := scell_keep cl (Keep.ofBelow (Q := fun _ => False) hbl) (fun h => h)
    have eb2 := scell_keep eb (Keep.ofBelow (Q := fun _ => False) hbl) (fun h => h)
    refine hK.out _ _ eb2 (fun hHeld => ?_)
    clear hK K cl eb
    (try dsimp only [Act.put]); (try simp only [Act.put, List.setIfInBounds_toArray, List.set_cons_zero, List.set_cons_succ])
    refine wpAnyH_ready (rs := [8]) (by kernel_rfl) (by simp) ?_
    refine AllReadyH.cons rfl (fun K hK => ?_) AllReadyH.nil
    rw [if_pos (by kernel_rfl)]
    have hrow2 := row_ownkeep HRow.out (Keep.ofBelow (Q := fun _ => False) hbl) (fun _ _ h => h)
    refine wp_append_own2 _ _ _ _ rfl 0 3 i0 (.int .i64 0) 1 8 Try.underlying30 hi0 hz0 hz1 hz2 rfl (by decide) v b.line.length (iL b.line) rfl hrow2 ⟨Ws.heap.size, 0, none⟩ 1 1 [.int .i64 (t : Int)] rfl rfl (news_one hba) (by simp [Value.oneCell']) (by unfold maxLen; omega) (by omega) (by omega) (by omega) ?_
    intro g cap w5 hr5 hg5 hgg
    have hka : Keep (fun k => v.ownBlock = some k) Wa w5 := ⟨hg5.os, hg5.tape, hg5.output, hg5.size, fun k hk hn => hg5.block k hk (fun e => hn e.symm)⟩
    have hkw : Keep (fun k => v.ownBlock = some k) Ws w5 := ((Keep.ofBelow hbl).mono (fun _ _ h => h)).trans hka
    have hvO : ∀ k, v.ownBlock = some k → k ≠ p.O ∧ A k := fun k hk2 => by rw [HV.out] at hk2; exact ⟨(line_apart HS2.out.sp HL.out (obj_lt HB2.out) hk2).2.2, HL.out.mine o k (obj_lt HB2.out) hk2⟩
    have cl5 := scell_keep cl2 hka (fun e => (hvO _ e).1 rfl)
    have eb5 := scell_keep eb2 hka (fun e => hbA (hvO _ e).2)
    have fo5 : w5.frozen? ⟨p.O, o * 3 + 2, none⟩ = false := (HR.out.keep hkw (fun e => (hvO _ e).1 rfl)).free _
    have hg2 : v.ownBlock = some g ∨ Ws.heap.size ≤ g := hgg.imp id (fun h => by omega)
    have hgl := (row_lt hr5 (g := g) rfl).1
    have HF55 := Lib.hid (HS2.out.sp.setLine (A' := fun k => A k ∨ k = g) (w1 := w5) HB2.out HR.out HL.out (v' := .slice (some ⟨g, 0, none⟩) (b.line.length + 1) cap) (l' := b.line ++ [(t : Int)]) (by rw [← HV.out]; exact hkw) (by simpa [iL] using hr5) (fun k hk2 => by rw [← HV.out]; exact (own_some hk2) ▸ hg2) (fun k hk2 => .inr (own_some hk2).symm) (fun _ h => .inl h) (fun k hk2 => hk2.elim (fun h => Nat.lt_of_lt_of_le (HS2.out.sp.lt k h) hkw.size) (fun h => h ▸ hgl)))
    have HKw := Lib.hid (show Keep A w w5 from HS2.out.kp.trans (hkw.mono (fun k _ e => (hvO k e).2)))
    have hgA : ∀ k, k = g → A k ∨ w.heap.size ≤ k := fun k e => by subst e; exact hg2.imp (fun h => (hvO _ h).2) (fun h => Nat.le_trans HS2.out.kp.size h)
    clear hr5 hg5 hgg hka hkw hvO hg2 hgl hrow2 hba hbl cl2 eb2
    refine hK.out _ _ eb5 (fun hHeld => ?_)
    clear hK K
    (try dsimp only [Act.put]); (try simp only [Act.put, List.setIfInBounds_toArray, List.set_cons_zero, List.set_cons_succ])
    refine wpAnyH_take (i := 9) (oi := _) (v := ?_) rfl (by kernel_rfl) (by kernel_rfl) (by kernel_rfl) (fun _ _ _ h => h) (Or.inl ⟨by rfl, ?_⟩) (by assumption) ?_
    rotate_left
    · intro w hSw; (try dsimp only at hSw); go_simp; try with_reducible rfl
    (try simp only [Act.put, List.setIfInBounds_toArray, List.set_cons_zero, List.set_cons_succ])
    refine wpAnyH_take (i := 10) (oi := _) (v := ?_) rfl (by kernel_rfl) (by kernel_rfl) (by kernel_rfl) (fun _ _ _ h => h) (Or.inl ⟨by rfl, ?_⟩) (by assumption) ?_
    rotate_left
    · intro w hSw; (try dsimp only at hSw); go_simp; try with_reducible rfl
    (try simp only [Act.put, List.setIfInBounds_toArray, List.set_cons_zero, List.set_cons_succ])
    refine wpAnyH_ready (rs := [11]) (by kernel_rfl) (by simp) ?_
    refine AllReadyH.cons rfl (fun K hK => ?_) AllReadyH.nil
    go_simp
    go_wp2_with fail
    refine hK.out _ _ (scell_keep eb5 (set_keep _) (fun e => hbA (by have e2 : bx = p.O := e; rw [e2]; exact hOm))) (fun hHeld => ?_)
    clear hK K
    (try dsimp only [Act.put]); (try simp only [Act.put, List.setIfInBounds_toArray, List.set_cons_zero, List.set_cons_succ])
    refine wpAnyH_done (by kernel_rfl) ?_ _
    go_wp2_with fail
    go_ret
    have HF56 := HF55.out
    rw [show ((s.setT t { x with dep := b.dep, pr := 2 }).setO o { b with own := -1, dep := 0 }).setO o { b with own := -1, dep := 0, line := b.line ++ [(t : Int)] } = (s.setT t { x with dep := b.dep, pr := 2 }).setO o ⟨-1, 0, b.line ++ [(t : Int)]⟩ from by simp [SS.setO]] at HF56
    exact ⟨rfl, _, HF56, HKw.out.set (fun _ => hOm) _, fun k hk2 => hk2.elim .inl (fun e => hgA k e), fun _ h => .inl h⟩
  · go_simp
    go_wp2_with fail
    generalize hq : World.drew _ = Wa
    have hbl : Below Ws.heap.size Ws Wa := by rw [← hq]; exact ((Below.refl _ Ws).alloc (Nat.le_refl _) _).trans ⟨rfl, rfl, rfl, by simp [World.drew], fun _ _ => rfl⟩
    have hba : Blk Wa Ws.heap.size 3 #[.int .i64 (t : Int)] := by rw [← hq]; exact (Blk.new Ws _ _).drew
    have hsz : Wa.heap.size = Ws.heap.size + 1 := by rw [← hq]; simp [World.drew]
    clear hq
    have cl2 := scell_keep cl (Keep.ofBelow (Q := fun _ => False) hbl) (fun h => h)
    have eb2 := scell_keep eb (Keep.ofBelow (Q := fun _ => False) hbl) (fun h => h)
    refine hK.out _ _ eb2 (fun hHeld => ?_)
    clear hK K cl eb
    (try dsimp only [Act.put]); (try simp only [Act.put, List.setIfInBounds_toArray, List.set_cons_zero, List.set_cons_succ])
    refine wpAnyH_ready (rs := [4]) (by kernel_rfl) (by simp) ?_
    refine AllReadyH.cons rfl (fun K hK => ?_) AllReadyH.nil
    go_simp
    refine hK.out _ _ eb2 (fun hHeld => ?_)
    clear hK K
    (try dsimp only [Act.put]); (try simp only [Act.put, List.setIfInBounds_toArray, List.set_cons_zero, List.set_cons_succ])
    refine wpAnyH_ready (rs := [8]) (by kernel_rfl) (by simp) ?_
    refine AllReadyH.cons rfl (fun K hK => ?_) AllReadyH.nil
    rw [if_pos (by kernel_rfl)]
    have hrow2 := row_ownkeep HRow.out (Keep.ofBelow (Q := fun _ => False) hbl) (fun _ _ h => h)
    refine wp_append_own2 _ _ _ _ rfl 0 3 i0 (.int .i64 0) 1 8 Try.underlying30 hi0 hz0 hz1 hz2 rfl (by decide) v b.line.length (iL b.line) rfl hrow2 ⟨Ws.heap.size, 0, none⟩ 1 1 [.int .i64 (t : Int)] rfl rfl (news_one hba) (by simp [Value.oneCell']) (by unfold maxLen; omega) (by omega) (by omega) (by omega) ?_
    intro g cap w5 hr5 hg5 hgg
    have hka : Keep (fun k => v.ownBlock = some k) Wa w5 := ⟨hg5.os, hg5.tape, hg5.output, hg5.size, fun k hk hn => hg5.block k hk (fun e => hn e.symm)⟩
    have hkw : Keep (fun k => v.ownBlock = some k) Ws w5 := ((Keep.ofBelow hbl).mono (fun _ _ h => h)).trans hka
    have hvO : ∀ k, v.ownBlock = some k → k ≠ p.O ∧ A k := fun k hk2 => by rw [HV.out] at hk2; exact ⟨(line_apart HS2.out.sp HL.out (obj_lt HB2.out) hk2).2.2, HL.out.mine o k (obj_lt HB2.out) hk2⟩
    have cl5 := scell_keep cl2 hka (fun e => (hvO _ e).1 rfl)
    have eb5 := scell_keep eb2 hka (fun e => hbA (hvO _ e).2)
    have fo5 : w5.frozen? ⟨p.O, o * 3 + 2, none⟩ = false := (HR.out.keep hkw (fun e => (hvO _ e).1 rfl)).free _
    have hg2 : v.ownBlock = some g ∨ Ws.heap.size ≤ g := hgg.imp id (fun h => by omega)
    have hgl := (row_lt hr5 (g := g) rfl).1
    have HF55 := Lib.hid (HS2.out.sp.setLine (A' := fun k => A k ∨ k = g) (w1 := w5) HB2.out HR.out HL.out (v' := .slice (some ⟨g, 0, none⟩) (b.line.length + 1) cap) (l' := b.line ++ [(t : Int)]) (by rw [← HV.out]; exact hkw) (by simpa [iL] using hr5) (fun k hk2 => by rw [← HV.out]; exact (own_some hk2) ▸ hg2) (fun k hk2 => .inr (own_some hk2).symm) (fun _ h => .inl h) (fun k hk2 => hk2.elim (fun h => Nat.lt_of_lt_of_le (HS2.out.sp.lt k h) hkw.size) (fun h => h ▸ hgl)))
    have HKw := Lib.hid (show Keep A w w5 from HS2.out.kp.trans (hkw.mono (fun k _ e => (hvO k e).2)))
    have hgA : ∀ k, k = g → A k ∨ w.heap.size ≤ k := fun k e => by subst e; exact hg2.imp (fun h => (hvO _ h).2) (fun h => Nat.le_trans HS2.out.kp.size h)
    clear hr5 hg5 hgg hka hkw hvO hg2 hgl hrow2 hba hbl cl2 eb2
    refine hK.out _ _ eb5 (fun hHeld => ?_)
    clear hK K
    (try dsimp only [Act.put]); (try simp only [Act.put, List.setIfInBounds_toArray, List.set_cons_zero, List.set_cons_succ])
    refine wpAnyH_take (i := 9) (oi := _) (v := ?_) rfl (by kernel_rfl) (by kernel_rfl) (by kernel_rfl) (fun _ _ _ h => h) (Or.inl ⟨by rfl, ?_⟩) (by assumption) ?_
    rotate_left
    · intro w hSw; (try dsimp only at hSw); go_simp; try with_reducible rfl
    (try simp only [Act.put, List.setIfInBounds_toArray, List.set_cons_zero, List.set_cons_succ])
    refine wpAnyH_take (i := 10) (oi := _) (v := ?_) rfl (by kernel_rfl) (by kernel_rfl) (by kernel_rfl) (fun _ _ _ h => h) (Or.inl ⟨by rfl, ?_⟩) (by assumption) ?_
    rotate_left
    · intro w hSw; (try dsimp only at hSw); go_simp; try with_reducible rfl
    (try simp only [Act.put, List.setIfInBounds_toArray, List.set_cons_zero, List.set_cons_succ])
    refine wpAnyH_ready (rs := [11]) (by kernel_rfl) (by simp) ?_
    refine AllReadyH.cons rfl (fun K hK => ?_) AllReadyH.nil
    go_simp
    go_wp2_with fail
    refine hK.out _ _ (scell_keep eb5 (set_keep _) (fun e => hbA (by have e2 : bx = p.O := e; rw [e2]; exact hOm))) (fun hHeld => ?_)
    clear hK K
    (try dsimp only [Act.put]); (try simp only [Act.put, List.setIfInBounds_toArray, List.set_cons_zero, List.set_cons_succ])
    refine wpAnyH_done (by kernel_rfl) ?_ _
    go_wp2_with fail
    go_ret
    have HF56 := HF55.out
    rw [show ((s.setT t { x with dep := b.dep, pr := 2 }).setO o { b with own := -1, dep := 0 }).setO o { b with own := -1, dep := 0, line := b.line ++ [(t : Int)] } = (s.setT t { x with dep := b.dep, pr := 2 }).setO o ⟨-1, 0, b.line ++ [(t : Int)]⟩ from by simp [SS.setO]] at HF56
    exact ⟨rfl, _, HF56, HKw.out.set (fun _ => hOm) _, fun k hk2 => hk2.elim .inl (fun e => hgA k e), fun _ h => .inl h⟩
end Go.Proofs.Ytcgljmeppmdihaa
