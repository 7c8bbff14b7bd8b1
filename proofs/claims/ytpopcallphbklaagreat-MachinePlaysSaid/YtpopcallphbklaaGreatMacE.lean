/- Package machine: Can, Pick, Values. -/
import Derived.Test.YtpopcallphbklaaGreatMacD
namespace Go.Proofs.YtpopcallphbklaaGreat
open Go.ChangeShapes Go.WideShapes Go.ChangeAt Go.RowKit
set_option linter.unusedVariables false
set_option maxRecDepth 100000
set_option linter.unusedSimpArgs false
/-- a slice that reads as these numbers -/
def RowI (w : World) (v : Value) (l : List Int) : Prop :=
  ∃ a c, v = .slice a l.length c ∧ ∀ (i : Nat) x, l[i]? = some x → ∃ b o, a = some ⟨b, o, none⟩ ∧ b < w.heap.size ∧ w.cell? ⟨b, o + i, none⟩ = some (.int .i64 x)
theorem RowI.below {w w1 : World} {v : Value} {l : List Int} (h : RowI w v l) (hb : Below w.heap.size w w1) : RowI w1 v l := by
  obtain ⟨a, c, rfl, h⟩ := h
  refine ⟨a, c, rfl, fun i x hi => ?_⟩
  obtain ⟨b, o, rfl, hlt, hc⟩ := h i x hi
  exact ⟨b, o, rfl, Nat.lt_of_lt_of_le hlt hb.size, (hb.cell (p := ⟨b, o + i, none⟩) hlt).trans hc⟩
theorem RowI.own {w : World} {n0 : Nat} {v : Value} {l : List Int} (h : w.ownsRow n0 3 1 v l.length (l.map (.int .i64))) : RowI w v l := by
  rcases h.2 with ⟨rfl, h0⟩ | ⟨g, cap, cur, rfl, hb, hh, hnc, hcm, _⟩
  · have : l = [] := List.eq_nil_of_length_eq_zero h0
    subst this
    exact ⟨none, 0, rfl, fun i x hi => by simp at hi⟩
  · refine ⟨some ⟨g, 0, none⟩, cap, rfl, fun i x hi => ⟨g, 0, rfl, (Array.getElem?_eq_some_iff.1 hh).1, ?_⟩⟩
    have := h.cells (g := g) rfl i (.int .i64 x) (by rw [List.getElem?_map, hi]; rfl)
    rwa [addr_add] at this
theorem iclone_nil (w : World) : Calls Tryz.prog 49 #[.slice none 0 0] w fun e w' => e = .returned (.slice none 0 0) ∧ w = w' := by
  have hq : ∀ W : World, (binOp .eql 48 (.slice none 0 0) (.slice none 0 0)).run Tryz.prog W = .ok (.bool true) W := by intro W; kernel_rfl
  go_enter Tryz.func49, Tryz.ntmps49
  go_wp2
  go_ret
  exact ⟨rfl, rfl⟩
theorem iclone_zero (g cap : Nat) (w : World) : Calls Tryz.prog 49 #[.slice (some ⟨g, 0, none⟩) 0 cap] w fun e w' => (∃ a c, e = .returned (.slice a 0 c)) ∧ Below w.heap.size w w' := by
  have hq : ∀ W : World, (binOp .eql 48 (.slice (some ⟨g, 0, none⟩) 0 cap) (.slice none 0 0)).run Tryz.prog W = .ok (.bool false) W := by intro W; rfl
  go_enter Tryz.func49, Tryz.ntmps49
  go_wp2
  go_ret
  exact ⟨⟨_, _, rfl⟩, by go_grown⟩
theorem iclone_any (n0 : Nat) (u : Value) (l : List Int) (w : World) (hr : w.ownsRow n0 3 1 u l.length (l.map (.int .i64))) (hl : l.length ≤ 100000) :
    Calls Tryz.prog 49 #[u] w fun e w' => ∃ v, e = .returned v ∧ RowI w' v l ∧ Below w.heap.size w w' := by
  rcases Nat.eq_zero_or_pos l.length with h0 | h0
  · have hl0 : l = [] := List.eq_nil_of_length_eq_zero h0
    subst hl0
    rcases hr.2 with ⟨rfl, _⟩ | ⟨g, cap, cur, rfl, _⟩
    · exact (iclone_nil w).mono (by rintro e w' ⟨rfl, rfl⟩; exact ⟨_, rfl, ⟨none, 0, rfl, fun i x hi => by simp at hi⟩, Below.refl _ _⟩)
    · exact (iclone_zero g cap w).mono (by rintro e w' ⟨⟨a, c, rfl⟩, hb⟩; exact ⟨_, rfl, ⟨a, c, rfl, fun i x hi => by simp at hi⟩, hb⟩)
  · obtain ⟨i0, hi, hz0, hz1, hz2⟩ := info_parts mint_info
    obtain ⟨B, cap, rfl⟩ := row_slice hr h0
    have hq : ∀ W : World, (binOp .eql 48 (.slice (some ⟨B, 0, none⟩) l.length cap) (.slice none 0 0)).run Tryz.prog W = .ok (.bool false) W := by intro W; rfl
    have hown : Hid ((w.alloc (.cells #[] 3)).ownsRow w.heap.size 3 1 (.slice (some ⟨w.heap.size, 0, none⟩) 0 0) 0 []) := Lib.hid ⟨rfl, .inr ⟨w.heap.size, 0, #[], rfl, Nat.le_refl _, Blk.new w _ _, Nat.le_refl _, by unfold maxLen; omega, rfl, rfl⟩⟩
    have hlm : (l.map (Value.int .i64)).length = l.length * 1 := by simp
    have hcel : Hid (∀ (j : Nat) (u : Value), (l.map (Value.int .i64))[j]? = some u → (w.alloc (.cells #[] 3)).cell? ((⟨B, 0, none⟩ : Addr).add j) = some u) := Lib.hid (by
      intro j u hu
      exact cell_keep6 (hr.cells (g := B) rfl j u hu) ((Keep.refl (fun _ => False) w).alloc _) (fun h => h))
    have hone : Hid (∀ u ∈ l.map (Value.int .i64), u.oneCell' = true) := Lib.hid (by
      intro u hu
      obtain ⟨y, _, rfl⟩ := List.mem_map.1 hu
      rfl)
    clear hr
    go_enter Tryz.func49, Tryz.ntmps49
    go_wp2_with (at_builtin; refine wpList_append_own2 _ rfl _ _ 48 rfl w.heap.size 3 i0 (.int .i64 0) 1 8 Tryz.underlying48 hi hz0 hz1 hz2 rfl (by decide) _ 0 [] rfl hown.out ⟨B, 0, none⟩ l.length cap (l.map (Value.int .i64)) rfl hlm hcel.out hone.out (by unfold maxLen; omega) (by omega) (by simp) h0 ?_; intro g cap' w5 hrow hgr hg)
    have hgs := hgr.size
    simp only [World.size_alloc] at hgs
    replace hgr : (w.alloc (.cells #[] 3)).grownBy w5 (some w.heap.size) := hgr
    simp only [Nat.zero_add, List.nil_append] at hrow
    go_ret
    refine ⟨_, rfl, RowI.own hrow, ⟨hgr.os, hgr.tape, hgr.output, by omega, fun k hk => ?_⟩⟩
    rw [hgr.block k (by simp; omega) (fun e => by injection e with e; omega)]
    exact Below.heap_alloc w _ k hk
theorem mvalues_gen (m : Value) (x : Thr) (C P : Nat) (t : Int) (w : World) (hl : x.2.length ≤ 1000) (H : Calls Tryz.prog 36 #[m, .int .i64 t] w fun e w' => ∃ X O, e = .returned (pV X) ∧ ThrAt w' C P X O x.1 x.2 ∧ Below w.heap.size w w') :
    Calls Tryz.prog 17 #[m, .int .i64 t] w fun e w' => ∃ v, e = .returned v ∧ RowI w' v x.2 ∧ Below w.heap.size w w' := by
  have HL := Lib.hid hl
  clear hl
  go_enter Tryz.func17, Tryz.ntmps17
  go_wp2_with (first
    | (go_at_call 36; refine H.mono ?_; rintro e w2 ⟨X, O, rfl, hT, hb⟩; obtain ⟨cur, f, u, n0, h1, h2, h3, h4, h5, h6, h7⟩ := hT; have x2 : w2.cell? ⟨X, 2, none⟩ = some u := h1.cell 2 _ rfl; have HC := Lib.hid (iclone_any n0 u x.2 w2 h3 (by have := HL.out; omega)); clear h1 h2 h3 h4 h5 h6 h7)
    | (go_at_call 49; refine HC.out.mono ?_; rintro e w3 ⟨v, rfl, hR, hb3⟩))
  go_ret
  exact ⟨v, rfl, hR, hb.trans (hb3.mono hb.size)⟩
/-- a region may be walked on under a condition that says more -/
theorem wpAnyH_more {P : Program} {md : Region.Mode} {ops : Array Oper} {Q : Exit → Act → World → Prop} {S S' : World → Prop} (h : ∀ w, S' w → S w) :
    ∀ (fuel : Nat) (listed : Array Bool) (a : Act) (w : World), wpAnyH P md ops Q S' fuel listed a w → wpAnyH P md ops Q S fuel listed a w
  | 0, _, _, _, hh => hh
  | fuel + 1, _, _, _, hh => ⟨hh.1, fun i hi => wpOp_mono (fun a' w' h' => ⟨h _ h'.1, wpAnyH_more h fuel _ a' w' h'.2⟩) (hh.2 i hi)⟩
theorem mcan_gen (m : Value) (x : Thr) (C P R : Nat) (cs : List Nat) (ps : List Bool) (t k : Int) (w : World) (hP : parkedT x = true → PermitsAt w P R cs ps) (hok : ∀ t ∈ x.1, ParkOk ps t.1)
    (H : ∀ W, Below w.heap.size w W → Calls Tryz.prog 36 #[m, .int .i64 t] W fun e w' => ∃ X O, e = .returned (pV X) ∧ ThrAt w' C P X O x.1 x.2 ∧ Below W.heap.size W w') :
    Calls Tryz.prog 10 #[m, .agg #[.int .i64 t, .int .i64 k]] w fun e w' => e = .returned (.bool (canT ps x k)) ∧ Below w.heap.size w w' := by
  have HH := Lib.hid H
  have HP := Lib.hid hP
  have HO := Lib.hid hok
  clear H hP hok
  go_enter Tryz.func10, Tryz.ntmps10
  go_upto_region 1 with fail
  generalize hW : (w.alloc _) = W0
  have bW : Below w.heap.size w W0 := by rw [← hW]; go_grown
  have q0 : Blk W0 w.heap.size 37 #[.int .i64 t, .int .i64 k] := by rw [← hW]; exact Blk.new w _ _
  clear hW
  have hl := q0.lt
  have SK := Lib.hid (show ∀ W, Below W0.heap.size W0 W → W.cell? ⟨w.heap.size, 0, none⟩ = some (.int .i64 t) ∧ W.cell? ⟨w.heap.size, 1, none⟩ = some (.int .i64 k) from fun W hk => ⟨(q0.below hk hl).cell 0 _ rfl, (q0.below hk hl).cell 1 _ rfl⟩)
  have bd : Below W0.heap.size W0 W0.drew := ⟨rfl, rfl, rfl, Nat.le_refl _, fun _ _ => rfl⟩
  have HT := Lib.hid (HH.out W0.drew (bW.trans (bd.mono bW.size)))
  refine wp_region_held_drew (S := (fun W => W.cell? ⟨w.heap.size, 0, none⟩ = some (.int .i64 t) ∧ W.cell? ⟨w.heap.size, 1, none⟩ = some (.int .i64 k))) (by kernel_rfl) (SK.out _ bd) (fun hHeld => ?_)
  refine wpAnyH_take (i := 0) (oi := _) (v := ?_) rfl (by kernel_rfl) (by kernel_rfl) (by kernel_rfl) (fun _ _ _ h => h) (Or.inl ⟨by rfl, ?_⟩) (by assumption) ?_
  rotate_left
  · intro w hSw; (try dsimp only at hSw); go_simp; try with_reducible rfl
  (try simp only [Act.put, List.setIfInBounds_toArray, List.set_cons_zero, List.set_cons_succ])
  refine wpAnyH_take (i := 1) (oi := _) (v := ?_) rfl (by kernel_rfl) (by kernel_rfl) (by kernel_rfl) (fun _ _ _ h => h) (Or.inl ⟨by rfl, ?_⟩) (by assumption) ?_
  rotate_left
  · intro w hSw; (try dsimp only at hSw); go_simp; try with_reducible rfl
  (try simp only [Act.put, List.setIfInBounds_toArray, List.set_cons_zero, List.set_cons_succ])
  refine wpAnyH_take (i := 2) (oi := _) (v := ?_) rfl (by kernel_rfl) (by kernel_rfl) (by kernel_rfl) (fun _ _ _ h => h) (Or.inl ⟨by rfl, ?_⟩) (by assumption) ?_
  rotate_left
  · intro w hSw; (try dsimp only at hSw); go_simp; try with_reducible rfl
  (try simp only [Act.put, List.setIfInBounds_toArray, List.set_cons_zero, List.set_cons_succ])
  refine wpAnyH_take (i := 7) (oi := _) (v := ?_) rfl (by kernel_rfl) (by kernel_rfl) (by kernel_rfl) (fun _ _ _ h => h) (Or.inl ⟨by rfl, ?_⟩) (by assumption) ?_
  rotate_left
  · intro w hSw; (try dsimp only at hSw); go_simp; try with_reducible rfl
  (try simp only [Act.put, List.setIfInBounds_toArray, List.set_cons_zero, List.set_cons_succ])
  refine wpAnyH_take (i := 8) (oi := _) (v := ?_) rfl (by kernel_rfl) (by kernel_rfl) (by kernel_rfl) (fun _ _ _ h => h) (Or.inl ⟨by rfl, ?_⟩) (by assumption) ?_
  rotate_left
  · intro w hSw; (try dsimp only at hSw); go_simp; try with_reducible rfl
  (try simp only [Act.put, List.setIfInBounds_toArray, List.set_cons_zero, List.set_cons_succ])
  refine wpAnyH_ready (rs := [3]) (by kernel_rfl) (by simp) ?_
  refine AllReadyH.cons rfl (fun K hK => ?_) AllReadyH.nil
  go_simp
  go_at_call 36
  refine HT.out.mono ?_
  rintro e w2 ⟨X, O, rfl, hT, hb⟩
  have b2 : Below W0.heap.size W0 w2 := bd.trans hb
  obtain ⟨c, x0, HC⟩ := thr_can k hT (fun hp => (HP.out hp).keep (Keep.ofBelow (Q := fun _ => False) (bW.trans (b2.mono bW.size))) (fun h => h) (fun h => h) (fun _ _ h => h)) HO.out
  go_wp2_with fail
  refine hK.out _ _ (SK.out _ b2) (fun hHeld => ?_)
  clear hK K
  (try dsimp only [Act.put]); (try simp only [Act.put, List.setIfInBounds_toArray, List.set_cons_zero, List.set_cons_succ])
  refine wpAnyH_more (S' := (fun W => (W.cell? ⟨w.heap.size, 0, none⟩ = some (.int .i64 t) ∧ W.cell? ⟨w.heap.size, 1, none⟩ = some (.int .i64 k)) ∧ W.cell? ⟨X, 0, none⟩ = some (.pointer c))) (fun _ h => h.1) _ _ _ _ ?_
  replace hHeld : (fun W => (W.cell? ⟨w.heap.size, 0, none⟩ = some (.int .i64 t) ∧ W.cell? ⟨w.heap.size, 1, none⟩ = some (.int .i64 k)) ∧ W.cell? ⟨X, 0, none⟩ = some (.pointer c)) w2 := ⟨SK.out _ b2, x0⟩
  refine wpAnyH_take (i := 4) (oi := _) (v := ?_) rfl (by kernel_rfl) (by kernel_rfl) (by kernel_rfl) (fun _ _ _ h => h) (Or.inl ⟨by rfl, ?_⟩) (by assumption) ?_
  rotate_left
  · intro w hSw; (try dsimp only at hSw); go_simp; try with_reducible rfl
  (try simp only [Act.put, List.setIfInBounds_toArray, List.set_cons_zero, List.set_cons_succ])
  refine wpAnyH_take (i := 5) (oi := _) (v := ?_) rfl (by kernel_rfl) (by kernel_rfl) (by kernel_rfl) (fun _ _ _ h => h) (Or.inl ⟨by rfl, ?_⟩) (by assumption) ?_
  rotate_left
  · intro w hSw; (try dsimp only at hSw); go_simp; try with_reducible rfl
  (try simp only [Act.put, List.setIfInBounds_toArray, List.set_cons_zero, List.set_cons_succ])
  refine wpAnyH_take (i := 6) (oi := _) (v := ?_) rfl (by kernel_rfl) (by kernel_rfl) (by kernel_rfl) (fun _ _ _ h => h) (Or.inl ⟨by rfl, ?_⟩) (by assumption) ?_
  rotate_left
  · intro w hSw; (try dsimp only at hSw); go_simp; try with_reducible rfl
  (try simp only [Act.put, List.setIfInBounds_toArray, List.set_cons_zero, List.set_cons_succ])
  refine wpAnyH_ready (rs := [9]) (by kernel_rfl) (by simp) ?_
  refine AllReadyH.cons rfl (fun K hK => ?_) AllReadyH.nil
  go_simp
  go_at_call 40
  refine HC.mono ?_
  rintro e w3 ⟨rfl, k3⟩
  have b3 : Below W0.heap.size W0 w3 := b2.trans (k3.below b2.size (fun _ _ h => h.elim))
  go_wp2_with fail
  refine hK.out _ _ (⟨SK.out _ b3, cell_keep6 x0 k3 (fun h => h)⟩) (fun hHeld => ?_)
  clear hK K
  (try dsimp only [Act.put]); (try simp only [Act.put, List.setIfInBounds_toArray, List.set_cons_zero, List.set_cons_succ])
  refine wpAnyH_ready (rs := [10]) (by kernel_rfl) (by simp) ?_
  refine AllReadyH.cons rfl (fun K hK => ?_) AllReadyH.nil
  go_simp
  skip
  go_wp2_with fail
  refine hK.out _ _ (by assumption) (fun hHeld => ?_)
  clear hK K
  (try dsimp only [Act.put]); (try simp only [Act.put, List.setIfInBounds_toArray, List.set_cons_zero, List.set_cons_succ])
  refine wpAnyH_done (by kernel_rfl) ?_ _
  go_wp2
  go_ret
  exact ⟨rfl, bW.trans (b3.mono bW.size)⟩
end Go.Proofs.YtpopcallphbklaaGreat
