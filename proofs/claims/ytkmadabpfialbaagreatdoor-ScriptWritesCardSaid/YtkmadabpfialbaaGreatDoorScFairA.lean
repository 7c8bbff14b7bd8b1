/- The closure that counts steps: its map holds, for each thread, how many steps of it there are. -/
import Derived.Test.YtkmadabpfialbaaGreatDoorScMaps
import Derived.Test.YtkmadabpfialbaaGreatDoorScPrint
import Derived.Test.YtkmadabpfialbaaGreatDoorScFairSpec
namespace Go.Proofs.YtkmadabpfialbaaGreatDoor
open Go.ChangeShapes Go.WideShapes Go.ChangeAt Go.RowKit Go.Maps
set_option linter.unusedVariables false
set_option maxRecDepth 100000
set_option linter.unusedSimpArgs false
abbrev Ent := Lit × DataW Unit
def entOf (u : Int) (n : Nat) : Ent := (.int .i64 u, .lit (.int .i64 (n : Int)))
structure Rep (E : List Ent) (t : Int) (c : Int → Nat) : Prop where
  only : ∀ x ∈ E, ∃ u : Int, 0 ≤ u ∧ u < t ∧ x = entOf u (c u) ∧ 0 < c u
  all : ∀ u : Int, 0 ≤ u → u < t → 0 < c u → entOf u (c u) ∈ E
theorem rep_nil (t : Int) : Rep [] t (fun _ => 0) := ⟨fun x h => by simp at h, fun u _ _ h => by simp at h⟩
theorem rep_at {E : List Ent} {t : Int} {c : Int → Nat} (h : Rep E t c) (u : Int) (h0 : 0 ≤ u) (h1 : u < t) : (DataW.map E).atKey (.int .i64 u) (.lit (.int .i64 0)) = .lit (.int .i64 ((c u : Nat) : Int)) := by
  unfold DataW.atKey
  simp only
  cases hf : E.find? (fun p => p.1.sameKey (.int .i64 u)) with
  | some x =>
    have hx := List.mem_of_find?_eq_some hf
    have hs := List.find?_some hf
    obtain ⟨v, v0, v1, rfl, v2⟩ := h.only x hx
    simp only [entOf, same_int, decide_eq_true_eq] at hs
    subst hs
    rfl
  | none =>
    simp only
    have hc : c u = 0 := by
      rcases Nat.eq_zero_or_pos (c u) with hz | hp
      · exact hz
      · have hm := h.all u h0 h1 hp
        have := List.find?_eq_none.1 hf _ hm
        simp [entOf, same_int] at this
    rw [hc]
    rfl
theorem rep_put {E : List Ent} {t : Int} {c : Int → Nat} (h : Rep E t c) (u : Int) (n : Nat) (h0 : 0 ≤ u) (h1 : u < t) (hn : 0 < n) :
    ∃ E', (DataW.map E).put (.int .i64 u) (.lit (.int .i64 (n : Int))) = .map E' ∧ Rep E' t (fun v => if v = u then n else c v) := by
  refine ⟨_, rfl, ?_, ?_⟩
  · intro x hx
    rcases ChangeMaps.mem_insert_iff.1 hx with rfl | hx
    · exact ⟨u, h0, h1, by simp [entOf], by simpa using hn⟩
    · obtain ⟨hx1, hx2⟩ := List.mem_filter.1 hx
      obtain ⟨v, v0, v1, rfl, v2⟩ := h.only x hx1
      simp only [entOf, same_int, Bool.not_eq_true', decide_eq_false_iff_not] at hx2
      exact ⟨v, v0, v1, by rw [if_neg hx2], by rw [if_neg hx2]; exact v2⟩
  · intro v v0 v1 hv
    by_cases hvu : v = u
    · subst hvu
      rw [if_pos rfl]
      exact ChangeMaps.mem_insert_iff.2 (.inl rfl)
    · rw [if_neg hvu] at hv ⊢
      exact ChangeMaps.mem_insert_iff.2 (.inr (List.mem_filter.2 ⟨h.all v v0 v1 hv, by simp [entOf, same_int, hvu]⟩))
theorem rep_put0 {E : List Ent} {t : Int} {c : Int → Nat} (h : Rep E t c) (u : Int) (z : DataW Unit) (h0 : 0 ≤ u) (h1 : u < t) :
    ∃ E', ((DataW.map E).put (.int .i64 u) z).del (.int .i64 u) = .map E' ∧ Rep E' t (fun v => if v = u then 0 else c v) := by
  refine ⟨_, rfl, ?_, ?_⟩
  · intro x hx
    obtain ⟨hx0, hx3⟩ := List.mem_filter.1 hx
    rcases ChangeMaps.mem_insert_iff.1 hx0 with rfl | hx
    · simp [same_int] at hx3
    · obtain ⟨hx1, hx2⟩ := List.mem_filter.1 hx
      obtain ⟨v, v0, v1, rfl, v2⟩ := h.only x hx1
      simp only [entOf, same_int, Bool.not_eq_true', decide_eq_false_iff_not] at hx2
      exact ⟨v, v0, v1, by rw [if_neg hx2], by rw [if_neg hx2]; exact v2⟩
  · intro v v0 v1 hv
    by_cases hvu : v = u
    · subst hvu
      rw [if_pos rfl] at hv
      omega
    · rw [if_neg hvu] at hv ⊢
      exact List.mem_filter.2 ⟨ChangeMaps.mem_insert_iff.2 (.inr (List.mem_filter.2 ⟨h.all v v0 v1 hv, by simp [entOf, same_int, hvu]⟩)), by simp [entOf, same_int, hvu]⟩
theorem put_at (E : List Ent) (u : Int) (z : DataW Unit) (K : IsMap (DataW.map E)) : ((DataW.map E).put (.int .i64 u) z).atKey (.int .i64 u) (.lit (.int .i64 0)) = z := atKey_put_same (k := .int .i64 u) K trivial z _
/-- keys that are different and below t: at most t, and all of them if they are as many -/
theorem keys_len (t : Nat) : ∀ (L : List Int), L.Pairwise (· ≠ ·) → (∀ u ∈ L, 0 ≤ u ∧ u < t) → L.length ≤ t ∧ (L.length = t → ∀ u : Nat, u < t → (u : Int) ∈ L) := by
  induction t with
  | zero =>
    intro L _ h
    cases L with
    | nil => exact ⟨Nat.le_refl _, fun _ u hu => by omega⟩
    | cons x r => have := h x (List.mem_cons_self ..); omega
  | succ t ih =>
    intro L hp h
    by_cases hm : (t : Int) ∈ L
    · have hp2 : (L.erase (t : Int)).Pairwise (· ≠ ·) := hp.sublist List.erase_sublist
      have hn : (t : Int) ∉ L.erase (t : Int) := fun hc => by
        have := (List.Nodup.mem_erase_iff (a := (t : Int)) (b := (t : Int)) hp).1 hc
        exact this.1 rfl
      obtain ⟨i1, i2⟩ := ih (L.erase (t : Int)) hp2 (fun u hu => by
        have h1 := h u (List.mem_of_mem_erase hu)
        have h2 : u ≠ t := fun e => hn (e ▸ hu)
        omega)
      have hl := List.length_erase_of_mem hm
      have hpos : 0 < L.length := List.length_pos_of_mem hm
      refine ⟨by omega, fun he u hu => ?_⟩
      by_cases hut : u = t
      · rw [hut]; exact hm
      · exact List.mem_of_mem_erase (i2 (by omega) u (by omega))
    · obtain ⟨i1, i2⟩ := ih L hp (fun u hu => by
        have h1 := h u hu
        have h2 : u ≠ t := fun e => hm (e ▸ hu)
        omega)
      exact ⟨by omega, fun he => by omega⟩
theorem rep_size {E : List Ent} {t : Int} {c : Int → Nat} (h : Rep E t c) (hp : E.Pairwise (fun p q => p.1 ≠ q.1)) (ht : 0 ≤ t) : ((E.length : Int) < t ↔ ¬ ∀ u, 0 ≤ u → u < t → 0 < c u) ∧ (E.length : Int) ≤ t := by
  obtain ⟨n, rfl⟩ := Int.eq_ofNat_of_zero_le ht
  obtain ⟨L, hL⟩ : ∃ L : List Int, E.map (fun x => x.1) = L.map (fun u => Lit.int .i64 u) ∧ ∀ u ∈ L, 0 ≤ u ∧ u < (n : Int) ∧ 0 < c u := by
    have : ∀ E : List Ent, (∀ x ∈ E, ∃ u : Int, 0 ≤ u ∧ u < (n : Int) ∧ x = entOf u (c u) ∧ 0 < c u) → ∃ L : List Int, E.map (fun x => x.1) = L.map (fun u => Lit.int .i64 u) ∧ ∀ u ∈ L, 0 ≤ u ∧ u < (n : Int) ∧ 0 < c u := by
      intro E
      induction E with
      | nil => intro _; exact ⟨[], rfl, fun u h => by simp at h⟩
      | cons x r ih =>
        intro hE
        obtain ⟨u, u0, u1, rfl, u2⟩ := hE x (List.mem_cons_self ..)
        obtain ⟨L, l1, l2⟩ := ih (fun y hy => hE y (List.mem_cons_of_mem _ hy))
        refine ⟨u :: L, by simp [entOf, l1], fun v hv => ?_⟩
        rcases List.mem_cons.1 hv with rfl | hv
        · exact ⟨u0, u1, u2⟩
        · exact l2 v hv
    exact this E h.only
  obtain ⟨hL1, hL2⟩ := hL
  have hlen : E.length = L.length := by have := congrArg List.length hL1; simpa using this
  have hpw : L.Pairwise (· ≠ ·) := by
    have h1 : (E.map (fun x => x.1)).Pairwise (· ≠ ·) := List.pairwise_map.2 hp
    rw [hL1, List.pairwise_map] at h1
    exact h1.imp (fun hne e => hne (by rw [e]))
  obtain ⟨k1, k2⟩ := keys_len n L hpw (fun u hu => ⟨(hL2 u hu).1, (hL2 u hu).2.1⟩)
  rw [hlen]
  refine ⟨⟨fun hlt hall => ?_, fun hn => ?_⟩, by omega⟩
  · have : n ≤ L.length := cover_len n L (fun u hu => by
      have hm := h.all u (by omega) (by omega) (hall u (by omega) (by omega))
      have hk : Lit.int .i64 (u : Int) ∈ L.map (fun u => Lit.int .i64 u) := by rw [← hL1]; exact List.mem_map.2 ⟨_, hm, rfl⟩
      obtain ⟨v, hv, he⟩ := List.mem_map.1 hk
      have : v = (u : Int) := by simpa using he
      rw [← this]; exact hv)
    omega
  · rcases Nat.lt_or_ge L.length n with hlt | hge
    · omega
    · exfalso
      apply hn
      intro u u0 u1
      obtain ⟨m, rfl⟩ := Int.eq_ofNat_of_zero_le u0
      exact (hL2 _ (k2 (by omega) m (by omega))).2.2
/-- the map M holds the numbers c -/
def CntAt (w : World) (M n : Nat) (t : Int) (c : Int → Nat) (E : List Ent) : Prop := w.ownsMap Tryz.prog 3 (plainElem Tryz.prog 3) M n (.map E) ∧ Rep E t c
theorem keep_turned {w w' : World} {b : Nat} (h : w.mapTurned w' b) : Keep (fun i => i = b) w w' := by
  obtain ⟨es, clock, es', clock', hb, rfl⟩ := h
  exact ⟨rfl, rfl, rfl, by simp [ChangeMaps.setBlock], fun i _ hi => ChangeMaps.heap_setBlock_other hb _ hi⟩
theorem keep_grown {w w' : World} {b : Nat} (h : w.grownBy w' (some b)) : Keep (fun i => i = b) w w' :=
  ⟨h.os, h.tape, h.output, h.size, fun i hi hn => h.block i hi (fun e => hn (Option.some.inj e))⟩
/-- what a count answers -/
def CountPost (w : World) (M n : Nat) (t : Int) (c : Int → Nat) (e : Ending) (w' : World) : Prop :=
  Keep (fun i => i = M) w w' ∧ ∃ E, CntAt w' M n t c E ∧ e = .returned (.int .i64 (E.length : Int))
theorem count_skip (p : Pk) (by' : Int) (Bt Bm M n : Nat) (t : Int) (c : Int → Nat) (E : List Ent) (w : World) (hBt : Blk w Bt 3 #[.int .i64 t]) (hBm : Blk w Bm 72 #[.map (some M)])
    (hC : CntAt w M n t c E) (hp : ¬ (p.2 = 0 ∧ 0 ≤ p.1 ∧ p.1 < t)) :
    Calls Tryz.prog 34 #[pkV p, .int .i64 by', .pointer (some ⟨Bt, 0, none⟩), .pointer (some ⟨Bm, 0, none⟩)] w (CountPost w M n t c) := by
  obtain ⟨u, k⟩ := p
  obtain ⟨W, hW⟩ : ∃ W, w.alloc (.cells #[.int .i64 u, .int .i64 k] 46) = W := ⟨_, rfl⟩
  have KW : Keep (fun i => i = M) w W := by rw [← hW]; exact (Keep.refl _ w).alloc _
  have h1 : W.ownsMap Tryz.prog 3 (plainElem Tryz.prog 3) M n (.map E) := by rw [← hW]; exact hC.1.alloc _
  have b0 := (hBt.alloc (.cells #[.int .i64 u, .int .i64 k] 46)).cell 0 _ rfl
  have b1 := (hBm.alloc (.cells #[.int .i64 u, .int .i64 k] 46)).cell 0 _ rfl
  have p0 := (Blk.new w 46 #[.int .i64 u, .int .i64 k]).cell 0 _ rfl
  have p1 := (Blk.new w 46 #[.int .i64 u, .int .i64 k]).cell 1 _ rfl
  rw [hW] at b0 b1 p0 p1
  have HR := Lib.hid hC.2
  clear hC
  simp only at hp
  have hcase : k ≠ 0 ∨ (k = 0 ∧ u < 0) ∨ (k = 0 ∧ 0 ≤ u ∧ t ≤ u) := by omega
  clear hp
  rcases hcase with hk | ⟨rfl, hu⟩ | ⟨rfl, hu, htu⟩
  · go_enter Tryz.func34, Tryz.ntmps34
    go_wp2_with (first
      | (at_len; refine wpList_len_own _ rfl _ 72 rfl 3 3 Tryz.underlying72 _ M n _ rfl h1 ?_))
    go_ret
    exact ⟨KW, E, ⟨h1, HR.out⟩, rfl⟩
  · have hu' : ¬ (0 ≤ u) := by omega
    clear hu
    go_enter Tryz.func34, Tryz.ntmps34
    go_wp2_with (first
      | (at_len; refine wpList_len_own _ rfl _ 72 rfl 3 3 Tryz.underlying72 _ M n _ rfl h1 ?_))
    go_ret
    exact ⟨KW, E, ⟨h1, HR.out⟩, rfl⟩
  · go_enter Tryz.func34, Tryz.ntmps34
    go_wp2_with (first
      | (at_len; refine wpList_len_own _ rfl _ 72 rfl 3 3 Tryz.underlying72 _ M n _ rfl h1 ?_))
    go_ret
    exact ⟨KW, E, ⟨h1, HR.out⟩, rfl⟩
theorem count_step (u by' : Int) (Bt Bm M n : Nat) (t : Int) (c c' : Int → Nat) (E : List Ent) (w : World) (hBt : Blk w Bt 3 #[.int .i64 t]) (hBm : Blk w Bm 72 #[.map (some M)]) (hMt : Bt ≠ M) (hMm : Bm ≠ M)
    (hC : CntAt w M n t c E) (h0 : 0 ≤ u) (h1 : u < t) (ht : t ≤ 9223372036854775807) (hc' : (c' u : Int) = c u + by') (hb : (c' u : Int) ≤ 1000000) (hb2 : c u ≤ 1000000) (ho : ∀ v, v ≠ u → c' v = c v) (hn : n < 1000000) :
    Calls Tryz.prog 34 #[pkV (u, 0), .int .i64 by', .pointer (some ⟨Bt, 0, none⟩), .pointer (some ⟨Bm, 0, none⟩)] w (CountPost w M (n + 1) t c') := by
  obtain ⟨W, hW⟩ : ∃ W, w.alloc (.cells #[.int .i64 u, .int .i64 0] 46) = W := ⟨_, rfl⟩
  have KW : Keep (fun i => i = M) w W := by rw [← hW]; exact (Keep.refl _ w).alloc _
  have h1w : W.ownsMap Tryz.prog 3 (plainElem Tryz.prog 3) M n (.map E) := by rw [← hW]; exact hC.1.alloc _
  have BT : Blk W Bt 3 #[.int .i64 t] := by rw [← hW]; exact hBt.alloc _
  have BM : Blk W Bm 72 #[.map (some M)] := by rw [← hW]; exact hBm.alloc _
  have BP : Blk W w.heap.size 46 #[.int .i64 u, .int .i64 0] := by rw [← hW]; exact Blk.new w _ _
  have hMl : M < w.heap.size := by
    obtain ⟨es, clock, hb, _⟩ := hC.1
    exact (Array.getElem?_eq_some_iff.1 hb).1
  have hne : w.heap.size ≠ M := by omega
  have hA := rep_at hC.2 u h0 h1
  have hwf : (Lit.int .i64 u).wf = true := by simp [Lit.wf, IntKind.min, IntKind.max, IntKind.signed, IntKind.bits]; omega
  have hkey := keyOf_int_mk Tryz.underlying3 hwf
  have HC := Lib.hid hC.2
  have HO := Lib.hid ho
  have HK := Lib.hid KW
  obtain ⟨x, hx⟩ : ∃ x : Int, x = (c' u : Int) := ⟨_, rfl⟩
  obtain ⟨y, hy⟩ : ∃ y : Int, y = (c u : Int) := ⟨_, rfl⟩
  rw [← hx] at hc' hb
  rw [← hy] at hc'
  rw [← hy] at hA
  have hx0 : 0 ≤ x := by omega
  have hy0 : 0 ≤ y ∧ y ≤ 1000000 := by omega
  have hwx : (Lit.int .i64 x).wf = true := by simp [Lit.wf, IntKind.min, IntKind.max, IntKind.signed, IntKind.bits]; omega
  have hwrap : wrap64 (y + by') = x := by rw [← hc']; unfold wrap64; omega
  have HX := Lib.hid hx
  have HY := Lib.hid hy
  have HPA := Lib.hid (fun z => put_at E u z ⟨E, rfl⟩)
  have HWr := Lib.hid hwrap
  have b0 := BT.cell 0 _ rfl
  have b1 := BM.cell 0 _ rfl
  have p0 := BP.cell 0 _ rfl
  have p1 := BP.cell 1 _ rfl
  clear hC ho KW hx hy hBt hBm hwf hc' hwrap hwx
  by_cases hz : x = 0
  · subst hz
    go_enter Tryz.func34, Tryz.ntmps34
    go_wp2_with (first
      | (at_lookup; refine wpList_lookup_own_int _ rfl _ _ 72 rfl 3 3 .i64 lawInt Tryz.underlying72 Tryz.underlying3 (zeroI _) M n _ rfl h1w _ (.int .i64 u) rfl hkey ?_; intro c1 hat hwc; obtain rfl : c1 = y := (by rw [hA] at hat; simpa using hat.symm); clear hat hwc)
      | (at_mapUpdate; refine wpList_mapUpdate_own _ rfl _ _ _ 72 rfl 3 3 lawInt Tryz.underlying72 _ M n _ rfl h1w (by unfold maxLen; omega) _ _ (.int .i64 u) rfl rfl hkey _ [] (plainElem_int Tryz.underlying3 (wrap64_wf _)) ?_; intro w2 h2 g2; rw [HWr.out] at h2; have b02 := (BT.keep (keep_grown g2) hMt).cell 0 _ rfl; have b12 := (BM.keep (keep_grown g2) hMm).cell 0 _ rfl; have p02 := (BP.keep (keep_grown g2) hne).cell 0 _ rfl; have p12 := (BP.keep (keep_grown g2) hne).cell 1 _ rfl)
      | (at_lookup; refine wpList_lookup_own_int _ rfl _ _ 72 rfl 3 3 .i64 lawInt Tryz.underlying72 Tryz.underlying3 (zeroI _) M (n + 1) _ rfl h2 _ (.int .i64 u) rfl hkey ?_; intro c2 hat hwc; obtain rfl : c2 = 0 := (by have h9 := HPA.out (.lit (.int .i64 0)); rw [h9] at hat; simpa using hat.symm); clear hat hwc)
      | (at_delete; refine wpList_delete_own _ rfl _ _ 72 3 rfl 3 lawInt Tryz.underlying72 _ M (n + 1) _ rfl h2 _ (.int .i64 u) rfl hkey ?_; intro w3 h3 g3; have b03 := ((BT.keep (keep_grown g2) hMt).keep (keep_turned g3) hMt).cell 0 _ rfl; have b13 := ((BM.keep (keep_grown g2) hMm).keep (keep_turned g3) hMm).cell 0 _ rfl)
      | (at_len; refine wpList_len_own _ rfl _ 72 rfl 3 3 Tryz.underlying72 _ M (n + 1) _ rfl h3 ?_))
    obtain ⟨E', he, hr⟩ := rep_put0 HC.out u (.lit (.int .i64 0)) h0 h1
    have hcc : (fun v => if v = u then 0 else c v) = c' := by
      funext v
      by_cases hv : v = u
      · subst hv
        have := HX.out
        rw [if_pos rfl]
        omega
      · rw [if_neg hv, HO.out v hv]
    rw [hcc] at hr
    rw [he] at h3 ⊢
    go_ret
    exact ⟨(HK.out.trans (keep_grown g2)).trans (keep_turned g3), E', ⟨h3, hr⟩, rfl⟩
  · have hz2 : ¬ (x = 0) := hz
    go_enter Tryz.func34, Tryz.ntmps34
    go_wp2_with (first
      | (at_lookup; refine wpList_lookup_own_int _ rfl _ _ 72 rfl 3 3 .i64 lawInt Tryz.underlying72 Tryz.underlying3 (zeroI _) M n _ rfl h1w _ (.int .i64 u) rfl hkey ?_; intro c1 hat hwc; obtain rfl : c1 = y := (by rw [hA] at hat; simpa using hat.symm); clear hat hwc)
      | (at_mapUpdate; refine wpList_mapUpdate_own _ rfl _ _ _ 72 rfl 3 3 lawInt Tryz.underlying72 _ M n _ rfl h1w (by unfold maxLen; omega) _ _ (.int .i64 u) rfl rfl hkey _ [] (plainElem_int Tryz.underlying3 (wrap64_wf _)) ?_; intro w2 h2 g2; rw [HWr.out] at h2; have b02 := (BT.keep (keep_grown g2) hMt).cell 0 _ rfl; have b12 := (BM.keep (keep_grown g2) hMm).cell 0 _ rfl; have p02 := (BP.keep (keep_grown g2) hne).cell 0 _ rfl; have p12 := (BP.keep (keep_grown g2) hne).cell 1 _ rfl)
      | (at_lookup; refine wpList_lookup_own_int _ rfl _ _ 72 rfl 3 3 .i64 lawInt Tryz.underlying72 Tryz.underlying3 (zeroI _) M (n + 1) _ rfl h2 _ (.int .i64 u) rfl hkey ?_; intro c2 hat hwc; obtain rfl : c2 = x := (by have h9 := HPA.out (.lit (.int .i64 x)); rw [h9] at hat; simpa using hat.symm); clear hat hwc)
      | (at_len; refine wpList_len_own _ rfl _ 72 rfl 3 3 Tryz.underlying72 _ M (n + 1) _ rfl h2 ?_))
    have hxp : 0 < c' u := by have := HX.out; omega
    obtain ⟨E', he, hr⟩ := rep_put HC.out u (c' u) h0 h1 hxp
    rw [← HX.out] at he
    have hcc : (fun v => if v = u then c' u else c v) = c' := by
      funext v
      by_cases hv : v = u
      · subst hv
        rw [if_pos rfl]
      · rw [if_neg hv, HO.out v hv]
    rw [hcc] at hr
    rw [he] at h2 ⊢
    go_ret
    exact ⟨HK.out.trans (keep_grown g2), E', ⟨h2, hr⟩, rfl⟩
end Go.Proofs.YtkmadabpfialbaaGreatDoor
