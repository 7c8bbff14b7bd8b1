/- Package spec: rows that are cloned. -/
import Derived.Test.YtcgljmeppmdihaaSpT
import Derived.Test.YtcgljmeppmdihaaSpG
import Derived.Test.YtcgljmeppmdihaaAppend
import Derived.Shelf.SlicesE.Clone
import Derived.Ground.SlgnProg
import Derived.Lib.SliceRun
import Derived.Lib.OwnBridge
namespace Go.Proofs.Ytcgljmeppmdihaa
open Go.ChangeShapes Go.WideShapes Go.ChangeAt Go.RowKit Go.Shelf Go.Lib
set_option linter.unusedVariables false
set_option maxRecDepth 100000
set_option linter.unusedSimpArgs false
shelf_lay_g SlLaysE0.n41 Slgn 41 at Try 29 as Try.lclT
shelf_lay_g SlLaysE0.n41 Slgn 41 at Try 30 as Try.lclO
shelf_lay_g SlLaysE0.n41 Slgn 41 at Try 31 as Try.lclI
theorem zthr_size : ∀ w, (Go.sizeOf 72).run Try.prog w = .ok 9 w := by
  intro w
  simp only [Try.sizeOf72]
theorem zobj_size : ∀ w, (Go.sizeOf 60).run Try.prog w = .ok 3 w := by
  intro w
  simp only [Try.sizeOf60]
theorem zint_size : ∀ w, (Go.sizeOf 3).run Try.prog w = .ok 1 w := by
  intro w
  simp only [Try.sizeOf3]
theorem zint_info : (Try.prog.info? 3).map (fun i => (i.zero, i.size, i.bytes)) = some (some (.int .i64 0), 1, 8) := by kernel_rfl
/-- a row of n rows of k cells, cloned -/
theorem row_news {n k : Nat} {cs : Array Value} (hk : 0 < k) (f : Nat → Nat → Value) (h : ∀ t j : Nat, t < n → j < k → cs[t * k + j]? = some (f t j)) :
    (cs.toList.take (n * k)).length = n * k ∧ (∀ (j : Nat) (u : Value), (cs.toList.take (n * k))[j]? = some u → cs[j]? = some u ∧ ∃ t i : Nat, t < n ∧ i < k ∧ u = f t i) ∧ ∀ t j : Nat, t < n → j < k → (cs.toList.take (n * k))[t * k + j]? = some (f t j) := by
  have hlt : ∀ t j, t < n → j < k → t * k + j < n * k := fun t j ht hj => by
    have h1 : (t + 1) * k ≤ n * k := Nat.mul_le_mul_right k ht
    rw [Nat.add_mul, Nat.one_mul] at h1
    omega
  have hsz : n * k ≤ cs.size := by
    rcases Nat.eq_zero_or_pos n with rfl | hn
    · omega
    · have h1 := (Array.getElem?_eq_some_iff.1 (h (n - 1) (k - 1) (by omega) (by omega))).1
      have h2 : (n - 1) * k + k = n * k := by
        rw [← Nat.succ_mul]
        congr 1
        omega
      omega
  refine ⟨by rw [List.length_take, Array.length_toList]; omega, fun j u hj => ?_, fun t j ht hj => ?_⟩
  · rw [List.getElem?_take] at hj
    split at hj
    · rename_i hjn
      rw [Array.getElem?_toList] at hj
      refine ⟨hj, j / k, j % k, (Nat.div_lt_iff_lt_mul hk).2 hjn, Nat.mod_lt _ hk, ?_⟩
      have h1 := h (j / k) (j % k) ((Nat.div_lt_iff_lt_mul hk).2 hjn) (Nat.mod_lt _ hk)
      rw [show j / k * k + j % k = j from Nat.div_add_mod' j k, hj] at h1
      exact Option.some.inj h1
    · cases hj
  · rw [List.getElem?_take, if_pos (hlt t j ht hj), Array.getElem?_toList]
    exact h t j ht hj
theorem own_some_of {w : World} {N : Nat} {t : TypeId} {k n : Nat} {v : Value} {cs : List Value} (h : w.ownsRow N t k v n cs) (hv : v ≠ .slice none 0 0) : ∃ (g c : Nat) (cur : Array Value), v = .slice (some ⟨g, 0, none⟩) n c ∧ N ≤ g ∧ Blk w g t cur ∧ ∀ (i : Nat) (u : Value), cs[i]? = some u → cur[i]? = some u := by
  rcases h.2 with ⟨h6, _⟩ | ⟨g, c6, cur, h6, hb6, h7⟩
  · exact absurd h6 hv
  · subst h6
    obtain ⟨_, cur, hB⟩ := row_lt h rfl
    refine ⟨g, c6, cur, rfl, hb6, hB, fun i u hi => ?_⟩
    have h8 := h.cells (g := g) rfl i u hi
    rw [Go.WideShapes.add_plain, Nat.zero_add] at h8
    unfold World.cell? at h8
    rw [show w.heap[g]? = _ from hB] at h8
    simpa using h8
theorem thC_at (x : Th) (j : Nat) (hj : j < 9) : (thC x)[j]? = some ((thC x).getD j undef) ∧ ((thC x).getD j undef).oneCell' = true := by
  have h9 : j = 0 ∨ j = 1 ∨ j = 2 ∨ j = 3 ∨ j = 4 ∨ j = 5 ∨ j = 6 ∨ j = 7 ∨ j = 8 := by omega
  rcases h9 with rfl | rfl | rfl | rfl | rfl | rfl | rfl | rfl | rfl <;> exact ⟨rfl, rfl⟩
theorem clone_thrs {w : World} {T c : Nat} {l : List Th} (h : RowT w T l) (hl : l.length ≤ 32766) :
    Calls Try.prog 29 #[.slice (some ⟨T, 0, none⟩) l.length c] w fun e w' => ∃ T2 c2, e = .returned (.slice (some ⟨T2, 0, none⟩) l.length c2) ∧ RowT w' T2 l ∧ w.heap.size ≤ T2 ∧ Below w.heap.size w w' := by
  obtain ⟨cs, hB, hcs⟩ := h
  obtain ⟨i0, hi0, hz0, hz1, hz2⟩ := info_parts thr_info
  obtain ⟨n1, n2, n3⟩ := row_news (n := l.length) (k := 9) (cs := cs) (by omega) (fun t j => ((thC (l.getD t th0)).getD j undef)) (fun t j ht hj => by
    refine hcs t (l.getD t th0) (by rw [List.getD_eq_getElem?_getD, List.getElem?_eq_getElem ht]; rfl) j _ (thC_at _ j hj).1)
  refine (AnyE.slices_Clone Try.lclT i0 _ 9 72 hi0 hz0 hz1 hz2 rfl (by decide) zthr_size T 0 l.length c (cs.toList.take (l.length * 9)) w n1 (by unfold maxLen; omega) (by omega) (fun j u hj => by rw [Nat.zero_add]; exact hB.cell j u (n2 j u hj).1) (fun u hu => ?_)).mono ?_
  · obtain ⟨j, hj⟩ := List.getElem?_of_mem hu
    obtain ⟨_, t, i, ht, hi, rfl⟩ := n2 j u hj
    exact (thC_at _ i hi).2
  · rintro e w' ⟨v', rfl, h2, h3, h4⟩
    obtain ⟨g, c2, cur, rfl, hg, hBg, hcur⟩ := own_some_of h2 h3
    refine ⟨g, c2, rfl, ⟨cur, hBg, fun t x hx j v hj => ?_⟩, hg, h4⟩
    have ht := (List.getElem?_eq_some_iff.1 hx).1
    have hj9 : j < 9 := by have := (List.getElem?_eq_some_iff.1 hj).1; simpa [thC] using this
    refine hcur _ _ ?_
    rw [n3 t j ht hj9, List.getD_eq_getElem?_getD, List.getD_eq_getElem?_getD, hx]
    show some ((thC x)[j]?.getD undef) = some v
    rw [hj]
    rfl
theorem obC_at (b : Ob) (v : Value) (hv : v.oneCell' = true) (j : Nat) (hj : j < 3) : (obC b v)[j]? = some ((obC b v).getD j undef) ∧ ((obC b v).getD j undef).oneCell' = true := by
  have h9 : j = 0 ∨ j = 1 ∨ j = 2 := by omega
  rcases h9 with rfl | rfl | rfl
  · exact ⟨rfl, rfl⟩
  · exact ⟨rfl, rfl⟩
  · exact ⟨rfl, hv⟩
theorem clone_objs {w : World} {O c : Nat} {l : List Ob} {V : Nat → Value} (h : RowO w O l V) (hV : ∀ o, o < l.length → (V o).oneCell' = true) (hl : l.length ≤ 65536) :
    Calls Try.prog 30 #[.slice (some ⟨O, 0, none⟩) l.length c] w fun e w' => ∃ O2 c2, e = .returned (.slice (some ⟨O2, 0, none⟩) l.length c2) ∧ RowO w' O2 l V ∧ w.heap.size ≤ O2 ∧ Below w.heap.size w w' := by
  obtain ⟨cs, hB, hcs⟩ := h
  obtain ⟨i0, hi0, hz0, hz1, hz2⟩ := info_parts obj_info
  obtain ⟨n1, n2, n3⟩ := row_news (n := l.length) (k := 3) (cs := cs) (by omega) (fun t j => ((obC (l.getD t ⟨0, 0, []⟩) (V t)).getD j undef)) (fun t j ht hj => by
    refine hcs t (l.getD t ⟨0, 0, []⟩) (by rw [List.getD_eq_getElem?_getD, List.getElem?_eq_getElem ht]; rfl) j _ (obC_at _ _ (hV t ht) j hj).1)
  refine (AnyE.slices_Clone Try.lclO i0 _ 3 40 hi0 hz0 hz1 hz2 rfl (by decide) zobj_size O 0 l.length c (cs.toList.take (l.length * 3)) w n1 (by unfold maxLen; omega) (by omega) (fun j u hj => by rw [Nat.zero_add]; exact hB.cell j u (n2 j u hj).1) (fun u hu => ?_)).mono ?_
  · obtain ⟨j, hj⟩ := List.getElem?_of_mem hu
    obtain ⟨_, t, i, ht, hi, rfl⟩ := n2 j u hj
    exact (obC_at _ _ (hV t ht) i hi).2
  · rintro e w' ⟨v', rfl, h2, h3, h4⟩
    obtain ⟨g, c2, cur, rfl, hg, hBg, hcur⟩ := own_some_of h2 h3
    refine ⟨g, c2, rfl, ⟨cur, hBg, fun t x hx j v hj => ?_⟩, hg, h4⟩
    have ht := (List.getElem?_eq_some_iff.1 hx).1
    have hj9 : j < 3 := by have := (List.getElem?_eq_some_iff.1 hj).1; simpa [obC] using this
    refine hcur _ _ ?_
    rw [n3 t j ht hj9, List.getD_eq_getElem?_getD, List.getD_eq_getElem?_getD, hx]
    show some ((obC x (V t))[j]?.getD undef) = some v
    rw [hj]
    rfl
theorem clone_line {w : World} {v : Value} {l : List Int} (h : w.ownsRow 0 3 1 v l.length (iL l)) (hl : l.length ≤ 65536) :
    Calls Try.prog 31 #[v] w fun e w' => ∃ v', e = .returned v' ∧ w'.ownsRow w.heap.size 3 1 v' l.length (iL l) ∧ Below w.heap.size w w' := by
  have h2 := h.2
  rcases h2 with ⟨rfl, h0⟩ | ⟨g0, cap0, cur, rfl, _, hh, hnc, hcm, _⟩
  · refine (AnyE.slices_Clone_nil Try.lclI 0 0 w).mono ?_
    rintro e w' ⟨rfl, rfl⟩
    have : l = [] := List.eq_nil_of_length_eq_zero h0
    subst this
    exact ⟨_, rfl, World.ownsRow_nil _ _ _ _, Below.refl _ _⟩
  · obtain ⟨i0, hi0, hz0, hz1, hz2⟩ := info_parts zint_info
    refine (AnyE.slices_Clone Try.lclI i0 _ 1 8 hi0 hz0 hz1 hz2 rfl (by decide) zint_size g0 0 l.length cap0 (iL l) w (by simp [iL]) (by unfold maxLen; omega) (by omega) (fun j u hu => ?_) (fun u hu => ?_)).mono ?_
    · have := h.cells (g := g0) rfl j u hu
      rw [Go.WideShapes.add_plain] at this
      exact this
    · obtain ⟨x, _, rfl⟩ := List.mem_map.1 hu
      rfl
    · rintro e w' ⟨v', rfl, h2, _, h3⟩
      exact ⟨v', rfl, h2, h3⟩
end Go.Proofs.Ytcgljmeppmdihaa
/- Package spec: Copy. -/
namespace Go.Proofs.Ytcgljmeppmdihaa
open Go.ChangeShapes Go.WideShapes Go.ChangeAt Go.RowKit
set_option linter.unusedVariables false
set_option maxRecDepth 100000
set_option linter.unusedSimpArgs false
/-- while lines are cloned: k of them are -/
structure CpS (w W : World) (V : Nat → Value) (s : SS) (P2 T2 O2 c1 c2 k : Nat) (V2 : Nat → Value) : Prop where
  own : Blk W P2 58 #[.slice (some ⟨T2, 0, none⟩) s.T.length c1, .slice (some ⟨O2, 0, none⟩) s.O.length c2]
  thr : RowT W T2 s.T
  obs : RowO W O2 s.O V2
  row : ∀ o b, s.O[o]? = some b → o < k → W.ownsRow w.heap.size 3 1 (V2 o) b.line.length (iL b.line)
  old : ∀ o, k ≤ o → V2 o = V o
  ap : ∀ o u g, o < k → u < k → o < s.O.length → u < s.O.length → o ≠ u → (V2 o).ownBlock = some g → (V2 u).ownBlock ≠ some g
  lo : w.heap.size ≤ P2 ∧ w.heap.size ≤ T2 ∧ w.heap.size ≤ O2
  bl : Below w.heap.size w W
theorem CpS.below {w W W1 : World} {V : Nat → Value} {s : SS} {P2 T2 O2 c1 c2 k : Nat} {V2 : Nat → Value} (h : CpS w W V s P2 T2 O2 c1 c2 k V2) (hb : Below W.heap.size W W1) : CpS w W1 V s P2 T2 O2 c1 c2 k V2 :=
  ⟨h.own.below hb h.own.lt, h.thr.keep (Keep.ofBelow (Q := fun _ => False) hb) (fun h => h), h.obs.keep (Keep.ofBelow (Q := fun _ => False) hb) (fun h => h), fun o b hb2 hk => row_ownkeep (h.row o b hb2 hk) (Keep.ofBelow (Q := fun _ => False) hb) (fun _ _ h => h), h.old, h.ap, h.lo, h.bl.trans (hb.mono h.bl.size)⟩
theorem zset_id {α : Type} {l : List α} {o : Nat} {v : α} (h : l[o]? = some v) : l.set o v = l := by
  apply List.ext_getElem?
  intro i
  rw [List.getElem?_set]
  by_cases e : o = i
  · subst e
    have h2 := (List.getElem?_eq_some_iff.1 h).1
    rw [if_pos rfl, if_pos h2, h]
  · rw [if_neg e]
theorem zown_slice {w : World} {N : Nat} {t : TypeId} {k n : Nat} {v : Value} {cs : List Value} (h : w.ownsRow N t k v n cs) : ∃ a c, v = .slice a n c := by
  rcases h.2 with ⟨hv, h0⟩ | ⟨g', c', cur, hv, _⟩
  · exact ⟨none, 0, by rw [h0]; exact hv⟩
  · exact ⟨_, _, hv⟩
theorem base_own {w : World} {N : Nat} {t : TypeId} {k : Nat} {v : Value} {n : Nat} {cs : List Value} (h : w.ownsRow N t k v n cs) (b : Nat) (hb : v.ownBlock = some b) : N ≤ b := by
  rcases h.2 with ⟨hv, _⟩ | ⟨g', cap', cur, hv, hb', _, _⟩
  · rw [hv] at hb; cases hb
  · rw [hv] at hb
    have : g' = b := by simpa [Value.ownBlock] using hb
    omega
theorem lower_own {w : World} {N N' : Nat} {t : TypeId} {k : Nat} {v : Value} {n : Nat} {cs : List Value} (h : w.ownsRow N t k v n cs) (hN : N' ≤ N) : w.ownsRow N' t k v n cs := by
  refine ⟨h.1, ?_⟩
  rcases h.2 with h6 | ⟨g, c6, cur, hv, hb6, h7⟩
  · exact .inl h6
  · exact .inr ⟨g, c6, cur, hv, by omega, h7⟩
theorem CpS.step {w W W1 : World} {V : Nat → Value} {s : SS} {P2 T2 O2 c1 c2 k : Nat} {V2 : Nat → Value} (h : CpS w W V s P2 T2 O2 c1 c2 k V2) {b : Ob} (hb : s.O[k]? = some b) {v' : Value} (hb1 : Below W.heap.size W W1)
    (hr : W1.ownsRow W.heap.size 3 1 v' b.line.length (iL b.line)) : CpS w (W1.setCell ⟨O2, k * 3 + 2, none⟩ v') V s P2 T2 O2 c1 c2 (k + 1) (fun u => if u = k then v' else V2 u) := by
  have h1 := h.below hb1
  have ks : Keep (fun x => x = O2) W1 (W1.setCell ⟨O2, k * 3 + 2, none⟩ v') := (Keep.refl (fun x => x = O2) W1).set (p := ⟨O2, k * 3 + 2, none⟩) (fun _ => rfl) _
  obtain ⟨co, hO, hco⟩ := id h.obs
  obtain ⟨ct, hT, hct⟩ := id h.thr
  have nP : P2 ≠ O2 := fun e => h.own.apart hO (by decide) e
  have nT : T2 ≠ O2 := fun e => hT.apart hO (by decide) e
  have nR : ∀ o c, s.O[o]? = some c → o < k → ∀ g, (V2 o).ownBlock = some g → g ≠ O2 ∧ g < W.heap.size := fun o c ho hok g hg => by
    obtain ⟨l1, cur, l2⟩ := row_lt (h.row o c ho hok) hg
    exact ⟨fun e => Blk.apart (w := W) l2 hO (by decide) e, l1⟩
  have hs := h1.obs.set (V' := fun u => if u = k then v' else V2 u) hb 2 v' (by omega) (b' := b) (by simp [obC]) (fun u hu => by simp [hu])
  rw [zset_id hb] at hs
  refine ⟨h1.own.keep ks nP, h1.thr.keep ks nT, hs, fun o c ho hok => ?_, fun o ho => ?_, fun o u g ho hu hol hul hne hg hg2 => ?_, h.lo, h1.bl.trans (ks.below h1.bl.size (fun i _ e => by have := h.lo.2.2; omega))⟩
  · by_cases e : o = k
    · subst e
      rw [hb] at ho
      obtain rfl := Option.some.inj ho
      rw [if_pos rfl]
      exact row_ownkeep (lower_own hr h.bl.size) ks (fun g hg e => by have := base_own hr g hg; have := hO.lt; omega)
    · rw [if_neg e]
      exact row_ownkeep (h1.row o c ho (by omega)) ks (fun g hg e2 => (nR o c ho (by omega) g hg).1 e2)
  · rw [if_neg (by omega)]
    exact h.old o (by omega)
  · by_cases e : o = k
    · rw [if_pos e] at hg
      rw [if_neg (by omega)] at hg2
      have := base_own hr g hg
      obtain ⟨c, hc⟩ : ∃ c, s.O[u]? = some c := ⟨_, List.getElem?_eq_getElem hul⟩
      have := (nR u c hc (by omega) g hg2).2
      omega
    · rw [if_neg e] at hg
      obtain ⟨c, hc⟩ : ∃ c, s.O[o]? = some c := ⟨_, List.getElem?_eq_getElem hol⟩
      have h6 := (nR o c hc (by omega) g hg).2
      by_cases e2 : u = k
      · rw [if_pos e2] at hg2
        have := base_own hr g hg2
        omega
      · rw [if_neg e2] at hg2
        exact h.ap o u g (by omega) (by omega) hol hul hne hg hg2
theorem rdrewz (W : World) : Below W.heap.size W W.drew := ⟨rfl, rfl, rfl, Nat.le_refl _, fun _ _ => rfl⟩
/-- an automaton that was copied -/
def CopyPost (w : World) (s : SS) (e : Ending) (w' : World) : Prop := ∃ (p2 : Pl) (A2 : Nat → Prop), e = .returned (spV p2) ∧ SpecAt w' A2 p2 s ∧ (∀ b, A2 b → w.heap.size ≤ b) ∧ Below w.heap.size w w'
theorem CpS.done {w W : World} {V : Nat → Value} {s : SS} {P2 T2 O2 c1 c2 : Nat} {V2 : Nat → Value} (h : CpS w W V s P2 T2 O2 c1 c2 s.O.length V2) : CopyPost w s (.returned (spV ⟨P2, T2, O2, c1, c2⟩)) W := by
  refine ⟨⟨P2, T2, O2, c1, c2⟩, fun b => w.heap.size ≤ b ∧ b < W.heap.size, rfl, ⟨h.own, h.thr, ⟨V2, h.obs, ⟨fun o b hb => lower_own (h.row o b hb (obj_lt hb)) (Nat.zero_le _), fun o g ho hg => ?_, fun o u g ho hu hne hg => h.ap o u g ho hu ho hu hne hg⟩⟩, ⟨⟨h.lo.1, h.own.lt⟩, ⟨h.lo.2.1, h.thr.lt⟩, h.lo.2.2, ?_⟩, fun b hb => hb.2⟩, fun b hb => hb.1, h.bl⟩
  · obtain ⟨c, hc⟩ : ∃ c, s.O[o]? = some c := ⟨_, List.getElem?_eq_getElem ho⟩
    exact ⟨base_own (h.row o c hc ho) g hg, (row_lt (h.row o c hc ho) hg).1⟩
  · obtain ⟨co, hO, _⟩ := h.obs
    exact hO.lt
set_option maxHeartbeats 8000000 in
theorem copy_any {w : World} {A : Nat → Prop} {p : Pl} {s : SS} (h : SpecAt w A p s) (hwf : WF s) :
    Calls Try.prog 13 #[spV p] w (CopyPost w s) := by
  obtain ⟨V, hRO, hL⟩ := h.obs
  have H := Lib.hid h
  have HL := Lib.hid hL
  have HRO := Lib.hid hRO
  have HWf := Lib.hid hwf
  have hTl : s.T.length ≤ 32766 := hwf.sz.1
  have hOl : s.O.length ≤ 65536 := hwf.sz.2
  have hV1 : ∀ o, o < s.O.length → (V o).oneCell' = true := fun o ho => by
    obtain ⟨b, hb⟩ : ∃ b, s.O[o]? = some b := ⟨_, List.getElem?_eq_getElem ho⟩
    rcases (hL.row o b hb).2 with ⟨hv, _⟩ | ⟨g, c, cur, hv, _⟩
    · rw [hv]; rfl
    · rw [hv]; rfl
  have HClT := Lib.hid fun W (hW : Below w.heap.size w W) => clone_thrs (c := p.cT) (h.below hW).thr hTl
  have HClO := Lib.hid fun W (hW : Below w.heap.size w W) => clone_objs (c := p.cO) (hRO.keep (Keep.ofBelow (Q := fun _ => False) hW) (fun h => h)) hV1 hOl
  have SK := Lib.hid (show ∀ W, Below w.heap.size w W → W.cell? ⟨p.P, 0, none⟩ = some (.slice (some ⟨p.T, 0, none⟩) s.T.length p.cT) ∧ W.cell? ⟨p.P, 1, none⟩ = some (.slice (some ⟨p.O, 0, none⟩) s.O.length p.cO) from fun W hW => ⟨(h.below hW).c0, (h.below hW).c1⟩)
  clear h hwf hRO hL hV1
  go_enter Try.func13, Try.ntmps13
  go_upto_region 3 with fail
  go_cut [3] from 7 to 18 (fun v3 wx => ∃ (P2 T2 O2 c1 c2 : Nat), v3 = .pointer (some ⟨P2, 0, none⟩) ∧ CpS w wx V s P2 T2 O2 c1 c2 0 V)
  case first =>
    have bd := rdrewz w
    refine wp_region_held_drew (S := (fun (X : World) => X.cell? ⟨p.P, 0, none⟩ = some (.slice (some ⟨p.T, 0, none⟩) s.T.length p.cT) ∧ X.cell? ⟨p.P, 1, none⟩ = some (.slice (some ⟨p.O, 0, none⟩) s.O.length p.cO))) (by kernel_rfl) (SK.out _ bd) (fun hHeld => ?_)
    generalize hWd : w.drew = W3 at bd hHeld ⊢
    have HBd := Lib.hid bd
    clear hWd bd
    refine wpAnyH_take (i := 0) (oi := { dst := some 7, op := Op.move (Operand.tmp 0), type := 28, pos := "spec.go:109", after := #[], guard := none }) (v := ?_) rfl (by kernel_rfl) (by kernel_rfl) (by kernel_rfl) (fun _ _ _ h => h) (Or.inl ⟨by rfl, ?_⟩) (by assumption) ?_
    rotate_left
    · intro w hSw; (try dsimp only at hSw); go_simp; try with_reducible rfl
    (try simp only [Act.put, List.setIfInBounds_toArray, List.set_cons_zero, List.set_cons_succ])
    refine wpAnyH_take (i := 1) (oi := { dst := some 8, op := Op.nilCheck (Operand.tmp 7), type := 0, pos := "spec.go:109", after := #[{ on := 0, ground := Ground.data }], guard := none }) (v := ?_) rfl (by kernel_rfl) (by kernel_rfl) (by kernel_rfl) (fun _ _ _ h => h) (Or.inl ⟨by rfl, ?_⟩) (by assumption) ?_
    rotate_left
    · intro w hSw; (try dsimp only at hSw); go_simp; try with_reducible rfl
    (try simp only [Act.put, List.setIfInBounds_toArray, List.set_cons_zero, List.set_cons_succ])
    refine wpAnyH_take (i := 2) (oi := { dst := some 9, op := Op.fieldAddr 58 (Operand.tmp 8) 0, type := 0, pos := "spec.go:109", after := #[{ on := 1, ground := Ground.data }], guard := none }) (v := ?_) rfl (by kernel_rfl) (by kernel_rfl) (by kernel_rfl) (fun _ _ _ h => h) (Or.inl ⟨by rfl, ?_⟩) (by assumption) ?_
    rotate_left
    · intro w hSw; (try dsimp only at hSw); go_simp; try with_reducible rfl
    (try simp only [Act.put, List.setIfInBounds_toArray, List.set_cons_zero, List.set_cons_succ])
    refine wpAnyH_take (i := 3) (oi := { dst := some 10, op := Op.load 55 (Operand.tmp 9), type := 55, pos := "spec.go:109", after := #[{ on := 2, ground := Ground.data }], guard := none }) (v := ?_) rfl (by kernel_rfl) (by kernel_rfl) (by kernel_rfl) (fun _ _ _ h => h) (Or.inl ⟨by rfl, ?_⟩) (by assumption) ?_
    rotate_left
    · intro w hSw; (try dsimp only at hSw); go_simp; try with_reducible rfl
    (try simp only [Act.put, List.setIfInBounds_toArray, List.set_cons_zero, List.set_cons_succ])
    refine wpAnyH_take (i := 5) (oi := { dst := some 12, op := Op.move (Operand.tmp 0), type := 28, pos := "spec.go:109", after := #[], guard := none }) (v := ?_) rfl (by kernel_rfl) (by kernel_rfl) (by kernel_rfl) (fun _ _ _ h => h) (Or.inl ⟨by rfl, ?_⟩) (by assumption) ?_
    rotate_left
    · intro w hSw; (try dsimp only at hSw); go_simp; try with_reducible rfl
    (try simp only [Act.put, List.setIfInBounds_toArray, List.set_cons_zero, List.set_cons_succ])
    refine wpAnyH_take (i := 6) (oi := { dst := some 13, op := Op.nilCheck (Operand.tmp 12), type := 0, pos := "spec.go:109", after := #[{ on := 5, ground := Ground.data }], guard := none }) (v := ?_) rfl (by kernel_rfl) (by kernel_rfl) (by kernel_rfl) (fun _ _ _ h => h) (Or.inl ⟨by rfl, ?_⟩) (by assumption) ?_
    rotate_left
    · intro w hSw; (try dsimp only at hSw); go_simp; try with_reducible rfl
    (try simp only [Act.put, List.setIfInBounds_toArray, List.set_cons_zero, List.set_cons_succ])
    refine wpAnyH_take (i := 7) (oi := { dst := some 14, op := Op.fieldAddr 58 (Operand.tmp 13) 1, type := 0, pos := "spec.go:109", after := #[{ on := 6, ground := Ground.data }], guard := none }) (v := ?_) rfl (by kernel_rfl) (by kernel_rfl) (by kernel_rfl) (fun _ _ _ h => h) (Or.inl ⟨by rfl, ?_⟩) (by assumption) ?_
    rotate_left
    · intro w hSw; (try dsimp only at hSw); go_simp; try with_reducible rfl
    (try simp only [Act.put, List.setIfInBounds_toArray, List.set_cons_zero, List.set_cons_succ])
    refine wpAnyH_take (i := 8) (oi := { dst := some 15, op := Op.load 56 (Operand.tmp 14), type := 56, pos := "spec.go:109", after := #[{ on := 7, ground := Ground.data }], guard := none }) (v := ?_) rfl (by kernel_rfl) (by kernel_rfl) (by kernel_rfl) (fun _ _ _ h => h) (Or.inl ⟨by rfl, ?_⟩) (by assumption) ?_
    rotate_left
    · intro w hSw; (try dsimp only at hSw); go_simp; try with_reducible rfl
    (try simp only [Act.put, List.setIfInBounds_toArray, List.set_cons_zero, List.set_cons_succ])
    refine wpAnyH_ready (rs := [4]) (by kernel_rfl) (by simp) ?_
    refine AllReadyH.cons rfl (fun K hK => ?_) (AllReadyH.nil)
    go_simp
    (with_reducible refine (HClT.out _ HBd.out).mono ?_)
    rintro eT wT ⟨T2, c1, rfl, hT, lT, bT⟩
    have HBT := Lib.hid (HBd.out.trans (bT.mono HBd.out.size))
    have HrT := Lib.hid hT
    have HLT := Lib.hid (show w.heap.size ≤ T2 from Nat.le_trans HBd.out.size lT)
    clear bT hT lT
    go_wp2_with fail
    refine hK.out _ _ (SK.out _ HBT.out) (fun hHeld => ?_)
    clear hK K
    (try dsimp only [Act.put]); (try simp only [Act.put, List.setIfInBounds_toArray, List.set_cons_zero, List.set_cons_succ])
    refine wpAnyH_ready (rs := [9]) (by kernel_rfl) (by simp) ?_
    refine AllReadyH.cons rfl (fun K hK => ?_) (AllReadyH.nil)
    go_simp
    (with_reducible refine (HClO.out _ HBT.out).mono ?_)
    rintro eO wO ⟨O2, c2, rfl, hO, lO, bO⟩
    have HBO := Lib.hid (HBT.out.trans (bO.mono HBT.out.size))
    have HrO := Lib.hid hO
    replace HrT := Lib.hid (HrT.out.keep (Keep.ofBelow (Q := fun _ => False) bO) (fun h => h))
    have HLO := Lib.hid (show w.heap.size ≤ O2 from Nat.le_trans HBT.out.size lO)
    clear bO hO lO
    go_wp2_with fail
    refine hK.out _ _ (SK.out _ HBO.out) (fun hHeld => ?_)
    clear hK K
    (try dsimp only [Act.put]); (try simp only [Act.put, List.setIfInBounds_toArray, List.set_cons_zero, List.set_cons_succ])
    refine wpAnyH_take (i := 10) (oi := { dst := some 17, op := Op.build 58 #[(0, Operand.tmp 11), (1, Operand.tmp 16)], type := 58, pos := "spec.go:109", after := #[{ on := 4, ground := Ground.data }, { on := 9, ground := Ground.data }], guard := none }) (v := ?_) rfl (by kernel_rfl) (by kernel_rfl) (by kernel_rfl) (fun _ _ _ h => h) (Or.inl ⟨by rfl, ?_⟩) (by assumption) ?_
    rotate_left
    · intro w hSw; (try dsimp only at hSw); go_simp; try with_reducible rfl
    (try simp only [Act.put, List.setIfInBounds_toArray, List.set_cons_zero, List.set_cons_succ])
    refine wpAnyH_ready (rs := [11]) (by kernel_rfl) (by simp) ?_
    refine AllReadyH.cons rfl (fun K hK => ?_) (AllReadyH.nil)
    go_simp
    go_wp2_with fail
    refine hK.out _ _ (SK.out _ (HBO.out.alloc HBO.out.size _)) (fun hHeld => ?_)
    have HP := Lib.hid (Blk.new wO 58 #[.slice (some ⟨T2, 0, none⟩) s.T.length c1, .slice (some ⟨O2, 0, none⟩) s.O.length c2])
    have HBP := Lib.hid (HBO.out.alloc HBO.out.size (.cells #[.slice (some ⟨T2, 0, none⟩) s.T.length c1, .slice (some ⟨O2, 0, none⟩) s.O.length c2] 58))
    have HLP := Lib.hid (show w.heap.size ≤ wO.heap.size from HBO.out.size)
    replace HrT := Lib.hid (HrT.out.keep ((Keep.refl (fun _ => False) wO).alloc (.cells #[.slice (some ⟨T2, 0, none⟩) s.T.length c1, .slice (some ⟨O2, 0, none⟩) s.O.length c2] 58)) (fun h => h))
    replace HrO := Lib.hid (HrO.out.keep ((Keep.refl (fun _ => False) wO).alloc (.cells #[.slice (some ⟨T2, 0, none⟩) s.T.length c1, .slice (some ⟨O2, 0, none⟩) s.O.length c2] 58)) (fun h => h))
    generalize hWP : wO.alloc _ = wP at HP HBP HrT HrO hHeld ⊢
    obtain ⟨P2, hP2⟩ : ∃ P2, P2 = wO.heap.size := ⟨_, rfl⟩
    rw [← hP2] at HP HLP ⊢
    clear hWP hP2
    clear hK K
    (try dsimp only [Act.put]); (try simp only [Act.put, List.setIfInBounds_toArray, List.set_cons_zero, List.set_cons_succ])
    refine wpAnyH_ready (rs := [12]) (by kernel_rfl) (by simp) ?_
    refine AllReadyH.cons rfl (fun K hK => ?_) (AllReadyH.nil)
    go_simp
    refine hK.out _ _ (by assumption) (fun hHeld => ?_)
    clear hK K
    (try dsimp only [Act.put]); (try simp only [Act.put, List.setIfInBounds_toArray, List.set_cons_zero, List.set_cons_succ])
    refine wpAnyH_done (by kernel_rfl) ?_ _
    clear hHeld
    go_wp2_with fail
    go_meet
    exact ⟨P2, T2, O2, c1, c2, rfl, ⟨HP.out, HrT.out, HrO.out, fun o b _ hk => absurd hk (Nat.not_lt_zero _), fun _ _ => rfl, fun o u g hk => absurd hk (Nat.not_lt_zero _), ⟨HLP.out, HLT.out, HLO.out⟩, HBP.out⟩⟩
  case rest =>
    obtain ⟨P2, T2, O2, c1, c2, rfl, hC⟩ := hcut
    have HC := Lib.hid hC
    have k1 := hC.own.cell 1 _ rfl
    clear hC HClT HClO SK
    obtain ⟨nO, hnO⟩ : ∃ nO, nO = s.O.length := ⟨_, rfl⟩
    rw [← hnO] at k1 hOl
    have HN := Lib.hid hnO
    clear hnO
    go_upto_region 5 with fail
    go_loopw [24] (fun v24 wr => ∃ (k : Nat) (V2 : Nat → Value), k ≤ nO ∧ v24 = .int .i64 (k : Int) ∧ CpS w wr V s P2 T2 O2 c1 c2 k V2) (fun v24 _ => nO - (intOf v24).toNat)
    case atStart => exact ⟨0, V, by omega, rfl, HC.out⟩
    case round =>
      obtain ⟨k, V2, hk, rfl, hC2⟩ := hrel
      have HC2 := Lib.hid hC2
      clear hC2 HC
      by_cases hlt : k < nO
      · have hltI : (k : Int) < (nO : Int) := by omega
        go_upto_region 7 with fail
        obtain ⟨b, hb⟩ : ∃ b, s.O[k]? = some b := ⟨_, List.getElem?_eq_getElem (by have := HN.out; omega)⟩
        have HC3 := Lib.hid (HC2.out.below (rdrewz wr))
        have iy := idx_objs O2 nO c2 k hlt
        have k1 := HC3.out.own.cell 1 _ rfl
        rw [← HN.out] at k1
        refine wp_region_held_drew (S := (fun (X : World) => X.cell? ⟨P2, 1, none⟩ = some (.slice (some ⟨O2, 0, none⟩) nO c2))) (by kernel_rfl) (k1) (fun hHeld => ?_)
        generalize hWd : wr.drew = W7 at HC3 hHeld ⊢
        clear hWd
        have hrow := row_ownkeep (HL.out.row k b hb) (Keep.ofBelow (Q := fun i => w.heap.size ≤ i) (HC3.out.bl.mono (Nat.le_refl _))) (fun g hg e => by have := H.out.lt g (HL.out.mine k g (obj_lt hb) hg); omega)
        have HCl := Lib.hid (clone_line hrow (by have := HWf.out.len hb; have := HWf.out.sz.1; omega))
        have cv := HC3.out.obs.cell hb 2 _ rfl
        rw [HC3.out.old k (Nat.le_refl _)] at cv
        have SKL := Lib.hid (show ∀ X, Below W7.heap.size W7 X → X.cell? ⟨O2, k * 3 + 2, none⟩ = some (V k) from fun X hX => by
          have q := (HC3.out.below hX).obs.cell hb 2 _ rfl
          rwa [HC3.out.old k (Nat.le_refl _)] at q)
        clear hrow
        refine wpAnyH_take (i := 0) (oi := { dst := some 27, op := Op.move (Operand.tmp 3), type := 28, pos := "spec.go:111", after := #[], guard := none }) (v := ?_) rfl (by kernel_rfl) (by kernel_rfl) (by kernel_rfl) (fun _ _ _ h => h) (Or.inl ⟨by rfl, ?_⟩) (by assumption) ?_
        rotate_left
        · intro w hSw; (try dsimp only at hSw); go_simp; try with_reducible rfl
        (try simp only [Act.put, List.setIfInBounds_toArray, List.set_cons_zero, List.set_cons_succ])
        refine wpAnyH_take (i := 1) (oi := { dst := some 28, op := Op.nilCheck (Operand.tmp 27), type := 0, pos := "spec.go:111", after := #[{ on := 0, ground := Ground.data }], guard := none }) (v := ?_) rfl (by kernel_rfl) (by kernel_rfl) (by kernel_rfl) (fun _ _ _ h => h) (Or.inl ⟨by rfl, ?_⟩) (by assumption) ?_
        rotate_left
        · intro w hSw; (try dsimp only at hSw); go_simp; try with_reducible rfl
        (try simp only [Act.put, List.setIfInBounds_toArray, List.set_cons_zero, List.set_cons_succ])
        refine wpAnyH_take (i := 2) (oi := { dst := some 29, op := Op.fieldAddr 58 (Operand.tmp 28) 1, type := 0, pos := "spec.go:111", after := #[{ on := 1, ground := Ground.data }], guard := none }) (v := ?_) rfl (by kernel_rfl) (by kernel_rfl) (by kernel_rfl) (fun _ _ _ h => h) (Or.inl ⟨by rfl, ?_⟩) (by assumption) ?_
        rotate_left
        · intro w hSw; (try dsimp only at hSw); go_simp; try with_reducible rfl
        (try simp only [Act.put, List.setIfInBounds_toArray, List.set_cons_zero, List.set_cons_succ])
        refine wpAnyH_take (i := 3) (oi := { dst := some 30, op := Op.load 56 (Operand.tmp 29), type := 56, pos := "spec.go:111", after := #[{ on := 2, ground := Ground.data }], guard := none }) (v := ?_) rfl (by kernel_rfl) (by kernel_rfl) (by kernel_rfl) (fun _ _ _ h => h) (Or.inl ⟨by rfl, ?_⟩) (by assumption) ?_
        rotate_left
        · intro w hSw; (try dsimp only at hSw); go_simp; try with_reducible rfl
        (try simp only [Act.put, List.setIfInBounds_toArray, List.set_cons_zero, List.set_cons_succ])
        refine wpAnyH_take (i := 4) (oi := { dst := some 31, op := Op.move (Operand.tmp 4), type := 3, pos := "spec.go:111", after := #[], guard := none }) (v := ?_) rfl (by kernel_rfl) (by kernel_rfl) (by kernel_rfl) (fun _ _ _ h => h) (Or.inl ⟨by rfl, ?_⟩) (by assumption) ?_
        rotate_left
        · intro w hSw; (try dsimp only at hSw); go_simp; try with_reducible rfl
        (try simp only [Act.put, List.setIfInBounds_toArray, List.set_cons_zero, List.set_cons_succ])
        refine wpAnyH_take (i := 5) (oi := { dst := some 32, op := Op.move (Operand.tmp 3), type := 28, pos := "spec.go:111", after := #[], guard := none }) (v := ?_) rfl (by kernel_rfl) (by kernel_rfl) (by kernel_rfl) (fun _ _ _ h => h) (Or.inl ⟨by rfl, ?_⟩) (by assumption) ?_
        rotate_left
        · intro w hSw; (try dsimp only at hSw); go_simp; try with_reducible rfl
        (try simp only [Act.put, List.setIfInBounds_toArray, List.set_cons_zero, List.set_cons_succ])
        refine wpAnyH_take (i := 6) (oi := { dst := some 33, op := Op.nilCheck (Operand.tmp 32), type := 0, pos := "spec.go:111", after := #[{ on := 5, ground := Ground.data }], guard := none }) (v := ?_) rfl (by kernel_rfl) (by kernel_rfl) (by kernel_rfl) (fun _ _ _ h => h) (Or.inl ⟨by rfl, ?_⟩) (by assumption) ?_
        rotate_left
        · intro w hSw; (try dsimp only at hSw); go_simp; try with_reducible rfl
        (try simp only [Act.put, List.setIfInBounds_toArray, List.set_cons_zero, List.set_cons_succ])
        refine wpAnyH_take (i := 7) (oi := { dst := some 34, op := Op.fieldAddr 58 (Operand.tmp 33) 1, type := 0, pos := "spec.go:111", after := #[{ on := 6, ground := Ground.data }], guard := none }) (v := ?_) rfl (by kernel_rfl) (by kernel_rfl) (by kernel_rfl) (fun _ _ _ h => h) (Or.inl ⟨by rfl, ?_⟩) (by assumption) ?_
        rotate_left
        · intro w hSw; (try dsimp only at hSw); go_simp; try with_reducible rfl
        (try simp only [Act.put, List.setIfInBounds_toArray, List.set_cons_zero, List.set_cons_succ])
        refine wpAnyH_take (i := 8) (oi := { dst := some 35, op := Op.load 56 (Operand.tmp 34), type := 56, pos := "spec.go:111", after := #[{ on := 7, ground := Ground.data }], guard := none }) (v := ?_) rfl (by kernel_rfl) (by kernel_rfl) (by kernel_rfl) (fun _ _ _ h => h) (Or.inl ⟨by rfl, ?_⟩) (by assumption) ?_
        rotate_left
        · intro w hSw; (try dsimp only at hSw); go_simp; try with_reducible rfl
        (try simp only [Act.put, List.setIfInBounds_toArray, List.set_cons_zero, List.set_cons_succ])
        refine wpAnyH_take (i := 9) (oi := { dst := some 36, op := Op.move (Operand.tmp 4), type := 3, pos := "spec.go:111", after := #[], guard := none }) (v := ?_) rfl (by kernel_rfl) (by kernel_rfl) (by kernel_rfl) (fun _ _ _ h => h) (Or.inl ⟨by rfl, ?_⟩) (by assumption) ?_
        rotate_left
        · intro w hSw; (try dsimp only at hSw); go_simp; try with_reducible rfl
        (try simp only [Act.put, List.setIfInBounds_toArray, List.set_cons_zero, List.set_cons_succ])
        refine wpAnyH_take (i := 10) (oi := { dst := some 37, op := Op.indexAddr 56 (Operand.tmp 35) (Operand.tmp 36), type := 0, pos := "spec.go:111", after := #[{ on := 8, ground := Ground.data }, { on := 9, ground := Ground.data }], guard := none }) (v := ?_) rfl (by kernel_rfl) (by kernel_rfl) (by kernel_rfl) (fun _ _ _ h => h) (Or.inl ⟨by rfl, ?_⟩) (by assumption) ?_
        rotate_left
        · intro w hSw; (try dsimp only at hSw); go_simp; try with_reducible rfl
        (try simp only [Act.put, List.setIfInBounds_toArray, List.set_cons_zero, List.set_cons_succ])
        refine wpAnyH_take (i := 11) (oi := { dst := some 38, op := Op.fieldAddr 60 (Operand.tmp 37) 2, type := 0, pos := "spec.go:111", after := #[{ on := 10, ground := Ground.data }], guard := none }) (v := ?_) rfl (by kernel_rfl) (by kernel_rfl) (by kernel_rfl) (fun _ _ _ h => h) (Or.inl ⟨by rfl, ?_⟩) (by assumption) ?_
        rotate_left
        · intro w hSw; (try dsimp only at hSw); go_simp; try with_reducible rfl
        (try simp only [Act.put, List.setIfInBounds_toArray, List.set_cons_zero, List.set_cons_succ])
        refine wpAnyH_ready (rs := [12]) (by kernel_rfl) (by simp) ?_
        refine AllReadyH.cons rfl (fun K hK => ?_) (AllReadyH.nil)
        go_simp
        refine hK.out _ _ (by assumption) (fun hHeld => ?_)
        clear hK K
        (try dsimp only [Act.put]); (try simp only [Act.put, List.setIfInBounds_toArray, List.set_cons_zero, List.set_cons_succ])
        refine wpAnyH_ready (rs := [13]) (by kernel_rfl) (by simp) ?_
        refine AllReadyH.cons rfl (fun K hK => ?_) (AllReadyH.nil)
        go_simp
        (with_reducible refine HCl.out.mono ?_)
        rintro eL wL ⟨vL, rfl, hrL, bL⟩
        obtain ⟨sa, sc, rfl⟩ := zown_slice hrL
        have HrL := Lib.hid hrL
        have HbL := Lib.hid bL
        have cL := SKL.out wL bL
        have fL := HC3.out.below bL
        have fL2 := fL.obs.free (k * 3 + 2)
        have kL := fL.own.cell 1 _ rfl
        rw [← HN.out] at kL
        clear hrL bL fL
        go_wp2_with fail
        refine hK.out _ _ kL (fun hHeld => ?_)
        clear hK K
        (try dsimp only [Act.put]); (try simp only [Act.put, List.setIfInBounds_toArray, List.set_cons_zero, List.set_cons_succ])
        refine wpAnyH_take (i := 14) (oi := { dst := some 41, op := Op.indexAddr 56 (Operand.tmp 30) (Operand.tmp 31), type := 0, pos := "spec.go:111", after := #[{ on := 3, ground := Ground.data }, { on := 4, ground := Ground.data }, { on := 0, ground := Ground.phase }, { on := 1, ground := Ground.phase }, { on := 2, ground := Ground.phase }, { on := 3, ground := Ground.phase }, { on := 4, ground := Ground.phase }, { on := 5, ground := Ground.phase }, { on := 6, ground := Ground.phase }, { on := 7, ground := Ground.phase }, { on := 8, ground := Ground.phase }, { on := 9, ground := Ground.phase }, { on := 10, ground := Ground.phase }, { on := 11, ground := Ground.phase }, { on := 12, ground := Ground.phase }, { on := 13, ground := Ground.phase }], guard := none }) (v := ?_) rfl (by kernel_rfl) (by kernel_rfl) (by kernel_rfl) (fun _ _ _ h => h) (Or.inl ⟨by rfl, ?_⟩) (by assumption) ?_
        rotate_left
        · intro w hSw; (try dsimp only at hSw); go_simp; try with_reducible rfl
        (try simp only [Act.put, List.setIfInBounds_toArray, List.set_cons_zero, List.set_cons_succ])
        refine wpAnyH_take (i := 15) (oi := { dst := some 42, op := Op.fieldAddr 60 (Operand.tmp 41) 2, type := 0, pos := "spec.go:111", after := #[{ on := 14, ground := Ground.data }, { on := 0, ground := Ground.phase }, { on := 1, ground := Ground.phase }, { on := 2, ground := Ground.phase }, { on := 3, ground := Ground.phase }, { on := 4, ground := Ground.phase }, { on := 5, ground := Ground.phase }, { on := 6, ground := Ground.phase }, { on := 7, ground := Ground.phase }, { on := 8, ground := Ground.phase }, { on := 9, ground := Ground.phase }, { on := 10, ground := Ground.phase }, { on := 11, ground := Ground.phase }, { on := 12, ground := Ground.phase }, { on := 13, ground := Ground.phase }], guard := none }) (v := ?_) rfl (by kernel_rfl) (by kernel_rfl) (by kernel_rfl) (fun _ _ _ h => h) (Or.inl ⟨by rfl, ?_⟩) (by assumption) ?_
        rotate_left
        · intro w hSw; (try dsimp only at hSw); go_simp; try with_reducible rfl
        (try simp only [Act.put, List.setIfInBounds_toArray, List.set_cons_zero, List.set_cons_succ])
        refine wpAnyH_ready (rs := [16]) (by kernel_rfl) (by simp) ?_
        refine AllReadyH.cons rfl (fun K hK => ?_) (AllReadyH.nil)
        go_simp
        go_wp2_with fail
        have HC5 := Lib.hid (HC3.out.step hb HbL.out HrL.out)
        have kS := HC5.out.own.cell 1 _ rfl
        rw [← HN.out] at kS
        refine hK.out _ _ kS (fun hHeld => ?_)
        clear hK K
        (try dsimp only [Act.put]); (try simp only [Act.put, List.setIfInBounds_toArray, List.set_cons_zero, List.set_cons_succ])
        refine wpAnyH_done (by kernel_rfl) ?_ _
        clear hHeld cL fL2 kL kS
        go_wp2_with fail
        go_roundw
        case rel => exact ⟨k + 1, _, by omega, by go_num, HC5.out⟩
        case measure => simp [intOf]; omega
      · have hltI : ¬ (k : Int) < (nO : Int) := by omega
        obtain rfl : k = nO := by omega
        go_wp2_with fail
        go_ret
        have := HC2.out
        rw [HN.out] at this
        exact this.done
end Go.Proofs.Ytcgljmeppmdihaa
