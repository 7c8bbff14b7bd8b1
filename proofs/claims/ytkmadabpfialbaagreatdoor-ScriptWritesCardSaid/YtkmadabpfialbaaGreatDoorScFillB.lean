/- Fill: the picks, with the rounds between. -/
import Derived.Test.YtkmadabpfialbaaGreatDoorScFillA
import Derived.Test.YtkmadabpfialbaaGreatDoorScDecode
import Derived.Test.YtkmadabpfialbaaGreatDoorScNums
namespace Go.Proofs.YtkmadabpfialbaaGreatDoor
open Go.ChangeShapes Go.WideShapes Go.ChangeAt Go.RowKit Go.Shelf
set_option linter.unusedVariables false
set_option maxRecDepth 100000
set_option linter.unusedSimpArgs false
attribute [local go_sem] Oper.semAt_some
theorem fill_no (v : Value) (l : List Pk) (t k : Int) (w : World) (h : t < 1 ∨ k ≤ t) :
    Calls Tryz.prog 11 #[v, .int .i64 t, .int .i64 k] w fun e w' => e = .returned (.slice none 0 0) ∧ Below w.heap.size w w' := by
  rcases Int.lt_or_le t 1 with h1 | h1
  · clear h
    go_enter Tryz.func11, Tryz.ntmps11
    go_wp2
    go_ret
    exact ⟨rfl, Below.refl _ _⟩
  · have h2 : k ≤ t := by omega
    have h3 : ¬ t < 1 := by omega
    clear h h1
    go_enter Tryz.func11, Tryz.ntmps11
    go_wp2
    go_ret
    exact ⟨rfl, Below.refl _ _⟩
theorem cell_two_pk (w : World) (u q : Int) : ∀ (j : Nat) (y : Value), [Value.int .i64 u, Value.int .i64 q][j]? = some y → (w.alloc (.cells #[.int .i64 u, .int .i64 q] 46)).cell? ((⟨w.heap.size, 0, none⟩ : Addr).add j) = some y := by
  intro j y hj
  have hB := Blk.new w 46 #[.int .i64 u, .int .i64 q]
  match j, hj with
  | 0, hj => simp at hj; subst hj; exact hB.cell 0 _ rfl
  | 1, hj => simp at hj; subst hj; exact hB.cell 1 _ rfl
  | (j + 2), hj => simp at hj
theorem keep_grownR {w w' : World} {b : Nat} (h : w.grownBy w' (some b)) : Keep (fun i => i = b) w w' :=
  ⟨h.os, h.tape, h.output, h.size, fun i hi hn => h.block i hi (fun e => hn (Option.some.inj e))⟩
theorem own_far {w : World} {B e size n g cap b : Nat} {xs : List Value} (h : w.ownsRow B e size (.slice (some ⟨g, 0, none⟩) n cap) n xs) (hne : g ≠ b) (u : Value) : (w.setCell ⟨b, 0, none⟩ u).ownsRow B e size (.slice (some ⟨g, 0, none⟩) n cap) n xs := by
  refine ⟨h.1, ?_⟩
  rcases h.2 with h0 | ⟨g', cap', cur, hv, hb', hh, rest⟩
  · exact .inl h0
  · have : g = g' := by simp at hv; exact hv.1
    subst this
    exact .inr ⟨g, cap', cur, hv, hb', (Below.heap_setCell w ⟨b, 0, none⟩ u g hne).trans hh, rest⟩
theorem own_lt {w : World} {B e size n g cap : Nat} {xs : List Value} (h : w.ownsRow B e size (.slice (some ⟨g, 0, none⟩) n cap) n xs) : g < w.heap.size := by
  rcases h.2 with ⟨hv, _⟩ | ⟨g', cap', cur, hv, hb, hh, _⟩
  · cases hv
  · simp at hv
    rw [hv.1]
    exact (Array.getElem?_eq_some_iff.1 hh).1
theorem own_keep {w w' : World} {B e size n g cap N : Nat} {xs : List Value} (h : w.ownsRow B e size (.slice (some ⟨g, 0, none⟩) n cap) n xs) (hb : Below N w w') (hg : g < N) : w'.ownsRow B e size (.slice (some ⟨g, 0, none⟩) n cap) n xs := by
  refine ⟨h.1, ?_⟩
  rcases h.2 with h0 | ⟨g', cap', cur, hv, hb', hh, rest⟩
  · exact .inl h0
  · have : g = g' := by simp at hv; exact hv.1
    subst this
    exact .inr ⟨g, cap', cur, hv, hb', (hb.block g hg).trans hh, rest⟩
theorem filled_call (v : Value) (t m : Int) (w : World) (hv : ∃ a n c, v = .slice a n c) :
    Calls Tryz.prog 22 #[v, .int .i64 t, .int .i64 m] w fun e w' => e = .returned (.func (.func 35) #[] #[.pointer (some ⟨w.heap.size + 2, 0, none⟩), .pointer (some ⟨w.heap.size, 0, none⟩), .pointer (some ⟨w.heap.size + 1, 0, none⟩)]) ∧
      w' = ((w.alloc (.cells #[v] 22)).alloc (.cells #[.int .i64 t] 3)).alloc (.cells #[.int .i64 m] 3) := by
  obtain ⟨a, n, c, rfl⟩ := hv
  have hmf : ∀ (fn : Fn) (first cap : Array Value) (w : World), (Instr.makeFunc fn first cap).run Tryz.prog w = .ok (.func fn first cap) w := fun _ _ _ _ => rfl
  go_enter Tryz.func22, Tryz.ntmps22
  go_wp2
  go_ret
  exact ⟨rfl, rfl⟩
set_option maxHeartbeats 4000000 in
theorem fill_in (v : Value) (l : List Pk) (t m : Nat) (w : World) (hv : PicksAt w w.heap.size v l) (hl : l.length ≤ 1000) (ht1 : 1 ≤ t) (ht2 : t ≤ 1000) (hm1 : 1 ≤ m) (hm2 : m ≤ 100000) :
    CallsIn Fence.wide 3 Tryz.prog 11 #[v, .int .i64 (t : Int), .int .i64 ((m : Int) + (t : Int))] w fun e w' => ∃ v', e = .returned v' ∧ Below w.heap.size w w' ∧ w'.ownsRow w.heap.size 46 2 v' (fillL m t l).length (pkCells (fillL m t l)) := by
  obtain ⟨a, c, rfl, hc, hp⟩ := id hv
  have hro : Fence.wide.round = none := rfl
  have h1' : 1 ≤ 3 := by omega
  have h2' : 1 ≤ 3 - 1 := by omega
  have h3' : 1 ≤ 3 - 1 - 1 := by omega
  obtain ⟨r, hr⟩ : ∃ r, r = l.length / m := ⟨_, rfl⟩
  have hr1 : r ≤ 1000 := by rw [hr]; exact Nat.le_trans (Nat.div_le_self _ _) hl
  have hdv : ((l.length : Int)).tdiv (m : Int) = (r : Int) := by
    rw [hr, Int.tdiv_eq_ediv_of_nonneg (by omega)]
    rfl
  have hdv3 := div_room l.length r (t : Int) hl hr1 (by omega)
  have hta : 1 ≤ (t : Int) := by omega
  have htb : (t : Int) < (m : Int) + (t : Int) := by omega
  obtain ⟨D, hD⟩ : ∃ D : Nat, D = (r + 1) * t := ⟨_, rfl⟩
  have hD1 : D ≤ 1001000 := by rw [hD]; exact prod_le r t hr1 ht2
  obtain ⟨C, hC⟩ : ∃ C : Nat, C = l.length + D := ⟨_, rfl⟩
  have hC1 : C ≤ 2002000 := by rw [hC]; exact Nat.le_trans (Nat.add_le_add hl hD1) (by decide)
  have hw1 := mul_cast r t D hD hD1
  have hw2 := add_cast l.length D C hC hC1
  have hCN : C = (fillL m t l).length := by rw [fillL_len, hC, hD, hr, Nat.mul_comm]
  obtain ⟨i0, hi, hz0, hz1, hz2⟩ := info_parts picks_info
  obtain ⟨w1, hmk, hown, hgr⟩ := run_make_own (P := Tryz.prog) w w.heap.size 22 46 i0 _ 2 Tryz.underlying22 hi hz0 hz1 .i64 .i64 C (by rw [hz2]; exact Nat.le_trans (Nat.mul_le_mul_left 16 hC1) (by decide)) (Nat.le_trans hC1 (by unfold maxLen; decide)) (Nat.le_refl _)
  have hB1 : Below w.heap.size w w1 := ⟨hgr.os, hgr.tape, hgr.output, hgr.size, fun k hk => hgr.block k hk (by simp)⟩
  have HP := Lib.hid hv
  have HCN := Lib.hid hCN
  have HC2 := Lib.hid hC1
  have hF := Lib.hid (fun W => filled_call (.slice a l.length c) (t : Int) (m : Int) W ⟨_, _, _, rfl⟩)
  clear hp hv hr hD hC hCN hD1 hC1
  refine callsIn_of_wp_marks Tryz.func11 rfl trivial ?_ hro
  simp only [Tryz.ntmps11, List.size_toArray, List.length_cons, List.length_nil, Nat.reduceAdd, Nat.reduceSub, Array.replicate_succ, Array.replicate_zero, List.push_toArray, List.append_toArray, List.nil_append, List.cons_append]
  gi_wp2_with (refine ⟨trivial, ?_⟩; gi_at_call 22; refine (callsIn_wide.2 (hF.out _)).mono ?_; rintro e w' ⟨rfl, rfl⟩)
  obtain ⟨W0, hW0⟩ : ∃ W0, (((w1.alloc (.cells #[.slice (some ⟨w.heap.size, 0, none⟩) 0 C] 22)).alloc (.cells #[.slice a l.length c] 22)).alloc (.cells #[.int .i64 (t : Int)] 3)).alloc (.cells #[.int .i64 (m : Int)] 3) = W0 := ⟨_, rfl⟩
  have s0 : W0.heap.size = w1.heap.size + 4 := by rw [← hW0]; simp
  have b0 : Below w1.heap.size w1 W0 := by rw [← hW0]; go_grown
  have A0 : Blk W0 w1.heap.size 22 #[.slice (some ⟨w.heap.size, 0, none⟩) 0 C] := by rw [← hW0]; exact (((Blk.new w1 _ _).alloc _).alloc _).alloc _
  have L0 : Blk W0 (w1.heap.size + 1) 22 #[.slice a l.length c] := by rw [← hW0]; exact ((blk_two w1 _ _ _).alloc _).alloc _
  have T0 : Blk W0 (w1.heap.size + 2) 3 #[.int .i64 (t : Int)] := by
    rw [← hW0]
    have h := Blk.new ((w1.alloc (.cells #[.slice (some ⟨w.heap.size, 0, none⟩) 0 C] 22)).alloc (.cells #[.slice a l.length c] 22)) 3 #[.int .i64 (t : Int)]
    rw [World.size_alloc, World.size_alloc] at h
    exact h.alloc _
  have E0 : Blk W0 (w1.heap.size + 3) 3 #[.int .i64 (m : Int)] := by
    rw [← hW0]
    have h := Blk.new (((w1.alloc (.cells #[.slice (some ⟨w.heap.size, 0, none⟩) 0 C] 22)).alloc (.cells #[.slice a l.length c] 22)).alloc (.cells #[.int .i64 (t : Int)] 3)) 3 #[.int .i64 (m : Int)]
    rw [World.size_alloc, World.size_alloc, World.size_alloc] at h
    exact h
  have hs1 := hB1.size
  have hBW : Below w.heap.size w W0 := hB1.trans (b0.mono hs1)
  have hrl : w.heap.size < w1.heap.size := own_lt hown
  have hO0 : W0.ownsRow w.heap.size 46 2 (.slice (some ⟨w.heap.size, 0, none⟩) 0 C) 0 (pkCells []) := own_keep hown b0 hrl
  rw [hW0]
  clear hW0
  refine wpIn_range_own hro h1' (gf := 35) (lb := #[.pointer (some ⟨w1.heap.size + 3, 0, none⟩), .pointer (some ⟨w1.heap.size + 1, 0, none⟩), .pointer (some ⟨w1.heap.size + 2, 0, none⟩)]) rfl trivial (enters_of Tryz.func35 (by kernel_rfl) rfl)
    (encs := fun x : Pk => #[pkV x]) (xs := fillL m t l) (Qb := fun i => i = w1.heap.size ∨ i = w.heap.size) (fun i e => by omega) ?seq (fun _ => rfl)
    (fun pre W => Blk W w1.heap.size 22 #[.slice (some ⟨w.heap.size, 0, none⟩) pre.length C] ∧ W.ownsRow w.heap.size 46 2 (.slice (some ⟨w.heap.size, 0, none⟩) pre.length C) pre.length (pkCells pre) ∧ Below w.heap.size w W)
    (fun s A A' ⟨h1, h2, h3⟩ hb => ⟨h1.below hb (by omega), own_keep h2 hb (by omega), h3.trans (hb.mono (by omega))⟩)
    ⟨A0, hO0, hBW⟩
    (fun x a' W => ∃ (Bx : Nat) (u0 u1 u2 u3 u4 u5 u6 u7 u8 u11 u12 u13 u14 u15 u16 u17 u18 u19 u20 u21 u22 u23 u24 u25 u26 u27 u28 u29 u30 u31 u32 u33 u34 u35 u36 u37 u38 u39 u40 u41 u42 u43 u44 u45 u46 u47 u48 u49 : Value), W0.heap.size + 2 ≤ Bx ∧ Blk W Bx 46 #[.int .i64 x.1, .int .i64 x.2] ∧ a' = { tmps := #[u0, u1, u2, u3, u4, u5, u6, u7, u8, .pointer (some ⟨w1.heap.size, 0, none⟩), .pointer (some ⟨Bx, 0, none⟩), u11, u12, u13, u14, u15, u16, u17, u18, u19, u20, u21, u22, u23, u24, u25, u26, u27, u28, u29, u30, u31, u32, u33, u34, u35, u36, u37, u38, u39, u40, u41, u42, u43, u44, u45, u46, u47, u48, u49], defers := [] })
    (fun x a' A A' ⟨Bx, u0, u1, u2, u3, u4, u5, u6, u7, u8, u11, u12, u13, u14, u15, u16, u17, u18, u19, u20, u21, u22, u23, u24, u25, u26, u27, u28, u29, u30, u31, u32, u33, u34, u35, u36, u37, u38, u39, u40, u41, u42, u43, u44, u45, u46, u47, u48, u49, h1, h2, h3⟩ hk => ⟨Bx, u0, u1, u2, u3, u4, u5, u6, u7, u8, u11, u12, u13, u14, u15, u16, u17, u18, u19, u20, u21, u22, u23, u24, u25, u26, u27, u28, u29, u30, u31, u32, u33, u34, u35, u36, u37, u38, u39, u40, u41, u42, u43, u44, u45, u46, u47, u48, u49, h1, h2.keep hk (by omega), h3⟩)
    ?assign ?body ?done
  case seq =>
    intro J W hb hs hJs hY h0
    have hv := HP.out
    exact filledC_in 2 (by omega) m t W0.heap.size (fillL m t l).length (w1.heap.size + 3) (w1.heap.size + 1) (w1.heap.size + 2) w.heap.size l (.slice a l.length c) (fun i => i = w1.heap.size ∨ i = w.heap.size) (fun i e => by omega) (by omega) J W hs hJs
      (fun mm pre x A hA hl2 => by
        obtain ⟨fn, tmps, assign, body, hy, hR⟩ := hY pre x A hA hl2
        exact ⟨fn, tmps, assign, body, hy, hR.1, fun c2 cs2 _ => hR.2 c2 cs2 (fun d h => by cases h)⟩)
      (E0.below hb E0.lt) (L0.below hb L0.lt) (T0.below hb T0.lt) ⟨by omega, by omega⟩ ⟨by omega, by omega⟩ ⟨by omega, by omega⟩ ((hv.below hBW).below (hb.mono (by omega))) (by omega) hm1 hm2 ht2 rfl h0
  case assign =>
    rintro pre x W K hI hsz hK
    obtain ⟨xu, xq⟩ := x
    gi_wp2
    exact hK _ _ ((Below.refl _ W).alloc (Nat.le_refl _) _) ⟨W.heap.size, _, _, _, _, _, _, _, _, _, _, _, _, _, _, _, _, _, _, _, _, _, _, _, _, _, _, _, _, _, _, _, _, _, _, _, _, _, _, _, _, _, _, _, _, _, _, _, _, hsz, Blk.new W _ _, rfl⟩
  case body =>
    rintro pre x a' W ⟨hA, hr, hb⟩ ⟨Bx, u0, u1, u2, u3, u4, u5, u6, u7, u8, u11, u12, u13, u14, u15, u16, u17, u18, u19, u20, u21, u22, u23, u24, u25, u26, u27, u28, u29, u30, u31, u32, u33, u34, u35, u36, u37, u38, u39, u40, u41, u42, u43, u44, u45, u46, u47, u48, u49, h1, h2, rfl⟩ hsz hlen
    have hlen2 : pre.length + 1 ≤ C := by rw [HCN.out]; exact hlen
    obtain ⟨xu, xq⟩ := x
    have a0 := hA.cell 0 _ rfl
    have p0 := h2.cell 0 _ rfl
    have p1 := h2.cell 1 _ rfl
    have HS := Lib.hid (pkCells_snoc pre (xu, xq))
    have HL := Lib.hid (show (pre ++ [(xu, xq)]).length = pre.length + 1 by simp)
    clear hlen hdv hdv3 hw1 hw2 hmk hta htb
    gi_wp2_with (gi_at_builtin; refine wpListIn_append_fits _ rfl _ _ 22 rfl w.heap.size 46 i0 2 Tryz.underlying22 hi hz1 w.heap.size pre.length C _ rfl (hr.alloc _) ⟨W.heap.size, 0, none⟩ 1 1 [.int .i64 xu, .int .i64 xq] rfl rfl (cell_two_pk W xu xq) (by simp [Value.oneCell']) hlen2 ?_; intro w2 hown' hgrow; have hA2 := (hA.alloc (.cells #[.int .i64 xu, .int .i64 xq] 46)).keep (keep_grownR hgrow) (by omega); have c0 := hA2.cell 0 _ rfl; have f0 := hA2.free 0)
    refine ⟨⟨hA2.set 0 _, ?_, ?_⟩, ?_⟩
    · rw [HS.out]
      exact own_far hown' (by omega) _
    · have hb2 : Below w.heap.size w (W.alloc (.cells #[.int .i64 xu, .int .i64 xq] 46)) := hb.alloc hb.size _
      exact ((hb2.grown hgrow hb2.size (fun j e => by cases e; exact Nat.le_refl _))).setCell (p := ⟨w1.heap.size, 0, none⟩) hs1 _
    · have k1 : Keep (fun i => i = w1.heap.size ∨ i = w.heap.size) W (W.alloc (.cells #[.int .i64 xu, .int .i64 xq] 46)) := (Keep.refl _ W).alloc _
      exact (k1.trans ((keep_grownR hgrow).mono (fun i _ e => .inr e))).set (p := ⟨w1.heap.size, 0, none⟩) (fun _ => .inl rfl) _
  case done =>
    rintro W ⟨hA, hr, hb⟩ hsz hK
    have a0 := hA.cell 0 _ rfl
    clear hdv hdv3 hw1 hw2 hmk hta htb
    gi_wp2
    refine ⟨by simp, .inl ⟨_, _, rfl, run_takeDeferred hK, ?_⟩⟩
    have k1 := keep_put (W := W) (l := W0.heap.size) (.deferred none)
    refine ⟨_, results_tmp rfl _ _ _, _, rfl, ?_, ?_⟩
    · exact hb.trans (k1.below hb.size (fun i _ e => by omega))
    · exact own_keep hr (k1.below (n := W0.heap.size) (by omega) (fun i _ e => by omega)) (by omega)
theorem fill_any (v : Value) (l : List Pk) (t m : Nat) (w : World) (hv : PicksAt w w.heap.size v l) (hl : l.length ≤ 1000) (ht1 : 1 ≤ t) (ht2 : t ≤ 1000) (hm1 : 1 ≤ m) (hm2 : m ≤ 100000) :
    Calls Tryz.prog 11 #[v, .int .i64 (t : Int), .int .i64 ((m : Int) + (t : Int))] w fun e w' => ∃ v', e = .returned v' ∧ Below w.heap.size w w' ∧ w'.ownsRow w.heap.size 46 2 v' (fillL m t l).length (pkCells (fillL m t l)) :=
  callsIn_wide.1 (fill_in v l t m w hv hl ht1 ht2 hm1 hm2)
end Go.Proofs.YtkmadabpfialbaaGreatDoor
