/- MachineSums returns true: the walk. -/
import Derived.Test.YtgcmnaiiifaajaaMacSums
import Derived.Test.YtgcmnaiiifaajaaMacKnown
namespace Go.Proofs.Ytgcmnaiiifaajaa
open Go.ChangeShapes Go.WideShapes Go.ChangeAt Go.RowKit
set_option linter.unusedVariables false
set_option maxRecDepth 100000
set_option linter.unusedSimpArgs false
theorem asked_ok {w : World} {n0 : Nat} {a : Option Addr} {N : List (List Int)} (h : NumsAt w n0 a N) (t : Nat) : ∀ r ∈ asked N t, RowOk r := by
  intro r hr
  obtain ⟨row, hrow, rfl⟩ := List.mem_map.1 hr
  refine ⟨by simp [cut10]; omega, fun x hx => ?_⟩
  obtain ⟨i, hi⟩ := List.mem_iff_getElem?.1 (List.mem_of_mem_take hrow)
  obtain ⟨b, o, e, hl, a', c', h1, h2⟩ := h i row hi
  obtain ⟨j, hj⟩ := List.mem_iff_getElem?.1 (List.mem_of_mem_take hx)
  exact (h2 j x hj).1
theorem sint_info : (Try.prog.info? 3).map (fun i => (i.zero, i.size, i.bytes)) = some (some (.int .i64 0), 1, 8) := by kernel_rfl
abbrev atV (V : List Nat) : Array Value := (V.map fun k : Nat => Value.int .i64 (k : Int)).toArray
theorem make_6 (w : World) : (Instr.makeSlice 35 (.int .i64 6) (.int .i64 6)).run Try.prog w = .ok (.slice (some ⟨w.heap.size, 0, none⟩) 6 6) (w.alloc (.cells (atV [0, 0, 0, 0, 0, 0]) 3)) := by
  obtain ⟨i, hi, hz0, hz1, hz2⟩ := info_parts sint_info
  have h := run_make (P := Try.prog) w 35 3 i _ Try.underlying35 hi hz0 .i64 .i64 6 6 (by omega) (by omega) (by rw [hz2]; omega) (by omega)
  have e : madeCells #[Value.int .i64 0] 6 = atV [0, 0, 0, 0, 0, 0] := by
    rw [← Array.toList_inj, toList_madeCells_one]
    simp [atV, List.replicate_succ]
  rw [h, hz1, Nat.mul_one]
  simp only [← e]
  rfl
theorem zeros_fit : ∀ R : List (List Int), Fits R (List.replicate R.length 0) ∧ sumK R (List.replicate R.length 0) = 0 ∧ cntK (List.replicate R.length 0) = 0
  | [] => ⟨trivial, rfl, rfl⟩
  | r :: R => by
    have ih := zeros_fit R
    rw [List.length_cons, List.replicate_succ]
    exact ⟨⟨Nat.zero_le _, ih.1⟩, by simp [sumK, ih.2.1, isum], by simp [cntK, ih.2.2]⟩
theorem zeros_take {R : List (List Int)} (h : R.length ≤ 6) : [0, 0, 0, 0, 0, 0].take R.length = List.replicate R.length 0 := by
  rw [show [0, 0, 0, 0, 0, 0] = List.replicate 6 0 from rfl, List.take_replicate, Nat.min_eq_left h]
theorem asked_at {N : List (List Int)} {t k : Nat} {r : List Int} (h : (asked N t)[k]? = some r) : ∃ row : List Int, N[k]? = some row ∧ r = row.take 10 := by
  unfold asked at h
  rw [List.getElem?_map] at h
  cases h2 : (N.take t)[k]? with
  | none => rw [h2] at h; cases h
  | some row =>
    rw [h2] at h
    refine ⟨row, ?_, (Option.some.inj h).symm⟩
    rw [List.getElem?_take] at h2
    by_cases h3 : k < t
    · rwa [if_pos h3] at h2
    · rw [if_neg h3] at h2; cases h2
/-- what loop 3 has -/
structure L3 (n0 : Nat) (w : World) (C S M X : Nat) (s : St) (R : List (List Int)) (V : List Nat) (m : Nat) : Prop where
  mx : MX n0 w C S M s (fun b => b = X)
  sum : SumAt s R (V.take R.length)
  n : 0 ≤ s.n ∧ s.n ≤ m
  at' : Blk w X 3 (atV V)
  v6 : V.length = 6
theorem L3.new {n0 : Nat} {w : World} {C S M : Nat} {R : List (List Int)} (h : MS n0 w C S M (madeS R)) (hR : R.length ≤ 6) :
    L3 n0 (w.alloc (.cells (atV [0, 0, 0, 0, 0, 0]) 3)) C S M w.heap.size (madeS R) R [0, 0, 0, 0, 0, 0] 0 := by
  have key := zeros_fit R
  have e := zeros_take hR
  refine ⟨MX.of h ((Below.refl _ w).alloc (Nat.le_refl _) _) (by simp), ⟨by rw [e]; exact key.1, rfl, by rw [e, key.2.1]; rfl, by simp [madeS], fun t r k hr hk => ?_⟩, ⟨by simp [madeS], by simp [madeS]⟩, Blk.new w _ _, rfl⟩
  rw [e] at hk
  obtain rfl : k = 0 := by
    have := List.mem_of_getElem? hk
    simp at this; exact this.2
  exact ⟨(tskOf r, []), by simp [madeS, hr], rfl, rfl⟩
theorem L3.below {n0 : Nat} {w w1 : World} {C S M X : Nat} {s : St} {R : List (List Int)} {V : List Nat} {m : Nat} (h : L3 n0 w C S M X s R V m) (hb : Below w.heap.size w w1) : L3 n0 w1 C S M X s R V m :=
  ⟨h.mx.below hb, h.sum, h.n, h.at'.below hb h.at'.lt, h.v6⟩
theorem L3.weak {n0 : Nat} {w : World} {C S M X : Nat} {s : St} {R : List (List Int)} {V : List Nat} {m m' : Nat} (h : L3 n0 w C S M X s R V m) (hm : m ≤ m') : L3 n0 w C S M X s R V m' :=
  ⟨h.mx, h.sum, ⟨h.n.1, by have := h.n.2; omega⟩, h.at', h.v6⟩
theorem l3_load {n0 : Nat} {w : World} {C S M X : Nat} {s : St} {R : List (List Int)} {V : List Nat} {m : Nat} (h : L3 n0 w C S M X s R V m) (hm : m ≤ 2000000) :
    Calls Try.prog 11 #[cellsV C, .int .i64 0] w fun e w' => e = .returned (.int .u64 (sumK R (V.take R.length))) ∧ (∃ s', L3 n0 w' C S M X s' R V (m + 1)) ∧ Below n0 w w' := by
  have hn := h.n
  have hs := h.mx.ms.size
  refine (mx_load _ h.mx (by rw [h.sum.m]; rfl) ⟨hn.1, by omega⟩).mono ?_
  rintro e w' ⟨rfl, g1, g2⟩
  exact ⟨rfl, ⟨_, g1, ⟨h.sum.fits, h.sum.ps, h.sum.m, h.sum.len, h.sum.thr⟩, ⟨by show 0 ≤ s.n + 1; omega, by show s.n + 1 ≤ ((m + 1 : Nat) : Int); omega⟩, h.at'.keep g2 (fun hh => hh.2 rfl), h.v6⟩, g2.below hs.1 (fun i _ hi => hi.1)⟩
theorem l3_over {n0 : Nat} {w : World} {C S M X : Nat} {s : St} {R : List (List Int)} {V : List Nat} {m : Nat} (b : Bool) (h : L3 n0 w C S M X s R V m) (hb : decide (cntK (V.take R.length) = lenK R) = b) :
    Calls Try.prog 12 #[pV M] w fun e w' => e = .returned (.bool b) ∧ Below w.heap.size w w' := by
  subst hb
  rw [← h.sum.over]
  exact ms_over h.mx.ms
theorem l3_yes {n0 : Nat} {wr w : World} {C S M X Y : Nat} {s : St} {R : List (List Int)} {V : List Nat} {m k kk : Nat} {r : List Int} {x : Int} (h : L3 n0 wr C S M X s R V m) (hR : ∀ r ∈ R, RowOk r) (h6 : R.length ≤ 6) (hb : Below wr.heap.size wr w) (hY : wr.heap.size ≤ Y ∧ Y < w.heap.size) (hm : m ≤ 2000000)
    (hr : R[k]? = some r) (hk : V[k]? = some kk) (hx : r[kk]? = some x) :
    Calls Try.prog 10 #[pV M, .agg #[.int .i64 (k : Int), .int .i64 0]] w fun e w' => e = .returned (.bool true) ∧ Keep (fun b => n0 ≤ b ∧ ¬ (b = X ∨ b = Y)) w w' ∧
      ∀ w2, Keep (fun b => b = X) w' w2 → Blk w2 X 3 (atV (V.set k (kk + 1))) → ∃ s', L3 n0 w2 C S M X s' R (V.set k (kk + 1)) (m + 1) := by
  have hn := h.n
  have h1 := h.mx.more hb hY
  have v6 := h.v6
  have hkR : k < R.length := (List.getElem?_eq_some_iff.1 hr).1
  have hkK : (V.take R.length)[k]? = some kk := by rw [List.getElem?_take, if_pos hkR]; exact hk
  obtain ⟨s', hp, hs', hn'⟩ := h.sum.yes hR h6 hr hkK hx
  refine (mx_pick (k : Int) 0 h1 hp ⟨hn.1, by omega⟩).mono ?_
  rintro e w' ⟨rfl, g1, g2⟩
  exact ⟨rfl, g2, fun w2 k2 hB2 => ⟨s', (g1.less (fun b hb => .inl hb)).set k2, by rw [List.take_set]; exact hs', ⟨by omega, by rw [hn']; omega⟩, hB2, by simpa using v6⟩⟩
theorem l3_sums {R : List (List Int)} {V : List Nat} {k kk : Nat} {r : List Int} {x : Int} (hf : Fits R (V.take R.length)) (hR : ∀ r ∈ R, RowOk r) (h6 : R.length ≤ 6) (hr : R[k]? = some r) (hk : V[k]? = some kk) (hx : r[kk]? = some x) :
    (0 ≤ sumK R (V.take R.length) + x ∧ sumK R (V.take R.length) + x ≤ 100000) ∧ cntK ((V.set k (kk + 1)).take R.length) = cntK (V.take R.length) + 1 ∧ sumK R ((V.set k (kk + 1)).take R.length) = sumK R (V.take R.length) + x := by
  have hkR : k < R.length := (List.getElem?_eq_some_iff.1 hr).1
  have hkK : (V.take R.length)[k]? = some kk := by rw [List.getElem?_take, if_pos hkR]; exact hk
  have hf2 := hf.step hr hkK (List.getElem?_eq_some_iff.1 hx).1
  have hsb := sumK_bound hf2 hR
  rw [sumK_step hr hkK hx] at hsb
  exact ⟨by omega, by rw [List.take_set, cntK_step hkK], by rw [List.take_set, sumK_step hr hkK hx]⟩
theorem l3_no {n0 : Nat} {wr w : World} {C S M X Y : Nat} {s : St} {R : List (List Int)} {V : List Nat} {m k : Nat} (h : L3 n0 wr C S M X s R V m) (hb : Below wr.heap.size wr w) (hY : wr.heap.size ≤ Y ∧ Y < w.heap.size) (hm : m ≤ 2000000)
    (hy : ¬ ∃ r x kk, R[k]? = some r ∧ V[k]? = some kk ∧ r[kk]? = some (x : Int)) :
    Calls Try.prog 10 #[pV M, .agg #[.int .i64 (k : Int), .int .i64 0]] w fun e w' => e = .returned (.bool false) ∧ Keep (fun b => n0 ≤ b ∧ ¬ (b = X ∨ b = Y)) w w' ∧ L3 n0 w' C S M X s R V m := by
  have hn := h.n
  have h1 := h.mx.more hb hY
  have v6 := h.v6
  have hX := h.at'.below hb h.at'.lt
  have hp := h.sum.no (t := k) (fun r kk hr hkK => by
    have hkR : k < R.length := (List.getElem?_eq_some_iff.1 hr).1
    rw [List.getElem?_take, if_pos hkR] at hkK
    rcases Nat.lt_or_ge kk r.length with h3 | h3
    · exact absurd ⟨r, r[kk], kk, hr, hkK, List.getElem?_eq_getElem h3⟩ hy
    · exact h3)
  refine (mx_pick (k : Int) 0 h1 hp ⟨hn.1, by omega⟩).mono ?_
  rintro e w' ⟨rfl, g1, g2⟩
  exact ⟨rfl, g2, g1.less (fun b hb => .inl hb), h.sum, hn, hX.keep g2 (fun hh => hh.2 (.inl rfl)), v6⟩
/-- what loop 4 has -/
structure L4 (n0 : Nat) (w : World) (C S M : Nat) (s : St) (R : List (List Int)) (K : List Nat) (m : Nat) : Prop where
  ms : MS n0 w C S M s
  sum : SumAt s R K
  n : 0 ≤ s.n ∧ s.n ≤ m
theorem L3.four {n0 : Nat} {w : World} {C S M X : Nat} {s : St} {R : List (List Int)} {V : List Nat} {m m' : Nat} (h : L3 n0 w C S M X s R V m) (hm : m ≤ m') : L4 n0 w C S M s R (V.take R.length) m' :=
  ⟨h.mx.ms, h.sum, h.n.1, by have := h.n.2; omega⟩
theorem L4.below {n0 : Nat} {w w1 : World} {C S M : Nat} {s : St} {R : List (List Int)} {K : List Nat} {m : Nat} (h : L4 n0 w C S M s R K m) (hb : Below w.heap.size w w1) : L4 n0 w1 C S M s R K m := ⟨h.ms.below hb, h.sum, h.n⟩
theorem l4_pick {n0 : Nat} {w : World} {C S M : Nat} {s : St} {R : List (List Int)} {K : List Nat} {m k : Nat} {rest : List Nat} (h : L4 n0 w C S M s R K m) (hR : ∀ r ∈ R, RowOk r) (h6 : R.length ≤ 6) (ha : ableS s = k :: rest) (hm : m ≤ 2000000) :
    Calls Try.prog 10 #[pV M, .agg #[.int .i64 (k : Int), .int .i64 0]] w fun e w' => e = .returned (.bool true) ∧ (∃ s' K', L4 n0 w' C S M s' R K' (m + 1) ∧ cntK K' = cntK K + 1) ∧ Below n0 w w' := by
  have hn := h.n
  obtain ⟨r, kk, hr, hk, hl⟩ := (h.sum.able k).1 (by rw [ha]; simp)
  obtain ⟨s', hp, hs', hn'⟩ := h.sum.yes hR h6 hr hk (List.getElem?_eq_getElem hl)
  refine (ms_pickE (k : Int) 0 h.ms hp ⟨hn.1, by omega⟩).mono ?_
  rintro e w' ⟨rfl, g1, g2⟩
  exact ⟨rfl, ⟨s', _, ⟨g1, hs', by omega, by rw [hn']; omega⟩, cntK_step hk⟩, g2⟩
theorem l4_end {n0 : Nat} {w : World} {C S M : Nat} {s : St} {R : List (List Int)} {K : List Nat} {m : Nat} (h : L4 n0 w C S M s R K m) (ha : ableS s = []) : cntK K = lenK R ∧ sumK R K = allK R ∧ overS s = true := by
  have e := h.sum.end ha
  exact ⟨e, sumK_ended h.sum.fits (h.sum.fits.ended.1 e), by rw [h.sum.over]; simp [e]⟩
theorem l4_load {n0 : Nat} {w : World} {C S M : Nat} {s : St} {R : List (List Int)} {K : List Nat} {m : Nat} (h : L4 n0 w C S M s R K m) (hm : m ≤ 2000000) (ha : ableS s = []) :
    Calls Try.prog 11 #[cellsV C, .int .i64 0] w fun e w' => e = .returned (.int .u64 (allK R)) ∧ Below n0 w w' := by
  have hn := h.n
  have hs := h.ms.size
  obtain ⟨⟨U, h1, h2⟩, h4⟩ := h.ms
  have hx : MX n0 w C S M s (fun _ => False) := ⟨⟨U, h1, h2, fun _ _ h => h⟩, h4, fun b h => h.elim⟩
  rw [← (l4_end h ha).2.1]
  refine (mx_load _ hx (by rw [h.sum.m]; rfl) ⟨hn.1, by omega⟩).mono ?_
  rintro e w' ⟨rfl, g1, g2⟩
  exact ⟨rfl, g2.below hs.1 (fun i _ hi => hi.1)⟩
theorem atV_set (V : List Nat) (k kk : Nat) : (atV V).setIfInBounds k (.int .i64 ((kk : Int) + 1)) = atV (V.set k (kk + 1)) := by
  simp [atV, List.map_set]
theorem idx_first (len c B o : Nat) : ∀ W, (Instr.indexAt 35 (.slice (some ⟨B, o, none⟩) (len + 1) c) (.int .i64 0)).run Try.prog W = .ok (.pointer (some ⟨B, o, none⟩)) W := by
  intro W
  have := idx_ints (len + 1) c B o 0 (by omega) W
  simpa using this
theorem add_row {n0 : Nat} {wt wr : World} {C S M : Nat} {R : List (List Int)} {v : Value} {TK : List Tk} {r : List Int} (h : MS n0 wt C S M (madeS R)) (hI : Inner wt wr C v TK r) (hB : Below wt.heap.size wt wr) (hR : R.length ≤ 900) (hT : TK.length ≤ 1000) :
    Calls Try.prog 9 #[pV M, v] wr fun e w' => e = .returned (.int .i64 R.length) ∧ MS n0 w' C S M (madeS (R ++ [r])) ∧ Below n0 wr w' := by
  have hl : (madeS R).ts.length = R.length := by simp [madeS]
  refine (ms_add TK v _ wr h hB hI.gives (fun b hb => hb.1) (madeS_noPark R) (fun k hk y hy => ?_) (by omega) hT).mono ?_
  · have h1 : k.x ∈ tskOf r := by rw [← hI.is]; exact List.mem_map_of_mem hk
    obtain ⟨z, _, h2⟩ := List.mem_map.1 h1
    rw [← h2] at hy
    obtain rfl := List.mem_singleton.1 hy
    simp
  · rintro e w' ⟨rfl, g1, g2⟩
    rw [hI.is, madeS_next] at g1
    rw [hl]
    exact ⟨rfl, g1, g2⟩
set_option maxHeartbeats 16000000 in
theorem sums_law (a pa : Option Addr) (N : List (List Int)) (c pl pc : Nat) (w : World) (hN : NumsAt w w.heap.size a N) (hP : PickTs w w.heap.size pa pl) :
    Calls Try.prog 3 #[.slice a N.length c, .slice pa pl pc] w fun e w' => e = .returned (.bool true) ∧ Below w.heap.size w w' := by
  obtain ⟨p0, hp0, hp1, hp2, hp3⟩ := info_parts stask_info
  have HN := Lib.hid hN
  have HP := Lib.hid hP
  have HOK := Lib.hid (asked_ok hN)
  clear hN hP
  go_enter Try.func3, Try.ntmps3
  go_upto_region 3 with (go_at_call 5; refine (works8_any _).mono ?_; rintro e w0 ⟨rfl, b0⟩)
  go_upto_region 4 with (first
    | (go_at_call 6; refine (new_some 1 w0 (by omega)).mono ?_; rintro e w1 ⟨rfl, hC1, b1⟩)
    | (go_at_call 7; refine (mnew_any (w0.heap.size + 1) (w0.heap.size + 1) w1).mono ?_; rintro e w2 ⟨rfl, hM2, b2⟩))
  have s0 := b0.size
  have s1 := b1.size
  have s2 := b2.size
  have c1l := hC1.own.lt
  have hC2 := hC1.keep (Keep.ofBelow (Q := fun _ => False) b2) (fun h => h) (fun h => h)
  have hMS : MS w.heap.size w2 (w0.heap.size + 1) w0.heap.size w1.heap.size (madeS []) :=
    ⟨⟨_, MachS.new (w := w2) hM2 hC2 (.inl (fun x hx => by simp at hx)) ⟨by omega, by omega, by omega, by omega, by simp⟩ ⟨by omega, by omega, by simp⟩, fun b hb => by omega⟩, by omega, by omega, by omega⟩
  have B2 : Below w.heap.size w w2 := (b0.trans (b1.mono s0)).trans (b2.mono (by omega))
  clear hC1 hC2 hM2 b1 b2 b0 c1l s2
  generalize w0.heap.size + 1 = C at *
  generalize w0.heap.size = S at *
  generalize w1.heap.size = M at *
  have HA : Hid (∀ (x : Int) (W : World), Calls Try.prog 8 #[cellsV C, .int .i64 0, .int .u64 x] W fun e w' => ∃ t, e = .returned (pV t) ∧ Made6 W C C (fun b => W.heap.size ≤ b) [ad x] 0 t w') := Lib.hid fun x W => tAdd_any C C _ (ad x) W rfl (fun _ h => h)
  clear s0 s1
  go_wp2
  go_loopw [7, 8, 9] (fun v7 v8 v9 wr => ∃ (t : Nat) (A0 : Int) (L0 : Nat), t ≤ N.length ∧ t ≤ 6 ∧ Hid (A0 = allK (asked N t) ∧ L0 = lenK (asked N t)) ∧ v7 = .int .u64 A0 ∧ v8 = .int .i64 (L0 : Int) ∧ v9 = .int .i64 (t : Int) ∧ MS w.heap.size wr C S M (madeS (asked N t)) ∧ Below w.heap.size w wr)
    (fun _ _ v9 _ => 6 - (intOf v9).toNat)
  case atStart => exact ⟨0, 0, 0, by omega, by omega, Lib.hid ⟨rfl, rfl⟩, rfl, rfl, rfl, hMS, B2⟩
  case round =>
    clear hMS B2
    obtain ⟨t, A0, L0, ht, ht6, hAL, rfl, rfl, rfl, hMS, hB⟩ := hrel
    by_cases hlt : t < N.length ∧ t < 6
    · obtain ⟨h1, h2⟩ := hlt
      obtain ⟨row, hrow⟩ : ∃ row, N[t]? = some row := ⟨_, List.getElem?_eq_getElem h1⟩
      obtain ⟨b, o, rfl, hbl, a', c', hc, hx⟩ := HN.out t row hrow
      have g1 : (t : Int) < (N.length : Int) := by omega
      have g2 : (t : Int) < 6 := by omega
      have hB0 := hB.size
      have f0 : wr.cell? ⟨b, o + t, none⟩ = some (.slice a' row.length c') := (hB.cell (p := ⟨b, _, none⟩) hbl).trans hc
      have ix0 := idx_u8ss N.length c b o t h1 wr
      have hup0 : Inner wr wr C (.slice none 0 0) [] (row.take 0) := ⟨TksUp.nil wr C C, ⟨by simp, .inl ⟨rfl, rfl⟩⟩, fun g e => by simp [Value.ownBlock] at e, rfl, fun _ => rfl⟩
      have HX := Lib.hid hx
      have HMS := Lib.hid hMS
      have HB := Lib.hid hB
      have hrok := HOK.out (t + 1) (cut10 row) (by rw [asked_next hrow]; simp)
      have hall := allK_bound (HOK.out t)
      have hlen := lenK_bound (HOK.out t)
      have hat : (asked N t).length = t := by simp [asked]; omega
      rw [hat, ← hAL.out.1] at hall
      rw [hat, ← hAL.out.2] at hlen
      have HAT := Lib.hid hat
      clear hx hMS hB hat hc
      generalize wr = wt at *
      go_wp2
      go_loopw [7, 8, 10, 11] (fun v7 v8 v10 v11 wi => ∃ (TK : List Tk) (I0 : Int) (L1 : Nat), TK.length ≤ row.length ∧ TK.length ≤ 10 ∧ Hid (I0 = isum (row.take TK.length)) ∧ L1 = L0 + TK.length ∧ v7 = .int .u64 (A0 + I0) ∧ v8 = .int .i64 (L1 : Int) ∧ v11 = .int .i64 (TK.length : Int) ∧ Inner wt wi C v10 TK (row.take TK.length) ∧ Below wt.heap.size wt wi)
        (fun _ _ _ v11 _ => 10 - (intOf v11).toNat)
      case atStart => exact ⟨[], 0, L0, by simp, by simp, Lib.hid rfl, rfl, by simp, rfl, rfl, hup0, Below.refl _ _⟩
      case round =>
        clear hup0
        obtain ⟨TK, I0, L1, hl1, hl2, hI0, hL1, rfl, rfl, rfl, hI, hBi⟩ := hrel
        have fi : wr.cell? ⟨b, o + t, none⟩ = some (.slice a' row.length c') := (hBi.cell (p := ⟨b, _, none⟩) (show b < wt.heap.size by have := HB.out.size; omega)).trans f0
        have ix1 := idx_u8ss N.length c b o t h1 wr
        by_cases hlt : TK.length < row.length ∧ TK.length < 10
        · obtain ⟨h3, h4⟩ := hlt
          obtain ⟨x, hxx⟩ : ∃ x, row[TK.length]? = some x := ⟨_, List.getElem?_eq_getElem h3⟩
          obtain ⟨hx8, b', o', rfl, hbl', hcx⟩ := HX.out TK.length x hxx
          have hsw := HB.out.size
          have hsi := hBi.size
          have fx : wr.cell? ⟨b', o' + TK.length, none⟩ = some (.int .u8 x) := (hBi.cell (p := ⟨b', _, none⟩) (show b' < wt.heap.size by omega)).trans ((HB.out.cell (p := ⟨b', _, none⟩) hbl').trans hcx)
          have ix2 := idx_u8s row.length c' b' o' TK.length h3 wr
          have eW : IntKind.u64.wrap x = x := by rw [IntKind.wrap_u64]; omega
          have hib : 0 ≤ I0 ∧ I0 ≤ 2550 := by
            rw [hI0.out]
            have := isum_bound (row.take TK.length) (fun y hy => by
              obtain ⟨j, hj⟩ := List.mem_iff_getElem?.1 (List.mem_of_mem_take hy)
              exact (HX.out j y hj).1)
            have h5 : (row.take TK.length).length ≤ 10 := by rw [List.length_take]; omega
            omega
          have eS : IntKind.u64.wrap (A0 + I0 + x) = A0 + (I0 + x) := by
            rw [← Int.add_assoc]
            exact sum_wrap _ _ (by omega)
          have g3 : (TK.length : Int) < (row.length : Int) := by omega
          have g4 : (TK.length : Int) < 10 := by omega
          have HI := Lib.hid hI
          have HBi := Lib.hid hBi
          have hTe : Hid (I0 + x = isum (row.take (TK.length + 1))) := Lib.hid (by rw [take_next hxx, hI0.out])
          have e64 : ((L1 + 1 : Nat) : Int) = (L1 : Int) + 1 := by omega
          clear hI hBi hcx
          go_upto_region 14 with (first
            | (go_at_call 8; (try simp only [eW]); refine (HA.out x wr).mono ?_; rintro e w3 ⟨tp, rfl, hM⟩; have hM3 := Lib.hid hM; have hs3 := hM.2.2.size; have hrow := ownsRow_keep HI.out.row (Keep.ofBelow (Q := fun _ => False) hM.2.2); clear hM)
            | (at_builtin; refine wpList_append_own2 _ rfl _ _ 30 rfl wt.heap.size 32 p0 (.pointer none) 1 8 Try.underlying30 hp0 hp1 hp2 hp3 rfl (by decide) _ _ _ rfl (hrow.alloc _) ⟨w3.heap.size, 0, none⟩ 1 1 [pV tp] rfl rfl (cell_one_new _ _ _) (by simp [Value.oneCell']) (by unfold maxLen; omega) (by omega) (by simp; omega) (by omega) ?_; intro g5 c5 w5 h5 hgr hg))
          replace hgr : (w3.alloc (.cells #[pV tp] 32)).grownBy w5 u10.ownBlock := hgr
          replace hg : u10.ownBlock = some g5 ∨ (w3.alloc (.cells #[pV tp] 32)).heap.size ≤ g5 := hg
          have hI5 := Lib.hid (HI.out.next hM3.out h5 hgr hg)
          have hb35 : Below wt.heap.size w3 w5 := grown_below hgr hrow (by omega)
          have hb15 : Below wt.heap.size wr w5 := (hM3.out.2.2.mono hsi).trans hb35
          have hb5 : Hid (Below wt.heap.size wt w5) := Lib.hid (HBi.out.trans hb15)
          have fi5 : w5.cell? ⟨b, o + t, none⟩ = some (.slice (some ⟨b', o', none⟩) row.length c') := (hb15.cell (p := ⟨b, _, none⟩) (show b < wt.heap.size by omega)).trans fi
          have fx5 : w5.cell? ⟨b', o' + TK.length, none⟩ = some (.int .u8 x) := (hb15.cell (p := ⟨b', _, none⟩) (show b' < wt.heap.size by omega)).trans fx
          have ix15 := idx_u8ss N.length c b o t h1 w5
          have ix25 := idx_u8s row.length c' b' o' TK.length h3 w5
          clear fi fx ix1 ix2 hM3 hrow hgr hg h5 hb35 hb15 HI HBi
          go_wp2
          go_roundw
          case rel => exact ⟨TK ++ [⟨tp, fun b => wr.heap.size ≤ b ∧ b < w3.heap.size, ([ad x], 0)⟩], I0 + x, L1 + 1, by simp; omega, by simp; omega, Lib.hid (by simpa using hTe.out), by simp; omega, by simp only [eW, eS], by go_num, by simp, by rw [List.length_append, List.length_singleton, List.take_add_one, hxx]; exact hI5.out, hb5.out⟩
          case measure => simp [intOf]; omega
        · have hcut : Hid (I0 = isum (cut10 row) ∧ TK.length = (cut10 row).length ∧ row.take TK.length = cut10 row) := Lib.hid (by
            have e : row.take TK.length = cut10 row := by
              rcases Nat.lt_or_ge TK.length 10 with h3 | h3
              · have : row.length ≤ TK.length := by omega
                rw [List.take_of_length_le this]; exact (List.take_of_length_le (by omega)).symm
              · rw [show TK.length = 10 by omega]
            rw [hI0.out, e]
            exact ⟨rfl, by rw [← e, List.length_take]; omega, rfl⟩)
          rw [hcut.out.2.2] at hI
          have HA2 := Lib.hid (add_row (r := cut10 row) HMS.out hI hBi (by rw [HAT.out]; omega) (by omega))
          rw [← asked_next hrow] at HA2
          have HBi := Lib.hid hBi
          have hnx : Hid (A0 + I0 = allK (asked N (t + 1)) ∧ L1 = lenK (asked N (t + 1))) := Lib.hid (by
            rw [asked_next hrow, allK_snoc, lenK_snoc, ← hAL.out.1, ← hAL.out.2, ← hcut.out.1, ← hcut.out.2.1]
            exact ⟨rfl, hL1⟩)
          have hor : ¬ ((TK.length : Int) < (row.length : Int)) ∨ ((TK.length : Int) < (row.length : Int)) ∧ ¬ ((TK.length : Int) < 10) := by omega
          clear hI hBi hlt
          rcases hor with g3 | ⟨g3, g4⟩
          all_goals
            go_wp2_with (go_at_call 9; refine HA2.out.mono ?_; rintro e w5 ⟨rfl, hM5, hb5⟩)
            go_roundw
            case rel => exact ⟨t + 1, _, _, by omega, by omega, hnx, rfl, congrArg (Value.int IntKind.i64) (by omega), by go_num, hM5, (HB.out.trans (HBi.out.mono (by exact HB.out.size))).trans hb5⟩
            case measure => simp [intOf]; omega
    · have hR := HOK.out t
      have hRl : (asked N t).length = t := by simp [asked]; omega
      have HRk : Hid (∀ k, k < 6 → (k < t ↔ k < N.length)) := Lib.hid (fun k hk => by omega)
      have HRa : Hid (∀ k r, (asked N t)[k]? = some r → ∃ row : List Int, N[k]? = some row ∧ r = row.take 10) := Lib.hid (fun k r hr => asked_at hr)
      generalize asked N t = R at *
      have HR := Lib.hid hR
      have hor : ¬ ((t : Int) < (N.length : Int)) ∨ ((t : Int) < (N.length : Int)) ∧ ¬ ((t : Int) < 6) := by omega
      have hL := L3.new hMS (by omega)
      have hB3 : Below w.heap.size w (wr.alloc (.cells (atV [0, 0, 0, 0, 0, 0]) 3)) := hB.alloc hB.size _
      have hmk := make_6
      have hXn0 := hB.size
      clear hlt hMS hB HA HOK hR
      rcases hor with g3 | ⟨g3, g4⟩
      all_goals
        go_wp2
        generalize wr.alloc (.cells (atV [0, 0, 0, 0, 0, 0]) 3) = w3 at *
        have hXn : w.heap.size ≤ wr.heap.size := by assumption
        generalize wr.heap.size = X at *
        go_loopw [12, 14, 15] (fun v12 v14 v15 wr => ∃ (j K0 : Nat) (S0 : Int) (V : List Nat) (s : St), j ≤ pl ∧ j ≤ 300 ∧ Hid (K0 = cntK (V.take R.length) ∧ S0 = sumK R (V.take R.length)) ∧ v12 = .int .i64 (K0 : Int) ∧ v14 = .int .u64 S0 ∧ v15 = .int .i64 (j : Int) ∧ L3 w.heap.size wr C S M X s R V (2 * j) ∧ Below w.heap.size w wr)
          (fun _ _ v15 _ => 300 - (intOf v15).toNat)
        case atStart => exact ⟨0, 0, 0, _, _, by omega, by omega, Lib.hid ⟨by rw [zeros_take (by omega)]; exact (zeros_fit R).2.2.symm, by rw [zeros_take (by omega)]; exact (zeros_fit R).2.1.symm⟩, rfl, rfl, rfl, hL, hB3⟩
        case round =>
          clear hL hB3
          obtain ⟨j, K0, S0, V, s, hj, hj3, hKS, rfl, rfl, rfl, hL, hB⟩ := hrel
          by_cases hlt : j < pl ∧ j < 300
          · obtain ⟨h1, h2⟩ := hlt
            obtain ⟨b, o, rfl, hbl, T, hcT⟩ := HP.out j h1
            have hsz := hB.size
            have fT : wr.cell? ⟨b, o + j * 2, none⟩ = some (.int .i64 T) := (hB.cell (p := ⟨b, _, none⟩) hbl).trans hcT
            have ixp := idx_picks pl pc b o j h1 wr
            have g1 : (j : Int) < (pl : Int) := by omega
            have g2 : (j : Int) < 300 := by omega
            obtain ⟨k, hk, hk6⟩ := rem_small T 6 (by omega) (by omega)
            have ek : (IntKind.u64.wrap (T : Int)).tmod ((6 : Nat) : Int) = (IntKind.u64.wrap (T : Int)).tmod 6 := rfl
            rw [ek] at hk
            clear ek hcT
            have HL := Lib.hid hL
            have HB := Lib.hid hB
            clear hL hB
            go_upto_region 24 with fail
            simp only [hk]
            have hY : Blk (wr.alloc (.cells #[.int .i64 (k : Int), .int .i64 0] 38)) wr.heap.size 38 #[.int .i64 (k : Int), .int .i64 0] := Blk.new _ _ _
            have hbY : Below wr.heap.size wr (wr.alloc (.cells #[.int .i64 (k : Int), .int .i64 0] 38)) := (Below.refl _ wr).alloc (Nat.le_refl _) _
            have hYl : wr.heap.size ≤ wr.heap.size ∧ wr.heap.size < (wr.alloc (.cells #[.int .i64 (k : Int), .int .i64 0] 38)).heap.size := by simp
            have hB1 : Below w.heap.size wr (wr.alloc (.cells #[.int .i64 (k : Int), .int .i64 0] 38)) := hbY.mono hsz
            generalize wr.alloc (.cells #[.int .i64 (k : Int), .int .i64 0] 38) = W1 at *
            have y0 : W1.cell? ⟨wr.heap.size, 0, none⟩ = some (.int .i64 (k : Int)) := hY.cell 0 _ rfl
            have y1 : W1.cell? ⟨wr.heap.size, 1, none⟩ = some (.int .i64 0) := hY.cell 1 _ rfl
            have hXY : X < wr.heap.size := HL.out.at'.lt
            clear fT
            by_cases hy : ∃ r x kk, R[k]? = some r ∧ V[k]? = some kk ∧ r[kk]? = some (x : Int)
            · obtain ⟨r, x, kk, hr, hkk, hx⟩ := hy
              have HP1 := Lib.hid (l3_yes HL.out HR.out (by omega) hbY hYl (by omega) hr hkk hx)
              have HS := Lib.hid (l3_sums HL.out.sum.fits HR.out (by omega) hr hkk hx)
              rw [← hKS.out.1, ← hKS.out.2] at HS
              have hXb := HL.out.at'.below hbY HL.out.at'.lt
              clear hbY HL
              go_upto_region 25 with (go_at_call 10; refine HP1.out.mono ?_; rintro e w4 ⟨rfl, kp, hn4⟩)
              obtain ⟨row, hrow, rfl⟩ := HRa.out k r hr
              obtain ⟨b2, o2, rfl, hbl2, a', c', hc2, hx2⟩ := HN.out k row hrow
              have hxr : row[kk]? = some x := by
                rw [List.getElem?_take] at hx
                by_cases h : kk < 10
                · rwa [if_pos h] at hx
                · rw [if_neg h] at hx; cases hx
              obtain ⟨hx8, b3, o3, rfl, hbl3, hc3⟩ := hx2 kk x hxr
              have hkN : k < N.length := (List.getElem?_eq_some_iff.1 hrow).1
              have hkr : kk < row.length := (List.getElem?_eq_some_iff.1 hxr).1
              have hs1 := hB1.size
              have hB4 : Below w.heap.size w w4 := (HB.out.trans hB1).trans (kp.below (by omega) (fun i _ hi => hi.1))
              have f1 : w4.cell? ⟨b2, o2 + k, none⟩ = some (.slice (some ⟨b3, o3, none⟩) row.length c') := (hB4.cell (p := ⟨b2, _, none⟩) hbl2).trans hc2
              have f2 : w4.cell? ⟨b3, o3 + kk, none⟩ = some (.int .u8 x) := (hB4.cell (p := ⟨b3, _, none⟩) hbl3).trans hc3
              have hY4 := hY.keep kp (fun h => h.2 (.inr rfl))
              have hX4 := hXb.keep kp (fun h => h.2 (.inl rfl))
              have y4 : w4.cell? ⟨wr.heap.size, 0, none⟩ = some (.int .i64 (k : Int)) := hY4.cell 0 _ rfl
              have x4 : w4.cell? ⟨X, k, none⟩ = some (.int .i64 (kk : Int)) := hX4.cell k _ (by simp [atV, hkk])
              have z4 := hX4.free k
              have ix1 := idx_u8ss N.length c b2 o2 k hkN w4
              have ix2 := idx_ints 6 6 X 0 k (by omega) w4
              have ix3 := idx_u8s row.length c' b3 o3 kk hkr w4
              have eW : IntKind.u64.wrap x = x := by rw [IntKind.wrap_u64]; omega
              have eS : IntKind.u64.wrap (S0 + x) = S0 + x := sum_wrap _ _ HS.out.1
              clear hc2 hx2 hc3 y0 y1
              go_quiet (fail)
              have hB5 : Below w.heap.size w (w4.drewN nq) := bdrewN hB4 nq
              have hb45 : Below w4.heap.size w4 (w4.drewN nq) := bdrewN (Below.refl _ w4) nq
              have hY5 := hY4.below hb45 hY4.lt
              have hX5 := hX4.below hb45 hX4.lt
              have k45 : Keep (fun b => b = X) w4 (w4.drewN nq) := Keep.ofBelow hb45
              clear y4 x4 z4 ix1 ix2 ix3 f1 f2 hY4 hX4 hB4 hb45
              generalize w4.drewN nq = w5 at *
              have y5 : w5.cell? ⟨wr.heap.size, 0, none⟩ = some (.int .i64 (k : Int)) := hY5.cell 0 _ rfl
              have x5 : w5.cell? ⟨X, k, none⟩ = some (.int .i64 (kk : Int)) := hX5.cell k _ (by simp [atV, hkk])
              have z5 := hX5.free k
              have ix5 := idx_ints 6 6 X 0 k (by omega) w5
              have hkv : k < V.length := by have := (List.getElem?_eq_some_iff.1 hkk).1; omega
              have hk10 : (kk : Int) + 1 ≤ 1000000 := by
                have := List.length_take_le 10 row
                have := (List.getElem?_eq_some_iff.1 hx).1
                omega
              go_upto_region 27 with fail
              have hX6 := hX5.set k (.int .i64 ((kk : Int) + 1))
              rw [atV_set] at hX6
              have k46 := k45.set (p := ⟨X, k, none⟩) (fun _ => rfl) (.int .i64 ((kk : Int) + 1))
              have k56 := keep_one w5 X k (.int .i64 ((kk : Int) + 1))
              have hB6 : Below w.heap.size w (w5.setCell ⟨X, k, none⟩ (.int .i64 ((kk : Int) + 1))) := hB5.trans (k56.below hB5.size (fun i _ hi => by rw [hi]; exact hXn))
              obtain ⟨s6, hL6⟩ := hn4 _ k46 hX6
              clear y5 x5 z5 ix5 hX5 hX6 k45 k46 k56 hB5 hn4 hY5 kp HP1 hxr hx hkk hk10
              generalize w5.setCell ⟨X, k, none⟩ (.int .i64 ((kk : Int) + 1)) = w6 at *
              have HL6 := Lib.hid hL6
              have HB6 := Lib.hid hB6
              have HLo := Lib.hid (l3_load hL6 (by omega))
              rw [HS.out.2.2] at HLo
              have hKS6 : Hid (K0 + 1 = cntK ((V.set k (kk + 1)).take R.length) ∧ S0 + x = sumK R ((V.set k (kk + 1)).take R.length)) := Lib.hid ⟨HS.out.2.1.symm, HS.out.2.2.symm⟩
              clear hL6 hB6
              have hKL := Fits.le HL6.out.sum.fits
              have hLb := lenK_bound HR.out
              rw [← hKS6.out.1] at hKL
              have hj64 : (j : Int) + 1 ≤ 1000000 := by omega
              have hK64 : (K0 : Int) + 1 ≤ 1000000 := by omega
              have hdec : ∀ b, decide (K0 + 1 = L0) = b → decide (cntK ((V.set k (kk + 1)).take R.length) = lenK R) = b := fun b hb => by rw [← hKS6.out.1, ← hAL.out.2]; exact hb
              have HDE := Lib.hid hdec
              clear hdec hKL hLb
              by_cases he : K0 + 1 = L0
              · have he2 : ((K0 : Int) + 1) = (L0 : Int) := by omega
                have HE := Lib.hid he
                clear he
                go_upto_region 22 with (first
                  | (go_at_call 11; refine HLo.out.mono ?_; rintro e w7 ⟨rfl, ⟨s7, hL7⟩, hb7⟩; have HOv := Lib.hid (l3_over true hL7 (HDE.out true (by simp [HE.out]))))
                  | (go_at_call 12; refine HOv.out.mono ?_; rintro e w8 ⟨rfl, hb8⟩))
                have hB8 := (HB6.out.trans hb7).trans (hb8.mono (by have := HB6.out.size; have := hb7.size; omega))
                have hL8 := (hL7.below hb8).weak (m' := 2 * (j + 1)) (by omega)
                clear hL7 hb7 hb8 HOv HLo
                go_wp2
                go_roundw
                case rel => exact ⟨j + 1, K0 + 1, S0 + x, _, s7, by omega, by omega, hKS6, congrArg (Value.int IntKind.i64) (by omega), rfl, by go_num, hL8, hB8⟩
                case measure => simp [intOf]; omega
              · have he3 : ((K0 : Int) + 1 == (L0 : Int)) = false := by rw [beq_eq_false_iff_ne]; omega
                have HE := Lib.hid he
                clear he
                go_upto_region 22 with (first
                  | (go_at_call 11; refine HLo.out.mono ?_; rintro e w7 ⟨rfl, ⟨s7, hL7⟩, hb7⟩; have HOv := Lib.hid (l3_over false hL7 (HDE.out false (by simp [HE.out]))))
                  | (go_at_call 12; refine HOv.out.mono ?_; rintro e w8 ⟨rfl, hb8⟩))
                have hB8 := (HB6.out.trans hb7).trans (hb8.mono (by have := HB6.out.size; have := hb7.size; omega))
                have hL8 := (hL7.below hb8).weak (m' := 2 * (j + 1)) (by omega)
                clear hL7 hb7 hb8 HOv HLo
                go_wp2
                go_roundw
                case rel => exact ⟨j + 1, K0 + 1, S0 + x, _, s7, by omega, by omega, hKS6, congrArg (Value.int IntKind.i64) (by omega), rfl, by go_num, hL8, hB8⟩
                case measure => simp [intOf]; omega
            · have HP1 := Lib.hid (l3_no (Y := wr.heap.size) HL.out hbY hYl (by omega) hy)
              clear hbY hy hY
              have hs1 := hB1.size
              have hKL := Fits.le HL.out.sum.fits
              have hLb := lenK_bound HR.out
              rw [← hKS.out.1] at hKL
              have hj64 : (j : Int) + 1 ≤ 1000000 := by omega
              have hdec : ∀ b, decide (K0 = L0) = b → decide (cntK (V.take R.length) = lenK R) = b := fun b hb => by rw [← hKS.out.1, ← hAL.out.2]; exact hb
              have HDE := Lib.hid hdec
              have HWW : Hid (w.heap.size ≤ W1.heap.size) := Lib.hid (by omega)
              clear hdec hKL hLb
              by_cases he : K0 = L0
              · have he2 : ((K0 : Int)) = (L0 : Int) := by omega
                have HE := Lib.hid he
                clear he
                go_upto_region 22 with (first
                  | (go_at_call 10; refine HP1.out.mono ?_; rintro e w4 ⟨rfl, kp, hn4⟩; have HB4 : Hid (Below w.heap.size w w4) := Lib.hid ((HB.out.trans hB1).trans (kp.below HWW.out (fun i _ hi => hi.1))); have HLo := Lib.hid (l3_load hn4 (by omega)); rw [← hKS.out.2] at HLo)
                  | (go_at_call 11; refine HLo.out.mono ?_; rintro e w7 ⟨rfl, ⟨s7, hL7⟩, hb7⟩; have HOv := Lib.hid (l3_over true hL7 (HDE.out true (by simp [HE.out]))))
                  | (go_at_call 12; refine HOv.out.mono ?_; rintro e w8 ⟨rfl, hb8⟩))
                have hB8 := (HB4.out.trans hb7).trans (hb8.mono (by have := HB4.out.size; have := hb7.size; omega))
                have hL8 := (hL7.below hb8).weak (m' := 2 * (j + 1)) (by omega)
                clear hL7 hb7 hb8 HOv HLo
                go_wp2
                go_roundw
                case rel => exact ⟨j + 1, K0, S0, _, s7, by omega, by omega, hKS, congrArg (Value.int IntKind.i64) (by omega), rfl, by go_num, hL8, hB8⟩
                case measure => simp [intOf]; omega
              · have he3 : ((K0 : Int) == (L0 : Int)) = false := by rw [beq_eq_false_iff_ne]; omega
                have HE := Lib.hid he
                clear he
                go_upto_region 22 with (first
                  | (go_at_call 10; refine HP1.out.mono ?_; rintro e w4 ⟨rfl, kp, hn4⟩; have HB4 : Hid (Below w.heap.size w w4) := Lib.hid ((HB.out.trans hB1).trans (kp.below HWW.out (fun i _ hi => hi.1))); have HLo := Lib.hid (l3_load hn4 (by omega)); rw [← hKS.out.2] at HLo)
                  | (go_at_call 11; refine HLo.out.mono ?_; rintro e w7 ⟨rfl, ⟨s7, hL7⟩, hb7⟩; have HOv := Lib.hid (l3_over false hL7 (HDE.out false (by simp [HE.out]))))
                  | (go_at_call 12; refine HOv.out.mono ?_; rintro e w8 ⟨rfl, hb8⟩))
                have hB8 := (HB4.out.trans hb7).trans (hb8.mono (by have := HB4.out.size; have := hb7.size; omega))
                have hL8 := (hL7.below hb8).weak (m' := 2 * (j + 1)) (by omega)
                clear hL7 hb7 hb8 HOv HLo
                go_wp2
                go_roundw
                case rel => exact ⟨j + 1, K0, S0, _, s7, by omega, by omega, hKS, congrArg (Value.int IntKind.i64) (by omega), rfl, by go_num, hL8, hB8⟩
                case measure => simp [intOf]; omega
          · have hor4 : ¬ ((j : Int) < (pl : Int)) ∨ ((j : Int) < (pl : Int)) ∧ ¬ ((j : Int) < 300) := by omega
            have hL4 := hL.four (m' := 600 + K0) (by omega)
            have hK0 : Hid (K0 = cntK (V.take R.length)) := Lib.hid hKS.out.1
            have hLb := lenK_bound HR.out
            rw [← hAL.out.2] at hLb
            clear hlt hL HP HN HRa HRk hKS hmk
            generalize V.take R.length = K at *
            rcases hor4 with g4' | ⟨g4', g5'⟩
            all_goals
              go_wp2
              go_loopw [12] (fun v12 wr => ∃ (K0 : Nat) (K : List Nat) (s : St), Hid (K0 = cntK K) ∧ v12 = .int .i64 (K0 : Int) ∧ L4 w.heap.size wr C S M s R K (600 + K0) ∧ Below w.heap.size w wr)
                (fun v12 _ => L0 - (intOf v12).toNat)
              case atStart => exact ⟨K0, K, s, hK0, rfl, hL4, hB⟩
              case round =>
                clear hL4 hB
                obtain ⟨K0, K, s, hK0, rfl, hL, hB⟩ := hrel
                have hKL := Fits.le hL.sum.fits
                rw [← hK0.out, ← hAL.out.2] at hKL
                have hK64 : (K0 : Int) + 1 ≤ 1000000 := by omega
                have g6 : (K0 : Int) ≤ (L0 : Int) := by omega
                have HA1 := Lib.hid (ms_able hL.ms)
                have HL := Lib.hid hL
                have HB := Lib.hid hB
                clear hL hB
                cases hab : ableS s with
                | nil =>
                  rw [hab] at HA1
                  obtain ⟨z1, z2, z3⟩ := l4_end HL.out hab
                  have e0 : K0 = L0 := by rw [hK0.out, hAL.out.2]; exact z1
                  subst e0
                  have HZ := Lib.hid z3
                  have HAB := Lib.hid hab
                  clear z1 z2 z3 hab hKL hLb
                  go_upto_region 34 with (go_at_call 13; refine HA1.out.mono ?_; rintro e w4 ⟨u, rfl, ⟨a4, c4, rfl, _⟩, hb4⟩; have HL4 := Lib.hid (HL.out.below hb4); have HOv := Lib.hid (ms_overE true HL4.out.ms HZ.out))
                  go_wp2_with (first
                    | (go_at_call 12; refine HOv.out.mono ?_; rintro e w5 ⟨rfl, hb5⟩; have HL5 := Lib.hid (HL4.out.below hb5); have HLo := Lib.hid (l4_load HL5.out (by omega) HAB.out); rw [← hAL.out.1] at HLo)
                    | (go_at_call 11; refine HLo.out.mono ?_; rintro e w6 ⟨rfl, hb6⟩))
                  go_ret
                  have e1 := HB.out.size
                  have e4 := hb4.size
                  exact ⟨rfl, ((HB.out.trans (hb4.mono e1)).trans (hb5.mono (by omega))).trans hb6⟩
                | cons k rest =>
                  have HAB := Lib.hid hab
                  rw [hab] at HA1
                  clear hab
                  have hnn : (0 : Int) < ((rest.length : Int) + 1) := by omega
                  go_upto_region 31 with (go_at_call 13; refine HA1.out.mono ?_; rintro e w4 ⟨u, rfl, ⟨a4, c4, rfl, _⟩, hb4⟩; have HL4 := Lib.hid (HL.out.below hb4); have HA2 := Lib.hid (ms_able HL4.out.ms); rw [HAB.out] at HA2)
                  go_wp2_with (first
                    | (go_at_call 13; refine HA2.out.mono ?_; rintro e w5 ⟨u, rfl, ⟨a5, c5, rfl, hc5⟩, hb5⟩; obtain ⟨b5, o5, rfl, hbl5, hcell⟩ := hc5 0 (k : Int) rfl; simp only [Nat.add_zero] at hcell; have ix5 := idx_first rest.length c5 b5 o5 w5; simp only [List.length_map, List.length_cons]; have HL5 := Lib.hid (HL4.out.below hb5); have HP5 := Lib.hid (l4_pick HL5.out HR.out (by omega) HAB.out (by omega)))
                    | (go_at_call 10; refine HP5.out.mono ?_; rintro e w6 ⟨rfl, ⟨s6, K6, hL6, hK6⟩, hb6⟩))
                  go_roundw
                  case rel =>
                    have e1 := HB.out.size
                    have e4 := hb4.size
                    exact ⟨K0 + 1, K6, s6, Lib.hid (by rw [hK6, ← hK0.out]), by go_num, hL6, ((HB.out.trans (hb4.mono e1)).trans (hb5.mono (by omega))).trans hb6⟩
                  case measure =>
                    have := Fits.le hL6.sum.fits
                    rw [hK6, ← hK0.out, ← hAL.out.2] at this
                    simp [intOf]; omega
end Go.Proofs.Ytgcmnaiiifaajaa
