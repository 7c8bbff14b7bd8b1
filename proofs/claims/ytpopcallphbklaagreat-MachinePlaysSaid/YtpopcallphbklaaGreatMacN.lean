/- Layer 8's laws: two, works: the chapter's examples. -/
import Derived.Test.YtpopcallphbklaaGreatMacM
namespace Go.Proofs.YtpopcallphbklaaGreat
open Go.ChangeShapes Go.WideShapes Go.ChangeAt Go.RowKit
set_option linter.unusedVariables false
set_option maxRecDepth 100000
set_option linter.unusedSimpArgs false
abbrev ad (a : Int) : Itm := ⟨3, 0, a, 0⟩
def w0S : St := ⟨[0], [], [([([ad 1], 0), ([ad 2], 0)], []), ([([ad 10], 0)], [])], 0⟩
def w1S : St := ⟨[1], [], [([([ad 2], 0)], [1]), ([([ad 10], 0)], [])], 1⟩
def w2S : St := ⟨[11], [], [([([ad 2], 0)], [1]), ([], [11])], 2⟩
def w3S : St := ⟨[13], [], [([], [1, 13]), ([], [11])], 3⟩
theorem pk0 : pickS w0S 0 0 = (w1S, true) := by kernel_rfl
theorem pk1 : pickS w1S 1 0 = (w2S, true) := by kernel_rfl
theorem pk2 : pickS w2S 1 0 = (w2S, false) := by kernel_rfl
theorem pk3 : pickS w2S 0 0 = (w3S, true) := by kernel_rfl
theorem pk4 : pickS w3S 0 0 = (w3S, false) := by kernel_rfl
theorem pk5 : pickS w0S 2 0 = (w0S, false) := by kernel_rfl
theorem pk6 : pickS w0S 0 1 = (w0S, false) := by kernel_rfl
/-- tasks that were made since w0, apart from one another -/
structure TksUp (w0 w : World) (C P : Nat) (L : List Tk) : Prop where
  tks : TksAt w C P L
  lo : ∀ j ∈ L, ∀ b, j.Q b → w0.heap.size ≤ b ∧ b < w.heap.size
  le : w0.heap.size ≤ w.heap.size
theorem TksUp.nil (w : World) (C P : Nat) : TksUp w w C P [] := ⟨⟨fun k h => by simp at h, List.Pairwise.nil⟩, fun k h => by simp at h, Nat.le_refl _⟩
theorem TksUp.still {w0 w w1 : World} {C P : Nat} {L : List Tk} (h : TksUp w0 w C P L) (hk : Keep (fun _ => False) w w1) : TksUp w0 w1 C P L :=
  ⟨h.tks.keep hk (fun _ _ _ _ h => h), fun j hj b hb => ⟨(h.lo j hj b hb).1, Nat.lt_of_lt_of_le (h.lo j hj b hb).2 hk.size⟩, Nat.le_trans h.le hk.size⟩
theorem TksUp.keep {w0 w w1 : World} {C P : Nat} {L : List Tk} {F : Nat → Prop} (h : TksUp w0 w C P L) (hk : Keep F w w1) (hF : ∀ j ∈ L, ∀ b, j.Q b → ¬ F b) : TksUp w0 w1 C P L :=
  ⟨h.tks.keep hk hF, fun j hj b hb => ⟨(h.lo j hj b hb).1, Nat.lt_of_lt_of_le (h.lo j hj b hb).2 hk.size⟩, Nat.le_trans h.le hk.size⟩
theorem TksUp.snoc {w0 w w' : World} {C P : Nat} {L : List Tk} {r : List Itm} {v : Int} {t : Nat} (h : TksUp w0 w C P L) (hM : Made6 w C P (fun b => w.heap.size ≤ b) r v t w') : TksUp w0 w' C P (L ++ [⟨t, fun b => w.heap.size ≤ b ∧ b < w'.heap.size, (r, v)⟩]) := by
  have hT := hM.tk hM.1
  have hk : Keep (fun _ => False) w w' := Keep.ofBelow hM.2.2
  have h1 := h.still hk
  refine ⟨⟨fun k hk => ?_, ?_⟩, fun j hj b hb => ?_, h1.le⟩
  · rcases List.mem_append.1 hk with hk | hk
    · exact h1.tks.1 k hk
    · obtain rfl := List.mem_singleton.1 hk
      exact hT
  · rw [List.pairwise_append]
    refine ⟨h.tks.2, List.pairwise_singleton _ _, fun a ha b hb z hz hz2 => ?_⟩
    obtain rfl := List.mem_singleton.1 hb
    have := (h.lo a ha z hz).2
    have h2 : w.heap.size ≤ z := hz2.1
    omega
  · rcases List.mem_append.1 hj with hj | hj
    · exact h1.lo j hj b hb
    · obtain rfl := List.mem_singleton.1 hj
      have h2 : w.heap.size ≤ b ∧ b < w'.heap.size := hb
      exact ⟨Nat.le_trans h.le h2.1, h2.2⟩
theorem TksUp.gives {w0 w : World} {C P : Nat} {L : List Tk} {v : Value} (h : TksUp w0 w C P L) (hv : (L = [] ∧ v = .slice none 0 0) ∨ (L ≠ [] ∧ ∃ B o cap, v = .slice (some ⟨B, o, none⟩) L.length cap ∧ ∀ i k, L[i]? = some k → w.cell? ⟨B, o + i, none⟩ = some (pV k.t))) :
    Gives w C P (fun b => w0.heap.size ≤ b ∧ b < w.heap.size) v L := ⟨hv, h.tks, h.lo, fun b hb => hb.2⟩
theorem two_any (w : World) : Calls Tryz.prog 29 #[] w fun e w' => ∃ M C S, e = .returned (.tuple #[pV M, cellsV C]) ∧ MS w.heap.size w' C S M w0S ∧ Below w.heap.size w w' := by
  have hN := Lib.hid (new_some 1 w (by omega))
  go_enter Tryz.func29, Tryz.ntmps29
  go_upto_region 2 with (first
    | (go_at_call 19; refine hN.out.mono ?_; rintro e w1 ⟨rfl, hC1, b1⟩)
    | (go_at_call 22; refine (mnew_any (w.heap.size + 1) (w.heap.size + 1) w1).mono ?_; rintro e w2 ⟨rfl, hM2, b2⟩))
  have s1 := b1.size
  have s2 := b2.size
  have c1l := hC1.own.lt
  have hC2 := hC1.keep (Keep.ofBelow (Q := fun _ => False) b2) (fun h => h) (fun h => h)
  have hMS : MS w.heap.size w2 (w.heap.size + 1) w.heap.size w1.heap.size ⟨[0], [], [], 0⟩ :=
    ⟨⟨_, MachS.new (w := w2) hM2 hC2 (.inl (fun x hx => by simp at hx)) ⟨by omega, by omega, by omega, by omega, by simp⟩ ⟨by omega, by omega, by simp⟩, fun b hb => by omega⟩, by omega, by omega, by omega⟩
  have B2 : Below w.heap.size w w2 := b1.trans (b2.mono (by omega))
  clear hN hC1 hC2 hM2 b1 b2
  generalize w.heap.size + 1 = C at *
  generalize w1.heap.size = M at *
  have HMS := Lib.hid hMS
  have HA : Hid (∀ W : World, Calls Tryz.prog 57 #[cellsV C, .int .i64 0, .int .u64 1] W fun e w' => ∃ t, e = .returned (pV t) ∧ Made6 W C C (fun b => W.heap.size ≤ b) [ad 1] 0 t w') := Lib.hid fun W => tAdd_any C C _ (ad 1) W rfl (fun _ h => h)
  have HB : Hid (∀ W : World, Calls Tryz.prog 57 #[cellsV C, .int .i64 0, .int .u64 2] W fun e w' => ∃ t, e = .returned (pV t) ∧ Made6 W C C (fun b => W.heap.size ≤ b) [ad 2] 0 t w') := Lib.hid fun W => tAdd_any C C _ (ad 2) W rfl (fun _ h => h)
  have HD : Hid (∀ W : World, Calls Tryz.prog 57 #[cellsV C, .int .i64 0, .int .u64 10] W fun e w' => ∃ t, e = .returned (pV t) ∧ Made6 W C C (fun b => W.heap.size ≤ b) [ad 10] 0 t w') := Lib.hid fun W => tAdd_any C C _ (ad 10) W rfl (fun _ h => h)
  have HG : Hid (∀ w3 w4 t1 t2, Made6 w2 C C (fun b => w2.heap.size ≤ b) [ad 1] 0 t1 w3 → Made6 w3 C C (fun b => w3.heap.size ≤ b) [ad 2] 0 t2 w4 →
      Calls Tryz.prog 27 #[pV M, .slice (some ⟨w4.heap.size, 0, none⟩) 2 2] (w4.alloc (.cells #[pV t1, pV t2] 66)) fun e w' => e = .returned (.int .i64 0) ∧ MS w.heap.size w' C w.heap.size M ⟨[0], [], [([([ad 1], 0), ([ad 2], 0)], [])], 0⟩ ∧ Below w.heap.size w w') := Lib.hid (by
    intro w3 w4 t1 t2 hM3 hM4
    have hup := ((TksUp.nil w2 C C).snoc hM3).snoc hM4
    have ka : Keep (fun _ => False) w4 (w4.alloc (.cells #[pV t1, pV t2] 66)) := (Keep.refl _ _).alloc _
    have hup2 := hup.still ka
    have hB := Blk.new w4 66 #[pV t1, pV t2]
    have b4 : Below w2.heap.size w2 (w4.alloc (.cells #[pV t1, pV t2] 66)) := (hM3.2.2.trans (hM4.2.2.mono hM3.2.2.size)).trans ((Below.refl _ w4).alloc (Nat.le_trans hM3.2.2.size hM4.2.2.size) _)
    refine (ms_add _ _ _ _ HMS.out b4 (hup2.gives (.inr ⟨by simp, w4.heap.size, 0, 2, rfl, fun i k hi => ?_⟩)) (fun b hb => hb.1) (fun x hx => by simp at hx) (fun k hk y hy => ?_) (by simp) (by simp)).mono ?_
    · rw [Nat.zero_add]
      match i, hi with
      | 0, hi => obtain rfl := Option.some.inj hi; exact hB.cell 0 _ rfl
      | 1, hi => obtain rfl := Option.some.inj hi; exact hB.cell 1 _ rfl
      | (i + 2), hi => simp at hi
    · simp at hk
      rcases hk with rfl | rfl <;> (simp at hy; subst hy; simp)
    · rintro e w' ⟨rfl, h1, h2⟩
      exact ⟨rfl, h1, (B2.trans (b4.mono HMS.out.size.1)).trans h2⟩)
  clear hMS
  go_upto_region 3 with (first
    | (go_at_call 57; (with_reducible refine (HA.out _).mono ?_); rintro e w3 ⟨t1, rfl, hM3⟩; have HM3 := Lib.hid hM3; clear hM3)
    | (go_at_call 57; (with_reducible refine (HB.out _).mono ?_); rintro e w4 ⟨t2, rfl, hM4⟩; have HG2 := Lib.hid (HG.out w3 w4 t1 t2 HM3.out hM4); clear hM4)
    | (go_at_call 27; refine HG2.out.mono ?_; rintro e w5 ⟨rfl, hMS5, B5⟩))
  have HMS5 := Lib.hid hMS5
  have HG5 : Hid (∀ w6 t3, Made6 w5 C C (fun b => w5.heap.size ≤ b) [ad 10] 0 t3 w6 →
      Calls Tryz.prog 27 #[pV M, .slice (some ⟨w6.heap.size, 0, none⟩) 1 1] (w6.alloc (.cells #[pV t3] 66)) fun e w' => e = .returned (.int .i64 1) ∧ MS w.heap.size w' C w.heap.size M w0S ∧ Below w.heap.size w w') := Lib.hid (by
    intro w6 t3 hM6
    have hup := ((TksUp.nil w5 C C).snoc hM6)
    have ka : Keep (fun _ => False) w6 (w6.alloc (.cells #[pV t3] 66)) := (Keep.refl _ _).alloc _
    have hup2 := hup.still ka
    have hB := Blk.new w6 66 #[pV t3]
    have b6 : Below w5.heap.size w5 (w6.alloc (.cells #[pV t3] 66)) := hM6.2.2.trans ((Below.refl _ w6).alloc hM6.2.2.size _)
    refine (ms_add _ _ _ _ HMS5.out b6 (hup2.gives (.inr ⟨by simp, w6.heap.size, 0, 1, rfl, fun i k hi => ?_⟩)) (fun b hb => hb.1) (fun x hx => ?_) (fun k hk y hy => ?_) (by simp) (by simp)).mono ?_
    · rw [Nat.zero_add]
      match i, hi with
      | 0, hi => obtain rfl := Option.some.inj hi; exact hB.cell 0 _ rfl
      | (i + 1), hi => simp at hi
    · intro q hq y hy
      simp at hx
      subst hx
      simp at hq
      rcases hq with rfl | rfl <;> (simp at hy; subst hy; simp)
    · simp at hk
      subst hk
      simp at hy; subst hy; simp
    · rintro e w' ⟨rfl, h1, h2⟩
      exact ⟨rfl, h1, (B5.trans (b6.mono HMS5.out.size.1)).trans h2⟩)
  clear hMS5 HG HG2 HA HB HMS HM3
  go_wp2_with (first
    | (go_at_call 57; (with_reducible refine (HD.out _).mono ?_); rintro e w6 ⟨t3, rfl, hM6⟩; have HG6 := Lib.hid (HG5.out w6 t3 hM6); clear hM6)
    | (go_at_call 27; refine HG6.out.mono ?_; rintro e w7 ⟨rfl, hMS7, B7⟩))
  refine bodyPost_ret (v := .tuple #[pV M, cellsV C]) (by simp [results, Tryz.results29, go_sem]) rfl ?_
  exact ⟨M, C, _, rfl, hMS7, B7⟩
theorem ms_pickE {n0 : Nat} {w : World} {C S M : Nat} {s s' : St} {b : Bool} (t k : Int) (h : MS n0 w C S M s) (hp : pickS s t k = (s', b)) (hn : 0 ≤ s.n ∧ s.n ≤ 2000000) :
    Calls Tryz.prog 8 #[pV M, .agg #[.int .i64 t, .int .i64 k]] w fun e w' => e = .returned (.bool b) ∧ MS n0 w' C S M s' ∧ Below n0 w w' := by
  have := ms_pick t k h hn
  rwa [hp] at this
theorem ms_valuesE {n0 : Nat} {w : World} {C S M : Nat} {s : St} (t : Int) (l : List Int) (h : MS n0 w C S M s) (hl : (thrAt s.ts t).2 = l) (hn : l.length ≤ 1000) :
    Calls Tryz.prog 17 #[pV M, .int .i64 t] w fun e w' => ∃ v, e = .returned v ∧ RowI w' v l ∧ Below w.heap.size w w' := by
  subst hl
  exact ms_values t h hn
theorem ms_overE {n0 : Nat} {w : World} {C S M : Nat} {s : St} (b : Bool) (h : MS n0 w C S M s) (hl : overS s = b) : Calls Tryz.prog 13 #[pV M] w fun e w' => e = .returned (.bool b) ∧ Below w.heap.size w w' := by
  subst hl
  exact ms_over h
/-- a row of numbers laid anew -/
theorem rowI_new (w : World) (l : List Int) (c : Nat) : RowI (w.alloc (.cells (l.map (Value.int .i64)).toArray 3)) (.slice (some ⟨w.heap.size, 0, none⟩) l.length c) l := by
  have hB := Blk.new w 3 (l.map (Value.int .i64)).toArray
  refine ⟨_, c, rfl, fun i x hi => ⟨w.heap.size, 0, rfl, hB.lt, ?_⟩⟩
  rw [Nat.zero_add]
  exact hB.cell i _ (by simp [hi])
theorem RowI.still {w : World} {v : Value} {l : List Int} (h : RowI w v l) (o : Obj) : RowI (w.alloc o) v l := h.below ((Below.refl _ w).alloc (Nat.le_refl _) _)
theorem MS.apart {n1 : Nat} {w w1 : World} {C S M : Nat} {s : St} {F : Nat → Prop} (h : MS n1 w C S M s) (hk : Keep F w w1) (hF : ∀ b, F b → b < n1) : MS n1 w1 C S M s := by
  obtain ⟨⟨U, hM, hU⟩, h1⟩ := h
  have h0 := h1
  have nf : ∀ b, n1 ≤ b → ¬ F b := fun b hb h => by have := hF b h; omega
  exact ⟨⟨U, hM.keep hk (fun b hb => nf b (hU b hb)) (nf _ (by omega)) (nf _ (by omega)) (nf _ (by omega)) (nf _ (by omega)) (fun c hc => by simp at hc), hU⟩, h1⟩
theorem ms_loadK {n0 : Nat} {w : World} {C S M : Nat} {s : St} (i : Nat) (x : Int) (h : MS n0 w C S M s) (hx : s.m[i]? = some x) (hn : 0 ≤ s.n ∧ s.n ≤ 2000000) :
    Calls Tryz.prog 30 #[cellsV C, .int .i64 i] w fun e w' => e = .returned (.int .u64 x) ∧ MS n0 w' C S M ⟨s.m, s.ps, s.ts, s.n + 1⟩ ∧ Keep (fun b => b = C ∨ b = S) w w' := by
  have hs := h.size
  obtain ⟨⟨U, hM, hU⟩, h1⟩ := h
  refine (load_yes C S s.m s.n i x w hM.cells hx hn.1 (by omega)).mono ?_
  rintro e w' ⟨rfl, g1, g2⟩
  have hz := g2.size
  obtain ⟨L, e1, hL⟩ := hM.mach
  have hsz : C < w'.heap.size := by omega
  refine ⟨rfl, ⟨⟨U, ⟨⟨L, e1, hL.keep g2 (fun b hb hf => hf.elim (hM.apart b hb).1 (hM.apart b hb).2.1)⟩, g1, ?_, hM.ok, hM.apart, hsz, hsz, fun c hc => by simp at hc⟩, hU⟩, h1⟩, g2⟩
  rcases hM.perm with hp | hp
  · exact .inl hp
  · exact absurd rfl (hM.cells.own.apart hp.own (by decide))
set_option maxHeartbeats 4000000 in
theorem works8_any (w : World) : Calls Tryz.prog 6 #[] w fun e w' => e = .returned (.bool true) ∧ Below w.heap.size w w' := by
  have HT := Lib.hid fun W => two_any W
  go_enter Tryz.func6, Tryz.ntmps6
  go_upto_region 2 with (go_at_call 29; refine (HT.out w).mono ?_; rintro e w1 ⟨M, C, S, rfl, hM1, b1⟩)
  have H1 := Lib.hid (ms_pickE 0 0 hM1 pk0 ⟨by decide, by decide⟩)
  clear hM1
  go_upto_region 3 with (first
    | (go_at_call 8; (with_reducible refine H1.out.mono ?_); rintro e w2 ⟨rfl, hM2, b2⟩; have H2 := Lib.hid (ms_pickE 1 0 hM2 pk1 ⟨by decide, by decide⟩); clear hM2 H1)
    | (go_at_call 8; (with_reducible refine H2.out.mono ?_); rintro e w3 ⟨rfl, hM3, b3⟩; have H3 := Lib.hid (ms_pickE 1 0 hM3 pk2 ⟨by decide, by decide⟩); clear hM3 H2)
    | (go_at_call 8; (with_reducible refine H3.out.mono ?_); rintro e w4 ⟨rfl, hM4, b4⟩; have H4 := Lib.hid (ms_pickE 0 0 hM4 pk3 ⟨by decide, by decide⟩); clear hM4 H3)
    | (go_at_call 8; (with_reducible refine H4.out.mono ?_); rintro e w5 ⟨rfl, hM5, b5⟩; have H5 := Lib.hid (ms_pickE 0 0 hM5 pk4 ⟨by decide, by decide⟩); clear hM5 H4)
    | (go_at_call 8; (with_reducible refine H5.out.mono ?_); rintro e w6 ⟨rfl, hM6, b6⟩))
  have B6 : Below w.heap.size w w6 := ((((b1.trans b2).trans b3).trans b4).trans b5).trans b6
  clear b1 b2 b3 b4 b5 b6
  have HM6 := Lib.hid hM6
  have s6 := hM6.size
  clear hM6 H5
  go_upto_region 4 with (go_at_call 29; refine (HT.out w6).mono ?_; rintro e w7 ⟨M2, C2, S2, rfl, hN7, b7⟩)
  have HM7 := HM6.out.below b7
  have HN7 := Lib.hid hN7
  clear HM6 hN7 HT
  have B7 : Below w.heap.size w w7 := B6.trans (b7.mono s6.1)
  clear B6 b7
  have L1 := Lib.hid (ms_loadK 0 13 HM7 rfl ⟨by decide, by decide⟩)
  have C6 := s6
  clear HM7
  have k7 : ∀ W, Keep (fun b => b = C ∨ b = S) w7 W → MS w6.heap.size W C2 S2 M2 w0S := fun W hk => HN7.out.apart hk (fun b hb => by rcases hb with rfl | rfl <;> omega)
  have K7 := Lib.hid k7
  clear k7
  go_wp2_with (first
    | (go_at_call 30; (refine L1.out.mono ?_); rintro e w8 ⟨rfl, hM8, k8⟩; have HM8 := Lib.hid hM8; clear hM8; have b8 : Below w.heap.size w7 w8 := k8.below B7.size (fun b _ hb => by have := HM8.out.lo; rcases hb with rfl | rfl <;> omega); have V1 := Lib.hid (ms_valuesE 0 [1, 13] HM8.out rfl (by decide)))
    | (go_at_call 17; (with_reducible refine V1.out.mono ?_); rintro e w9 ⟨v9, rfl, r9, b9⟩; have I1 := Lib.hid (ints_same v9 (.slice (some ⟨w9.heap.size, 0, none⟩) 2 2) [1, 13] _ (r9.still (.cells #[.int .i64 1, .int .i64 13] 3)) (rowI_new w9 [1, 13] 2) (by decide)))
    | (go_at_call 14; (with_reducible refine I1.out.mono ?_); rintro e w10 ⟨rfl, b10⟩; have c10 : Below w8.heap.size w8 w10 := (b9.trans ((Below.refl _ w9).alloc b9.size _)).trans (b10.mono (by have := b9.size; simp; omega)); have HM10 := Lib.hid (HM8.out.below c10); have V2 := Lib.hid (ms_valuesE 1 [11] HM10.out rfl (by decide)))
    | (go_at_call 17; (with_reducible refine V2.out.mono ?_); rintro e w11 ⟨v11, rfl, r11, b11⟩; have I2 := Lib.hid (ints_same v11 (.slice (some ⟨w11.heap.size, 0, none⟩) 1 1) [11] _ (r11.still (.cells #[.int .i64 11] 3)) (rowI_new w11 [11] 1) (by decide)))
    | (go_at_call 14; (with_reducible refine I2.out.mono ?_); rintro e w12 ⟨rfl, b12⟩; have c12 : Below w10.heap.size w10 w12 := (b11.trans ((Below.refl _ w11).alloc b11.size _)).trans (b12.mono (by have := b11.size; simp; omega)); have HM12 := Lib.hid (HM10.out.below c12); have O1 := Lib.hid (ms_overE true HM12.out (by decide)))
    | (go_at_call 13; (with_reducible refine O1.out.mono ?_); rintro e w13 ⟨rfl, b13⟩; have c13 : Below w8.heap.size w8 w13 := (c10.trans (c12.mono c10.size)).trans (b13.mono (Nat.le_trans c10.size c12.size)); have HN13 := Lib.hid ((K7.out w8 k8).below c13); have P1 := Lib.hid (ms_pickE 2 0 HN13.out pk5 ⟨by decide, by decide⟩))
    | (go_at_call 8; (with_reducible refine P1.out.mono ?_); rintro e w14 ⟨rfl, hN14, b14⟩; have P2 := Lib.hid (ms_pickE 0 1 hN14 pk6 ⟨by decide, by decide⟩); clear hN14)
    | (go_at_call 8; (with_reducible refine P2.out.mono ?_); rintro e w15 ⟨rfl, hN15, b15⟩; have L2 := Lib.hid (ms_load 0 0 hN15 rfl ⟨by decide, by decide⟩); clear hN15)
    | (go_at_call 30; (refine L2.out.mono ?_); rintro e w16 ⟨rfl, hN16, b16⟩))
  go_ret
  refine ⟨rfl, ?_⟩
  have e8 : w.heap.size ≤ w8.heap.size := Nat.le_trans B7.size b8.size
  exact ((((B7.trans b8).trans (c13.mono e8)).trans (b14.mono s6.1)).trans (b15.mono s6.1)).trans (b16.mono s6.1)
end Go.Proofs.YtpopcallphbklaaGreat
