/- MachineKnown returns true. -/
import Derived.Test.YtgcmnaiiifaajaaMacN
import Derived.Test.YtgcmnaiiifaajaaMacP
namespace Go.Proofs.Ytgcmnaiiifaajaa
open Go.ChangeShapes Go.WideShapes Go.ChangeAt Go.RowKit
set_option linter.unusedVariables false
set_option maxRecDepth 100000
set_option linter.unusedSimpArgs false
theorem MachAt.none {w : World} {C P C' P' M : Nat} {U : Nat → Prop} (h : MachAt w C P M U []) : MachAt w C' P' M U [] := ⟨h.own, h.mine, fun k hk => by simp at hk, List.Pairwise.nil, h.lt, h.few⟩
abbrev ld : Itm := ⟨0, 0, 0, 0⟩
def k0S : St := ⟨[0], [], [([], []), ([], [4, 0, -1]), ([([ld], 0), ([], 9)], [3])], 0⟩
def k1S : St := ⟨[0], [], [([], []), ([], [4, 0, -1]), ([], [3, 0, 9])], 1⟩
def k2S : St := ⟨[0], [], [([], []), ([], [4, 0, -1]), ([], [3, 0, 9]), ([], [])], 1⟩
theorem kp0 : pickS k0S 2 0 = (k1S, true) := by kernel_rfl
theorem ms_doneE {n0 : Nat} {w : World} {C S M : Nat} {s : St} (t : Int) (b : Bool) (h : MS n0 w C S M s) (hb : (thrAt s.ts t).1.isEmpty = b) :
    Calls Try.prog 17 #[pV M, .int .i64 t] w fun e w' => e = .returned (.bool b) ∧ Below w.heap.size w w' := by
  subst hb
  exact ms_done t h
theorem ms_ableE {n0 : Nat} {w : World} {C S M : Nat} {s : St} (l : List Int) (h : MS n0 w C S M s) (hl : (ableS s).map (fun x : Nat => (x : Int)) = l) : Calls Try.prog 13 #[pV M] w fun e w' => ∃ u, e = .returned u ∧ RowI w' u l ∧ Below w.heap.size w w' := by
  subst hl
  exact ms_able h
/-- a row of no numbers -/
theorem ms_values0 {n0 : Nat} {w : World} {C S M : Nat} {s : St} (t : Int) (h : MS n0 w C S M s) (hl : (thrAt s.ts t).2 = []) :
    Calls Try.prog 19 #[pV M, .int .i64 t] w fun e w' => ∃ a c, e = .returned (.slice a 0 c) ∧ Below w.heap.size w w' := by
  refine (ms_valuesE t [] h hl (by decide)).mono ?_
  rintro e w' ⟨v, rfl, ⟨a, c, rfl, _⟩, hb⟩
  exact ⟨a, c, rfl, hb⟩
theorem ms_make {n0 : Nat} {w : World} {C S M : Nat} {s : St} (h : MS n0 w C S M s) (hn : NoPark s.ts) (hf : s.ts.length + 1 ≤ 1000) :
    Calls Try.prog 20 #[pV M, .nilFunc] w fun e w' => e = .returned (.int .i64 s.ts.length) ∧ MS n0 w' C S M ⟨s.m, s.ps, s.ts ++ [([], [])], s.n⟩ ∧ Below n0 w w' := by
  have hs := h.size
  obtain ⟨⟨U, hM, hU⟩, hlo⟩ := h
  obtain ⟨L, e1, hL⟩ := hM.mach
  have hl : L.length = s.ts.length := by rw [← e1]; simp
  refine (Make_none C C M U L w hL (by omega)).mono ?_
  rintro e w' ⟨rfl, ⟨X, O1, U', g1, g2⟩, g3⟩
  have hz := g3.size
  refine ⟨by rw [hl], ⟨⟨U', ⟨⟨_, ?_, g1⟩, hM.cells.keep g3 (fun h => (hM.apart C h).1 rfl) (fun h => (hM.apart S h).2.1 rfl), .inl ?_, ?_, fun b hb => ?_, by omega, by omega, fun c hc => by simp at hc⟩, fun b hb => (g2 b hb).elim (hU b) (fun h => by omega)⟩, hlo⟩, g3.below hs.1 (fun i _ hi => hU i hi)⟩
  · show (L ++ [_]).map Th.x = _
    rw [List.map_append]
    show thrs L ++ _ = _
    rw [e1]; rfl
  · intro x hx q hq
    rcases List.mem_append.1 hx with hx | hx
    · exact hn x hx q hq
    · obtain rfl := List.mem_singleton.1 hx
      simp at hq
  · intro x hx q hq
    rcases List.mem_append.1 hx with hx | hx
    · exact hM.ok x hx q hq
    · obtain rfl := List.mem_singleton.1 hx
      simp at hq
  · rcases g2 b hb with h | h
    · exact hM.apart b h
    · exact ⟨by omega, by omega, by omega, by omega, by simp⟩
theorem new_over (w : World) (M : Nat) (h : MachAt w 0 0 M (fun b => b = M) []) : Calls Try.prog 12 #[pV M] w fun e w' => e = .returned (.bool true) ∧ Below w.heap.size w w' := over_any 0 0 M _ [] w h
theorem run_nil1 (w : World) : Calls Try.prog 23 #[.pointer none, .slice (some ⟨w.heap.size, 0, none⟩) 1 1] (w.alloc (.cells #[.int .i64 0, .int .i64 0] 38)) fun e w' => e = .returned (.int .i64 0) ∧ Below w.heap.size w w' := by
  have hB := Blk.new w 38 #[.int .i64 0, .int .i64 0]
  refine (run_gen none [(0, 0)] (some ⟨w.heap.size, 0, none⟩) 1 _ (fun i n W => n = 0 ∧ Blk W w.heap.size 38 #[.int .i64 0, .int .i64 0] ∧ Below w.heap.size w W) ⟨rfl, hB, (Below.refl _ w).alloc (Nat.le_refl _) _⟩ (fun i n W W' ⟨h1, h2, h3⟩ hb => ⟨h1, h2.below hb h2.lt, h3.trans (hb.mono h3.size)⟩) (fun i n W p ⟨h1, h2, h3⟩ hi => ?_) (fun i n W p hi ⟨h1, h2, h3⟩ => ?_) (by decide)).mono ?_
  · match i, hi with
    | 0, hi =>
      obtain rfl := Option.some.inj hi
      exact ⟨_, 0, rfl, h2.cell 0 _ rfl, h2.cell 1 _ rfl⟩
    | (i + 1), hi => simp at hi
  · refine (pick_nil p.1 p.2 W).mono ?_
    rintro e w' ⟨rfl, hb⟩
    exact ⟨false, rfl, h1, h2.below hb h2.lt, h3.trans (hb.mono h3.size)⟩
  · rintro e w' ⟨n, rfl, _, rfl, _, hb⟩
    exact ⟨rfl, hb⟩
theorem gives3 {w0 w1 w2 w3 : World} {C t1 t2 t3 : Nat} {r1 r2 r3 : List Itm} {v1 v2 v3 : Int} (h1 : Made6 w0 C C (fun b => w0.heap.size ≤ b) r1 v1 t1 w1) (h2 : Made6 w1 C C (fun b => w1.heap.size ≤ b) r2 v2 t2 w2) (h3 : Made6 w2 C C (fun b => w2.heap.size ≤ b) r3 v3 t3 w3) :
    ∃ Q1 Q2 Q3, Gives (w3.alloc (.cells #[pV t1, pV t2, pV t3] 32)) C C (fun b => w0.heap.size ≤ b ∧ b < (w3.alloc (.cells #[pV t1, pV t2, pV t3] 32)).heap.size) (.slice (some ⟨w3.heap.size, 0, none⟩) 3 3) [⟨t1, Q1, (r1, v1)⟩, ⟨t2, Q2, (r2, v2)⟩, ⟨t3, Q3, (r3, v3)⟩] ∧ Below w0.heap.size w0 (w3.alloc (.cells #[pV t1, pV t2, pV t3] 32)) := by
  have hup := (((TksUp.nil w0 C C).snoc h1).snoc h2).snoc h3
  have ka : Keep (fun _ => False) w3 (w3.alloc (.cells #[pV t1, pV t2, pV t3] 32)) := (Keep.refl _ _).alloc _
  have hB := Blk.new w3 32 #[pV t1, pV t2, pV t3]
  have s1 := h1.2.2.size
  have s2 := h2.2.2.size
  have s3 := h3.2.2.size
  refine ⟨_, _, _, (hup.still ka).gives (.inr ⟨by simp, w3.heap.size, 0, 3, rfl, fun i k hi => ?_⟩), ((h1.2.2.trans (h2.2.2.mono s1)).trans (h3.2.2.mono (by omega))).trans ((Below.refl _ w3).alloc (by omega) _)⟩
  rw [Nat.zero_add]
  match i, hi with
  | 0, hi => obtain rfl := Option.some.inj hi; exact hB.cell 0 _ rfl
  | 1, hi => obtain rfl := Option.some.inj hi; exact hB.cell 1 _ rfl
  | 2, hi => obtain rfl := Option.some.inj hi; exact hB.cell 2 _ rfl
  | (i + 3), hi => simp at hi
theorem add3 {n0 : Nat} {w0 w1 w2 w3 : World} {C S M t1 t2 t3 : Nat} {r1 r2 r3 : List Itm} {v1 v2 v3 : Int} {s : St} (s' : St) (b : Int) (h : MS n0 w0 C S M s) (h1 : Made6 w0 C C (fun b => w0.heap.size ≤ b) r1 v1 t1 w1) (h2 : Made6 w1 C C (fun b => w1.heap.size ≤ b) r2 v2 t2 w2) (h3 : Made6 w2 C C (fun b => w2.heap.size ≤ b) r3 v3 t3 w3)
    (hs : (⟨s.m, s.ps, s.ts ++ [goS [(r1, v1), (r2, v2), (r3, v3)] []], s.n⟩ : St) = s') (hb : (s.ts.length : Int) = b) (hnp : NoPark s.ts) (hnk : ∀ y ∈ r1 ++ r2 ++ r3, ¬ (y.kind = 5 ∨ y.kind = 6)) (hf : s.ts.length + 1 ≤ 1000) :
    Calls Try.prog 9 #[pV M, .slice (some ⟨w3.heap.size, 0, none⟩) 3 3] (w3.alloc (.cells #[pV t1, pV t2, pV t3] 32)) fun e w' => e = .returned (.int .i64 b) ∧ MS n0 w' C S M s' ∧ Below n0 w0 w' := by
  subst hs hb
  obtain ⟨Q1, Q2, Q3, hG, hB⟩ := gives3 h1 h2 h3
  refine (ms_add _ _ _ _ h hB hG (fun b hb => hb.1) hnp (fun k hk y hy => hnk y ?_) hf (by simp)).mono ?_
  · simp at hk
    rcases hk with rfl | rfl | rfl <;> simp_all
  · rintro e w' ⟨rfl, g1, g2⟩
    exact ⟨rfl, g1, (hB.mono h.size.1).trans g2⟩
theorem np_of {ts : List Thr} (h : ts.all (fun x => x.1.all fun t => t.1.all fun y => !(y.kind == 5 || y.kind == 6)) = true) : NoPark ts := by
  intro x hx t ht y hy hk
  have h1 := List.all_eq_true.1 h x hx
  have h2 := List.all_eq_true.1 h1 t ht
  have h3 := List.all_eq_true.1 h2 y hy
  simp at h3
  omega
set_option maxHeartbeats 16000000 in
theorem known8_law (w : World) : Calls Try.prog 4 #[] w fun e w' => e = .returned (.bool true) ∧ Below w.heap.size w w' := by
  go_enter Try.func4, Try.ntmps4
  go_upto_region 4 with (first
    | (go_at_call 7; refine (mnew_any 0 0 w).mono ?_; rintro e w1 ⟨rfl, hM1, b1⟩)
    | (go_at_call 6; refine (new_some 1 w1 (by omega)).mono ?_; rintro e w2 ⟨rfl, hC2, b2⟩))
  have s1 := b1.size
  have s2 := b2.size
  have m1l := hM1.lt _ hM1.mine.1
  have c2l := hC2.own.lt
  have hM2 := (hM1.none (C' := w1.heap.size + 1) (P' := w1.heap.size + 1)).still (Keep.ofBelow b2)
  have hMS : MS w.heap.size w2 (w1.heap.size + 1) w1.heap.size w.heap.size ⟨[0], [], [], 0⟩ :=
    ⟨⟨_, MachS.new (w := w2) hM2 hC2 (.inl (fun x hx => by simp at hx)) ⟨by omega, by omega, by omega, by omega, by simp⟩ ⟨by omega, by omega, by simp⟩, fun b hb => by omega⟩, by omega, by omega, by omega⟩
  have B2 : Below w.heap.size w w2 := b1.trans (b2.mono (by omega))
  clear hM1 hC2 hM2 b1 b2 m1l c2l
  generalize w1.heap.size + 1 = C at *
  generalize w1.heap.size = S at *
  generalize hMe : w.heap.size = M at hMS
  have HA1 : Hid (Calls Try.prog 9 #[pV M, .slice none 0 0] w2 fun e w' => e = .returned (.int .i64 0) ∧ MS M w' C S M ⟨[0], [], [([], [])], 0⟩ ∧ Below M w2 w') :=
    Lib.hid (ms_add [] (.slice none 0 0) (fun b => w2.heap.size ≤ b ∧ b < w2.heap.size) w2 hMS (Below.refl _ _) ((TksUp.nil w2 C C).gives (.inl ⟨rfl, rfl⟩)) (fun b hb => hb.1) (np_of rfl) (fun k hk => by simp at hk) (by simp) (by simp))
  rw [hMe] at B2
  have HB2 := Lib.hid B2
  clear hMS B2
  have HR : Hid (∀ (v : Int) (W : World), Calls Try.prog 14 #[.int .i64 v] W fun e w' => ∃ t, e = .returned (pV t) ∧ Made6 W C C (fun b => W.heap.size ≤ b) [] v t w') := Lib.hid fun v W => tready_any C C _ v W
  have HQ : Hid (∀ (W : World), Calls Try.prog 15 #[.slice none 0 0] W fun e w' => ∃ t, e = .returned (pV t) ∧ Made6 W C C (fun b => W.heap.size ≤ b) [] 0 t w') := Lib.hid fun W => seq_none C C _ W
  have HL : Hid (∀ (W : World), Calls Try.prog 16 #[cellsV C, .int .i64 0] W fun e w' => ∃ t, e = .returned (pV t) ∧ Made6 W C C (fun b => W.heap.size ≤ b) [ld] 0 t w') := Lib.hid fun W => tLoad_any C C _ ld W rfl (fun _ h => h)
  go_upto_region 5 with (first
    | (go_at_call 9; (with_reducible refine HA1.out.mono ?_); rintro e w3 ⟨rfl, hM3, b3⟩; have HM3 := Lib.hid hM3; clear hM3)
    | (go_at_call 14; (with_reducible refine (HR.out 4 w3).mono ?_); rintro e w4 ⟨t1, rfl, hT⟩; have HT1 := Lib.hid hT; clear hT)
    | (go_at_call 15; (with_reducible refine (HQ.out w4).mono ?_); rintro e w5 ⟨t2, rfl, hT⟩; have HT2 := Lib.hid hT; clear hT)
    | (go_at_call 14; (with_reducible refine (HR.out (-1) w5).mono ?_); rintro e w6 ⟨t3, rfl, hT⟩; have HT3 := Lib.hid hT; clear hT; have HA2 := Lib.hid (add3 ⟨[0], [], [([], []), ([], [4, 0, -1])], 0⟩ 1 HM3.out HT1.out HT2.out HT3.out rfl rfl (np_of rfl) (fun y hy => by simp at hy) (by decide)))
    | (go_at_call 9; (with_reducible refine HA2.out.mono ?_); rintro e w7 ⟨rfl, hM7, b7⟩; have HM7 := Lib.hid hM7; clear hM7)
    | (go_at_call 14; (with_reducible refine (HR.out 3 w7).mono ?_); rintro e w8 ⟨t4, rfl, hT⟩; have HT4 := Lib.hid hT; clear hT)
    | (go_at_call 16; (with_reducible refine (HL.out w8).mono ?_); rintro e w9 ⟨t5, rfl, hT⟩; have HT5 := Lib.hid hT; clear hT)
    | (go_at_call 14; (with_reducible refine (HR.out 9 w9).mono ?_); rintro e w10 ⟨t6, rfl, hT⟩; have HT6 := Lib.hid hT; clear hT; have HA3 := Lib.hid (add3 k0S 2 HM7.out HT4.out HT5.out HT6.out rfl rfl (np_of rfl) (fun y hy => by simp at hy; subst hy; simp) (by decide)))
    | (go_at_call 9; (with_reducible refine HA3.out.mono ?_); rintro e w11 ⟨rfl, hM11, b11⟩))
  have B11 : Below M w w11 := ((HB2.out.trans b3).trans b7).trans b11
  have HM11 := Lib.hid hM11
  clear hM11 b3 b7 b11 HB2 HA1 HA2 HA3 HT1 HT2 HT3 HT4 HT5 HT6 HM3 HM7 HR HQ HL
  have D0 := Lib.hid (ms_doneE 0 true HM11.out rfl)
  go_upto_region 6 with (first
    | (go_at_call 17; (with_reducible refine D0.out.mono ?_); rintro e w12 ⟨rfl, b12⟩; have HM12 := Lib.hid (HM11.out.below b12); have D1 := Lib.hid (ms_doneE 1 true HM12.out rfl))
    | (go_at_call 17; (with_reducible refine D1.out.mono ?_); rintro e w13 ⟨rfl, b13⟩; have HM13 := Lib.hid (HM12.out.below b13); have D2 := Lib.hid (ms_doneE 2 false HM13.out rfl))
    | (go_at_call 17; (with_reducible refine D2.out.mono ?_); rintro e w14 ⟨rfl, b14⟩; have HM14 := Lib.hid (HM13.out.below b14); have V1 := Lib.hid (ms_valuesE 1 [4, 0, -1] HM14.out rfl (by decide)))
    | (go_at_call 19; (with_reducible refine V1.out.mono ?_); rintro e w15 ⟨v15, rfl, r15, b15⟩; have I1 := Lib.hid (ints_same v15 (.slice (some ⟨w15.heap.size, 0, none⟩) 3 3) [4, 0, -1] _ (r15.still (.cells #[.int .i64 4, .int .i64 0, .int .i64 (-1)] 3)) (rowI_new w15 [4, 0, -1] 3) (by decide)))
    | (go_at_call 18; (with_reducible refine I1.out.mono ?_); rintro e w16 ⟨rfl, b16⟩; have c16 : Below w14.heap.size w14 w16 := (b15.trans ((Below.refl _ w15).alloc b15.size _)).trans (b16.mono (by have := b15.size; simp; omega)); have HM16 := Lib.hid (HM14.out.below c16); have V2 := Lib.hid (ms_valuesE 2 [3] HM16.out rfl (by decide)))
    | (go_at_call 19; (with_reducible refine V2.out.mono ?_); rintro e w17 ⟨v17, rfl, r17, b17⟩; have I2 := Lib.hid (ints_same v17 (.slice (some ⟨w17.heap.size, 0, none⟩) 1 1) [3] _ (r17.still (.cells #[.int .i64 3] 3)) (rowI_new w17 [3] 1) (by decide)))
    | (go_at_call 18; (with_reducible refine I2.out.mono ?_); rintro e w18 ⟨rfl, b18⟩; have c18 : Below w16.heap.size w16 w18 := (b17.trans ((Below.refl _ w17).alloc b17.size _)).trans (b18.mono (by have := b17.size; simp; omega)); have HM18 := Lib.hid (HM16.out.below c18); have O1 := Lib.hid (ms_overE false HM18.out rfl))
    | (go_at_call 12; (with_reducible refine O1.out.mono ?_); rintro e w19 ⟨rfl, b19⟩; have HM19 := Lib.hid (HM18.out.below b19); have A1 := Lib.hid (ms_ableE [2] HM19.out (by decide)))
    | (go_at_call 13; (with_reducible refine A1.out.mono ?_); rintro e w20 ⟨v20, rfl, r20, b20⟩; have I3 := Lib.hid (ints_same v20 (.slice (some ⟨w20.heap.size, 0, none⟩) 1 1) [2] _ (r20.still (.cells #[.int .i64 2] 3)) (rowI_new w20 [2] 1) (by decide)))
    | (go_at_call 18; (with_reducible refine I3.out.mono ?_); rintro e w21 ⟨rfl, b21⟩; have c21 : Below w19.heap.size w19 w21 := (b20.trans ((Below.refl _ w20).alloc b20.size _)).trans (b21.mono (by have := b20.size; simp; omega)); have HM21 := Lib.hid (HM19.out.below c21)))
  have Z11 := HM11.out.size.1
  have B21 : Below M w w21 := by
    have e12 := b12.size
    have e13 := b13.size
    have e14 := b14.size
    have e16 := c16.size
    have e18 := c18.size
    have e19 := b19.size
    exact ((((((B11.trans (b12.mono Z11)).trans (b13.mono (by omega))).trans (b14.mono (by omega))).trans (c16.mono (by omega))).trans (c18.mono (by omega))).trans (b19.mono (by omega))).trans (c21.mono (by omega))
  clear B11 HM11 HM12 HM13 HM14 HM16 HM18 HM19 D0 D1 D2 V1 V2 I1 I2 I3 O1 A1 b12 b13 b14 b15 b16 c16 b17 b18 c18 b19 b20 b21 c21 r15 r17 r20 Z11
  have P1 := Lib.hid (ms_pickE 2 0 HM21.out kp0 ⟨by decide, by decide⟩)
  go_upto_region 7 with (first
    | (go_at_call 10; (with_reducible refine P1.out.mono ?_); rintro e w22 ⟨rfl, hM22, b22⟩; have HM22 := Lib.hid hM22; clear hM22; have V1 := Lib.hid (ms_valuesE 2 [3, 0, 9] HM22.out rfl (by decide)))
    | (go_at_call 19; (with_reducible refine V1.out.mono ?_); rintro e w23 ⟨v23, rfl, r23, b23⟩; have I1 := Lib.hid (ints_same v23 (.slice (some ⟨w23.heap.size, 0, none⟩) 3 3) [3, 0, 9] _ (r23.still (.cells #[.int .i64 3, .int .i64 0, .int .i64 9] 3)) (rowI_new w23 [3, 0, 9] 3) (by decide)))
    | (go_at_call 18; (with_reducible refine I1.out.mono ?_); rintro e w24 ⟨rfl, b24⟩; have c24 : Below w22.heap.size w22 w24 := (b23.trans ((Below.refl _ w23).alloc b23.size _)).trans (b24.mono (by have := b23.size; simp; omega)); have HM24 := Lib.hid (HM22.out.below c24); have O1 := Lib.hid (ms_overE true HM24.out rfl))
    | (go_at_call 12; (with_reducible refine O1.out.mono ?_); rintro e w25 ⟨rfl, b25⟩; have HM25 := Lib.hid (HM24.out.below b25); have D1 := Lib.hid (ms_doneE 7 true HM25.out rfl))
    | (go_at_call 17; (with_reducible refine D1.out.mono ?_); rintro e w26 ⟨rfl, b26⟩; have HM26 := Lib.hid (HM25.out.below b26); have D2 := Lib.hid (ms_doneE (-1) true HM26.out rfl))
    | (go_at_call 17; (with_reducible refine D2.out.mono ?_); rintro e w27 ⟨rfl, b27⟩; have HM27 := Lib.hid (HM26.out.below b27); have V2 := Lib.hid (ms_values0 5 HM27.out rfl))
    | (go_at_call 19; (with_reducible refine V2.out.mono ?_); rintro e w28 ⟨a28, q28, rfl, b28⟩; have HM28 := Lib.hid (HM27.out.below b28); have K1 : Hid (Calls Try.prog 20 #[pV M, .nilFunc] w28 fun e w' => e = .returned (.int .i64 3) ∧ MS M w' C S M k2S ∧ Below M w28 w') := Lib.hid (ms_make HM28.out (np_of rfl) (by decide)))
    | (go_at_call 20; (with_reducible refine K1.out.mono ?_); rintro e w29 ⟨rfl, hM29, b29⟩; have HM29 := Lib.hid hM29; clear hM29; have D3 := Lib.hid (ms_doneE 3 true HM29.out rfl))
    | (go_at_call 17; (with_reducible refine D3.out.mono ?_); rintro e w30 ⟨rfl, b30⟩; have HM30 := Lib.hid (HM29.out.below b30); have V3 := Lib.hid (ms_values0 3 HM30.out rfl))
    | (go_at_call 19; (with_reducible refine V3.out.mono ?_); rintro e w31 ⟨a31, q31, rfl, b31⟩)
    | (go_at_call 20; (with_reducible refine (Make_nil w31).mono ?_); rintro e w32 ⟨rfl, b32⟩))
  have e21 := B21.size
  have e22 := b22.size
  have e24 := c24.size
  have e25 := b25.size
  have e26 := b26.size
  have e27 := b27.size
  have e28 := b28.size
  have e29 := b29.size
  have e30 := b30.size
  have e31 := b31.size
  have B32 : Below M w w32 := ((((((((((B21.trans b22).trans (c24.mono (by omega))).trans (b25.mono (by omega))).trans (b26.mono (by omega))).trans (b27.mono (by omega))).trans (b28.mono (by omega))).trans b29).trans (b30.mono (by omega))).trans (b31.mono (by omega))).trans (b32.mono (by omega)))
  clear B21 b22 b23 b24 c24 b25 b26 b27 b28 b29 b30 b31 b32 HM21 HM22 HM24 HM25 HM26 HM27 HM28 HM29 HM30 P1 V1 V2 V3 I1 O1 D1 D2 D3 K1 r23 e21 e22 e24 e25 e26 e27 e28 e29 e30 e31
  have e32 := B32.size
  have hbase : M ≤ w32.heap.size := by omega
  have hIb : Blk (w32.alloc (.cells #[.int .i64 0, .int .i64 0, .int .u64 0, .int .u64 0] 51)) w32.heap.size 51 #[.int .i64 0, .int .i64 0, .int .u64 0, .int .u64 0] := Blk.new w32 _ _
  have HI := Lib.hid hIb
  clear hIb
  go_wp2_with (first
    | (go_at_call 5; refine (works8_any _).mono ?_; rintro e w33 ⟨rfl, b33⟩; have x0 : w33.cell? ⟨w32.heap.size, 0, none⟩ = some (.int .i64 0) := (HI.out.below b33 HI.out.lt).cell 0 _ rfl)
    | (go_at_call 7; refine (mnew_any 0 0 _).mono ?_; rintro e w34 ⟨rfl, hM34, b34⟩; have O2 := Lib.hid (new_over w34 _ hM34); clear hM34)
    | (go_at_call 12; (with_reducible refine O2.out.mono ?_); rintro e w35 ⟨rfl, b35⟩)
    | (go_at_call 21; refine (mthreads_nil _).mono ?_; rintro e w36 ⟨rfl, rfl⟩)
    | (go_at_call 9; refine (Add_nil _).mono ?_; rintro e w36 ⟨rfl, b36⟩)
    | (go_at_call 10; refine (pick_nil 0 0 _).mono ?_; rintro e w37 ⟨rfl, b37⟩)
    | (go_at_call 22; refine (can_nilM 0 0 _).mono ?_; rintro e w38 ⟨rfl, b38⟩; have R1 := Lib.hid (run_nil1 w38))
    | (go_at_call 23; (with_reducible refine R1.out.mono ?_); rintro e w39 ⟨rfl, b39⟩)
    | (go_at_call 17; refine (done_nilM 0 _).mono ?_; rintro e w40 ⟨rfl, b40⟩)
    | (go_at_call 12; refine (over_nilM _).mono ?_; rintro e w41 ⟨rfl, b41⟩)
    | (go_at_call 24; refine (parked_nilM 0 _).mono ?_; rintro e w42 ⟨rfl, b42⟩)
    | (go_at_call 19; refine (values_nilM 0 _).mono ?_; rintro e w43 ⟨v43, rfl, ⟨a43, c43, rfl, _⟩, b43⟩)
    | (go_at_call 13; refine (able_nilM _).mono ?_; rintro e w44 ⟨rfl, b44⟩))
  go_ret
  have e33 := b33.size
  have e34 := b34.size
  have e35 := b35.size
  have e36 := b36.size
  have e37 := b37.size
  have e38 := b38.size
  have e39 := b39.size
  have e40 := b40.size
  have e41 := b41.size
  have e42 := b42.size
  have e43 := b43.size
  simp only [World.size_alloc] at b33 e33
  refine ⟨rfl, ?_⟩
  have c33 : Below M w w33 := (B32.trans ((Below.refl _ w32).alloc hbase _)).trans (b33.mono (by omega))
  have cc : Below M w w44 := ((((((((((c33.trans (b34.mono (by omega))).trans (b35.mono (by omega))).trans (b36.mono (by omega))).trans (b37.mono (by omega))).trans (b38.mono (by omega))).trans (b39.mono (by omega))).trans (b40.mono (by omega))).trans (b41.mono (by omega))).trans (b42.mono (by omega))).trans (b43.mono (by omega))).trans (b44.mono (by omega))
  rw [← hMe] at cc
  exact cc
end Go.Proofs.Ytgcmnaiiifaajaa
