/- GroundSleeps returns true: the walk. -/
import Derived.Test.YtldofbkjjmnooaaGreatMgGSlR
import Derived.Test.YtldofbkjjmnooaaGreatMgGSlW
import Derived.Test.YtldofbkjjmnooaaGreatMgGSlM
namespace Go.Proofs.YtldofbkjjmnooaaGreat
open Go.ChangeShapes Go.WideShapes Go.ChangeAt Go.RowKit
set_option linter.unusedVariables false
set_option maxRecDepth 100000
set_option linter.unusedSimpArgs false
section
variable {g : GrP} {m : Mp} {n0 t : Nat} {w w1 : World} {s : GS} {T : TrE GOp Ev} {M : List Int} {k : Int} {l : List Bool} {E : List Ev}
theorem SL.ofQ {mm : List Int} {vo : Value} {T : Tre Itm} (h : GrAt w g m mm k l vo E) (hlo : ∀ b, grB g vo b → n0 ≤ b) (hn : n0 ≤ w.heap.size) (hM : MadeQ (cellOps g.C g.P) w (fun b => w.heap.size ≤ b) T t w1) : SL g m n0 w1 ⟨mm, k, l, E⟩ t (itE T) := by
  have hlt := fun b hb => h.lt (b := b) hb
  refine ⟨grB g vo, _, ⟨vo, h.below hM.2.2, fun b => Iff.rfl⟩, TkE.new (Q := fun b => w.heap.size ≤ b) (jeF_pure g m hM.2.1) hM.1, fun b hb h => by have := hlt b hb; have := h.1; omega, fun b hb => ?_⟩
  rcases hb with hb | hb
  · have := hb.1; omega
  · exact hlo b hb
theorem SL.sleep {t0 : Nat} (u : Nat) (hu : u < m.t) (timed : Bool) (h : SL g m n0 w s t0 T) (hn : n0 ≤ w.heap.size) : Calls Tryz.prog 56 #[grV g, .int .i64 (u : Int), .bool timed] w fun e w' => ∃ t, e = .returned (pV t) ∧ SL g m n0 w' s t (sleepE m u timed) ∧ Below n0 w w' := by
  obtain ⟨B, Q, h1, h2, h3, h4⟩ := h
  refine (gsleep_any u hu timed B s h1).mono ?_
  rintro e w' ⟨t, rfl, hlo, M2, B2, j1, j2, j3, j4, j5⟩
  have hl2 := (grH g m).lt j2
  refine ⟨t, rfl, ⟨B2, fun b => ((w.heap.size ≤ b ∧ ¬ B2 b)) ∧ b < w'.heap.size, j2, ?_, fun b hb h => h.1.2 hb, fun b hb => ?_⟩, j4.below hn fun b hl hb => ?_⟩
  · refine TkE.new (Q := fun b => w.heap.size ≤ b ∧ ¬ B2 b) (JeF.keep j1 (Keep.refl (fun _ => False) w') (fun _ _ h => h) (fun _ _ h => h) (fun b _ h => ⟨⟨h.1.1, h.2⟩, h.1.2⟩)) ⟨hlo, j5⟩
  · rcases hb with hb | hb
    · have := hb.1.1; omega
    · by_cases hl : b < w.heap.size
      · exact h4 b (.inr (j3 b hl hb))
      · omega
  · rcases hb with hb | hb
    · omega
    · exact h4 b (.inr hb)
theorem osw_yes {M : List Int} {i : Nat} {a b : Int} (h : M[i]? = some a) : operS M ⟨4, i, a, b⟩ = (M.set i b, 1, true) := by simp [operS, h]
theorem osw_no {M : List Int} {i : Nat} {a b c : Int} (h : M[i]? = some c) (hc : c ≠ a) : operS M ⟨4, i, a, b⟩ = (M, 0, false) := by simp [operS, h, hc]
theorem ost_yes {M : List Int} {i : Nat} {a c : Int} (h : M[i]? = some c) : operS M ⟨1, i, a, 0⟩ = (M.set i a, 1, true) := by simp [operS, h]
theorem cnt_one {M : List Int} {x : Itm} {c : Int} (h : M[x.at']? = some c) : countS M x = 1 := by unfold countS; rw [if_pos (List.getElem?_eq_some_iff.1 h).1]
theorem SL.begin1 (u : Int) (h : SL g m n0 w ⟨M, k, l, E⟩ t (itE (spinT (begI m u)))) (hn : n0 ≤ w.heap.size) (hA : M[safeN m u]? = some 1) (h0 : 0 ≤ k ∧ k ≤ 2000000) :
    Calls Tryz.prog 37 #[pV t, .int .i64 0] w fun e w' => e = .returned (.bool true) ∧ SL g m n0 w' ⟨M.set (safeN m u) 0, k + 1, l, E⟩ t (retE 1) ∧ Below n0 w w' := by
  rw [spinT_eq, itE_op] at h
  exact SL.step_op (begI m u) _ h hn (show 4 < 5 by omega) h0 (s2 := ⟨M.set (safeN m u) 0, k + 1, l, E⟩) (v := 1) (.inl (osw_yes hA)) ⟨by rw [cnt_one (x := begI m u) hA], rfl, rfl⟩ (.inl ⟨1, rfl⟩)
theorem SL.end1 (u : Nat) (timed : Bool) {c : Int} (h : SL g m n0 w ⟨M, k, l, E⟩ t (sleepE m u timed)) (hn : n0 ≤ w.heap.size) (hA : M[safeN m u]? = some c) (h0 : 0 ≤ k ∧ k ≤ 2000000) :
    Calls Tryz.prog 37 #[pV t, .int .i64 0] w fun e w' => e = .returned (.bool true) ∧ SL g m n0 w' ⟨M.set (safeN m u) 1, k + 1, l, E⟩ t (opE (.itm (parkN u timed)) fun how => itE (wakeT m u how)) ∧ Below n0 w w' :=
  SL.step_op (storeN (safeN m u) 1) _ h hn (show 1 < 5 by omega) h0 (s2 := ⟨M.set (safeN m u) 1, k + 1, l, E⟩) (v := 1) (.inl (ost_yes hA)) ⟨by rw [cnt_one (x := storeN (safeN m u) 1) hA], rfl, rfl⟩ (.inr ⟨_, _, rfl⟩)
theorem wake_root (m : Mp) (u how : Int) : Root (itE (wakeT m u how)) := itE_root _ (.inr ⟨_, _, wakeT_eq m u how⟩)
theorem SL.wake_no (u how : Int) {c : Int} (h : SL g m n0 w ⟨M, k, l, E⟩ t (itE (wakeT m u how))) (hn : n0 ≤ w.heap.size) (hA : M[safeN m u]? = some c) (hc : c ≠ 1) (h0 : 0 ≤ k ∧ k ≤ 2000000) :
    Calls Tryz.prog 37 #[pV t, .int .i64 0] w fun e w' => e = .returned (.bool true) ∧ SL g m n0 w' ⟨M, k + 1, l, E⟩ t (itE (wakeT m u how)) ∧ Below n0 w w' := by
  rw [wakeT_eq, itE_op] at h
  have := SL.step_op (begI m u) _ h hn (show 4 < 5 by omega) h0 (s2 := ⟨M, k + 1, l, E⟩) (v := 0) (.inr (osw_no hA hc)) ⟨by rw [cnt_one (x := begI m u) hA], rfl, rfl⟩ (by simp; exact wake_root m u how)
  simpa using this
theorem SL.wake_yes (u how : Int) (h : SL g m n0 w ⟨M, k, l, E⟩ t (itE (wakeT m u how))) (hn : n0 ≤ w.heap.size) (hA : M[safeN m u]? = some 1) (h0 : 0 ≤ k ∧ k ≤ 2000000) :
    Calls Tryz.prog 37 #[pV t, .int .i64 0] w fun e w' => e = .returned (.bool true) ∧ SL g m n0 w' ⟨M.set (safeN m u) 0, k + 1, l, E⟩ t (retE how) ∧ Below n0 w w' := by
  rw [wakeT_eq, itE_op] at h
  exact SL.step_op (begI m u) _ h hn (show 4 < 5 by omega) h0 (s2 := ⟨M.set (safeN m u) 0, k + 1, l, E⟩) (v := 1) (.inl (osw_yes hA)) ⟨by rw [cnt_one (x := begI m u) hA], rfl, rfl⟩ (.inl ⟨how, rfl⟩)
theorem SL.wake_done (u how : Int) (h : SL g m n0 w s t (itE (wakeT m u how))) : Calls Tryz.prog 38 #[pV t] w fun e w' => e = .returned (.bool false) ∧ w = w' := by
  rw [wakeT_eq, itE_op] at h
  exact h.done_op
theorem SL.wake_parked (u how : Int) (h : SL g m n0 w s t (itE (wakeT m u how))) : Calls Tryz.prog 57 #[pV t] w fun e w' => e = .returned (.bool false) ∧ w = w' := by
  rw [wakeT_eq, itE_op] at h
  exact h.parked_op (show 4 < 5 by omega)
theorem park_kind (u : Nat) (timed : Bool) : (parkN u timed).kind = 5 ∨ (parkN u timed).kind = 6 := by cases timed <;> simp
theorem park_six (u : Nat) (timed : Bool) : ((parkN u timed).kind == 6) = timed := by cases timed <;> rfl
theorem SL.can1 (u : Nat) (timed : Bool) {κ : Int → TrE GOp Ev} (z : Int) (r : Bool) (h : SL g m n0 w s t (opE (.itm (parkN u timed)) κ)) (hx : s.l[u]? = some false) (hr : endsS false timed z = r) : Calls Tryz.prog 58 #[pV t, .int .i64 z] w fun e w' => e = .returned (.bool r) ∧ SL g m n0 w' s t (opE (.itm (parkN u timed)) κ) ∧ Below w.heap.size w w' := by
  have := h.can z false (park_kind u timed) hx
  rwa [park_six, hr] at this
theorem SL.park1 (u : Nat) (timed b : Bool) (z : Int) (h : SL g m n0 w ⟨M, k, l, E⟩ t (opE (.itm (parkN u timed)) fun how => itE (wakeT m u how))) (hn : n0 ≤ w.heap.size) (hx : l[u]? = some b) (he : endsS b timed z = true) :
    Calls Tryz.prog 37 #[pV t, .int .i64 z] w fun e w' => e = .returned (.bool true) ∧ SL g m n0 w' ⟨M, k, if z = 0 then l.set u false else l, E⟩ t (itE (wakeT m u z)) ∧ Below n0 w w' :=
  SL.step_park (parkN u timed) _ z b h hn (park_kind u timed) hx (by rw [park_six]; exact he) (wake_root m u z)
/-- All, and what a cell of it has -/
theorem SL.all1 {L A : Nat} {c : Int} (h : SL g m n0 w s t T) (hL : s.mm.length = L) (hc : s.mm[A]? = some c) : Calls Tryz.prog 17 #[cellsV g.C] w fun e w' => ∃ b cap, e = .returned (.slice (some ⟨b, 0, none⟩) L cap) ∧ w'.cell? ⟨b, A, none⟩ = some (.int .u64 c) ∧ b < w'.heap.size ∧ SL g m n0 w' s t T ∧ Below w.heap.size w w' := by
  subst hL
  refine (h.all (fun e => by rw [e] at hc; simp at hc)).mono ?_
  rintro e w' ⟨b, cap, rfl, h1, h2, h3, h4⟩
  exact ⟨b, cap, rfl, h1 A c hc, h2, h3, h4⟩
end
theorem ix_all (L A : Nat) (h : A < L) : ∀ (b cap : Nat) (W : World), (Instr.indexAt 38 (.slice (some ⟨b, 0, none⟩) L cap) (.int .i64 (A : Int))).run Tryz.prog W = .ok (.pointer (some ⟨b, A, none⟩)) W := by
  intro b cap W
  go_simp
set_option maxHeartbeats 16000000 in
theorem sleeps13_law (a b c : Int) (timed : Bool) (w : World) (ha : 0 ≤ a ∧ a ≤ 255) (hb : 0 ≤ b ∧ b ≤ 255) (hc : 0 ≤ c ∧ c ≤ 255) : Calls Tryz.prog 6 #[.agg #[.int .u8 a, .int .u8 b, .int .u8 c], .bool timed] w fun e w' => e = .returned (.bool true) ∧ Below w.heap.size w w' := by
  obtain ⟨u, hu1, hu2⟩ : ∃ u : Nat, a.tmod 2 = (u : Int) ∧ u < 2 := by
    have : a.tmod 2 = a % 2 := Int.tmod_eq_emod_of_nonneg ha.1
    exact ⟨(a % 2).toNat, by omega, by omega⟩
  obtain ⟨z, hz1, hz2⟩ : ∃ z : Int, b.tmod 3 = z ∧ 0 ≤ z ∧ z < 3 := by
    have : b.tmod 3 = b % 3 := Int.tmod_eq_emod_of_nonneg hb.1
    exact ⟨b % 3, this, by omega, by omega⟩
  obtain ⟨hh, hh1, hh2⟩ : ∃ hh : Nat, c.tmod 20 = (hh : Int) ∧ hh < 20 := by
    have : c.tmod 20 = c % 20 := Int.tmod_eq_emod_of_nonneg hc.1
    exact ⟨(c % 20).toNat, by omega, by omega⟩
  obtain ⟨m, hm⟩ : ∃ m, m = m13 := ⟨_, rfl⟩
  have HT : Hid (∀ V, Calls Tryz.prog 53 #[] V fun e w' => ∃ g, e = .returned (grV g) ∧ GrAt w' g m (mm0 m [5, 6] [true]) 6 [false, false] (.slice none 0 0) [] ∧ Below V.heap.size V w' ∧ ∀ b, grB g (.slice none 0 0) b → V.heap.size ≤ b) := Lib.hid (by subst hm; exact fun V => two_any V)
  have HM := Lib.hid hm
  have hum : u < m.t := by rw [hm]; exact hu2
  have hvm : 1 - u < m.t := by rw [hm]; show 1 - u < 2; omega
  have hmok : m.ok := by rw [hm]; exact m13_ok
  have HA0 := Lib.hid (mm0_safe m [5, 6] [true] u hum)
  have HV0 := Lib.hid (mm0_safe m [5, 6] [true] (1 - u) hvm)
  have hAV : safeN m (u : Int) ≠ safeN m ((1 - u : Nat) : Int) := by unfold safeN nxN; omega
  have hv1 : (1 : Int) - (u : Int) = ((1 - u : Nat) : Int) := by omega
  have HSA := Lib.hid fun V => safe_any m (u : Int) V hmok ⟨by omega, by omega⟩
  have HSV := Lib.hid fun V => safe_any m ((1 - u : Nat) : Int) V hmok ⟨by omega, by omega⟩
  have HU := Lib.hid (And.intro hum (And.intro hvm hu2))
  clear hm hum hvm hmok hu2
  obtain ⟨M, hM⟩ : ∃ M, M = mm0 m [5, 6] [true] := ⟨_, rfl⟩
  rw [← hM] at HT HA0 HV0
  obtain ⟨L, hL⟩ : ∃ L, M.length = L := ⟨_, rfl⟩
  have HL := Lib.hid hL
  have hAL : safeN m (u : Int) < L := by rw [← hL]; exact (List.getElem?_eq_some_iff.1 HA0.out).1
  have hVL : safeN m ((1 - u : Nat) : Int) < L := by rw [← hL]; exact (List.getElem?_eq_some_iff.1 HV0.out).1
  clear hM hL
  obtain ⟨v, hv⟩ : ∃ v : Nat, v = 1 - u := ⟨_, rfl⟩
  rw [← hv] at hAV hv1 HSV HV0 hVL HU
  clear hv
  obtain ⟨A, hA⟩ : ∃ A, A = safeN m (u : Int) := ⟨_, rfl⟩
  obtain ⟨A', hA'⟩ : ∃ A', A' = safeN m (v : Int) := ⟨_, rfl⟩
  have HAeq := Lib.hid (And.intro hA hA')
  rw [← hA] at hAV HSA HA0 hAL
  rw [← hA'] at hAV HSV HV0 hVL
  clear hA hA'
  have ixA := ix_all L A hAL
  have ixV := ix_all L A' hVL
  have HAV := Lib.hid hAV
  have HSW := Lib.hid (show ∀ V, Calls Tryz.prog 54 #[mapV m, .int .i64 (IntKind.i64.wrap (v : Int))] V (fun e w' => e = .returned (.int .i64 (A' : Int)) ∧ Below V.heap.size V w') from by
    rw [IntWalk.i64_in (v : Int) ⟨by omega, by omega⟩]
    exact HSV.out)
  clear hAV
  go_enter Tryz.func6, Tryz.ntmps6
  go_upto_region 1 with fail
  generalize hW : (w.alloc _) = W
  have bW : Below w.heap.size w W := by rw [← hW]; go_grown
  have bx : Blk W w.heap.size 59 #[.int .u8 a, .int .u8 b, .int .u8 c] := by rw [← hW]; exact Blk.new w _ _
  clear hW
  have x0 : W.cell? ⟨w.heap.size, 0, none⟩ = some (.int .u8 a) := bx.cell 0 _ rfl
  have x1 : W.cell? ⟨w.heap.size, 1, none⟩ = some (.int .u8 b) := bx.cell 1 _ rfl
  have x2 : W.cell? ⟨w.heap.size, 2, none⟩ = some (.int .u8 c) := bx.cell 2 _ rfl
  clear bx
  go_region_held3 (fun V : World => V.cell? ⟨w.heap.size, 0, none⟩ = some (.int .u8 a) ∧ V.cell? ⟨w.heap.size, 1, none⟩ = some (.int .u8 b) ∧ V.cell? ⟨w.heap.size, 2, none⟩ = some (.int .u8 c)) (exact ⟨x0, x1, x2⟩) (fail)
  clear x0 x1 x2
  have bd := bW.trans ((bdrewP W).mono bW.size)
  generalize W.drew = Wd at *
  go_upto_region 4 with (go_at_call 43; (with_reducible refine (works13_any _).mono ?_); rintro e w1 ⟨rfl, b1⟩)
  have bw1 := bd.trans (b1.mono bd.size)
  clear b1 bd bW
  go_upto_region 5 with (go_at_call 53; (with_reducible refine (HT.out _).mono ?_); rintro e w2 ⟨g, rfl, h2, b2, n2⟩)
  have HB2 := Lib.hid (bw1.trans (b2.mono bw1.size))
  have HG2 := Lib.hid h2
  have HN2 := Lib.hid (show ∀ b, grB g (.slice none 0 0) b → w.heap.size ≤ b from fun b hb => Nat.le_trans bw1.size (n2 b hb))
  clear h2 bw1 b2 n2 HT
  obtain ⟨⟨d0, d1, d2⟩, d3, d4⟩ := HG2.out.c5
  go_upto_region 7 with (go_at_call 54; (with_reducible refine (HSA.out _).mono ?_); rintro e w3 ⟨rfl, b3⟩)
  clear d0 d1 d2 d3 d4
  have HG3 := Lib.hid (HG2.out.below b3)
  have HB3 := Lib.hid (HB2.out.trans (b3.mono HB2.out.size))
  have HBeg := Lib.hid (gbegin_any u HU.out.1 HG3.out (fun b => w3.heap.size ≤ b) (fun k hk => hk))
  clear b3 HG2 HB2
  go_upto_region 8 with (go_at_call 55; (with_reducible refine HBeg.out.mono ?_); rintro e w4 ⟨t1, rfl, h4⟩)
  have HS4 := Lib.hid (SL.ofQ HG3.out HN2.out HB3.out.size h4)
  have HB4 := Lib.hid (HB3.out.trans (h4.2.2.mono HB3.out.size))
  clear h4 HBeg HG3 HB3
  have HSt := Lib.hid (SL.begin1 (u : Int) HS4.out HB4.out.size (by rw [← HAeq.out.1]; exact HA0.out) (by decide))
  rw [← HAeq.out.1] at HSt
  go_upto_region 10 with (first
    | (go_at_call 37; (with_reducible refine HSt.out.mono ?_); rintro e w5 ⟨rfl, h5, b5⟩; have HS5 := Lib.hid h5; have HB5 := Lib.hid (HB4.out.trans b5); have HD5 := Lib.hid h5.done_ret; have HA5 := Lib.hid (h5.all1 (L := L) (A := A) (c := 0) (by simp [HL.out]) (List.getElem?_set_self (by rw [HL.out]; exact hAL))); obtain ⟨⟨d0, d1, d2⟩, d3, d4⟩ := h5.c5; clear h5 b5)
    | (go_at_call 38; (with_reducible refine HD5.out.mono ?_); rintro e w6 ⟨rfl, rfl⟩)
    | (go_at_call 17; (with_reducible refine HA5.out.mono ?_); rintro e w7 ⟨bq, cq, rfl, c7, l7, h7, b7⟩))
  clear d0 d1 d2 d3 d4 c7 l7
  have HB7 := Lib.hid (HB5.out.trans (b7.mono HB5.out.size))
  have HSlp := Lib.hid (SL.sleep u HU.out.1 timed h7 HB7.out.size)
  clear h7 b7 HA5 HD5 HS5 HSt HS4 HB4 HB5
  go_upto_region 11 with (go_at_call 56; (with_reducible refine HSlp.out.mono ?_); rintro e w8 ⟨t2, rfl, h8, b8⟩)
  have HB8 := Lib.hid (HB7.out.trans b8)
  have HSt := Lib.hid (SL.end1 u timed (c := 0) h8 HB8.out.size (by rw [← HAeq.out.1]; exact List.getElem?_set_self (by rw [HL.out]; exact hAL)) (by decide))
  rw [← HAeq.out.1, List.set_set] at HSt
  clear h8 b8 HSlp HB7
  have hfu : ([false, false] : List Bool)[u]? = some false := by have := HU.out.2.2; rcases (show u = 0 ∨ u = 1 by omega) with rfl | rfl <;> rfl
  have HFu := Lib.hid hfu
  clear hfu
  go_upto_region 13 with (first
    | (go_at_call 37; (with_reducible refine HSt.out.mono ?_); rintro e w9 ⟨rfl, h9, b9⟩; have HS9 := Lib.hid h9; have HB9 := Lib.hid (HB8.out.trans b9); have HD9 := Lib.hid h9.done_op; have HP9 := Lib.hid (h9.parked_park (park_kind u timed)); have HA9 := Lib.hid (h9.all1 (L := L) (A := A) (c := 1) (by simp [HL.out]) (List.getElem?_set_self (by rw [HL.out]; exact hAL))); obtain ⟨⟨d0, d1, d2⟩, d3, d4⟩ := h9.c5; clear h9 b9)
    | (go_at_call 38; (with_reducible refine HD9.out.mono ?_); rintro e w10 ⟨rfl, rfl⟩)
    | (go_at_call 57; (with_reducible refine HP9.out.mono ?_); rintro e w10 ⟨rfl, rfl⟩)
    | (go_at_call 17; (with_reducible refine HA9.out.mono ?_); rintro e w11 ⟨bq, cq, rfl, c11, l11, h11, b11⟩; have HB11 := Lib.hid (HB9.out.trans (b11.mono HB9.out.size)); have HC11 := Lib.hid (h11.can1 u timed 0 false HFu.out (by simp [endsS])); clear h11 b11)
    | (go_at_call 58; (with_reducible refine HC11.out.mono ?_); rintro e w12 ⟨rfl, h12, b12⟩; have HB12 := Lib.hid (HB11.out.trans (b12.mono HB11.out.size)); have HC12 := Lib.hid (h12.can1 u timed 1 timed HFu.out (by simp [endsS])); clear h12 b12 HC11)
    | (go_at_call 58; (with_reducible refine HC12.out.mono ?_); rintro e w13 ⟨rfl, h13, b13⟩; have HB13 := Lib.hid (HB12.out.trans (b13.mono HB12.out.size)); have HC13 := Lib.hid (h13.can1 u timed 2 true HFu.out (by simp [endsS])); clear h13 b13 HC12)
    | (go_at_call 58; (with_reducible refine HC13.out.mono ?_); rintro e w14 ⟨rfl, h14, b14⟩; have HB14 := Lib.hid (HB13.out.trans (b14.mono HB13.out.size)); have HS14 := Lib.hid h14; clear h14 b14 HC13))
  clear d0 d1 d2 d3 d4 c11 l11
  clear HA9 HP9 HD9 HS9 HSt HB9 HB8 HB11 HB12 HB13
  obtain ⟨⟨d0, d1, d2⟩, d3, d4⟩ := HS14.out.c5
  have HSto := Lib.hid (HS14.out.store A 1 2 HB14.out.size (List.getElem?_set_self (by rw [HL.out]; exact hAL)) (by show (0 : Int) ≤ 6 + 1 + 1 ∧ (6 + 1 + 1 : Int) ≤ 2000000; decide))
  rw [List.set_set] at HSto
  go_upto_region 14 with (go_at_call 59; (with_reducible refine HSto.out.mono ?_); rintro e w15 ⟨rfl, h15, b15⟩)
  have HB15 := Lib.hid (HB14.out.trans b15)
  have HS15 := Lib.hid h15
  clear d0 d1 d2 d3 d4 h15 b15 HSto HS14 HB14
  obtain ⟨⟨d0, d1, d2⟩, d3, d4⟩ := HS15.out.c5
  have HGiv := Lib.hid (HS15.out.give u false HB15.out.size HFu.out)
  have hfu : (([false, false] : List Bool).set u true)[u]? = some true := by have := HU.out.2.2; rcases (show u = 0 ∨ u = 1 by omega) with rfl | rfl <;> rfl
  have hfu2 : ((([false, false] : List Bool).set u true).set u false)[u]? = some false := by have := HU.out.2.2; rcases (show u = 0 ∨ u = 1 by omega) with rfl | rfl <;> rfl
  have HFu1 := Lib.hid hfu
  have HFu2 := Lib.hid hfu2
  clear hfu hfu2
  rcases (show z = 0 ∨ (z = 1 ∧ timed = false) ∨ (z = 1 ∧ timed = true) ∨ z = 2 by cases timed <;> simp <;> omega) with rfl | ⟨rfl, rfl⟩ | ⟨rfl, rfl⟩ | rfl
  · go_upto_region 17 with (go_at_call 60; (with_reducible refine HGiv.out.mono ?_); rintro e w16 ⟨rfl, h16, b16⟩)
    have HB16 := Lib.hid (HB15.out.trans b16)
    have HPk0 := SL.park1 u timed true 0 h16 HB16.out.size HFu1.out (by simp [endsS])
    rw [if_pos rfl] at HPk0
    have HPk := Lib.hid HPk0
    have HFp := Lib.hid HFu2.out
    generalize (([false, false] : List Bool).set u true).set u false = lp at *
    clear h16 b16
    clear HPk0 d0 d1 d2 d3 d4 HS15 HB15 HGiv HFu HFu1 HFu2
    have hkq : ∃ kq : Int, kq = 6 + 1 + 1 + 1 := ⟨_, rfl⟩
    obtain ⟨kq, hkq⟩ := hkq
    have HPk1 := HPk.out
    rw [← hkq] at HPk1
    have HPk2 := Lib.hid HPk1
    have HKq := Lib.hid (show 0 ≤ kq ∧ kq ≤ 100 by omega)
    clear hkq HPk HPk1
    go_upto_region 19 with (first
      | (go_at_call 37; (with_reducible refine HPk2.out.mono ?_); rintro e w17 ⟨rfl, h17, b17⟩; have HS17 := Lib.hid h17; have HB17 := Lib.hid (HB16.out.trans b17); have HD17 := Lib.hid (SL.wake_done u 0 h17); have HP17 := Lib.hid (SL.wake_parked u 0 h17); clear h17 b17)
      | (go_at_call 38; (with_reducible refine HD17.out.mono ?_); rintro e w18 ⟨rfl, rfl⟩)
      | (go_at_call 57; (with_reducible refine HP17.out.mono ?_); rintro e w18 ⟨rfl, rfl⟩))
    clear HD17 HP17 HPk2 HB16
    go_wp2_with fail
    go_loopw [14] (fun v14 wr => ∃ i : Nat, i ≤ hh ∧ v14 = .int .i64 (i : Int) ∧ SL g m w.heap.size wr ⟨M.set A 2, kq + i, lp, []⟩ t2 (itE (wakeT m u 0)) ∧ Below w.heap.size w wr) (fun v14 _ => hh - (intOf v14).toNat)
    case atStart => exact ⟨0, by omega, rfl, by simpa using HS17.out, HB17.out⟩
    case round =>
      obtain ⟨i, hi, rfl, hs, hbl⟩ := hrel
      have HS := Lib.hid hs
      have HB := Lib.hid hbl
      obtain ⟨⟨d0, d1, d2⟩, d3, d4⟩ := hs.c5
      clear hs hbl HS17 HB17
      by_cases hih : i < hh
      · have hihI : (i : Int) < (hh : Int) := by omega
        have HSt := Lib.hid (SL.wake_no (u : Int) 0 (c := 2) HS.out HB.out.size (by rw [← HAeq.out.1]; exact List.getElem?_set_self (by rw [HL.out]; exact hAL)) (by decide) (by have := HKq.out; omega))
        clear d0 d1 d2 d3 d4
        go_wp2_with (first
          | (go_at_call 37; (with_reducible refine HSt.out.mono ?_); rintro e w20 ⟨rfl, h20, b20⟩; have HS20 := Lib.hid h20; have HB20 := Lib.hid (HB.out.trans b20); have HD20 := Lib.hid (SL.wake_done u 0 h20); have HA20 := Lib.hid (h20.all1 (L := L) (A := A) (c := 2) (by simp [HL.out]) (List.getElem?_set_self (by rw [HL.out]; exact hAL))); obtain ⟨⟨d0, d1, d2⟩, d3, d4⟩ := h20.c5; clear h20 b20)
          | (go_at_call 38; (with_reducible refine HD20.out.mono ?_); rintro e w21 ⟨rfl, rfl⟩)
          | (go_at_call 17; (with_reducible refine HA20.out.mono ?_); rintro e w22 ⟨bq, cq, rfl, c22, l22, h22, b22⟩))
        go_roundw
        case rel => exact ⟨i + 1, by omega, by go_num, by have := h22; rw [show kq + ((i + 1 : Nat) : Int) = kq + (i : Int) + 1 by omega]; exact this, HB20.out.trans (b22.mono HB20.out.size)⟩
        case measure => simp [intOf]; omega
      · have hihI : ¬ (i : Int) < (hh : Int) := by omega
        have HSto0 := HS.out.store A 2 1 HB.out.size (List.getElem?_set_self (by rw [HL.out]; exact hAL)) (by have := HKq.out; show 0 ≤ kq + (i : Int) ∧ kq + (i : Int) ≤ 2000000; omega)
        rw [List.set_set] at HSto0
        have HSto := Lib.hid HSto0
        clear HSto0
        go_upto_region 25 with (go_at_call 59; (with_reducible refine HSto.out.mono ?_); rintro e w23 ⟨rfl, h23, b23⟩)
        have HS23 := Lib.hid h23
        have HB23 := Lib.hid (HB.out.trans b23)
        have hS23' := (h23.below (bdrewP w23)).c5
        have HSt0 := SL.wake_yes (u : Int) 0 (h23.below (bdrewP w23)) HB23.out.size (by rw [← HAeq.out.1]; exact List.getElem?_set_self (by rw [HL.out]; exact hAL)) (by have := HKq.out; show 0 ≤ kq + (i : Int) + 1 ∧ kq + (i : Int) + 1 ≤ 2000000; omega)
        rw [← HAeq.out.1, List.set_set] at HSt0
        have HSt := Lib.hid HSt0
        have hS23 := h23.c5
        clear HSt0 d0 d1 d2 d3 d4 h23 b23 HSto HS HB
        refine wp_region_held_drew (S := (fun V : World => ((V.cell? ⟨g.G, 0, none⟩ = some (.int .i64 (m.t : Int)) ∧ V.cell? ⟨g.G, 1, none⟩ = some (.int .i64 (m.o : Int)) ∧ V.cell? ⟨g.G, 2, none⟩ = some (.int .i64 (m.n : Int))) ∧ V.cell? ⟨g.G, 3, none⟩ = some (cellsV g.C) ∧ V.cell? ⟨g.G, 4, none⟩ = some (permitsV g.P)))) (by kernel_rfl) (hS23') (fun hHeld => ?_)
        refine wpAnyH_take (i := 0) (oi := { dst := some 165, op := Op.move (Operand.tmp 13), type := 40, pos := "outright.go:146", after := #[], guard := none }) (v := ?_) rfl (by kernel_rfl) (by kernel_rfl) (by kernel_rfl) (fun _ _ _ h => h) (Or.inl ⟨by rfl, ?_⟩) (by assumption) ?_
        rotate_left
        · intro w hSw; (try dsimp only at hSw); go_simp; try with_reducible rfl
        (try simp only [Act.put, List.setIfInBounds_toArray, List.set_cons_zero, List.set_cons_succ])
        refine wpAnyH_ready (rs := [1]) (by kernel_rfl) (by simp) ?_
        refine AllReadyH.cons rfl (fun K hK => ?_) AllReadyH.nil
        go_simp
        go_at_call 37
        with_reducible refine HSt.out.mono ?_
        rintro e w24 ⟨rfl, h24, b24⟩
        have HB24 := Lib.hid ((HB23.out.trans ((bdrewP w23).mono HB23.out.size)).trans b24)
        have HD24 := Lib.hid h24.done_ret
        have HV24 := Lib.hid h24.value
        have HA24 := Lib.hid (h24.all1 (L := L) (A := A) (c := 0) (by simp [HL.out]) (List.getElem?_set_self (by rw [HL.out]; exact hAL)))
        have hS24 := h24.c5
        clear h24 b24
        go_wp2_with fail
        refine hK.out _ _ (hS24) (fun hHeld => ?_)
        clear hK K
        (try dsimp only [Act.put]); (try simp only [Act.put, List.setIfInBounds_toArray, List.set_cons_zero, List.set_cons_succ])
        refine wpAnyH_take (i := 2) (oi := { dst := some 167, op := Op.move (Operand.tmp 166), type := 4, pos := "outright.go:146", after := #[{ on := 1, ground := Ground.data }, { on := 1, ground := Ground.chain }], guard := none }) (v := ?_) rfl (by kernel_rfl) (by kernel_rfl) (by kernel_rfl) (fun _ _ _ h => h) (Or.inl ⟨by rfl, ?_⟩) (by assumption) ?_
        rotate_left
        · intro w hSw; (try dsimp only at hSw); go_simp; try with_reducible rfl
        (try simp only [Act.put, List.setIfInBounds_toArray, List.set_cons_zero, List.set_cons_succ])
        refine wpAnyH_take (i := 3) (oi := { dst := some 168, op := Op.move (Operand.tmp 13), type := 40, pos := "outright.go:146", after := #[{ on := 2, ground := Ground.guard }], guard := some (2, true) }) (v := ?_) rfl (by kernel_rfl) (by kernel_rfl) (by kernel_rfl) (fun _ _ _ h => h) (Or.inl ⟨by rfl, ?_⟩) (by assumption) ?_
        rotate_left
        · intro w hSw; (try dsimp only at hSw); go_simp; try with_reducible rfl
        (try simp only [Act.put, List.setIfInBounds_toArray, List.set_cons_zero, List.set_cons_succ])
        refine wpAnyH_ready (rs := [4]) (by kernel_rfl) (by simp) ?_
        refine AllReadyH.cons rfl (fun K hK => ?_) AllReadyH.nil
        go_simp
        go_at_call 38
        with_reducible refine HD24.out.mono ?_
        rintro e w24' ⟨rfl, rfl⟩
        go_wp2_with fail
        refine hK.out _ _ (hS24) (fun hHeld => ?_)
        clear hK K
        (try dsimp only [Act.put]); (try simp only [Act.put, List.setIfInBounds_toArray, List.set_cons_zero, List.set_cons_succ])
        refine wpAnyH_take (i := 5) (oi := { dst := some 170, op := Op.pick (Operand.tmp 167) (Operand.tmp 169) (Operand.const (Value.bool false)), type := 4, pos := "outright.go:146", after := #[{ on := 2, ground := Ground.data }, { on := 4, ground := Ground.data }], guard := none }) (v := ?_) rfl (by kernel_rfl) (by kernel_rfl) (by kernel_rfl) (fun _ _ _ h => h) (Or.inl ⟨by rfl, ?_⟩) (by assumption) ?_
        rotate_left
        · intro w hSw; (try dsimp only at hSw); go_simp; try with_reducible rfl
        (try simp only [Act.put, List.setIfInBounds_toArray, List.set_cons_zero, List.set_cons_succ])
        refine wpAnyH_take (i := 6) (oi := { dst := some 171, op := Op.move (Operand.tmp 170), type := 4, pos := "outright.go:146", after := #[{ on := 5, ground := Ground.data }, { on := 4, ground := Ground.chain }], guard := none }) (v := ?_) rfl (by kernel_rfl) (by kernel_rfl) (by kernel_rfl) (fun _ _ _ h => h) (Or.inl ⟨by rfl, ?_⟩) (by assumption) ?_
        rotate_left
        · intro w hSw; (try dsimp only at hSw); go_simp; try with_reducible rfl
        (try simp only [Act.put, List.setIfInBounds_toArray, List.set_cons_zero, List.set_cons_succ])
        refine wpAnyH_take (i := 7) (oi := { dst := some 172, op := Op.move (Operand.tmp 13), type := 40, pos := "outright.go:146", after := #[{ on := 6, ground := Ground.guard }], guard := some (6, true) }) (v := ?_) rfl (by kernel_rfl) (by kernel_rfl) (by kernel_rfl) (fun _ _ _ h => h) (Or.inl ⟨by rfl, ?_⟩) (by assumption) ?_
        rotate_left
        · intro w hSw; (try dsimp only at hSw); go_simp; try with_reducible rfl
        (try simp only [Act.put, List.setIfInBounds_toArray, List.set_cons_zero, List.set_cons_succ])
        refine wpAnyH_take (i := 9) (oi := { dst := some 174, op := Op.move (Operand.tmp 10), type := 3, pos := "outright.go:146", after := #[{ on := 6, ground := Ground.guard }], guard := some (6, true) }) (v := ?_) rfl (by kernel_rfl) (by kernel_rfl) (by kernel_rfl) (fun _ _ _ h => h) (Or.inl ⟨by rfl, ?_⟩) (by assumption) ?_
        rotate_left
        · intro w hSw; (try dsimp only at hSw); go_simp; try with_reducible rfl
        (try simp only [Act.put, List.setIfInBounds_toArray, List.set_cons_zero, List.set_cons_succ])
        refine wpAnyH_ready (rs := [8]) (by kernel_rfl) (by simp) ?_
        refine AllReadyH.cons rfl (fun K hK => ?_) AllReadyH.nil
        go_simp
        go_at_call 27
        with_reducible refine HV24.out.mono ?_
        rintro e w24' ⟨rfl, rfl⟩
        go_wp2_with fail
        refine hK.out _ _ (hS24) (fun hHeld => ?_)
        clear hK K
        (try dsimp only [Act.put]); (try simp only [Act.put, List.setIfInBounds_toArray, List.set_cons_zero, List.set_cons_succ])
        refine wpAnyH_take (i := 10) (oi := { dst := some 175, op := Op.binOp BinOp.eql 3 (Operand.tmp 173) (Operand.tmp 174) 3, type := 4, pos := "outright.go:146", after := #[{ on := 8, ground := Ground.data }, { on := 9, ground := Ground.data }, { on := 6, ground := Ground.guard }], guard := some (6, true) }) (v := ?_) rfl (by kernel_rfl) (by kernel_rfl) (by kernel_rfl) (fun _ _ _ h => h) (Or.inl ⟨by rfl, ?_⟩) (by assumption) ?_
        rotate_left
        · intro w hSw; (try dsimp only at hSw); go_simp; try with_reducible rfl
        (try simp only [Act.put, List.setIfInBounds_toArray, List.set_cons_zero, List.set_cons_succ])
        refine wpAnyH_take (i := 11) (oi := { dst := some 176, op := Op.pick (Operand.tmp 171) (Operand.tmp 175) (Operand.const (Value.bool false)), type := 4, pos := "outright.go:146", after := #[{ on := 6, ground := Ground.data }, { on := 10, ground := Ground.data }], guard := none }) (v := ?_) rfl (by kernel_rfl) (by kernel_rfl) (by kernel_rfl) (fun _ _ _ h => h) (Or.inl ⟨by rfl, ?_⟩) (by assumption) ?_
        rotate_left
        · intro w hSw; (try dsimp only at hSw); go_simp; try with_reducible rfl
        (try simp only [Act.put, List.setIfInBounds_toArray, List.set_cons_zero, List.set_cons_succ])
        refine wpAnyH_take (i := 12) (oi := { dst := some 177, op := Op.move (Operand.tmp 176), type := 4, pos := "outright.go:146", after := #[{ on := 11, ground := Ground.data }, { on := 8, ground := Ground.chain }], guard := none }) (v := ?_) rfl (by kernel_rfl) (by kernel_rfl) (by kernel_rfl) (fun _ _ _ h => h) (Or.inl ⟨by rfl, ?_⟩) (by assumption) ?_
        rotate_left
        · intro w hSw; (try dsimp only at hSw); go_simp; try with_reducible rfl
        (try simp only [Act.put, List.setIfInBounds_toArray, List.set_cons_zero, List.set_cons_succ])
        refine wpAnyH_take (i := 13) (oi := { dst := some 178, op := Op.move (Operand.tmp 8), type := 64, pos := "outright.go:146", after := #[{ on := 12, ground := Ground.guard }], guard := some (12, true) }) (v := ?_) rfl (by kernel_rfl) (by kernel_rfl) (by kernel_rfl) (fun _ _ _ h => h) (Or.inl ⟨by rfl, ?_⟩) (by assumption) ?_
        rotate_left
        · intro w hSw; (try dsimp only at hSw); go_simp; try with_reducible rfl
        (try simp only [Act.put, List.setIfInBounds_toArray, List.set_cons_zero, List.set_cons_succ])
        refine wpAnyH_take (i := 14) (oi := { dst := some 179, op := Op.nilCheck (Operand.tmp 178), type := 0, pos := "outright.go:146", after := #[{ on := 13, ground := Ground.data }, { on := 12, ground := Ground.guard }], guard := some (12, true) }) (v := ?_) rfl (by kernel_rfl) (by kernel_rfl) (by kernel_rfl) (fun _ _ _ h => h) (Or.inl ⟨by rfl, ?_⟩) (by assumption) ?_
        rotate_left
        · intro w hSw; (try dsimp only at hSw); go_simp; try with_reducible rfl
        (try simp only [Act.put, List.setIfInBounds_toArray, List.set_cons_zero, List.set_cons_succ])
        refine wpAnyH_take (i := 15) (oi := { dst := some 180, op := Op.fieldAddr 79 (Operand.tmp 179) 1, type := 0, pos := "outright.go:146", after := #[{ on := 14, ground := Ground.data }, { on := 12, ground := Ground.guard }], guard := some (12, true) }) (v := ?_) rfl (by kernel_rfl) (by kernel_rfl) (by kernel_rfl) (fun _ _ _ h => h) (Or.inl ⟨by rfl, ?_⟩) (by assumption) ?_
        rotate_left
        · intro w hSw; (try dsimp only at hSw); go_simp; try with_reducible rfl
        (try simp only [Act.put, List.setIfInBounds_toArray, List.set_cons_zero, List.set_cons_succ])
        refine wpAnyH_take (i := 16) (oi := { dst := some 181, op := Op.load 26 (Operand.tmp 180), type := 26, pos := "outright.go:146", after := #[{ on := 15, ground := Ground.data }, { on := 12, ground := Ground.guard }], guard := some (12, true) }) (v := ?_) rfl (by kernel_rfl) (by kernel_rfl) (by kernel_rfl) (fun _ _ _ h => h) (Or.inl ⟨by rfl, ?_⟩) (by assumption) ?_
        rotate_left
        · intro w hSw; (try dsimp only at hSw); go_simp; try with_reducible rfl
        (try simp only [Act.put, List.setIfInBounds_toArray, List.set_cons_zero, List.set_cons_succ])
        refine wpAnyH_take (i := 18) (oi := { dst := some 183, op := Op.move (Operand.tmp 11), type := 3, pos := "outright.go:146", after := #[{ on := 12, ground := Ground.guard }], guard := some (12, true) }) (v := ?_) rfl (by kernel_rfl) (by kernel_rfl) (by kernel_rfl) (fun _ _ _ h => h) (Or.inl ⟨by rfl, ?_⟩) (by assumption) ?_
        rotate_left
        · intro w hSw; (try dsimp only at hSw); go_simp; try with_reducible rfl
        (try simp only [Act.put, List.setIfInBounds_toArray, List.set_cons_zero, List.set_cons_succ])
        refine wpAnyH_ready (rs := [17]) (by kernel_rfl) (by simp) ?_
        refine AllReadyH.cons rfl (fun K hK => ?_) AllReadyH.nil
        go_simp
        go_at_call 17
        with_reducible refine HA24.out.mono ?_
        rintro e w25 ⟨bq, cq, rfl, c25, l25, h25, b25⟩
        have HB25 := Lib.hid (HB24.out.trans (b25.mono HB24.out.size))
        have HH25 := Lib.hid (h25.has u false HFp.out)
        have HA25 := Lib.hid (h25.all1 (L := L) (A := A') (c := 1) (by simp [HL.out]) (by rw [List.getElem?_set_ne HAV.out]; exact HV0.out))
        have hS25 := h25.c5
        clear h25 b25 HA24
        go_wp2_with fail
        refine hK.out _ _ (hS25) (fun hHeld => ?_)
        clear hK K
        (try dsimp only [Act.put]); (try simp only [Act.put, List.setIfInBounds_toArray, List.set_cons_zero, List.set_cons_succ])
        refine wpAnyH_moreP (S' := (fun V : World => ((V.cell? ⟨g.G, 0, none⟩ = some (.int .i64 (m.t : Int)) ∧ V.cell? ⟨g.G, 1, none⟩ = some (.int .i64 (m.o : Int)) ∧ V.cell? ⟨g.G, 2, none⟩ = some (.int .i64 (m.n : Int))) ∧ V.cell? ⟨g.G, 3, none⟩ = some (cellsV g.C) ∧ V.cell? ⟨g.G, 4, none⟩ = some (permitsV g.P)) ∧ V.cell? ⟨bq, A, none⟩ = some (.int .u64 0))) (fun _ h => h.1) _ _ _ _ ?_
        replace hHeld : (fun V : World => ((V.cell? ⟨g.G, 0, none⟩ = some (.int .i64 (m.t : Int)) ∧ V.cell? ⟨g.G, 1, none⟩ = some (.int .i64 (m.o : Int)) ∧ V.cell? ⟨g.G, 2, none⟩ = some (.int .i64 (m.n : Int))) ∧ V.cell? ⟨g.G, 3, none⟩ = some (cellsV g.C) ∧ V.cell? ⟨g.G, 4, none⟩ = some (permitsV g.P)) ∧ V.cell? ⟨bq, A, none⟩ = some (.int .u64 0)) w25 := ⟨hS25, c25⟩
        refine wpAnyH_take (i := 19) (oi := { dst := some 184, op := Op.indexAddr 38 (Operand.tmp 182) (Operand.tmp 183), type := 0, pos := "outright.go:146", after := #[{ on := 17, ground := Ground.data }, { on := 18, ground := Ground.data }, { on := 12, ground := Ground.guard }], guard := some (12, true) }) (v := ?_) rfl (by kernel_rfl) (by kernel_rfl) (by kernel_rfl) (fun _ _ _ h => h) (Or.inl ⟨by rfl, ?_⟩) (by assumption) ?_
        rotate_left
        · intro w hSw; (try dsimp only at hSw); go_simp; try with_reducible rfl
        (try simp only [Act.put, List.setIfInBounds_toArray, List.set_cons_zero, List.set_cons_succ])
        refine wpAnyH_take (i := 20) (oi := { dst := some 185, op := Op.load 47 (Operand.tmp 184), type := 47, pos := "outright.go:146", after := #[{ on := 19, ground := Ground.data }, { on := 12, ground := Ground.guard }], guard := some (12, true) }) (v := ?_) rfl (by kernel_rfl) (by kernel_rfl) (by kernel_rfl) (fun _ _ _ h => h) (Or.inl ⟨by rfl, ?_⟩) (by assumption) ?_
        rotate_left
        · intro w hSw; (try dsimp only at hSw); go_simp; try with_reducible rfl
        (try simp only [Act.put, List.setIfInBounds_toArray, List.set_cons_zero, List.set_cons_succ])
        refine wpAnyH_take (i := 21) (oi := { dst := some 186, op := Op.binOp BinOp.eql 47 (Operand.tmp 185) (Operand.const (Value.int IntKind.u64 0)) 47, type := 4, pos := "outright.go:146", after := #[{ on := 20, ground := Ground.data }, { on := 12, ground := Ground.guard }], guard := some (12, true) }) (v := ?_) rfl (by kernel_rfl) (by kernel_rfl) (by kernel_rfl) (fun _ _ _ h => h) (Or.inl ⟨by rfl, ?_⟩) (by assumption) ?_
        rotate_left
        · intro w hSw; (try dsimp only at hSw); go_simp; try with_reducible rfl
        (try simp only [Act.put, List.setIfInBounds_toArray, List.set_cons_zero, List.set_cons_succ])
        refine wpAnyH_take (i := 22) (oi := { dst := some 187, op := Op.pick (Operand.tmp 177) (Operand.tmp 186) (Operand.const (Value.bool false)), type := 4, pos := "outright.go:146", after := #[{ on := 12, ground := Ground.data }, { on := 21, ground := Ground.data }], guard := none }) (v := ?_) rfl (by kernel_rfl) (by kernel_rfl) (by kernel_rfl) (fun _ _ _ h => h) (Or.inl ⟨by rfl, ?_⟩) (by assumption) ?_
        rotate_left
        · intro w hSw; (try dsimp only at hSw); go_simp; try with_reducible rfl
        (try simp only [Act.put, List.setIfInBounds_toArray, List.set_cons_zero, List.set_cons_succ])
        refine wpAnyH_take (i := 23) (oi := { dst := some 188, op := Op.move (Operand.tmp 187), type := 4, pos := "outright.go:146", after := #[{ on := 22, ground := Ground.data }, { on := 17, ground := Ground.chain }], guard := none }) (v := ?_) rfl (by kernel_rfl) (by kernel_rfl) (by kernel_rfl) (fun _ _ _ h => h) (Or.inl ⟨by rfl, ?_⟩) (by assumption) ?_
        rotate_left
        · intro w hSw; (try dsimp only at hSw); go_simp; try with_reducible rfl
        (try simp only [Act.put, List.setIfInBounds_toArray, List.set_cons_zero, List.set_cons_succ])
        refine wpAnyH_take (i := 24) (oi := { dst := some 189, op := Op.move (Operand.tmp 8), type := 64, pos := "outright.go:146", after := #[{ on := 23, ground := Ground.guard }], guard := some (23, true) }) (v := ?_) rfl (by kernel_rfl) (by kernel_rfl) (by kernel_rfl) (fun _ _ _ h => h) (Or.inl ⟨by rfl, ?_⟩) (by assumption) ?_
        rotate_left
        · intro w hSw; (try dsimp only at hSw); go_simp; try with_reducible rfl
        (try simp only [Act.put, List.setIfInBounds_toArray, List.set_cons_zero, List.set_cons_succ])
        refine wpAnyH_take (i := 25) (oi := { dst := some 190, op := Op.nilCheck (Operand.tmp 189), type := 0, pos := "outright.go:146", after := #[{ on := 24, ground := Ground.data }, { on := 23, ground := Ground.guard }], guard := some (23, true) }) (v := ?_) rfl (by kernel_rfl) (by kernel_rfl) (by kernel_rfl) (fun _ _ _ h => h) (Or.inl ⟨by rfl, ?_⟩) (by assumption) ?_
        rotate_left
        · intro w hSw; (try dsimp only at hSw); go_simp; try with_reducible rfl
        (try simp only [Act.put, List.setIfInBounds_toArray, List.set_cons_zero, List.set_cons_succ])
        refine wpAnyH_take (i := 26) (oi := { dst := some 191, op := Op.fieldAddr 79 (Operand.tmp 190) 2, type := 0, pos := "outright.go:146", after := #[{ on := 25, ground := Ground.data }, { on := 23, ground := Ground.guard }], guard := some (23, true) }) (v := ?_) rfl (by kernel_rfl) (by kernel_rfl) (by kernel_rfl) (fun _ _ _ h => h) (Or.inl ⟨by rfl, ?_⟩) (by assumption) ?_
        rotate_left
        · intro w hSw; (try dsimp only at hSw); go_simp; try with_reducible rfl
        (try simp only [Act.put, List.setIfInBounds_toArray, List.set_cons_zero, List.set_cons_succ])
        refine wpAnyH_take (i := 27) (oi := { dst := some 192, op := Op.load 67 (Operand.tmp 191), type := 67, pos := "outright.go:146", after := #[{ on := 26, ground := Ground.data }, { on := 23, ground := Ground.guard }], guard := some (23, true) }) (v := ?_) rfl (by kernel_rfl) (by kernel_rfl) (by kernel_rfl) (fun _ _ _ h => h) (Or.inl ⟨by rfl, ?_⟩) (by assumption) ?_
        rotate_left
        · intro w hSw; (try dsimp only at hSw); go_simp; try with_reducible rfl
        (try simp only [Act.put, List.setIfInBounds_toArray, List.set_cons_zero, List.set_cons_succ])
        refine wpAnyH_take (i := 28) (oi := { dst := some 193, op := Op.move (Operand.tmp 9), type := 3, pos := "outright.go:146", after := #[{ on := 23, ground := Ground.guard }], guard := some (23, true) }) (v := ?_) rfl (by kernel_rfl) (by kernel_rfl) (by kernel_rfl) (fun _ _ _ h => h) (Or.inl ⟨by rfl, ?_⟩) (by assumption) ?_
        rotate_left
        · intro w hSw; (try dsimp only at hSw); go_simp; try with_reducible rfl
        (try simp only [Act.put, List.setIfInBounds_toArray, List.set_cons_zero, List.set_cons_succ])
        refine wpAnyH_ready (rs := [29]) (by kernel_rfl) (by simp) ?_
        refine AllReadyH.cons rfl (fun K hK => ?_) AllReadyH.nil
        go_simp
        go_at_call 61
        with_reducible refine HH25.out.mono ?_
        rintro e w25' ⟨rfl, rfl⟩
        go_wp2_with fail
        refine hK.out _ _ (⟨hS25, c25⟩) (fun hHeld => ?_)
        clear hK K
        (try dsimp only [Act.put]); (try simp only [Act.put, List.setIfInBounds_toArray, List.set_cons_zero, List.set_cons_succ])
        refine wpAnyH_take (i := 30) (oi := { dst := some 195, op := Op.unOp UnOp.not 4 (Operand.tmp 194), type := 4, pos := "outright.go:146", after := #[{ on := 29, ground := Ground.data }, { on := 23, ground := Ground.guard }], guard := some (23, true) }) (v := ?_) rfl (by kernel_rfl) (by kernel_rfl) (by kernel_rfl) (fun _ _ _ h => h) (Or.inl ⟨by rfl, ?_⟩) (by assumption) ?_
        rotate_left
        · intro w hSw; (try dsimp only at hSw); go_simp; try with_reducible rfl
        (try simp only [Act.put, List.setIfInBounds_toArray, List.set_cons_zero, List.set_cons_succ])
        refine wpAnyH_take (i := 31) (oi := { dst := some 196, op := Op.pick (Operand.tmp 188) (Operand.tmp 195) (Operand.const (Value.bool false)), type := 4, pos := "outright.go:146", after := #[{ on := 23, ground := Ground.data }, { on := 30, ground := Ground.data }], guard := none }) (v := ?_) rfl (by kernel_rfl) (by kernel_rfl) (by kernel_rfl) (fun _ _ _ h => h) (Or.inl ⟨by rfl, ?_⟩) (by assumption) ?_
        rotate_left
        · intro w hSw; (try dsimp only at hSw); go_simp; try with_reducible rfl
        (try simp only [Act.put, List.setIfInBounds_toArray, List.set_cons_zero, List.set_cons_succ])
        refine wpAnyH_take (i := 32) (oi := { dst := some 197, op := Op.move (Operand.tmp 196), type := 4, pos := "outright.go:146", after := #[{ on := 31, ground := Ground.data }, { on := 29, ground := Ground.chain }], guard := none }) (v := ?_) rfl (by kernel_rfl) (by kernel_rfl) (by kernel_rfl) (fun _ _ _ h => h) (Or.inl ⟨by rfl, ?_⟩) (by assumption) ?_
        rotate_left
        · intro w hSw; (try dsimp only at hSw); go_simp; try with_reducible rfl
        (try simp only [Act.put, List.setIfInBounds_toArray, List.set_cons_zero, List.set_cons_succ])
        refine wpAnyH_take (i := 33) (oi := { dst := some 198, op := Op.move (Operand.tmp 8), type := 64, pos := "outright.go:146", after := #[{ on := 32, ground := Ground.guard }], guard := some (32, true) }) (v := ?_) rfl (by kernel_rfl) (by kernel_rfl) (by kernel_rfl) (fun _ _ _ h => h) (Or.inl ⟨by rfl, ?_⟩) (by assumption) ?_
        rotate_left
        · intro w hSw; (try dsimp only at hSw); go_simp; try with_reducible rfl
        (try simp only [Act.put, List.setIfInBounds_toArray, List.set_cons_zero, List.set_cons_succ])
        refine wpAnyH_take (i := 34) (oi := { dst := some 199, op := Op.nilCheck (Operand.tmp 198), type := 0, pos := "outright.go:146", after := #[{ on := 33, ground := Ground.data }, { on := 32, ground := Ground.guard }], guard := some (32, true) }) (v := ?_) rfl (by kernel_rfl) (by kernel_rfl) (by kernel_rfl) (fun _ _ _ h => h) (Or.inl ⟨by rfl, ?_⟩) (by assumption) ?_
        rotate_left
        · intro w hSw; (try dsimp only at hSw); go_simp; try with_reducible rfl
        (try simp only [Act.put, List.setIfInBounds_toArray, List.set_cons_zero, List.set_cons_succ])
        refine wpAnyH_take (i := 35) (oi := { dst := some 200, op := Op.fieldAddr 79 (Operand.tmp 199) 1, type := 0, pos := "outright.go:146", after := #[{ on := 34, ground := Ground.data }, { on := 32, ground := Ground.guard }], guard := some (32, true) }) (v := ?_) rfl (by kernel_rfl) (by kernel_rfl) (by kernel_rfl) (fun _ _ _ h => h) (Or.inl ⟨by rfl, ?_⟩) (by assumption) ?_
        rotate_left
        · intro w hSw; (try dsimp only at hSw); go_simp; try with_reducible rfl
        (try simp only [Act.put, List.setIfInBounds_toArray, List.set_cons_zero, List.set_cons_succ])
        refine wpAnyH_take (i := 36) (oi := { dst := some 201, op := Op.load 26 (Operand.tmp 200), type := 26, pos := "outright.go:146", after := #[{ on := 35, ground := Ground.data }, { on := 32, ground := Ground.guard }], guard := some (32, true) }) (v := ?_) rfl (by kernel_rfl) (by kernel_rfl) (by kernel_rfl) (fun _ _ _ h => h) (Or.inl ⟨by rfl, ?_⟩) (by assumption) ?_
        rotate_left
        · intro w hSw; (try dsimp only at hSw); go_simp; try with_reducible rfl
        (try simp only [Act.put, List.setIfInBounds_toArray, List.set_cons_zero, List.set_cons_succ])
        refine wpAnyH_take (i := 38) (oi := { dst := some 203, op := Op.move (Operand.tmp 8), type := 64, pos := "outright.go:146", after := #[{ on := 32, ground := Ground.guard }], guard := some (32, true) }) (v := ?_) rfl (by kernel_rfl) (by kernel_rfl) (by kernel_rfl) (fun _ _ _ h => h) (Or.inl ⟨by rfl, ?_⟩) (by assumption) ?_
        rotate_left
        · intro w hSw; (try dsimp only at hSw); go_simp; try with_reducible rfl
        (try simp only [Act.put, List.setIfInBounds_toArray, List.set_cons_zero, List.set_cons_succ])
        refine wpAnyH_take (i := 39) (oi := { dst := some 204, op := Op.nilCheck (Operand.tmp 203), type := 0, pos := "outright.go:146", after := #[{ on := 38, ground := Ground.data }, { on := 32, ground := Ground.guard }], guard := some (32, true) }) (v := ?_) rfl (by kernel_rfl) (by kernel_rfl) (by kernel_rfl) (fun _ _ _ h => h) (Or.inl ⟨by rfl, ?_⟩) (by assumption) ?_
        rotate_left
        · intro w hSw; (try dsimp only at hSw); go_simp; try with_reducible rfl
        (try simp only [Act.put, List.setIfInBounds_toArray, List.set_cons_zero, List.set_cons_succ])
        refine wpAnyH_take (i := 40) (oi := { dst := some 205, op := Op.fieldAddr 79 (Operand.tmp 204) 0, type := 0, pos := "outright.go:146", after := #[{ on := 39, ground := Ground.data }, { on := 32, ground := Ground.guard }], guard := some (32, true) }) (v := ?_) rfl (by kernel_rfl) (by kernel_rfl) (by kernel_rfl) (fun _ _ _ h => h) (Or.inl ⟨by rfl, ?_⟩) (by assumption) ?_
        rotate_left
        · intro w hSw; (try dsimp only at hSw); go_simp; try with_reducible rfl
        (try simp only [Act.put, List.setIfInBounds_toArray, List.set_cons_zero, List.set_cons_succ])
        refine wpAnyH_take (i := 41) (oi := { dst := some 206, op := Op.load 24 (Operand.tmp 205), type := 24, pos := "outright.go:146", after := #[{ on := 40, ground := Ground.data }, { on := 32, ground := Ground.guard }], guard := some (32, true) }) (v := ?_) rfl (by kernel_rfl) (by kernel_rfl) (by kernel_rfl) (fun _ _ _ h => h) (Or.inl ⟨by rfl, ?_⟩) (by assumption) ?_
        rotate_left
        · intro w hSw; (try dsimp only at hSw); go_simp; try with_reducible rfl
        (try simp only [Act.put, List.setIfInBounds_toArray, List.set_cons_zero, List.set_cons_succ])
        refine wpAnyH_take (i := 42) (oi := { dst := some 207, op := Op.move (Operand.tmp 9), type := 3, pos := "outright.go:146", after := #[{ on := 32, ground := Ground.guard }], guard := some (32, true) }) (v := ?_) rfl (by kernel_rfl) (by kernel_rfl) (by kernel_rfl) (fun _ _ _ h => h) (Or.inl ⟨by rfl, ?_⟩) (by assumption) ?_
        rotate_left
        · intro w hSw; (try dsimp only at hSw); go_simp; try with_reducible rfl
        (try simp only [Act.put, List.setIfInBounds_toArray, List.set_cons_zero, List.set_cons_succ])
        refine wpAnyH_take (i := 43) (oi := { dst := some 208, op := Op.binOp BinOp.sub 3 (Operand.const (Value.int IntKind.i64 1)) (Operand.tmp 207) 3, type := 3, pos := "outright.go:146", after := #[{ on := 42, ground := Ground.data }, { on := 32, ground := Ground.guard }], guard := some (32, true) }) (v := ?_) rfl (by kernel_rfl) (by kernel_rfl) (by kernel_rfl) (fun _ _ _ h => h) (Or.inl ⟨by rfl, ?_⟩) (by assumption) ?_
        rotate_left
        · intro w hSw; (try dsimp only at hSw); go_simp; try with_reducible rfl
        (try simp only [Act.put, List.setIfInBounds_toArray, List.set_cons_zero, List.set_cons_succ])
        refine wpAnyH_ready (rs := [37]) (by kernel_rfl) (by simp) ?_
        refine AllReadyH.cons rfl (fun K hK => ?_) AllReadyH.nil
        go_simp
        go_at_call 17
        with_reducible refine HA25.out.mono ?_
        rintro e w26 ⟨br, cr, rfl, c26, l26, h26, b26⟩
        have HB26 := Lib.hid (HB25.out.trans (b26.mono HB25.out.size))
        have HS26 := Lib.hid h26
        have hS26 := h26.c5
        have c26' := (b26.cell (p := ⟨bq, A, none⟩) l25).trans c25
        have l26q : bq < w26.heap.size := Nat.lt_of_lt_of_le l25 b26.size
        clear h26 b26 HA25
        go_wp2_with fail
        refine hK.out _ _ (⟨hS26, c26'⟩) (fun hHeld => ?_)
        clear hK K
        (try dsimp only [Act.put]); (try simp only [Act.put, List.setIfInBounds_toArray, List.set_cons_zero, List.set_cons_succ])
        refine wpAnyH_moreP (S' := (fun V : World => (((V.cell? ⟨g.G, 0, none⟩ = some (.int .i64 (m.t : Int)) ∧ V.cell? ⟨g.G, 1, none⟩ = some (.int .i64 (m.o : Int)) ∧ V.cell? ⟨g.G, 2, none⟩ = some (.int .i64 (m.n : Int))) ∧ V.cell? ⟨g.G, 3, none⟩ = some (cellsV g.C) ∧ V.cell? ⟨g.G, 4, none⟩ = some (permitsV g.P)) ∧ V.cell? ⟨bq, A, none⟩ = some (.int .u64 0)) ∧ V.cell? ⟨br, A', none⟩ = some (.int .u64 1))) (fun _ h => h.1) _ _ _ _ ?_
        replace hHeld : (fun V : World => (((V.cell? ⟨g.G, 0, none⟩ = some (.int .i64 (m.t : Int)) ∧ V.cell? ⟨g.G, 1, none⟩ = some (.int .i64 (m.o : Int)) ∧ V.cell? ⟨g.G, 2, none⟩ = some (.int .i64 (m.n : Int))) ∧ V.cell? ⟨g.G, 3, none⟩ = some (cellsV g.C) ∧ V.cell? ⟨g.G, 4, none⟩ = some (permitsV g.P)) ∧ V.cell? ⟨bq, A, none⟩ = some (.int .u64 0)) ∧ V.cell? ⟨br, A', none⟩ = some (.int .u64 1)) w26 := ⟨⟨hS26, c26'⟩, c26⟩
        refine wpAnyH_ready (rs := [44]) (by kernel_rfl) (by simp) ?_
        refine AllReadyH.cons rfl (fun K hK => ?_) AllReadyH.nil
        go_simp
        go_at_call 54
        with_reducible refine (HSW.out _).mono ?_
        rintro e w27 ⟨rfl, b27⟩
        have c27 := (b27.cell (p := ⟨br, A', none⟩) l26).trans c26
        have c27' := (b27.cell (p := ⟨bq, A, none⟩) l26q).trans c26'
        have HB27 := Lib.hid (HB26.out.trans (b27.mono HB26.out.size))
        have hS27 := (HS26.out.below b27).c5
        go_wp2_with fail
        refine hK.out _ _ (⟨⟨hS27, c27'⟩, c27⟩) (fun hHeld => ?_)
        clear hK K
        (try dsimp only [Act.put]); (try simp only [Act.put, List.setIfInBounds_toArray, List.set_cons_zero, List.set_cons_succ])
        refine wpAnyH_take (i := 45) (oi := { dst := some 210, op := Op.indexAddr 38 (Operand.tmp 202) (Operand.tmp 209), type := 0, pos := "outright.go:146", after := #[{ on := 37, ground := Ground.data }, { on := 44, ground := Ground.data }, { on := 32, ground := Ground.guard }], guard := some (32, true) }) (v := ?_) rfl (by kernel_rfl) (by kernel_rfl) (by kernel_rfl) (fun _ _ _ h => h) (Or.inl ⟨by rfl, ?_⟩) (by assumption) ?_
        rotate_left
        · intro w hSw; (try dsimp only at hSw); go_simp; try with_reducible rfl
        (try simp only [Act.put, List.setIfInBounds_toArray, List.set_cons_zero, List.set_cons_succ])
        refine wpAnyH_take (i := 46) (oi := { dst := some 211, op := Op.load 47 (Operand.tmp 210), type := 47, pos := "outright.go:146", after := #[{ on := 45, ground := Ground.data }, { on := 32, ground := Ground.guard }], guard := some (32, true) }) (v := ?_) rfl (by kernel_rfl) (by kernel_rfl) (by kernel_rfl) (fun _ _ _ h => h) (Or.inl ⟨by rfl, ?_⟩) (by assumption) ?_
        rotate_left
        · intro w hSw; (try dsimp only at hSw); go_simp; try with_reducible rfl
        (try simp only [Act.put, List.setIfInBounds_toArray, List.set_cons_zero, List.set_cons_succ])
        refine wpAnyH_take (i := 47) (oi := { dst := some 212, op := Op.binOp BinOp.eql 47 (Operand.tmp 211) (Operand.const (Value.int IntKind.u64 1)) 47, type := 4, pos := "outright.go:146", after := #[{ on := 46, ground := Ground.data }, { on := 32, ground := Ground.guard }], guard := some (32, true) }) (v := ?_) rfl (by kernel_rfl) (by kernel_rfl) (by kernel_rfl) (fun _ _ _ h => h) (Or.inl ⟨by rfl, ?_⟩) (by assumption) ?_
        rotate_left
        · intro w hSw; (try dsimp only at hSw); go_simp; try with_reducible rfl
        (try simp only [Act.put, List.setIfInBounds_toArray, List.set_cons_zero, List.set_cons_succ])
        refine wpAnyH_take (i := 48) (oi := { dst := some 213, op := Op.pick (Operand.tmp 197) (Operand.tmp 212) (Operand.const (Value.bool false)), type := 4, pos := "outright.go:146", after := #[{ on := 32, ground := Ground.data }, { on := 47, ground := Ground.data }], guard := none }) (v := ?_) rfl (by kernel_rfl) (by kernel_rfl) (by kernel_rfl) (fun _ _ _ h => h) (Or.inl ⟨by rfl, ?_⟩) (by assumption) ?_
        rotate_left
        · intro w hSw; (try dsimp only at hSw); go_simp; try with_reducible rfl
        (try simp only [Act.put, List.setIfInBounds_toArray, List.set_cons_zero, List.set_cons_succ])
        refine wpAnyH_ready (rs := [49]) (by kernel_rfl) (by simp) ?_
        refine AllReadyH.cons rfl (fun K hK => ?_) AllReadyH.nil
        go_simp
        go_wp2_with fail
        refine hK.out _ _ (by assumption) (fun hHeld => ?_)
        clear hK K
        (try dsimp only [Act.put]); (try simp only [Act.put, List.setIfInBounds_toArray, List.set_cons_zero, List.set_cons_succ])
        refine wpAnyH_done (by kernel_rfl) ?_ _
        go_wp2
        go_ret
        exact ⟨rfl, HB27.out⟩
  · go_upto_region 17 with (go_at_call 60; (with_reducible refine HGiv.out.mono ?_); rintro e w16 ⟨rfl, h16, b16⟩)
    have HB16 := Lib.hid (HB15.out.trans b16)
    have HPk0 := SL.park1 u false true 0 h16 HB16.out.size HFu1.out (by simp [endsS])
    rw [if_pos rfl] at HPk0
    have HPk := Lib.hid HPk0
    have HFp := Lib.hid HFu2.out
    generalize (([false, false] : List Bool).set u true).set u false = lp at *
    clear h16 b16
    clear HPk0 d0 d1 d2 d3 d4 HS15 HB15 HGiv HFu HFu1 HFu2
    have hkq : ∃ kq : Int, kq = 6 + 1 + 1 + 1 := ⟨_, rfl⟩
    obtain ⟨kq, hkq⟩ := hkq
    have HPk1 := HPk.out
    rw [← hkq] at HPk1
    have HPk2 := Lib.hid HPk1
    have HKq := Lib.hid (show 0 ≤ kq ∧ kq ≤ 100 by omega)
    clear hkq HPk HPk1
    go_upto_region 19 with (first
      | (go_at_call 37; (with_reducible refine HPk2.out.mono ?_); rintro e w17 ⟨rfl, h17, b17⟩; have HS17 := Lib.hid h17; have HB17 := Lib.hid (HB16.out.trans b17); have HD17 := Lib.hid (SL.wake_done u 0 h17); have HP17 := Lib.hid (SL.wake_parked u 0 h17); clear h17 b17)
      | (go_at_call 38; (with_reducible refine HD17.out.mono ?_); rintro e w18 ⟨rfl, rfl⟩)
      | (go_at_call 57; (with_reducible refine HP17.out.mono ?_); rintro e w18 ⟨rfl, rfl⟩))
    clear HD17 HP17 HPk2 HB16
    go_wp2_with fail
    go_loopw [14] (fun v14 wr => ∃ i : Nat, i ≤ hh ∧ v14 = .int .i64 (i : Int) ∧ SL g m w.heap.size wr ⟨M.set A 2, kq + i, lp, []⟩ t2 (itE (wakeT m u 0)) ∧ Below w.heap.size w wr) (fun v14 _ => hh - (intOf v14).toNat)
    case atStart => exact ⟨0, by omega, rfl, by simpa using HS17.out, HB17.out⟩
    case round =>
      obtain ⟨i, hi, rfl, hs, hbl⟩ := hrel
      have HS := Lib.hid hs
      have HB := Lib.hid hbl
      obtain ⟨⟨d0, d1, d2⟩, d3, d4⟩ := hs.c5
      clear hs hbl HS17 HB17
      by_cases hih : i < hh
      · have hihI : (i : Int) < (hh : Int) := by omega
        have HSt := Lib.hid (SL.wake_no (u : Int) 0 (c := 2) HS.out HB.out.size (by rw [← HAeq.out.1]; exact List.getElem?_set_self (by rw [HL.out]; exact hAL)) (by decide) (by have := HKq.out; omega))
        clear d0 d1 d2 d3 d4
        go_wp2_with (first
          | (go_at_call 37; (with_reducible refine HSt.out.mono ?_); rintro e w20 ⟨rfl, h20, b20⟩; have HS20 := Lib.hid h20; have HB20 := Lib.hid (HB.out.trans b20); have HD20 := Lib.hid (SL.wake_done u 0 h20); have HA20 := Lib.hid (h20.all1 (L := L) (A := A) (c := 2) (by simp [HL.out]) (List.getElem?_set_self (by rw [HL.out]; exact hAL))); obtain ⟨⟨d0, d1, d2⟩, d3, d4⟩ := h20.c5; clear h20 b20)
          | (go_at_call 38; (with_reducible refine HD20.out.mono ?_); rintro e w21 ⟨rfl, rfl⟩)
          | (go_at_call 17; (with_reducible refine HA20.out.mono ?_); rintro e w22 ⟨bq, cq, rfl, c22, l22, h22, b22⟩))
        go_roundw
        case rel => exact ⟨i + 1, by omega, by go_num, by have := h22; rw [show kq + ((i + 1 : Nat) : Int) = kq + (i : Int) + 1 by omega]; exact this, HB20.out.trans (b22.mono HB20.out.size)⟩
        case measure => simp [intOf]; omega
      · have hihI : ¬ (i : Int) < (hh : Int) := by omega
        have HSto0 := HS.out.store A 2 1 HB.out.size (List.getElem?_set_self (by rw [HL.out]; exact hAL)) (by have := HKq.out; show 0 ≤ kq + (i : Int) ∧ kq + (i : Int) ≤ 2000000; omega)
        rw [List.set_set] at HSto0
        have HSto := Lib.hid HSto0
        clear HSto0
        go_upto_region 25 with (go_at_call 59; (with_reducible refine HSto.out.mono ?_); rintro e w23 ⟨rfl, h23, b23⟩)
        have HS23 := Lib.hid h23
        have HB23 := Lib.hid (HB.out.trans b23)
        have hS23' := (h23.below (bdrewP w23)).c5
        have HSt0 := SL.wake_yes (u : Int) 0 (h23.below (bdrewP w23)) HB23.out.size (by rw [← HAeq.out.1]; exact List.getElem?_set_self (by rw [HL.out]; exact hAL)) (by have := HKq.out; show 0 ≤ kq + (i : Int) + 1 ∧ kq + (i : Int) + 1 ≤ 2000000; omega)
        rw [← HAeq.out.1, List.set_set] at HSt0
        have HSt := Lib.hid HSt0
        have hS23 := h23.c5
        clear HSt0 d0 d1 d2 d3 d4 h23 b23 HSto HS HB
        refine wp_region_held_drew (S := (fun V : World => ((V.cell? ⟨g.G, 0, none⟩ = some (.int .i64 (m.t : Int)) ∧ V.cell? ⟨g.G, 1, none⟩ = some (.int .i64 (m.o : Int)) ∧ V.cell? ⟨g.G, 2, none⟩ = some (.int .i64 (m.n : Int))) ∧ V.cell? ⟨g.G, 3, none⟩ = some (cellsV g.C) ∧ V.cell? ⟨g.G, 4, none⟩ = some (permitsV g.P)))) (by kernel_rfl) (hS23') (fun hHeld => ?_)
        refine wpAnyH_take (i := 0) (oi := { dst := some 165, op := Op.move (Operand.tmp 13), type := 40, pos := "outright.go:146", after := #[], guard := none }) (v := ?_) rfl (by kernel_rfl) (by kernel_rfl) (by kernel_rfl) (fun _ _ _ h => h) (Or.inl ⟨by rfl, ?_⟩) (by assumption) ?_
        rotate_left
        · intro w hSw; (try dsimp only at hSw); go_simp; try with_reducible rfl
        (try simp only [Act.put, List.setIfInBounds_toArray, List.set_cons_zero, List.set_cons_succ])
        refine wpAnyH_ready (rs := [1]) (by kernel_rfl) (by simp) ?_
        refine AllReadyH.cons rfl (fun K hK => ?_) AllReadyH.nil
        go_simp
        go_at_call 37
        with_reducible refine HSt.out.mono ?_
        rintro e w24 ⟨rfl, h24, b24⟩
        have HB24 := Lib.hid ((HB23.out.trans ((bdrewP w23).mono HB23.out.size)).trans b24)
        have HD24 := Lib.hid h24.done_ret
        have HV24 := Lib.hid h24.value
        have HA24 := Lib.hid (h24.all1 (L := L) (A := A) (c := 0) (by simp [HL.out]) (List.getElem?_set_self (by rw [HL.out]; exact hAL)))
        have hS24 := h24.c5
        clear h24 b24
        go_wp2_with fail
        refine hK.out _ _ (hS24) (fun hHeld => ?_)
        clear hK K
        (try dsimp only [Act.put]); (try simp only [Act.put, List.setIfInBounds_toArray, List.set_cons_zero, List.set_cons_succ])
        refine wpAnyH_take (i := 2) (oi := { dst := some 167, op := Op.move (Operand.tmp 166), type := 4, pos := "outright.go:146", after := #[{ on := 1, ground := Ground.data }, { on := 1, ground := Ground.chain }], guard := none }) (v := ?_) rfl (by kernel_rfl) (by kernel_rfl) (by kernel_rfl) (fun _ _ _ h => h) (Or.inl ⟨by rfl, ?_⟩) (by assumption) ?_
        rotate_left
        · intro w hSw; (try dsimp only at hSw); go_simp; try with_reducible rfl
        (try simp only [Act.put, List.setIfInBounds_toArray, List.set_cons_zero, List.set_cons_succ])
        refine wpAnyH_take (i := 3) (oi := { dst := some 168, op := Op.move (Operand.tmp 13), type := 40, pos := "outright.go:146", after := #[{ on := 2, ground := Ground.guard }], guard := some (2, true) }) (v := ?_) rfl (by kernel_rfl) (by kernel_rfl) (by kernel_rfl) (fun _ _ _ h => h) (Or.inl ⟨by rfl, ?_⟩) (by assumption) ?_
        rotate_left
        · intro w hSw; (try dsimp only at hSw); go_simp; try with_reducible rfl
        (try simp only [Act.put, List.setIfInBounds_toArray, List.set_cons_zero, List.set_cons_succ])
        refine wpAnyH_ready (rs := [4]) (by kernel_rfl) (by simp) ?_
        refine AllReadyH.cons rfl (fun K hK => ?_) AllReadyH.nil
        go_simp
        go_at_call 38
        with_reducible refine HD24.out.mono ?_
        rintro e w24' ⟨rfl, rfl⟩
        go_wp2_with fail
        refine hK.out _ _ (hS24) (fun hHeld => ?_)
        clear hK K
        (try dsimp only [Act.put]); (try simp only [Act.put, List.setIfInBounds_toArray, List.set_cons_zero, List.set_cons_succ])
        refine wpAnyH_take (i := 5) (oi := { dst := some 170, op := Op.pick (Operand.tmp 167) (Operand.tmp 169) (Operand.const (Value.bool false)), type := 4, pos := "outright.go:146", after := #[{ on := 2, ground := Ground.data }, { on := 4, ground := Ground.data }], guard := none }) (v := ?_) rfl (by kernel_rfl) (by kernel_rfl) (by kernel_rfl) (fun _ _ _ h => h) (Or.inl ⟨by rfl, ?_⟩) (by assumption) ?_
        rotate_left
        · intro w hSw; (try dsimp only at hSw); go_simp; try with_reducible rfl
        (try simp only [Act.put, List.setIfInBounds_toArray, List.set_cons_zero, List.set_cons_succ])
        refine wpAnyH_take (i := 6) (oi := { dst := some 171, op := Op.move (Operand.tmp 170), type := 4, pos := "outright.go:146", after := #[{ on := 5, ground := Ground.data }, { on := 4, ground := Ground.chain }], guard := none }) (v := ?_) rfl (by kernel_rfl) (by kernel_rfl) (by kernel_rfl) (fun _ _ _ h => h) (Or.inl ⟨by rfl, ?_⟩) (by assumption) ?_
        rotate_left
        · intro w hSw; (try dsimp only at hSw); go_simp; try with_reducible rfl
        (try simp only [Act.put, List.setIfInBounds_toArray, List.set_cons_zero, List.set_cons_succ])
        refine wpAnyH_take (i := 7) (oi := { dst := some 172, op := Op.move (Operand.tmp 13), type := 40, pos := "outright.go:146", after := #[{ on := 6, ground := Ground.guard }], guard := some (6, true) }) (v := ?_) rfl (by kernel_rfl) (by kernel_rfl) (by kernel_rfl) (fun _ _ _ h => h) (Or.inl ⟨by rfl, ?_⟩) (by assumption) ?_
        rotate_left
        · intro w hSw; (try dsimp only at hSw); go_simp; try with_reducible rfl
        (try simp only [Act.put, List.setIfInBounds_toArray, List.set_cons_zero, List.set_cons_succ])
        refine wpAnyH_take (i := 9) (oi := { dst := some 174, op := Op.move (Operand.tmp 10), type := 3, pos := "outright.go:146", after := #[{ on := 6, ground := Ground.guard }], guard := some (6, true) }) (v := ?_) rfl (by kernel_rfl) (by kernel_rfl) (by kernel_rfl) (fun _ _ _ h => h) (Or.inl ⟨by rfl, ?_⟩) (by assumption) ?_
        rotate_left
        · intro w hSw; (try dsimp only at hSw); go_simp; try with_reducible rfl
        (try simp only [Act.put, List.setIfInBounds_toArray, List.set_cons_zero, List.set_cons_succ])
        refine wpAnyH_ready (rs := [8]) (by kernel_rfl) (by simp) ?_
        refine AllReadyH.cons rfl (fun K hK => ?_) AllReadyH.nil
        go_simp
        go_at_call 27
        with_reducible refine HV24.out.mono ?_
        rintro e w24' ⟨rfl, rfl⟩
        go_wp2_with fail
        refine hK.out _ _ (hS24) (fun hHeld => ?_)
        clear hK K
        (try dsimp only [Act.put]); (try simp only [Act.put, List.setIfInBounds_toArray, List.set_cons_zero, List.set_cons_succ])
        refine wpAnyH_take (i := 10) (oi := { dst := some 175, op := Op.binOp BinOp.eql 3 (Operand.tmp 173) (Operand.tmp 174) 3, type := 4, pos := "outright.go:146", after := #[{ on := 8, ground := Ground.data }, { on := 9, ground := Ground.data }, { on := 6, ground := Ground.guard }], guard := some (6, true) }) (v := ?_) rfl (by kernel_rfl) (by kernel_rfl) (by kernel_rfl) (fun _ _ _ h => h) (Or.inl ⟨by rfl, ?_⟩) (by assumption) ?_
        rotate_left
        · intro w hSw; (try dsimp only at hSw); go_simp; try with_reducible rfl
        (try simp only [Act.put, List.setIfInBounds_toArray, List.set_cons_zero, List.set_cons_succ])
        refine wpAnyH_take (i := 11) (oi := { dst := some 176, op := Op.pick (Operand.tmp 171) (Operand.tmp 175) (Operand.const (Value.bool false)), type := 4, pos := "outright.go:146", after := #[{ on := 6, ground := Ground.data }, { on := 10, ground := Ground.data }], guard := none }) (v := ?_) rfl (by kernel_rfl) (by kernel_rfl) (by kernel_rfl) (fun _ _ _ h => h) (Or.inl ⟨by rfl, ?_⟩) (by assumption) ?_
        rotate_left
        · intro w hSw; (try dsimp only at hSw); go_simp; try with_reducible rfl
        (try simp only [Act.put, List.setIfInBounds_toArray, List.set_cons_zero, List.set_cons_succ])
        refine wpAnyH_take (i := 12) (oi := { dst := some 177, op := Op.move (Operand.tmp 176), type := 4, pos := "outright.go:146", after := #[{ on := 11, ground := Ground.data }, { on := 8, ground := Ground.chain }], guard := none }) (v := ?_) rfl (by kernel_rfl) (by kernel_rfl) (by kernel_rfl) (fun _ _ _ h => h) (Or.inl ⟨by rfl, ?_⟩) (by assumption) ?_
        rotate_left
        · intro w hSw; (try dsimp only at hSw); go_simp; try with_reducible rfl
        (try simp only [Act.put, List.setIfInBounds_toArray, List.set_cons_zero, List.set_cons_succ])
        refine wpAnyH_take (i := 13) (oi := { dst := some 178, op := Op.move (Operand.tmp 8), type := 64, pos := "outright.go:146", after := #[{ on := 12, ground := Ground.guard }], guard := some (12, true) }) (v := ?_) rfl (by kernel_rfl) (by kernel_rfl) (by kernel_rfl) (fun _ _ _ h => h) (Or.inl ⟨by rfl, ?_⟩) (by assumption) ?_
        rotate_left
        · intro w hSw; (try dsimp only at hSw); go_simp; try with_reducible rfl
        (try simp only [Act.put, List.setIfInBounds_toArray, List.set_cons_zero, List.set_cons_succ])
        refine wpAnyH_take (i := 14) (oi := { dst := some 179, op := Op.nilCheck (Operand.tmp 178), type := 0, pos := "outright.go:146", after := #[{ on := 13, ground := Ground.data }, { on := 12, ground := Ground.guard }], guard := some (12, true) }) (v := ?_) rfl (by kernel_rfl) (by kernel_rfl) (by kernel_rfl) (fun _ _ _ h => h) (Or.inl ⟨by rfl, ?_⟩) (by assumption) ?_
        rotate_left
        · intro w hSw; (try dsimp only at hSw); go_simp; try with_reducible rfl
        (try simp only [Act.put, List.setIfInBounds_toArray, List.set_cons_zero, List.set_cons_succ])
        refine wpAnyH_take (i := 15) (oi := { dst := some 180, op := Op.fieldAddr 79 (Operand.tmp 179) 1, type := 0, pos := "outright.go:146", after := #[{ on := 14, ground := Ground.data }, { on := 12, ground := Ground.guard }], guard := some (12, true) }) (v := ?_) rfl (by kernel_rfl) (by kernel_rfl) (by kernel_rfl) (fun _ _ _ h => h) (Or.inl ⟨by rfl, ?_⟩) (by assumption) ?_
        rotate_left
        · intro w hSw; (try dsimp only at hSw); go_simp; try with_reducible rfl
        (try simp only [Act.put, List.setIfInBounds_toArray, List.set_cons_zero, List.set_cons_succ])
        refine wpAnyH_take (i := 16) (oi := { dst := some 181, op := Op.load 26 (Operand.tmp 180), type := 26, pos := "outright.go:146", after := #[{ on := 15, ground := Ground.data }, { on := 12, ground := Ground.guard }], guard := some (12, true) }) (v := ?_) rfl (by kernel_rfl) (by kernel_rfl) (by kernel_rfl) (fun _ _ _ h => h) (Or.inl ⟨by rfl, ?_⟩) (by assumption) ?_
        rotate_left
        · intro w hSw; (try dsimp only at hSw); go_simp; try with_reducible rfl
        (try simp only [Act.put, List.setIfInBounds_toArray, List.set_cons_zero, List.set_cons_succ])
        refine wpAnyH_take (i := 18) (oi := { dst := some 183, op := Op.move (Operand.tmp 11), type := 3, pos := "outright.go:146", after := #[{ on := 12, ground := Ground.guard }], guard := some (12, true) }) (v := ?_) rfl (by kernel_rfl) (by kernel_rfl) (by kernel_rfl) (fun _ _ _ h => h) (Or.inl ⟨by rfl, ?_⟩) (by assumption) ?_
        rotate_left
        · intro w hSw; (try dsimp only at hSw); go_simp; try with_reducible rfl
        (try simp only [Act.put, List.setIfInBounds_toArray, List.set_cons_zero, List.set_cons_succ])
        refine wpAnyH_ready (rs := [17]) (by kernel_rfl) (by simp) ?_
        refine AllReadyH.cons rfl (fun K hK => ?_) AllReadyH.nil
        go_simp
        go_at_call 17
        with_reducible refine HA24.out.mono ?_
        rintro e w25 ⟨bq, cq, rfl, c25, l25, h25, b25⟩
        have HB25 := Lib.hid (HB24.out.trans (b25.mono HB24.out.size))
        have HH25 := Lib.hid (h25.has u false HFp.out)
        have HA25 := Lib.hid (h25.all1 (L := L) (A := A') (c := 1) (by simp [HL.out]) (by rw [List.getElem?_set_ne HAV.out]; exact HV0.out))
        have hS25 := h25.c5
        clear h25 b25 HA24
        go_wp2_with fail
        refine hK.out _ _ (hS25) (fun hHeld => ?_)
        clear hK K
        (try dsimp only [Act.put]); (try simp only [Act.put, List.setIfInBounds_toArray, List.set_cons_zero, List.set_cons_succ])
        refine wpAnyH_moreP (S' := (fun V : World => ((V.cell? ⟨g.G, 0, none⟩ = some (.int .i64 (m.t : Int)) ∧ V.cell? ⟨g.G, 1, none⟩ = some (.int .i64 (m.o : Int)) ∧ V.cell? ⟨g.G, 2, none⟩ = some (.int .i64 (m.n : Int))) ∧ V.cell? ⟨g.G, 3, none⟩ = some (cellsV g.C) ∧ V.cell? ⟨g.G, 4, none⟩ = some (permitsV g.P)) ∧ V.cell? ⟨bq, A, none⟩ = some (.int .u64 0))) (fun _ h => h.1) _ _ _ _ ?_
        replace hHeld : (fun V : World => ((V.cell? ⟨g.G, 0, none⟩ = some (.int .i64 (m.t : Int)) ∧ V.cell? ⟨g.G, 1, none⟩ = some (.int .i64 (m.o : Int)) ∧ V.cell? ⟨g.G, 2, none⟩ = some (.int .i64 (m.n : Int))) ∧ V.cell? ⟨g.G, 3, none⟩ = some (cellsV g.C) ∧ V.cell? ⟨g.G, 4, none⟩ = some (permitsV g.P)) ∧ V.cell? ⟨bq, A, none⟩ = some (.int .u64 0)) w25 := ⟨hS25, c25⟩
        refine wpAnyH_take (i := 19) (oi := { dst := some 184, op := Op.indexAddr 38 (Operand.tmp 182) (Operand.tmp 183), type := 0, pos := "outright.go:146", after := #[{ on := 17, ground := Ground.data }, { on := 18, ground := Ground.data }, { on := 12, ground := Ground.guard }], guard := some (12, true) }) (v := ?_) rfl (by kernel_rfl) (by kernel_rfl) (by kernel_rfl) (fun _ _ _ h => h) (Or.inl ⟨by rfl, ?_⟩) (by assumption) ?_
        rotate_left
        · intro w hSw; (try dsimp only at hSw); go_simp; try with_reducible rfl
        (try simp only [Act.put, List.setIfInBounds_toArray, List.set_cons_zero, List.set_cons_succ])
        refine wpAnyH_take (i := 20) (oi := { dst := some 185, op := Op.load 47 (Operand.tmp 184), type := 47, pos := "outright.go:146", after := #[{ on := 19, ground := Ground.data }, { on := 12, ground := Ground.guard }], guard := some (12, true) }) (v := ?_) rfl (by kernel_rfl) (by kernel_rfl) (by kernel_rfl) (fun _ _ _ h => h) (Or.inl ⟨by rfl, ?_⟩) (by assumption) ?_
        rotate_left
        · intro w hSw; (try dsimp only at hSw); go_simp; try with_reducible rfl
        (try simp only [Act.put, List.setIfInBounds_toArray, List.set_cons_zero, List.set_cons_succ])
        refine wpAnyH_take (i := 21) (oi := { dst := some 186, op := Op.binOp BinOp.eql 47 (Operand.tmp 185) (Operand.const (Value.int IntKind.u64 0)) 47, type := 4, pos := "outright.go:146", after := #[{ on := 20, ground := Ground.data }, { on := 12, ground := Ground.guard }], guard := some (12, true) }) (v := ?_) rfl (by kernel_rfl) (by kernel_rfl) (by kernel_rfl) (fun _ _ _ h => h) (Or.inl ⟨by rfl, ?_⟩) (by assumption) ?_
        rotate_left
        · intro w hSw; (try dsimp only at hSw); go_simp; try with_reducible rfl
        (try simp only [Act.put, List.setIfInBounds_toArray, List.set_cons_zero, List.set_cons_succ])
        refine wpAnyH_take (i := 22) (oi := { dst := some 187, op := Op.pick (Operand.tmp 177) (Operand.tmp 186) (Operand.const (Value.bool false)), type := 4, pos := "outright.go:146", after := #[{ on := 12, ground := Ground.data }, { on := 21, ground := Ground.data }], guard := none }) (v := ?_) rfl (by kernel_rfl) (by kernel_rfl) (by kernel_rfl) (fun _ _ _ h => h) (Or.inl ⟨by rfl, ?_⟩) (by assumption) ?_
        rotate_left
        · intro w hSw; (try dsimp only at hSw); go_simp; try with_reducible rfl
        (try simp only [Act.put, List.setIfInBounds_toArray, List.set_cons_zero, List.set_cons_succ])
        refine wpAnyH_take (i := 23) (oi := { dst := some 188, op := Op.move (Operand.tmp 187), type := 4, pos := "outright.go:146", after := #[{ on := 22, ground := Ground.data }, { on := 17, ground := Ground.chain }], guard := none }) (v := ?_) rfl (by kernel_rfl) (by kernel_rfl) (by kernel_rfl) (fun _ _ _ h => h) (Or.inl ⟨by rfl, ?_⟩) (by assumption) ?_
        rotate_left
        · intro w hSw; (try dsimp only at hSw); go_simp; try with_reducible rfl
        (try simp only [Act.put, List.setIfInBounds_toArray, List.set_cons_zero, List.set_cons_succ])
        refine wpAnyH_take (i := 24) (oi := { dst := some 189, op := Op.move (Operand.tmp 8), type := 64, pos := "outright.go:146", after := #[{ on := 23, ground := Ground.guard }], guard := some (23, true) }) (v := ?_) rfl (by kernel_rfl) (by kernel_rfl) (by kernel_rfl) (fun _ _ _ h => h) (Or.inl ⟨by rfl, ?_⟩) (by assumption) ?_
        rotate_left
        · intro w hSw; (try dsimp only at hSw); go_simp; try with_reducible rfl
        (try simp only [Act.put, List.setIfInBounds_toArray, List.set_cons_zero, List.set_cons_succ])
        refine wpAnyH_take (i := 25) (oi := { dst := some 190, op := Op.nilCheck (Operand.tmp 189), type := 0, pos := "outright.go:146", after := #[{ on := 24, ground := Ground.data }, { on := 23, ground := Ground.guard }], guard := some (23, true) }) (v := ?_) rfl (by kernel_rfl) (by kernel_rfl) (by kernel_rfl) (fun _ _ _ h => h) (Or.inl ⟨by rfl, ?_⟩) (by assumption) ?_
        rotate_left
        · intro w hSw; (try dsimp only at hSw); go_simp; try with_reducible rfl
        (try simp only [Act.put, List.setIfInBounds_toArray, List.set_cons_zero, List.set_cons_succ])
        refine wpAnyH_take (i := 26) (oi := { dst := some 191, op := Op.fieldAddr 79 (Operand.tmp 190) 2, type := 0, pos := "outright.go:146", after := #[{ on := 25, ground := Ground.data }, { on := 23, ground := Ground.guard }], guard := some (23, true) }) (v := ?_) rfl (by kernel_rfl) (by kernel_rfl) (by kernel_rfl) (fun _ _ _ h => h) (Or.inl ⟨by rfl, ?_⟩) (by assumption) ?_
        rotate_left
        · intro w hSw; (try dsimp only at hSw); go_simp; try with_reducible rfl
        (try simp only [Act.put, List.setIfInBounds_toArray, List.set_cons_zero, List.set_cons_succ])
        refine wpAnyH_take (i := 27) (oi := { dst := some 192, op := Op.load 67 (Operand.tmp 191), type := 67, pos := "outright.go:146", after := #[{ on := 26, ground := Ground.data }, { on := 23, ground := Ground.guard }], guard := some (23, true) }) (v := ?_) rfl (by kernel_rfl) (by kernel_rfl) (by kernel_rfl) (fun _ _ _ h => h) (Or.inl ⟨by rfl, ?_⟩) (by assumption) ?_
        rotate_left
        · intro w hSw; (try dsimp only at hSw); go_simp; try with_reducible rfl
        (try simp only [Act.put, List.setIfInBounds_toArray, List.set_cons_zero, List.set_cons_succ])
        refine wpAnyH_take (i := 28) (oi := { dst := some 193, op := Op.move (Operand.tmp 9), type := 3, pos := "outright.go:146", after := #[{ on := 23, ground := Ground.guard }], guard := some (23, true) }) (v := ?_) rfl (by kernel_rfl) (by kernel_rfl) (by kernel_rfl) (fun _ _ _ h => h) (Or.inl ⟨by rfl, ?_⟩) (by assumption) ?_
        rotate_left
        · intro w hSw; (try dsimp only at hSw); go_simp; try with_reducible rfl
        (try simp only [Act.put, List.setIfInBounds_toArray, List.set_cons_zero, List.set_cons_succ])
        refine wpAnyH_ready (rs := [29]) (by kernel_rfl) (by simp) ?_
        refine AllReadyH.cons rfl (fun K hK => ?_) AllReadyH.nil
        go_simp
        go_at_call 61
        with_reducible refine HH25.out.mono ?_
        rintro e w25' ⟨rfl, rfl⟩
        go_wp2_with fail
        refine hK.out _ _ (⟨hS25, c25⟩) (fun hHeld => ?_)
        clear hK K
        (try dsimp only [Act.put]); (try simp only [Act.put, List.setIfInBounds_toArray, List.set_cons_zero, List.set_cons_succ])
        refine wpAnyH_take (i := 30) (oi := { dst := some 195, op := Op.unOp UnOp.not 4 (Operand.tmp 194), type := 4, pos := "outright.go:146", after := #[{ on := 29, ground := Ground.data }, { on := 23, ground := Ground.guard }], guard := some (23, true) }) (v := ?_) rfl (by kernel_rfl) (by kernel_rfl) (by kernel_rfl) (fun _ _ _ h => h) (Or.inl ⟨by rfl, ?_⟩) (by assumption) ?_
        rotate_left
        · intro w hSw; (try dsimp only at hSw); go_simp; try with_reducible rfl
        (try simp only [Act.put, List.setIfInBounds_toArray, List.set_cons_zero, List.set_cons_succ])
        refine wpAnyH_take (i := 31) (oi := { dst := some 196, op := Op.pick (Operand.tmp 188) (Operand.tmp 195) (Operand.const (Value.bool false)), type := 4, pos := "outright.go:146", after := #[{ on := 23, ground := Ground.data }, { on := 30, ground := Ground.data }], guard := none }) (v := ?_) rfl (by kernel_rfl) (by kernel_rfl) (by kernel_rfl) (fun _ _ _ h => h) (Or.inl ⟨by rfl, ?_⟩) (by assumption) ?_
        rotate_left
        · intro w hSw; (try dsimp only at hSw); go_simp; try with_reducible rfl
        (try simp only [Act.put, List.setIfInBounds_toArray, List.set_cons_zero, List.set_cons_succ])
        refine wpAnyH_take (i := 32) (oi := { dst := some 197, op := Op.move (Operand.tmp 196), type := 4, pos := "outright.go:146", after := #[{ on := 31, ground := Ground.data }, { on := 29, ground := Ground.chain }], guard := none }) (v := ?_) rfl (by kernel_rfl) (by kernel_rfl) (by kernel_rfl) (fun _ _ _ h => h) (Or.inl ⟨by rfl, ?_⟩) (by assumption) ?_
        rotate_left
        · intro w hSw; (try dsimp only at hSw); go_simp; try with_reducible rfl
        (try simp only [Act.put, List.setIfInBounds_toArray, List.set_cons_zero, List.set_cons_succ])
        refine wpAnyH_take (i := 33) (oi := { dst := some 198, op := Op.move (Operand.tmp 8), type := 64, pos := "outright.go:146", after := #[{ on := 32, ground := Ground.guard }], guard := some (32, true) }) (v := ?_) rfl (by kernel_rfl) (by kernel_rfl) (by kernel_rfl) (fun _ _ _ h => h) (Or.inl ⟨by rfl, ?_⟩) (by assumption) ?_
        rotate_left
        · intro w hSw; (try dsimp only at hSw); go_simp; try with_reducible rfl
        (try simp only [Act.put, List.setIfInBounds_toArray, List.set_cons_zero, List.set_cons_succ])
        refine wpAnyH_take (i := 34) (oi := { dst := some 199, op := Op.nilCheck (Operand.tmp 198), type := 0, pos := "outright.go:146", after := #[{ on := 33, ground := Ground.data }, { on := 32, ground := Ground.guard }], guard := some (32, true) }) (v := ?_) rfl (by kernel_rfl) (by kernel_rfl) (by kernel_rfl) (fun _ _ _ h => h) (Or.inl ⟨by rfl, ?_⟩) (by assumption) ?_
        rotate_left
        · intro w hSw; (try dsimp only at hSw); go_simp; try with_reducible rfl
        (try simp only [Act.put, List.setIfInBounds_toArray, List.set_cons_zero, List.set_cons_succ])
        refine wpAnyH_take (i := 35) (oi := { dst := some 200, op := Op.fieldAddr 79 (Operand.tmp 199) 1, type := 0, pos := "outright.go:146", after := #[{ on := 34, ground := Ground.data }, { on := 32, ground := Ground.guard }], guard := some (32, true) }) (v := ?_) rfl (by kernel_rfl) (by kernel_rfl) (by kernel_rfl) (fun _ _ _ h => h) (Or.inl ⟨by rfl, ?_⟩) (by assumption) ?_
        rotate_left
        · intro w hSw; (try dsimp only at hSw); go_simp; try with_reducible rfl
        (try simp only [Act.put, List.setIfInBounds_toArray, List.set_cons_zero, List.set_cons_succ])
        refine wpAnyH_take (i := 36) (oi := { dst := some 201, op := Op.load 26 (Operand.tmp 200), type := 26, pos := "outright.go:146", after := #[{ on := 35, ground := Ground.data }, { on := 32, ground := Ground.guard }], guard := some (32, true) }) (v := ?_) rfl (by kernel_rfl) (by kernel_rfl) (by kernel_rfl) (fun _ _ _ h => h) (Or.inl ⟨by rfl, ?_⟩) (by assumption) ?_
        rotate_left
        · intro w hSw; (try dsimp only at hSw); go_simp; try with_reducible rfl
        (try simp only [Act.put, List.setIfInBounds_toArray, List.set_cons_zero, List.set_cons_succ])
        refine wpAnyH_take (i := 38) (oi := { dst := some 203, op := Op.move (Operand.tmp 8), type := 64, pos := "outright.go:146", after := #[{ on := 32, ground := Ground.guard }], guard := some (32, true) }) (v := ?_) rfl (by kernel_rfl) (by kernel_rfl) (by kernel_rfl) (fun _ _ _ h => h) (Or.inl ⟨by rfl, ?_⟩) (by assumption) ?_
        rotate_left
        · intro w hSw; (try dsimp only at hSw); go_simp; try with_reducible rfl
        (try simp only [Act.put, List.setIfInBounds_toArray, List.set_cons_zero, List.set_cons_succ])
        refine wpAnyH_take (i := 39) (oi := { dst := some 204, op := Op.nilCheck (Operand.tmp 203), type := 0, pos := "outright.go:146", after := #[{ on := 38, ground := Ground.data }, { on := 32, ground := Ground.guard }], guard := some (32, true) }) (v := ?_) rfl (by kernel_rfl) (by kernel_rfl) (by kernel_rfl) (fun _ _ _ h => h) (Or.inl ⟨by rfl, ?_⟩) (by assumption) ?_
        rotate_left
        · intro w hSw; (try dsimp only at hSw); go_simp; try with_reducible rfl
        (try simp only [Act.put, List.setIfInBounds_toArray, List.set_cons_zero, List.set_cons_succ])
        refine wpAnyH_take (i := 40) (oi := { dst := some 205, op := Op.fieldAddr 79 (Operand.tmp 204) 0, type := 0, pos := "outright.go:146", after := #[{ on := 39, ground := Ground.data }, { on := 32, ground := Ground.guard }], guard := some (32, true) }) (v := ?_) rfl (by kernel_rfl) (by kernel_rfl) (by kernel_rfl) (fun _ _ _ h => h) (Or.inl ⟨by rfl, ?_⟩) (by assumption) ?_
        rotate_left
        · intro w hSw; (try dsimp only at hSw); go_simp; try with_reducible rfl
        (try simp only [Act.put, List.setIfInBounds_toArray, List.set_cons_zero, List.set_cons_succ])
        refine wpAnyH_take (i := 41) (oi := { dst := some 206, op := Op.load 24 (Operand.tmp 205), type := 24, pos := "outright.go:146", after := #[{ on := 40, ground := Ground.data }, { on := 32, ground := Ground.guard }], guard := some (32, true) }) (v := ?_) rfl (by kernel_rfl) (by kernel_rfl) (by kernel_rfl) (fun _ _ _ h => h) (Or.inl ⟨by rfl, ?_⟩) (by assumption) ?_
        rotate_left
        · intro w hSw; (try dsimp only at hSw); go_simp; try with_reducible rfl
        (try simp only [Act.put, List.setIfInBounds_toArray, List.set_cons_zero, List.set_cons_succ])
        refine wpAnyH_take (i := 42) (oi := { dst := some 207, op := Op.move (Operand.tmp 9), type := 3, pos := "outright.go:146", after := #[{ on := 32, ground := Ground.guard }], guard := some (32, true) }) (v := ?_) rfl (by kernel_rfl) (by kernel_rfl) (by kernel_rfl) (fun _ _ _ h => h) (Or.inl ⟨by rfl, ?_⟩) (by assumption) ?_
        rotate_left
        · intro w hSw; (try dsimp only at hSw); go_simp; try with_reducible rfl
        (try simp only [Act.put, List.setIfInBounds_toArray, List.set_cons_zero, List.set_cons_succ])
        refine wpAnyH_take (i := 43) (oi := { dst := some 208, op := Op.binOp BinOp.sub 3 (Operand.const (Value.int IntKind.i64 1)) (Operand.tmp 207) 3, type := 3, pos := "outright.go:146", after := #[{ on := 42, ground := Ground.data }, { on := 32, ground := Ground.guard }], guard := some (32, true) }) (v := ?_) rfl (by kernel_rfl) (by kernel_rfl) (by kernel_rfl) (fun _ _ _ h => h) (Or.inl ⟨by rfl, ?_⟩) (by assumption) ?_
        rotate_left
        · intro w hSw; (try dsimp only at hSw); go_simp; try with_reducible rfl
        (try simp only [Act.put, List.setIfInBounds_toArray, List.set_cons_zero, List.set_cons_succ])
        refine wpAnyH_ready (rs := [37]) (by kernel_rfl) (by simp) ?_
        refine AllReadyH.cons rfl (fun K hK => ?_) AllReadyH.nil
        go_simp
        go_at_call 17
        with_reducible refine HA25.out.mono ?_
        rintro e w26 ⟨br, cr, rfl, c26, l26, h26, b26⟩
        have HB26 := Lib.hid (HB25.out.trans (b26.mono HB25.out.size))
        have HS26 := Lib.hid h26
        have hS26 := h26.c5
        have c26' := (b26.cell (p := ⟨bq, A, none⟩) l25).trans c25
        have l26q : bq < w26.heap.size := Nat.lt_of_lt_of_le l25 b26.size
        clear h26 b26 HA25
        go_wp2_with fail
        refine hK.out _ _ (⟨hS26, c26'⟩) (fun hHeld => ?_)
        clear hK K
        (try dsimp only [Act.put]); (try simp only [Act.put, List.setIfInBounds_toArray, List.set_cons_zero, List.set_cons_succ])
        refine wpAnyH_moreP (S' := (fun V : World => (((V.cell? ⟨g.G, 0, none⟩ = some (.int .i64 (m.t : Int)) ∧ V.cell? ⟨g.G, 1, none⟩ = some (.int .i64 (m.o : Int)) ∧ V.cell? ⟨g.G, 2, none⟩ = some (.int .i64 (m.n : Int))) ∧ V.cell? ⟨g.G, 3, none⟩ = some (cellsV g.C) ∧ V.cell? ⟨g.G, 4, none⟩ = some (permitsV g.P)) ∧ V.cell? ⟨bq, A, none⟩ = some (.int .u64 0)) ∧ V.cell? ⟨br, A', none⟩ = some (.int .u64 1))) (fun _ h => h.1) _ _ _ _ ?_
        replace hHeld : (fun V : World => (((V.cell? ⟨g.G, 0, none⟩ = some (.int .i64 (m.t : Int)) ∧ V.cell? ⟨g.G, 1, none⟩ = some (.int .i64 (m.o : Int)) ∧ V.cell? ⟨g.G, 2, none⟩ = some (.int .i64 (m.n : Int))) ∧ V.cell? ⟨g.G, 3, none⟩ = some (cellsV g.C) ∧ V.cell? ⟨g.G, 4, none⟩ = some (permitsV g.P)) ∧ V.cell? ⟨bq, A, none⟩ = some (.int .u64 0)) ∧ V.cell? ⟨br, A', none⟩ = some (.int .u64 1)) w26 := ⟨⟨hS26, c26'⟩, c26⟩
        refine wpAnyH_ready (rs := [44]) (by kernel_rfl) (by simp) ?_
        refine AllReadyH.cons rfl (fun K hK => ?_) AllReadyH.nil
        go_simp
        go_at_call 54
        with_reducible refine (HSW.out _).mono ?_
        rintro e w27 ⟨rfl, b27⟩
        have c27 := (b27.cell (p := ⟨br, A', none⟩) l26).trans c26
        have c27' := (b27.cell (p := ⟨bq, A, none⟩) l26q).trans c26'
        have HB27 := Lib.hid (HB26.out.trans (b27.mono HB26.out.size))
        have hS27 := (HS26.out.below b27).c5
        go_wp2_with fail
        refine hK.out _ _ (⟨⟨hS27, c27'⟩, c27⟩) (fun hHeld => ?_)
        clear hK K
        (try dsimp only [Act.put]); (try simp only [Act.put, List.setIfInBounds_toArray, List.set_cons_zero, List.set_cons_succ])
        refine wpAnyH_take (i := 45) (oi := { dst := some 210, op := Op.indexAddr 38 (Operand.tmp 202) (Operand.tmp 209), type := 0, pos := "outright.go:146", after := #[{ on := 37, ground := Ground.data }, { on := 44, ground := Ground.data }, { on := 32, ground := Ground.guard }], guard := some (32, true) }) (v := ?_) rfl (by kernel_rfl) (by kernel_rfl) (by kernel_rfl) (fun _ _ _ h => h) (Or.inl ⟨by rfl, ?_⟩) (by assumption) ?_
        rotate_left
        · intro w hSw; (try dsimp only at hSw); go_simp; try with_reducible rfl
        (try simp only [Act.put, List.setIfInBounds_toArray, List.set_cons_zero, List.set_cons_succ])
        refine wpAnyH_take (i := 46) (oi := { dst := some 211, op := Op.load 47 (Operand.tmp 210), type := 47, pos := "outright.go:146", after := #[{ on := 45, ground := Ground.data }, { on := 32, ground := Ground.guard }], guard := some (32, true) }) (v := ?_) rfl (by kernel_rfl) (by kernel_rfl) (by kernel_rfl) (fun _ _ _ h => h) (Or.inl ⟨by rfl, ?_⟩) (by assumption) ?_
        rotate_left
        · intro w hSw; (try dsimp only at hSw); go_simp; try with_reducible rfl
        (try simp only [Act.put, List.setIfInBounds_toArray, List.set_cons_zero, List.set_cons_succ])
        refine wpAnyH_take (i := 47) (oi := { dst := some 212, op := Op.binOp BinOp.eql 47 (Operand.tmp 211) (Operand.const (Value.int IntKind.u64 1)) 47, type := 4, pos := "outright.go:146", after := #[{ on := 46, ground := Ground.data }, { on := 32, ground := Ground.guard }], guard := some (32, true) }) (v := ?_) rfl (by kernel_rfl) (by kernel_rfl) (by kernel_rfl) (fun _ _ _ h => h) (Or.inl ⟨by rfl, ?_⟩) (by assumption) ?_
        rotate_left
        · intro w hSw; (try dsimp only at hSw); go_simp; try with_reducible rfl
        (try simp only [Act.put, List.setIfInBounds_toArray, List.set_cons_zero, List.set_cons_succ])
        refine wpAnyH_take (i := 48) (oi := { dst := some 213, op := Op.pick (Operand.tmp 197) (Operand.tmp 212) (Operand.const (Value.bool false)), type := 4, pos := "outright.go:146", after := #[{ on := 32, ground := Ground.data }, { on := 47, ground := Ground.data }], guard := none }) (v := ?_) rfl (by kernel_rfl) (by kernel_rfl) (by kernel_rfl) (fun _ _ _ h => h) (Or.inl ⟨by rfl, ?_⟩) (by assumption) ?_
        rotate_left
        · intro w hSw; (try dsimp only at hSw); go_simp; try with_reducible rfl
        (try simp only [Act.put, List.setIfInBounds_toArray, List.set_cons_zero, List.set_cons_succ])
        refine wpAnyH_ready (rs := [49]) (by kernel_rfl) (by simp) ?_
        refine AllReadyH.cons rfl (fun K hK => ?_) AllReadyH.nil
        go_simp
        go_wp2_with fail
        refine hK.out _ _ (by assumption) (fun hHeld => ?_)
        clear hK K
        (try dsimp only [Act.put]); (try simp only [Act.put, List.setIfInBounds_toArray, List.set_cons_zero, List.set_cons_succ])
        refine wpAnyH_done (by kernel_rfl) ?_ _
        go_wp2
        go_ret
        exact ⟨rfl, HB27.out⟩
  · go_upto_region 17 with fail
    have HPk0 := SL.park1 u true false 1 HS15.out HB15.out.size HFu.out (by simp [endsS])
    rw [if_neg (by decide)] at HPk0
    have HPk := Lib.hid HPk0
    have HFp := Lib.hid HFu.out
    have HB16 := Lib.hid HB15.out
    generalize ([false, false] : List Bool) = lp at *
    clear HPk0 d0 d1 d2 d3 d4 HS15 HB15 HGiv HFu HFu1 HFu2
    have hkq : ∃ kq : Int, kq = 6 + 1 + 1 + 1 := ⟨_, rfl⟩
    obtain ⟨kq, hkq⟩ := hkq
    have HPk1 := HPk.out
    rw [← hkq] at HPk1
    have HPk2 := Lib.hid HPk1
    have HKq := Lib.hid (show 0 ≤ kq ∧ kq ≤ 100 by omega)
    clear hkq HPk HPk1
    go_upto_region 19 with (first
      | (go_at_call 37; (with_reducible refine HPk2.out.mono ?_); rintro e w17 ⟨rfl, h17, b17⟩; have HS17 := Lib.hid h17; have HB17 := Lib.hid (HB16.out.trans b17); have HD17 := Lib.hid (SL.wake_done u 1 h17); have HP17 := Lib.hid (SL.wake_parked u 1 h17); clear h17 b17)
      | (go_at_call 38; (with_reducible refine HD17.out.mono ?_); rintro e w18 ⟨rfl, rfl⟩)
      | (go_at_call 57; (with_reducible refine HP17.out.mono ?_); rintro e w18 ⟨rfl, rfl⟩))
    clear HD17 HP17 HPk2 HB16
    go_wp2_with fail
    go_loopw [14] (fun v14 wr => ∃ i : Nat, i ≤ hh ∧ v14 = .int .i64 (i : Int) ∧ SL g m w.heap.size wr ⟨M.set A 2, kq + i, lp, []⟩ t2 (itE (wakeT m u 1)) ∧ Below w.heap.size w wr) (fun v14 _ => hh - (intOf v14).toNat)
    case atStart => exact ⟨0, by omega, rfl, by simpa using HS17.out, HB17.out⟩
    case round =>
      obtain ⟨i, hi, rfl, hs, hbl⟩ := hrel
      have HS := Lib.hid hs
      have HB := Lib.hid hbl
      obtain ⟨⟨d0, d1, d2⟩, d3, d4⟩ := hs.c5
      clear hs hbl HS17 HB17
      by_cases hih : i < hh
      · have hihI : (i : Int) < (hh : Int) := by omega
        have HSt := Lib.hid (SL.wake_no (u : Int) 1 (c := 2) HS.out HB.out.size (by rw [← HAeq.out.1]; exact List.getElem?_set_self (by rw [HL.out]; exact hAL)) (by decide) (by have := HKq.out; omega))
        clear d0 d1 d2 d3 d4
        go_wp2_with (first
          | (go_at_call 37; (with_reducible refine HSt.out.mono ?_); rintro e w20 ⟨rfl, h20, b20⟩; have HS20 := Lib.hid h20; have HB20 := Lib.hid (HB.out.trans b20); have HD20 := Lib.hid (SL.wake_done u 1 h20); have HA20 := Lib.hid (h20.all1 (L := L) (A := A) (c := 2) (by simp [HL.out]) (List.getElem?_set_self (by rw [HL.out]; exact hAL))); obtain ⟨⟨d0, d1, d2⟩, d3, d4⟩ := h20.c5; clear h20 b20)
          | (go_at_call 38; (with_reducible refine HD20.out.mono ?_); rintro e w21 ⟨rfl, rfl⟩)
          | (go_at_call 17; (with_reducible refine HA20.out.mono ?_); rintro e w22 ⟨bq, cq, rfl, c22, l22, h22, b22⟩))
        go_roundw
        case rel => exact ⟨i + 1, by omega, by go_num, by have := h22; rw [show kq + ((i + 1 : Nat) : Int) = kq + (i : Int) + 1 by omega]; exact this, HB20.out.trans (b22.mono HB20.out.size)⟩
        case measure => simp [intOf]; omega
      · have hihI : ¬ (i : Int) < (hh : Int) := by omega
        have HSto0 := HS.out.store A 2 1 HB.out.size (List.getElem?_set_self (by rw [HL.out]; exact hAL)) (by have := HKq.out; show 0 ≤ kq + (i : Int) ∧ kq + (i : Int) ≤ 2000000; omega)
        rw [List.set_set] at HSto0
        have HSto := Lib.hid HSto0
        clear HSto0
        go_upto_region 25 with (go_at_call 59; (with_reducible refine HSto.out.mono ?_); rintro e w23 ⟨rfl, h23, b23⟩)
        have HS23 := Lib.hid h23
        have HB23 := Lib.hid (HB.out.trans b23)
        have hS23' := (h23.below (bdrewP w23)).c5
        have HSt0 := SL.wake_yes (u : Int) 1 (h23.below (bdrewP w23)) HB23.out.size (by rw [← HAeq.out.1]; exact List.getElem?_set_self (by rw [HL.out]; exact hAL)) (by have := HKq.out; show 0 ≤ kq + (i : Int) + 1 ∧ kq + (i : Int) + 1 ≤ 2000000; omega)
        rw [← HAeq.out.1, List.set_set] at HSt0
        have HSt := Lib.hid HSt0
        have hS23 := h23.c5
        clear HSt0 d0 d1 d2 d3 d4 h23 b23 HSto HS HB
        refine wp_region_held_drew (S := (fun V : World => ((V.cell? ⟨g.G, 0, none⟩ = some (.int .i64 (m.t : Int)) ∧ V.cell? ⟨g.G, 1, none⟩ = some (.int .i64 (m.o : Int)) ∧ V.cell? ⟨g.G, 2, none⟩ = some (.int .i64 (m.n : Int))) ∧ V.cell? ⟨g.G, 3, none⟩ = some (cellsV g.C) ∧ V.cell? ⟨g.G, 4, none⟩ = some (permitsV g.P)))) (by kernel_rfl) (hS23') (fun hHeld => ?_)
        refine wpAnyH_take (i := 0) (oi := { dst := some 165, op := Op.move (Operand.tmp 13), type := 40, pos := "outright.go:146", after := #[], guard := none }) (v := ?_) rfl (by kernel_rfl) (by kernel_rfl) (by kernel_rfl) (fun _ _ _ h => h) (Or.inl ⟨by rfl, ?_⟩) (by assumption) ?_
        rotate_left
        · intro w hSw; (try dsimp only at hSw); go_simp; try with_reducible rfl
        (try simp only [Act.put, List.setIfInBounds_toArray, List.set_cons_zero, List.set_cons_succ])
        refine wpAnyH_ready (rs := [1]) (by kernel_rfl) (by simp) ?_
        refine AllReadyH.cons rfl (fun K hK => ?_) AllReadyH.nil
        go_simp
        go_at_call 37
        with_reducible refine HSt.out.mono ?_
        rintro e w24 ⟨rfl, h24, b24⟩
        have HB24 := Lib.hid ((HB23.out.trans ((bdrewP w23).mono HB23.out.size)).trans b24)
        have HD24 := Lib.hid h24.done_ret
        have HV24 := Lib.hid h24.value
        have HA24 := Lib.hid (h24.all1 (L := L) (A := A) (c := 0) (by simp [HL.out]) (List.getElem?_set_self (by rw [HL.out]; exact hAL)))
        have hS24 := h24.c5
        clear h24 b24
        go_wp2_with fail
        refine hK.out _ _ (hS24) (fun hHeld => ?_)
        clear hK K
        (try dsimp only [Act.put]); (try simp only [Act.put, List.setIfInBounds_toArray, List.set_cons_zero, List.set_cons_succ])
        refine wpAnyH_take (i := 2) (oi := { dst := some 167, op := Op.move (Operand.tmp 166), type := 4, pos := "outright.go:146", after := #[{ on := 1, ground := Ground.data }, { on := 1, ground := Ground.chain }], guard := none }) (v := ?_) rfl (by kernel_rfl) (by kernel_rfl) (by kernel_rfl) (fun _ _ _ h => h) (Or.inl ⟨by rfl, ?_⟩) (by assumption) ?_
        rotate_left
        · intro w hSw; (try dsimp only at hSw); go_simp; try with_reducible rfl
        (try simp only [Act.put, List.setIfInBounds_toArray, List.set_cons_zero, List.set_cons_succ])
        refine wpAnyH_take (i := 3) (oi := { dst := some 168, op := Op.move (Operand.tmp 13), type := 40, pos := "outright.go:146", after := #[{ on := 2, ground := Ground.guard }], guard := some (2, true) }) (v := ?_) rfl (by kernel_rfl) (by kernel_rfl) (by kernel_rfl) (fun _ _ _ h => h) (Or.inl ⟨by rfl, ?_⟩) (by assumption) ?_
        rotate_left
        · intro w hSw; (try dsimp only at hSw); go_simp; try with_reducible rfl
        (try simp only [Act.put, List.setIfInBounds_toArray, List.set_cons_zero, List.set_cons_succ])
        refine wpAnyH_ready (rs := [4]) (by kernel_rfl) (by simp) ?_
        refine AllReadyH.cons rfl (fun K hK => ?_) AllReadyH.nil
        go_simp
        go_at_call 38
        with_reducible refine HD24.out.mono ?_
        rintro e w24' ⟨rfl, rfl⟩
        go_wp2_with fail
        refine hK.out _ _ (hS24) (fun hHeld => ?_)
        clear hK K
        (try dsimp only [Act.put]); (try simp only [Act.put, List.setIfInBounds_toArray, List.set_cons_zero, List.set_cons_succ])
        refine wpAnyH_take (i := 5) (oi := { dst := some 170, op := Op.pick (Operand.tmp 167) (Operand.tmp 169) (Operand.const (Value.bool false)), type := 4, pos := "outright.go:146", after := #[{ on := 2, ground := Ground.data }, { on := 4, ground := Ground.data }], guard := none }) (v := ?_) rfl (by kernel_rfl) (by kernel_rfl) (by kernel_rfl) (fun _ _ _ h => h) (Or.inl ⟨by rfl, ?_⟩) (by assumption) ?_
        rotate_left
        · intro w hSw; (try dsimp only at hSw); go_simp; try with_reducible rfl
        (try simp only [Act.put, List.setIfInBounds_toArray, List.set_cons_zero, List.set_cons_succ])
        refine wpAnyH_take (i := 6) (oi := { dst := some 171, op := Op.move (Operand.tmp 170), type := 4, pos := "outright.go:146", after := #[{ on := 5, ground := Ground.data }, { on := 4, ground := Ground.chain }], guard := none }) (v := ?_) rfl (by kernel_rfl) (by kernel_rfl) (by kernel_rfl) (fun _ _ _ h => h) (Or.inl ⟨by rfl, ?_⟩) (by assumption) ?_
        rotate_left
        · intro w hSw; (try dsimp only at hSw); go_simp; try with_reducible rfl
        (try simp only [Act.put, List.setIfInBounds_toArray, List.set_cons_zero, List.set_cons_succ])
        refine wpAnyH_take (i := 7) (oi := { dst := some 172, op := Op.move (Operand.tmp 13), type := 40, pos := "outright.go:146", after := #[{ on := 6, ground := Ground.guard }], guard := some (6, true) }) (v := ?_) rfl (by kernel_rfl) (by kernel_rfl) (by kernel_rfl) (fun _ _ _ h => h) (Or.inl ⟨by rfl, ?_⟩) (by assumption) ?_
        rotate_left
        · intro w hSw; (try dsimp only at hSw); go_simp; try with_reducible rfl
        (try simp only [Act.put, List.setIfInBounds_toArray, List.set_cons_zero, List.set_cons_succ])
        refine wpAnyH_take (i := 9) (oi := { dst := some 174, op := Op.move (Operand.tmp 10), type := 3, pos := "outright.go:146", after := #[{ on := 6, ground := Ground.guard }], guard := some (6, true) }) (v := ?_) rfl (by kernel_rfl) (by kernel_rfl) (by kernel_rfl) (fun _ _ _ h => h) (Or.inl ⟨by rfl, ?_⟩) (by assumption) ?_
        rotate_left
        · intro w hSw; (try dsimp only at hSw); go_simp; try with_reducible rfl
        (try simp only [Act.put, List.setIfInBounds_toArray, List.set_cons_zero, List.set_cons_succ])
        refine wpAnyH_ready (rs := [8]) (by kernel_rfl) (by simp) ?_
        refine AllReadyH.cons rfl (fun K hK => ?_) AllReadyH.nil
        go_simp
        go_at_call 27
        with_reducible refine HV24.out.mono ?_
        rintro e w24' ⟨rfl, rfl⟩
        go_wp2_with fail
        refine hK.out _ _ (hS24) (fun hHeld => ?_)
        clear hK K
        (try dsimp only [Act.put]); (try simp only [Act.put, List.setIfInBounds_toArray, List.set_cons_zero, List.set_cons_succ])
        refine wpAnyH_take (i := 10) (oi := { dst := some 175, op := Op.binOp BinOp.eql 3 (Operand.tmp 173) (Operand.tmp 174) 3, type := 4, pos := "outright.go:146", after := #[{ on := 8, ground := Ground.data }, { on := 9, ground := Ground.data }, { on := 6, ground := Ground.guard }], guard := some (6, true) }) (v := ?_) rfl (by kernel_rfl) (by kernel_rfl) (by kernel_rfl) (fun _ _ _ h => h) (Or.inl ⟨by rfl, ?_⟩) (by assumption) ?_
        rotate_left
        · intro w hSw; (try dsimp only at hSw); go_simp; try with_reducible rfl
        (try simp only [Act.put, List.setIfInBounds_toArray, List.set_cons_zero, List.set_cons_succ])
        refine wpAnyH_take (i := 11) (oi := { dst := some 176, op := Op.pick (Operand.tmp 171) (Operand.tmp 175) (Operand.const (Value.bool false)), type := 4, pos := "outright.go:146", after := #[{ on := 6, ground := Ground.data }, { on := 10, ground := Ground.data }], guard := none }) (v := ?_) rfl (by kernel_rfl) (by kernel_rfl) (by kernel_rfl) (fun _ _ _ h => h) (Or.inl ⟨by rfl, ?_⟩) (by assumption) ?_
        rotate_left
        · intro w hSw; (try dsimp only at hSw); go_simp; try with_reducible rfl
        (try simp only [Act.put, List.setIfInBounds_toArray, List.set_cons_zero, List.set_cons_succ])
        refine wpAnyH_take (i := 12) (oi := { dst := some 177, op := Op.move (Operand.tmp 176), type := 4, pos := "outright.go:146", after := #[{ on := 11, ground := Ground.data }, { on := 8, ground := Ground.chain }], guard := none }) (v := ?_) rfl (by kernel_rfl) (by kernel_rfl) (by kernel_rfl) (fun _ _ _ h => h) (Or.inl ⟨by rfl, ?_⟩) (by assumption) ?_
        rotate_left
        · intro w hSw; (try dsimp only at hSw); go_simp; try with_reducible rfl
        (try simp only [Act.put, List.setIfInBounds_toArray, List.set_cons_zero, List.set_cons_succ])
        refine wpAnyH_take (i := 13) (oi := { dst := some 178, op := Op.move (Operand.tmp 8), type := 64, pos := "outright.go:146", after := #[{ on := 12, ground := Ground.guard }], guard := some (12, true) }) (v := ?_) rfl (by kernel_rfl) (by kernel_rfl) (by kernel_rfl) (fun _ _ _ h => h) (Or.inl ⟨by rfl, ?_⟩) (by assumption) ?_
        rotate_left
        · intro w hSw; (try dsimp only at hSw); go_simp; try with_reducible rfl
        (try simp only [Act.put, List.setIfInBounds_toArray, List.set_cons_zero, List.set_cons_succ])
        refine wpAnyH_take (i := 14) (oi := { dst := some 179, op := Op.nilCheck (Operand.tmp 178), type := 0, pos := "outright.go:146", after := #[{ on := 13, ground := Ground.data }, { on := 12, ground := Ground.guard }], guard := some (12, true) }) (v := ?_) rfl (by kernel_rfl) (by kernel_rfl) (by kernel_rfl) (fun _ _ _ h => h) (Or.inl ⟨by rfl, ?_⟩) (by assumption) ?_
        rotate_left
        · intro w hSw; (try dsimp only at hSw); go_simp; try with_reducible rfl
        (try simp only [Act.put, List.setIfInBounds_toArray, List.set_cons_zero, List.set_cons_succ])
        refine wpAnyH_take (i := 15) (oi := { dst := some 180, op := Op.fieldAddr 79 (Operand.tmp 179) 1, type := 0, pos := "outright.go:146", after := #[{ on := 14, ground := Ground.data }, { on := 12, ground := Ground.guard }], guard := some (12, true) }) (v := ?_) rfl (by kernel_rfl) (by kernel_rfl) (by kernel_rfl) (fun _ _ _ h => h) (Or.inl ⟨by rfl, ?_⟩) (by assumption) ?_
        rotate_left
        · intro w hSw; (try dsimp only at hSw); go_simp; try with_reducible rfl
        (try simp only [Act.put, List.setIfInBounds_toArray, List.set_cons_zero, List.set_cons_succ])
        refine wpAnyH_take (i := 16) (oi := { dst := some 181, op := Op.load 26 (Operand.tmp 180), type := 26, pos := "outright.go:146", after := #[{ on := 15, ground := Ground.data }, { on := 12, ground := Ground.guard }], guard := some (12, true) }) (v := ?_) rfl (by kernel_rfl) (by kernel_rfl) (by kernel_rfl) (fun _ _ _ h => h) (Or.inl ⟨by rfl, ?_⟩) (by assumption) ?_
        rotate_left
        · intro w hSw; (try dsimp only at hSw); go_simp; try with_reducible rfl
        (try simp only [Act.put, List.setIfInBounds_toArray, List.set_cons_zero, List.set_cons_succ])
        refine wpAnyH_take (i := 18) (oi := { dst := some 183, op := Op.move (Operand.tmp 11), type := 3, pos := "outright.go:146", after := #[{ on := 12, ground := Ground.guard }], guard := some (12, true) }) (v := ?_) rfl (by kernel_rfl) (by kernel_rfl) (by kernel_rfl) (fun _ _ _ h => h) (Or.inl ⟨by rfl, ?_⟩) (by assumption) ?_
        rotate_left
        · intro w hSw; (try dsimp only at hSw); go_simp; try with_reducible rfl
        (try simp only [Act.put, List.setIfInBounds_toArray, List.set_cons_zero, List.set_cons_succ])
        refine wpAnyH_ready (rs := [17]) (by kernel_rfl) (by simp) ?_
        refine AllReadyH.cons rfl (fun K hK => ?_) AllReadyH.nil
        go_simp
        go_at_call 17
        with_reducible refine HA24.out.mono ?_
        rintro e w25 ⟨bq, cq, rfl, c25, l25, h25, b25⟩
        have HB25 := Lib.hid (HB24.out.trans (b25.mono HB24.out.size))
        have HH25 := Lib.hid (h25.has u false HFp.out)
        have HA25 := Lib.hid (h25.all1 (L := L) (A := A') (c := 1) (by simp [HL.out]) (by rw [List.getElem?_set_ne HAV.out]; exact HV0.out))
        have hS25 := h25.c5
        clear h25 b25 HA24
        go_wp2_with fail
        refine hK.out _ _ (hS25) (fun hHeld => ?_)
        clear hK K
        (try dsimp only [Act.put]); (try simp only [Act.put, List.setIfInBounds_toArray, List.set_cons_zero, List.set_cons_succ])
        refine wpAnyH_moreP (S' := (fun V : World => ((V.cell? ⟨g.G, 0, none⟩ = some (.int .i64 (m.t : Int)) ∧ V.cell? ⟨g.G, 1, none⟩ = some (.int .i64 (m.o : Int)) ∧ V.cell? ⟨g.G, 2, none⟩ = some (.int .i64 (m.n : Int))) ∧ V.cell? ⟨g.G, 3, none⟩ = some (cellsV g.C) ∧ V.cell? ⟨g.G, 4, none⟩ = some (permitsV g.P)) ∧ V.cell? ⟨bq, A, none⟩ = some (.int .u64 0))) (fun _ h => h.1) _ _ _ _ ?_
        replace hHeld : (fun V : World => ((V.cell? ⟨g.G, 0, none⟩ = some (.int .i64 (m.t : Int)) ∧ V.cell? ⟨g.G, 1, none⟩ = some (.int .i64 (m.o : Int)) ∧ V.cell? ⟨g.G, 2, none⟩ = some (.int .i64 (m.n : Int))) ∧ V.cell? ⟨g.G, 3, none⟩ = some (cellsV g.C) ∧ V.cell? ⟨g.G, 4, none⟩ = some (permitsV g.P)) ∧ V.cell? ⟨bq, A, none⟩ = some (.int .u64 0)) w25 := ⟨hS25, c25⟩
        refine wpAnyH_take (i := 19) (oi := { dst := some 184, op := Op.indexAddr 38 (Operand.tmp 182) (Operand.tmp 183), type := 0, pos := "outright.go:146", after := #[{ on := 17, ground := Ground.data }, { on := 18, ground := Ground.data }, { on := 12, ground := Ground.guard }], guard := some (12, true) }) (v := ?_) rfl (by kernel_rfl) (by kernel_rfl) (by kernel_rfl) (fun _ _ _ h => h) (Or.inl ⟨by rfl, ?_⟩) (by assumption) ?_
        rotate_left
        · intro w hSw; (try dsimp only at hSw); go_simp; try with_reducible rfl
        (try simp only [Act.put, List.setIfInBounds_toArray, List.set_cons_zero, List.set_cons_succ])
        refine wpAnyH_take (i := 20) (oi := { dst := some 185, op := Op.load 47 (Operand.tmp 184), type := 47, pos := "outright.go:146", after := #[{ on := 19, ground := Ground.data }, { on := 12, ground := Ground.guard }], guard := some (12, true) }) (v := ?_) rfl (by kernel_rfl) (by kernel_rfl) (by kernel_rfl) (fun _ _ _ h => h) (Or.inl ⟨by rfl, ?_⟩) (by assumption) ?_
        rotate_left
        · intro w hSw; (try dsimp only at hSw); go_simp; try with_reducible rfl
        (try simp only [Act.put, List.setIfInBounds_toArray, List.set_cons_zero, List.set_cons_succ])
        refine wpAnyH_take (i := 21) (oi := { dst := some 186, op := Op.binOp BinOp.eql 47 (Operand.tmp 185) (Operand.const (Value.int IntKind.u64 0)) 47, type := 4, pos := "outright.go:146", after := #[{ on := 20, ground := Ground.data }, { on := 12, ground := Ground.guard }], guard := some (12, true) }) (v := ?_) rfl (by kernel_rfl) (by kernel_rfl) (by kernel_rfl) (fun _ _ _ h => h) (Or.inl ⟨by rfl, ?_⟩) (by assumption) ?_
        rotate_left
        · intro w hSw; (try dsimp only at hSw); go_simp; try with_reducible rfl
        (try simp only [Act.put, List.setIfInBounds_toArray, List.set_cons_zero, List.set_cons_succ])
        refine wpAnyH_take (i := 22) (oi := { dst := some 187, op := Op.pick (Operand.tmp 177) (Operand.tmp 186) (Operand.const (Value.bool false)), type := 4, pos := "outright.go:146", after := #[{ on := 12, ground := Ground.data }, { on := 21, ground := Ground.data }], guard := none }) (v := ?_) rfl (by kernel_rfl) (by kernel_rfl) (by kernel_rfl) (fun _ _ _ h => h) (Or.inl ⟨by rfl, ?_⟩) (by assumption) ?_
        rotate_left
        · intro w hSw; (try dsimp only at hSw); go_simp; try with_reducible rfl
        (try simp only [Act.put, List.setIfInBounds_toArray, List.set_cons_zero, List.set_cons_succ])
        refine wpAnyH_take (i := 23) (oi := { dst := some 188, op := Op.move (Operand.tmp 187), type := 4, pos := "outright.go:146", after := #[{ on := 22, ground := Ground.data }, { on := 17, ground := Ground.chain }], guard := none }) (v := ?_) rfl (by kernel_rfl) (by kernel_rfl) (by kernel_rfl) (fun _ _ _ h => h) (Or.inl ⟨by rfl, ?_⟩) (by assumption) ?_
        rotate_left
        · intro w hSw; (try dsimp only at hSw); go_simp; try with_reducible rfl
        (try simp only [Act.put, List.setIfInBounds_toArray, List.set_cons_zero, List.set_cons_succ])
        refine wpAnyH_take (i := 24) (oi := { dst := some 189, op := Op.move (Operand.tmp 8), type := 64, pos := "outright.go:146", after := #[{ on := 23, ground := Ground.guard }], guard := some (23, true) }) (v := ?_) rfl (by kernel_rfl) (by kernel_rfl) (by kernel_rfl) (fun _ _ _ h => h) (Or.inl ⟨by rfl, ?_⟩) (by assumption) ?_
        rotate_left
        · intro w hSw; (try dsimp only at hSw); go_simp; try with_reducible rfl
        (try simp only [Act.put, List.setIfInBounds_toArray, List.set_cons_zero, List.set_cons_succ])
        refine wpAnyH_take (i := 25) (oi := { dst := some 190, op := Op.nilCheck (Operand.tmp 189), type := 0, pos := "outright.go:146", after := #[{ on := 24, ground := Ground.data }, { on := 23, ground := Ground.guard }], guard := some (23, true) }) (v := ?_) rfl (by kernel_rfl) (by kernel_rfl) (by kernel_rfl) (fun _ _ _ h => h) (Or.inl ⟨by rfl, ?_⟩) (by assumption) ?_
        rotate_left
        · intro w hSw; (try dsimp only at hSw); go_simp; try with_reducible rfl
        (try simp only [Act.put, List.setIfInBounds_toArray, List.set_cons_zero, List.set_cons_succ])
        refine wpAnyH_take (i := 26) (oi := { dst := some 191, op := Op.fieldAddr 79 (Operand.tmp 190) 2, type := 0, pos := "outright.go:146", after := #[{ on := 25, ground := Ground.data }, { on := 23, ground := Ground.guard }], guard := some (23, true) }) (v := ?_) rfl (by kernel_rfl) (by kernel_rfl) (by kernel_rfl) (fun _ _ _ h => h) (Or.inl ⟨by rfl, ?_⟩) (by assumption) ?_
        rotate_left
        · intro w hSw; (try dsimp only at hSw); go_simp; try with_reducible rfl
        (try simp only [Act.put, List.setIfInBounds_toArray, List.set_cons_zero, List.set_cons_succ])
        refine wpAnyH_take (i := 27) (oi := { dst := some 192, op := Op.load 67 (Operand.tmp 191), type := 67, pos := "outright.go:146", after := #[{ on := 26, ground := Ground.data }, { on := 23, ground := Ground.guard }], guard := some (23, true) }) (v := ?_) rfl (by kernel_rfl) (by kernel_rfl) (by kernel_rfl) (fun _ _ _ h => h) (Or.inl ⟨by rfl, ?_⟩) (by assumption) ?_
        rotate_left
        · intro w hSw; (try dsimp only at hSw); go_simp; try with_reducible rfl
        (try simp only [Act.put, List.setIfInBounds_toArray, List.set_cons_zero, List.set_cons_succ])
        refine wpAnyH_take (i := 28) (oi := { dst := some 193, op := Op.move (Operand.tmp 9), type := 3, pos := "outright.go:146", after := #[{ on := 23, ground := Ground.guard }], guard := some (23, true) }) (v := ?_) rfl (by kernel_rfl) (by kernel_rfl) (by kernel_rfl) (fun _ _ _ h => h) (Or.inl ⟨by rfl, ?_⟩) (by assumption) ?_
        rotate_left
        · intro w hSw; (try dsimp only at hSw); go_simp; try with_reducible rfl
        (try simp only [Act.put, List.setIfInBounds_toArray, List.set_cons_zero, List.set_cons_succ])
        refine wpAnyH_ready (rs := [29]) (by kernel_rfl) (by simp) ?_
        refine AllReadyH.cons rfl (fun K hK => ?_) AllReadyH.nil
        go_simp
        go_at_call 61
        with_reducible refine HH25.out.mono ?_
        rintro e w25' ⟨rfl, rfl⟩
        go_wp2_with fail
        refine hK.out _ _ (⟨hS25, c25⟩) (fun hHeld => ?_)
        clear hK K
        (try dsimp only [Act.put]); (try simp only [Act.put, List.setIfInBounds_toArray, List.set_cons_zero, List.set_cons_succ])
        refine wpAnyH_take (i := 30) (oi := { dst := some 195, op := Op.unOp UnOp.not 4 (Operand.tmp 194), type := 4, pos := "outright.go:146", after := #[{ on := 29, ground := Ground.data }, { on := 23, ground := Ground.guard }], guard := some (23, true) }) (v := ?_) rfl (by kernel_rfl) (by kernel_rfl) (by kernel_rfl) (fun _ _ _ h => h) (Or.inl ⟨by rfl, ?_⟩) (by assumption) ?_
        rotate_left
        · intro w hSw; (try dsimp only at hSw); go_simp; try with_reducible rfl
        (try simp only [Act.put, List.setIfInBounds_toArray, List.set_cons_zero, List.set_cons_succ])
        refine wpAnyH_take (i := 31) (oi := { dst := some 196, op := Op.pick (Operand.tmp 188) (Operand.tmp 195) (Operand.const (Value.bool false)), type := 4, pos := "outright.go:146", after := #[{ on := 23, ground := Ground.data }, { on := 30, ground := Ground.data }], guard := none }) (v := ?_) rfl (by kernel_rfl) (by kernel_rfl) (by kernel_rfl) (fun _ _ _ h => h) (Or.inl ⟨by rfl, ?_⟩) (by assumption) ?_
        rotate_left
        · intro w hSw; (try dsimp only at hSw); go_simp; try with_reducible rfl
        (try simp only [Act.put, List.setIfInBounds_toArray, List.set_cons_zero, List.set_cons_succ])
        refine wpAnyH_take (i := 32) (oi := { dst := some 197, op := Op.move (Operand.tmp 196), type := 4, pos := "outright.go:146", after := #[{ on := 31, ground := Ground.data }, { on := 29, ground := Ground.chain }], guard := none }) (v := ?_) rfl (by kernel_rfl) (by kernel_rfl) (by kernel_rfl) (fun _ _ _ h => h) (Or.inl ⟨by rfl, ?_⟩) (by assumption) ?_
        rotate_left
        · intro w hSw; (try dsimp only at hSw); go_simp; try with_reducible rfl
        (try simp only [Act.put, List.setIfInBounds_toArray, List.set_cons_zero, List.set_cons_succ])
        refine wpAnyH_take (i := 33) (oi := { dst := some 198, op := Op.move (Operand.tmp 8), type := 64, pos := "outright.go:146", after := #[{ on := 32, ground := Ground.guard }], guard := some (32, true) }) (v := ?_) rfl (by kernel_rfl) (by kernel_rfl) (by kernel_rfl) (fun _ _ _ h => h) (Or.inl ⟨by rfl, ?_⟩) (by assumption) ?_
        rotate_left
        · intro w hSw; (try dsimp only at hSw); go_simp; try with_reducible rfl
        (try simp only [Act.put, List.setIfInBounds_toArray, List.set_cons_zero, List.set_cons_succ])
        refine wpAnyH_take (i := 34) (oi := { dst := some 199, op := Op.nilCheck (Operand.tmp 198), type := 0, pos := "outright.go:146", after := #[{ on := 33, ground := Ground.data }, { on := 32, ground := Ground.guard }], guard := some (32, true) }) (v := ?_) rfl (by kernel_rfl) (by kernel_rfl) (by kernel_rfl) (fun _ _ _ h => h) (Or.inl ⟨by rfl, ?_⟩) (by assumption) ?_
        rotate_left
        · intro w hSw; (try dsimp only at hSw); go_simp; try with_reducible rfl
        (try simp only [Act.put, List.setIfInBounds_toArray, List.set_cons_zero, List.set_cons_succ])
        refine wpAnyH_take (i := 35) (oi := { dst := some 200, op := Op.fieldAddr 79 (Operand.tmp 199) 1, type := 0, pos := "outright.go:146", after := #[{ on := 34, ground := Ground.data }, { on := 32, ground := Ground.guard }], guard := some (32, true) }) (v := ?_) rfl (by kernel_rfl) (by kernel_rfl) (by kernel_rfl) (fun _ _ _ h => h) (Or.inl ⟨by rfl, ?_⟩) (by assumption) ?_
        rotate_left
        · intro w hSw; (try dsimp only at hSw); go_simp; try with_reducible rfl
        (try simp only [Act.put, List.setIfInBounds_toArray, List.set_cons_zero, List.set_cons_succ])
        refine wpAnyH_take (i := 36) (oi := { dst := some 201, op := Op.load 26 (Operand.tmp 200), type := 26, pos := "outright.go:146", after := #[{ on := 35, ground := Ground.data }, { on := 32, ground := Ground.guard }], guard := some (32, true) }) (v := ?_) rfl (by kernel_rfl) (by kernel_rfl) (by kernel_rfl) (fun _ _ _ h => h) (Or.inl ⟨by rfl, ?_⟩) (by assumption) ?_
        rotate_left
        · intro w hSw; (try dsimp only at hSw); go_simp; try with_reducible rfl
        (try simp only [Act.put, List.setIfInBounds_toArray, List.set_cons_zero, List.set_cons_succ])
        refine wpAnyH_take (i := 38) (oi := { dst := some 203, op := Op.move (Operand.tmp 8), type := 64, pos := "outright.go:146", after := #[{ on := 32, ground := Ground.guard }], guard := some (32, true) }) (v := ?_) rfl (by kernel_rfl) (by kernel_rfl) (by kernel_rfl) (fun _ _ _ h => h) (Or.inl ⟨by rfl, ?_⟩) (by assumption) ?_
        rotate_left
        · intro w hSw; (try dsimp only at hSw); go_simp; try with_reducible rfl
        (try simp only [Act.put, List.setIfInBounds_toArray, List.set_cons_zero, List.set_cons_succ])
        refine wpAnyH_take (i := 39) (oi := { dst := some 204, op := Op.nilCheck (Operand.tmp 203), type := 0, pos := "outright.go:146", after := #[{ on := 38, ground := Ground.data }, { on := 32, ground := Ground.guard }], guard := some (32, true) }) (v := ?_) rfl (by kernel_rfl) (by kernel_rfl) (by kernel_rfl) (fun _ _ _ h => h) (Or.inl ⟨by rfl, ?_⟩) (by assumption) ?_
        rotate_left
        · intro w hSw; (try dsimp only at hSw); go_simp; try with_reducible rfl
        (try simp only [Act.put, List.setIfInBounds_toArray, List.set_cons_zero, List.set_cons_succ])
        refine wpAnyH_take (i := 40) (oi := { dst := some 205, op := Op.fieldAddr 79 (Operand.tmp 204) 0, type := 0, pos := "outright.go:146", after := #[{ on := 39, ground := Ground.data }, { on := 32, ground := Ground.guard }], guard := some (32, true) }) (v := ?_) rfl (by kernel_rfl) (by kernel_rfl) (by kernel_rfl) (fun _ _ _ h => h) (Or.inl ⟨by rfl, ?_⟩) (by assumption) ?_
        rotate_left
        · intro w hSw; (try dsimp only at hSw); go_simp; try with_reducible rfl
        (try simp only [Act.put, List.setIfInBounds_toArray, List.set_cons_zero, List.set_cons_succ])
        refine wpAnyH_take (i := 41) (oi := { dst := some 206, op := Op.load 24 (Operand.tmp 205), type := 24, pos := "outright.go:146", after := #[{ on := 40, ground := Ground.data }, { on := 32, ground := Ground.guard }], guard := some (32, true) }) (v := ?_) rfl (by kernel_rfl) (by kernel_rfl) (by kernel_rfl) (fun _ _ _ h => h) (Or.inl ⟨by rfl, ?_⟩) (by assumption) ?_
        rotate_left
        · intro w hSw; (try dsimp only at hSw); go_simp; try with_reducible rfl
        (try simp only [Act.put, List.setIfInBounds_toArray, List.set_cons_zero, List.set_cons_succ])
        refine wpAnyH_take (i := 42) (oi := { dst := some 207, op := Op.move (Operand.tmp 9), type := 3, pos := "outright.go:146", after := #[{ on := 32, ground := Ground.guard }], guard := some (32, true) }) (v := ?_) rfl (by kernel_rfl) (by kernel_rfl) (by kernel_rfl) (fun _ _ _ h => h) (Or.inl ⟨by rfl, ?_⟩) (by assumption) ?_
        rotate_left
        · intro w hSw; (try dsimp only at hSw); go_simp; try with_reducible rfl
        (try simp only [Act.put, List.setIfInBounds_toArray, List.set_cons_zero, List.set_cons_succ])
        refine wpAnyH_take (i := 43) (oi := { dst := some 208, op := Op.binOp BinOp.sub 3 (Operand.const (Value.int IntKind.i64 1)) (Operand.tmp 207) 3, type := 3, pos := "outright.go:146", after := #[{ on := 42, ground := Ground.data }, { on := 32, ground := Ground.guard }], guard := some (32, true) }) (v := ?_) rfl (by kernel_rfl) (by kernel_rfl) (by kernel_rfl) (fun _ _ _ h => h) (Or.inl ⟨by rfl, ?_⟩) (by assumption) ?_
        rotate_left
        · intro w hSw; (try dsimp only at hSw); go_simp; try with_reducible rfl
        (try simp only [Act.put, List.setIfInBounds_toArray, List.set_cons_zero, List.set_cons_succ])
        refine wpAnyH_ready (rs := [37]) (by kernel_rfl) (by simp) ?_
        refine AllReadyH.cons rfl (fun K hK => ?_) AllReadyH.nil
        go_simp
        go_at_call 17
        with_reducible refine HA25.out.mono ?_
        rintro e w26 ⟨br, cr, rfl, c26, l26, h26, b26⟩
        have HB26 := Lib.hid (HB25.out.trans (b26.mono HB25.out.size))
        have HS26 := Lib.hid h26
        have hS26 := h26.c5
        have c26' := (b26.cell (p := ⟨bq, A, none⟩) l25).trans c25
        have l26q : bq < w26.heap.size := Nat.lt_of_lt_of_le l25 b26.size
        clear h26 b26 HA25
        go_wp2_with fail
        refine hK.out _ _ (⟨hS26, c26'⟩) (fun hHeld => ?_)
        clear hK K
        (try dsimp only [Act.put]); (try simp only [Act.put, List.setIfInBounds_toArray, List.set_cons_zero, List.set_cons_succ])
        refine wpAnyH_moreP (S' := (fun V : World => (((V.cell? ⟨g.G, 0, none⟩ = some (.int .i64 (m.t : Int)) ∧ V.cell? ⟨g.G, 1, none⟩ = some (.int .i64 (m.o : Int)) ∧ V.cell? ⟨g.G, 2, none⟩ = some (.int .i64 (m.n : Int))) ∧ V.cell? ⟨g.G, 3, none⟩ = some (cellsV g.C) ∧ V.cell? ⟨g.G, 4, none⟩ = some (permitsV g.P)) ∧ V.cell? ⟨bq, A, none⟩ = some (.int .u64 0)) ∧ V.cell? ⟨br, A', none⟩ = some (.int .u64 1))) (fun _ h => h.1) _ _ _ _ ?_
        replace hHeld : (fun V : World => (((V.cell? ⟨g.G, 0, none⟩ = some (.int .i64 (m.t : Int)) ∧ V.cell? ⟨g.G, 1, none⟩ = some (.int .i64 (m.o : Int)) ∧ V.cell? ⟨g.G, 2, none⟩ = some (.int .i64 (m.n : Int))) ∧ V.cell? ⟨g.G, 3, none⟩ = some (cellsV g.C) ∧ V.cell? ⟨g.G, 4, none⟩ = some (permitsV g.P)) ∧ V.cell? ⟨bq, A, none⟩ = some (.int .u64 0)) ∧ V.cell? ⟨br, A', none⟩ = some (.int .u64 1)) w26 := ⟨⟨hS26, c26'⟩, c26⟩
        refine wpAnyH_ready (rs := [44]) (by kernel_rfl) (by simp) ?_
        refine AllReadyH.cons rfl (fun K hK => ?_) AllReadyH.nil
        go_simp
        go_at_call 54
        with_reducible refine (HSW.out _).mono ?_
        rintro e w27 ⟨rfl, b27⟩
        have c27 := (b27.cell (p := ⟨br, A', none⟩) l26).trans c26
        have c27' := (b27.cell (p := ⟨bq, A, none⟩) l26q).trans c26'
        have HB27 := Lib.hid (HB26.out.trans (b27.mono HB26.out.size))
        have hS27 := (HS26.out.below b27).c5
        go_wp2_with fail
        refine hK.out _ _ (⟨⟨hS27, c27'⟩, c27⟩) (fun hHeld => ?_)
        clear hK K
        (try dsimp only [Act.put]); (try simp only [Act.put, List.setIfInBounds_toArray, List.set_cons_zero, List.set_cons_succ])
        refine wpAnyH_take (i := 45) (oi := { dst := some 210, op := Op.indexAddr 38 (Operand.tmp 202) (Operand.tmp 209), type := 0, pos := "outright.go:146", after := #[{ on := 37, ground := Ground.data }, { on := 44, ground := Ground.data }, { on := 32, ground := Ground.guard }], guard := some (32, true) }) (v := ?_) rfl (by kernel_rfl) (by kernel_rfl) (by kernel_rfl) (fun _ _ _ h => h) (Or.inl ⟨by rfl, ?_⟩) (by assumption) ?_
        rotate_left
        · intro w hSw; (try dsimp only at hSw); go_simp; try with_reducible rfl
        (try simp only [Act.put, List.setIfInBounds_toArray, List.set_cons_zero, List.set_cons_succ])
        refine wpAnyH_take (i := 46) (oi := { dst := some 211, op := Op.load 47 (Operand.tmp 210), type := 47, pos := "outright.go:146", after := #[{ on := 45, ground := Ground.data }, { on := 32, ground := Ground.guard }], guard := some (32, true) }) (v := ?_) rfl (by kernel_rfl) (by kernel_rfl) (by kernel_rfl) (fun _ _ _ h => h) (Or.inl ⟨by rfl, ?_⟩) (by assumption) ?_
        rotate_left
        · intro w hSw; (try dsimp only at hSw); go_simp; try with_reducible rfl
        (try simp only [Act.put, List.setIfInBounds_toArray, List.set_cons_zero, List.set_cons_succ])
        refine wpAnyH_take (i := 47) (oi := { dst := some 212, op := Op.binOp BinOp.eql 47 (Operand.tmp 211) (Operand.const (Value.int IntKind.u64 1)) 47, type := 4, pos := "outright.go:146", after := #[{ on := 46, ground := Ground.data }, { on := 32, ground := Ground.guard }], guard := some (32, true) }) (v := ?_) rfl (by kernel_rfl) (by kernel_rfl) (by kernel_rfl) (fun _ _ _ h => h) (Or.inl ⟨by rfl, ?_⟩) (by assumption) ?_
        rotate_left
        · intro w hSw; (try dsimp only at hSw); go_simp; try with_reducible rfl
        (try simp only [Act.put, List.setIfInBounds_toArray, List.set_cons_zero, List.set_cons_succ])
        refine wpAnyH_take (i := 48) (oi := { dst := some 213, op := Op.pick (Operand.tmp 197) (Operand.tmp 212) (Operand.const (Value.bool false)), type := 4, pos := "outright.go:146", after := #[{ on := 32, ground := Ground.data }, { on := 47, ground := Ground.data }], guard := none }) (v := ?_) rfl (by kernel_rfl) (by kernel_rfl) (by kernel_rfl) (fun _ _ _ h => h) (Or.inl ⟨by rfl, ?_⟩) (by assumption) ?_
        rotate_left
        · intro w hSw; (try dsimp only at hSw); go_simp; try with_reducible rfl
        (try simp only [Act.put, List.setIfInBounds_toArray, List.set_cons_zero, List.set_cons_succ])
        refine wpAnyH_ready (rs := [49]) (by kernel_rfl) (by simp) ?_
        refine AllReadyH.cons rfl (fun K hK => ?_) AllReadyH.nil
        go_simp
        go_wp2_with fail
        refine hK.out _ _ (by assumption) (fun hHeld => ?_)
        clear hK K
        (try dsimp only [Act.put]); (try simp only [Act.put, List.setIfInBounds_toArray, List.set_cons_zero, List.set_cons_succ])
        refine wpAnyH_done (by kernel_rfl) ?_ _
        go_wp2
        go_ret
        exact ⟨rfl, HB27.out⟩
  · go_upto_region 17 with fail
    have HPk0 := SL.park1 u timed false 2 HS15.out HB15.out.size HFu.out (by simp [endsS])
    rw [if_neg (by decide)] at HPk0
    have HPk := Lib.hid HPk0
    have HFp := Lib.hid HFu.out
    have HB16 := Lib.hid HB15.out
    generalize ([false, false] : List Bool) = lp at *
    clear HPk0 d0 d1 d2 d3 d4 HS15 HB15 HGiv HFu HFu1 HFu2
    have hkq : ∃ kq : Int, kq = 6 + 1 + 1 + 1 := ⟨_, rfl⟩
    obtain ⟨kq, hkq⟩ := hkq
    have HPk1 := HPk.out
    rw [← hkq] at HPk1
    have HPk2 := Lib.hid HPk1
    have HKq := Lib.hid (show 0 ≤ kq ∧ kq ≤ 100 by omega)
    clear hkq HPk HPk1
    go_upto_region 19 with (first
      | (go_at_call 37; (with_reducible refine HPk2.out.mono ?_); rintro e w17 ⟨rfl, h17, b17⟩; have HS17 := Lib.hid h17; have HB17 := Lib.hid (HB16.out.trans b17); have HD17 := Lib.hid (SL.wake_done u 2 h17); have HP17 := Lib.hid (SL.wake_parked u 2 h17); clear h17 b17)
      | (go_at_call 38; (with_reducible refine HD17.out.mono ?_); rintro e w18 ⟨rfl, rfl⟩)
      | (go_at_call 57; (with_reducible refine HP17.out.mono ?_); rintro e w18 ⟨rfl, rfl⟩))
    clear HD17 HP17 HPk2 HB16
    go_wp2_with fail
    go_loopw [14] (fun v14 wr => ∃ i : Nat, i ≤ hh ∧ v14 = .int .i64 (i : Int) ∧ SL g m w.heap.size wr ⟨M.set A 2, kq + i, lp, []⟩ t2 (itE (wakeT m u 2)) ∧ Below w.heap.size w wr) (fun v14 _ => hh - (intOf v14).toNat)
    case atStart => exact ⟨0, by omega, rfl, by simpa using HS17.out, HB17.out⟩
    case round =>
      obtain ⟨i, hi, rfl, hs, hbl⟩ := hrel
      have HS := Lib.hid hs
      have HB := Lib.hid hbl
      obtain ⟨⟨d0, d1, d2⟩, d3, d4⟩ := hs.c5
      clear hs hbl HS17 HB17
      by_cases hih : i < hh
      · have hihI : (i : Int) < (hh : Int) := by omega
        have HSt := Lib.hid (SL.wake_no (u : Int) 2 (c := 2) HS.out HB.out.size (by rw [← HAeq.out.1]; exact List.getElem?_set_self (by rw [HL.out]; exact hAL)) (by decide) (by have := HKq.out; omega))
        clear d0 d1 d2 d3 d4
        go_wp2_with (first
          | (go_at_call 37; (with_reducible refine HSt.out.mono ?_); rintro e w20 ⟨rfl, h20, b20⟩; have HS20 := Lib.hid h20; have HB20 := Lib.hid (HB.out.trans b20); have HD20 := Lib.hid (SL.wake_done u 2 h20); have HA20 := Lib.hid (h20.all1 (L := L) (A := A) (c := 2) (by simp [HL.out]) (List.getElem?_set_self (by rw [HL.out]; exact hAL))); obtain ⟨⟨d0, d1, d2⟩, d3, d4⟩ := h20.c5; clear h20 b20)
          | (go_at_call 38; (with_reducible refine HD20.out.mono ?_); rintro e w21 ⟨rfl, rfl⟩)
          | (go_at_call 17; (with_reducible refine HA20.out.mono ?_); rintro e w22 ⟨bq, cq, rfl, c22, l22, h22, b22⟩))
        go_roundw
        case rel => exact ⟨i + 1, by omega, by go_num, by have := h22; rw [show kq + ((i + 1 : Nat) : Int) = kq + (i : Int) + 1 by omega]; exact this, HB20.out.trans (b22.mono HB20.out.size)⟩
        case measure => simp [intOf]; omega
      · have hihI : ¬ (i : Int) < (hh : Int) := by omega
        have HSto0 := HS.out.store A 2 1 HB.out.size (List.getElem?_set_self (by rw [HL.out]; exact hAL)) (by have := HKq.out; show 0 ≤ kq + (i : Int) ∧ kq + (i : Int) ≤ 2000000; omega)
        rw [List.set_set] at HSto0
        have HSto := Lib.hid HSto0
        clear HSto0
        go_upto_region 25 with (go_at_call 59; (with_reducible refine HSto.out.mono ?_); rintro e w23 ⟨rfl, h23, b23⟩)
        have HS23 := Lib.hid h23
        have HB23 := Lib.hid (HB.out.trans b23)
        have hS23' := (h23.below (bdrewP w23)).c5
        have HSt0 := SL.wake_yes (u : Int) 2 (h23.below (bdrewP w23)) HB23.out.size (by rw [← HAeq.out.1]; exact List.getElem?_set_self (by rw [HL.out]; exact hAL)) (by have := HKq.out; show 0 ≤ kq + (i : Int) + 1 ∧ kq + (i : Int) + 1 ≤ 2000000; omega)
        rw [← HAeq.out.1, List.set_set] at HSt0
        have HSt := Lib.hid HSt0
        have hS23 := h23.c5
        clear HSt0 d0 d1 d2 d3 d4 h23 b23 HSto HS HB
        refine wp_region_held_drew (S := (fun V : World => ((V.cell? ⟨g.G, 0, none⟩ = some (.int .i64 (m.t : Int)) ∧ V.cell? ⟨g.G, 1, none⟩ = some (.int .i64 (m.o : Int)) ∧ V.cell? ⟨g.G, 2, none⟩ = some (.int .i64 (m.n : Int))) ∧ V.cell? ⟨g.G, 3, none⟩ = some (cellsV g.C) ∧ V.cell? ⟨g.G, 4, none⟩ = some (permitsV g.P)))) (by kernel_rfl) (hS23') (fun hHeld => ?_)
        refine wpAnyH_take (i := 0) (oi := { dst := some 165, op := Op.move (Operand.tmp 13), type := 40, pos := "outright.go:146", after := #[], guard := none }) (v := ?_) rfl (by kernel_rfl) (by kernel_rfl) (by kernel_rfl) (fun _ _ _ h => h) (Or.inl ⟨by rfl, ?_⟩) (by assumption) ?_
        rotate_left
        · intro w hSw; (try dsimp only at hSw); go_simp; try with_reducible rfl
        (try simp only [Act.put, List.setIfInBounds_toArray, List.set_cons_zero, List.set_cons_succ])
        refine wpAnyH_ready (rs := [1]) (by kernel_rfl) (by simp) ?_
        refine AllReadyH.cons rfl (fun K hK => ?_) AllReadyH.nil
        go_simp
        go_at_call 37
        with_reducible refine HSt.out.mono ?_
        rintro e w24 ⟨rfl, h24, b24⟩
        have HB24 := Lib.hid ((HB23.out.trans ((bdrewP w23).mono HB23.out.size)).trans b24)
        have HD24 := Lib.hid h24.done_ret
        have HV24 := Lib.hid h24.value
        have HA24 := Lib.hid (h24.all1 (L := L) (A := A) (c := 0) (by simp [HL.out]) (List.getElem?_set_self (by rw [HL.out]; exact hAL)))
        have hS24 := h24.c5
        clear h24 b24
        go_wp2_with fail
        refine hK.out _ _ (hS24) (fun hHeld => ?_)
        clear hK K
        (try dsimp only [Act.put]); (try simp only [Act.put, List.setIfInBounds_toArray, List.set_cons_zero, List.set_cons_succ])
        refine wpAnyH_take (i := 2) (oi := { dst := some 167, op := Op.move (Operand.tmp 166), type := 4, pos := "outright.go:146", after := #[{ on := 1, ground := Ground.data }, { on := 1, ground := Ground.chain }], guard := none }) (v := ?_) rfl (by kernel_rfl) (by kernel_rfl) (by kernel_rfl) (fun _ _ _ h => h) (Or.inl ⟨by rfl, ?_⟩) (by assumption) ?_
        rotate_left
        · intro w hSw; (try dsimp only at hSw); go_simp; try with_reducible rfl
        (try simp only [Act.put, List.setIfInBounds_toArray, List.set_cons_zero, List.set_cons_succ])
        refine wpAnyH_take (i := 3) (oi := { dst := some 168, op := Op.move (Operand.tmp 13), type := 40, pos := "outright.go:146", after := #[{ on := 2, ground := Ground.guard }], guard := some (2, true) }) (v := ?_) rfl (by kernel_rfl) (by kernel_rfl) (by kernel_rfl) (fun _ _ _ h => h) (Or.inl ⟨by rfl, ?_⟩) (by assumption) ?_
        rotate_left
        · intro w hSw; (try dsimp only at hSw); go_simp; try with_reducible rfl
        (try simp only [Act.put, List.setIfInBounds_toArray, List.set_cons_zero, List.set_cons_succ])
        refine wpAnyH_ready (rs := [4]) (by kernel_rfl) (by simp) ?_
        refine AllReadyH.cons rfl (fun K hK => ?_) AllReadyH.nil
        go_simp
        go_at_call 38
        with_reducible refine HD24.out.mono ?_
        rintro e w24' ⟨rfl, rfl⟩
        go_wp2_with fail
        refine hK.out _ _ (hS24) (fun hHeld => ?_)
        clear hK K
        (try dsimp only [Act.put]); (try simp only [Act.put, List.setIfInBounds_toArray, List.set_cons_zero, List.set_cons_succ])
        refine wpAnyH_take (i := 5) (oi := { dst := some 170, op := Op.pick (Operand.tmp 167) (Operand.tmp 169) (Operand.const (Value.bool false)), type := 4, pos := "outright.go:146", after := #[{ on := 2, ground := Ground.data }, { on := 4, ground := Ground.data }], guard := none }) (v := ?_) rfl (by kernel_rfl) (by kernel_rfl) (by kernel_rfl) (fun _ _ _ h => h) (Or.inl ⟨by rfl, ?_⟩) (by assumption) ?_
        rotate_left
        · intro w hSw; (try dsimp only at hSw); go_simp; try with_reducible rfl
        (try simp only [Act.put, List.setIfInBounds_toArray, List.set_cons_zero, List.set_cons_succ])
        refine wpAnyH_take (i := 6) (oi := { dst := some 171, op := Op.move (Operand.tmp 170), type := 4, pos := "outright.go:146", after := #[{ on := 5, ground := Ground.data }, { on := 4, ground := Ground.chain }], guard := none }) (v := ?_) rfl (by kernel_rfl) (by kernel_rfl) (by kernel_rfl) (fun _ _ _ h => h) (Or.inl ⟨by rfl, ?_⟩) (by assumption) ?_
        rotate_left
        · intro w hSw; (try dsimp only at hSw); go_simp; try with_reducible rfl
        (try simp only [Act.put, List.setIfInBounds_toArray, List.set_cons_zero, List.set_cons_succ])
        refine wpAnyH_take (i := 7) (oi := { dst := some 172, op := Op.move (Operand.tmp 13), type := 40, pos := "outright.go:146", after := #[{ on := 6, ground := Ground.guard }], guard := some (6, true) }) (v := ?_) rfl (by kernel_rfl) (by kernel_rfl) (by kernel_rfl) (fun _ _ _ h => h) (Or.inl ⟨by rfl, ?_⟩) (by assumption) ?_
        rotate_left
        · intro w hSw; (try dsimp only at hSw); go_simp; try with_reducible rfl
        (try simp only [Act.put, List.setIfInBounds_toArray, List.set_cons_zero, List.set_cons_succ])
        refine wpAnyH_take (i := 9) (oi := { dst := some 174, op := Op.move (Operand.tmp 10), type := 3, pos := "outright.go:146", after := #[{ on := 6, ground := Ground.guard }], guard := some (6, true) }) (v := ?_) rfl (by kernel_rfl) (by kernel_rfl) (by kernel_rfl) (fun _ _ _ h => h) (Or.inl ⟨by rfl, ?_⟩) (by assumption) ?_
        rotate_left
        · intro w hSw; (try dsimp only at hSw); go_simp; try with_reducible rfl
        (try simp only [Act.put, List.setIfInBounds_toArray, List.set_cons_zero, List.set_cons_succ])
        refine wpAnyH_ready (rs := [8]) (by kernel_rfl) (by simp) ?_
        refine AllReadyH.cons rfl (fun K hK => ?_) AllReadyH.nil
        go_simp
        go_at_call 27
        with_reducible refine HV24.out.mono ?_
        rintro e w24' ⟨rfl, rfl⟩
        go_wp2_with fail
        refine hK.out _ _ (hS24) (fun hHeld => ?_)
        clear hK K
        (try dsimp only [Act.put]); (try simp only [Act.put, List.setIfInBounds_toArray, List.set_cons_zero, List.set_cons_succ])
        refine wpAnyH_take (i := 10) (oi := { dst := some 175, op := Op.binOp BinOp.eql 3 (Operand.tmp 173) (Operand.tmp 174) 3, type := 4, pos := "outright.go:146", after := #[{ on := 8, ground := Ground.data }, { on := 9, ground := Ground.data }, { on := 6, ground := Ground.guard }], guard := some (6, true) }) (v := ?_) rfl (by kernel_rfl) (by kernel_rfl) (by kernel_rfl) (fun _ _ _ h => h) (Or.inl ⟨by rfl, ?_⟩) (by assumption) ?_
        rotate_left
        · intro w hSw; (try dsimp only at hSw); go_simp; try with_reducible rfl
        (try simp only [Act.put, List.setIfInBounds_toArray, List.set_cons_zero, List.set_cons_succ])
        refine wpAnyH_take (i := 11) (oi := { dst := some 176, op := Op.pick (Operand.tmp 171) (Operand.tmp 175) (Operand.const (Value.bool false)), type := 4, pos := "outright.go:146", after := #[{ on := 6, ground := Ground.data }, { on := 10, ground := Ground.data }], guard := none }) (v := ?_) rfl (by kernel_rfl) (by kernel_rfl) (by kernel_rfl) (fun _ _ _ h => h) (Or.inl ⟨by rfl, ?_⟩) (by assumption) ?_
        rotate_left
        · intro w hSw; (try dsimp only at hSw); go_simp; try with_reducible rfl
        (try simp only [Act.put, List.setIfInBounds_toArray, List.set_cons_zero, List.set_cons_succ])
        refine wpAnyH_take (i := 12) (oi := { dst := some 177, op := Op.move (Operand.tmp 176), type := 4, pos := "outright.go:146", after := #[{ on := 11, ground := Ground.data }, { on := 8, ground := Ground.chain }], guard := none }) (v := ?_) rfl (by kernel_rfl) (by kernel_rfl) (by kernel_rfl) (fun _ _ _ h => h) (Or.inl ⟨by rfl, ?_⟩) (by assumption) ?_
        rotate_left
        · intro w hSw; (try dsimp only at hSw); go_simp; try with_reducible rfl
        (try simp only [Act.put, List.setIfInBounds_toArray, List.set_cons_zero, List.set_cons_succ])
        refine wpAnyH_take (i := 13) (oi := { dst := some 178, op := Op.move (Operand.tmp 8), type := 64, pos := "outright.go:146", after := #[{ on := 12, ground := Ground.guard }], guard := some (12, true) }) (v := ?_) rfl (by kernel_rfl) (by kernel_rfl) (by kernel_rfl) (fun _ _ _ h => h) (Or.inl ⟨by rfl, ?_⟩) (by assumption) ?_
        rotate_left
        · intro w hSw; (try dsimp only at hSw); go_simp; try with_reducible rfl
        (try simp only [Act.put, List.setIfInBounds_toArray, List.set_cons_zero, List.set_cons_succ])
        refine wpAnyH_take (i := 14) (oi := { dst := some 179, op := Op.nilCheck (Operand.tmp 178), type := 0, pos := "outright.go:146", after := #[{ on := 13, ground := Ground.data }, { on := 12, ground := Ground.guard }], guard := some (12, true) }) (v := ?_) rfl (by kernel_rfl) (by kernel_rfl) (by kernel_rfl) (fun _ _ _ h => h) (Or.inl ⟨by rfl, ?_⟩) (by assumption) ?_
        rotate_left
        · intro w hSw; (try dsimp only at hSw); go_simp; try with_reducible rfl
        (try simp only [Act.put, List.setIfInBounds_toArray, List.set_cons_zero, List.set_cons_succ])
        refine wpAnyH_take (i := 15) (oi := { dst := some 180, op := Op.fieldAddr 79 (Operand.tmp 179) 1, type := 0, pos := "outright.go:146", after := #[{ on := 14, ground := Ground.data }, { on := 12, ground := Ground.guard }], guard := some (12, true) }) (v := ?_) rfl (by kernel_rfl) (by kernel_rfl) (by kernel_rfl) (fun _ _ _ h => h) (Or.inl ⟨by rfl, ?_⟩) (by assumption) ?_
        rotate_left
        · intro w hSw; (try dsimp only at hSw); go_simp; try with_reducible rfl
        (try simp only [Act.put, List.setIfInBounds_toArray, List.set_cons_zero, List.set_cons_succ])
        refine wpAnyH_take (i := 16) (oi := { dst := some 181, op := Op.load 26 (Operand.tmp 180), type := 26, pos := "outright.go:146", after := #[{ on := 15, ground := Ground.data }, { on := 12, ground := Ground.guard }], guard := some (12, true) }) (v := ?_) rfl (by kernel_rfl) (by kernel_rfl) (by kernel_rfl) (fun _ _ _ h => h) (Or.inl ⟨by rfl, ?_⟩) (by assumption) ?_
        rotate_left
        · intro w hSw; (try dsimp only at hSw); go_simp; try with_reducible rfl
        (try simp only [Act.put, List.setIfInBounds_toArray, List.set_cons_zero, List.set_cons_succ])
        refine wpAnyH_take (i := 18) (oi := { dst := some 183, op := Op.move (Operand.tmp 11), type := 3, pos := "outright.go:146", after := #[{ on := 12, ground := Ground.guard }], guard := some (12, true) }) (v := ?_) rfl (by kernel_rfl) (by kernel_rfl) (by kernel_rfl) (fun _ _ _ h => h) (Or.inl ⟨by rfl, ?_⟩) (by assumption) ?_
        rotate_left
        · intro w hSw; (try dsimp only at hSw); go_simp; try with_reducible rfl
        (try simp only [Act.put, List.setIfInBounds_toArray, List.set_cons_zero, List.set_cons_succ])
        refine wpAnyH_ready (rs := [17]) (by kernel_rfl) (by simp) ?_
        refine AllReadyH.cons rfl (fun K hK => ?_) AllReadyH.nil
        go_simp
        go_at_call 17
        with_reducible refine HA24.out.mono ?_
        rintro e w25 ⟨bq, cq, rfl, c25, l25, h25, b25⟩
        have HB25 := Lib.hid (HB24.out.trans (b25.mono HB24.out.size))
        have HH25 := Lib.hid (h25.has u false HFp.out)
        have HA25 := Lib.hid (h25.all1 (L := L) (A := A') (c := 1) (by simp [HL.out]) (by rw [List.getElem?_set_ne HAV.out]; exact HV0.out))
        have hS25 := h25.c5
        clear h25 b25 HA24
        go_wp2_with fail
        refine hK.out _ _ (hS25) (fun hHeld => ?_)
        clear hK K
        (try dsimp only [Act.put]); (try simp only [Act.put, List.setIfInBounds_toArray, List.set_cons_zero, List.set_cons_succ])
        refine wpAnyH_moreP (S' := (fun V : World => ((V.cell? ⟨g.G, 0, none⟩ = some (.int .i64 (m.t : Int)) ∧ V.cell? ⟨g.G, 1, none⟩ = some (.int .i64 (m.o : Int)) ∧ V.cell? ⟨g.G, 2, none⟩ = some (.int .i64 (m.n : Int))) ∧ V.cell? ⟨g.G, 3, none⟩ = some (cellsV g.C) ∧ V.cell? ⟨g.G, 4, none⟩ = some (permitsV g.P)) ∧ V.cell? ⟨bq, A, none⟩ = some (.int .u64 0))) (fun _ h => h.1) _ _ _ _ ?_
        replace hHeld : (fun V : World => ((V.cell? ⟨g.G, 0, none⟩ = some (.int .i64 (m.t : Int)) ∧ V.cell? ⟨g.G, 1, none⟩ = some (.int .i64 (m.o : Int)) ∧ V.cell? ⟨g.G, 2, none⟩ = some (.int .i64 (m.n : Int))) ∧ V.cell? ⟨g.G, 3, none⟩ = some (cellsV g.C) ∧ V.cell? ⟨g.G, 4, none⟩ = some (permitsV g.P)) ∧ V.cell? ⟨bq, A, none⟩ = some (.int .u64 0)) w25 := ⟨hS25, c25⟩
        refine wpAnyH_take (i := 19) (oi := { dst := some 184, op := Op.indexAddr 38 (Operand.tmp 182) (Operand.tmp 183), type := 0, pos := "outright.go:146", after := #[{ on := 17, ground := Ground.data }, { on := 18, ground := Ground.data }, { on := 12, ground := Ground.guard }], guard := some (12, true) }) (v := ?_) rfl (by kernel_rfl) (by kernel_rfl) (by kernel_rfl) (fun _ _ _ h => h) (Or.inl ⟨by rfl, ?_⟩) (by assumption) ?_
        rotate_left
        · intro w hSw; (try dsimp only at hSw); go_simp; try with_reducible rfl
        (try simp only [Act.put, List.setIfInBounds_toArray, List.set_cons_zero, List.set_cons_succ])
        refine wpAnyH_take (i := 20) (oi := { dst := some 185, op := Op.load 47 (Operand.tmp 184), type := 47, pos := "outright.go:146", after := #[{ on := 19, ground := Ground.data }, { on := 12, ground := Ground.guard }], guard := some (12, true) }) (v := ?_) rfl (by kernel_rfl) (by kernel_rfl) (by kernel_rfl) (fun _ _ _ h => h) (Or.inl ⟨by rfl, ?_⟩) (by assumption) ?_
        rotate_left
        · intro w hSw; (try dsimp only at hSw); go_simp; try with_reducible rfl
        (try simp only [Act.put, List.setIfInBounds_toArray, List.set_cons_zero, List.set_cons_succ])
        refine wpAnyH_take (i := 21) (oi := { dst := some 186, op := Op.binOp BinOp.eql 47 (Operand.tmp 185) (Operand.const (Value.int IntKind.u64 0)) 47, type := 4, pos := "outright.go:146", after := #[{ on := 20, ground := Ground.data }, { on := 12, ground := Ground.guard }], guard := some (12, true) }) (v := ?_) rfl (by kernel_rfl) (by kernel_rfl) (by kernel_rfl) (fun _ _ _ h => h) (Or.inl ⟨by rfl, ?_⟩) (by assumption) ?_
        rotate_left
        · intro w hSw; (try dsimp only at hSw); go_simp; try with_reducible rfl
        (try simp only [Act.put, List.setIfInBounds_toArray, List.set_cons_zero, List.set_cons_succ])
        refine wpAnyH_take (i := 22) (oi := { dst := some 187, op := Op.pick (Operand.tmp 177) (Operand.tmp 186) (Operand.const (Value.bool false)), type := 4, pos := "outright.go:146", after := #[{ on := 12, ground := Ground.data }, { on := 21, ground := Ground.data }], guard := none }) (v := ?_) rfl (by kernel_rfl) (by kernel_rfl) (by kernel_rfl) (fun _ _ _ h => h) (Or.inl ⟨by rfl, ?_⟩) (by assumption) ?_
        rotate_left
        · intro w hSw; (try dsimp only at hSw); go_simp; try with_reducible rfl
        (try simp only [Act.put, List.setIfInBounds_toArray, List.set_cons_zero, List.set_cons_succ])
        refine wpAnyH_take (i := 23) (oi := { dst := some 188, op := Op.move (Operand.tmp 187), type := 4, pos := "outright.go:146", after := #[{ on := 22, ground := Ground.data }, { on := 17, ground := Ground.chain }], guard := none }) (v := ?_) rfl (by kernel_rfl) (by kernel_rfl) (by kernel_rfl) (fun _ _ _ h => h) (Or.inl ⟨by rfl, ?_⟩) (by assumption) ?_
        rotate_left
        · intro w hSw; (try dsimp only at hSw); go_simp; try with_reducible rfl
        (try simp only [Act.put, List.setIfInBounds_toArray, List.set_cons_zero, List.set_cons_succ])
        refine wpAnyH_take (i := 24) (oi := { dst := some 189, op := Op.move (Operand.tmp 8), type := 64, pos := "outright.go:146", after := #[{ on := 23, ground := Ground.guard }], guard := some (23, true) }) (v := ?_) rfl (by kernel_rfl) (by kernel_rfl) (by kernel_rfl) (fun _ _ _ h => h) (Or.inl ⟨by rfl, ?_⟩) (by assumption) ?_
        rotate_left
        · intro w hSw; (try dsimp only at hSw); go_simp; try with_reducible rfl
        (try simp only [Act.put, List.setIfInBounds_toArray, List.set_cons_zero, List.set_cons_succ])
        refine wpAnyH_take (i := 25) (oi := { dst := some 190, op := Op.nilCheck (Operand.tmp 189), type := 0, pos := "outright.go:146", after := #[{ on := 24, ground := Ground.data }, { on := 23, ground := Ground.guard }], guard := some (23, true) }) (v := ?_) rfl (by kernel_rfl) (by kernel_rfl) (by kernel_rfl) (fun _ _ _ h => h) (Or.inl ⟨by rfl, ?_⟩) (by assumption) ?_
        rotate_left
        · intro w hSw; (try dsimp only at hSw); go_simp; try with_reducible rfl
        (try simp only [Act.put, List.setIfInBounds_toArray, List.set_cons_zero, List.set_cons_succ])
        refine wpAnyH_take (i := 26) (oi := { dst := some 191, op := Op.fieldAddr 79 (Operand.tmp 190) 2, type := 0, pos := "outright.go:146", after := #[{ on := 25, ground := Ground.data }, { on := 23, ground := Ground.guard }], guard := some (23, true) }) (v := ?_) rfl (by kernel_rfl) (by kernel_rfl) (by kernel_rfl) (fun _ _ _ h => h) (Or.inl ⟨by rfl, ?_⟩) (by assumption) ?_
        rotate_left
        · intro w hSw; (try dsimp only at hSw); go_simp; try with_reducible rfl
        (try simp only [Act.put, List.setIfInBounds_toArray, List.set_cons_zero, List.set_cons_succ])
        refine wpAnyH_take (i := 27) (oi := { dst := some 192, op := Op.load 67 (Operand.tmp 191), type := 67, pos := "outright.go:146", after := #[{ on := 26, ground := Ground.data }, { on := 23, ground := Ground.guard }], guard := some (23, true) }) (v := ?_) rfl (by kernel_rfl) (by kernel_rfl) (by kernel_rfl) (fun _ _ _ h => h) (Or.inl ⟨by rfl, ?_⟩) (by assumption) ?_
        rotate_left
        · intro w hSw; (try dsimp only at hSw); go_simp; try with_reducible rfl
        (try simp only [Act.put, List.setIfInBounds_toArray, List.set_cons_zero, List.set_cons_succ])
        refine wpAnyH_take (i := 28) (oi := { dst := some 193, op := Op.move (Operand.tmp 9), type := 3, pos := "outright.go:146", after := #[{ on := 23, ground := Ground.guard }], guard := some (23, true) }) (v := ?_) rfl (by kernel_rfl) (by kernel_rfl) (by kernel_rfl) (fun _ _ _ h => h) (Or.inl ⟨by rfl, ?_⟩) (by assumption) ?_
        rotate_left
        · intro w hSw; (try dsimp only at hSw); go_simp; try with_reducible rfl
        (try simp only [Act.put, List.setIfInBounds_toArray, List.set_cons_zero, List.set_cons_succ])
        refine wpAnyH_ready (rs := [29]) (by kernel_rfl) (by simp) ?_
        refine AllReadyH.cons rfl (fun K hK => ?_) AllReadyH.nil
        go_simp
        go_at_call 61
        with_reducible refine HH25.out.mono ?_
        rintro e w25' ⟨rfl, rfl⟩
        go_wp2_with fail
        refine hK.out _ _ (⟨hS25, c25⟩) (fun hHeld => ?_)
        clear hK K
        (try dsimp only [Act.put]); (try simp only [Act.put, List.setIfInBounds_toArray, List.set_cons_zero, List.set_cons_succ])
        refine wpAnyH_take (i := 30) (oi := { dst := some 195, op := Op.unOp UnOp.not 4 (Operand.tmp 194), type := 4, pos := "outright.go:146", after := #[{ on := 29, ground := Ground.data }, { on := 23, ground := Ground.guard }], guard := some (23, true) }) (v := ?_) rfl (by kernel_rfl) (by kernel_rfl) (by kernel_rfl) (fun _ _ _ h => h) (Or.inl ⟨by rfl, ?_⟩) (by assumption) ?_
        rotate_left
        · intro w hSw; (try dsimp only at hSw); go_simp; try with_reducible rfl
        (try simp only [Act.put, List.setIfInBounds_toArray, List.set_cons_zero, List.set_cons_succ])
        refine wpAnyH_take (i := 31) (oi := { dst := some 196, op := Op.pick (Operand.tmp 188) (Operand.tmp 195) (Operand.const (Value.bool false)), type := 4, pos := "outright.go:146", after := #[{ on := 23, ground := Ground.data }, { on := 30, ground := Ground.data }], guard := none }) (v := ?_) rfl (by kernel_rfl) (by kernel_rfl) (by kernel_rfl) (fun _ _ _ h => h) (Or.inl ⟨by rfl, ?_⟩) (by assumption) ?_
        rotate_left
        · intro w hSw; (try dsimp only at hSw); go_simp; try with_reducible rfl
        (try simp only [Act.put, List.setIfInBounds_toArray, List.set_cons_zero, List.set_cons_succ])
        refine wpAnyH_take (i := 32) (oi := { dst := some 197, op := Op.move (Operand.tmp 196), type := 4, pos := "outright.go:146", after := #[{ on := 31, ground := Ground.data }, { on := 29, ground := Ground.chain }], guard := none }) (v := ?_) rfl (by kernel_rfl) (by kernel_rfl) (by kernel_rfl) (fun _ _ _ h => h) (Or.inl ⟨by rfl, ?_⟩) (by assumption) ?_
        rotate_left
        · intro w hSw; (try dsimp only at hSw); go_simp; try with_reducible rfl
        (try simp only [Act.put, List.setIfInBounds_toArray, List.set_cons_zero, List.set_cons_succ])
        refine wpAnyH_take (i := 33) (oi := { dst := some 198, op := Op.move (Operand.tmp 8), type := 64, pos := "outright.go:146", after := #[{ on := 32, ground := Ground.guard }], guard := some (32, true) }) (v := ?_) rfl (by kernel_rfl) (by kernel_rfl) (by kernel_rfl) (fun _ _ _ h => h) (Or.inl ⟨by rfl, ?_⟩) (by assumption) ?_
        rotate_left
        · intro w hSw; (try dsimp only at hSw); go_simp; try with_reducible rfl
        (try simp only [Act.put, List.setIfInBounds_toArray, List.set_cons_zero, List.set_cons_succ])
        refine wpAnyH_take (i := 34) (oi := { dst := some 199, op := Op.nilCheck (Operand.tmp 198), type := 0, pos := "outright.go:146", after := #[{ on := 33, ground := Ground.data }, { on := 32, ground := Ground.guard }], guard := some (32, true) }) (v := ?_) rfl (by kernel_rfl) (by kernel_rfl) (by kernel_rfl) (fun _ _ _ h => h) (Or.inl ⟨by rfl, ?_⟩) (by assumption) ?_
        rotate_left
        · intro w hSw; (try dsimp only at hSw); go_simp; try with_reducible rfl
        (try simp only [Act.put, List.setIfInBounds_toArray, List.set_cons_zero, List.set_cons_succ])
        refine wpAnyH_take (i := 35) (oi := { dst := some 200, op := Op.fieldAddr 79 (Operand.tmp 199) 1, type := 0, pos := "outright.go:146", after := #[{ on := 34, ground := Ground.data }, { on := 32, ground := Ground.guard }], guard := some (32, true) }) (v := ?_) rfl (by kernel_rfl) (by kernel_rfl) (by kernel_rfl) (fun _ _ _ h => h) (Or.inl ⟨by rfl, ?_⟩) (by assumption) ?_
        rotate_left
        · intro w hSw; (try dsimp only at hSw); go_simp; try with_reducible rfl
        (try simp only [Act.put, List.setIfInBounds_toArray, List.set_cons_zero, List.set_cons_succ])
        refine wpAnyH_take (i := 36) (oi := { dst := some 201, op := Op.load 26 (Operand.tmp 200), type := 26, pos := "outright.go:146", after := #[{ on := 35, ground := Ground.data }, { on := 32, ground := Ground.guard }], guard := some (32, true) }) (v := ?_) rfl (by kernel_rfl) (by kernel_rfl) (by kernel_rfl) (fun _ _ _ h => h) (Or.inl ⟨by rfl, ?_⟩) (by assumption) ?_
        rotate_left
        · intro w hSw; (try dsimp only at hSw); go_simp; try with_reducible rfl
        (try simp only [Act.put, List.setIfInBounds_toArray, List.set_cons_zero, List.set_cons_succ])
        refine wpAnyH_take (i := 38) (oi := { dst := some 203, op := Op.move (Operand.tmp 8), type := 64, pos := "outright.go:146", after := #[{ on := 32, ground := Ground.guard }], guard := some (32, true) }) (v := ?_) rfl (by kernel_rfl) (by kernel_rfl) (by kernel_rfl) (fun _ _ _ h => h) (Or.inl ⟨by rfl, ?_⟩) (by assumption) ?_
        rotate_left
        · intro w hSw; (try dsimp only at hSw); go_simp; try with_reducible rfl
        (try simp only [Act.put, List.setIfInBounds_toArray, List.set_cons_zero, List.set_cons_succ])
        refine wpAnyH_take (i := 39) (oi := { dst := some 204, op := Op.nilCheck (Operand.tmp 203), type := 0, pos := "outright.go:146", after := #[{ on := 38, ground := Ground.data }, { on := 32, ground := Ground.guard }], guard := some (32, true) }) (v := ?_) rfl (by kernel_rfl) (by kernel_rfl) (by kernel_rfl) (fun _ _ _ h => h) (Or.inl ⟨by rfl, ?_⟩) (by assumption) ?_
        rotate_left
        · intro w hSw; (try dsimp only at hSw); go_simp; try with_reducible rfl
        (try simp only [Act.put, List.setIfInBounds_toArray, List.set_cons_zero, List.set_cons_succ])
        refine wpAnyH_take (i := 40) (oi := { dst := some 205, op := Op.fieldAddr 79 (Operand.tmp 204) 0, type := 0, pos := "outright.go:146", after := #[{ on := 39, ground := Ground.data }, { on := 32, ground := Ground.guard }], guard := some (32, true) }) (v := ?_) rfl (by kernel_rfl) (by kernel_rfl) (by kernel_rfl) (fun _ _ _ h => h) (Or.inl ⟨by rfl, ?_⟩) (by assumption) ?_
        rotate_left
        · intro w hSw; (try dsimp only at hSw); go_simp; try with_reducible rfl
        (try simp only [Act.put, List.setIfInBounds_toArray, List.set_cons_zero, List.set_cons_succ])
        refine wpAnyH_take (i := 41) (oi := { dst := some 206, op := Op.load 24 (Operand.tmp 205), type := 24, pos := "outright.go:146", after := #[{ on := 40, ground := Ground.data }, { on := 32, ground := Ground.guard }], guard := some (32, true) }) (v := ?_) rfl (by kernel_rfl) (by kernel_rfl) (by kernel_rfl) (fun _ _ _ h => h) (Or.inl ⟨by rfl, ?_⟩) (by assumption) ?_
        rotate_left
        · intro w hSw; (try dsimp only at hSw); go_simp; try with_reducible rfl
        (try simp only [Act.put, List.setIfInBounds_toArray, List.set_cons_zero, List.set_cons_succ])
        refine wpAnyH_take (i := 42) (oi := { dst := some 207, op := Op.move (Operand.tmp 9), type := 3, pos := "outright.go:146", after := #[{ on := 32, ground := Ground.guard }], guard := some (32, true) }) (v := ?_) rfl (by kernel_rfl) (by kernel_rfl) (by kernel_rfl) (fun _ _ _ h => h) (Or.inl ⟨by rfl, ?_⟩) (by assumption) ?_
        rotate_left
        · intro w hSw; (try dsimp only at hSw); go_simp; try with_reducible rfl
        (try simp only [Act.put, List.setIfInBounds_toArray, List.set_cons_zero, List.set_cons_succ])
        refine wpAnyH_take (i := 43) (oi := { dst := some 208, op := Op.binOp BinOp.sub 3 (Operand.const (Value.int IntKind.i64 1)) (Operand.tmp 207) 3, type := 3, pos := "outright.go:146", after := #[{ on := 42, ground := Ground.data }, { on := 32, ground := Ground.guard }], guard := some (32, true) }) (v := ?_) rfl (by kernel_rfl) (by kernel_rfl) (by kernel_rfl) (fun _ _ _ h => h) (Or.inl ⟨by rfl, ?_⟩) (by assumption) ?_
        rotate_left
        · intro w hSw; (try dsimp only at hSw); go_simp; try with_reducible rfl
        (try simp only [Act.put, List.setIfInBounds_toArray, List.set_cons_zero, List.set_cons_succ])
        refine wpAnyH_ready (rs := [37]) (by kernel_rfl) (by simp) ?_
        refine AllReadyH.cons rfl (fun K hK => ?_) AllReadyH.nil
        go_simp
        go_at_call 17
        with_reducible refine HA25.out.mono ?_
        rintro e w26 ⟨br, cr, rfl, c26, l26, h26, b26⟩
        have HB26 := Lib.hid (HB25.out.trans (b26.mono HB25.out.size))
        have HS26 := Lib.hid h26
        have hS26 := h26.c5
        have c26' := (b26.cell (p := ⟨bq, A, none⟩) l25).trans c25
        have l26q : bq < w26.heap.size := Nat.lt_of_lt_of_le l25 b26.size
        clear h26 b26 HA25
        go_wp2_with fail
        refine hK.out _ _ (⟨hS26, c26'⟩) (fun hHeld => ?_)
        clear hK K
        (try dsimp only [Act.put]); (try simp only [Act.put, List.setIfInBounds_toArray, List.set_cons_zero, List.set_cons_succ])
        refine wpAnyH_moreP (S' := (fun V : World => (((V.cell? ⟨g.G, 0, none⟩ = some (.int .i64 (m.t : Int)) ∧ V.cell? ⟨g.G, 1, none⟩ = some (.int .i64 (m.o : Int)) ∧ V.cell? ⟨g.G, 2, none⟩ = some (.int .i64 (m.n : Int))) ∧ V.cell? ⟨g.G, 3, none⟩ = some (cellsV g.C) ∧ V.cell? ⟨g.G, 4, none⟩ = some (permitsV g.P)) ∧ V.cell? ⟨bq, A, none⟩ = some (.int .u64 0)) ∧ V.cell? ⟨br, A', none⟩ = some (.int .u64 1))) (fun _ h => h.1) _ _ _ _ ?_
        replace hHeld : (fun V : World => (((V.cell? ⟨g.G, 0, none⟩ = some (.int .i64 (m.t : Int)) ∧ V.cell? ⟨g.G, 1, none⟩ = some (.int .i64 (m.o : Int)) ∧ V.cell? ⟨g.G, 2, none⟩ = some (.int .i64 (m.n : Int))) ∧ V.cell? ⟨g.G, 3, none⟩ = some (cellsV g.C) ∧ V.cell? ⟨g.G, 4, none⟩ = some (permitsV g.P)) ∧ V.cell? ⟨bq, A, none⟩ = some (.int .u64 0)) ∧ V.cell? ⟨br, A', none⟩ = some (.int .u64 1)) w26 := ⟨⟨hS26, c26'⟩, c26⟩
        refine wpAnyH_ready (rs := [44]) (by kernel_rfl) (by simp) ?_
        refine AllReadyH.cons rfl (fun K hK => ?_) AllReadyH.nil
        go_simp
        go_at_call 54
        with_reducible refine (HSW.out _).mono ?_
        rintro e w27 ⟨rfl, b27⟩
        have c27 := (b27.cell (p := ⟨br, A', none⟩) l26).trans c26
        have c27' := (b27.cell (p := ⟨bq, A, none⟩) l26q).trans c26'
        have HB27 := Lib.hid (HB26.out.trans (b27.mono HB26.out.size))
        have hS27 := (HS26.out.below b27).c5
        go_wp2_with fail
        refine hK.out _ _ (⟨⟨hS27, c27'⟩, c27⟩) (fun hHeld => ?_)
        clear hK K
        (try dsimp only [Act.put]); (try simp only [Act.put, List.setIfInBounds_toArray, List.set_cons_zero, List.set_cons_succ])
        refine wpAnyH_take (i := 45) (oi := { dst := some 210, op := Op.indexAddr 38 (Operand.tmp 202) (Operand.tmp 209), type := 0, pos := "outright.go:146", after := #[{ on := 37, ground := Ground.data }, { on := 44, ground := Ground.data }, { on := 32, ground := Ground.guard }], guard := some (32, true) }) (v := ?_) rfl (by kernel_rfl) (by kernel_rfl) (by kernel_rfl) (fun _ _ _ h => h) (Or.inl ⟨by rfl, ?_⟩) (by assumption) ?_
        rotate_left
        · intro w hSw; (try dsimp only at hSw); go_simp; try with_reducible rfl
        (try simp only [Act.put, List.setIfInBounds_toArray, List.set_cons_zero, List.set_cons_succ])
        refine wpAnyH_take (i := 46) (oi := { dst := some 211, op := Op.load 47 (Operand.tmp 210), type := 47, pos := "outright.go:146", after := #[{ on := 45, ground := Ground.data }, { on := 32, ground := Ground.guard }], guard := some (32, true) }) (v := ?_) rfl (by kernel_rfl) (by kernel_rfl) (by kernel_rfl) (fun _ _ _ h => h) (Or.inl ⟨by rfl, ?_⟩) (by assumption) ?_
        rotate_left
        · intro w hSw; (try dsimp only at hSw); go_simp; try with_reducible rfl
        (try simp only [Act.put, List.setIfInBounds_toArray, List.set_cons_zero, List.set_cons_succ])
        refine wpAnyH_take (i := 47) (oi := { dst := some 212, op := Op.binOp BinOp.eql 47 (Operand.tmp 211) (Operand.const (Value.int IntKind.u64 1)) 47, type := 4, pos := "outright.go:146", after := #[{ on := 46, ground := Ground.data }, { on := 32, ground := Ground.guard }], guard := some (32, true) }) (v := ?_) rfl (by kernel_rfl) (by kernel_rfl) (by kernel_rfl) (fun _ _ _ h => h) (Or.inl ⟨by rfl, ?_⟩) (by assumption) ?_
        rotate_left
        · intro w hSw; (try dsimp only at hSw); go_simp; try with_reducible rfl
        (try simp only [Act.put, List.setIfInBounds_toArray, List.set_cons_zero, List.set_cons_succ])
        refine wpAnyH_take (i := 48) (oi := { dst := some 213, op := Op.pick (Operand.tmp 197) (Operand.tmp 212) (Operand.const (Value.bool false)), type := 4, pos := "outright.go:146", after := #[{ on := 32, ground := Ground.data }, { on := 47, ground := Ground.data }], guard := none }) (v := ?_) rfl (by kernel_rfl) (by kernel_rfl) (by kernel_rfl) (fun _ _ _ h => h) (Or.inl ⟨by rfl, ?_⟩) (by assumption) ?_
        rotate_left
        · intro w hSw; (try dsimp only at hSw); go_simp; try with_reducible rfl
        (try simp only [Act.put, List.setIfInBounds_toArray, List.set_cons_zero, List.set_cons_succ])
        refine wpAnyH_ready (rs := [49]) (by kernel_rfl) (by simp) ?_
        refine AllReadyH.cons rfl (fun K hK => ?_) AllReadyH.nil
        go_simp
        go_wp2_with fail
        refine hK.out _ _ (by assumption) (fun hHeld => ?_)
        clear hK K
        (try dsimp only [Act.put]); (try simp only [Act.put, List.setIfInBounds_toArray, List.set_cons_zero, List.set_cons_succ])
        refine wpAnyH_done (by kernel_rfl) ?_ _
        go_wp2
        go_ret
        exact ⟨rfl, HB27.out⟩
end Go.Proofs.YtldofbkjjmnooaaGreat
