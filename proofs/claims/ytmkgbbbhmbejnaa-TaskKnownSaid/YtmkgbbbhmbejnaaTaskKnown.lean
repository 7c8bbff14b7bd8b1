/- Layer 6's law: TaskKnown. -/
import Derived.Test.YtmkgbbbhmbejnaaTaskKnownA
namespace Go.Proofs.Ytmkgbbbhmbejnaa
open Go.ChangeShapes Go.WideShapes Go.ChangeAt Go.RowKit
set_option linter.unusedVariables false
set_option maxRecDepth 100000
set_option linter.unusedSimpArgs false
def st4 : Itm := ⟨1, 4, 1, 0⟩
def sw0 : Itm := ⟨2, 0, 5, 1⟩
def ad4 : Itm := ⟨3, 0, 4, 0⟩
def pk0 : Itm := ⟨6, 0, 0, 0⟩
def pk1 : Itm := ⟨5, 1, 0, 0⟩
def pt1 : Itm := ⟨6, 1, 0, 0⟩
theorem op_ld : operS [6] ld0 = ([6], 6, true) := by
  have h2 : wrap64 6 = 6 := IntWalk.wrap64_in 6 ⟨by omega, by omega⟩
  simp [operS, ld0, h2]
theorem op_st : operS [6] st4 = ([6], 0, true) := by decide
theorem op_sw : operS [6] sw0 = ([6], 0, true) := by decide
theorem op_ad : operS [6] ad4 = ([10], 10, true) := by
  have h1 : IntKind.u64.wrap 10 = 10 := by kernel_rfl
  have h2 : wrap64 10 = 10 := IntWalk.wrap64_in 10 ⟨by omega, by omega⟩
  simp [operS, ad4, h1, h2]
theorem T6.task {n0 : Nat} {w : World} {C S P R t : Nat} {cs : List Nat} {r : List Itm} {v : Int} (h : T6 n0 w C S P R cs t r v) : ∃ Q, TaskG w C P t Q r v := by
  obtain ⟨Q, h1, _⟩ := h
  exact ⟨Q, h1⟩
/-- Run of a parking whose thread has a permit -/
theorem run_by {n0 : Nat} {w : World} {C S P R t : Nat} {cs : List Nat} {m : List Int} {ps : List Bool} {n : Int} {x : Itm} {v : Int} (h : Env6 n0 w C S P R cs m ps n) (hT : T6 n0 w C S P R cs t [x] v) (hn0 : n0 ≤ w.heap.size) (hk : x.kind = 5 ∨ x.kind = 6) (hx : ps[x.at']? = some true) :
    Calls Try.prog 31 #[pV t] w fun e w' => e = .returned (.int .i64 0) ∧ Env6 n0 w' C S P R cs m (ps.set x.at' false) n ∧ Below n0 w w' := by
  refine (run_drive C P t 0 1 (fun k a => (k = 1 ∧ Env6 n0 a C S P R cs m ps n ∧ T6 n0 a C S P R cs t [x] v ∧ Below n0 w a) ∨ (k = 0 ∧ Env6 n0 a C S P R cs m (ps.set x.at' false) n ∧ T6 n0 a C S P R cs t [] 0 ∧ Below n0 w a)) w (.inl ⟨rfl, h, hT, Below.refl _ _⟩) (fun k a hj => ?_) (fun a hj => ?_) (fun a b hj hk2 => ?_)).mono ?_
  · rcases hj with ⟨e, g1, g2, g3⟩ | ⟨e, _⟩
    · obtain rfl : k = 0 := by omega
      have hs := g3.size
      refine .inl ((park6_go (k := 0) (b := true) g1 g2 (by omega) hk hx (by simp [endsS])).mono ?_)
      rintro e b ⟨rfl, q1, q2, q3⟩
      exact ⟨rfl, .inr ⟨rfl, by simpa using q1, q2, g3.trans q3⟩⟩
    · cases e
  · rcases hj with ⟨e, _⟩ | ⟨_, _, g2, _⟩
    · cases e
    · exact g2.task
  · rcases hj with ⟨e, _⟩ | ⟨_, g1, g2, g3⟩
    · cases e
    · exact .inr ⟨rfl, g1.still hk2, g2.still hk2, g3.trans (hk2.below (Nat.le_trans hn0 g3.size) (fun _ _ h => h.elim))⟩
  · rintro e w' ⟨rfl, hj⟩
    rcases hj with ⟨e, _⟩ | ⟨_, g1, g2, g3⟩
    · cases e
    · exact ⟨rfl, g1, g3⟩
/-- .. whose thread has none, and that ends by time -/
theorem run_time {n0 : Nat} {w : World} {C S P R t : Nat} {cs : List Nat} {m : List Int} {ps : List Bool} {n : Int} {x : Itm} {v : Int} (h : Env6 n0 w C S P R cs m ps n) (hT : T6 n0 w C S P R cs t [x] v) (hn0 : n0 ≤ w.heap.size) (hk : x.kind = 6) (hx : ps[x.at']? = some false) :
    Calls Try.prog 31 #[pV t] w fun e w' => e = .returned (.int .i64 1) ∧ Env6 n0 w' C S P R cs m ps n ∧ Below n0 w w' := by
  refine (run_drive C P t 1 1 (fun k a => (k = 1 ∧ Env6 n0 a C S P R cs m ps n ∧ T6 n0 a C S P R cs t [x] v ∧ Below n0 w a) ∨ (k = 0 ∧ Env6 n0 a C S P R cs m ps n ∧ T6 n0 a C S P R cs t [] 1 ∧ Below n0 w a)) w (.inl ⟨rfl, h, hT, Below.refl _ _⟩) (fun k a hj => ?_) (fun a hj => ?_) (fun a b hj hk2 => ?_)).mono ?_
  · rcases hj with ⟨e, g1, g2, g3⟩ | ⟨e, _⟩
    · obtain rfl : k = 0 := by omega
      refine .inr ⟨fun b => Env6 n0 b C S P R cs m ps n ∧ T6 n0 b C S P R cs t [x] v ∧ Below n0 w b, (park6_no (k := 0) (b := false) g1 g2 (.inr hk) hx (by simp [endsS])).mono ?_, fun b hb => ?_⟩
      · rintro e b ⟨rfl, q⟩
        exact ⟨rfl, g1.still q, g2.still q, g3.trans (q.below (Nat.le_trans hn0 g3.size) (fun _ _ h => h.elim))⟩
      · refine (park6_go (k := 1) (b := false) hb.1 hb.2.1 (Nat.le_trans hn0 hb.2.2.size) (.inr hk) hx (by simp [endsS, hk])).mono ?_
        rintro e b' ⟨rfl, q1, q2, q3⟩
        exact ⟨rfl, .inr ⟨rfl, by simpa using q1, q2, hb.2.2.trans q3⟩⟩
    · cases e
  · rcases hj with ⟨e, _⟩ | ⟨_, _, g2, _⟩
    · cases e
    · exact g2.task
  · rcases hj with ⟨e, _⟩ | ⟨_, g1, g2, g3⟩
    · cases e
    · exact .inr ⟨rfl, g1.still hk2, g2.still hk2, g3.trans (hk2.below (Nat.le_trans hn0 g3.size) (fun _ _ h => h.elim))⟩
  · rintro e w' ⟨rfl, hj⟩
    rcases hj with ⟨e, _⟩ | ⟨_, g1, g2, g3⟩
    · cases e
    · exact ⟨rfl, g1, g3⟩
/-- .. and then an operation -/
theorem run_two {n0 : Nat} {w : World} {C S P R t : Nat} {cs : List Nat} {ps : List Bool} {n : Int} {v : Int} (h : Env6 n0 w C S P R cs [6] ps n) (hT : T6 n0 w C S P R cs t [pk0, ad4] v) (hn0 : n0 ≤ w.heap.size) (hx : ps[0]? = some false) (hn : 0 ≤ n ∧ n ≤ 1000) :
    Calls Try.prog 31 #[pV t] w fun e w' => e = .returned (.int .i64 10) ∧ Env6 n0 w' C S P R cs [10] ps (n + 1) ∧ Below n0 w w' := by
  refine (run_drive C P t 10 2 (fun k a => (k = 2 ∧ Env6 n0 a C S P R cs [6] ps n ∧ T6 n0 a C S P R cs t [pk0, ad4] v ∧ Below n0 w a) ∨ (k = 1 ∧ Env6 n0 a C S P R cs [6] ps n ∧ T6 n0 a C S P R cs t [ad4] 1 ∧ Below n0 w a) ∨ (k = 0 ∧ Env6 n0 a C S P R cs [10] ps (n + 1) ∧ T6 n0 a C S P R cs t [] 10 ∧ Below n0 w a)) w (.inl ⟨rfl, h, hT, Below.refl _ _⟩) (fun k a hj => ?_) (fun a hj => ?_) (fun a b hj hk2 => ?_)).mono ?_
  · rcases hj with ⟨e, g1, g2, g3⟩ | ⟨e, g1, g2, g3⟩ | ⟨e, _⟩
    · obtain rfl : k = 1 := by omega
      refine .inr ⟨fun b => Env6 n0 b C S P R cs [6] ps n ∧ T6 n0 b C S P R cs t [pk0, ad4] v ∧ Below n0 w b, (park6_no (k := 0) (b := false) g1 g2 (.inr rfl) hx (by simp [endsS])).mono ?_, fun b hb => ?_⟩
      · rintro e b ⟨rfl, q⟩
        exact ⟨rfl, g1.still q, g2.still q, g3.trans (q.below (Nat.le_trans hn0 g3.size) (fun _ _ h => h.elim))⟩
      · refine (park6_go (k := 1) (b := false) hb.1 hb.2.1 (Nat.le_trans hn0 hb.2.2.size) (.inr rfl) hx (by decide)).mono ?_
        rintro e b' ⟨rfl, q1, q2, q3⟩
        exact ⟨rfl, .inr (.inl ⟨rfl, by simpa using q1, q2, hb.2.2.trans q3⟩)⟩
    · obtain rfl : k = 0 := by omega
      have hs := g3.size
      have hst := step6 (x := ad4) g1 g2 (by omega) (by decide) ⟨hn.1, by omega⟩
      rw [op_ad, show countS [6] ad4 = 1 by decide] at hst
      refine .inl (hst.mono ?_)
      rintro e b ⟨rfl, q1, q2, q3⟩
      exact ⟨rfl, .inr (.inr ⟨rfl, q1, q2, g3.trans q3⟩)⟩
    · cases e
  · rcases hj with ⟨e, _⟩ | ⟨e, _⟩ | ⟨_, _, g2, _⟩
    · cases e
    · cases e
    · exact g2.task
  · rcases hj with ⟨e, _⟩ | ⟨e, _⟩ | ⟨_, g1, g2, g3⟩
    · cases e
    · cases e
    · exact .inr (.inr ⟨rfl, g1.still hk2, g2.still hk2, g3.trans (hk2.below (Nat.le_trans hn0 g3.size) (fun _ _ h => h.elim))⟩)
  · rintro e w' ⟨rfl, hj⟩
    rcases hj with ⟨e, _⟩ | ⟨e, _⟩ | ⟨_, g1, g2, g3⟩
    · cases e
    · cases e
    · exact ⟨rfl, g1, g3⟩
set_option maxHeartbeats 8000000 in
theorem known_law (w : World) : Calls Try.prog 8 #[] w fun e w' => e = .returned (.bool true) ∧ Below w.heap.size w w' := by
  have hN := Lib.hid (new_some 1 w (by omega))
  have hPN := Lib.hid fun W => pnew_some 2 W (by omega) (by omega)
  go_enter Try.func8, Try.ntmps8
  go_upto_region 3 with (first
    | (go_at_call 35; refine hN.out.mono ?_; rintro e w1 ⟨rfl, hC1, b1⟩)
    | (go_at_call 39; refine (hPN.out _).mono ?_; rintro e w2 ⟨rfl, ⟨cs, hP2, hcs⟩, b2⟩))
  have s1 := b1.size
  have s2 := b2.size
  have E2 : Env6 w.heap.size w2 (w.heap.size + 1) w.heap.size (w1.heap.size + 1) w1.heap.size cs [0] [false, false] 0 := ⟨hC1.keep (Keep.ofBelow (Q := fun _ => False) b2) (fun h => h) (fun h => h), hP2, by omega, by omega, by omega, by omega, fun c hc => by have := hcs c hc; omega⟩
  have B2 : Below w.heap.size w w2 := b1.trans (b2.mono s1)
  clear hC1 hP2 hcs b1 b2 hN hPN
  generalize w.heap.size + 1 = C at *
  generalize w1.heap.size + 1 = P at *
  generalize w1.heap.size = R at *
  have hSt := Lib.hid (store6 E2 0 0 6 rfl (by omega) (by omega))
  clear E2
  go_upto_region 4 with (go_at_call 36; refine hSt.out.mono ?_; rintro e w3 ⟨rfl, E3, k3⟩)
  have B3 : Below w.heap.size w w3 := B2.trans (k3.below (by omega) (fun i _ hi => by
    have := E3.lo
    rcases hi with rfl | rfl
    · exact this.1
    · exact this.2.1))
  have s3 := B3.size
  replace E3 : Env6 w.heap.size w3 C w.heap.size P R cs [6] [false, false] 1 := E3
  clear k3 hSt B2 s1 s2
  have hC3 := E3.c.own.lt
  have hS3 := E3.c.row.lt
  have hCl := E3.lo.1
  -- a
  have HA : Hid (Calls Try.prog 44 #[cellsV C, .int .i64 0] w3 fun e w' => ∃ t, e = .returned (pV t) ∧ Made6 w3 C P (fun b => w3.heap.size ≤ b) [ld0] 0 t w') := Lib.hid (tLoad_any C P (fun b => w3.heap.size ≤ b) ld0 w3 rfl (fun k hk => hk))
  have HSQ : Hid (∀ (w4 w5 : World) (t1 t2 : Nat), Made6 w3 C P (fun b => w3.heap.size ≤ b) [ld0] 0 t1 w4 → Made6 w4 C P (fun b => w3.heap.size ≤ b) [] 3 t2 w5 → Calls Try.prog 40 #[.slice (some ⟨w5.heap.size, 0, none⟩) 3 3] (w5.alloc (.cells #[pV t1, .pointer none, pV t2] 56)) fun e w' => ∃ t, e = .returned (pV t) ∧ Made6 (w5.alloc (.cells #[pV t1, .pointer none, pV t2] 56)) C P (fun b => w3.heap.size ≤ b) [ld0, rd 0, rd 3] 0 t w') := Lib.hid fun w4 w5 t1 t2 hM4 hM5 =>
    (seq3 (n0 := 0) (elem_new hM4 (Keep.ofBelow hM5.2.2) hM4.1 (equiv_one (by decide))) elem_nil (elem_new hM5 (Keep.refl _ _) (Nat.le_trans hM4.2.2.size hM5.1) (equiv_ready (x := rd 3) rfl)) (fun k hk => Nat.le_trans hM4.2.2.size (Nat.le_trans hM5.2.2.size hk))).mono (by
      rintro e w' ⟨t, v, rfl, hM, _⟩
      exact ⟨t, rfl, hM.1, TaskIn.value hM.2.1 0 (fun h => by cases h), hM.2.2⟩)
  go_upto_region 5 with (first
    | (go_at_call 44; refine HA.out.mono ?_; rintro e w4 ⟨t1, rfl, hM4⟩; have HM4 := Lib.hid hM4; clear hM4)
    | (go_at_call 42; refine (tready_any C P (fun b => w3.heap.size ≤ b) _ _).mono ?_; rintro e w5 ⟨t2, rfl, hM5⟩; have HM5 := Lib.hid hM5; have HS := Lib.hid (HSQ.out w4 w5 t1 t2 HM4.out hM5); clear hM5)
    | (go_at_call 40; refine HS.out.mono ?_; rintro e w6 ⟨a, rfl, hM6⟩))
  have ka : Keep (fun _ => False) w5 (w5.alloc (.cells #[pV t1, .pointer none, pV t2] 56)) := (Keep.refl _ _).alloc _
  have k36 : Keep (fun _ => False) w3 w6 := (Keep.ofBelow HM4.out.2.2).trans ((Keep.ofBelow HM5.out.2.2).trans (ka.trans (Keep.ofBelow hM6.2.2)))
  have E6 := Lib.hid (E3.still k36)
  have Ta : Hid (T7 w.heap.size w6 C w.heap.size P R cs a [ld0, rd 0, rd 3] 0 w3.heap.size w6.heap.size) := Lib.hid (T7.new E3 s3 hM6 (by have h1 := HM4.out.2.2.size; have h2 := HM5.out.2.2.size; have h3 := ka.size; have h4 := hM6.1; omega))
  have B6 : Below w.heap.size w w6 := B3.trans (k36.below s3 (fun _ _ h => h.elim))
  have s6 := B6.size
  have s36 := k36.size
  clear hM6 HM4 HM5 HA HS HSQ ka k36 E3 B3
  -- b
  have HSB : Hid (∀ (w7 w8 : World) (t1 t2 : Nat), Made6 w6 C P (fun b => w6.heap.size ≤ b) [] 8 t1 w7 → Made6 w7 C P (fun b => w6.heap.size ≤ b) [] 0 t2 w8 → Calls Try.prog 40 #[.slice (some ⟨w8.heap.size, 0, none⟩) 3 3] (w8.alloc (.cells #[.pointer none, pV t1, pV t2] 56)) fun e w' => ∃ t, e = .returned (pV t) ∧ Made6 (w8.alloc (.cells #[.pointer none, pV t1, pV t2] 56)) C P (fun b => w6.heap.size ≤ b) [] 0 t w') := Lib.hid fun w7 w8 t1 t2 hM7 hM8 =>
    (seq3 (n0 := 0) elem_nil (elem_new hM7 (Keep.ofBelow hM8.2.2) hM7.1 (equiv_ready (x := rd 8) rfl)) (elem_new hM8 (Keep.refl _ _) (Nat.le_trans hM7.2.2.size hM8.1) (equiv_ready (x := rd 0) rfl)) (fun k hk => Nat.le_trans hM7.2.2.size (Nat.le_trans hM8.2.2.size hk))).mono (by
      rintro e w' ⟨t, v, rfl, hM, hv⟩
      obtain rfl : v = 0 := hv rfl
      exact ⟨t, rfl, hM⟩)
  go_upto_region 6 with (first
    | (go_at_call 42; refine (tready_any C P (fun b => w6.heap.size ≤ b) _ _).mono ?_; rintro e w7 ⟨t3, rfl, hM7⟩; have HM7 := Lib.hid hM7; clear hM7)
    | (go_at_call 40; (with_reducible refine (seq_none C P (fun b => w6.heap.size ≤ b) w7).mono ?_); rintro e w8 ⟨t4, rfl, hM8⟩; have HM8 := Lib.hid hM8; have HS := Lib.hid (HSB.out w7 w8 t3 t4 HM7.out hM8); clear hM8)
    | (go_at_call 40; refine HS.out.mono ?_; rintro e w9 ⟨b, rfl, hM9⟩))
  have ka : Keep (fun _ => False) w8 (w8.alloc (.cells #[.pointer none, pV t3, pV t4] 56)) := (Keep.refl _ _).alloc _
  have k69 : Keep (fun _ => False) w6 w9 := (Keep.ofBelow HM7.out.2.2).trans ((Keep.ofBelow HM8.out.2.2).trans (ka.trans (Keep.ofBelow hM9.2.2)))
  have E9 := Lib.hid (E6.out.still k69)
  have Ta9 := Lib.hid (Ta.out.keep k69 (fun _ _ _ h => h))
  have Tb : Hid (T7 w.heap.size w9 C w.heap.size P R cs b [] 0 w6.heap.size w9.heap.size) := Lib.hid (T7.new E6.out s6 hM9 (by have h1 := HM7.out.2.2.size; have h2 := HM8.out.2.2.size; have h3 := ka.size; have h4 := hM9.1; omega))
  have B9 : Below w.heap.size w w9 := B6.trans (k69.below s6 (fun _ _ h => h.elim))
  have s9 := B9.size
  have s69 := k69.size
  clear hM9 HM7 HM8 HS HSB ka k69 E6 B6 Ta
  -- d e f
  have HD : Hid (Calls Try.prog 44 #[cellsV C, .int .i64 0] w9 fun e w' => ∃ t, e = .returned (pV t) ∧ Made6 w9 C P (fun b => w9.heap.size ≤ b) [ld0] 0 t w') := Lib.hid (tLoad_any C P (fun b => w9.heap.size ≤ b) ld0 w9 rfl (fun k hk => hk))
  go_upto_region 7 with (go_at_call 44; refine HD.out.mono ?_; rintro e w10 ⟨d, rfl, hM10⟩)
  have k10 : Keep (fun _ => False) w9 w10 := Keep.ofBelow hM10.2.2
  have E10 := Lib.hid (E9.out.still k10)
  have Td : Hid (T7 w.heap.size w10 C w.heap.size P R cs d [ld0] 0 w9.heap.size w10.heap.size) := Lib.hid (T7.new E9.out s9 hM10 hM10.1)
  have B10 : Below w.heap.size w w10 := B9.trans (k10.below s9 (fun _ _ h => h.elim))
  have s10 := B10.size
  have s910 := k10.size
  have HE : Hid (Calls Try.prog 45 #[cellsV C, .int .i64 4, .int .u64 1] w10 fun e w' => ∃ t, e = .returned (pV t) ∧ Made6 w10 C P (fun b => w10.heap.size ≤ b) [st4] 0 t w') := Lib.hid (tStore_any C P (fun b => w10.heap.size ≤ b) st4 w10 rfl (fun k hk => hk))
  have Ta10 := Lib.hid (Ta9.out.keep k10 (fun _ _ _ h => h))
  have Tb10 := Lib.hid (Tb.out.keep k10 (fun _ _ _ h => h))
  clear HD hM10 k10 E9 Ta9 Tb B9
  go_upto_region 8 with (go_at_call 45; refine HE.out.mono ?_; rintro e w11 ⟨ee, rfl, hM11⟩)
  have k11 : Keep (fun _ => False) w10 w11 := Keep.ofBelow hM11.2.2
  have E11 := Lib.hid (E10.out.still k11)
  have Te : Hid (T7 w.heap.size w11 C w.heap.size P R cs ee [st4] 0 w10.heap.size w11.heap.size) := Lib.hid (T7.new E10.out s10 hM11 hM11.1)
  have B11 : Below w.heap.size w w11 := B10.trans (k11.below s10 (fun _ _ h => h.elim))
  have s11 := B11.size
  have s1011 := k11.size
  have HF : Hid (Calls Try.prog 46 #[cellsV C, .int .i64 0, .int .u64 5, .int .u64 1] w11 fun e w' => ∃ t, e = .returned (pV t) ∧ Made6 w11 C P (fun b => w11.heap.size ≤ b) [sw0] 0 t w') := Lib.hid (tSwap_any C P (fun b => w11.heap.size ≤ b) sw0 w11 rfl (fun k hk => hk))
  have Ta11 := Lib.hid (Ta10.out.keep k11 (fun _ _ _ h => h))
  have Tb11 := Lib.hid (Tb10.out.keep k11 (fun _ _ _ h => h))
  have Td11 := Lib.hid (Td.out.keep k11 (fun _ _ _ h => h))
  clear HE hM11 k11 E10 Ta10 Tb10 Td B10
  go_upto_region 9 with (go_at_call 46; refine HF.out.mono ?_; rintro e w12 ⟨ff, rfl, hM12⟩)
  have k12 : Keep (fun _ => False) w11 w12 := Keep.ofBelow hM12.2.2
  have E12 := Lib.hid (E11.out.still k12)
  have Tf : Hid (T7 w.heap.size w12 C w.heap.size P R cs ff [sw0] 0 w11.heap.size w12.heap.size) := Lib.hid (T7.new E11.out s11 hM12 hM12.1)
  have B12 : Below w.heap.size w w12 := B11.trans (k12.below s11 (fun _ _ h => h.elim))
  have s12 := B12.size
  have s1112 := k12.size
  have Ta12 := Lib.hid (Ta11.out.keep k12 (fun _ _ _ h => h))
  have Tb12 := Lib.hid (Tb11.out.keep k12 (fun _ _ _ h => h))
  have Td12 := Lib.hid (Td11.out.keep k12 (fun _ _ _ h => h))
  have Te12 := Lib.hid (Te.out.keep k12 (fun _ _ _ h => h))
  clear HF hM12 k12 E11 Ta11 Tb11 Td11 Te B11
  have ia := Ta12.out.in
  have ib := Tb12.out.in
  have id' := Td12.out.in
  have ie := Te12.out.in
  have if' := Tf.out.in
  have SA := Lib.hid (step7 (x := ld0) E12.out Ta12.out (by decide) (by rw [op_ld]) (by rw [op_ld]; rfl) ⟨by omega, by omega⟩)
  rw [op_ld, show countS [6] ld0 = 1 by decide, show (onS [rd 0, rd 3] (([6], 6, true) : List Int × Int × Bool).2.1).2 = 3 from rfl] at SA
  have KF : Hid (∀ (u lo hi : Nat), u < lo ∨ hi ≤ u → w3.heap.size ≤ lo → ∀ b, lo ≤ b → b < hi → ¬ (b = u ∨ ofCells C w.heap.size b)) := Lib.hid (fun u lo hi hu hl b h1 h2 e => by
    rcases e with e | e | e <;> omega)
  clear E12 Ta12
  go_upto_region 10 with (first
    | (go_at_call 27; (with_reducible refine SA.out.mono ?_); rintro e w13 ⟨rfl, E13, da, k13⟩; have DA := Lib.hid (doneV_done _ _ w13 da); have VA := Lib.hid (doneV_value _ _ w13 da); have Tb13 := Lib.hid (Tb12.out.keep k13 (KF.out a _ _ (by omega) (by omega))); have Td13 := Lib.hid (Td12.out.keep k13 (KF.out a _ _ (by omega) (by omega))); have Te13 := Lib.hid (Te12.out.keep k13 (KF.out a _ _ (by omega) (by omega))); have Tf13 := Lib.hid (Tf.out.keep k13 (KF.out a _ _ (by omega) (by omega))); have DB := Lib.hid (done6 Tb13.out.t6); have VB := Lib.hid (value6 Tb13.out.t6); rw [show valueS [] 0 = 0 from rfl] at VB; have B13 := Lib.hid (B12.trans (k13.below s12 (fun i _ hi => by rcases hi with hi | hi | hi <;> omega))); have SD := Lib.hid (step7 (x := ld0) E13 Td13.out (by decide) (by rw [op_ld]) (by rw [op_ld]; rfl) ⟨by omega, by omega⟩); rw [op_ld, show countS [6] ld0 = 1 by decide, show (onS [] (([6], 6, true) : List Int × Int × Bool).2.1).2 = 6 from rfl] at SD; clear da k13 E13)
    | (go_at_call 29; (with_reducible refine DA.out.mono ?_); rintro e w14 ⟨rfl, rfl⟩)
    | (go_at_call 32; (with_reducible refine VA.out.mono ?_); rintro e w14 ⟨rfl, rfl⟩)
    | (go_at_call 29; (with_reducible refine DB.out.mono ?_); rintro e w14 ⟨rfl, rfl⟩)
    | (go_at_call 32; (with_reducible refine VB.out.mono ?_); rintro e w14 ⟨rfl, rfl⟩)
    | (go_at_call 27; (with_reducible refine SD.out.mono ?_); rintro e w15 ⟨rfl, E15, dd, k15⟩; have VD := Lib.hid (doneV_value _ _ w15 dd); have Te15 := Lib.hid (Te13.out.keep k15 (KF.out d _ _ (by omega) (by omega))); have Tf15 := Lib.hid (Tf13.out.keep k15 (KF.out d _ _ (by omega) (by omega))); have B15 := Lib.hid (B13.out.trans (k15.below B13.out.size (fun i _ hi => by rcases hi with hi | hi | hi <;> omega))); have SE := Lib.hid (step7 (x := st4) E15 Te15.out (by decide) (by rw [op_st]) (by rw [op_st]; rfl) ⟨by omega, by omega⟩); rw [op_st, show countS [6] st4 = 0 by decide, show (onS [] (([6], 0, true) : List Int × Int × Bool).2.1).2 = 0 from rfl] at SE; clear dd k15 E15)
    | (go_at_call 32; (with_reducible refine VD.out.mono ?_); rintro e w16 ⟨rfl, rfl⟩)
    | (go_at_call 27; (with_reducible refine SE.out.mono ?_); rintro e w17 ⟨rfl, E17, de, k17⟩; have DE := Lib.hid (doneV_done _ _ w17 de); have VE := Lib.hid (doneV_value _ _ w17 de); have Tf17 := Lib.hid (Tf15.out.keep k17 (KF.out ee _ _ (by omega) (by omega))); have B17 := Lib.hid (B15.out.trans (k17.below B15.out.size (fun i _ hi => by rcases hi with hi | hi | hi <;> omega))); have SF := Lib.hid (step7 (x := sw0) E17 Tf17.out (by decide) (by rw [op_sw]) (by rw [op_sw]; rfl) ⟨by omega, by omega⟩); rw [op_sw, show countS [6] sw0 = 1 by decide, show (onS [] (([6], 0, true) : List Int × Int × Bool).2.1).2 = 0 from rfl] at SF; clear de k17 E17)
    | (go_at_call 29; (with_reducible refine DE.out.mono ?_); rintro e w18 ⟨rfl, rfl⟩)
    | (go_at_call 32; (with_reducible refine VE.out.mono ?_); rintro e w18 ⟨rfl, rfl⟩)
    | (go_at_call 27; (with_reducible refine SF.out.mono ?_); rintro e w19 ⟨rfl, E19, df, k19⟩; have DF := Lib.hid (doneV_done _ _ w19 df); have VF := Lib.hid (doneV_value _ _ w19 df); have B19 := Lib.hid (B17.out.trans (k19.below B17.out.size (fun i _ hi => by rcases hi with hi | hi | hi <;> omega))); have HE19 := Lib.hid E19; clear df k19 E19)
    | (go_at_call 29; (with_reducible refine DF.out.mono ?_); rintro e w20 ⟨rfl, rfl⟩)
    | (go_at_call 32; (with_reducible refine VF.out.mono ?_); rintro e w20 ⟨rfl, rfl⟩))
  have E19 : Env6 w.heap.size w19 C w.heap.size P R cs [6] [false, false] 4 := HE19.out
  have BB := B19.out
  clear SA SD SE SF DA VA DB VB VD DE VE DF VF Tb12 Tb13 Td12 Td13 Te12 Te13 Te15 Tf Tf13 Tf15 Tf17 B13 B15 B17 B19 HE19 KF ia ib id' ie if' B12
  have sB := BB.size
  have HG := Lib.hid (give_any P R cs [false, false] 1 false w19 E19.p rfl)
  have hCn := E19.p.notin E19.c.own
  have hSn := E19.p.notin E19.c.row
  have HE19 := Lib.hid E19
  clear E19
  go_upto_region 11 with (go_at_call 26; refine HG.out.mono ?_; rintro e w20 ⟨rfl, hP20, k20⟩)
  have E20 : Env6 w.heap.size w20 C w.heap.size P R cs [6] [false, true] 4 := ⟨HE19.out.c.keep k20 hCn hSn, hP20, HE19.out.lo⟩
  have B20 : Below w.heap.size w w20 := BB.trans (k20.below sB (fun i _ hi => E20.lo.2.2.2.2 i hi))
  have s20 := B20.size
  have HE20 := Lib.hid E20
  have HK1 : Hid (Calls Try.prog 41 #[permitsV P, .int .i64 0, .bool true] w20 fun e w' => ∃ t, e = .returned (pV t) ∧ Made6 w20 C P (fun b => w20.heap.size ≤ b) [pk0] 0 t w') := Lib.hid (tpark_any C P (fun b => w20.heap.size ≤ b) pk0 w20 (.inr rfl) (fun k hk => hk))
  have HK2 : Hid (∀ w21, w20.heap.size ≤ w21.heap.size → Calls Try.prog 47 #[cellsV C, .int .i64 0, .int .u64 4] w21 fun e w' => ∃ t, e = .returned (pV t) ∧ Made6 w21 C P (fun b => w20.heap.size ≤ b) [ad4] 0 t w') := Lib.hid fun w21 hw => tAdd_any C P (fun b => w20.heap.size ≤ b) ad4 w21 rfl (fun k hk => Nat.le_trans hw hk)
  have HSF : Hid (∀ (w21 w22 : World) (t1 t2 : Nat), Made6 w20 C P (fun b => w20.heap.size ≤ b) [pk0] 0 t1 w21 → Made6 w21 C P (fun b => w20.heap.size ≤ b) [ad4] 0 t2 w22 → Calls Try.prog 40 #[.slice (some ⟨w22.heap.size, 0, none⟩) 2 2] (w22.alloc (.cells #[pV t1, pV t2] 56)) fun e w' => ∃ t, e = .returned (pV t) ∧ Made6 (w22.alloc (.cells #[pV t1, pV t2] 56)) C P (fun b => w20.heap.size ≤ b) [pk0, ad4] 0 t w') := Lib.hid fun w21 w22 t1 t2 hM1 hM2 => seq2 (wa := w20) (x := pk0) (y := ad4) (by decide) (by decide) hM1 hM1.1 hM2 (Nat.le_trans hM1.2.2.size hM2.1) (fun k hk => Nat.le_trans hM1.2.2.size (Nat.le_trans hM2.2.2.size hk))
  have HRA : Hid (∀ (w21 w22 w23 : World) (t1 t2 t : Nat), Made6 w20 C P (fun b => w20.heap.size ≤ b) [pk0] 0 t1 w21 → Made6 w21 C P (fun b => w20.heap.size ≤ b) [ad4] 0 t2 w22 → Made6 (w22.alloc (.cells #[pV t1, pV t2] 56)) C P (fun b => w20.heap.size ≤ b) [pk0, ad4] 0 t w23 → Calls Try.prog 31 #[pV t] w23 fun e w' => e = .returned (.int .i64 10) ∧ Env6 w.heap.size w' C w.heap.size P R cs [10] [false, true] 5 ∧ Below w.heap.size w w') := Lib.hid fun w21 w22 w23 t1 t2 t hM1 hM2 hM3 => by
    have ka : Keep (fun _ => False) w22 (w22.alloc (.cells #[pV t1, pV t2] 56)) := (Keep.refl _ _).alloc _
    have kk : Keep (fun _ => False) w20 w23 := (Keep.ofBelow hM1.2.2).trans ((Keep.ofBelow hM2.2.2).trans (ka.trans (Keep.ofBelow hM3.2.2)))
    have hb : Below w.heap.size w w23 := B20.trans (kk.below s20 (fun _ _ h => h.elim))
    have hT : T6 w.heap.size w23 C w.heap.size P R cs t [pk0, ad4] 0 := T6.new HE20.out s20 (fun b hb => hb) hM3 (by have h1 := hM1.2.2.size; have h2 := hM2.2.2.size; have h3 := ka.size; have h4 := hM3.1; omega)
    refine (run_two (HE20.out.still kk) hT hb.size rfl ⟨by omega, by omega⟩).mono ?_
    rintro e w' ⟨rfl, q1, q2⟩
    exact ⟨rfl, q1, hb.trans q2⟩
  have HPB : Hid (∀ W, Calls Try.prog 41 #[permitsV P, .int .i64 1, .bool false] W fun e w' => ∃ t, e = .returned (pV t) ∧ Made6 W C P (fun b => W.heap.size ≤ b) [pk1] 0 t w') := Lib.hid fun W => tpark_any C P (fun b => W.heap.size ≤ b) pk1 W (.inl rfl) (fun k hk => hk)
  have HPC : Hid (∀ W, Calls Try.prog 41 #[permitsV P, .int .i64 1, .bool true] W fun e w' => ∃ t, e = .returned (pV t) ∧ Made6 W C P (fun b => W.heap.size ≤ b) [pt1] 0 t w') := Lib.hid fun W => tpark_any C P (fun b => W.heap.size ≤ b) pt1 W (.inr rfl) (fun k hk => hk)
  have HRB : Hid (∀ (a b : World) (t : Nat), Env6 w.heap.size a C w.heap.size P R cs [10] [false, true] 5 → Below w.heap.size w a → Made6 a C P (fun b => a.heap.size ≤ b) [pk1] 0 t b → Calls Try.prog 31 #[pV t] b fun e w' => e = .returned (.int .i64 0) ∧ Env6 w.heap.size w' C w.heap.size P R cs [10] [false, false] 5 ∧ Below w.heap.size w w') := Lib.hid fun a b t hE hB hM => by
    have hb := hB.trans (hM.2.2.mono hB.size)
    refine (run_by (hE.still (Keep.ofBelow hM.2.2)) (T6.new hE hB.size (fun b hb => hb) hM hM.1) hb.size (.inl rfl) rfl).mono ?_
    rintro e w' ⟨rfl, q1, q2⟩
    exact ⟨rfl, q1, hb.trans q2⟩
  have HRC : Hid (∀ (a b : World) (t : Nat), Env6 w.heap.size a C w.heap.size P R cs [10] [false, false] 5 → Below w.heap.size w a → Made6 a C P (fun b => a.heap.size ≤ b) [pt1] 0 t b → Calls Try.prog 31 #[pV t] b fun e w' => e = .returned (.int .i64 1) ∧ Env6 w.heap.size w' C w.heap.size P R cs [10] [false, false] 5 ∧ Below w.heap.size w w') := Lib.hid fun a b t hE hB hM => by
    have hb := hB.trans (hM.2.2.mono hB.size)
    refine (run_time (hE.still (Keep.ofBelow hM.2.2)) (T6.new hE hB.size (fun b hb => hb) hM hM.1) hb.size rfl rfl).mono ?_
    rintro e w' ⟨rfl, q1, q2⟩
    exact ⟨rfl, q1, hb.trans q2⟩
  clear HE19 E20 hP20 k20 HG BB B20 sB
  go_upto_region 12 with (first
    | (go_at_call 41; (with_reducible refine HK1.out.mono ?_); rintro e w21 ⟨t5, rfl, hM21⟩; have HM21 := Lib.hid hM21; have HADD := Lib.hid (HK2.out w21 hM21.2.2.size); clear hM21)
    | (go_at_call 47; (with_reducible refine HADD.out.mono ?_); rintro e w22 ⟨t6, rfl, hM22⟩; have HM22 := Lib.hid hM22; have HSQ2 := Lib.hid (HSF.out w21 w22 t5 t6 HM21.out hM22); clear hM22)
    | (go_at_call 40; refine HSQ2.out.mono ?_; rintro e w23 ⟨t7, rfl, hM23⟩; have HR1 := Lib.hid (HRA.out w21 w22 w23 t5 t6 t7 HM21.out HM22.out hM23); clear hM23)
    | (go_at_call 31; (with_reducible refine HR1.out.mono ?_); rintro e w24 ⟨rfl, E24, B24⟩; have HE24 := Lib.hid E24; have HB24 := Lib.hid B24; have HK3 := Lib.hid (HPB.out w24); clear E24 B24)
    | (go_at_call 41; (with_reducible refine HK3.out.mono ?_); rintro e w25 ⟨t8, rfl, hM25⟩; have HR2 := Lib.hid (HRB.out w24 w25 t8 HE24.out HB24.out hM25); clear hM25)
    | (go_at_call 31; (with_reducible refine HR2.out.mono ?_); rintro e w26 ⟨rfl, E26, B26⟩; have HE26 := Lib.hid E26; have HB26 := Lib.hid B26; have HHas := Lib.hid (has_any P R cs [false, false] 1 false w26 E26.p rfl); have HK4 := Lib.hid (HPC.out w26); clear E26 B26)
    | (go_at_call 43; refine HHas.out.mono ?_; rintro e w27 ⟨rfl, rfl⟩)
    | (go_at_call 41; (with_reducible refine HK4.out.mono ?_); rintro e w28 ⟨t9, rfl, hM28⟩; have HR3 := Lib.hid (HRC.out w26 w28 t9 HE26.out HB26.out hM28); clear hM28)
    | (go_at_call 31; (with_reducible refine HR3.out.mono ?_); rintro e w29 ⟨rfl, E29, B29⟩; have HE29 := Lib.hid E29; have HB29 := Lib.hid B29; have HR4 := Lib.hid (run_nil w29); clear E29 B29)
    | (go_at_call 31; (with_reducible refine HR4.out.mono ?_); rintro e w30 ⟨rfl, k30⟩; have HE30 := Lib.hid (HE29.out.still k30); have HB30 := Lib.hid (HB29.out.trans (k30.below HB29.out.size (fun _ _ h => h.elim))); clear k30))
  have HWk := Lib.hid (works6_any w30)
  clear HRA HRB HRC HPB HPC HSF HK1 HK2 HK3 HK4 HR1 HR2 HR3 HR4 HHas HSQ2 HADD HM21 HM22 HE20 HE24 HE26 HE29 HB24 HB26 HB29
  have HNN : Hid (∀ W, Below w30.heap.size w30 W → Calls Try.prog 48 #[cellsV C] W fun e w' => e = .returned (.bool true) ∧ Below w.heap.size w w') := Lib.hid fun W hW => by
    have hE := HE30.out.still (Keep.ofBelow (Q := fun _ => False) hW)
    have hb := HB30.out.trans (hW.mono HB30.out.size)
    refine (nones_any C w.heap.size 10 5 W hE.c (by omega) (by omega)).mono ?_
    rintro e w' ⟨rfl, k⟩
    refine ⟨rfl, hb.trans (k.below hb.size (fun i _ hi => ?_))⟩
    have := hE.lo
    rcases hi with rfl | rfl
    · exact this.1
    · exact this.2.1
  go_wp2_with (first
    | (go_at_call 20; refine HWk.out.mono ?_; rintro e w31 ⟨rfl, b31⟩; have HN2 := Lib.hid (HNN.out w31 b31); clear b31)
    | (go_at_call 48; refine HN2.out.mono ?_; rintro e w32 ⟨rfl, B32⟩; have HB32 := Lib.hid B32; have SN := Lib.hid (step_done none 0 0 w32 (.inl ⟨rfl, rfl⟩)); clear B32)
    | (go_at_call 29; refine (done_nil _).mono ?_; rintro e w33 ⟨rfl, rfl⟩)
    | (go_at_call 32; (with_reducible refine (value_nil _).mono ?_); rintro e w33 ⟨rfl, rfl⟩)
    | (go_at_call 27; refine SN.out.mono ?_; rintro e w33 ⟨rfl, rfl⟩)
    | (go_at_call 38; refine (can_nil _ _).mono ?_; rintro e w33 ⟨rfl, rfl⟩)
    | (go_at_call 30; refine (parked_nil _).mono ?_; rintro e w33 ⟨rfl, rfl⟩)
    | (go_at_call 42; refine (ready_any _ _).mono ?_; rintro e w34 ⟨t10, rfl, g1, g2, g3⟩; have B34 := HB32.out.trans (g3.mono HB32.out.size); have VR := Lib.hid (value_any t10 _ _ _ (-5) w34 g2))
    | (go_at_call 32; refine VR.out.mono ?_; rintro e w35 ⟨rfl, rfl⟩))
  go_ret
  exact ⟨rfl, B34⟩
end Go.Proofs.Ytmkgbbbhmbejnaa
