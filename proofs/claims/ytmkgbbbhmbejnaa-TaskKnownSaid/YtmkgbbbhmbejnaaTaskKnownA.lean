/- Layer 6's law: TaskKnown: its parts. -/
import Derived.Test.YtmkgbbbhmbejnaaTaskNoneB
namespace Go.Proofs.Ytmkgbbbhmbejnaa
open Go.ChangeShapes Go.WideShapes Go.ChangeAt Go.RowKit
set_option linter.unusedVariables false
set_option maxRecDepth 100000
set_option linter.unusedSimpArgs false
def ld0 : Itm := ⟨0, 0, 0, 0⟩
def rd (v : Int) : Itm := ⟨7, 0, v, 0⟩
set_option maxHeartbeats 1000000 in
theorem nones_any (C S : Nat) (c : Int) (n : Int) (w : World) (hC : CellsAt w C S [c] n) (h0 : 0 ≤ n) (h1 : n < 1000000) :
    Calls Try.prog 48 #[cellsV C] w fun e w' => e = .returned (.bool true) ∧ Keep (ofCells C S) w w' := by
  have hCl := hC.own.lt
  have hSl := hC.row.lt
  have HC := Lib.hid hC
  have HO := Lib.hid (one_nil w)
  clear hC
  go_enter Try.func48, Try.ntmps48
  go_upto_region 2 with (first
    | (go_at_call 79; refine HO.out.mono ?_; rintro e w1 ⟨t1, b1, rfl, g1, g2, hb1, hL1, k1⟩; have s1 := k1.size; have HL := Lib.hid (tLoad_raw C (fun b => w1.heap.size ≤ b) ld0 w1 rfl (fun _ h => h)))
    | (go_at_call 44; refine HL.out.mono ?_; rintro e w2 ⟨t2, b2, F2, caps2, rfl, g3, g4, hb2, hL2, hc2, k2⟩; have s2 := k2.size; have HT := Lib.hid (then_nil t2 _ _ _ [] (fun b => w1.heap.size ≤ b) w2 ⟨hL2, .inl ⟨_, _, rfl, rfl⟩⟩ (.inl ⟨rfl, rfl⟩) (fun k hk => Nat.le_trans s2 hk)))
    | (go_at_call 73; refine HT.out.mono ?_; rintro e w3 ⟨t3, f3, j3, rfl, g5, g6, hf3, hL3, hT3, hft, k3⟩; have s3 := k3.size)
    | (go_at_call 71; refine (loop_nil _).mono ?_; rintro e w4 ⟨t4, rfl, g7, hd4, k4⟩; have s4 := k4.size))
  have l1 := hL1.blk.lt
  have l3 := hL3.blk.lt
  have lf := hf3.lt
  have K1 : Keep (fun _ => False) w w1 := Keep.ofBelow k1
  have K2 : Keep (fun _ => False) w1 w2 := Keep.ofBelow k2
  have K3 : Keep (fun _ => False) w2 w3 := Keep.ofBelow k3
  have K4 : Keep (fun _ => False) w3 w4 := Keep.ofBelow k4
  have hb1' := hb1.keep (K2.trans (K3.trans K4)) (fun h => h)
  have hL1' := hL1.keep (K2.trans (K3.trans K4)) (fun h => h)
  have hC4 := HC.out.keep (K1.trans (K2.trans (K3.trans K4))) (fun h => h) (fun h => h)
  have S1 := Lib.hid (one_nil_step t1 b1 w4 hL1' hb1')
  have HX : Hid (∀ w5, Keep (fun k => k = t1) w4 w5 → Calls Try.prog 27 #[pV t3, .int .i64 0] w5 fun e w' => e = .returned (.bool true) ∧ DoneV w' (some ⟨t3, 0, none⟩) 0 ∧ CellsAt w' C S (operS [c] ld0).1 (n + countS [c] ld0) ∧ Keep (fun k => k = t3 ∨ ofCells C S k) w5 w') := Lib.hid fun w5 k5 => by
    have l5 := k5.size
    have hlow : ∀ b, w1.heap.size ≤ b → b ≠ t1 := fun b hb => by omega
    have K35 : Keep (fun k => k = t1) w3 w5 := (K4.mono (fun _ _ h => h.elim)).trans k5
    have K25 : Keep (fun k => k = t1) w2 w5 := (K3.mono (fun _ _ h => h.elim)).trans K35
    exact then_nil_step C S t3 b2 F2 f3 caps2 j3 (fun b => w1.heap.size ≤ b ∧ b ≠ t3) ld0 [c] n w5 (hL3.keep K35 (by omega)) (hb2.keep K25 (by omega)) (hc2.keep (Q' := fun b => w1.heap.size ≤ b ∧ b ≠ t3) K25 (fun b hb => hlow b hb) (fun b hb h => ⟨h, by omega⟩))
      (hT3.keep K35 (fun b hb => hlow b hb.1)) (hf3.keep K35 (by omega)) (fun h => h.2 rfl) hft (fun b hb => ⟨by omega, by omega⟩) ⟨by omega, by omega⟩ ⟨by omega, by omega⟩ (hC4.keep k5 (by omega) (by omega)) h0 (by omega)
  have HD4 : Hid (∀ w5 w6, Keep (fun k => k = t1) w4 w5 → Keep (fun k => k = t3 ∨ ofCells C S k) w5 w6 → DoneV w6 (some ⟨t4, 0, none⟩) 0) := Lib.hid fun w5 w6 k5 k6 =>
    (hd4.keep k5 (fun k e h => by injection e with e; injection e with e; omega)).keep k6 (fun k e h => by
      injection e with e; injection e with e
      rcases h with h | h | h <;> omega)
  have KA : Hid (Keep (fun _ => False) w w4) := Lib.hid (K1.trans (K2.trans (K3.trans K4)))
  have hsz : w.heap.size ≤ t1 ∧ w.heap.size ≤ t3 := ⟨by omega, by omega⟩
  clear hb1 hL1 hb2 hL2 hc2 hL3 hT3 hf3 hd4 hb1' hL1' hC4 K1 K2 K3 K4 k1 k2 k3 k4 HO HL HT
  go_wp2_with (first
    | (go_at_call 27; (with_reducible refine S1.out.mono ?_); rintro e w5 ⟨rfl, hd5, k5⟩; have HK5 := Lib.hid k5; have D5 := Lib.hid (doneV_done _ _ w5 hd5); have V5 := Lib.hid (doneV_value _ _ w5 hd5); have S2 := Lib.hid (HX.out w5 k5); clear k5 hd5)
    | (go_at_call 29; (with_reducible refine D5.out.mono ?_); rintro e w6 ⟨rfl, rfl⟩)
    | (go_at_call 32; (with_reducible refine V5.out.mono ?_); rintro e w6 ⟨rfl, rfl⟩)
    | (go_at_call 27; (with_reducible refine S2.out.mono ?_); rintro e w7 ⟨rfl, hd7, _, k7⟩; have HK7 := Lib.hid k7; have D7 := Lib.hid (doneV_done _ _ w7 hd7); have V7 := Lib.hid (doneV_value _ _ w7 hd7); have D8 := Lib.hid (doneV_done _ _ w7 (HD4.out _ _ HK5.out k7)); have V8 := Lib.hid (doneV_value _ _ w7 (HD4.out _ _ HK5.out k7)); clear k7 hd7)
    | (go_at_call 29; (with_reducible refine D7.out.mono ?_); rintro e w8 ⟨rfl, rfl⟩)
    | (go_at_call 32; (with_reducible refine V7.out.mono ?_); rintro e w8 ⟨rfl, rfl⟩)
    | (go_at_call 29; (with_reducible refine D8.out.mono ?_); rintro e w8 ⟨rfl, rfl⟩)
    | (go_at_call 32; (with_reducible refine V8.out.mono ?_); rintro e w8 ⟨rfl, rfl⟩))
  go_ret
  refine ⟨rfl, ((KA.out.mono (fun _ _ h => h.elim)).step (HK5.out) (fun i hi e => ?_)).step HK7.out (fun i hi e => ?_)⟩
  · omega
  · rcases e with e | e
    · omega
    · exact e
/-- tasks that lie each in blocks of their own -/
def T7 (n0 : Nat) (w : World) (C S P R : Nat) (cs : List Nat) (t : Nat) (r : List Itm) (v : Int) (lo hi : Nat) : Prop :=
  ∃ Q, TaskG w C P t Q r v ∧ ∀ b, Q b → (n0 ≤ b ∧ b ≠ C ∧ b ≠ S ∧ b ≠ P ∧ b ≠ R ∧ b ∉ cs) ∧ lo ≤ b ∧ b < hi
theorem T7.t6 {n0 : Nat} {w : World} {C S P R t lo hi : Nat} {cs : List Nat} {r : List Itm} {v : Int} (h : T7 n0 w C S P R cs t r v lo hi) : T6 n0 w C S P R cs t r v := by
  obtain ⟨Q, h1, h2⟩ := h
  exact ⟨Q, h1, fun b hb => (h2 b hb).1⟩
theorem T7.keep {n0 : Nat} {w w1 : World} {C S P R t lo hi : Nat} {cs : List Nat} {r : List Itm} {v : Int} {F : Nat → Prop} (h : T7 n0 w C S P R cs t r v lo hi) (hk : Keep F w w1) (hn : ∀ b, lo ≤ b → b < hi → ¬ F b) : T7 n0 w1 C S P R cs t r v lo hi := by
  obtain ⟨Q, h1, h2⟩ := h
  exact ⟨Q, h1.keep hk (fun b hb => hn b (h2 b hb).2.1 (h2 b hb).2.2), h2⟩
theorem T7.in {n0 : Nat} {w : World} {C S P R t lo hi : Nat} {cs : List Nat} {r : List Itm} {v : Int} (h : T7 n0 w C S P R cs t r v lo hi) : lo ≤ t ∧ t < hi := by
  obtain ⟨Q, h1, h2⟩ := h
  exact (h2 t h1.own).2
theorem Env6.lt {n0 : Nat} {w : World} {C S P R : Nat} {cs : List Nat} {m : List Int} {ps : List Bool} {n : Int} (h : Env6 n0 w C S P R cs m ps n) (b : Nat) (hb : w.heap.size ≤ b) : b ≠ C ∧ b ≠ S ∧ b ≠ P ∧ b ≠ R ∧ b ∉ cs := by
  have h1 := h.c.own.lt
  have h2 := h.c.row.lt
  have h3 := h.p.own.lt
  have h4 := h.p.row.lt
  refine ⟨by omega, by omega, by omega, by omega, fun hc => ?_⟩
  obtain ⟨i, hi⟩ := List.mem_iff_getElem?.1 hc
  have hlt := (List.getElem?_eq_some_iff.1 hi).1
  obtain ⟨s, r, hx⟩ := h.p.chan i b (ps[i]'(by rw [← h.p.len]; exact hlt)) hi (by simp)
  have := (Array.getElem?_eq_some_iff.1 hx).1
  omega
theorem T7.new {n0 : Nat} {w w1 w' : World} {C S P R : Nat} {cs : List Nat} {m : List Int} {ps : List Bool} {n : Int} {r : List Itm} {v : Int} {t : Nat} (h : Env6 n0 w C S P R cs m ps n) (hn : n0 ≤ w.heap.size) (hM : Made6 w1 C P (fun b => w.heap.size ≤ b) r v t w') (ht : w.heap.size ≤ t) : T7 n0 w' C S P R cs t r v w.heap.size w'.heap.size :=
  ⟨_, hM.taskG ht, fun b hb => ⟨⟨by omega, h.lt b hb.1⟩, hb.1, hb.2⟩⟩
/-- a step of one of them -/
theorem step7 {n0 : Nat} {w : World} {C S P R t lo hi : Nat} {cs : List Nat} {m : List Int} {ps : List Bool} {n : Int} {x : Itm} {r : List Itm} {v : Int} (h : Env6 n0 w C S P R cs m ps n) (hT : T7 n0 w C S P R cs t (x :: r) v lo hi) (hk : x.kind < 5) (ho : (operS m x).2.2 = true) (hr : (onS r (operS m x).2.1).1 = []) (hn : 0 ≤ n ∧ n ≤ 2000000) :
    Calls Try.prog 27 #[pV t, .int .i64 0] w fun e w' => e = .returned (.bool true) ∧ Env6 n0 w' C S P R cs (operS m x).1 ps (n + countS m x) ∧ DoneV w' (some ⟨t, 0, none⟩) (onS r (operS m x).2.1).2 ∧ Keep (fun b => b = t ∨ ofCells C S b) w w' := by
  obtain ⟨Q, h1, h2⟩ := hT
  have ht := (h2 t h1.own).1
  refine (op_yes C P S t Q x r v m n w h1 h.c hk (fun b hb => ⟨(h2 b hb).1.2.1, (h2 b hb).1.2.2.1⟩) hn).mono ?_
  rintro e w' ⟨rfl, ⟨Q', g1, g2⟩, g3, g4⟩
  rw [ho, if_pos rfl, hr] at g1
  exact ⟨rfl, h.turn g4 ⟨ht.2.2.2.1, ht.2.2.2.2.1, ht.2.2.2.2.2⟩ g3, g1.done, g4⟩
/-- a parking ends: the cells stay -/
theorem park6_go {n0 : Nat} {w : World} {C S P R t : Nat} {cs : List Nat} {m : List Int} {ps : List Bool} {n : Int} {x : Itm} {r : List Itm} {v k : Int} {b : Bool} (h : Env6 n0 w C S P R cs m ps n) (hT : T6 n0 w C S P R cs t (x :: r) v) (hn0 : n0 ≤ w.heap.size) (hk : x.kind = 5 ∨ x.kind = 6) (hx : ps[x.at']? = some b) (he : endsS b (x.kind == 6) k = true) :
    Calls Try.prog 27 #[pV t, .int .i64 k] w fun e w' => e = .returned (.bool true) ∧ Env6 n0 w' C S P R cs m (if k = 0 then ps.set x.at' false else ps) n ∧ T6 n0 w' C S P R cs t (onS r k).1 (onS r k).2 ∧ Below n0 w w' := by
  obtain ⟨Q, h1, h2⟩ := hT
  have ht := h2 t h1.own
  refine (park_yes C P R t cs ps Q x r v k b w h1 h.p hk hx he (fun b hb => (h2 b hb).2.2.2.2.2)).mono ?_
  rintro e w' ⟨rfl, ⟨Q', g1, g2⟩, g3, g4⟩
  refine ⟨rfl, ⟨h.c.keep g4 ?_ ?_, g3, h.lo⟩, ⟨Q', g1, fun b hb => ?_⟩, g4.below hn0 (fun i _ hi => ?_)⟩
  · rintro (e | e)
    · exact ht.2.1 e.symm
    · exact h.p.notin h.c.own e
  · rintro (e | e)
    · exact ht.2.2.1 e.symm
    · exact h.p.notin h.c.row e
  · rcases g2 b hb with hb | hb
    · exact h2 b hb
    · exact ⟨by omega, h.lt b hb⟩
  · rcases hi with rfl | hi
    · exact ht.1
    · exact h.lo.2.2.2.2 i hi
/-- three tasks, one behind the other -/
theorem seq3 {n0 : Nat} {w : World} {C P : Nat} {Q : Nat → Prop} {u1 u2 u3 : Option Addr} {s1 s2 s3 : List Itm} (h1 : Elem (Cont w C P Q) w C P Q u1 s1) (h2 : Elem (Cont w C P Q) w C P Q u2 s2) (h3 : Elem (Cont w C P Q) w C P Q u3 s3) (hQ : ∀ k, w.heap.size ≤ k → Q k) :
    Calls Try.prog 40 #[.slice (some ⟨w.heap.size, 0, none⟩) 3 3] (w.alloc (.cells #[.pointer u1, .pointer u2, .pointer u3] 56)) fun e w' => ∃ t v, e = .returned (pV t) ∧ Made6 (w.alloc (.cells #[.pointer u1, .pointer u2, .pointer u3] 56)) C P Q (onS (s1 ++ (s2 ++ s3)) 0).1 v t w' ∧ ((onS (s1 ++ (s2 ++ s3)) 0).1 = [] → v = (onS (s1 ++ (s2 ++ s3)) 0).2) := by
  have hB := Blk.new w 56 #[.pointer u1, .pointer u2, .pointer u3]
  have k4 : Keep (fun _ => False) w (w.alloc (.cells #[.pointer u1, .pointer u2, .pointer u3] 56)) := (Keep.refl _ _).alloc _
  have el : ∀ {u : Option Addr} {s : List Itm}, Elem (Cont w C P Q) w C P Q u s → Elem (Cont (w.alloc (.cells #[.pointer u1, .pointer u2, .pointer u3] 56)) C P Q) (w.alloc (.cells #[.pointer u1, .pointer u2, .pointer u3] 56)) C P Q u s := fun h =>
    h.keep (fun f s h => h.keep k4 (fun _ _ h => h) (fun _ _ h => h)) k4 (fun _ _ h => h) (fun _ _ h => h)
  refine (seq_any C P Q [(u1, s1), (u2, s2), (u3, s3)] w.heap.size 0 3 _ (by simp) (by simp) (fun i z hz => ?_) (fun k hk => hQ k (by rw [World.size_alloc] at hk; omega))).mono ?_
  · match i, hz with
    | 0, hz =>
      obtain rfl : z = (u1, s1) := by simpa using hz.symm
      exact ⟨hB.cell 0 _ rfl, el h1⟩
    | 1, hz =>
      obtain rfl : z = (u2, s2) := by simpa using hz.symm
      exact ⟨hB.cell 1 _ rfl, el h2⟩
    | 2, hz =>
      obtain rfl : z = (u3, s3) := by simpa using hz.symm
      exact ⟨hB.cell 2 _ rfl, el h3⟩
    | (i + 3), hz => simp at hz
  · rintro e w' ⟨t, r, v, rfl, hM, hR⟩
    rcases hR with ⟨h, _⟩ | ⟨_, hR⟩
    · cases h
    · have ef : flat [(u1, s1), (u2, s2), (u3, s3)] = s1 ++ (s2 ++ s3) := by simp [flat]
      rw [ef] at hR
      obtain ⟨e1, e2⟩ := hR.on 0
      rw [e1]
      exact ⟨t, v, rfl, hM, fun h => (e2 h).symm⟩
theorem elem_new {w0 w w' : World} {C P : Nat} {Q : Nat → Prop} {r s : List Itm} {v : Int} {t : Nat} (hM : Made6 w0 C P Q r v t w) (hk : Keep (fun _ => False) w w') (hq : Q t) (hE : Equiv6 s r v) : Elem (Cont w' C P Q) w' C P Q (some ⟨t, 0, none⟩) s :=
  .inr ⟨t, r, v, rfl, hq, hM.task.keep hk (fun _ _ h => h) (fun h => h) (fun _ _ h => h), hE⟩
theorem elem_nil {w : World} {C P : Nat} {Q : Nat → Prop} : Elem (Cont w C P Q) w C P Q none [rd 0] := .inl ⟨rfl, equiv_ready rfl⟩
end Go.Proofs.Ytmkgbbbhmbejnaa
