/- Package queue: push, unlink, pop. -/
import Derived.Test.YtpejmkoheodblaaGreatQuC
namespace Go.Proofs.YtpejmkoheodblaaGreat
open Go.ChangeShapes Go.WideShapes Go.ChangeAt Go.RowKit
set_option linter.unusedVariables false
set_option maxRecDepth 100000
set_option linter.unusedSimpArgs false
/-- the cells of a line's box, and of another one's -/
def LineC (V : World) (C a : Nat) (m : Mp) (bl : Nat) : Prop := V.cell? ⟨bl, 0, none⟩ = some (cellsV C) ∧ V.cell? ⟨bl, 1, none⟩ = some (.int .i64 (a : Int)) ∧ V.cell? ⟨bl, 2, none⟩ = some (.int .i64 ((a : Int) + 1)) ∧ V.cell? ⟨bl, 3, none⟩ = some (nextV m) ∧ V.cell? ⟨bl, 4, none⟩ = some (.int .i64 (m.t : Int))
theorem lineC_of {V : World} {C a : Nat} {m : Mp} {bl : Nat} (h : Blk V bl 88 (lineCs C a m)) : LineC V C a m bl := ⟨h.cell 0 _ rfl, h.cell 1 _ rfl, h.cell 2 _ rfl, h.cell 3 _ rfl, h.cell 4 _ rfl⟩
theorem bdrew (w : World) : Below w.heap.size w w.drew := ⟨rfl, rfl, rfl, Nat.le_refl _, fun _ _ => rfl⟩
theorem push1_any (C P a : Nat) (m : Mp) (Q : Nat → Prop) (u t : Int) (bl bt : Nat) (w : World) (hm : m.ok) (hu : -1 ≤ u ∧ u < m.t) (ht : 0 ≤ t ∧ t < m.t) (hl : Blk w bl 88 (lineCs C a m)) (hb : Blk w bt 3 #[.int .i64 t]) (hQ : ∀ k, w.heap.size ≤ k → Q k) :
    Calls Tryz.prog 83 #[.int .i64 u, pV bl, pV bt] w fun e w' => ∃ t', e = .returned (pV t') ∧ MadeQ (cellOps C P) w Q (stT (behN m a u) (t + 1)) t' w' := by
  have HB := Lib.hid fun W => behind_any C a m u W hm hu
  have HM := Lib.hid fun W => mark_any t W (by have := hm.t; omega)
  have HS := Lib.hid fun W (h : w.heap.size ≤ W.heap.size) => storeQ C P Q (behN m a u) (t + 1) W (fun k hk => hQ k (by omega))
  have SK := Lib.hid (show ∀ V, Below w.heap.size w V → (V.cell? ⟨bl, 0, none⟩ = some (cellsV C) ∧ V.cell? ⟨bl, 1, none⟩ = some (.int .i64 (a : Int)) ∧ V.cell? ⟨bl, 2, none⟩ = some (.int .i64 ((a : Int) + 1)) ∧ V.cell? ⟨bl, 3, none⟩ = some (nextV m) ∧ V.cell? ⟨bl, 4, none⟩ = some (.int .i64 (m.t : Int))) ∧ V.cell? ⟨bt, 0, none⟩ = some (.int .i64 t) from fun V hk => ⟨lineC_of (hl.below hk hl.lt), (hb.below hk hb.lt).cell 0 _ rfl⟩)
  have bd := bdrew w
  clear hm hu ht hl hb hQ
  go_enter Tryz.func83, Tryz.ntmps83
  go_upto_region 1 with fail
  go_region_held3 (fun V => (V.cell? ⟨bl, 0, none⟩ = some (cellsV C) ∧ V.cell? ⟨bl, 1, none⟩ = some (.int .i64 (a : Int)) ∧ V.cell? ⟨bl, 2, none⟩ = some (.int .i64 ((a : Int) + 1)) ∧ V.cell? ⟨bl, 3, none⟩ = some (nextV m) ∧ V.cell? ⟨bl, 4, none⟩ = some (.int .i64 (m.t : Int))) ∧ V.cell? ⟨bt, 0, none⟩ = some (.int .i64 t)) (first | exact SK.out _ b3 | exact SK.out _ b2 | exact SK.out _ bd) (first
    | (go_at_call 84; refine (HB.out _).mono ?_; rintro e w2 ⟨rfl, hb2⟩; have b2 : Below w.heap.size w w2 := bd.trans hb2; have HS2 := Lib.hid (HS.out w2 b2.size))
    | (go_at_call 80; refine (HM.out _).mono ?_; rintro e w2b ⟨rfl, rfl⟩)
    | (go_at_call 79; refine HS2.out.mono ?_; rintro e w3 ⟨t', rfl, hM⟩; have b3 : Below w.heap.size w w3 := b2.trans (hM.2.2.mono b2.size)))
  go_wp2
  go_ret
  exact ⟨t', rfl, hM.of b2⟩
theorem call_push1 : ∀ (W : World) (args : Array Value), (callFunc 83 args).run Tryz.prog W = .ok (.enter 83 args) W := by
  intro W args
  go_simp
/-- at numbers that are no threads -/
theorem thread_free (m : Mp) (u : Int) (w : World) : Calls Tryz.prog 59 #[mapV m, .int .i64 u] w fun e w' => ∃ z, e = .returned (.int .i64 z) ∧ Below w.heap.size w w' := by
  go_enter Tryz.func59, Tryz.ntmps59
  go_wp2
  go_ret
  exact ⟨_, rfl, by go_grown⟩
theorem next_free (m : Mp) (u : Int) (w : World) : Calls Tryz.prog 26 #[mapV m, .int .i64 u] w fun e w' => ∃ z, e = .returned (.int .i64 z) ∧ Below w.heap.size w w' := by
  go_enter Tryz.func26, Tryz.ntmps26
  go_wp2_with (go_at_call 59; refine (thread_free m u _).mono ?_; rintro e w2 ⟨z, rfl, b2⟩)
  go_ret
  exact ⟨z, rfl, ((Below.refl _ w).alloc (Nat.le_refl _) _).trans (b2.mono (by simp))⟩
theorem behind_free (C a : Nat) (m : Mp) (u : Int) (w : World) : Calls Tryz.prog 84 #[lineV C a m, .int .i64 u] w fun e w' => ∃ z, e = .returned (.int .i64 z) ∧ Below w.heap.size w w' := by
  by_cases hu : u = -1
  · subst hu
    go_enter Tryz.func84, Tryz.ntmps84
    go_wp2
    go_ret
    exact ⟨_, rfl, by go_grown⟩
  · go_enter Tryz.func84, Tryz.ntmps84
    go_wp2_with (go_at_call 26; refine (next_free m u _).mono ?_; rintro e w2 ⟨z, rfl, b2⟩)
    go_ret
    exact ⟨z, rfl, ((Below.refl _ w).alloc (Nat.le_refl _) _).trans (b2.mono (by simp))⟩
theorem store_free (C : Nat) (z v : Int) (w : World) : Calls Tryz.prog 79 #[cellsV C, .int .i64 z, .int .u64 v] w fun e w' => ∃ t b, e = .returned (pV t) ∧ w.heap.size ≤ t ∧ Blk w' t 96 #[cloV 129 #[pV b], .pointer none, .pointer none, .int .i64 0] ∧ Below w.heap.size w w' := by
  have hmf : ∀ (fn : Fn) (first cap : Array Value) (w : World), (Instr.makeFunc fn first cap).run Tryz.prog w = .ok (.func fn first cap) w := fun _ _ _ _ => rfl
  go_enter Tryz.func79, Tryz.ntmps79
  go_upto_region 1 with fail
  generalize hW : ((w.alloc _).alloc _).alloc _ = W
  have bW : Below w.heap.size w W := by rw [← hW]; go_grown
  have sW : W.heap.size = w.heap.size + 3 := by rw [← hW]; simp
  clear hW
  have HO := Lib.hid (one_any 110 #[pV w.heap.size, pV (w.heap.size + 1), pV (w.heap.size + 2)] W)
  go_wp2_with (go_at_call 109; refine HO.out.mono ?_; rintro e w1 ⟨t, b, rfl, h1, h2, h3, h4, h5⟩)
  go_ret
  exact ⟨t, b, rfl, by omega, h4, bW.trans (h5.mono bW.size)⟩
def junkT : Tre Itm := opT ⟨8, 0, 0, 0⟩ retT
theorem push1_free (C P a : Nat) (m : Mp) (Q : Nat → Prop) (u t : Int) (bl bt : Nat) (w : World) (ht : 0 ≤ t ∧ t ≤ 32766) (hl : Blk w bl 88 (lineCs C a m)) (hb : Blk w bt 3 #[.int .i64 t]) :
    Calls Tryz.prog 83 #[.int .i64 u, pV bl, pV bt] w fun e w' => ∃ t', e = .returned (pV t') ∧ MadeQ (cellOps C P) w Q junkT t' w' := by
  have HB := Lib.hid fun W => behind_free C a m u W
  have HM := Lib.hid fun W => mark_any t W (by omega)
  have HS := Lib.hid fun W z => store_free C z (t + 1) W
  have SK := Lib.hid (show ∀ V, Below w.heap.size w V → (V.cell? ⟨bl, 0, none⟩ = some (cellsV C) ∧ V.cell? ⟨bl, 1, none⟩ = some (.int .i64 (a : Int)) ∧ V.cell? ⟨bl, 2, none⟩ = some (.int .i64 ((a : Int) + 1)) ∧ V.cell? ⟨bl, 3, none⟩ = some (nextV m) ∧ V.cell? ⟨bl, 4, none⟩ = some (.int .i64 (m.t : Int))) ∧ V.cell? ⟨bt, 0, none⟩ = some (.int .i64 t) from fun V hk => ⟨lineC_of (hl.below hk hl.lt), (hb.below hk hb.lt).cell 0 _ rfl⟩)
  have bd := bdrew w
  clear ht hl hb
  go_enter Tryz.func83, Tryz.ntmps83
  go_upto_region 1 with fail
  go_region_held3 (fun V => (V.cell? ⟨bl, 0, none⟩ = some (cellsV C) ∧ V.cell? ⟨bl, 1, none⟩ = some (.int .i64 (a : Int)) ∧ V.cell? ⟨bl, 2, none⟩ = some (.int .i64 ((a : Int) + 1)) ∧ V.cell? ⟨bl, 3, none⟩ = some (nextV m) ∧ V.cell? ⟨bl, 4, none⟩ = some (.int .i64 (m.t : Int))) ∧ V.cell? ⟨bt, 0, none⟩ = some (.int .i64 t)) (first | exact SK.out _ b3 | exact SK.out _ b2 | exact SK.out _ bd) (first
    | (go_at_call 84; refine (HB.out _).mono ?_; rintro e w2 ⟨z, rfl, hb2⟩; have b2 : Below w.heap.size w w2 := bd.trans hb2; have HS2 := Lib.hid (HS.out w2 z))
    | (go_at_call 80; refine (HM.out _).mono ?_; rintro e w2b ⟨rfl, rfl⟩)
    | (go_at_call 79; refine HS2.out.mono ?_; rintro e w3 ⟨t', b', rfl, h1, h2, h3⟩; have b3 : Below w.heap.size w w3 := b2.trans (h3.mono b2.size)))
  go_wp2
  go_ret
  have := b2.size
  exact ⟨t', rfl, by omega, .inr ⟨⟨8, 0, 0, 0⟩, retT, t', _, _, _, [], rfl, rfl, ⟨h2, .inl ⟨_, _, rfl, rfl⟩⟩, .inl ⟨rfl, rfl⟩, .inr (.inr ⟨rfl, rfl, _, _, rfl⟩), fun v => rfl⟩, b3⟩
def pushK (m : Mp) (a : Nat) (t u : Int) : Tre Itm := if -1 ≤ u ∧ u < m.t then stT (behN m a u) (t + 1) else junkT
def pushT (m : Mp) (a : Nat) (t : Int) : Tre Itm := seqT [stT (nxN m t) 0, bindT (pushK m a t) (endT m a), stT (a + 1) (t + 1), retT 0]
set_option maxHeartbeats 4000000 in
theorem lpush_any (C P a : Nat) (m : Mp) (Q : Nat → Prop) (t : Int) (w : World) (hm : m.ok) (ht : 0 ≤ t ∧ t < m.t) (hQ : ∀ k, w.heap.size ≤ k → Q k) :
    Calls Tryz.prog 55 #[lineV C a m, .int .i64 t] w fun e w' => ∃ t', e = .returned (pV t') ∧ MadeQ (cellOps C P) w Q (pushT m a t) t' w' := by
  have hmf : ∀ (fn : Fn) (first cap : Array Value) (w : World), (Instr.makeFunc fn first cap).run Tryz.prog w = .ok (.func fn first cap) w := fun _ _ _ _ => rfl
  have HQ := Lib.hid hQ
  have HM := Lib.hid hm
  have Ht := Lib.hid ht
  clear hQ hm ht
  go_enter Tryz.func55, Tryz.ntmps55
  go_upto_region 1 with fail
  generalize hW : ((w.alloc _).alloc _) = W
  have bW : Below w.heap.size w W := by rw [← hW]; go_grown
  have sW : W.heap.size = w.heap.size + 2 := by rw [← hW]; simp
  have q0 : Blk W w.heap.size 88 (lineCs C a m) := by rw [← hW]; exact (Blk.new w _ _).alloc _
  have q1 : Blk W (w.heap.size + 1) 3 #[.int .i64 t] := by rw [← hW]; exact blk_two w _ _ _
  clear hW
  have HX := Lib.hid fun V => next_any m t V HM.out Ht.out
  have HK := Lib.hid fun V => mark_any (-1) V (by omega)
  have HK2 := Lib.hid fun V => mark_any t V (by have := HM.out.t; have := Ht.out; omega)
  have HS := Lib.hid fun V (h : W.heap.size ≤ V.heap.size) => storeQ C P Q (nxN m t) 0 V (fun k hk => HQ.out k (by omega))
  have HS2 := Lib.hid fun V (h : W.heap.size ≤ V.heap.size) => storeQ C P Q (a + 1) (t + 1) V (fun k hk => HQ.out k (by omega))
  rw [show (((a + 1 : Nat) : Int)) = (a : Int) + 1 by omega] at HS2
  have HE := Lib.hid fun V (h : W.heap.size ≤ V.heap.size) => end_any C P a m Q V HM.out (fun k hk => HQ.out k (by omega))
  have HR := Lib.hid fun V => readyQ C P Q 0 V
  have HT := Lib.hid fun V T tt (hV : Below W.heap.size W V) (h1 : TaskF (cellOps C P) V Q (some ⟨tt, 0, none⟩) T) => thenT_any (cellOps C P) (some ⟨tt, 0, none⟩) 83 #[pV w.heap.size, pV (w.heap.size + 1)] T (pushK m a t) Q V h1 (fun j e => by injection e with e; injection e with e; rw [← e]; exact TaskT.lt h1) (fun k hk => HQ.out k (by have := hV.size; omega)) (by
    intro w3 Q1 f hb hf hlo hqf hqq
    have hV3 := hV.trans (hb.mono hV.size)
    have p0 := q0.below hV3 q0.lt
    have p1 := q1.below hV3 q1.lt
    have n0 : ¬ ¬ Q1 w.heap.size := fun h => h (hqq _ (by have := hV.size; omega) (HQ.out _ (Nat.le_refl _)))
    have n1 : ¬ ¬ Q1 (w.heap.size + 1) := fun h => h (hqq _ (by have := hV.size; omega) (HQ.out _ (by omega)))
    refine contT_of (cellOps C P) w3 Q1 f 83 _ _ hqf hf call_push1 fun u w4 hw => ?_
    have hG : Calls Tryz.prog 83 (#[.int .i64 u] ++ #[pV w.heap.size, pV (w.heap.size + 1)]) w4 fun e w' => ∃ t', e = .returned (pV t') ∧ MadeQ (cellOps C P) w4 (fun b => (Q1 b ∧ b < w3.heap.size) ∨ w4.heap.size ≤ b) (pushK m a t u) t' w' := by
      unfold pushK
      by_cases hu : -1 ≤ u ∧ u < m.t
      · rw [if_pos hu]
        exact push1_any C P a m _ u t _ _ w4 HM.out hu Ht.out (p0.keep hw n0) (p1.keep hw n1) (fun k hk => .inr hk)
      · rw [if_neg hu]
        exact push1_free C P a m _ u t _ _ w4 (by have := Ht.out; have := HM.out.t; omega) (p0.keep hw n0) (p1.keep hw n1)
    refine hG.mono ?_
    rintro e w5 ⟨t', rfl, hM⟩
    exact ⟨some ⟨t', 0, none⟩, rfl, hM.2.2, hM.task, fun j e => by injection e with e; injection e with e; rw [← e]; exact .inr hM.1⟩)
  have HSQ := Lib.hid fun V t1 t2 t3 t4 (hV : Below W.heap.size W V) h1 h2 h3 h4 q1 q2 q3 q4 => seqT_four (cellOps C P) Q (stT (nxN m t) 0) (bindT (pushK m a t) (endT m a)) (stT (a + 1) (t + 1)) (retT 0) t1 t2 t3 t4 V h1 h2 h3 h4 q1 q2 q3 q4 (fun k hk => HQ.out k (by have := hV.size; omega))
  have SK := Lib.hid (show ∀ V, Below W.heap.size W V → (V.cell? ⟨w.heap.size, 0, none⟩ = some (cellsV C) ∧ V.cell? ⟨w.heap.size, 1, none⟩ = some (.int .i64 (a : Int)) ∧ V.cell? ⟨w.heap.size, 2, none⟩ = some (.int .i64 ((a : Int) + 1)) ∧ V.cell? ⟨w.heap.size, 3, none⟩ = some (nextV m) ∧ V.cell? ⟨w.heap.size, 4, none⟩ = some (.int .i64 (m.t : Int))) ∧ V.cell? ⟨w.heap.size + 1, 0, none⟩ = some (.int .i64 t) from fun V hk => ⟨lineC_of (q0.below hk q0.lt), (q1.below hk q1.lt).cell 0 _ rfl⟩)
  have bd := bdrew W
  go_region_held3 (fun V => (V.cell? ⟨w.heap.size, 0, none⟩ = some (cellsV C) ∧ V.cell? ⟨w.heap.size, 1, none⟩ = some (.int .i64 (a : Int)) ∧ V.cell? ⟨w.heap.size, 2, none⟩ = some (.int .i64 ((a : Int) + 1)) ∧ V.cell? ⟨w.heap.size, 3, none⟩ = some (nextV m) ∧ V.cell? ⟨w.heap.size, 4, none⟩ = some (.int .i64 (m.t : Int))) ∧ V.cell? ⟨w.heap.size + 1, 0, none⟩ = some (.int .i64 t)) (first | exact SK.out _ b10 | exact SK.out _ bA | exact SK.out _ b9 | exact SK.out _ b7 | exact SK.out _ b6 | exact SK.out _ b5 | exact SK.out _ b4 | exact SK.out _ b3 | exact SK.out _ b2 | exact SK.out _ bd) (first
    | (go_at_call 26; refine (HX.out _).mono ?_; rintro e w2 ⟨rfl, hb2⟩; have b2 : Below W.heap.size W w2 := bd.trans hb2; have HSa := Lib.hid (HS.out w2 b2.size))
    | (go_at_call 80; (with_reducible refine (HK.out _).mono ?_); rintro e w3 ⟨rfl, rfl⟩)
    | (go_at_call 79; (with_reducible refine HSa.out.mono ?_); rintro e w4 ⟨t1, rfl, hM1⟩; have b4 : Below W.heap.size W w4 := b2.trans (hM1.2.2.mono b2.size); have HEa := Lib.hid (HE.out w4 b4.size))
    | (go_at_call 82; refine HEa.out.mono ?_; rintro e w5 ⟨t2, rfl, hM2⟩; have b5 : Below W.heap.size W w5 := b4.trans (hM2.2.2.mono b4.size); have HTa := Lib.hid (HT.out w5 _ t2 b5 hM2.task))
    | (go_at_call 81; refine HTa.out.mono ?_; rintro e w6 ⟨t3, rfl, hM3⟩; have b6 : Below W.heap.size W w6 := b5.trans (hM3.2.2.mono b5.size); have HSb := Lib.hid (HS2.out w6 b6.size))
    | (go_at_call 80; (with_reducible refine (HK2.out _).mono ?_); rintro e w7 ⟨rfl, rfl⟩)
    | (go_at_call 79; (with_reducible refine HSb.out.mono ?_); rintro e w8 ⟨t4, rfl, hM4⟩; have b7 : Below W.heap.size W w8 := b6.trans (hM4.2.2.mono b6.size))
    | (go_at_call 53; refine (HR.out _).mono ?_; rintro e w9 ⟨t5, rfl, hM5⟩; have b9 : Below W.heap.size W w9 := b7.trans (hM5.2.2.mono b7.size); have b95 : Below w5.heap.size w5 w9 := (hM3.2.2.trans (hM4.2.2.mono hM3.2.2.size)).trans (hM5.2.2.mono (Nat.le_trans hM3.2.2.size hM4.2.2.size)); have b94 : Below w4.heap.size w4 w9 := hM2.2.2.trans (b95.mono hM2.2.2.size); have b98 : Below w8.heap.size w8 w9 := hM5.2.2; have b96 : Below w6.heap.size w6 w9 := hM4.2.2.trans (b98.mono hM4.2.2.size); have HSQ2 := Lib.hid (HSQ.out w9 t1 t3 t4 t5 b9 (hM1.task.at b94) ((MadeQ.task hM3).at b96) (hM4.task.at b98) hM5.task (HQ.out _ (by have := b2.size; have := hM1.1; omega)) (HQ.out _ (by have := b5.size; have := hM3.1; omega)) (HQ.out _ (by have := b6.size; have := hM4.1; omega)) (HQ.out _ (by have := b7.size; have := hM5.1; omega))); have bA : Below W.heap.size W (w9.alloc (.cells #[pV t1, pV t3, pV t4, pV t5] 40)) := b9.trans (((Below.refl _ w9).alloc (Nat.le_refl _) _).mono b9.size))
    | (go_at_call 78; refine HSQ2.out.mono ?_; rintro e w10 ⟨t6, rfl, hM6⟩; have b10 : Below W.heap.size W w10 := b9.trans (hM6.2.2.mono b9.size)))
  all_goals go_wp2
  all_goals go_ret
  all_goals exact ⟨t6, rfl, hM6.of (bW.trans (b9.mono bW.size))⟩
end Go.Proofs.YtpejmkoheodblaaGreat
