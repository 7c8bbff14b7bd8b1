/- Package queue: unlink, pop. -/
import Derived.Test.YtpejmkoheodblaaGreatQuC
namespace Go.Proofs.YtpejmkoheodblaaGreat
open Go.ChangeShapes Go.WideShapes Go.ChangeAt Go.RowKit
set_option linter.unusedVariables false
set_option maxRecDepth 100000
set_option linter.unusedSimpArgs false
theorem lineE_of {V : World} {C a : Nat} {m : Mp} {bl : Nat} (h : Blk V bl 88 (lineCs C a m)) : (V.cell? ⟨bl, 0, none⟩ = some (cellsV C) ∧ V.cell? ⟨bl, 1, none⟩ = some (.int .i64 (a : Int)) ∧ V.cell? ⟨bl, 2, none⟩ = some (.int .i64 ((a : Int) + 1)) ∧ V.cell? ⟨bl, 3, none⟩ = some (nextV m) ∧ V.cell? ⟨bl, 4, none⟩ = some (.int .i64 (m.t : Int))) := ⟨h.cell 0 _ rfl, h.cell 1 _ rfl, h.cell 2 _ rfl, h.cell 3 _ rfl, h.cell 4 _ rfl⟩
theorem bdrewE (w : World) : Below w.heap.size w w.drew := ⟨rfl, rfl, rfl, Nat.le_refl _, fun _ _ => rfl⟩
def unlK (m : Mp) (a : Nat) (p t u : Int) : Tre Itm := seqT [stT (behN m a p) (u + 1), if u = -1 then stT (a + 1) (p + 1) else stT (nxN m t) 0]
def unlinkT (m : Mp) (a : Nat) (p t : Int) : Tre Itm := readT m (nxN m t) (unlK m a p t)
set_option maxHeartbeats 2000000 in
theorem unlink1_any (C P a : Nat) (m : Mp) (Q : Nat → Prop) (p t u : Int) (bl bp bt : Nat) (w : World) (hm : m.ok) (hp : -1 ≤ p ∧ p < m.t) (ht : 0 ≤ t ∧ t < m.t) (hu : -1 ≤ u ∧ u < m.t) (hl : Blk w bl 88 (lineCs C a m)) (hbp : Blk w bp 3 #[.int .i64 p]) (hbt : Blk w bt 3 #[.int .i64 t]) (hQ : ∀ k, w.heap.size ≤ k → Q k) :
    Calls Tryz.prog 119 #[.int .i64 u, pV bl, pV bp, pV bt] w fun e w' => ∃ t', e = .returned (pV t') ∧ MadeQ (cellOps C P) w Q (unlK m a p t u) t' w' := by
  have HB := Lib.hid fun W => behind_any C a m p W hm hp
  have HM := Lib.hid fun W => mark_any u W (by have := hm.t; omega)
  have HMp := Lib.hid fun W => mark_any p W (by have := hm.t; omega)
  have HMn := Lib.hid fun W => mark_any (-1) W (by omega)
  have HX := Lib.hid fun V => next_any m t V hm ht
  have HS := Lib.hid fun W (h : w.heap.size ≤ W.heap.size) => storeQ C P Q (behN m a p) (u + 1) W (fun k hk => hQ k (by omega))
  have HSl := Lib.hid fun W (h : w.heap.size ≤ W.heap.size) => storeQ C P Q (a + 1) (p + 1) W (fun k hk => hQ k (by omega))
  rw [show (((a + 1 : Nat) : Int)) = (a : Int) + 1 by omega] at HSl
  have HSn := Lib.hid fun W (h : w.heap.size ≤ W.heap.size) => storeQ C P Q (nxN m t) (-1 + 1) W (fun k hk => hQ k (by omega))
  have HQ := Lib.hid hQ
  have SK := Lib.hid (show ∀ V, Below w.heap.size w V → (V.cell? ⟨bl, 0, none⟩ = some (cellsV C) ∧ V.cell? ⟨bl, 1, none⟩ = some (.int .i64 (a : Int)) ∧ V.cell? ⟨bl, 2, none⟩ = some (.int .i64 ((a : Int) + 1)) ∧ V.cell? ⟨bl, 3, none⟩ = some (nextV m) ∧ V.cell? ⟨bl, 4, none⟩ = some (.int .i64 (m.t : Int))) ∧ V.cell? ⟨bp, 0, none⟩ = some (.int .i64 p) ∧ V.cell? ⟨bt, 0, none⟩ = some (.int .i64 t) from fun V hk => ⟨lineE_of (hl.below hk hl.lt), (hbp.below hk hbp.lt).cell 0 _ rfl, (hbt.below hk hbt.lt).cell 0 _ rfl⟩)
  have HSQ := Lib.hid fun V t1 t2 T2 (hV : Below w.heap.size w V) h1 h2 q1 q2 => seqT_two (cellOps C P) Q (stT (behN m a p) (u + 1)) T2 t1 t2 V h1 h2 q1 q2 (fun k hk => HQ.out k (by have := hV.size; omega))
  have bd := bdrewE w
  clear hm hp ht hu hl hbp hbt hQ
  go_enter Tryz.func119, Tryz.ntmps119
  go_upto_region 1 with fail
  go_region_held3 (fun V => (V.cell? ⟨bl, 0, none⟩ = some (cellsV C) ∧ V.cell? ⟨bl, 1, none⟩ = some (.int .i64 (a : Int)) ∧ V.cell? ⟨bl, 2, none⟩ = some (.int .i64 ((a : Int) + 1)) ∧ V.cell? ⟨bl, 3, none⟩ = some (nextV m) ∧ V.cell? ⟨bl, 4, none⟩ = some (.int .i64 (m.t : Int))) ∧ V.cell? ⟨bp, 0, none⟩ = some (.int .i64 p) ∧ V.cell? ⟨bt, 0, none⟩ = some (.int .i64 t)) (first | exact SK.out _ b3 | exact SK.out _ b2 | exact SK.out _ bd) (first
    | (go_at_call 84; refine (HB.out _).mono ?_; rintro e w2 ⟨rfl, hb2⟩; have b2 : Below w.heap.size w w2 := bd.trans hb2; have HS2 := Lib.hid (HS.out w2 b2.size))
    | (go_at_call 80; (with_reducible refine (HM.out _).mono ?_); rintro e w2b ⟨rfl, rfl⟩)
    | (go_at_call 79; refine HS2.out.mono ?_; rintro e w3 ⟨t1, rfl, hM⟩; have b3 : Below w.heap.size w w3 := b2.trans (hM.2.2.mono b2.size)))
  clear HS HS2 HB
  have bd3 := bdrewE w3
  have s3 := b3.size
  by_cases hu : u = -1
  · subst hu
    have SK3 := Lib.hid fun V (hV : Below w3.heap.size w3 V) => SK.out V (b3.trans (hV.mono s3))
    clear SK
    go_upto_region 3 with fail
    go_region_held3 (fun V => (V.cell? ⟨bl, 0, none⟩ = some (cellsV C) ∧ V.cell? ⟨bl, 1, none⟩ = some (.int .i64 (a : Int)) ∧ V.cell? ⟨bl, 2, none⟩ = some (.int .i64 ((a : Int) + 1)) ∧ V.cell? ⟨bl, 3, none⟩ = some (nextV m) ∧ V.cell? ⟨bl, 4, none⟩ = some (.int .i64 (m.t : Int))) ∧ V.cell? ⟨bp, 0, none⟩ = some (.int .i64 p) ∧ V.cell? ⟨bt, 0, none⟩ = some (.int .i64 t)) (first | exact SK3.out _ b7 | exact SK3.out _ bA | exact SK3.out _ b5 | exact SK3.out _ bd3) (first
      | (go_at_call 80; (with_reducible refine (HMp.out _).mono ?_); rintro e w4 ⟨rfl, rfl⟩; have HSl2 := Lib.hid (HSl.out w3.drew s3))
      | (go_at_call 79; refine HSl2.out.mono ?_; rintro e w5 ⟨t2, rfl, hM2⟩; have b5 : Below w3.heap.size w3 w5 := bd3.trans hM2.2.2; have HSQ2 := Lib.hid (HSQ.out w5 t1 t2 _ (b3.trans (b5.mono s3)) (hM.task.at b5) hM2.task (HQ.out _ (by have := b2.size; have := hM.1; omega)) (HQ.out _ (by have := b3.size; have h := hM2.1; have : w3.heap.size ≤ t2 := h; omega))); have bA : Below w3.heap.size w3 (w5.alloc (.cells #[pV t1, pV t2] 40)) := b5.trans (((Below.refl _ w5).alloc (Nat.le_refl _) _).mono b5.size))
      | (go_at_call 78; refine HSQ2.out.mono ?_; rintro e w7 ⟨t3, rfl, hM3⟩; have b7 : Below w3.heap.size w3 w7 := b5.trans (hM3.2.2.mono b5.size)))
    all_goals go_wp2
    all_goals go_ret
    all_goals refine ⟨t3, rfl, ?_⟩
    all_goals unfold unlK
    all_goals rw [if_pos rfl]
    all_goals exact hM3.of (b3.trans (b5.mono s3))
  · have SK3 := Lib.hid fun V (hV : Below w3.heap.size w3 V) => SK.out V (b3.trans (hV.mono s3))
    clear SK
    go_upto_region 4 with fail
    go_region_held3 (fun V => (V.cell? ⟨bl, 0, none⟩ = some (cellsV C) ∧ V.cell? ⟨bl, 1, none⟩ = some (.int .i64 (a : Int)) ∧ V.cell? ⟨bl, 2, none⟩ = some (.int .i64 ((a : Int) + 1)) ∧ V.cell? ⟨bl, 3, none⟩ = some (nextV m) ∧ V.cell? ⟨bl, 4, none⟩ = some (.int .i64 (m.t : Int))) ∧ V.cell? ⟨bp, 0, none⟩ = some (.int .i64 p) ∧ V.cell? ⟨bt, 0, none⟩ = some (.int .i64 t)) (first | exact SK3.out _ b7 | exact SK3.out _ bA | exact SK3.out _ b5 | exact SK3.out _ b4 | exact SK3.out _ bd3) (first
      | (go_at_call 26; refine (HX.out _).mono ?_; rintro e w4 ⟨rfl, hb4⟩; have b4 : Below w3.heap.size w3 w4 := bd3.trans hb4; have HSn2 := Lib.hid (HSn.out w4 (Nat.le_trans s3 b4.size)))
      | (go_at_call 80; (with_reducible refine (HMn.out _).mono ?_); rintro e w4b ⟨rfl, rfl⟩)
      | (go_at_call 79; refine HSn2.out.mono ?_; rintro e w5 ⟨t2, rfl, hM2⟩; have b5 : Below w3.heap.size w3 w5 := b4.trans (hM2.2.2.mono b4.size); have HSQ2 := Lib.hid (HSQ.out w5 t1 t2 _ (b3.trans (b5.mono s3)) (hM.task.at b5) hM2.task (HQ.out _ (by have := b2.size; have := hM.1; omega)) (HQ.out _ (by have := b4.size; have h := hM2.1; omega))); have bA : Below w3.heap.size w3 (w5.alloc (.cells #[pV t1, pV t2] 40)) := b5.trans (((Below.refl _ w5).alloc (Nat.le_refl _) _).mono b5.size))
      | (go_at_call 78; refine HSQ2.out.mono ?_; rintro e w7 ⟨t3, rfl, hM3⟩; have b7 : Below w3.heap.size w3 w7 := b5.trans (hM3.2.2.mono b5.size)))
    all_goals go_wp2
    all_goals go_ret
    all_goals refine ⟨t3, rfl, ?_⟩
    all_goals unfold unlK
    all_goals rw [if_neg hu]
    all_goals exact hM3.of (b3.trans (b5.mono s3))
theorem call_unlink1 : ∀ (W : World) (args : Array Value), (callFunc 119 args).run Tryz.prog W = .ok (.enter 119 args) W := by
  intro W args
  go_simp
theorem blk_three (w : World) (o1 o2 : Obj) (t : TypeId) (cs : Array Value) : Blk (((w.alloc o1).alloc o2).alloc (.cells cs t)) (w.heap.size + 2) t cs := by
  have h := Blk.new ((w.alloc o1).alloc o2) t cs
  simp only [World.size_alloc] at h
  exact h
set_option maxHeartbeats 2000000 in
theorem unlink_any (C P a : Nat) (m : Mp) (Q : Nat → Prop) (p t : Int) (w : World) (hm : m.ok) (hp : -1 ≤ p ∧ p < m.t) (ht : 0 ≤ t ∧ t < m.t) (hQ : ∀ k, w.heap.size ≤ k → Q k) :
    Calls Tryz.prog 87 #[lineV C a m, .int .i64 p, .int .i64 t] w fun e w' => ∃ t', e = .returned (pV t') ∧ MadeQ (cellOps C P) w Q (unlinkT m a p t) t' w' := by
  have hmf : ∀ (fn : Fn) (first cap : Array Value) (w : World), (Instr.makeFunc fn first cap).run Tryz.prog w = .ok (.func fn first cap) w := fun _ _ _ _ => rfl
  have HQ := Lib.hid hQ
  have HM := Lib.hid hm
  have Ht := Lib.hid ht
  have Hp := Lib.hid hp
  clear hQ hm ht hp
  go_enter Tryz.func87, Tryz.ntmps87
  go_upto_region 1 with fail
  generalize hW : (((w.alloc _).alloc _).alloc _) = W
  have bW : Below w.heap.size w W := by rw [← hW]; go_grown
  have sW : W.heap.size = w.heap.size + 3 := by rw [← hW]; simp
  have q0 : Blk W w.heap.size 88 (lineCs C a m) := by rw [← hW]; exact ((Blk.new w _ _).alloc _).alloc _
  have q1 : Blk W (w.heap.size + 1) 3 #[.int .i64 p] := by rw [← hW]; exact (blk_two w _ _ _).alloc _
  have q2 : Blk W (w.heap.size + 2) 3 #[.int .i64 t] := by rw [← hW]; exact blk_three w _ _ _ _
  clear hW
  have HX := Lib.hid fun V => next_any m t V HM.out Ht.out
  have HF : Hid (FnT C P m W Q (cloV 119 #[pV w.heap.size, pV (w.heap.size + 1), pV (w.heap.size + 2)]) (unlK m a p t)) := Lib.hid ⟨_, _, rfl, call_unlink1, fun V u hV h1 h2 => unlink1_any C P a m _ p t u _ _ _ V HM.out Hp.out Ht.out ⟨h1, h2⟩ (q0.keep hV (fun h => h (HQ.out _ (by omega)))) (q1.keep hV (fun h => h (HQ.out _ (by omega)))) (q2.keep hV (fun h => h (HQ.out _ (by omega)))) (fun k hk => .inr hk)⟩
  have HR := Lib.hid fun V (hV : Below W.heap.size W V) => read_any C P a m (nxN m t) _ (unlK m a p t) Q V HM.out (HF.out.later (Keep.ofBelow hV) (fun _ _ h => h)) (fun k hk => HQ.out k (by have := hV.size; omega))
  have SK := Lib.hid (show ∀ V, Below W.heap.size W V → (V.cell? ⟨w.heap.size, 0, none⟩ = some (cellsV C) ∧ V.cell? ⟨w.heap.size, 1, none⟩ = some (.int .i64 (a : Int)) ∧ V.cell? ⟨w.heap.size, 2, none⟩ = some (.int .i64 ((a : Int) + 1)) ∧ V.cell? ⟨w.heap.size, 3, none⟩ = some (nextV m) ∧ V.cell? ⟨w.heap.size, 4, none⟩ = some (.int .i64 (m.t : Int))) ∧ V.cell? ⟨w.heap.size + 2, 0, none⟩ = some (.int .i64 t) from fun V hk => ⟨lineE_of (q0.below hk q0.lt), (q2.below hk q2.lt).cell 0 _ rfl⟩)
  have bd := bdrewE W
  go_region_held3 (fun V => (V.cell? ⟨w.heap.size, 0, none⟩ = some (cellsV C) ∧ V.cell? ⟨w.heap.size, 1, none⟩ = some (.int .i64 (a : Int)) ∧ V.cell? ⟨w.heap.size, 2, none⟩ = some (.int .i64 ((a : Int) + 1)) ∧ V.cell? ⟨w.heap.size, 3, none⟩ = some (nextV m) ∧ V.cell? ⟨w.heap.size, 4, none⟩ = some (.int .i64 (m.t : Int))) ∧ V.cell? ⟨w.heap.size + 2, 0, none⟩ = some (.int .i64 t)) (first | exact SK.out _ b3 | exact SK.out _ b2 | exact SK.out _ bd) (first
    | (go_at_call 26; refine (HX.out _).mono ?_; rintro e w2 ⟨rfl, hb2⟩; have b2 : Below W.heap.size W w2 := bd.trans hb2; have HR2 := Lib.hid (HR.out w2 b2))
    | (go_at_call 85; refine HR2.out.mono ?_; rintro e w3 ⟨t', rfl, hM⟩; have b3 : Below W.heap.size W w3 := b2.trans (hM.2.2.mono b2.size)))
  all_goals go_wp2
  all_goals go_ret
  all_goals exact ⟨t', rfl, hM.of (bW.trans (b2.mono bW.size))⟩
def popK (m : Mp) (a : Nat) (t : Int) : Tre Itm := if t = -1 then retT (-1) else seqT [unlinkT m a (-1) t, retT t]
def popT (m : Mp) (a : Nat) : Tre Itm := readT m a (popK m a)
theorem call_pop1 : ∀ (W : World) (args : Array Value), (callFunc 86 args).run Tryz.prog W = .ok (.enter 86 args) W := by
  intro W args
  go_simp
theorem pop1_any (C P a : Nat) (m : Mp) (Q : Nat → Prop) (t : Int) (bl : Nat) (w : World) (hm : m.ok) (ht : -1 ≤ t ∧ t < m.t) (hl : Blk w bl 88 (lineCs C a m)) (hQ : ∀ k, w.heap.size ≤ k → Q k) :
    Calls Tryz.prog 86 #[.int .i64 t, pV bl] w fun e w' => ∃ t', e = .returned (pV t') ∧ MadeQ (cellOps C P) w Q (popK m a t) t' w' := by
  have d0 : w.cell? ⟨bl, 0, none⟩ = some (cellsV C) := hl.cell 0 _ rfl
  have d1 : w.cell? ⟨bl, 1, none⟩ = some (.int .i64 (a : Int)) := hl.cell 1 _ rfl
  have d2 : w.cell? ⟨bl, 2, none⟩ = some (.int .i64 ((a : Int) + 1)) := hl.cell 2 _ rfl
  have d3 : w.cell? ⟨bl, 3, none⟩ = some (nextV m) := hl.cell 3 _ rfl
  have d4 : w.cell? ⟨bl, 4, none⟩ = some (.int .i64 (m.t : Int)) := hl.cell 4 _ rfl
  clear hl
  by_cases h : t = -1
  · subst h
    clear hm ht
    go_enter Tryz.func86, Tryz.ntmps86
    go_wp2_with (go_at_call 53; refine (readyQ C P Q (-1) _).mono ?_; rintro e w2 ⟨t', rfl, h1⟩)
    go_ret
    exact ⟨t', rfl, by rw [popK, if_pos rfl]; exact h1⟩
  · have HU := Lib.hid (unlink_any C P a m Q (-1) t w hm ⟨by omega, by have := hm.t; omega⟩ ⟨by omega, ht.2⟩ hQ)
    have HR := Lib.hid fun W => readyQ C P Q t W
    have HQ := Lib.hid hQ
    have HSQ := Lib.hid fun V t1 t2 (hV : Below w.heap.size w V) h1 h2 q1 q2 => seqT_two (cellOps C P) Q (unlinkT m a (-1) t) (retT t) t1 t2 V h1 h2 q1 q2 (fun k hk => HQ.out k (by have := hV.size; omega))
    clear hm ht hQ
    go_enter Tryz.func86, Tryz.ntmps86
    go_wp2_with (first
      | (go_at_call 87; refine HU.out.mono ?_; rintro e w2 ⟨t1, rfl, hM1⟩; have HR2 := Lib.hid (HR.out w2))
      | (go_at_call 53; refine HR2.out.mono ?_; rintro e w3 ⟨t2, rfl, hM2⟩; have b3 : Below w.heap.size w w3 := hM1.2.2.trans (hM2.2.2.mono hM1.2.2.size); have HSQ2 := Lib.hid (HSQ.out w3 t1 t2 b3 (hM1.task.at hM2.2.2) hM2.task (HQ.out _ hM1.1) (HQ.out _ (Nat.le_trans hM1.2.2.size hM2.1))))
      | (go_at_call 78; refine HSQ2.out.mono ?_; rintro e w5 ⟨t3, rfl, hM3⟩))
    go_ret
    exact ⟨t3, rfl, by rw [popK, if_neg h]; exact hM3.of b3⟩
theorem lpop_any (C P a : Nat) (m : Mp) (Q : Nat → Prop) (w : World) (hm : m.ok) (hQ : ∀ k, w.heap.size ≤ k → Q k) :
    Calls Tryz.prog 56 #[lineV C a m] w fun e w' => ∃ t, e = .returned (pV t) ∧ MadeQ (cellOps C P) w Q (popT m a) t w' := by
  have hmf : ∀ (fn : Fn) (first cap : Array Value) (w : World), (Instr.makeFunc fn first cap).run Tryz.prog w = .ok (.func fn first cap) w := fun _ _ _ _ => rfl
  have HQ := Lib.hid hQ
  have HM := Lib.hid hm
  clear hQ hm
  go_enter Tryz.func56, Tryz.ntmps56
  go_upto_region 1 with fail
  generalize hW : (w.alloc _) = W
  have bW : Below w.heap.size w W := by rw [← hW]; go_grown
  have sW : W.heap.size = w.heap.size + 1 := by rw [← hW]; simp
  have hlW : Blk W w.heap.size 88 (lineCs C a m) := by rw [← hW]; exact Blk.new w _ _
  clear hW
  have d0 : W.cell? ⟨w.heap.size, 0, none⟩ = some (cellsV C) := hlW.cell 0 _ rfl
  have d1 : W.cell? ⟨w.heap.size, 1, none⟩ = some (.int .i64 (a : Int)) := hlW.cell 1 _ rfl
  have d2 : W.cell? ⟨w.heap.size, 2, none⟩ = some (.int .i64 ((a : Int) + 1)) := hlW.cell 2 _ rfl
  have d3 : W.cell? ⟨w.heap.size, 3, none⟩ = some (nextV m) := hlW.cell 3 _ rfl
  have d4 : W.cell? ⟨w.heap.size, 4, none⟩ = some (.int .i64 (m.t : Int)) := hlW.cell 4 _ rfl
  have HR := Lib.hid (read_any C P a m a (cloV 86 #[pV w.heap.size]) (popK m a) Q W HM.out ⟨_, _, rfl, call_pop1, fun V u hV h1 h2 => pop1_any C P a m _ u w.heap.size V HM.out ⟨h1, h2⟩ (hlW.keep hV (fun h => h (HQ.out _ (Nat.le_refl _)))) (fun k hk => .inr hk)⟩ (fun k hk => HQ.out k (by omega)))
  go_wp2_with (go_at_call 85; refine HR.out.mono ?_; rintro e w2 ⟨t, rfl, h1⟩)
  go_ret
  exact ⟨t, rfl, h1.of bW⟩
end Go.Proofs.YtpejmkoheodblaaGreat
