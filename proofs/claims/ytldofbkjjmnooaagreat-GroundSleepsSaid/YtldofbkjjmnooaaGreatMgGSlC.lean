/- Package task: goOn, where continuations may turn blocks of their own (M). Written by tools/gen_taskCM.py out of XTaskC. -/
import Derived.Test.YtldofbkjjmnooaaGreatMgGSlB
import Derived.Test.YtldofbkjjmnooaaGreatProg
import Derived.Test.YtldofbkjjmnooaaGreatMgGSlA
import Derived.Defers
import Derived.Recover
import Derived.Laws.LoneSync
import Derived.Laws.EntriesVeiled
import Derived.Lib.Hide
import Derived.WalkSpells
import Derived.OwnWalk
import Derived.Laws.OwnMore
import Derived.Deep.CutBlock
import Derived.LoopTactic
import Derived.StillTailTactics
namespace Go.Proofs.YtldofbkjjmnooaaGreat
open Go.ChangeShapes Go.WideShapes Go.ChangeAt Go.RowKit
set_option linter.unusedVariables false
set_option maxRecDepth 100000
set_option linter.unusedSimpArgs false
set_option maxHeartbeats 2000000 in
theorem goon_mut (t : Nat) (n : Option Addr) (d0 p0 r0 : Value) (v0 : Int) (fs : List Nat) (Q M : Nat → Prop) (J : World → Option Addr → List Nat → (Nat → Prop) → Prop) (w : World)
    (ht : Blk w t 161 #[d0, p0, r0, .int .i64 v0]) (hr : TreeO w (fun b => Q b ∧ ¬ M b) r0 fs) (hQ : ∀ k, w.heap.size ≤ k → Q k) (hQt : ¬ Q t) (hJ : J w n fs M)
    (jm : ∀ a n fs M, J a n fs M → ∀ b, M b → Q b ∧ b < a.heap.size)
    (jk : ∀ a b n fs M, w.heap.size ≤ a.heap.size → J a n fs M → Keep (fun k => k = t) a b → J b n fs M)
    (jv : ∀ a n fs M, J a n fs M → n ≠ some ⟨t, 0, none⟩ ∧ ((∃ v, DoneV a n v) ∨ ∃ k d p r gs, n = some ⟨k, 0, none⟩ ∧ Live a k d p r ∧ TreeO a (fun b => Q b ∧ ¬ M b) r gs))
    (jn : ∀ a n f fs M v, w.heap.size ≤ a.heap.size → J a n (f :: fs) M → DoneV a n v → Calls Tryz.prog 221 #[.int .i64 v, pV f] a fun e b => ∃ k M2, e = .returned (.pointer k) ∧ J b k fs M2 ∧ Keep M a b ∧ ∀ x, x < a.heap.size → M2 x → M x) :
    Calls Tryz.prog 119 #[pV t, .pointer n] w fun e w' => e = .returned (.tuple #[]) ∧ Keep (fun k => k = t ∨ M k) w w' ∧ ∃ n fs M2, J w' n fs M2 ∧ (∀ x, x < w.heap.size → M2 x → M x) ∧
      ((fs = [] ∧ ∃ v, DoneV w' n v ∧ Blk w' t 161 #[.nilFunc, .pointer none, .pointer none, .int .i64 v]) ∨
       ∃ k d p r gs j, n = some ⟨k, 0, none⟩ ∧ Live w' k d p r ∧ TreeO w' (fun b => Q b ∧ ¬ M2 b) r gs ∧ TreeO w' (fun b => Q b ∧ ¬ M2 b) j (gs ++ fs) ∧ Blk w' t 161 #[d, p, j, .int .i64 v0]) := by
  have HT := Lib.hid ht
  have HR := Lib.hid hr
  have HJ := Lib.hid hJ
  have JK := Lib.hid jk
  have JV := Lib.hid jv
  have JN := Lib.hid jn
  have HQt0 := Lib.hid hQt
  have JM := Lib.hid jm
  have HQ0 := Lib.hid hQ
  clear ht hr hQ hJ jk jv jn hQt jm
  go_enter Tryz.func119, Tryz.ntmps119
  go_wp2_with fail
  go_loopg [1] fs.length (fun k nV wr => ∃ n r gs Mc, nV = .pointer n ∧ k = gs.length ∧ Blk wr t 161 #[d0, p0, r, .int .i64 v0] ∧ TreeO wr (fun b => Q b ∧ ¬ Mc b) r gs ∧ J wr n gs Mc ∧ Keep (fun k => k = t ∨ M k) w wr ∧ Hid (∀ x, x < w.heap.size → Mc x → M x))
  case atStart => exact ⟨n, r0, fs, M, rfl, rfl, HT.out, HR.out, HJ.out, Keep.refl _ _, Lib.hid (fun _ _ h => h)⟩
  case round =>
    obtain ⟨n, r, gs, Mc, rfl, hk0, hB, hT, hj, hK, hMc⟩ := hrel
    have hsz := hK.size
    have HQ : Hid (∀ k, wr.heap.size ≤ k → Q k ∧ ¬ Mc k) := Lib.hid fun k hk => ⟨HQ0.out k (by omega), fun h => by have := (JM.out _ _ _ _ hj k h).2; omega⟩
    have HQt : Hid (¬ (Q t ∧ ¬ Mc t)) := Lib.hid fun h => HQt0.out h.1
    have HMQ := Lib.hid (JM.out _ _ _ _ hj)
    obtain ⟨hne, hv | hv⟩ := JV.out wr n gs Mc hj
    · obtain ⟨v, hv⟩ := hv
      have hd := Lib.hid (doneV_done n v wr hv)
      have hval := Lib.hid (doneV_value n v wr hv)
      have HB := Lib.hid hB
      have HV := Lib.hid hv
      have Hj := Lib.hid hj
      have Hn := Lib.hid hne
      have c2 : wr.cell? ⟨t, 2, none⟩ = some r := hB.cell 2 _ rfl
      have c0 : wr.cell? ⟨t, 0, none⟩ = some d0 := hB.cell 0 _ rfl
      have c1 : wr.cell? ⟨t, 1, none⟩ = some p0 := hB.cell 1 _ rfl
      have c3 : wr.cell? ⟨t, 3, none⟩ = some (.int .i64 v0) := hB.cell 3 _ rfl
      have z0 := hB.free 0
      have z1 := hB.free 1
      have z2 := hB.free 2
      have z3 := hB.free 3
      rcases hT with ⟨rfl, rfl⟩ | ⟨m, q, rfl, hT⟩
      · clear hB hv hj hk0 hne
        go_wp2_with (first | (go_at_call 38; refine hd.out.mono ?_; rintro e w2 ⟨rfl, rfl⟩) | (go_at_call 27; refine hval.out.mono ?_; rintro e w2 ⟨rfl, rfl⟩))
        have kW : Keep (fun k => k = t) wr (((wr.setCell ⟨t, 0, none⟩ .nilFunc).setCell ⟨t, 1, none⟩ (.pointer none)).setCell ⟨t, 3, none⟩ (.int .i64 v)) := (((Keep.refl (fun k => k = t) wr).set (p := ⟨t, 0, none⟩) (fun _ => rfl) _).set (p := ⟨t, 1, none⟩) (fun _ => rfl) _).set (p := ⟨t, 3, none⟩) (fun _ => rfl) _
        have bW := ((HB.out.set 0 .nilFunc).set 1 (.pointer none)).set 3 (.int .i64 v)
        refine bodyPost_ret (v := .tuple #[]) (by simp [results, Tryz.results119, go_sem]) rfl ?_
        refine ⟨rfl, hK.trans (kW.mono fun _ _ h => .inl h), n, [], Mc, JK.out _ _ _ _ _ hsz Hj.out kW, hMc.out, .inl ⟨rfl, v, HV.out.keep kW (fun k e hk => Hn.out (by rw [e, hk])), bW⟩⟩
      · cases gs with
        | nil => exact absurd rfl hT.ne
        | cons f gs =>
          have HF := Lib.hid (first_any m q f gs (fun b => Q b ∧ ¬ Mc b) wr hT (fun k hk => HQ.out k (by omega)))
          clear hB hv hj hne hT
          go_upto_region 3 with (first | (go_at_call 38; refine hd.out.mono ?_; rintro e w2 ⟨rfl, rfl⟩) | (go_at_call 200; refine HF.out.mono ?_; rintro e w3 ⟨rest, rfl, hrest, hw3⟩; obtain ⟨ru, rfl⟩ := hrest.is; clear c0 c1 c2 c3 z0 z1 z2 z3; have z2 := (HB.out.below hw3 HB.out.lt).free 2; have c2 : w3.cell? ⟨t, 2, none⟩ = some (pV q) := (HB.out.below hw3 HB.out.lt).cell 2 _ rfl))
          have kW : Keep (fun k => k = t) wr (w3.setCell ⟨t, 2, none⟩ (.pointer ru)) := (Keep.ofBelow (Q := fun k => k = t) hw3).set (p := ⟨t, 2, none⟩) (fun _ => rfl) _
          have bW := (HB.out.below hw3 HB.out.lt).set 2 (.pointer ru)
          have hv4 := HV.out.keep kW (fun k e hk => Hn.out (by rw [e, hk]))
          have hj4 := JK.out _ _ _ _ _ hsz Hj.out kW
          have hr4 : TreeO (w3.setCell ⟨t, 2, none⟩ (.pointer ru)) (fun b => Q b ∧ ¬ Mc b) (.pointer ru) gs := hrest.keep ((Keep.refl (fun k => k = t) w3).set (p := ⟨t, 2, none⟩) (fun _ => rfl) (.pointer ru)) (fun b hb hk => HQt.out (hk ▸ hb))
          have hs4 : w.heap.size ≤ (w3.setCell ⟨t, 2, none⟩ (.pointer ru)).heap.size := Nat.le_trans hsz kW.size
          clear c2 z2
          generalize w3.setCell ⟨t, 2, none⟩ (.pointer ru) = w4 at *
          have hval4 := Lib.hid (doneV_value n v w4 hv4)
          have hcall := Lib.hid (JN.out w4 n f gs Mc v hs4 hj4 hv4)
          have HV4 := Lib.hid hr4
          have hk5 : gk = gs.length + 1 := hk0
          clear hv4 hj4 hr4 hk0 hrest
          go_wp2_with (first | (go_at_call 27; refine hval4.out.mono ?_; rintro e w5 ⟨rfl, rfl⟩) | (go_at_call 221; refine hcall.out.mono ?_; rintro e w6 ⟨k6, M6, rfl, hj6, hw6, hm6⟩))
          go_roundg gs.length
          case measure => omega
          case rel =>
            refine ⟨_, _, gs, M6, rfl, rfl, bW.keep hw6 (fun h => HQt0.out (HMQ.out t h).1), ?_, hj6, hK.step (Q' := fun k => k = t ∨ Mc k) ((kW.mono fun _ _ h => .inl h).trans (hw6.mono fun _ _ h => .inr h)) (fun i hi h => h.imp id (hMc.out i hi)), Lib.hid (fun x hx h => hMc.out x hx (hm6 x (Nat.lt_of_lt_of_le hx hs4) h))⟩
            refine ((HV4.out.mono (Q' := fun b => (Q b ∧ ¬ Mc b) ∧ b < w4.heap.size) (fun b hb h => ⟨h, hb⟩)).keep hw6 (fun b hb h => hb.1.2 h)).mono fun b _ hb => ⟨hb.1.1, fun h => hb.1.2 (hm6 b hb.2 h)⟩
    · obtain ⟨k1, d, p, r1, g1, rfl, hL, hT1⟩ := hv
      have hd := Lib.hid (live_done k1 d p r1 wr hL)
      have hne1 : k1 ≠ t := fun e => hne (by rw [e])
      have a0 : wr.cell? ⟨k1, 0, none⟩ = some d := hL.blk.cell 0 _ rfl
      have a1 : wr.cell? ⟨k1, 1, none⟩ = some p := hL.blk.cell 1 _ rfl
      have a2 : wr.cell? ⟨k1, 2, none⟩ = some r1 := hL.blk.cell 2 _ rfl
      have c2 : wr.cell? ⟨t, 2, none⟩ = some r := hB.cell 2 _ rfl
      have hjn := Lib.hid fun W (hk : Keep (fun k => k = t) wr W) (ht2 : TreeO W (fun b => Q b ∧ ¬ Mc b) r gs) => join_trees r1 r g1 gs (fun b => Q b ∧ ¬ Mc b) W (hT1.keep hk fun b hb e => HQt.out (e ▸ hb)) ht2 (fun k hk2 => HQ.out k (by have := hk.size; omega))
      have hjl := Lib.hid fun W (hk : Keep (fun k => k = t) wr W) => hL.keep hk hne1
      have HTr := Lib.hid (show TreeO wr.drew (fun b => Q b ∧ ¬ Mc b) r gs from hT.keep ((Keep.refl (fun _ => False) wr).drew) (fun _ _ h => h))
      have HBr : Hid (Blk wr.drew t 161 #[d0, p0, r, .int .i64 v0]) := Lib.hid hB
      have HL := Lib.hid hL
      have Hj := Lib.hid hj
      have ho := hL.op
      have hr1 := hT1.ptr
      have hr := hT.ptr
      have HT1 := Lib.hid hT1
      clear hB hj hL hT hT1 hk0
      go_upto_region 6 with (go_at_call 38; refine hd.out.mono ?_; rintro e w2 ⟨rfl, rfl⟩)
      have k0 : Keep (fun k => k = t) wr wr.drew := (Keep.refl _ _).drew
      have q2 : wr.drew.cell? ⟨t, 2, none⟩ = some r := HBr.out.cell 2 _ rfl
      obtain ⟨ru, rfl⟩ : ∃ u, r = .pointer u := by rcases hr with rfl | ⟨q, rfl⟩ <;> exact ⟨_, rfl⟩
      obtain ⟨r1u, rfl⟩ : ∃ u, r1 = .pointer u := by rcases hr1 with rfl | ⟨q, rfl⟩ <;> exact ⟨_, rfl⟩
      clear hr hr1 a0 a1 a2 c2 hd
      rcases ho with ⟨F, caps, rfl, rfl⟩ | ⟨q, rfl, rfl⟩
      · have SK := Lib.hid (show ∀ W, Keep (fun k => k = t) wr W → (fun W => (W.cell? ⟨k1, 0, none⟩ = some (cloV F caps) ∧ W.cell? ⟨k1, 1, none⟩ = some (.pointer none) ∧ W.cell? ⟨k1, 2, none⟩ = some (.pointer r1u))) W from fun W hk => ⟨(hjl.out W hk).blk.cell 0 _ rfl, (hjl.out W hk).blk.cell 1 _ rfl, (hjl.out W hk).blk.cell 2 _ rfl⟩)
        refine wp_region_held_drew (S := (fun W => (W.cell? ⟨k1, 0, none⟩ = some (cloV F caps) ∧ W.cell? ⟨k1, 1, none⟩ = some (.pointer none) ∧ W.cell? ⟨k1, 2, none⟩ = some (.pointer r1u)))) (by kernel_rfl) (SK.out _ k0) (fun hHeld => ?_)
        refine wpAnyH_take (i := 0) (oi := _) (v := ?_) rfl (by kernel_rfl) (by kernel_rfl) (by kernel_rfl) (fun _ _ _ h => h) (Or.inl ⟨by rfl, ?_⟩) (by assumption) ?_
        rotate_left
        · intro w hSw; (try dsimp only at hSw); go_simp; try with_reducible rfl
        (try simp only [Act.put, List.setIfInBounds_toArray, List.set_cons_zero, List.set_cons_succ])
        refine wpAnyH_take (i := 1) (oi := _) (v := ?_) rfl (by kernel_rfl) (by kernel_rfl) (by kernel_rfl) (fun _ _ _ h => h) (Or.inl ⟨by rfl, ?_⟩) (by assumption) ?_
        rotate_left
        · intro w hSw; (try dsimp only at hSw); go_simp; try with_reducible rfl
        (try simp only [Act.put, List.setIfInBounds_toArray, List.set_cons_zero, List.set_cons_succ])
        refine wpAnyH_take (i := 2) (oi := _) (v := ?_) rfl (by kernel_rfl) (by kernel_rfl) (by kernel_rfl) (fun _ _ _ h => h) (Or.inl ⟨by rfl, ?_⟩) (by assumption) ?_
        rotate_left
        · intro w hSw; (try dsimp only at hSw); go_simp; try with_reducible rfl
        (try simp only [Act.put, List.setIfInBounds_toArray, List.set_cons_zero, List.set_cons_succ])
        refine wpAnyH_take (i := 3) (oi := _) (v := ?_) rfl (by kernel_rfl) (by kernel_rfl) (by kernel_rfl) (fun _ _ _ h => h) (Or.inl ⟨by rfl, ?_⟩) (by assumption) ?_
        rotate_left
        · intro w hSw; (try dsimp only at hSw); go_simp; try with_reducible rfl
        (try simp only [Act.put, List.setIfInBounds_toArray, List.set_cons_zero, List.set_cons_succ])
        refine wpAnyH_take (i := 4) (oi := _) (v := ?_) rfl (by kernel_rfl) (by kernel_rfl) (by kernel_rfl) (fun _ _ _ h => h) (Or.inl ⟨by rfl, ?_⟩) (by assumption) ?_
        rotate_left
        · intro w hSw; (try dsimp only at hSw); go_simp; try with_reducible rfl
        (try simp only [Act.put, List.setIfInBounds_toArray, List.set_cons_zero, List.set_cons_succ])
        refine wpAnyH_take (i := 5) (oi := _) (v := ?_) rfl (by kernel_rfl) (by kernel_rfl) (by kernel_rfl) (fun _ _ _ h => h) (Or.inl ⟨by rfl, ?_⟩) (by assumption) ?_
        rotate_left
        · intro w hSw; (try dsimp only at hSw); go_simp; try with_reducible rfl
        (try simp only [Act.put, List.setIfInBounds_toArray, List.set_cons_zero, List.set_cons_succ])
        refine wpAnyH_take (i := 6) (oi := _) (v := ?_) rfl (by kernel_rfl) (by kernel_rfl) (by kernel_rfl) (fun _ _ _ h => h) (Or.inl ⟨by rfl, ?_⟩) (by assumption) ?_
        rotate_left
        · intro w hSw; (try dsimp only at hSw); go_simp; try with_reducible rfl
        (try simp only [Act.put, List.setIfInBounds_toArray, List.set_cons_zero, List.set_cons_succ])
        refine wpAnyH_take (i := 7) (oi := _) (v := ?_) rfl (by kernel_rfl) (by kernel_rfl) (by kernel_rfl) (fun _ _ _ h => h) (Or.inl ⟨by rfl, ?_⟩) (by assumption) ?_
        rotate_left
        · intro w hSw; (try dsimp only at hSw); go_simp; try with_reducible rfl
        (try simp only [Act.put, List.setIfInBounds_toArray, List.set_cons_zero, List.set_cons_succ])
        refine wpAnyH_take (i := 8) (oi := _) (v := ?_) rfl (by kernel_rfl) (by kernel_rfl) (by kernel_rfl) (fun _ _ _ h => h) (Or.inl ⟨by rfl, ?_⟩) (by assumption) ?_
        rotate_left
        · intro w hSw; (try dsimp only at hSw); go_simp; try with_reducible rfl
        (try simp only [Act.put, List.setIfInBounds_toArray, List.set_cons_zero, List.set_cons_succ])
        refine wpAnyH_take (i := 9) (oi := _) (v := ?_) rfl (by kernel_rfl) (by kernel_rfl) (by kernel_rfl) (fun _ _ _ h => h) (Or.inl ⟨by rfl, ?_⟩) (by assumption) ?_
        rotate_left
        · intro w hSw; (try dsimp only at hSw); go_simp; try with_reducible rfl
        (try simp only [Act.put, List.setIfInBounds_toArray, List.set_cons_zero, List.set_cons_succ])
        refine wpAnyH_take (i := 10) (oi := _) (v := ?_) rfl (by kernel_rfl) (by kernel_rfl) (by kernel_rfl) (fun _ _ _ h => h) (Or.inl ⟨by rfl, ?_⟩) (by assumption) ?_
        rotate_left
        · intro w hSw; (try dsimp only at hSw); go_simp; try with_reducible rfl
        (try simp only [Act.put, List.setIfInBounds_toArray, List.set_cons_zero, List.set_cons_succ])
        refine wpAnyH_take (i := 11) (oi := _) (v := ?_) rfl (by kernel_rfl) (by kernel_rfl) (by kernel_rfl) (fun _ _ _ h => h) (Or.inl ⟨by rfl, ?_⟩) (by assumption) ?_
        rotate_left
        · intro w hSw; (try dsimp only at hSw); go_simp; try with_reducible rfl
        (try simp only [Act.put, List.setIfInBounds_toArray, List.set_cons_zero, List.set_cons_succ])
        refine wpAnyH_take (i := 12) (oi := _) (v := ?_) rfl (by kernel_rfl) (by kernel_rfl) (by kernel_rfl) (fun _ _ _ h => h) (Or.inl ⟨by rfl, ?_⟩) (by assumption) ?_
        rotate_left
        · intro w hSw; (try dsimp only at hSw); go_simp; try with_reducible rfl
        (try simp only [Act.put, List.setIfInBounds_toArray, List.set_cons_zero, List.set_cons_succ])
        refine wpAnyH_ready (rs := [13]) (by kernel_rfl) (by simp) ?_
        refine AllReadyH.cons rfl (fun K hK => ?_) AllReadyH.nil
        go_simp
        go_wp2_with fail
        refine hK.out _ _ (SK.out _ k0) (fun hHeld => ?_)
        clear hK K
        (try dsimp only [Act.put]); (try simp only [Act.put, List.setIfInBounds_toArray, List.set_cons_zero, List.set_cons_succ])
        refine wpAnyH_ready (rs := [14]) (by kernel_rfl) (by simp) ?_
        refine AllReadyH.cons rfl (fun K hK => ?_) AllReadyH.nil
        go_simp
        go_at_call 201
        refine (hjn.out _ k0 HTr.out).mono ?_
        rintro e w3 ⟨j, rfl, hjt, hw3⟩
        obtain ⟨ju, rfl⟩ := hjt.is
        have k3 := k0.trans (Keep.ofBelow (Q := fun k => k = t) hw3)
        have B3 := HBr.out.below hw3 HBr.out.lt
        clear q2
        go_wp2_with fail
        refine hK.out _ _ (SK.out _ k3) (fun hHeld => ?_)
        clear hK K
        (try dsimp only [Act.put]); (try simp only [Act.put, List.setIfInBounds_toArray, List.set_cons_zero, List.set_cons_succ])
        have q0 : w3.cell? ⟨t, 0, none⟩ = some d0 := B3.cell 0 _ rfl
        have q1 : w3.cell? ⟨t, 1, none⟩ = some p0 := B3.cell 1 _ rfl
        have z0 := B3.free 0
        have z1 := B3.free 1
        refine wpAnyH_take (i := 15) (oi := _) (v := ?_) rfl (by kernel_rfl) (by kernel_rfl) (by kernel_rfl) (fun _ _ _ h => h) (Or.inl ⟨by rfl, ?_⟩) (by assumption) ?_
        rotate_left
        · intro w hSw; (try dsimp only at hSw); go_simp; try with_reducible rfl
        (try simp only [Act.put, List.setIfInBounds_toArray, List.set_cons_zero, List.set_cons_succ])
        refine wpAnyH_take (i := 16) (oi := _) (v := ?_) rfl (by kernel_rfl) (by kernel_rfl) (by kernel_rfl) (fun _ _ _ h => h) (Or.inl ⟨by rfl, ?_⟩) (by assumption) ?_
        rotate_left
        · intro w hSw; (try dsimp only at hSw); go_simp; try with_reducible rfl
        (try simp only [Act.put, List.setIfInBounds_toArray, List.set_cons_zero, List.set_cons_succ])
        have k4 : Keep (fun k => k = t) wr ((w3.setCell ⟨t, 0, none⟩ (cloV F caps)).setCell ⟨t, 1, none⟩ (.pointer none)) := (k3.set (p := ⟨t, 0, none⟩) (fun _ => rfl) _).set (p := ⟨t, 1, none⟩) (fun _ => rfl) _
        refine wpAnyH_ready (rs := [17]) (by kernel_rfl) (by simp) ?_
        refine AllReadyH.cons rfl (fun K hK => ?_) AllReadyH.nil
        go_simp
        go_wp2_with fail
        refine hK.out _ _ (SK.out _ k4) (fun hHeld => ?_)
        clear hK K
        (try dsimp only [Act.put]); (try simp only [Act.put, List.setIfInBounds_toArray, List.set_cons_zero, List.set_cons_succ])
        have B4 := (B3.set 0 (cloV F caps)).set 1 (.pointer none)
        have hjt4 : TreeO ((w3.setCell ⟨t, 0, none⟩ (cloV F caps)).setCell ⟨t, 1, none⟩ (.pointer none)) (fun b => Q b ∧ ¬ Mc b) (.pointer ju) (g1 ++ gs) := hjt.keep (((Keep.refl (fun k => k = t) w3).set (p := ⟨t, 0, none⟩) (fun _ => rfl) _).set (p := ⟨t, 1, none⟩) (fun _ => rfl) _) (fun b hb e => HQt.out (e ▸ hb))
        clear q0 q1 z0 z1 hHeld
        generalize ((w3.setCell ⟨t, 0, none⟩ (cloV F caps)).setCell ⟨t, 1, none⟩ (.pointer none)) = w4 at *
        have hHeld := SK.out _ k4
        have q2 : w4.cell? ⟨t, 2, none⟩ = some (.pointer ru) := B4.cell 2 _ rfl
        have z2 := B4.free 2
        have k5 : Keep (fun k => k = t) wr (w4.setCell ⟨t, 2, none⟩ (.pointer ju)) := k4.set (p := ⟨t, 2, none⟩) (fun _ => rfl) _
        refine wpAnyH_take (i := 18) (oi := _) (v := ?_) rfl (by kernel_rfl) (by kernel_rfl) (by kernel_rfl) (fun _ _ _ h => h) (Or.inl ⟨by rfl, ?_⟩) (by assumption) ?_
        rotate_left
        · intro w hSw; (try dsimp only at hSw); go_simp; try with_reducible rfl
        (try simp only [Act.put, List.setIfInBounds_toArray, List.set_cons_zero, List.set_cons_succ])
        refine wpAnyH_take (i := 19) (oi := _) (v := ?_) rfl (by kernel_rfl) (by kernel_rfl) (by kernel_rfl) (fun _ _ _ h => h) (Or.inl ⟨by rfl, ?_⟩) (by assumption) ?_
        rotate_left
        · intro w hSw; (try dsimp only at hSw); go_simp; try with_reducible rfl
        (try simp only [Act.put, List.setIfInBounds_toArray, List.set_cons_zero, List.set_cons_succ])
        refine wpAnyH_ready (rs := [20]) (by kernel_rfl) (by simp) ?_
        refine AllReadyH.cons rfl (fun K hK => ?_) AllReadyH.nil
        go_simp
        go_wp2_with fail
        refine hK.out _ _ (SK.out _ k5) (fun hHeld => ?_)
        clear hK K
        (try dsimp only [Act.put]); (try simp only [Act.put, List.setIfInBounds_toArray, List.set_cons_zero, List.set_cons_succ])
        refine wpAnyH_done (by kernel_rfl) ?_ _
        have bW := B4.set 2 (.pointer ju)
        have k6 : Keep (fun k => k = t) w4 (w4.setCell ⟨t, 2, none⟩ (.pointer ju)) := (Keep.refl (fun k => k = t) w4).set (p := ⟨t, 2, none⟩) (fun _ => rfl) _
        go_end0
        refine ⟨rfl, hK.trans (k5.mono fun _ _ h => .inl h), some ⟨k1, 0, none⟩, gs, Mc, JK.out _ _ _ _ _ hsz Hj.out k5, hMc.out, .inr ⟨k1, _, _, _, g1, _, rfl, hjl.out _ k5, HT1.out.keep k5 (fun b hb e => HQt.out (e ▸ hb)), hjt4.keep k6 (fun b hb e => HQt.out (e ▸ hb)), bW⟩⟩
      · have SK := Lib.hid (show ∀ W, Keep (fun k => k = t) wr W → (fun W => (W.cell? ⟨k1, 0, none⟩ = some (.nilFunc) ∧ W.cell? ⟨k1, 1, none⟩ = some (pV q) ∧ W.cell? ⟨k1, 2, none⟩ = some (.pointer r1u))) W from fun W hk => ⟨(hjl.out W hk).blk.cell 0 _ rfl, (hjl.out W hk).blk.cell 1 _ rfl, (hjl.out W hk).blk.cell 2 _ rfl⟩)
        refine wp_region_held_drew (S := (fun W => (W.cell? ⟨k1, 0, none⟩ = some (.nilFunc) ∧ W.cell? ⟨k1, 1, none⟩ = some (pV q) ∧ W.cell? ⟨k1, 2, none⟩ = some (.pointer r1u)))) (by kernel_rfl) (SK.out _ k0) (fun hHeld => ?_)
        refine wpAnyH_take (i := 0) (oi := _) (v := ?_) rfl (by kernel_rfl) (by kernel_rfl) (by kernel_rfl) (fun _ _ _ h => h) (Or.inl ⟨by rfl, ?_⟩) (by assumption) ?_
        rotate_left
        · intro w hSw; (try dsimp only at hSw); go_simp; try with_reducible rfl
        (try simp only [Act.put, List.setIfInBounds_toArray, List.set_cons_zero, List.set_cons_succ])
        refine wpAnyH_take (i := 1) (oi := _) (v := ?_) rfl (by kernel_rfl) (by kernel_rfl) (by kernel_rfl) (fun _ _ _ h => h) (Or.inl ⟨by rfl, ?_⟩) (by assumption) ?_
        rotate_left
        · intro w hSw; (try dsimp only at hSw); go_simp; try with_reducible rfl
        (try simp only [Act.put, List.setIfInBounds_toArray, List.set_cons_zero, List.set_cons_succ])
        refine wpAnyH_take (i := 2) (oi := _) (v := ?_) rfl (by kernel_rfl) (by kernel_rfl) (by kernel_rfl) (fun _ _ _ h => h) (Or.inl ⟨by rfl, ?_⟩) (by assumption) ?_
        rotate_left
        · intro w hSw; (try dsimp only at hSw); go_simp; try with_reducible rfl
        (try simp only [Act.put, List.setIfInBounds_toArray, List.set_cons_zero, List.set_cons_succ])
        refine wpAnyH_take (i := 3) (oi := _) (v := ?_) rfl (by kernel_rfl) (by kernel_rfl) (by kernel_rfl) (fun _ _ _ h => h) (Or.inl ⟨by rfl, ?_⟩) (by assumption) ?_
        rotate_left
        · intro w hSw; (try dsimp only at hSw); go_simp; try with_reducible rfl
        (try simp only [Act.put, List.setIfInBounds_toArray, List.set_cons_zero, List.set_cons_succ])
        refine wpAnyH_take (i := 4) (oi := _) (v := ?_) rfl (by kernel_rfl) (by kernel_rfl) (by kernel_rfl) (fun _ _ _ h => h) (Or.inl ⟨by rfl, ?_⟩) (by assumption) ?_
        rotate_left
        · intro w hSw; (try dsimp only at hSw); go_simp; try with_reducible rfl
        (try simp only [Act.put, List.setIfInBounds_toArray, List.set_cons_zero, List.set_cons_succ])
        refine wpAnyH_take (i := 5) (oi := _) (v := ?_) rfl (by kernel_rfl) (by kernel_rfl) (by kernel_rfl) (fun _ _ _ h => h) (Or.inl ⟨by rfl, ?_⟩) (by assumption) ?_
        rotate_left
        · intro w hSw; (try dsimp only at hSw); go_simp; try with_reducible rfl
        (try simp only [Act.put, List.setIfInBounds_toArray, List.set_cons_zero, List.set_cons_succ])
        refine wpAnyH_take (i := 6) (oi := _) (v := ?_) rfl (by kernel_rfl) (by kernel_rfl) (by kernel_rfl) (fun _ _ _ h => h) (Or.inl ⟨by rfl, ?_⟩) (by assumption) ?_
        rotate_left
        · intro w hSw; (try dsimp only at hSw); go_simp; try with_reducible rfl
        (try simp only [Act.put, List.setIfInBounds_toArray, List.set_cons_zero, List.set_cons_succ])
        refine wpAnyH_take (i := 7) (oi := _) (v := ?_) rfl (by kernel_rfl) (by kernel_rfl) (by kernel_rfl) (fun _ _ _ h => h) (Or.inl ⟨by rfl, ?_⟩) (by assumption) ?_
        rotate_left
        · intro w hSw; (try dsimp only at hSw); go_simp; try with_reducible rfl
        (try simp only [Act.put, List.setIfInBounds_toArray, List.set_cons_zero, List.set_cons_succ])
        refine wpAnyH_take (i := 8) (oi := _) (v := ?_) rfl (by kernel_rfl) (by kernel_rfl) (by kernel_rfl) (fun _ _ _ h => h) (Or.inl ⟨by rfl, ?_⟩) (by assumption) ?_
        rotate_left
        · intro w hSw; (try dsimp only at hSw); go_simp; try with_reducible rfl
        (try simp only [Act.put, List.setIfInBounds_toArray, List.set_cons_zero, List.set_cons_succ])
        refine wpAnyH_take (i := 9) (oi := _) (v := ?_) rfl (by kernel_rfl) (by kernel_rfl) (by kernel_rfl) (fun _ _ _ h => h) (Or.inl ⟨by rfl, ?_⟩) (by assumption) ?_
        rotate_left
        · intro w hSw; (try dsimp only at hSw); go_simp; try with_reducible rfl
        (try simp only [Act.put, List.setIfInBounds_toArray, List.set_cons_zero, List.set_cons_succ])
        refine wpAnyH_take (i := 10) (oi := _) (v := ?_) rfl (by kernel_rfl) (by kernel_rfl) (by kernel_rfl) (fun _ _ _ h => h) (Or.inl ⟨by rfl, ?_⟩) (by assumption) ?_
        rotate_left
        · intro w hSw; (try dsimp only at hSw); go_simp; try with_reducible rfl
        (try simp only [Act.put, List.setIfInBounds_toArray, List.set_cons_zero, List.set_cons_succ])
        refine wpAnyH_take (i := 11) (oi := _) (v := ?_) rfl (by kernel_rfl) (by kernel_rfl) (by kernel_rfl) (fun _ _ _ h => h) (Or.inl ⟨by rfl, ?_⟩) (by assumption) ?_
        rotate_left
        · intro w hSw; (try dsimp only at hSw); go_simp; try with_reducible rfl
        (try simp only [Act.put, List.setIfInBounds_toArray, List.set_cons_zero, List.set_cons_succ])
        refine wpAnyH_take (i := 12) (oi := _) (v := ?_) rfl (by kernel_rfl) (by kernel_rfl) (by kernel_rfl) (fun _ _ _ h => h) (Or.inl ⟨by rfl, ?_⟩) (by assumption) ?_
        rotate_left
        · intro w hSw; (try dsimp only at hSw); go_simp; try with_reducible rfl
        (try simp only [Act.put, List.setIfInBounds_toArray, List.set_cons_zero, List.set_cons_succ])
        refine wpAnyH_ready (rs := [13]) (by kernel_rfl) (by simp) ?_
        refine AllReadyH.cons rfl (fun K hK => ?_) AllReadyH.nil
        go_simp
        go_wp2_with fail
        refine hK.out _ _ (SK.out _ k0) (fun hHeld => ?_)
        clear hK K
        (try dsimp only [Act.put]); (try simp only [Act.put, List.setIfInBounds_toArray, List.set_cons_zero, List.set_cons_succ])
        refine wpAnyH_ready (rs := [14]) (by kernel_rfl) (by simp) ?_
        refine AllReadyH.cons rfl (fun K hK => ?_) AllReadyH.nil
        go_simp
        go_at_call 201
        refine (hjn.out _ k0 HTr.out).mono ?_
        rintro e w3 ⟨j, rfl, hjt, hw3⟩
        obtain ⟨ju, rfl⟩ := hjt.is
        have k3 := k0.trans (Keep.ofBelow (Q := fun k => k = t) hw3)
        have B3 := HBr.out.below hw3 HBr.out.lt
        clear q2
        go_wp2_with fail
        refine hK.out _ _ (SK.out _ k3) (fun hHeld => ?_)
        clear hK K
        (try dsimp only [Act.put]); (try simp only [Act.put, List.setIfInBounds_toArray, List.set_cons_zero, List.set_cons_succ])
        have q0 : w3.cell? ⟨t, 0, none⟩ = some d0 := B3.cell 0 _ rfl
        have q1 : w3.cell? ⟨t, 1, none⟩ = some p0 := B3.cell 1 _ rfl
        have z0 := B3.free 0
        have z1 := B3.free 1
        refine wpAnyH_take (i := 15) (oi := _) (v := ?_) rfl (by kernel_rfl) (by kernel_rfl) (by kernel_rfl) (fun _ _ _ h => h) (Or.inl ⟨by rfl, ?_⟩) (by assumption) ?_
        rotate_left
        · intro w hSw; (try dsimp only at hSw); go_simp; try with_reducible rfl
        (try simp only [Act.put, List.setIfInBounds_toArray, List.set_cons_zero, List.set_cons_succ])
        refine wpAnyH_take (i := 16) (oi := _) (v := ?_) rfl (by kernel_rfl) (by kernel_rfl) (by kernel_rfl) (fun _ _ _ h => h) (Or.inl ⟨by rfl, ?_⟩) (by assumption) ?_
        rotate_left
        · intro w hSw; (try dsimp only at hSw); go_simp; try with_reducible rfl
        (try simp only [Act.put, List.setIfInBounds_toArray, List.set_cons_zero, List.set_cons_succ])
        have k4 : Keep (fun k => k = t) wr ((w3.setCell ⟨t, 0, none⟩ (.nilFunc)).setCell ⟨t, 1, none⟩ (pV q)) := (k3.set (p := ⟨t, 0, none⟩) (fun _ => rfl) _).set (p := ⟨t, 1, none⟩) (fun _ => rfl) _
        refine wpAnyH_ready (rs := [17]) (by kernel_rfl) (by simp) ?_
        refine AllReadyH.cons rfl (fun K hK => ?_) AllReadyH.nil
        go_simp
        go_wp2_with fail
        refine hK.out _ _ (SK.out _ k4) (fun hHeld => ?_)
        clear hK K
        (try dsimp only [Act.put]); (try simp only [Act.put, List.setIfInBounds_toArray, List.set_cons_zero, List.set_cons_succ])
        have B4 := (B3.set 0 (.nilFunc)).set 1 (pV q)
        have hjt4 : TreeO ((w3.setCell ⟨t, 0, none⟩ (.nilFunc)).setCell ⟨t, 1, none⟩ (pV q)) (fun b => Q b ∧ ¬ Mc b) (.pointer ju) (g1 ++ gs) := hjt.keep (((Keep.refl (fun k => k = t) w3).set (p := ⟨t, 0, none⟩) (fun _ => rfl) _).set (p := ⟨t, 1, none⟩) (fun _ => rfl) _) (fun b hb e => HQt.out (e ▸ hb))
        clear q0 q1 z0 z1 hHeld
        generalize ((w3.setCell ⟨t, 0, none⟩ (.nilFunc)).setCell ⟨t, 1, none⟩ (pV q)) = w4 at *
        have hHeld := SK.out _ k4
        have q2 : w4.cell? ⟨t, 2, none⟩ = some (.pointer ru) := B4.cell 2 _ rfl
        have z2 := B4.free 2
        have k5 : Keep (fun k => k = t) wr (w4.setCell ⟨t, 2, none⟩ (.pointer ju)) := k4.set (p := ⟨t, 2, none⟩) (fun _ => rfl) _
        refine wpAnyH_take (i := 18) (oi := _) (v := ?_) rfl (by kernel_rfl) (by kernel_rfl) (by kernel_rfl) (fun _ _ _ h => h) (Or.inl ⟨by rfl, ?_⟩) (by assumption) ?_
        rotate_left
        · intro w hSw; (try dsimp only at hSw); go_simp; try with_reducible rfl
        (try simp only [Act.put, List.setIfInBounds_toArray, List.set_cons_zero, List.set_cons_succ])
        refine wpAnyH_take (i := 19) (oi := _) (v := ?_) rfl (by kernel_rfl) (by kernel_rfl) (by kernel_rfl) (fun _ _ _ h => h) (Or.inl ⟨by rfl, ?_⟩) (by assumption) ?_
        rotate_left
        · intro w hSw; (try dsimp only at hSw); go_simp; try with_reducible rfl
        (try simp only [Act.put, List.setIfInBounds_toArray, List.set_cons_zero, List.set_cons_succ])
        refine wpAnyH_ready (rs := [20]) (by kernel_rfl) (by simp) ?_
        refine AllReadyH.cons rfl (fun K hK => ?_) AllReadyH.nil
        go_simp
        go_wp2_with fail
        refine hK.out _ _ (SK.out _ k5) (fun hHeld => ?_)
        clear hK K
        (try dsimp only [Act.put]); (try simp only [Act.put, List.setIfInBounds_toArray, List.set_cons_zero, List.set_cons_succ])
        refine wpAnyH_done (by kernel_rfl) ?_ _
        have bW := B4.set 2 (.pointer ju)
        have k6 : Keep (fun k => k = t) w4 (w4.setCell ⟨t, 2, none⟩ (.pointer ju)) := (Keep.refl (fun k => k = t) w4).set (p := ⟨t, 2, none⟩) (fun _ => rfl) _
        go_end0
        refine ⟨rfl, hK.trans (k5.mono fun _ _ h => .inl h), some ⟨k1, 0, none⟩, gs, Mc, JK.out _ _ _ _ _ hsz Hj.out k5, hMc.out, .inr ⟨k1, _, _, _, g1, _, rfl, hjl.out _ k5, HT1.out.keep k5 (fun b hb e => HQt.out (e ▸ hb)), hjt4.keep k6 (fun b hb e => HQt.out (e ▸ hb)), bW⟩⟩
end Go.Proofs.YtldofbkjjmnooaaGreat
/- Contracts of package cells: the plain back's methods, the counter, and the call that recovers. -/
namespace Go.Proofs.YtldofbkjjmnooaaGreat
open Go.ChangeShapes Go.WideShapes Go.ChangeAt Go.RowKit
set_option linter.unusedVariables false
set_option maxRecDepth 100000
set_option linter.unusedSimpArgs false
/-- words, as cells -/
def words (l : List Int) : Array Value := (l.map (Value.int .u64)).toArray
theorem words_at {l : List Int} {i : Nat} {v : Int} (h : l[i]? = some v) : (words l)[i]? = some (.int .u64 v) := by simp [words, h]
theorem words_set (l : List Int) (i : Nat) (v : Int) : (words l).setIfInBounds i (.int .u64 v) = words (l.set i v) := by
  simp [words, List.map_set]
theorem words_size (l : List Int) : (words l).size = l.length := by simp [words]
/-- the value of a plain back -/
abbrev rowV (S n : Nat) : Value := .slice (some ⟨S, 0, none⟩) n n
theorem pLen_any (S n : Nat) (w : World) : Calls Tryz.prog 400 #[rowV S n] w fun e w' => e = .returned (.int .i64 n) ∧ w = w' := by
  go_enter Tryz.func400, Tryz.ntmps400
  go_wp2
  go_ret
  exact ⟨rfl, rfl⟩
theorem pLoad_any (S : Nat) (l : List Int) (i : Nat) (v : Int) (w : World) (hb : Blk w S 47 (words l)) (hi : l[i]? = some v) (hm : l.length ≤ 9223372036854775807) :
    Calls Tryz.prog 401 #[rowV S l.length, .int .i64 i] w fun e w' => e = .returned (.int .u64 v) ∧ w = w' := by
  have hlt : i < l.length := by rw [List.getElem?_eq_some_iff] at hi; exact hi.1
  have hc := hb.cell i _ (words_at hi)
  have HI := Lib.hid hi
  clear hi
  generalize l.length = n at *
  go_enter Tryz.func401, Tryz.ntmps401
  go_wp2
  go_ret
  exact ⟨rfl, rfl⟩
theorem pStore_any (S : Nat) (l : List Int) (i : Nat) (v u : Int) (w : World) (hb : Blk w S 47 (words l)) (hi : l[i]? = some v) (hm : l.length ≤ 9223372036854775807) :
    Calls Tryz.prog 402 #[rowV S l.length, .int .i64 i, .int .u64 u] w fun e w' => e = .returned (.tuple #[]) ∧ w.setCell ⟨S, i, none⟩ (.int .u64 u) = w' := by
  have hlt : i < l.length := by rw [List.getElem?_eq_some_iff] at hi; exact hi.1
  have hc := hb.cell i _ (words_at hi)
  have hf := hb.free i
  have HI := Lib.hid hi
  clear hi
  generalize l.length = n at *
  go_enter Tryz.func402, Tryz.ntmps402
  go_wp2
  go_end0
  exact ⟨rfl, rfl⟩
theorem pSwap_yes (S : Nat) (l : List Int) (i : Nat) (v u : Int) (w : World) (hb : Blk w S 47 (words l)) (hi : l[i]? = some v) (hm : l.length ≤ 9223372036854775807) :
    Calls Tryz.prog 403 #[rowV S l.length, .int .i64 i, .int .u64 v, .int .u64 u] w fun e w' => e = .returned (.bool true) ∧ w.setCell ⟨S, i, none⟩ (.int .u64 u) = w' := by
  have hlt : i < l.length := by rw [List.getElem?_eq_some_iff] at hi; exact hi.1
  have hc := hb.cell i _ (words_at hi)
  have hf := hb.free i
  have HI := Lib.hid hi
  clear hi
  generalize l.length = n at *
  go_enter Tryz.func403, Tryz.ntmps403
  go_wp2
  go_ret
  exact ⟨rfl, rfl⟩
theorem pSwap_no (S : Nat) (l : List Int) (i : Nat) (v old u : Int) (w : World) (hb : Blk w S 47 (words l)) (hi : l[i]? = some v) (hm : l.length ≤ 9223372036854775807) (hne : (v != old) = true) :
    Calls Tryz.prog 403 #[rowV S l.length, .int .i64 i, .int .u64 old, .int .u64 u] w fun e w' => e = .returned (.bool false) ∧ w = w' := by
  have hlt : i < l.length := by rw [List.getElem?_eq_some_iff] at hi; exact hi.1
  have hc := hb.cell i _ (words_at hi)
  have hf := hb.free i
  have HI := Lib.hid hi
  clear hi
  generalize l.length = n at *
  go_enter Tryz.func403, Tryz.ntmps403
  go_wp2
  go_ret
  exact ⟨rfl, rfl⟩
/- the counter -/
theorem xload (a : Addr) (x : Int) (w : World) (hc : w.cell? a = some (.int .i64 x)) : (callFunc 176 #[.pointer (some a)]).run Tryz.prog w = .ok (.value (.int .i64 x)) w :=
  run_call_load Tryz.func176 (by kernel_rfl) (by kernel_rfl) (by kernel_rfl) .i64 (by kernel_rfl) hc
theorem xadd (a : Addr) (x y : Int) (w : World) (hc : w.cell? a = some (.int .i64 x)) (hz : w.frozen? a = false) :
    (callFunc 292 #[.pointer (some a), .int .i64 y]).run Tryz.prog w = .ok (.value (.int .i64 (wrap64 (x + y)))) (w.setCell a (.int .i64 (wrap64 (x + y)))) :=
  run_call_add Tryz.func292 (by kernel_rfl) (by kernel_rfl) (by kernel_rfl) .i64 (by kernel_rfl) hc hz (by simp [go_sem, wrap64, IntKind.wrap_i64])
theorem aLoad_any (C : Nat) (x : Int) (w : World) (hc : w.cell? ⟨C, 1, none⟩ = some (.int .i64 x)) :
    Calls Tryz.prog 99 #[.pointer (some ⟨C, 1, none⟩)] w fun e w' => e = .returned (.int .i64 x) ∧ w = w' := by
  have hx := xload ⟨C, 1, none⟩ x w hc
  go_enter Tryz.func99, Tryz.ntmps99
  go_wp2
  go_ret
  exact ⟨rfl, rfl⟩
theorem aAdd_any (C : Nat) (x : Int) (w : World) (hc : w.cell? ⟨C, 1, none⟩ = some (.int .i64 x)) (hz : w.frozen? ⟨C, 1, none⟩ = false) :
    Calls Tryz.prog 227 #[.pointer (some ⟨C, 1, none⟩), .int .i64 1] w fun e w' => e = .returned (.int .i64 (wrap64 (x + 1))) ∧ w.setCell ⟨C, 1, none⟩ (.int .i64 (wrap64 (x + 1))) = w' := by
  have hx := xadd ⟨C, 1, none⟩ x 1 w hc hz
  go_enter Tryz.func227, Tryz.ntmps227
  go_wp2
  go_ret
  exact ⟨rfl, rfl⟩
/- the call that recovers -/
theorem catch_idle (w : World) : CallsD Tryz.prog 174 #[] .returning w fun e u' w' => e = .returned (.tuple #[]) ∧ u' = .returning ∧ w' = w := by
  refine callsD_of_wpS Tryz.func174 rfl fun c₀ cs hu => ?_
  apply wpS_region
  simp [wpOpsS, go_sem, recoverD, hu, Tryz.ntmps174, Exit.thenS, bodyPostS, results, Tryz.results174]
  cases c₀
  simp_all
theorem attempt_any (F : Nat) (caps : Array Value) (w : World) (P : World → Prop)
    (hcall : ∀ (W : World) (args : Array Value), (callFunc F args).run Tryz.prog W = .ok (.enter F args) W)
    (h : Calls Tryz.prog F caps w fun e w' => e = .returned (.tuple #[]) ∧ P w') :
    Calls Tryz.prog 96 #[.func (.func F) #[] caps] w fun e w' => e = .returned (.bool true) ∧ P w' := by
  have HH := Lib.hid h
  clear h
  go_enter_defers Tryz.func96, Tryz.ntmps96
  go_wp2_with fail
  refine HH.out.mono ?_
  rintro e w1 ⟨rfl, hp⟩
  go_wp2_with fail
  refine leaves_cons (f := 174) (args := #[]) (by simp) (by simp [go_sem]) ?_
  refine (catch_idle _).mono ?_
  rintro e u' w'' ⟨rfl, rfl, rfl⟩
  simp [Leaves, settle, results, Tryz.results96, go_sem]
  exact hp
end Go.Proofs.YtldofbkjjmnooaaGreat
/- Contracts of package cells: New, Over, Len, Steps. -/
namespace Go.Proofs.YtldofbkjjmnooaaGreat
open Go.ChangeShapes Go.WideShapes Go.ChangeAt Go.RowKit
set_option linter.unusedVariables false
set_option maxRecDepth 100000
set_option linter.unusedSimpArgs false
/-- cells: their own block, and their row's -/
structure CellsAt (w : World) (C S : Nat) (l : List Int) (k : Int) : Prop where
  own : Blk w C 149 #[.iface 135 (rowV S l.length), .int .i64 k]
  row : Blk w S 47 (words l)
  ne : C ≠ S
  few : l.length ≤ 16777216
abbrev cellsV (C : Nat) : Value := .pointer (some ⟨C, 0, none⟩)
theorem CellsAt.keep {w w1 : World} {C S : Nat} {l : List Int} {k : Int} {Q : Nat → Prop} (h : CellsAt w C S l k) (hk : Keep Q w w1) (h1 : ¬ Q C) (h2 : ¬ Q S) : CellsAt w1 C S l k :=
  ⟨h.own.keep hk h1, h.row.keep hk h2, h.ne, h.few⟩
theorem call_lenC : ∀ (W : World) (args : Array Value), (callFunc 177 args).run Tryz.prog W = .ok (.enter 177 args) W := by
  intro W args
  go_simp
theorem lenC_any (b v C S : Nat) (l : List Int) (k x : Int) (w : World) (hb : w.cell? ⟨b, 0, none⟩ = some (cellsV C)) (hC : CellsAt w C S l k)
    (hv : w.cell? ⟨v, 0, none⟩ = some (.int .i64 x)) (hz : w.frozen? ⟨v, 0, none⟩ = false) :
    Calls Tryz.prog 177 #[.pointer (some ⟨b, 0, none⟩), .pointer (some ⟨v, 0, none⟩)] w fun e w' => e = .returned (.tuple #[]) ∧ w.setCell ⟨v, 0, none⟩ (.int .i64 l.length) = w' := by
  have hc := hC.own.cell 0 _ rfl
  have hm := hC.few
  clear hC
  generalize l.length = n at *
  go_enter Tryz.func177, Tryz.ntmps177
  go_wp2
  · go_end0
    exact ⟨rfl, rfl⟩
  · obtain rfl : n = 0 := by omega
    go_end0
    exact ⟨rfl, rfl⟩
theorem len_any (C S : Nat) (l : List Int) (k : Int) (w : World) (hC : CellsAt w C S l k) :
    Calls Tryz.prog 101 #[cellsV C] w fun e w' => e = .returned (.int .i64 l.length) ∧ Below w.heap.size w w' := by
  have hc := hC.own.cell 0 _ rfl
  have hlt := hC.own.lt
  have hmf : ∀ (fn : Fn) (first cap : Array Value) (w : World), (Instr.makeFunc fn first cap).run Tryz.prog w = .ok (.func fn first cap) w := fun _ _ _ _ => rfl
  go_enter Tryz.func101, Tryz.ntmps101
  go_wp2_with fail
  refine (attempt_any 177 _ _ _ call_lenC (lenC_any w.heap.size (w.heap.size + 1) C S l k 0 _ (by simp) ?_ (by simp) (by simp))).mono ?_
  · exact hC.keep (((Keep.refl (fun _ => False) w).alloc _).alloc _) (fun h => h) (fun h => h)
  rintro e w1 ⟨rfl, rfl⟩
  go_wp2_with fail
  exact bodyPost_ret (v := .int .i64 l.length) (by simp [results, Tryz.results101, go_sem]) rfl ⟨rfl, by go_grown⟩
theorem len_nil (w : World) : Calls Tryz.prog 101 #[.pointer none] w fun e w' => e = .returned (.int .i64 0) ∧ Below w.heap.size w w' := by
  go_enter Tryz.func101, Tryz.ntmps101
  go_wp2_with fail
  exact bodyPost_ret (v := .int .i64 0) (by simp [results, Tryz.results101, go_sem]) rfl ⟨rfl, by go_grown⟩
theorem steps_any (C S : Nat) (l : List Int) (k : Int) (w : World) (hC : CellsAt w C S l k) :
    Calls Tryz.prog 18 #[cellsV C] w fun e w' => e = .returned (.int .i64 k) ∧ w = w' := by
  have hc := hC.own.cell 1 _ rfl
  go_enter Tryz.func18, Tryz.ntmps18
  go_wp2_with (go_at_call 99; (with_reducible refine (aLoad_any C k _ hc).mono ?_); rintro e w1 ⟨rfl, rfl⟩)
  go_ret
  exact ⟨rfl, rfl⟩
theorem steps_nil (w : World) : Calls Tryz.prog 18 #[.pointer none] w fun e w' => e = .returned (.int .i64 0) ∧ w = w' := by
  go_enter Tryz.func18, Tryz.ntmps18
  go_wp2_with fail
  go_ret
  exact ⟨rfl, rfl⟩
/-- cells over a row of its own -/
theorem over_plain (S : Nat) (l : List Int) (w : World) (hS : Blk w S 47 (words l)) (hm : l.length ≤ 16777216) :
    Calls Tryz.prog 91 #[.iface 135 (rowV S l.length)] w fun e w' => e = .returned (cellsV w.heap.size) ∧ CellsAt w' w.heap.size S l 0 ∧ Below w.heap.size w w' := by
  go_enter Tryz.func91, Tryz.ntmps91
  go_wp2_with fail
  go_ret
  exact ⟨rfl, ⟨Blk.new _ _ _, hS.alloc _, by have := hS.lt; omega, hm⟩, by go_grown⟩
theorem over_nil (w : World) :
    Calls Tryz.prog 91 #[.nilIface] w fun e w' => e = .returned (.pointer none) ∧ w = w' := by
  go_enter Tryz.func91, Tryz.ntmps91
  go_wp2_with fail
  go_ret
  exact ⟨rfl, rfl⟩
theorem words_zeros (n : Nat) : madeCells #[Value.int .u64 0] n = words (List.replicate n 0) := by
  rw [← Array.toList_inj, toList_madeCells_one]
  simp [words, List.map_replicate]
theorem u64_info : (Tryz.prog.info? 47).map (fun i => (i.zero, i.size, i.bytes)) = some (some (.int .u64 0), 1, 8) := by kernel_rfl
theorem make_plain (n : Nat) (w : World) (hn : n ≤ 16777216) : (Instr.makeSlice 135 (.int .i64 (n : Int)) (.int .i64 (n : Int))).run Tryz.prog w = .ok (rowV w.heap.size n) (w.alloc (.cells (words (List.replicate n 0)) 47)) := by
  obtain ⟨i, hi, hz0, hz1, hz2⟩ := info_parts u64_info
  have h := run_make (P := Tryz.prog) w 135 47 i _ Tryz.underlying135 hi hz0 .i64 .i64 n n (by omega) (by omega) (by rw [hz2]; omega) (by omega)
  rw [h, hz1, Nat.mul_one]
  simp only [Int.toNat_natCast]
  rw [← words_zeros]
  rfl
theorem new_some (n : Nat) (w : World) (hn : n ≤ 16777216) :
    Calls Tryz.prog 13 #[.int .i64 n] w fun e w' => e = .returned (cellsV (w.heap.size + 1)) ∧ CellsAt w' (w.heap.size + 1) w.heap.size (List.replicate n 0) 0 ∧ Below w.heap.size w w' := by
  have hmk := make_plain n w hn
  have hover := over_plain w.heap.size (List.replicate n 0) (w.alloc (.cells (words (List.replicate n 0)) 47)) (Blk.new _ _ _) (by simpa using hn)
  rw [List.length_replicate] at hover
  have HO := Lib.hid hover
  clear hover
  generalize List.replicate n (0 : Int) = l at *
  go_enter Tryz.func13, Tryz.ntmps13
  go_wp2_with (go_at_call 91; refine HO.out.mono ?_; rintro e w1 ⟨rfl, hc, hb⟩)
  simp only [World.size_alloc] at hc hb
  go_ret
  refine ⟨?_, hc, ?_⟩
  · simp
  · exact ((Below.refl _ _).alloc (Nat.le_refl _) _).trans (hb.mono (by omega))
theorem new_none (n : Int) (w : World) (hn : n < 0 ∨ 16777216 < n) :
    Calls Tryz.prog 13 #[.int .i64 n] w fun e w' => e = .returned (.pointer none) ∧ w = w' := by
  rcases hn with hn | hn
  · go_enter Tryz.func13, Tryz.ntmps13
    go_wp2_with fail
    go_ret
    exact ⟨rfl, rfl⟩
  · have h0 : ¬ n < 0 := by omega
    go_enter Tryz.func13, Tryz.ntmps13
    go_wp2_with fail
    go_ret
    exact ⟨rfl, rfl⟩
end Go.Proofs.YtldofbkjjmnooaaGreat
/- Contracts of package cells: the operations. -/
namespace Go.Proofs.YtldofbkjjmnooaaGreat
open Go.ChangeShapes Go.WideShapes Go.ChangeAt Go.RowKit
set_option linter.unusedVariables false
set_option maxRecDepth 100000
set_option linter.unusedSimpArgs false
theorem call_opC : ∀ (W : World) (args : Array Value), (callFunc 226 args).run Tryz.prog W = .ok (.enter 226 args) W := by
  intro W args
  go_simp
abbrev unitV : Value := .tuple #[]
abbrev doV (F : Nat) (caps : Array Value) : Value := .func (.func F) #[] caps
theorem opC_any (bd bc C : Nat) (x : Value) (k : Int) (F : Nat) (caps : Array Value) (w : World) (Q : Nat → Prop) (G : World → Prop)
    (hd : Blk w bd 1 #[doV F caps]) (hc : Blk w bc 26 #[cellsV C]) (hC : Blk w C 149 #[x, .int .i64 k]) (h0 : 0 ≤ k) (h1 : k < 9223372036854775807)
    (hcall : ∀ (W : World) (args : Array Value), (callFunc F args).run Tryz.prog W = .ok (.enter F args) W)
    (hF : Calls Tryz.prog F caps w fun e w2 => e = .returned unitV ∧ Keep Q w w2 ∧ G w2) (hQc : ¬ Q bc) (hQC : ¬ Q C) (hG : ∀ w2 v, G w2 → G (w2.setCell ⟨C, 1, none⟩ v)) :
    Calls Tryz.prog 226 #[.pointer (some ⟨bd, 0, none⟩), .pointer (some ⟨bc, 0, none⟩)] w fun e w' => e = .returned unitV ∧ Keep (fun b => Q b ∨ b = C) w w' ∧ G w' ∧ Blk w' C 149 #[x, .int .i64 (k + 1)] := by
  have d0 := hd.cell 0 _ rfl
  have HF := Lib.hid hF
  have HG := Lib.hid hG
  clear hF hG
  go_enter Tryz.func226, Tryz.ntmps226
  go_wp2_with fail
  refine HF.out.mono ?_
  rintro e w2 ⟨rfl, hk, hg⟩
  have c2 := hc.keep hk hQc
  have C2 := hC.keep hk hQC
  have d1 := c2.cell 0 _ rfl
  have d2 := C2.cell 1 _ rfl
  have d3 := C2.free 1
  clear d0
  go_wp2_with (go_at_call 227; (with_reducible refine (aAdd_any C k _ d2 d3).mono ?_); rintro e w3 ⟨rfl, rfl⟩)
  have hw : wrap64 (k + 1) = k + 1 := IntWalk.wrap64_in _ ⟨by omega, by omega⟩
  go_end0
  refine ⟨rfl, (hk.mono fun _ _ h => .inl h).set (fun _ => .inr rfl) _, HG.out _ _ hg, ?_⟩
  have := C2.set 1 (.int .i64 (wrap64 (k + 1)))
  rw [hw] at this
  rw [hw]
  exact this
theorem operate_yes (C S : Nat) (l : List Int) (k : Int) (i : Nat) (F : Nat) (caps : Array Value) (w : World) (Q : Nat → Prop) (G : World → Prop)
    (hC : CellsAt w C S l k) (hi : i < l.length) (h0 : 0 ≤ k) (h1 : k < 9223372036854775807)
    (hcall : ∀ (W : World) (args : Array Value), (callFunc F args).run Tryz.prog W = .ok (.enter F args) W)
    (hF : ∀ w1, Below w.heap.size w w1 → Calls Tryz.prog F caps w1 fun e w2 => e = .returned unitV ∧ Keep Q w1 w2 ∧ G w2)
    (hQ : ∀ b, Q b → b < w.heap.size ∧ b ≠ C) (hG : ∀ w2 v, G w2 → G (w2.setCell ⟨C, 1, none⟩ v)) :
    Calls Tryz.prog 143 #[cellsV C, .int .i64 i, doV F caps] w fun e w' => e = .returned (.bool true) ∧ Keep (fun b => Q b ∨ b = C) w w' ∧ G w' ∧ Blk w' C 149 #[.iface 135 (rowV S l.length), .int .i64 (k + 1)] := by
  have hm := hC.few
  have HF := Lib.hid hF
  have HG := Lib.hid hG
  have HQ := Lib.hid hQ
  have HL := Lib.hid hcall
  clear hF hG hQ hcall
  have hmf : ∀ (fn : Fn) (first cap : Array Value) (w : World), (Instr.makeFunc fn first cap).run Tryz.prog w = .ok (.func fn first cap) w := fun _ _ _ _ => rfl
  go_enter Tryz.func143, Tryz.ntmps143
  go_upto_region 1 with fail
  generalize hW : (w.alloc _).alloc _ = W
  have bW : Below w.heap.size w W := by rw [← hW]; go_grown
  have sW : W.heap.size = w.heap.size + 2 := by rw [← hW]; simp
  have cW : Blk W w.heap.size 26 #[cellsV C] := by rw [← hW]; exact (Blk.new w _ _).alloc _
  have dW : Blk W (w.heap.size + 1) 1 #[doV F caps] := by rw [← hW]; exact blk_two w _ _ _
  have CW : CellsAt W C S l k := hC.keep (Keep.ofBelow (Q := fun _ => False) bW) (fun h => h) (fun h => h)
  clear hW
  have e0 := cW.cell 0 _ rfl
  have HlenW := Lib.hid (len_any C S l k W CW)
  generalize hn : l.length = n at *
  go_upto_region 3 with (go_at_call 101; refine HlenW.out.mono ?_; rintro e w1 ⟨rfl, hb⟩)
  have b1 : Below w.heap.size w w1 := bW.trans (hb.mono bW.size)
  have c1 := cW.below hb cW.lt
  have d1 := dW.below hb dW.lt
  have C1 := CW.keep (Keep.ofBelow (Q := fun _ => False) hb) (fun h => h) (fun h => h)
  have hle := C1.own.lt
  have hC0 := hC.own.lt
  clear e0
  have HA := Lib.hid (attempt_any 226 _ w1 _ call_opC (opC_any (w.heap.size + 1) w.heap.size C _ k F caps w1 Q G d1 c1 C1.own h0 h1 HL.out (HF.out w1 b1) (fun h => by have := (HQ.out _ h).1; omega) (fun h => (HQ.out _ h).2 rfl) HG.out))
  rw [hn] at HA
  go_wp2_with (refine HA.out.mono ?_; rintro e w2 ⟨rfl, hk, hg, hB⟩)
  go_ret
  refine ⟨rfl, ?_, hg, by rw [hn]; exact hB⟩
  exact (Keep.ofBelow b1).trans (hk.mono fun _ _ h => h)
theorem operate_no (C S : Nat) (l : List Int) (k i : Int) (F : Nat) (caps : Array Value) (w : World)
    (hC : CellsAt w C S l k) (hi : i < 0 ∨ l.length ≤ i) :
    Calls Tryz.prog 143 #[cellsV C, .int .i64 i, doV F caps] w fun e w' => e = .returned (.bool false) ∧ Below w.heap.size w w' := by
  have hm := hC.few
  rcases hi with hi | hi
  · go_enter Tryz.func143, Tryz.ntmps143
    go_wp2_with fail
    go_ret
    exact ⟨rfl, by go_grown⟩
  have hi0 : 0 ≤ i := by omega
  go_enter Tryz.func143, Tryz.ntmps143
  go_upto_region 1 with fail
  generalize hW : (w.alloc _).alloc _ = W
  have bW : Below w.heap.size w W := by rw [← hW]; go_grown
  have cW : Blk W w.heap.size 26 #[cellsV C] := by rw [← hW]; exact (Blk.new w _ _).alloc _
  have CW : CellsAt W C S l k := hC.keep (Keep.ofBelow (Q := fun _ => False) bW) (fun h => h) (fun h => h)
  clear hW
  have e0 := cW.cell 0 _ rfl
  have HlenW := Lib.hid (len_any C S l k W CW)
  generalize hn : l.length = n at *
  go_wp2_with (go_at_call 101; refine HlenW.out.mono ?_; rintro e w1 ⟨rfl, hb⟩)
  go_ret
  exact ⟨rfl, bW.trans (hb.mono bW.size)⟩
theorem operate_nil (i : Int) (F : Nat) (caps : Array Value) (w : World) :
    Calls Tryz.prog 143 #[.pointer none, .int .i64 i, doV F caps] w fun e w' => e = .returned (.bool false) ∧ Below w.heap.size w w' := by
  by_cases hi : i < 0
  · go_enter Tryz.func143, Tryz.ntmps143
    go_wp2_with fail
    go_ret
    exact ⟨rfl, by go_grown⟩
  have hi0 : 0 ≤ i := by omega
  go_enter Tryz.func143, Tryz.ntmps143
  go_upto_region 1 with fail
  generalize hW : (w.alloc _).alloc _ = W
  have bW : Below w.heap.size w W := by rw [← hW]; go_grown
  have cW : Blk W w.heap.size 26 #[.pointer none] := by rw [← hW]; exact (Blk.new w _ _).alloc _
  clear hW
  have e0 := cW.cell 0 _ rfl
  go_wp2_with (go_at_call 101; refine (len_nil W).mono ?_; rintro e w1 ⟨rfl, hb⟩)
  go_ret
  exact ⟨rfl, bW.trans (hb.mono bW.size)⟩
/- the operations' own work -/
theorem call_loadC : ∀ (W : World) (args : Array Value), (callFunc 166 args).run Tryz.prog W = .ok (.enter 166 args) W := by
  intro W args
  go_simp
theorem loadC_any (bc bi v C S : Nat) (l : List Int) (k x : Int) (i : Nat) (y : Value) (w : World) (hc : Blk w bc 26 #[cellsV C]) (hi : Blk w bi 3 #[.int .i64 i]) (hv : Blk w v 47 #[y])
    (hC : CellsAt w C S l k) (hx : l[i]? = some x) :
    Calls Tryz.prog 166 #[.pointer (some ⟨bc, 0, none⟩), .pointer (some ⟨bi, 0, none⟩), .pointer (some ⟨v, 0, none⟩)] w fun e w2 => e = .returned unitV ∧ Keep (fun b => b = v) w w2 ∧ Blk w2 v 47 #[.int .u64 x] := by
  have hm := hC.few
  have c0 := hc.cell 0 _ rfl
  have i0 := hi.cell 0 _ rfl
  have C0 := hC.own.cell 0 _ rfl
  have HP := Lib.hid (pLoad_any S l i x w.drew hC.row.drew hx (by omega))
  have kW : Keep (fun b => b = v) w w.drew := (Keep.refl _ _).drew
  have vW : Blk w.drew v 47 #[y] := hv.drew
  clear hx
  generalize l.length = n at *
  go_enter Tryz.func166, Tryz.ntmps166
  go_still_tail 5, (by kernel_rfl)
  change wpList _ _ _ _ _ w.drew
  generalize w.drew = W at *
  clear c0 i0 C0
  have v0 := vW.cell 0 _ rfl
  have v1 := vW.free 0
  go_wp2_with (go_at_call 401; (with_reducible refine HP.out.mono ?_); rintro e w1 ⟨rfl, rfl⟩)
  go_end0
  exact ⟨rfl, kW.set (fun _ => rfl) _, vW.set 0 _⟩
theorem call_storeC : ∀ (W : World) (args : Array Value), (callFunc 144 args).run Tryz.prog W = .ok (.enter 144 args) W := by
  intro W args
  go_simp
theorem storeC_any (bc bi bv C S : Nat) (l : List Int) (k x u : Int) (i : Nat) (w : World) (hc : Blk w bc 26 #[cellsV C]) (hi : Blk w bi 3 #[.int .i64 i]) (hv : Blk w bv 47 #[.int .u64 u])
    (hC : CellsAt w C S l k) (hx : l[i]? = some x) :
    Calls Tryz.prog 144 #[.pointer (some ⟨bc, 0, none⟩), .pointer (some ⟨bi, 0, none⟩), .pointer (some ⟨bv, 0, none⟩)] w fun e w2 => e = .returned unitV ∧ Keep (fun b => b = S) w w2 ∧ Blk w2 S 47 (words (l.set i u)) := by
  have hm := hC.few
  have c0 := hc.cell 0 _ rfl
  have i0 := hi.cell 0 _ rfl
  have v0 := hv.cell 0 _ rfl
  have C0 := hC.own.cell 0 _ rfl
  have HP := Lib.hid (pStore_any S l i x u w.drew hC.row.drew hx (by omega))
  have kW : Keep (fun b => b = S) w w.drew := (Keep.refl _ _).drew
  have vW : Blk w.drew S 47 (words l) := hC.row.drew
  have HL := Lib.hid (words_set l i u)
  clear hx
  generalize l.length = n at *
  go_enter Tryz.func144, Tryz.ntmps144
  go_still_tail 6, (by kernel_rfl)
  change wpList _ _ _ _ _ w.drew
  generalize w.drew = W at *
  clear c0 i0 C0 v0
  go_wp2_with (go_at_call 402; (with_reducible refine HP.out.mono ?_); rintro e w1 ⟨rfl, rfl⟩)
  go_end0
  exact ⟨rfl, kW.set (fun _ => rfl) _, HL.out ▸ vW.set i _⟩
theorem call_swapC : ∀ (W : World) (args : Array Value), (callFunc 341 args).run Tryz.prog W = .ok (.enter 341 args) W := by
  intro W args
  go_simp
theorem swapC_yes (bc bi bo bu v C S : Nat) (l : List Int) (k x u : Int) (i : Nat) (y : Value) (w : World) (hc : Blk w bc 26 #[cellsV C]) (hi : Blk w bi 3 #[.int .i64 i]) (ho : Blk w bo 47 #[.int .u64 x])
    (hu : Blk w bu 47 #[.int .u64 u]) (hv : Blk w v 4 #[y]) (hC : CellsAt w C S l k) (hx : l[i]? = some x) (hne : v ≠ S) :
    Calls Tryz.prog 341 #[.pointer (some ⟨bc, 0, none⟩), .pointer (some ⟨bi, 0, none⟩), .pointer (some ⟨bo, 0, none⟩), .pointer (some ⟨bu, 0, none⟩), .pointer (some ⟨v, 0, none⟩)] w
      fun e w2 => e = .returned unitV ∧ Keep (fun b => b = S ∨ b = v) w w2 ∧ (Blk w2 S 47 (words (l.set i u)) ∧ Blk w2 v 4 #[.bool true]) := by
  have hm := hC.few
  have c0 := hc.cell 0 _ rfl
  have i0 := hi.cell 0 _ rfl
  have o0 := ho.cell 0 _ rfl
  have u0 := hu.cell 0 _ rfl
  have C0 := hC.own.cell 0 _ rfl
  have HP := Lib.hid (pSwap_yes S l i x u w.drew hC.row.drew hx (by omega))
  have kW : Keep (fun b => b = S ∨ b = v) w w.drew := (Keep.refl _ _).drew
  have rW : Blk w.drew S 47 (words l) := hC.row.drew
  have vW : Blk w.drew v 4 #[y] := hv.drew
  have HL := Lib.hid (words_set l i u)
  clear hx
  generalize l.length = n at *
  go_enter Tryz.func341, Tryz.ntmps341
  go_still_tail 7, (by kernel_rfl)
  change wpList _ _ _ _ _ w.drew
  generalize w.drew = W at *
  clear c0 i0 C0 o0 u0
  have v2 := vW.far hne i (.int .u64 u)
  have v0 := v2.cell 0 _ rfl
  have v1 := v2.free 0
  go_wp2_with (go_at_call 403; (with_reducible refine HP.out.mono ?_); rintro e w1 ⟨rfl, rfl⟩)
  go_end0
  exact ⟨rfl, (kW.set (fun _ => .inl rfl) _).set (fun _ => .inr rfl) _, HL.out ▸ (rW.set i _).far (Ne.symm hne) _ _, v2.set 0 _⟩
theorem swapC_no (bc bi bo bu v C S : Nat) (l : List Int) (k x o u : Int) (i : Nat) (y : Value) (w : World) (hc : Blk w bc 26 #[cellsV C]) (hi : Blk w bi 3 #[.int .i64 i]) (ho : Blk w bo 47 #[.int .u64 o])
    (hu : Blk w bu 47 #[.int .u64 u]) (hv : Blk w v 4 #[y]) (hC : CellsAt w C S l k) (hx : l[i]? = some x) (hne : (x != o) = true) :
    Calls Tryz.prog 341 #[.pointer (some ⟨bc, 0, none⟩), .pointer (some ⟨bi, 0, none⟩), .pointer (some ⟨bo, 0, none⟩), .pointer (some ⟨bu, 0, none⟩), .pointer (some ⟨v, 0, none⟩)] w
      fun e w2 => e = .returned unitV ∧ Keep (fun b => b = v) w w2 ∧ Blk w2 v 4 #[.bool false] := by
  have hm := hC.few
  have c0 := hc.cell 0 _ rfl
  have i0 := hi.cell 0 _ rfl
  have o0 := ho.cell 0 _ rfl
  have u0 := hu.cell 0 _ rfl
  have C0 := hC.own.cell 0 _ rfl
  have HP := Lib.hid (pSwap_no S l i x o u w.drew hC.row.drew hx (by omega) hne)
  have kW : Keep (fun b => b = v) w w.drew := (Keep.refl _ _).drew
  have vW : Blk w.drew v 4 #[y] := hv.drew
  clear hx hne
  generalize l.length = n at *
  go_enter Tryz.func341, Tryz.ntmps341
  go_still_tail 7, (by kernel_rfl)
  change wpList _ _ _ _ _ w.drew
  generalize w.drew = W at *
  clear c0 i0 C0 o0 u0
  have v0 := vW.cell 0 _ rfl
  have v1 := vW.free 0
  go_wp2_with (go_at_call 403; (with_reducible refine HP.out.mono ?_); rintro e w1 ⟨rfl, rfl⟩)
  go_end0
  exact ⟨rfl, kW.set (fun _ => rfl) _, vW.set 0 _⟩
end Go.Proofs.YtldofbkjjmnooaaGreat
