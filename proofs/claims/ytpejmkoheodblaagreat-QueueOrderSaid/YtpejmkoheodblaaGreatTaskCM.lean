/- Package task: goOn, where continuations may turn blocks of their own (M). Written by tools/gen_taskCM.py out of XTaskC. -/
import Derived.Test.YtpejmkoheodblaaGreatTaskC
namespace Go.Proofs.YtpejmkoheodblaaGreat
open Go.ChangeShapes Go.WideShapes Go.ChangeAt Go.RowKit
set_option linter.unusedVariables false
set_option maxRecDepth 100000
set_option linter.unusedSimpArgs false
set_option maxHeartbeats 2000000 in
theorem goon_mut (t : Nat) (n : Option Addr) (d0 p0 r0 : Value) (v0 : Int) (fs : List Nat) (Q M : Nat → Prop) (J : World → Option Addr → List Nat → (Nat → Prop) → Prop) (w : World)
    (ht : Blk w t 96 #[d0, p0, r0, .int .i64 v0]) (hr : TreeO w (fun b => Q b ∧ ¬ M b) r0 fs) (hQ : ∀ k, w.heap.size ≤ k → Q k) (hQt : ¬ Q t) (hJ : J w n fs M)
    (jm : ∀ a n fs M, J a n fs M → ∀ b, M b → Q b ∧ b < a.heap.size)
    (jk : ∀ a b n fs M, w.heap.size ≤ a.heap.size → J a n fs M → Keep (fun k => k = t) a b → J b n fs M)
    (jv : ∀ a n fs M, J a n fs M → n ≠ some ⟨t, 0, none⟩ ∧ ((∃ v, DoneV a n v) ∨ ∃ k d p r gs, n = some ⟨k, 0, none⟩ ∧ Live a k d p r ∧ TreeO a (fun b => Q b ∧ ¬ M b) r gs))
    (jn : ∀ a n f fs M v, w.heap.size ≤ a.heap.size → J a n (f :: fs) M → DoneV a n v → Calls Tryz.prog 113 #[.int .i64 v, pV f] a fun e b => ∃ k M2, e = .returned (.pointer k) ∧ J b k fs M2 ∧ Keep M a b ∧ ∀ x, x < a.heap.size → M2 x → M x) :
    Calls Tryz.prog 68 #[pV t, .pointer n] w fun e w' => e = .returned (.tuple #[]) ∧ Keep (fun k => k = t ∨ M k) w w' ∧ ∃ n fs M2, J w' n fs M2 ∧ (∀ x, x < w.heap.size → M2 x → M x) ∧
      ((fs = [] ∧ ∃ v, DoneV w' n v ∧ Blk w' t 96 #[.nilFunc, .pointer none, .pointer none, .int .i64 v]) ∨
       ∃ k d p r gs j, n = some ⟨k, 0, none⟩ ∧ Live w' k d p r ∧ TreeO w' (fun b => Q b ∧ ¬ M2 b) r gs ∧ TreeO w' (fun b => Q b ∧ ¬ M2 b) j (gs ++ fs) ∧ Blk w' t 96 #[d, p, j, .int .i64 v0]) := by
  have HT := Lib.hid ht
  have HR := Lib.hid hr
  have HJ := Lib.hid hJ
  have JK := Lib.hid jk
  have JV := Lib.hid jv
  have JN := Lib.hid jn
  have HQt0 := Lib.hid hQt
  have JM := Lib.hid jm
  have HQ0 := Lib.hid hQ
  clear ht hr hQ hJ jk jv jn hQt jm
  go_enter Tryz.func68, Tryz.ntmps68
  go_wp2_with fail
  go_loopg [1] fs.length (fun k nV wr => ∃ n r gs Mc, nV = .pointer n ∧ k = gs.length ∧ Blk wr t 96 #[d0, p0, r, .int .i64 v0] ∧ TreeO wr (fun b => Q b ∧ ¬ Mc b) r gs ∧ J wr n gs Mc ∧ Keep (fun k => k = t ∨ M k) w wr ∧ Hid (∀ x, x < w.heap.size → Mc x → M x))
  case atStart => exact ⟨n, r0, fs, M, rfl, rfl, HT.out, HR.out, HJ.out, Keep.refl _ _, Lib.hid (fun _ _ h => h)⟩
  case round =>
    obtain ⟨n, r, gs, Mc, rfl, hk0, hB, hT, hj, hK, hMc⟩ := hrel
    have hsz := hK.size
    have HQ : Hid (∀ k, wr.heap.size ≤ k → Q k ∧ ¬ Mc k) := Lib.hid fun k hk => ⟨HQ0.out k (by omega), fun h => by have := (JM.out _ _ _ _ hj k h).2; omega⟩
    have HQt : Hid (¬ (Q t ∧ ¬ Mc t)) := Lib.hid fun h => HQt0.out h.1
    have HMQ := Lib.hid (JM.out _ _ _ _ hj)
    obtain ⟨hne, hv | hv⟩ := JV.out wr n gs Mc hj
    · obtain ⟨v, hv⟩ := hv
      have hd := Lib.hid (doneV_done n v wr hv)
      have hval := Lib.hid (doneV_value n v wr hv)
      have HB := Lib.hid hB
      have HV := Lib.hid hv
      have Hj := Lib.hid hj
      have Hn := Lib.hid hne
      have c2 : wr.cell? ⟨t, 2, none⟩ = some r := hB.cell 2 _ rfl
      have c0 : wr.cell? ⟨t, 0, none⟩ = some d0 := hB.cell 0 _ rfl
      have c1 : wr.cell? ⟨t, 1, none⟩ = some p0 := hB.cell 1 _ rfl
      have c3 : wr.cell? ⟨t, 3, none⟩ = some (.int .i64 v0) := hB.cell 3 _ rfl
      have z0 := hB.free 0
      have z1 := hB.free 1
      have z2 := hB.free 2
      have z3 := hB.free 3
      rcases hT with ⟨rfl, rfl⟩ | ⟨m, q, rfl, hT⟩
      · clear hB hv hj hk0 hne
        go_wp2_with (first | (go_at_call 37; refine hd.out.mono ?_; rintro e w2 ⟨rfl, rfl⟩) | (go_at_call 23; refine hval.out.mono ?_; rintro e w2 ⟨rfl, rfl⟩))
        have kW : Keep (fun k => k = t) wr (((wr.setCell ⟨t, 0, none⟩ .nilFunc).setCell ⟨t, 1, none⟩ (.pointer none)).setCell ⟨t, 3, none⟩ (.int .i64 v)) := (((Keep.refl (fun k => k = t) wr).set (p := ⟨t, 0, none⟩) (fun _ => rfl) _).set (p := ⟨t, 1, none⟩) (fun _ => rfl) _).set (p := ⟨t, 3, none⟩) (fun _ => rfl) _
        have bW := ((HB.out.set 0 .nilFunc).set 1 (.pointer none)).set 3 (.int .i64 v)
        refine bodyPost_ret (v := .tuple #[]) (by simp [results, Tryz.results68, go_sem]) rfl ?_
        refine ⟨rfl, hK.trans (kW.mono fun _ _ h => .inl h), n, [], Mc, JK.out _ _ _ _ _ hsz Hj.out kW, hMc.out, .inl ⟨rfl, v, HV.out.keep kW (fun k e hk => Hn.out (by rw [e, hk])), bW⟩⟩
      · cases gs with
        | nil => exact absurd rfl hT.ne
        | cons f gs =>
          have HF := Lib.hid (first_any m q f gs (fun b => Q b ∧ ¬ Mc b) wr hT (fun k hk => HQ.out k (by omega)))
          clear hB hv hj hne hT
          go_upto_region 3 with (first | (go_at_call 37; refine hd.out.mono ?_; rintro e w2 ⟨rfl, rfl⟩) | (go_at_call 102; refine HF.out.mono ?_; rintro e w3 ⟨rest, rfl, hrest, hw3⟩; obtain ⟨ru, rfl⟩ := hrest.is; clear c0 c1 c2 c3 z0 z1 z2 z3; have z2 := (HB.out.below hw3 HB.out.lt).free 2; have c2 : w3.cell? ⟨t, 2, none⟩ = some (pV q) := (HB.out.below hw3 HB.out.lt).cell 2 _ rfl))
          have kW : Keep (fun k => k = t) wr (w3.setCell ⟨t, 2, none⟩ (.pointer ru)) := (Keep.ofBelow (Q := fun k => k = t) hw3).set (p := ⟨t, 2, none⟩) (fun _ => rfl) _
          have bW := (HB.out.below hw3 HB.out.lt).set 2 (.pointer ru)
          have hv4 := HV.out.keep kW (fun k e hk => Hn.out (by rw [e, hk]))
          have hj4 := JK.out _ _ _ _ _ hsz Hj.out kW
          have hr4 : TreeO (w3.setCell ⟨t, 2, none⟩ (.pointer ru)) (fun b => Q b ∧ ¬ Mc b) (.pointer ru) gs := hrest.keep ((Keep.refl (fun k => k = t) w3).set (p := ⟨t, 2, none⟩) (fun _ => rfl) (.pointer ru)) (fun b hb hk => HQt.out (hk ▸ hb))
          have hs4 : w.heap.size ≤ (w3.setCell ⟨t, 2, none⟩ (.pointer ru)).heap.size := Nat.le_trans hsz kW.size
          clear c2 z2
          generalize w3.setCell ⟨t, 2, none⟩ (.pointer ru) = w4 at *
          have hval4 := Lib.hid (doneV_value n v w4 hv4)
          have hcall := Lib.hid (JN.out w4 n f gs Mc v hs4 hj4 hv4)
          have HV4 := Lib.hid hr4
          have hk5 : gk = gs.length + 1 := hk0
          clear hv4 hj4 hr4 hk0 hrest
          go_wp2_with (first | (go_at_call 23; refine hval4.out.mono ?_; rintro e w5 ⟨rfl, rfl⟩) | (go_at_call 113; refine hcall.out.mono ?_; rintro e w6 ⟨k6, M6, rfl, hj6, hw6, hm6⟩))
          go_roundg gs.length
          case measure => omega
          case rel =>
            refine ⟨_, _, gs, M6, rfl, rfl, bW.keep hw6 (fun h => HQt0.out (HMQ.out t h).1), ?_, hj6, hK.step (Q' := fun k => k = t ∨ Mc k) ((kW.mono fun _ _ h => .inl h).trans (hw6.mono fun _ _ h => .inr h)) (fun i hi h => h.imp id (hMc.out i hi)), Lib.hid (fun x hx h => hMc.out x hx (hm6 x (Nat.lt_of_lt_of_le hx hs4) h))⟩
            refine ((HV4.out.mono (Q' := fun b => (Q b ∧ ¬ Mc b) ∧ b < w4.heap.size) (fun b hb h => ⟨h, hb⟩)).keep hw6 (fun b hb h => hb.1.2 h)).mono fun b _ hb => ⟨hb.1.1, fun h => hb.1.2 (hm6 b hb.2 h)⟩
    · obtain ⟨k1, d, p, r1, g1, rfl, hL, hT1⟩ := hv
      have hd := Lib.hid (live_done k1 d p r1 wr hL)
      have hne1 : k1 ≠ t := fun e => hne (by rw [e])
      have a0 : wr.cell? ⟨k1, 0, none⟩ = some d := hL.blk.cell 0 _ rfl
      have a1 : wr.cell? ⟨k1, 1, none⟩ = some p := hL.blk.cell 1 _ rfl
      have a2 : wr.cell? ⟨k1, 2, none⟩ = some r1 := hL.blk.cell 2 _ rfl
      have c2 : wr.cell? ⟨t, 2, none⟩ = some r := hB.cell 2 _ rfl
      have hjn := Lib.hid fun W (hk : Keep (fun k => k = t) wr W) (ht2 : TreeO W (fun b => Q b ∧ ¬ Mc b) r gs) => join_trees r1 r g1 gs (fun b => Q b ∧ ¬ Mc b) W (hT1.keep hk fun b hb e => HQt.out (e ▸ hb)) ht2 (fun k hk2 => HQ.out k (by have := hk.size; omega))
      have hjl := Lib.hid fun W (hk : Keep (fun k => k = t) wr W) => hL.keep hk hne1
      have HTr := Lib.hid (show TreeO wr.drew (fun b => Q b ∧ ¬ Mc b) r gs from hT.keep ((Keep.refl (fun _ => False) wr).drew) (fun _ _ h => h))
      have HBr : Hid (Blk wr.drew t 96 #[d0, p0, r, .int .i64 v0]) := Lib.hid hB
      have HL := Lib.hid hL
      have Hj := Lib.hid hj
      have ho := hL.op
      have hr1 := hT1.ptr
      have hr := hT.ptr
      have HT1 := Lib.hid hT1
      clear hB hj hL hT hT1 hk0
      go_upto_region 6 with (go_at_call 37; refine hd.out.mono ?_; rintro e w2 ⟨rfl, rfl⟩)
      have k0 : Keep (fun k => k = t) wr wr.drew := (Keep.refl _ _).drew
      have q2 : wr.drew.cell? ⟨t, 2, none⟩ = some r := HBr.out.cell 2 _ rfl
      obtain ⟨ru, rfl⟩ : ∃ u, r = .pointer u := by rcases hr with rfl | ⟨q, rfl⟩ <;> exact ⟨_, rfl⟩
      obtain ⟨r1u, rfl⟩ : ∃ u, r1 = .pointer u := by rcases hr1 with rfl | ⟨q, rfl⟩ <;> exact ⟨_, rfl⟩
      clear hr hr1 a0 a1 a2 c2 hd
      rcases ho with ⟨F, caps, rfl, rfl⟩ | ⟨q, rfl, rfl⟩
      · have SK := Lib.hid (show ∀ W, Keep (fun k => k = t) wr W → (fun W => (W.cell? ⟨k1, 0, none⟩ = some (cloV F caps) ∧ W.cell? ⟨k1, 1, none⟩ = some (.pointer none) ∧ W.cell? ⟨k1, 2, none⟩ = some (.pointer r1u))) W from fun W hk => ⟨(hjl.out W hk).blk.cell 0 _ rfl, (hjl.out W hk).blk.cell 1 _ rfl, (hjl.out W hk).blk.cell 2 _ rfl⟩)
        refine wp_region_held_drew (S := (fun W => (W.cell? ⟨k1, 0, none⟩ = some (cloV F caps) ∧ W.cell? ⟨k1, 1, none⟩ = some (.pointer none) ∧ W.cell? ⟨k1, 2, none⟩ = some (.pointer r1u)))) (by kernel_rfl) (SK.out _ k0) (fun hHeld => ?_)
        refine wpAnyH_take (i := 0) (oi := _) (v := ?_) rfl (by kernel_rfl) (by kernel_rfl) (by kernel_rfl) (fun _ _ _ h => h) (Or.inl ⟨by rfl, ?_⟩) (by assumption) ?_
        rotate_left
        · intro w hSw; (try dsimp only at hSw); go_simp; try with_reducible rfl
        (try simp only [Act.put, List.setIfInBounds_toArray, List.set_cons_zero, List.set_cons_succ])
        refine wpAnyH_take (i := 1) (oi := _) (v := ?_) rfl (by kernel_rfl) (by kernel_rfl) (by kernel_rfl) (fun _ _ _ h => h) (Or.inl ⟨by rfl, ?_⟩) (by assumption) ?_
        rotate_left
        · intro w hSw; (try dsimp only at hSw); go_simp; try with_reducible rfl
        (try simp only [Act.put, List.setIfInBounds_toArray, List.set_cons_zero, List.set_cons_succ])
        refine wpAnyH_take (i := 2) (oi := _) (v := ?_) rfl (by kernel_rfl) (by kernel_rfl) (by kernel_rfl) (fun _ _ _ h => h) (Or.inl ⟨by rfl, ?_⟩) (by assumption) ?_
        rotate_left
        · intro w hSw; (try dsimp only at hSw); go_simp; try with_reducible rfl
        (try simp only [Act.put, List.setIfInBounds_toArray, List.set_cons_zero, List.set_cons_succ])
        refine wpAnyH_take (i := 3) (oi := _) (v := ?_) rfl (by kernel_rfl) (by kernel_rfl) (by kernel_rfl) (fun _ _ _ h => h) (Or.inl ⟨by rfl, ?_⟩) (by assumption) ?_
        rotate_left
        · intro w hSw; (try dsimp only at hSw); go_simp; try with_reducible rfl
        (try simp only [Act.put, List.setIfInBounds_toArray, List.set_cons_zero, List.set_cons_succ])
        refine wpAnyH_take (i := 4) (oi := _) (v := ?_) rfl (by kernel_rfl) (by kernel_rfl) (by kernel_rfl) (fun _ _ _ h => h) (Or.inl ⟨by rfl, ?_⟩) (by assumption) ?_
        rotate_left
        · intro w hSw; (try dsimp only at hSw); go_simp; try with_reducible rfl
        (try simp only [Act.put, List.setIfInBounds_toArray, List.set_cons_zero, List.set_cons_succ])
        refine wpAnyH_take (i := 5) (oi := _) (v := ?_) rfl (by kernel_rfl) (by kernel_rfl) (by kernel_rfl) (fun _ _ _ h => h) (Or.inl ⟨by rfl, ?_⟩) (by assumption) ?_
        rotate_left
        · intro w hSw; (try dsimp only at hSw); go_simp; try with_reducible rfl
        (try simp only [Act.put, List.setIfInBounds_toArray, List.set_cons_zero, List.set_cons_succ])
        refine wpAnyH_take (i := 6) (oi := _) (v := ?_) rfl (by kernel_rfl) (by kernel_rfl) (by kernel_rfl) (fun _ _ _ h => h) (Or.inl ⟨by rfl, ?_⟩) (by assumption) ?_
        rotate_left
        · intro w hSw; (try dsimp only at hSw); go_simp; try with_reducible rfl
        (try simp only [Act.put, List.setIfInBounds_toArray, List.set_cons_zero, List.set_cons_succ])
        refine wpAnyH_take (i := 7) (oi := _) (v := ?_) rfl (by kernel_rfl) (by kernel_rfl) (by kernel_rfl) (fun _ _ _ h => h) (Or.inl ⟨by rfl, ?_⟩) (by assumption) ?_
        rotate_left
        · intro w hSw; (try dsimp only at hSw); go_simp; try with_reducible rfl
        (try simp only [Act.put, List.setIfInBounds_toArray, List.set_cons_zero, List.set_cons_succ])
        refine wpAnyH_take (i := 8) (oi := _) (v := ?_) rfl (by kernel_rfl) (by kernel_rfl) (by kernel_rfl) (fun _ _ _ h => h) (Or.inl ⟨by rfl, ?_⟩) (by assumption) ?_
        rotate_left
        · intro w hSw; (try dsimp only at hSw); go_simp; try with_reducible rfl
        (try simp only [Act.put, List.setIfInBounds_toArray, List.set_cons_zero, List.set_cons_succ])
        refine wpAnyH_take (i := 9) (oi := _) (v := ?_) rfl (by kernel_rfl) (by kernel_rfl) (by kernel_rfl) (fun _ _ _ h => h) (Or.inl ⟨by rfl, ?_⟩) (by assumption) ?_
        rotate_left
        · intro w hSw; (try dsimp only at hSw); go_simp; try with_reducible rfl
        (try simp only [Act.put, List.setIfInBounds_toArray, List.set_cons_zero, List.set_cons_succ])
        refine wpAnyH_take (i := 10) (oi := _) (v := ?_) rfl (by kernel_rfl) (by kernel_rfl) (by kernel_rfl) (fun _ _ _ h => h) (Or.inl ⟨by rfl, ?_⟩) (by assumption) ?_
        rotate_left
        · intro w hSw; (try dsimp only at hSw); go_simp; try with_reducible rfl
        (try simp only [Act.put, List.setIfInBounds_toArray, List.set_cons_zero, List.set_cons_succ])
        refine wpAnyH_take (i := 11) (oi := _) (v := ?_) rfl (by kernel_rfl) (by kernel_rfl) (by kernel_rfl) (fun _ _ _ h => h) (Or.inl ⟨by rfl, ?_⟩) (by assumption) ?_
        rotate_left
        · intro w hSw; (try dsimp only at hSw); go_simp; try with_reducible rfl
        (try simp only [Act.put, List.setIfInBounds_toArray, List.set_cons_zero, List.set_cons_succ])
        refine wpAnyH_take (i := 12) (oi := _) (v := ?_) rfl (by kernel_rfl) (by kernel_rfl) (by kernel_rfl) (fun _ _ _ h => h) (Or.inl ⟨by rfl, ?_⟩) (by assumption) ?_
        rotate_left
        · intro w hSw; (try dsimp only at hSw); go_simp; try with_reducible rfl
        (try simp only [Act.put, List.setIfInBounds_toArray, List.set_cons_zero, List.set_cons_succ])
        refine wpAnyH_ready (rs := [13]) (by kernel_rfl) (by simp) ?_
        refine AllReadyH.cons rfl (fun K hK => ?_) AllReadyH.nil
        go_simp
        go_wp2_with fail
        refine hK.out _ _ (SK.out _ k0) (fun hHeld => ?_)
        clear hK K
        (try dsimp only [Act.put]); (try simp only [Act.put, List.setIfInBounds_toArray, List.set_cons_zero, List.set_cons_succ])
        refine wpAnyH_ready (rs := [14]) (by kernel_rfl) (by simp) ?_
        refine AllReadyH.cons rfl (fun K hK => ?_) AllReadyH.nil
        go_simp
        go_at_call 103
        refine (hjn.out _ k0 HTr.out).mono ?_
        rintro e w3 ⟨j, rfl, hjt, hw3⟩
        obtain ⟨ju, rfl⟩ := hjt.is
        have k3 := k0.trans (Keep.ofBelow (Q := fun k => k = t) hw3)
        have B3 := HBr.out.below hw3 HBr.out.lt
        clear q2
        go_wp2_with fail
        refine hK.out _ _ (SK.out _ k3) (fun hHeld => ?_)
        clear hK K
        (try dsimp only [Act.put]); (try simp only [Act.put, List.setIfInBounds_toArray, List.set_cons_zero, List.set_cons_succ])
        have q0 : w3.cell? ⟨t, 0, none⟩ = some d0 := B3.cell 0 _ rfl
        have q1 : w3.cell? ⟨t, 1, none⟩ = some p0 := B3.cell 1 _ rfl
        have z0 := B3.free 0
        have z1 := B3.free 1
        refine wpAnyH_take (i := 15) (oi := _) (v := ?_) rfl (by kernel_rfl) (by kernel_rfl) (by kernel_rfl) (fun _ _ _ h => h) (Or.inl ⟨by rfl, ?_⟩) (by assumption) ?_
        rotate_left
        · intro w hSw; (try dsimp only at hSw); go_simp; try with_reducible rfl
        (try simp only [Act.put, List.setIfInBounds_toArray, List.set_cons_zero, List.set_cons_succ])
        refine wpAnyH_take (i := 16) (oi := _) (v := ?_) rfl (by kernel_rfl) (by kernel_rfl) (by kernel_rfl) (fun _ _ _ h => h) (Or.inl ⟨by rfl, ?_⟩) (by assumption) ?_
        rotate_left
        · intro w hSw; (try dsimp only at hSw); go_simp; try with_reducible rfl
        (try simp only [Act.put, List.setIfInBounds_toArray, List.set_cons_zero, List.set_cons_succ])
        have k4 : Keep (fun k => k = t) wr ((w3.setCell ⟨t, 0, none⟩ (cloV F caps)).setCell ⟨t, 1, none⟩ (.pointer none)) := (k3.set (p := ⟨t, 0, none⟩) (fun _ => rfl) _).set (p := ⟨t, 1, none⟩) (fun _ => rfl) _
        refine wpAnyH_ready (rs := [17]) (by kernel_rfl) (by simp) ?_
        refine AllReadyH.cons rfl (fun K hK => ?_) AllReadyH.nil
        go_simp
        go_wp2_with fail
        refine hK.out _ _ (SK.out _ k4) (fun hHeld => ?_)
        clear hK K
        (try dsimp only [Act.put]); (try simp only [Act.put, List.setIfInBounds_toArray, List.set_cons_zero, List.set_cons_succ])
        have B4 := (B3.set 0 (cloV F caps)).set 1 (.pointer none)
        have hjt4 : TreeO ((w3.setCell ⟨t, 0, none⟩ (cloV F caps)).setCell ⟨t, 1, none⟩ (.pointer none)) (fun b => Q b ∧ ¬ Mc b) (.pointer ju) (g1 ++ gs) := hjt.keep (((Keep.refl (fun k => k = t) w3).set (p := ⟨t, 0, none⟩) (fun _ => rfl) _).set (p := ⟨t, 1, none⟩) (fun _ => rfl) _) (fun b hb e => HQt.out (e ▸ hb))
        clear q0 q1 z0 z1 hHeld
        generalize ((w3.setCell ⟨t, 0, none⟩ (cloV F caps)).setCell ⟨t, 1, none⟩ (.pointer none)) = w4 at *
        have hHeld := SK.out _ k4
        have q2 : w4.cell? ⟨t, 2, none⟩ = some (.pointer ru) := B4.cell 2 _ rfl
        have z2 := B4.free 2
        have k5 : Keep (fun k => k = t) wr (w4.setCell ⟨t, 2, none⟩ (.pointer ju)) := k4.set (p := ⟨t, 2, none⟩) (fun _ => rfl) _
        refine wpAnyH_take (i := 18) (oi := _) (v := ?_) rfl (by kernel_rfl) (by kernel_rfl) (by kernel_rfl) (fun _ _ _ h => h) (Or.inl ⟨by rfl, ?_⟩) (by assumption) ?_
        rotate_left
        · intro w hSw; (try dsimp only at hSw); go_simp; try with_reducible rfl
        (try simp only [Act.put, List.setIfInBounds_toArray, List.set_cons_zero, List.set_cons_succ])
        refine wpAnyH_take (i := 19) (oi := _) (v := ?_) rfl (by kernel_rfl) (by kernel_rfl) (by kernel_rfl) (fun _ _ _ h => h) (Or.inl ⟨by rfl, ?_⟩) (by assumption) ?_
        rotate_left
        · intro w hSw; (try dsimp only at hSw); go_simp; try with_reducible rfl
        (try simp only [Act.put, List.setIfInBounds_toArray, List.set_cons_zero, List.set_cons_succ])
        refine wpAnyH_ready (rs := [20]) (by kernel_rfl) (by simp) ?_
        refine AllReadyH.cons rfl (fun K hK => ?_) AllReadyH.nil
        go_simp
        go_wp2_with fail
        refine hK.out _ _ (SK.out _ k5) (fun hHeld => ?_)
        clear hK K
        (try dsimp only [Act.put]); (try simp only [Act.put, List.setIfInBounds_toArray, List.set_cons_zero, List.set_cons_succ])
        refine wpAnyH_done (by kernel_rfl) ?_ _
        have bW := B4.set 2 (.pointer ju)
        have k6 : Keep (fun k => k = t) w4 (w4.setCell ⟨t, 2, none⟩ (.pointer ju)) := (Keep.refl (fun k => k = t) w4).set (p := ⟨t, 2, none⟩) (fun _ => rfl) _
        go_end0
        refine ⟨rfl, hK.trans (k5.mono fun _ _ h => .inl h), some ⟨k1, 0, none⟩, gs, Mc, JK.out _ _ _ _ _ hsz Hj.out k5, hMc.out, .inr ⟨k1, _, _, _, g1, _, rfl, hjl.out _ k5, HT1.out.keep k5 (fun b hb e => HQt.out (e ▸ hb)), hjt4.keep k6 (fun b hb e => HQt.out (e ▸ hb)), bW⟩⟩
      · have SK := Lib.hid (show ∀ W, Keep (fun k => k = t) wr W → (fun W => (W.cell? ⟨k1, 0, none⟩ = some (.nilFunc) ∧ W.cell? ⟨k1, 1, none⟩ = some (pV q) ∧ W.cell? ⟨k1, 2, none⟩ = some (.pointer r1u))) W from fun W hk => ⟨(hjl.out W hk).blk.cell 0 _ rfl, (hjl.out W hk).blk.cell 1 _ rfl, (hjl.out W hk).blk.cell 2 _ rfl⟩)
        refine wp_region_held_drew (S := (fun W => (W.cell? ⟨k1, 0, none⟩ = some (.nilFunc) ∧ W.cell? ⟨k1, 1, none⟩ = some (pV q) ∧ W.cell? ⟨k1, 2, none⟩ = some (.pointer r1u)))) (by kernel_rfl) (SK.out _ k0) (fun hHeld => ?_)
        refine wpAnyH_take (i := 0) (oi := _) (v := ?_) rfl (by kernel_rfl) (by kernel_rfl) (by kernel_rfl) (fun _ _ _ h => h) (Or.inl ⟨by rfl, ?_⟩) (by assumption) ?_
        rotate_left
        · intro w hSw; (try dsimp only at hSw); go_simp; try with_reducible rfl
        (try simp only [Act.put, List.setIfInBounds_toArray, List.set_cons_zero, List.set_cons_succ])
        refine wpAnyH_take (i := 1) (oi := _) (v := ?_) rfl (by kernel_rfl) (by kernel_rfl) (by kernel_rfl) (fun _ _ _ h => h) (Or.inl ⟨by rfl, ?_⟩) (by assumption) ?_
        rotate_left
        · intro w hSw; (try dsimp only at hSw); go_simp; try with_reducible rfl
        (try simp only [Act.put, List.setIfInBounds_toArray, List.set_cons_zero, List.set_cons_succ])
        refine wpAnyH_take (i := 2) (oi := _) (v := ?_) rfl (by kernel_rfl) (by kernel_rfl) (by kernel_rfl) (fun _ _ _ h => h) (Or.inl ⟨by rfl, ?_⟩) (by assumption) ?_
        rotate_left
        · intro w hSw; (try dsimp only at hSw); go_simp; try with_reducible rfl
        (try simp only [Act.put, List.setIfInBounds_toArray, List.set_cons_zero, List.set_cons_succ])
        refine wpAnyH_take (i := 3) (oi := _) (v := ?_) rfl (by kernel_rfl) (by kernel_rfl) (by kernel_rfl) (fun _ _ _ h => h) (Or.inl ⟨by rfl, ?_⟩) (by assumption) ?_
        rotate_left
        · intro w hSw; (try dsimp only at hSw); go_simp; try with_reducible rfl
        (try simp only [Act.put, List.setIfInBounds_toArray, List.set_cons_zero, List.set_cons_succ])
        refine wpAnyH_take (i := 4) (oi := _) (v := ?_) rfl (by kernel_rfl) (by kernel_rfl) (by kernel_rfl) (fun _ _ _ h => h) (Or.inl ⟨by rfl, ?_⟩) (by assumption) ?_
        rotate_left
        · intro w hSw; (try dsimp only at hSw); go_simp; try with_reducible rfl
        (try simp only [Act.put, List.setIfInBounds_toArray, List.set_cons_zero, List.set_cons_succ])
        refine wpAnyH_take (i := 5) (oi := _) (v := ?_) rfl (by kernel_rfl) (by kernel_rfl) (by kernel_rfl) (fun _ _ _ h => h) (Or.inl ⟨by rfl, ?_⟩) (by assumption) ?_
        rotate_left
        · intro w hSw; (try dsimp only at hSw); go_simp; try with_reducible rfl
        (try simp only [Act.put, List.setIfInBounds_toArray, List.set_cons_zero, List.set_cons_succ])
        refine wpAnyH_take (i := 6) (oi := _) (v := ?_) rfl (by kernel_rfl) (by kernel_rfl) (by kernel_rfl) (fun _ _ _ h => h) (Or.inl ⟨by rfl, ?_⟩) (by assumption) ?_
        rotate_left
        · intro w hSw; (try dsimp only at hSw); go_simp; try with_reducible rfl
        (try simp only [Act.put, List.setIfInBounds_toArray, List.set_cons_zero, List.set_cons_succ])
        refine wpAnyH_take (i := 7) (oi := _) (v := ?_) rfl (by kernel_rfl) (by kernel_rfl) (by kernel_rfl) (fun _ _ _ h => h) (Or.inl ⟨by rfl, ?_⟩) (by assumption) ?_
        rotate_left
        · intro w hSw; (try dsimp only at hSw); go_simp; try with_reducible rfl
        (try simp only [Act.put, List.setIfInBounds_toArray, List.set_cons_zero, List.set_cons_succ])
        refine wpAnyH_take (i := 8) (oi := _) (v := ?_) rfl (by kernel_rfl) (by kernel_rfl) (by kernel_rfl) (fun _ _ _ h => h) (Or.inl ⟨by rfl, ?_⟩) (by assumption) ?_
        rotate_left
        · intro w hSw; (try dsimp only at hSw); go_simp; try with_reducible rfl
        (try simp only [Act.put, List.setIfInBounds_toArray, List.set_cons_zero, List.set_cons_succ])
        refine wpAnyH_take (i := 9) (oi := _) (v := ?_) rfl (by kernel_rfl) (by kernel_rfl) (by kernel_rfl) (fun _ _ _ h => h) (Or.inl ⟨by rfl, ?_⟩) (by assumption) ?_
        rotate_left
        · intro w hSw; (try dsimp only at hSw); go_simp; try with_reducible rfl
        (try simp only [Act.put, List.setIfInBounds_toArray, List.set_cons_zero, List.set_cons_succ])
        refine wpAnyH_take (i := 10) (oi := _) (v := ?_) rfl (by kernel_rfl) (by kernel_rfl) (by kernel_rfl) (fun _ _ _ h => h) (Or.inl ⟨by rfl, ?_⟩) (by assumption) ?_
        rotate_left
        · intro w hSw; (try dsimp only at hSw); go_simp; try with_reducible rfl
        (try simp only [Act.put, List.setIfInBounds_toArray, List.set_cons_zero, List.set_cons_succ])
        refine wpAnyH_take (i := 11) (oi := _) (v := ?_) rfl (by kernel_rfl) (by kernel_rfl) (by kernel_rfl) (fun _ _ _ h => h) (Or.inl ⟨by rfl, ?_⟩) (by assumption) ?_
        rotate_left
        · intro w hSw; (try dsimp only at hSw); go_simp; try with_reducible rfl
        (try simp only [Act.put, List.setIfInBounds_toArray, List.set_cons_zero, List.set_cons_succ])
        refine wpAnyH_take (i := 12) (oi := _) (v := ?_) rfl (by kernel_rfl) (by kernel_rfl) (by kernel_rfl) (fun _ _ _ h => h) (Or.inl ⟨by rfl, ?_⟩) (by assumption) ?_
        rotate_left
        · intro w hSw; (try dsimp only at hSw); go_simp; try with_reducible rfl
        (try simp only [Act.put, List.setIfInBounds_toArray, List.set_cons_zero, List.set_cons_succ])
        refine wpAnyH_ready (rs := [13]) (by kernel_rfl) (by simp) ?_
        refine AllReadyH.cons rfl (fun K hK => ?_) AllReadyH.nil
        go_simp
        go_wp2_with fail
        refine hK.out _ _ (SK.out _ k0) (fun hHeld => ?_)
        clear hK K
        (try dsimp only [Act.put]); (try simp only [Act.put, List.setIfInBounds_toArray, List.set_cons_zero, List.set_cons_succ])
        refine wpAnyH_ready (rs := [14]) (by kernel_rfl) (by simp) ?_
        refine AllReadyH.cons rfl (fun K hK => ?_) AllReadyH.nil
        go_simp
        go_at_call 103
        refine (hjn.out _ k0 HTr.out).mono ?_
        rintro e w3 ⟨j, rfl, hjt, hw3⟩
        obtain ⟨ju, rfl⟩ := hjt.is
        have k3 := k0.trans (Keep.ofBelow (Q := fun k => k = t) hw3)
        have B3 := HBr.out.below hw3 HBr.out.lt
        clear q2
        go_wp2_with fail
        refine hK.out _ _ (SK.out _ k3) (fun hHeld => ?_)
        clear hK K
        (try dsimp only [Act.put]); (try simp only [Act.put, List.setIfInBounds_toArray, List.set_cons_zero, List.set_cons_succ])
        have q0 : w3.cell? ⟨t, 0, none⟩ = some d0 := B3.cell 0 _ rfl
        have q1 : w3.cell? ⟨t, 1, none⟩ = some p0 := B3.cell 1 _ rfl
        have z0 := B3.free 0
        have z1 := B3.free 1
        refine wpAnyH_take (i := 15) (oi := _) (v := ?_) rfl (by kernel_rfl) (by kernel_rfl) (by kernel_rfl) (fun _ _ _ h => h) (Or.inl ⟨by rfl, ?_⟩) (by assumption) ?_
        rotate_left
        · intro w hSw; (try dsimp only at hSw); go_simp; try with_reducible rfl
        (try simp only [Act.put, List.setIfInBounds_toArray, List.set_cons_zero, List.set_cons_succ])
        refine wpAnyH_take (i := 16) (oi := _) (v := ?_) rfl (by kernel_rfl) (by kernel_rfl) (by kernel_rfl) (fun _ _ _ h => h) (Or.inl ⟨by rfl, ?_⟩) (by assumption) ?_
        rotate_left
        · intro w hSw; (try dsimp only at hSw); go_simp; try with_reducible rfl
        (try simp only [Act.put, List.setIfInBounds_toArray, List.set_cons_zero, List.set_cons_succ])
        have k4 : Keep (fun k => k = t) wr ((w3.setCell ⟨t, 0, none⟩ (.nilFunc)).setCell ⟨t, 1, none⟩ (pV q)) := (k3.set (p := ⟨t, 0, none⟩) (fun _ => rfl) _).set (p := ⟨t, 1, none⟩) (fun _ => rfl) _
        refine wpAnyH_ready (rs := [17]) (by kernel_rfl) (by simp) ?_
        refine AllReadyH.cons rfl (fun K hK => ?_) AllReadyH.nil
        go_simp
        go_wp2_with fail
        refine hK.out _ _ (SK.out _ k4) (fun hHeld => ?_)
        clear hK K
        (try dsimp only [Act.put]); (try simp only [Act.put, List.setIfInBounds_toArray, List.set_cons_zero, List.set_cons_succ])
        have B4 := (B3.set 0 (.nilFunc)).set 1 (pV q)
        have hjt4 : TreeO ((w3.setCell ⟨t, 0, none⟩ (.nilFunc)).setCell ⟨t, 1, none⟩ (pV q)) (fun b => Q b ∧ ¬ Mc b) (.pointer ju) (g1 ++ gs) := hjt.keep (((Keep.refl (fun k => k = t) w3).set (p := ⟨t, 0, none⟩) (fun _ => rfl) _).set (p := ⟨t, 1, none⟩) (fun _ => rfl) _) (fun b hb e => HQt.out (e ▸ hb))
        clear q0 q1 z0 z1 hHeld
        generalize ((w3.setCell ⟨t, 0, none⟩ (.nilFunc)).setCell ⟨t, 1, none⟩ (pV q)) = w4 at *
        have hHeld := SK.out _ k4
        have q2 : w4.cell? ⟨t, 2, none⟩ = some (.pointer ru) := B4.cell 2 _ rfl
        have z2 := B4.free 2
        have k5 : Keep (fun k => k = t) wr (w4.setCell ⟨t, 2, none⟩ (.pointer ju)) := k4.set (p := ⟨t, 2, none⟩) (fun _ => rfl) _
        refine wpAnyH_take (i := 18) (oi := _) (v := ?_) rfl (by kernel_rfl) (by kernel_rfl) (by kernel_rfl) (fun _ _ _ h => h) (Or.inl ⟨by rfl, ?_⟩) (by assumption) ?_
        rotate_left
        · intro w hSw; (try dsimp only at hSw); go_simp; try with_reducible rfl
        (try simp only [Act.put, List.setIfInBounds_toArray, List.set_cons_zero, List.set_cons_succ])
        refine wpAnyH_take (i := 19) (oi := _) (v := ?_) rfl (by kernel_rfl) (by kernel_rfl) (by kernel_rfl) (fun _ _ _ h => h) (Or.inl ⟨by rfl, ?_⟩) (by assumption) ?_
        rotate_left
        · intro w hSw; (try dsimp only at hSw); go_simp; try with_reducible rfl
        (try simp only [Act.put, List.setIfInBounds_toArray, List.set_cons_zero, List.set_cons_succ])
        refine wpAnyH_ready (rs := [20]) (by kernel_rfl) (by simp) ?_
        refine AllReadyH.cons rfl (fun K hK => ?_) AllReadyH.nil
        go_simp
        go_wp2_with fail
        refine hK.out _ _ (SK.out _ k5) (fun hHeld => ?_)
        clear hK K
        (try dsimp only [Act.put]); (try simp only [Act.put, List.setIfInBounds_toArray, List.set_cons_zero, List.set_cons_succ])
        refine wpAnyH_done (by kernel_rfl) ?_ _
        have bW := B4.set 2 (.pointer ju)
        have k6 : Keep (fun k => k = t) w4 (w4.setCell ⟨t, 2, none⟩ (.pointer ju)) := (Keep.refl (fun k => k = t) w4).set (p := ⟨t, 2, none⟩) (fun _ => rfl) _
        go_end0
        refine ⟨rfl, hK.trans (k5.mono fun _ _ h => .inl h), some ⟨k1, 0, none⟩, gs, Mc, JK.out _ _ _ _ _ hsz Hj.out k5, hMc.out, .inr ⟨k1, _, _, _, g1, _, rfl, hjl.out _ k5, HT1.out.keep k5 (fun b hb e => HQt.out (e ▸ hb)), hjt4.keep k6 (fun b hb e => HQt.out (e ▸ hb)), bW⟩⟩
end Go.Proofs.YtpejmkoheodblaaGreat
