/- Package task: goOn, where continuations may turn blocks of their own (M). Written by tools/gen_taskCM.py out of XTaskC. -/
import Derived.Test.YtmknnjjmmfbppaaGreatMgBegAU
import Derived.Test.YtmknnjjmmfbppaaGreatMgBegBB
namespace Go.Proofs.YtmknnjjmmfbppaaGreat
open Go.ChangeShapes Go.WideShapes Go.ChangeAt Go.RowKit
set_option linter.unusedVariables false
set_option maxRecDepth 100000
set_option linter.unusedSimpArgs false
set_option maxHeartbeats 2000000 in
theorem goon_mut (t : Nat) (n : Option Addr) (d0 p0 r0 : Value) (v0 : Int) (fs : List Nat) (Q M : Nat → Prop) (J : World → Option Addr → List Nat → (Nat → Prop) → Prop) (w : World)
    (ht : Blk w t 134 #[d0, p0, r0, .int .i64 v0]) (hr : TreeO w (fun b => Q b ∧ ¬ M b) r0 fs) (hQ : ∀ k, w.heap.size ≤ k → Q k) (hQt : ¬ Q t) (hJ : J w n fs M)
    (jm : ∀ a n fs M, J a n fs M → ∀ b, M b → Q b ∧ b < a.heap.size)
    (jk : ∀ a b n fs M, w.heap.size ≤ a.heap.size → J a n fs M → Keep (fun k => k = t) a b → J b n fs M)
    (jv : ∀ a n fs M, J a n fs M → n ≠ some ⟨t, 0, none⟩ ∧ ((∃ v, DoneV a n v) ∨ ∃ k d p r gs, n = some ⟨k, 0, none⟩ ∧ Live a k d p r ∧ TreeO a (fun b => Q b ∧ ¬ M b) r gs))
    (jn : ∀ a n f fs M v, w.heap.size ≤ a.heap.size → J a n (f :: fs) M → DoneV a n v → Calls Tryz.prog 135 #[.int .i64 v, pV f] a fun e b => ∃ k M2, e = .returned (.pointer k) ∧ J b k fs M2 ∧ Keep M a b ∧ ∀ x, x < a.heap.size → M2 x → M x) :
    Calls Tryz.prog 87 #[pV t, .pointer n] w fun e w' => e = .returned (.tuple #[]) ∧ Keep (fun k => k = t ∨ M k) w w' ∧ ∃ n fs M2, J w' n fs M2 ∧ (∀ x, x < w.heap.size → M2 x → M x) ∧
      ((fs = [] ∧ ∃ v, DoneV w' n v ∧ Blk w' t 134 #[.nilFunc, .pointer none, .pointer none, .int .i64 v]) ∨
       ∃ k d p r gs j, n = some ⟨k, 0, none⟩ ∧ Live w' k d p r ∧ TreeO w' (fun b => Q b ∧ ¬ M2 b) r gs ∧ TreeO w' (fun b => Q b ∧ ¬ M2 b) j (gs ++ fs) ∧ Blk w' t 134 #[d, p, j, .int .i64 v0]) := by
  have HT := Lib.hid ht
  have HR := Lib.hid hr
  have HJ := Lib.hid hJ
  have JK := Lib.hid jk
  have JV := Lib.hid jv
  have JN := Lib.hid jn
  have HQt0 := Lib.hid hQt
  have JM := Lib.hid jm
  have HQ0 := Lib.hid hQ
  clear ht hr hQ hJ jk jv jn hQt jm
  go_enter Tryz.func87, Tryz.ntmps87
  go_wp2_with fail
  go_loopg [1] fs.length (fun k nV wr => ∃ n r gs Mc, nV = .pointer n ∧ k = gs.length ∧ Blk wr t 134 #[d0, p0, r, .int .i64 v0] ∧ TreeO wr (fun b => Q b ∧ ¬ Mc b) r gs ∧ J wr n gs Mc ∧ Keep (fun k => k = t ∨ M k) w wr ∧ Hid (∀ x, x < w.heap.size → Mc x → M x))
  case atStart => exact ⟨n, r0, fs, M, rfl, rfl, HT.out, HR.out, HJ.out, Keep.refl _ _, Lib.hid (fun _ _ h => h)⟩
  case round =>
    obtain ⟨n, r, gs, Mc, rfl, hk0, hB, hT, hj, hK, hMc⟩ := hrel
    have hsz := hK.size
    have HQ : Hid (∀ k, wr.heap.size ≤ k → Q k ∧ ¬ Mc k) := Lib.hid fun k hk => ⟨HQ0.out k (by omega), fun h => by have := (JM.out _ _ _ _ hj k h).2; omega⟩
    have HQt : Hid (¬ (Q t ∧ ¬ Mc t)) := Lib.hid fun h => HQt0.out h.1
    have HMQ := Lib.hid (JM.out _ _ _ _ hj)
    obtain ⟨hne, hv | hv⟩ := JV.out wr n gs Mc hj
    · obtain ⟨v, hv⟩ := hv
      have hd := Lib.hid (doneV_done n v wr hv)
      have hval := Lib.hid (doneV_value n v wr hv)
      have HB := Lib.hid hB
      have HV := Lib.hid hv
      have Hj := Lib.hid hj
      have Hn := Lib.hid hne
      have c2 : wr.cell? ⟨t, 2, none⟩ = some r := hB.cell 2 _ rfl
      have c0 : wr.cell? ⟨t, 0, none⟩ = some d0 := hB.cell 0 _ rfl
      have c1 : wr.cell? ⟨t, 1, none⟩ = some p0 := hB.cell 1 _ rfl
      have c3 : wr.cell? ⟨t, 3, none⟩ = some (.int .i64 v0) := hB.cell 3 _ rfl
      have z0 := hB.free 0
      have z1 := hB.free 1
      have z2 := hB.free 2
      have z3 := hB.free 3
      rcases hT with ⟨rfl, rfl⟩ | ⟨m, q, rfl, hT⟩
      · clear hB hv hj hk0 hne
        go_wp2_with (first | (go_at_call 38; refine hd.out.mono ?_; rintro e w2 ⟨rfl, rfl⟩) | (go_at_call 25; refine hval.out.mono ?_; rintro e w2 ⟨rfl, rfl⟩))
        have kW : Keep (fun k => k = t) wr (((wr.setCell ⟨t, 0, none⟩ .nilFunc).setCell ⟨t, 1, none⟩ (.pointer none)).setCell ⟨t, 3, none⟩ (.int .i64 v)) := (((Keep.refl (fun k => k = t) wr).set (p := ⟨t, 0, none⟩) (fun _ => rfl) _).set (p := ⟨t, 1, none⟩) (fun _ => rfl) _).set (p := ⟨t, 3, none⟩) (fun _ => rfl) _
        have bW := ((HB.out.set 0 .nilFunc).set 1 (.pointer none)).set 3 (.int .i64 v)
        refine bodyPost_ret (v := .tuple #[]) (by simp [results, Tryz.results87, go_sem]) rfl ?_
        refine ⟨rfl, hK.trans (kW.mono fun _ _ h => .inl h), n, [], Mc, JK.out _ _ _ _ _ hsz Hj.out kW, hMc.out, .inl ⟨rfl, v, HV.out.keep kW (fun k e hk => Hn.out (by rw [e, hk])), bW⟩⟩
      · cases gs with
        | nil => exact absurd rfl hT.ne
        | cons f gs =>
          have HF := Lib.hid (first_any m q f gs (fun b => Q b ∧ ¬ Mc b) wr hT (fun k hk => HQ.out k (by omega)))
          clear hB hv hj hne hT
          go_upto_region 3 with (first | (go_at_call 38; refine hd.out.mono ?_; rintro e w2 ⟨rfl, rfl⟩) | (go_at_call 160; refine HF.out.mono ?_; rintro e w3 ⟨rest, rfl, hrest, hw3⟩; obtain ⟨ru, rfl⟩ := hrest.is; clear c0 c1 c2 c3 z0 z1 z2 z3; have z2 := (HB.out.below hw3 HB.out.lt).free 2; have c2 : w3.cell? ⟨t, 2, none⟩ = some (pV q) := (HB.out.below hw3 HB.out.lt).cell 2 _ rfl))
          have kW : Keep (fun k => k = t) wr (w3.setCell ⟨t, 2, none⟩ (.pointer ru)) := (Keep.ofBelow (Q := fun k => k = t) hw3).set (p := ⟨t, 2, none⟩) (fun _ => rfl) _
          have bW := (HB.out.below hw3 HB.out.lt).set 2 (.pointer ru)
          have hv4 := HV.out.keep kW (fun k e hk => Hn.out (by rw [e, hk]))
          have hj4 := JK.out _ _ _ _ _ hsz Hj.out kW
          have hr4 : TreeO (w3.setCell ⟨t, 2, none⟩ (.pointer ru)) (fun b => Q b ∧ ¬ Mc b) (.pointer ru) gs := hrest.keep ((Keep.refl (fun k => k = t) w3).set (p := ⟨t, 2, none⟩) (fun _ => rfl) (.pointer ru)) (fun b hb hk => HQt.out (hk ▸ hb))
          have hs4 : w.heap.size ≤ (w3.setCell ⟨t, 2, none⟩ (.pointer ru)).heap.size := Nat.le_trans hsz kW.size
          clear c2 z2
          generalize w3.setCell ⟨t, 2, none⟩ (.pointer ru) = w4 at *
          have hval4 := Lib.hid (doneV_value n v w4 hv4)
          have hcall := Lib.hid (JN.out w4 n f gs Mc v hs4 hj4 hv4)
          have HV4 := Lib.hid hr4
          have hk5 : gk = gs.length + 1 := hk0
          clear hv4 hj4 hr4 hk0 hrest
          go_wp2_with (first | (go_at_call 25; refine hval4.out.mono ?_; rintro e w5 ⟨rfl, rfl⟩) | (go_at_call 135; refine hcall.out.mono ?_; rintro e w6 ⟨k6, M6, rfl, hj6, hw6, hm6⟩))
          go_roundg gs.length
          case measure => omega
          case rel =>
            refine ⟨_, _, gs, M6, rfl, rfl, bW.keep hw6 (fun h => HQt0.out (HMQ.out t h).1), ?_, hj6, hK.step (Q' := fun k => k = t ∨ Mc k) ((kW.mono fun _ _ h => .inl h).trans (hw6.mono fun _ _ h => .inr h)) (fun i hi h => h.imp id (hMc.out i hi)), Lib.hid (fun x hx h => hMc.out x hx (hm6 x (Nat.lt_of_lt_of_le hx hs4) h))⟩
            refine ((HV4.out.mono (Q' := fun b => (Q b ∧ ¬ Mc b) ∧ b < w4.heap.size) (fun b hb h => ⟨h, hb⟩)).keep hw6 (fun b hb h => hb.1.2 h)).mono fun b _ hb => ⟨hb.1.1, fun h => hb.1.2 (hm6 b hb.2 h)⟩
    · obtain ⟨k1, d, p, r1, g1, rfl, hL, hT1⟩ := hv
      have hd := Lib.hid (live_done k1 d p r1 wr hL)
      have hne1 : k1 ≠ t := fun e => hne (by rw [e])
      have a0 : wr.cell? ⟨k1, 0, none⟩ = some d := hL.blk.cell 0 _ rfl
      have a1 : wr.cell? ⟨k1, 1, none⟩ = some p := hL.blk.cell 1 _ rfl
      have a2 : wr.cell? ⟨k1, 2, none⟩ = some r1 := hL.blk.cell 2 _ rfl
      have c2 : wr.cell? ⟨t, 2, none⟩ = some r := hB.cell 2 _ rfl
      have hjn := Lib.hid fun W (hk : Keep (fun k => k = t) wr W) (ht2 : TreeO W (fun b => Q b ∧ ¬ Mc b) r gs) => join_trees r1 r g1 gs (fun b => Q b ∧ ¬ Mc b) W (hT1.keep hk fun b hb e => HQt.out (e ▸ hb)) ht2 (fun k hk2 => HQ.out k (by have := hk.size; omega))
      have hjl := Lib.hid fun W (hk : Keep (fun k => k = t) wr W) => hL.keep hk hne1
      have HTr := Lib.hid (show TreeO wr.drew (fun b => Q b ∧ ¬ Mc b) r gs from hT.keep ((Keep.refl (fun _ => False) wr).drew) (fun _ _ h => h))
      have HBr : Hid (Blk wr.drew t 134 #[d0, p0, r, .int .i64 v0]) := Lib.hid hB
      have HL := Lib.hid hL
      have Hj := Lib.hid hj
      have ho := hL.op
      have hr1 := hT1.ptr
      have hr := hT.ptr
      have HT1 := Lib.hid hT1
      clear hB hj hL hT hT1 hk0
      go_upto_region 6 with (go_at_call 38; refine hd.out.mono ?_; rintro e w2 ⟨rfl, rfl⟩)
      have k0 : Keep (fun k => k = t) wr wr.drew := (Keep.refl _ _).drew
      have q2 : wr.drew.cell? ⟨t, 2, none⟩ = some r := HBr.out.cell 2 _ rfl
      obtain ⟨ru, rfl⟩ : ∃ u, r = .pointer u := by rcases hr with rfl | ⟨q, rfl⟩ <;> exact ⟨_, rfl⟩
      obtain ⟨r1u, rfl⟩ : ∃ u, r1 = .pointer u := by rcases hr1 with rfl | ⟨q, rfl⟩ <;> exact ⟨_, rfl⟩
      clear hr hr1 a0 a1 a2 c2 hd
      rcases ho with ⟨F, caps, rfl, rfl⟩ | ⟨q, rfl, rfl⟩
      · have SK := Lib.hid (show ∀ W, Keep (fun k => k = t) wr W → (fun W => (W.cell? ⟨k1, 0, none⟩ = some (cloV F caps) ∧ W.cell? ⟨k1, 1, none⟩ = some (.pointer none) ∧ W.cell? ⟨k1, 2, none⟩ = some (.pointer r1u))) W from fun W hk => ⟨(hjl.out W hk).blk.cell 0 _ rfl, (hjl.out W hk).blk.cell 1 _ rfl, (hjl.out W hk).blk.cell 2 _ rfl⟩)
        refine wp_region_held_drew (S := (fun W => (W.cell? ⟨k1, 0, none⟩ = some (cloV F caps) ∧ W.cell? ⟨k1, 1, none⟩ = some (.pointer none) ∧ W.cell? ⟨k1, 2, none⟩ = some (.pointer r1u)))) (by kernel_rfl) (SK.out _ k0) (fun hHeld => ?_)
        refine wpAnyH_take (i := 0) (oi := _) (v := ?_) rfl (by kernel_rfl) (by kernel_rfl) (by kernel_rfl) (fun _ _ _ h => h) (Or.inl ⟨by rfl, ?_⟩) (by assumption) ?_
        rotate_left
        · intro w hSw; (try dsimp only at hSw); go_simp; try with_reducible rfl
        (try simp only [Act.put, List.setIfInBounds_toArray, List.set_cons_zero, List.set_cons_succ])
        refine wpAnyH_take (i := 1) (oi := _) (v := ?_) rfl (by kernel_rfl) (by kernel_rfl) (by kernel_rfl) (fun _ _ _ h => h) (Or.inl ⟨by rfl, ?_⟩) (by assumption) ?_
        rotate_left
        · intro w hSw; (try dsimp only at hSw); go_simp; try with_reducible rfl
        (try simp only [Act.put, List.setIfInBounds_toArray, List.set_cons_zero, List.set_cons_succ])
        refine wpAnyH_take (i := 2) (oi := _) (v := ?_) rfl (by kernel_rfl) (by kernel_rfl) (by kernel_rfl) (fun _ _ _ h => h) (Or.inl ⟨by rfl, ?_⟩) (by assumption) ?_
        rotate_left
        · intro w hSw; (try dsimp only at hSw); go_simp; try with_reducible rfl
        (try simp only [Act.put, List.setIfInBounds_toArray, List.set_cons_zero, List.set_cons_succ])
        refine wpAnyH_take (i := 3) (oi := _) (v := ?_) rfl (by kernel_rfl) (by kernel_rfl) (by kernel_rfl) (fun _ _ _ h => h) (Or.inl ⟨by rfl, ?_⟩) (by assumption) ?_
        rotate_left
        · intro w hSw; (try dsimp only at hSw); go_simp; try with_reducible rfl
        (try simp only [Act.put, List.setIfInBounds_toArray, List.set_cons_zero, List.set_cons_succ])
        refine wpAnyH_take (i := 4) (oi := _) (v := ?_) rfl (by kernel_rfl) (by kernel_rfl) (by kernel_rfl) (fun _ _ _ h => h) (Or.inl ⟨by rfl, ?_⟩) (by assumption) ?_
        rotate_left
        · intro w hSw; (try dsimp only at hSw); go_simp; try with_reducible rfl
        (try simp only [Act.put, List.setIfInBounds_toArray, List.set_cons_zero, List.set_cons_succ])
        refine wpAnyH_take (i := 5) (oi := _) (v := ?_) rfl (by kernel_rfl) (by kernel_rfl) (by kernel_rfl) (fun _ _ _ h => h) (Or.inl ⟨by rfl, ?_⟩) (by assumption) ?_
        rotate_left
        · intro w hSw; (try dsimp only at hSw); go_simp; try with_reducible rfl
        (try simp only [Act.put, List.setIfInBounds_toArray, List.set_cons_zero, List.set_cons_succ])
        refine wpAnyH_take (i := 6) (oi := _) (v := ?_) rfl (by kernel_rfl) (by kernel_rfl) (by kernel_rfl) (fun _ _ _ h => h) (Or.inl ⟨by rfl, ?_⟩) (by assumption) ?_
        rotate_left
        · intro w hSw; (try dsimp only at hSw); go_simp; try with_reducible rfl
        (try simp only [Act.put, List.setIfInBounds_toArray, List.set_cons_zero, List.set_cons_succ])
        refine wpAnyH_take (i := 7) (oi := _) (v := ?_) rfl (by kernel_rfl) (by kernel_rfl) (by kernel_rfl) (fun _ _ _ h => h) (Or.inl ⟨by rfl, ?_⟩) (by assumption) ?_
        rotate_left
        · intro w hSw; (try dsimp only at hSw); go_simp; try with_reducible rfl
        (try simp only [Act.put, List.setIfInBounds_toArray, List.set_cons_zero, List.set_cons_succ])
        refine wpAnyH_take (i := 8) (oi := _) (v := ?_) rfl (by kernel_rfl) (by kernel_rfl) (by kernel_rfl) (fun _ _ _ h => h) (Or.inl ⟨by rfl, ?_⟩) (by assumption) ?_
        rotate_left
        · intro w hSw; (try dsimp only at hSw); go_simp; try with_reducible rfl
        (try simp only [Act.put, List.setIfInBounds_toArray, List.set_cons_zero, List.set_cons_succ])
        refine wpAnyH_take (i := 9) (oi := _) (v := ?_) rfl (by kernel_rfl) (by kernel_rfl) (by kernel_rfl) (fun _ _ _ h => h) (Or.inl ⟨by rfl, ?_⟩) (by assumption) ?_
        rotate_left
        · intro w hSw; (try dsimp only at hSw); go_simp; try with_reducible rfl
        (try simp only [Act.put, List.setIfInBounds_toArray, List.set_cons_zero, List.set_cons_succ])
        refine wpAnyH_take (i := 10) (oi := _) (v := ?_) rfl (by kernel_rfl) (by kernel_rfl) (by kernel_rfl) (fun _ _ _ h => h) (Or.inl ⟨by rfl, ?_⟩) (by assumption) ?_
        rotate_left
        · intro w hSw; (try dsimp only at hSw); go_simp; try with_reducible rfl
        (try simp only [Act.put, List.setIfInBounds_toArray, List.set_cons_zero, List.set_cons_succ])
        refine wpAnyH_take (i := 11) (oi := _) (v := ?_) rfl (by kernel_rfl) (by kernel_rfl) (by kernel_rfl) (fun _ _ _ h => h) (Or.inl ⟨by rfl, ?_⟩) (by assumption) ?_
        rotate_left
        · intro w hSw; (try dsimp only at hSw); go_simp; try with_reducible rfl
        (try simp only [Act.put, List.setIfInBounds_toArray, List.set_cons_zero, List.set_cons_succ])
        refine wpAnyH_take (i := 12) (oi := _) (v := ?_) rfl (by kernel_rfl) (by kernel_rfl) (by kernel_rfl) (fun _ _ _ h => h) (Or.inl ⟨by rfl, ?_⟩) (by assumption) ?_
        rotate_left
        · intro w hSw; (try dsimp only at hSw); go_simp; try with_reducible rfl
        (try simp only [Act.put, List.setIfInBounds_toArray, List.set_cons_zero, List.set_cons_succ])
        refine wpAnyH_ready (rs := [13]) (by kernel_rfl) (by simp) ?_
        refine AllReadyH.cons rfl (fun K hK => ?_) AllReadyH.nil
        go_simp
        go_wp2_with fail
        refine hK.out _ _ (SK.out _ k0) (fun hHeld => ?_)
        clear hK K
        (try dsimp only [Act.put]); (try simp only [Act.put, List.setIfInBounds_toArray, List.set_cons_zero, List.set_cons_succ])
        refine wpAnyH_ready (rs := [14]) (by kernel_rfl) (by simp) ?_
        refine AllReadyH.cons rfl (fun K hK => ?_) AllReadyH.nil
        go_simp
        go_at_call 161
        refine (hjn.out _ k0 HTr.out).mono ?_
        rintro e w3 ⟨j, rfl, hjt, hw3⟩
        obtain ⟨ju, rfl⟩ := hjt.is
        have k3 := k0.trans (Keep.ofBelow (Q := fun k => k = t) hw3)
        have B3 := HBr.out.below hw3 HBr.out.lt
        clear q2
        go_wp2_with fail
        refine hK.out _ _ (SK.out _ k3) (fun hHeld => ?_)
        clear hK K
        (try dsimp only [Act.put]); (try simp only [Act.put, List.setIfInBounds_toArray, List.set_cons_zero, List.set_cons_succ])
        have q0 : w3.cell? ⟨t, 0, none⟩ = some d0 := B3.cell 0 _ rfl
        have q1 : w3.cell? ⟨t, 1, none⟩ = some p0 := B3.cell 1 _ rfl
        have z0 := B3.free 0
        have z1 := B3.free 1
        refine wpAnyH_take (i := 15) (oi := _) (v := ?_) rfl (by kernel_rfl) (by kernel_rfl) (by kernel_rfl) (fun _ _ _ h => h) (Or.inl ⟨by rfl, ?_⟩) (by assumption) ?_
        rotate_left
        · intro w hSw; (try dsimp only at hSw); go_simp; try with_reducible rfl
        (try simp only [Act.put, List.setIfInBounds_toArray, List.set_cons_zero, List.set_cons_succ])
        refine wpAnyH_take (i := 16) (oi := _) (v := ?_) rfl (by kernel_rfl) (by kernel_rfl) (by kernel_rfl) (fun _ _ _ h => h) (Or.inl ⟨by rfl, ?_⟩) (by assumption) ?_
        rotate_left
        · intro w hSw; (try dsimp only at hSw); go_simp; try with_reducible rfl
        (try simp only [Act.put, List.setIfInBounds_toArray, List.set_cons_zero, List.set_cons_succ])
        have k4 : Keep (fun k => k = t) wr ((w3.setCell ⟨t, 0, none⟩ (cloV F caps)).setCell ⟨t, 1, none⟩ (.pointer none)) := (k3.set (p := ⟨t, 0, none⟩) (fun _ => rfl) _).set (p := ⟨t, 1, none⟩) (fun _ => rfl) _
        refine wpAnyH_ready (rs := [17]) (by kernel_rfl) (by simp) ?_
        refine AllReadyH.cons rfl (fun K hK => ?_) AllReadyH.nil
        go_simp
        go_wp2_with fail
        refine hK.out _ _ (SK.out _ k4) (fun hHeld => ?_)
        clear hK K
        (try dsimp only [Act.put]); (try simp only [Act.put, List.setIfInBounds_toArray, List.set_cons_zero, List.set_cons_succ])
        have B4 := (B3.set 0 (cloV F caps)).set 1 (.pointer none)
        have hjt4 : TreeO ((w3.setCell ⟨t, 0, none⟩ (cloV F caps)).setCell ⟨t, 1, none⟩ (.pointer none)) (fun b => Q b ∧ ¬ Mc b) (.pointer ju) (g1 ++ gs) := hjt.keep (((Keep.refl (fun k => k = t) w3).set (p := ⟨t, 0, none⟩) (fun _ => rfl) _).set (p := ⟨t, 1, none⟩) (fun _ => rfl) _) (fun b hb e => HQt.out (e ▸ hb))
        clear q0 q1 z0 z1 hHeld
        generalize ((w3.setCell ⟨t, 0, none⟩ (cloV F caps)).setCell ⟨t, 1, none⟩ (.pointer none)) = w4 at *
        have hHeld := SK.out _ k4
        have q2 : w4.cell? ⟨t, 2, none⟩ = some (.pointer ru) := B4.cell 2 _ rfl
        have z2 := B4.free 2
        have k5 : Keep (fun k => k = t) wr (w4.setCell ⟨t, 2, none⟩ (.pointer ju)) := k4.set (p := ⟨t, 2, none⟩) (fun _ => rfl) _
        refine wpAnyH_take (i := 18) (oi := _) (v := ?_) rfl (by kernel_rfl) (by kernel_rfl) (by kernel_rfl) (fun _ _ _ h => h) (Or.inl ⟨by rfl, ?_⟩) (by assumption) ?_
        rotate_left
        · intro w hSw; (try dsimp only at hSw); go_simp; try with_reducible rfl
        (try simp only [Act.put, List.setIfInBounds_toArray, List.set_cons_zero, List.set_cons_succ])
        refine wpAnyH_take (i := 19) (oi := _) (v := ?_) rfl (by kernel_rfl) (by kernel_rfl) (by kernel_rfl) (fun _ _ _ h => h) (Or.inl ⟨by rfl, ?_⟩) (by assumption) ?_
        rotate_left
        · intro w hSw; (try dsimp only at hSw); go_simp; try with_reducible rfl
        (try simp only [Act.put, List.setIfInBounds_toArray, List.set_cons_zero, List.set_cons_succ])
        refine wpAnyH_ready (rs := [20]) (by kernel_rfl) (by simp) ?_
        refine AllReadyH.cons rfl (fun K hK => ?_) AllReadyH.nil
        go_simp
        go_wp2_with fail
        refine hK.out _ _ (SK.out _ k5) (fun hHeld => ?_)
        clear hK K
        (try dsimp only [Act.put]); (try simp only [Act.put, List.setIfInBounds_toArray, List.set_cons_zero, List.set_cons_succ])
        refine wpAnyH_done (by kernel_rfl) ?_ _
        have bW := B4.set 2 (.pointer ju)
        have k6 : Keep (fun k => k = t) w4 (w4.setCell ⟨t, 2, none⟩ (.pointer ju)) := (Keep.refl (fun k => k = t) w4).set (p := ⟨t, 2, none⟩) (fun _ => rfl) _
        go_end0
        refine ⟨rfl, hK.trans (k5.mono fun _ _ h => .inl h), some ⟨k1, 0, none⟩, gs, Mc, JK.out _ _ _ _ _ hsz Hj.out k5, hMc.out, .inr ⟨k1, _, _, _, g1, _, rfl, hjl.out _ k5, HT1.out.keep k5 (fun b hb e => HQt.out (e ▸ hb)), hjt4.keep k6 (fun b hb e => HQt.out (e ▸ hb)), bW⟩⟩
      · have SK := Lib.hid (show ∀ W, Keep (fun k => k = t) wr W → (fun W => (W.cell? ⟨k1, 0, none⟩ = some (.nilFunc) ∧ W.cell? ⟨k1, 1, none⟩ = some (pV q) ∧ W.cell? ⟨k1, 2, none⟩ = some (.pointer r1u))) W from fun W hk => ⟨(hjl.out W hk).blk.cell 0 _ rfl, (hjl.out W hk).blk.cell 1 _ rfl, (hjl.out W hk).blk.cell 2 _ rfl⟩)
        refine wp_region_held_drew (S := (fun W => (W.cell? ⟨k1, 0, none⟩ = some (.nilFunc) ∧ W.cell? ⟨k1, 1, none⟩ = some (pV q) ∧ W.cell? ⟨k1, 2, none⟩ = some (.pointer r1u)))) (by kernel_rfl) (SK.out _ k0) (fun hHeld => ?_)
        refine wpAnyH_take (i := 0) (oi := _) (v := ?_) rfl (by kernel_rfl) (by kernel_rfl) (by kernel_rfl) (fun _ _ _ h => h) (Or.inl ⟨by rfl, ?_⟩) (by assumption) ?_
        rotate_left
        · intro w hSw; (try dsimp only at hSw); go_simp; try with_reducible rfl
        (try simp only [Act.put, List.setIfInBounds_toArray, List.set_cons_zero, List.set_cons_succ])
        refine wpAnyH_take (i := 1) (oi := _) (v := ?_) rfl (by kernel_rfl) (by kernel_rfl) (by kernel_rfl) (fun _ _ _ h => h) (Or.inl ⟨by rfl, ?_⟩) (by assumption) ?_
        rotate_left
        · intro w hSw; (try dsimp only at hSw); go_simp; try with_reducible rfl
        (try simp only [Act.put, List.setIfInBounds_toArray, List.set_cons_zero, List.set_cons_succ])
        refine wpAnyH_take (i := 2) (oi := _) (v := ?_) rfl (by kernel_rfl) (by kernel_rfl) (by kernel_rfl) (fun _ _ _ h => h) (Or.inl ⟨by rfl, ?_⟩) (by assumption) ?_
        rotate_left
        · intro w hSw; (try dsimp only at hSw); go_simp; try with_reducible rfl
        (try simp only [Act.put, List.setIfInBounds_toArray, List.set_cons_zero, List.set_cons_succ])
        refine wpAnyH_take (i := 3) (oi := _) (v := ?_) rfl (by kernel_rfl) (by kernel_rfl) (by kernel_rfl) (fun _ _ _ h => h) (Or.inl ⟨by rfl, ?_⟩) (by assumption) ?_
        rotate_left
        · intro w hSw; (try dsimp only at hSw); go_simp; try with_reducible rfl
        (try simp only [Act.put, List.setIfInBounds_toArray, List.set_cons_zero, List.set_cons_succ])
        refine wpAnyH_take (i := 4) (oi := _) (v := ?_) rfl (by kernel_rfl) (by kernel_rfl) (by kernel_rfl) (fun _ _ _ h => h) (Or.inl ⟨by rfl, ?_⟩) (by assumption) ?_
        rotate_left
        · intro w hSw; (try dsimp only at hSw); go_simp; try with_reducible rfl
        (try simp only [Act.put, List.setIfInBounds_toArray, List.set_cons_zero, List.set_cons_succ])
        refine wpAnyH_take (i := 5) (oi := _) (v := ?_) rfl (by kernel_rfl) (by kernel_rfl) (by kernel_rfl) (fun _ _ _ h => h) (Or.inl ⟨by rfl, ?_⟩) (by assumption) ?_
        rotate_left
        · intro w hSw; (try dsimp only at hSw); go_simp; try with_reducible rfl
        (try simp only [Act.put, List.setIfInBounds_toArray, List.set_cons_zero, List.set_cons_succ])
        refine wpAnyH_take (i := 6) (oi := _) (v := ?_) rfl (by kernel_rfl) (by kernel_rfl) (by kernel_rfl) (fun _ _ _ h => h) (Or.inl ⟨by rfl, ?_⟩) (by assumption) ?_
        rotate_left
        · intro w hSw; (try dsimp only at hSw); go_simp; try with_reducible rfl
        (try simp only [Act.put, List.setIfInBounds_toArray, List.set_cons_zero, List.set_cons_succ])
        refine wpAnyH_take (i := 7) (oi := _) (v := ?_) rfl (by kernel_rfl) (by kernel_rfl) (by kernel_rfl) (fun _ _ _ h => h) (Or.inl ⟨by rfl, ?_⟩) (by assumption) ?_
        rotate_left
        · intro w hSw; (try dsimp only at hSw); go_simp; try with_reducible rfl
        (try simp only [Act.put, List.setIfInBounds_toArray, List.set_cons_zero, List.set_cons_succ])
        refine wpAnyH_take (i := 8) (oi := _) (v := ?_) rfl (by kernel_rfl) (by kernel_rfl) (by kernel_rfl) (fun _ _ _ h => h) (Or.inl ⟨by rfl, ?_⟩) (by assumption) ?_
        rotate_left
        · intro w hSw; (try dsimp only at hSw); go_simp; try with_reducible rfl
        (try simp only [Act.put, List.setIfInBounds_toArray, List.set_cons_zero, List.set_cons_succ])
        refine wpAnyH_take (i := 9) (oi := _) (v := ?_) rfl (by kernel_rfl) (by kernel_rfl) (by kernel_rfl) (fun _ _ _ h => h) (Or.inl ⟨by rfl, ?_⟩) (by assumption) ?_
        rotate_left
        · intro w hSw; (try dsimp only at hSw); go_simp; try with_reducible rfl
        (try simp only [Act.put, List.setIfInBounds_toArray, List.set_cons_zero, List.set_cons_succ])
        refine wpAnyH_take (i := 10) (oi := _) (v := ?_) rfl (by kernel_rfl) (by kernel_rfl) (by kernel_rfl) (fun _ _ _ h => h) (Or.inl ⟨by rfl, ?_⟩) (by assumption) ?_
        rotate_left
        · intro w hSw; (try dsimp only at hSw); go_simp; try with_reducible rfl
        (try simp only [Act.put, List.setIfInBounds_toArray, List.set_cons_zero, List.set_cons_succ])
        refine wpAnyH_take (i := 11) (oi := _) (v := ?_) rfl (by kernel_rfl) (by kernel_rfl) (by kernel_rfl) (fun _ _ _ h => h) (Or.inl ⟨by rfl, ?_⟩) (by assumption) ?_
        rotate_left
        · intro w hSw; (try dsimp only at hSw); go_simp; try with_reducible rfl
        (try simp only [Act.put, List.setIfInBounds_toArray, List.set_cons_zero, List.set_cons_succ])
        refine wpAnyH_take (i := 12) (oi := _) (v := ?_) rfl (by kernel_rfl) (by kernel_rfl) (by kernel_rfl) (fun _ _ _ h => h) (Or.inl ⟨by rfl, ?_⟩) (by assumption) ?_
        rotate_left
        · intro w hSw; (try dsimp only at hSw); go_simp; try with_reducible rfl
        (try simp only [Act.put, List.setIfInBounds_toArray, List.set_cons_zero, List.set_cons_succ])
        refine wpAnyH_ready (rs := [13]) (by kernel_rfl) (by simp) ?_
        refine AllReadyH.cons rfl (fun K hK => ?_) AllReadyH.nil
        go_simp
        go_wp2_with fail
        refine hK.out _ _ (SK.out _ k0) (fun hHeld => ?_)
        clear hK K
        (try dsimp only [Act.put]); (try simp only [Act.put, List.setIfInBounds_toArray, List.set_cons_zero, List.set_cons_succ])
        refine wpAnyH_ready (rs := [14]) (by kernel_rfl) (by simp) ?_
        refine AllReadyH.cons rfl (fun K hK => ?_) AllReadyH.nil
        go_simp
        go_at_call 161
        refine (hjn.out _ k0 HTr.out).mono ?_
        rintro e w3 ⟨j, rfl, hjt, hw3⟩
        obtain ⟨ju, rfl⟩ := hjt.is
        have k3 := k0.trans (Keep.ofBelow (Q := fun k => k = t) hw3)
        have B3 := HBr.out.below hw3 HBr.out.lt
        clear q2
        go_wp2_with fail
        refine hK.out _ _ (SK.out _ k3) (fun hHeld => ?_)
        clear hK K
        (try dsimp only [Act.put]); (try simp only [Act.put, List.setIfInBounds_toArray, List.set_cons_zero, List.set_cons_succ])
        have q0 : w3.cell? ⟨t, 0, none⟩ = some d0 := B3.cell 0 _ rfl
        have q1 : w3.cell? ⟨t, 1, none⟩ = some p0 := B3.cell 1 _ rfl
        have z0 := B3.free 0
        have z1 := B3.free 1
        refine wpAnyH_take (i := 15) (oi := _) (v := ?_) rfl (by kernel_rfl) (by kernel_rfl) (by kernel_rfl) (fun _ _ _ h => h) (Or.inl ⟨by rfl, ?_⟩) (by assumption) ?_
        rotate_left
        · intro w hSw; (try dsimp only at hSw); go_simp; try with_reducible rfl
        (try simp only [Act.put, List.setIfInBounds_toArray, List.set_cons_zero, List.set_cons_succ])
        refine wpAnyH_take (i := 16) (oi := _) (v := ?_) rfl (by kernel_rfl) (by kernel_rfl) (by kernel_rfl) (fun _ _ _ h => h) (Or.inl ⟨by rfl, ?_⟩) (by assumption) ?_
        rotate_left
        · intro w hSw; (try dsimp only at hSw); go_simp; try with_reducible rfl
        (try simp only [Act.put, List.setIfInBounds_toArray, List.set_cons_zero, List.set_cons_succ])
        have k4 : Keep (fun k => k = t) wr ((w3.setCell ⟨t, 0, none⟩ (.nilFunc)).setCell ⟨t, 1, none⟩ (pV q)) := (k3.set (p := ⟨t, 0, none⟩) (fun _ => rfl) _).set (p := ⟨t, 1, none⟩) (fun _ => rfl) _
        refine wpAnyH_ready (rs := [17]) (by kernel_rfl) (by simp) ?_
        refine AllReadyH.cons rfl (fun K hK => ?_) AllReadyH.nil
        go_simp
        go_wp2_with fail
        refine hK.out _ _ (SK.out _ k4) (fun hHeld => ?_)
        clear hK K
        (try dsimp only [Act.put]); (try simp only [Act.put, List.setIfInBounds_toArray, List.set_cons_zero, List.set_cons_succ])
        have B4 := (B3.set 0 (.nilFunc)).set 1 (pV q)
        have hjt4 : TreeO ((w3.setCell ⟨t, 0, none⟩ (.nilFunc)).setCell ⟨t, 1, none⟩ (pV q)) (fun b => Q b ∧ ¬ Mc b) (.pointer ju) (g1 ++ gs) := hjt.keep (((Keep.refl (fun k => k = t) w3).set (p := ⟨t, 0, none⟩) (fun _ => rfl) _).set (p := ⟨t, 1, none⟩) (fun _ => rfl) _) (fun b hb e => HQt.out (e ▸ hb))
        clear q0 q1 z0 z1 hHeld
        generalize ((w3.setCell ⟨t, 0, none⟩ (.nilFunc)).setCell ⟨t, 1, none⟩ (pV q)) = w4 at *
        have hHeld := SK.out _ k4
        have q2 : w4.cell? ⟨t, 2, none⟩ = some (.pointer ru) := B4.cell 2 _ rfl
        have z2 := B4.free 2
        have k5 : Keep (fun k => k = t) wr (w4.setCell ⟨t, 2, none⟩ (.pointer ju)) := k4.set (p := ⟨t, 2, none⟩) (fun _ => rfl) _
        refine wpAnyH_take (i := 18) (oi := _) (v := ?_) rfl (by kernel_rfl) (by kernel_rfl) (by kernel_rfl) (fun _ _ _ h => h) (Or.inl ⟨by rfl, ?_⟩) (by assumption) ?_
        rotate_left
        · intro w hSw; (try dsimp only at hSw); go_simp; try with_reducible rfl
        (try simp only [Act.put, List.setIfInBounds_toArray, List.set_cons_zero, List.set_cons_succ])
        refine wpAnyH_take (i := 19) (oi := _) (v := ?_) rfl (by kernel_rfl) (by kernel_rfl) (by kernel_rfl) (fun _ _ _ h => h) (Or.inl ⟨by rfl, ?_⟩) (by assumption) ?_
        rotate_left
        · intro w hSw; (try dsimp only at hSw); go_simp; try with_reducible rfl
        (try simp only [Act.put, List.setIfInBounds_toArray, List.set_cons_zero, List.set_cons_succ])
        refine wpAnyH_ready (rs := [20]) (by kernel_rfl) (by simp) ?_
        refine AllReadyH.cons rfl (fun K hK => ?_) AllReadyH.nil
        go_simp
        go_wp2_with fail
        refine hK.out _ _ (SK.out _ k5) (fun hHeld => ?_)
        clear hK K
        (try dsimp only [Act.put]); (try simp only [Act.put, List.setIfInBounds_toArray, List.set_cons_zero, List.set_cons_succ])
        refine wpAnyH_done (by kernel_rfl) ?_ _
        have bW := B4.set 2 (.pointer ju)
        have k6 : Keep (fun k => k = t) w4 (w4.setCell ⟨t, 2, none⟩ (.pointer ju)) := (Keep.refl (fun k => k = t) w4).set (p := ⟨t, 2, none⟩) (fun _ => rfl) _
        go_end0
        refine ⟨rfl, hK.trans (k5.mono fun _ _ h => .inl h), some ⟨k1, 0, none⟩, gs, Mc, JK.out _ _ _ _ _ hsz Hj.out k5, hMc.out, .inr ⟨k1, _, _, _, g1, _, rfl, hjl.out _ k5, HT1.out.keep k5 (fun b hb e => HQt.out (e ▸ hb)), hjt4.keep k6 (fun b hb e => HQt.out (e ▸ hb)), bW⟩⟩
end Go.Proofs.YtmknnjjmmfbppaaGreat
/- Package task: tasks by what they may yet do, where what is behind an operation may turn blocks of its own (closures with a state). -/
namespace Go.Proofs.YtmknnjjmmfbppaaGreat
open Go.ChangeShapes Go.WideShapes Go.ChangeAt Go.RowKit
set_option linter.unusedVariables false
set_option maxRecDepth 100000
set_option linter.unusedSimpArgs false
/-- what is said of all that is behind an operation -/
abbrev MRel (A : Type) := World → (Nat → Prop) → (Nat → Prop) → List Nat → (Int → Tre A) → Prop
/-- a task at hand, and what is behind it, are together R -/
def JM {A : Type} (O : Ops A) (K : MRel A) (w : World) (Q M : Nat → Prop) (n : Option Addr) (fs : List Nat) (R : Tre A) : Prop :=
  (∃ u κ, DoneV w n u ∧ K w Q M fs κ ∧ R = κ u) ∨
  ∃ x g k d p rest gs, R = opT x g ∧ n = some ⟨k, 0, none⟩ ∧ Live w k d p rest ∧ TreeO w (fun b => Q b ∧ ¬ M b) rest gs ∧ O.is w Q x d p ∧ K w Q M (gs ++ fs) g
theorem JM.mono {A : Type} {O : Ops A} {K K' : MRel A} {w : World} {Q Q' M : Nat → Prop} {n : Option Addr} {fs : List Nat} {R : Tre A} (h : JM O K w Q M n fs R) (hK : ∀ fs κ, K w Q M fs κ → K' w Q' M fs κ) (hq : ∀ b, b < w.heap.size → Q b → Q' b) : JM O K' w Q' M n fs R := by
  rcases h with ⟨u, κ, h1, h2, e⟩ | ⟨x, g, k, d, p, rest, gs, e, e2, h1, h2, h3, h4⟩
  · exact .inl ⟨u, κ, h1, hK _ _ h2, e⟩
  · exact .inr ⟨x, g, k, d, p, rest, gs, e, e2, h1, h2.mono (fun b hb h => ⟨hq b hb h.1, h.2⟩), O.keep h3 (Keep.refl (fun _ => False) w) (fun _ _ h => h) hq, hK _ _ h4⟩
def StepM {A : Type} (O : Ops A) (K : MRel A) (w : World) (Q M : Nat → Prop) (fs : List Nat) (κ : Int → Tre A) : Prop :=
  (∀ b, M b → Q b ∧ b < w.heap.size) ∧ match fs with
  | [] => κ = retT
  | f :: fs => Q f ∧ f < w.heap.size ∧ ∀ v w1, Keep (fun b => ¬ Q b) w w1 → Calls Tryz.prog 135 #[.int .i64 v, pV f] w1 fun e w2 => ∃ n M2, e = .returned (.pointer n) ∧ Keep M w1 w2 ∧ (∀ b, b < w1.heap.size → M2 b → M b) ∧
      InQ (fun b => (Q b ∧ b < w.heap.size) ∨ w1.heap.size ≤ b) n ∧ JM O K w2 (fun b => (Q b ∧ b < w.heap.size) ∨ w1.heap.size ≤ b) M2 n fs (κ v)
theorem StepM.mono {A : Type} {O : Ops A} {K K' : MRel A} (hK : ∀ w Q M fs κ, K w Q M fs κ → K' w Q M fs κ) {w : World} {Q M : Nat → Prop} {fs : List Nat} {κ : Int → Tre A} (h : StepM O K w Q M fs κ) : StepM O K' w Q M fs κ := by
  refine ⟨h.1, ?_⟩
  cases fs with
  | nil => exact h.2
  | cons f fs =>
    obtain ⟨h1, h2, h3⟩ := h.2
    refine ⟨h1, h2, fun v w1 hw => (h3 v w1 hw).mono ?_⟩
    rintro e w2 ⟨n, M2, rfl, g1, g2, g3, g4⟩
    exact ⟨n, M2, rfl, g1, g2, g3, g4.mono (fun fs κ h => hK _ _ _ _ _ h) (fun _ _ h => h)⟩
/-- .. the greatest there is -/
def ContsM {A : Type} (O : Ops A) : MRel A := fun w Q M fs κ => ∃ K : MRel A, (∀ w Q M fs κ, K w Q M fs κ → StepM O K w Q M fs κ) ∧ K w Q M fs κ
theorem ContsM.unfold {A : Type} {O : Ops A} {w : World} {Q M : Nat → Prop} {fs : List Nat} {κ : Int → Tre A} (h : ContsM O w Q M fs κ) : StepM O (ContsM O) w Q M fs κ := by
  obtain ⟨K, h1, h2⟩ := h
  exact (h1 w Q M fs κ h2).mono fun w Q M fs κ h => ⟨K, h1, h⟩
theorem ContsM.fold {A : Type} {O : Ops A} {w : World} {Q M : Nat → Prop} {fs : List Nat} {κ : Int → Tre A} (h : StepM O (ContsM O) w Q M fs κ) : ContsM O w Q M fs κ :=
  ⟨StepM O (ContsM O), fun w Q M fs κ h => h.mono fun w Q M fs κ h => h.unfold, h⟩
theorem ContsM.nil {A : Type} {O : Ops A} {w : World} {Q M : Nat → Prop} (h : ∀ b, M b → Q b ∧ b < w.heap.size) : ContsM O w Q M [] retT := ContsM.fold ⟨h, rfl⟩
theorem ContsM.ret {A : Type} {O : Ops A} {w : World} {Q M : Nat → Prop} {κ : Int → Tre A} (h : ContsM O w Q M [] κ) : κ = retT := h.unfold.2
theorem ContsM.few {A : Type} {O : Ops A} {w : World} {Q M : Nat → Prop} {fs : List Nat} {κ : Int → Tre A} (h : ContsM O w Q M fs κ) : ∀ b, M b → Q b ∧ b < w.heap.size := h.unfold.1
theorem ContsM.keep {A : Type} {O : Ops A} {w w1 : World} {Q Q' M F : Nat → Prop} {fs : List Nat} {κ : Int → Tre A} (h : ContsM O w Q M fs κ) (hk : Keep F w w1) (hd : ∀ b, Q b → ¬ F b) (hq : ∀ b, b < w.heap.size → Q b → Q' b) : ContsM O w1 Q' M fs κ := by
  refine ⟨fun w1 Q' M fs κ => ∃ w Q F, ContsM O w Q M fs κ ∧ Keep F w w1 ∧ (∀ b, Q b → ¬ F b) ∧ ∀ b, b < w.heap.size → Q b → Q' b, ?_, w, Q, F, h, hk, hd, hq⟩
  rintro w1 Q' M fs κ ⟨w, Q, F, h, hk, hd, hq⟩
  have hs := hk.size
  obtain ⟨hm, hr⟩ := h.unfold
  refine ⟨fun b hb => ⟨hq b (hm b hb).2 (hm b hb).1, Nat.lt_of_lt_of_le (hm b hb).2 hs⟩, ?_⟩
  cases fs with
  | nil => exact hr
  | cons f fs =>
    obtain ⟨h1, h2, h3⟩ := hr
    refine ⟨hq f h2 h1, Nat.lt_of_lt_of_le h2 hs, fun v w2 hw => ?_⟩
    have hK : Keep (fun b => ¬ Q b) w w2 := ⟨hw.os.trans hk.os, hw.tape.trans hk.tape, hw.output.trans hk.output, Nat.le_trans hs hw.size, fun b hb hn => by
      have hQ : Q b := Classical.not_not.1 hn
      rw [hw.block b (by omega) (fun h => h (hq b hb hQ)), hk.block b hb (hd b hQ)]⟩
    refine (h3 v w2 hK).mono ?_
    rintro e w3 ⟨n, M2, rfl, g1, g2, g3, g4⟩
    have hqq : ∀ b, (Q b ∧ b < w.heap.size) ∨ w2.heap.size ≤ b → (Q' b ∧ b < w1.heap.size) ∨ w2.heap.size ≤ b := fun b hb => hb.imp (fun h => ⟨hq b h.2 h.1, by omega⟩) id
    exact ⟨n, M2, rfl, g1, g2, fun k e => hqq k (g3 k e), g4.mono (fun fs κ h => ⟨w3, _, fun _ => False, h, Keep.refl _ _, fun _ _ h => h, fun b _ h => hqq b h⟩) (fun b _ h => hqq b h)⟩
/-- a task, with all that is behind it, and more -/
abbrev JmF {A : Type} (O : Ops A) (w : World) (Q M : Nat → Prop) (n : Option Addr) (fs : List Nat) (R : Tre A) : Prop := JM O (ContsM O) w Q M n fs R
theorem JmF.keep {A : Type} {O : Ops A} {w w1 : World} {Q Q' M F : Nat → Prop} {n : Option Addr} {fs : List Nat} {R : Tre A} (h : JmF O w Q M n fs R) (hk : Keep F w w1) (hd : ∀ b, Q b → ¬ F b) (hn : InQ (fun k => ¬ F k) n) (hq : ∀ b, b < w.heap.size → Q b → Q' b) : JmF O w1 Q' M n fs R := by
  rcases h with ⟨u, κ, h1, h2, e⟩ | ⟨x, g, k, d, p, rest, gs, e, rfl, h1, h2, h3, h4⟩
  · exact .inl ⟨u, κ, h1.keep hk hn, h2.keep hk hd hq, e⟩
  · refine .inr ⟨x, g, k, d, p, rest, gs, e, rfl, h1.keep hk (hn k rfl), ?_, O.keep h3 hk hd hq, h4.keep hk hd hq⟩
    exact ((h2.mono (Q' := fun b => Q b ∧ Q' b ∧ ¬ M b) fun b hb h => ⟨h.1, hq b hb h.1, h.2⟩).keep hk fun b h => hd b h.1).mono fun b _ h => h.2
theorem JmF.few {A : Type} {O : Ops A} {w : World} {Q M : Nat → Prop} {n : Option Addr} {fs : List Nat} {R : Tre A} (h : JmF O w Q M n fs R) : ∀ b, M b → Q b ∧ b < w.heap.size := by
  rcases h with ⟨u, κ, h1, h2, e⟩ | ⟨x, g, k, d, p, rest, gs, e, rfl, h1, h2, h3, h4⟩
  · exact h2.few
  · exact h4.few
theorem JmF.lt {A : Type} {O : Ops A} {w : World} {Q M : Nat → Prop} {k : Nat} {fs : List Nat} {R : Tre A} (h : JmF O w Q M (some ⟨k, 0, none⟩) fs R) : k < w.heap.size := by
  rcases h with ⟨u, κ, h1, h2, e⟩ | ⟨x, g, k', d, p, rest, gs, e, e2, h1, h2, h3, h4⟩
  · rcases h1 with ⟨h, _⟩ | ⟨k', e2, h⟩
    · cases h
    · injection e2 with e2; injection e2 with e2; rw [e2]; exact h.lt
  · injection e2 with e2; injection e2 with e2; rw [e2]; exact h1.blk.lt
theorem Behind.func {A : Type} {K : Nat → (Int → Tre A) → Prop} {fs : List Nat} {u : Int} {R : Tre A} (h : Behind K fs (retT u) R) : ∃ κ : Int → Tre A, R = κ u ∧ ∀ v, Behind K fs (retT v) (κ v) := by
  cases fs with
  | nil => exact ⟨retT, h, fun v => rfl⟩
  | cons f fs =>
    obtain ⟨k, κ, h1, e, h2⟩ := h
    rw [bindT_ret] at e
    exact ⟨κ, e, fun v => ⟨k, κ, h1, (bindT_ret κ v).symm, h2⟩⟩
/-- what turns nothing, ahead of what may -/
def Mix {A : Type} (O : Ops A) (K : MRel A) : MRel A := fun w Q M L κ => ∃ (B : Tre A → Tre A) (gs fs : List Nat) (κ1 : Int → Tre A) (Q0 : Nat → Prop), (∀ x g, B (opT x g) = opT x fun v => B (g v)) ∧ L = gs ++ fs ∧ K w Q M fs (fun v => B (retT v)) ∧ (∀ b, Q0 b → Q b ∧ ¬ M b) ∧ (∀ v, Behind (ContT O w Q0) gs (retT v) (κ1 v)) ∧ κ = fun v => B (κ1 v)
theorem Mix.of {A : Type} {O : Ops A} {K : MRel A} {w : World} {Q M : Nat → Prop} {L : List Nat} {κ : Int → Tre A} (h : K w Q M L κ) : Mix O K w Q M L κ := by
  have e : (fun v => bindT κ (retT v)) = κ := funext fun v => bindT_ret κ v
  exact ⟨bindT κ, [], L, retT, fun _ => False, fun x g => bindT_op κ x g, rfl, by rw [e]; exact h, fun _ h => h.elim, fun v => rfl, e.symm⟩
/-- a relation that stands while others move, and whose steps lead to it, or to what turns nothing ahead of it -/
theorem contsM_upto {A : Type} (O : Ops A) (K : MRel A) (hfew : ∀ w Q M fs κ, K w Q M fs κ → ∀ b, M b → Q b ∧ b < w.heap.size)
    (hkeep : ∀ (w w1 : World) (Q Q' M F : Nat → Prop) fs κ, K w Q M fs κ → Keep F w w1 → (∀ b, Q b → ¬ F b) → (∀ b, b < w.heap.size → Q b → Q' b) → K w1 Q' M fs κ)
    (hstep : ∀ w Q M fs κ, K w Q M fs κ → StepM O (Mix O K) w Q M fs κ) {w : World} {Q M : Nat → Prop} {fs : List Nat} {κ : Int → Tre A} (h : Mix O K w Q M fs κ) : ContsM O w Q M fs κ := by
  refine ⟨Mix O K, ?_, h⟩
  rintro w Q M L κ ⟨B, gs, fs, κ1, Q0, hB1, rfl, h2, hq, h1, rfl⟩
  cases gs with
  | nil =>
    have : (fun v => B (κ1 v)) = fun v => B (retT v) := by
      funext v
      rw [show κ1 v = retT v from h1 v]
    rw [this]
    exact hstep _ _ _ _ _ h2
  | cons f gs =>
    obtain ⟨k0, κ0, c0, _, _⟩ := h1 0
    have hfw := hfew _ _ _ _ _ h2
    refine ⟨hfw, (hq f c0.own.1).1, c0.own.2, fun v w1 hw => ?_⟩
    obtain ⟨k, κ', c, e, hb⟩ := h1 v
    rw [bindT_ret] at e
    refine (c.unfold.2.2 v w1 (hw.mono fun b _ hn h => hn (hq b h).1)).mono ?_
    rintro e2 w2 ⟨n, rfl, g1, g2, g3⟩
    have s1 := hw.size
    have s2 := g1.size
    have hq0 : ∀ b, (Q0 b ∧ b < w.heap.size) ∨ w1.heap.size ≤ b → ((Q b ∧ b < w.heap.size) ∨ w1.heap.size ≤ b) ∧ ¬ M b := fun b hb => by
      rcases hb with hb | hb
      · exact ⟨.inl ⟨(hq b hb.1).1, hb.2⟩, (hq b hb.1).2⟩
      · exact ⟨.inr hb, fun h => by have := (hfw b h).2; omega⟩
    have k12 : Keep (fun _ => False) w1 w2 := Keep.ofBelow g1
    have hC : K w2 (fun b => (Q b ∧ b < w.heap.size) ∨ w1.heap.size ≤ b) M fs (fun v => B (retT v)) := hkeep _ _ _ _ _ _ _ _ (hkeep _ _ _ (fun b => Q b ∧ b < w.heap.size) _ _ _ _ h2 hw (fun b h hn => hn h) (fun b hb h => ⟨h, hb⟩)) k12 (fun _ _ h => h) (fun b _ h => .inl h)
    have hBk : ∀ (gs : List Nat) (T R : Tre A), Behind (ContT O w Q0) gs T R → Behind (ContT O w2 fun b => (Q0 b ∧ b < w.heap.size) ∨ w1.heap.size ≤ b) gs T R := fun gs T R h => (h.keep (Q' := fun b => Q0 b ∧ b < w.heap.size) hw (fun b h hn => hn (hq b h).1) (fun b hb h => ⟨h, hb⟩)).keep k12 (fun _ _ h => h) (fun b _ h => .inl h)
    refine ⟨n, M, rfl, Keep.ofBelow g1, fun _ _ h => h, fun j e => (hq0 j (g3 j e)).1, ?_⟩
    rcases g2 with ⟨u, eu, hd⟩ | ⟨x, g, k1, d, p, rest, g1s, ex, rfl, l1, l2, l3, l4⟩
    · have hbv := hBk _ _ _ (hb v)
      rw [eu] at hbv
      obtain ⟨κ'', e3, h3⟩ := hbv.func
      exact .inl ⟨u, fun u' => B (κ'' u'), hd, ⟨B, gs, fs, κ'', _, hB1, rfl, hC, hq0, h3, rfl⟩, by show B (κ1 v) = _; rw [e, e3]⟩
    · have hbv := hBk _ _ _ (hb v)
      rw [ex] at hbv
      obtain ⟨g', e3, h3⟩ := Behind.op l4 hbv
      refine .inr ⟨x, fun u => B (g' u), k1, d, p, rest, g1s, by show B (κ1 v) = _; rw [e, e3, hB1], rfl, l1, l2.mono fun b _ h => hq0 b h, O.keep l3 (Keep.refl (fun _ => False) w2) (fun _ _ h => h) (fun b _ h => (hq0 b h).1), ⟨B, g1s ++ gs, fs, g', _, hB1, (List.append_assoc _ _ _).symm, hC, hq0, h3, rfl⟩⟩
/-- a task that turns nothing, ahead of what may -/
theorem jm_mix {A : Type} (O : Ops A) (K : MRel A) (B : Tre A → Tre A) (hB1 : ∀ x g, B (opT x g) = opT x fun v => B (g v)) {w : World} {Q Q0 M : Nat → Prop} {n : Option Addr} {fs : List Nat} {T : Tre A} {κ2 : Int → Tre A} (hB2 : ∀ v, B (retT v) = κ2 v) (h2 : K w Q M fs κ2)
    (hq : ∀ b, Q0 b → Q b ∧ ¬ M b) (h1 : TaskF O w Q0 n T) : JM O (Mix O K) w Q M n fs (B T) := by
  have e : (fun v => B (retT v)) = κ2 := funext hB2
  rcases h1 with ⟨u, rfl, hd⟩ | ⟨x, g, k1, d, p, rest, gs, rfl, rfl, l1, l2, l3, l4⟩
  · exact .inl ⟨u, κ2, hd, Mix.of h2, hB2 u⟩
  · exact .inr ⟨x, _, k1, d, p, rest, gs, hB1 x g, rfl, l1, l2.mono fun b _ h => hq b h, O.keep l3 (Keep.refl (fun _ => False) w) (fun _ _ h => h) (fun b _ h => (hq b h).1), ⟨B, gs, fs, g, Q0, hB1, rfl, by rw [e]; exact h2, hq, l4, rfl⟩⟩
theorem contsM_of_mix {A : Type} (O : Ops A) {w : World} {Q M : Nat → Prop} {fs : List Nat} {κ : Int → Tre A} (h : Mix O (ContsM O) w Q M fs κ) : ContsM O w Q M fs κ :=
  contsM_upto O (ContsM O) (fun _ _ _ _ _ h => h.few) (fun _ _ _ _ _ _ _ _ h hk hd hq => h.keep hk hd hq) (fun _ _ _ _ _ h => h.unfold.mono fun _ _ _ _ _ h => Mix.of h) h
theorem jmF_mix {A : Type} (O : Ops A) (B : Tre A → Tre A) (hB1 : ∀ x g, B (opT x g) = opT x fun v => B (g v)) {w : World} {Q Q0 M : Nat → Prop} {n : Option Addr} {fs : List Nat} {T : Tre A} {κ2 : Int → Tre A} (hB2 : ∀ v, B (retT v) = κ2 v) (h2 : ContsM O w Q M fs κ2)
    (hq : ∀ b, Q0 b → Q b ∧ ¬ M b) (h1 : TaskF O w Q0 n T) : JmF O w Q M n fs (B T) :=
  (jm_mix O (ContsM O) B hB1 hB2 h2 hq h1).mono (fun _ _ h => contsM_of_mix O h) (fun _ _ h => h)
theorem jmF_pure {A : Type} (O : Ops A) {w : World} {Q : Nat → Prop} {n : Option Addr} {T : Tre A} (h1 : TaskF O w Q n T) : JmF O w Q (fun _ => False) n [] T :=
  jmF_mix O id (fun _ _ => rfl) (fun v => rfl) (ContsM.nil (fun b h => h.elim)) (fun b h => ⟨h, fun h => h⟩) h1
theorem goon_treeM {A : Type} (O : Ops A) (t : Nat) (n : Option Addr) (d0 p0 r0 : Value) (fs : List Nat) (Q M : Nat → Prop) (R : Tre A) (w : World) (ht : Blk w t 134 #[d0, p0, r0, .int .i64 0]) (hr : TreeO w (fun b => Q b ∧ ¬ M b) r0 fs) (hQ : ∀ k, w.heap.size ≤ k → Q k) (hQt : ¬ Q t) (hn : InQ (fun k => k ≠ t) n) (hJ : JmF O w Q M n fs R) :
    Calls Tryz.prog 87 #[pV t, .pointer n] w fun e w' => e = .returned (.tuple #[]) ∧ Keep (fun k => k = t ∨ M k) w w' ∧ ∃ M2, (∀ x, x < w.heap.size → M2 x → M x) ∧ JmF O w' Q M2 (some ⟨t, 0, none⟩) [] R := by
  have hlt := ht.lt
  have hd : ∀ b, Q b → ¬ (b = t) := fun b hb e => hQt (e ▸ hb)
  refine (goon_mut t n d0 p0 r0 0 fs Q M (fun a n fs M => InQ (fun k => k ≠ t) n ∧ JmF O a Q M n fs R) w ht hr hQ hQt ⟨hn, hJ⟩ ?_ ?_ ?_ ?_).mono ?_
  · rintro a n fs M ⟨_, h⟩
    exact h.few
  · rintro a b n fs M hs ⟨h1, h2⟩ hk
    exact ⟨h1, h2.keep hk hd (fun k e => h1 k e) (fun _ _ h => h)⟩
  · rintro a n fs M ⟨h1, h2⟩
    refine ⟨fun e => h1 t e rfl, ?_⟩
    rcases h2 with ⟨u, κ, g1, g2, e⟩ | ⟨x, g, k, d, p, rest, gs, e, rfl, g1, g2, g3, g4⟩
    · exact .inl ⟨u, g1⟩
    · exact .inr ⟨k, d, p, rest, gs, rfl, g1, g2⟩
  · rintro a n f fs M v hs ⟨h1, h2⟩ hv
    rcases h2 with ⟨u, κ, g1, g2, rfl⟩ | ⟨x, g, k, d, p, rest, gs, e, rfl, g1, g2, g3, g4⟩
    · obtain rfl := hv.val g1
      refine (g2.unfold.2.2.2 _ a (Keep.refl _ a)).mono ?_
      rintro e b ⟨n', M2, rfl, q1, q2, q3, q4⟩
      have hqq : ∀ j, (Q j ∧ j < a.heap.size) ∨ a.heap.size ≤ j → Q j := fun j hj => hj.elim (fun h => h.1) (fun h => hQ j (by omega))
      exact ⟨n', M2, rfl, ⟨fun j e e2 => hQt (e2 ▸ hqq j (q3 j e)), JmF.keep q4 (Keep.refl (fun _ => False) b) (fun _ _ h => h) (fun _ _ h => h) (fun j _ h => hqq j h)⟩, q1, q2⟩
    · exact (hv.live g1).elim
  · rintro e w' ⟨rfl, hk, n', fs', M2, ⟨h1, h2⟩, hm, hp⟩
    refine ⟨rfl, hk, M2, hm, ?_⟩
    rcases hp with ⟨rfl, v, hv, hB⟩ | ⟨k1, d, p, r, g1, j, rfl, hL, hT, hT2, hB⟩
    · rcases h2 with ⟨u, κ, g1, g2, rfl⟩ | ⟨x, g, k, d, p, rest, gs, e, rfl, g1, g2, g3, g4⟩
      · obtain rfl := hv.val g1
        exact .inl ⟨_, κ, .inr ⟨t, rfl, hB⟩, g2, rfl⟩
      · exact (hv.live g1).elim
    · rcases h2 with ⟨u, κ, g1, g2, rfl⟩ | ⟨x, g, k, d', p', rest, gs, rfl, e, q1, q2, q3, q4⟩
      · exact (g1.live hL).elim
      · obtain rfl : k1 = k := by simpa using e
        obtain ⟨rfl, rfl, rfl⟩ := hL.unique q1
        obtain rfl := hT.unique q2
        exact .inr ⟨x, g, t, _, _, j, g1 ++ fs', rfl, rfl, ⟨hB, hL.op⟩, hT2, q3, by rw [List.append_nil]; exact q4⟩
/-- Then: of any task, and a closure of which, with the task, is told when its box is laid -/
theorem thenM_any {A : Type} (O : Ops A) (n : Option Addr) (F : Nat) (caps : Array Value) (R : Tre A) (Q M : Nat → Prop) (w : World) (hn : ∀ j, n = some ⟨j, 0, none⟩ → j < w.heap.size) (hQ : ∀ k, w.heap.size ≤ k → Q k)
    (hJ : ∀ w1 (Q1 : Nat → Prop) f, Below w.heap.size w w1 → Blk w1 f 157 #[cloV F caps] → w.heap.size ≤ f → f < w1.heap.size → Q1 f → (∀ b, b < w.heap.size → Q b → Q1 b) → JmF O w1 Q1 M n [f] R) :
    Calls Tryz.prog 79 #[.pointer n, cloV F caps] w fun e w' => ∃ t M2, e = .returned (pV t) ∧ w.heap.size ≤ t ∧ JmF O w' (fun b => Q b ∧ b ≠ t) M2 (some ⟨t, 0, none⟩) [] R ∧ (∀ x, x < w.heap.size → M2 x → M x) ∧ Keep M w w' := by
  have hmf : ∀ (fn : Fn) (first cap : Array Value) (w : World), (Instr.makeFunc fn first cap).run Tryz.prog w = .ok (.func fn first cap) w := fun _ _ _ _ => rfl
  have HQ := Lib.hid hQ
  have HK := Lib.hid hJ
  have HN := Lib.hid hn
  clear hQ hJ hn
  go_enter Tryz.func79, Tryz.ntmps79
  go_upto_region 1 with fail
  generalize hW : (w.alloc _) = W
  have bW : Below w.heap.size w W := by rw [← hW]; go_grown
  have q0 : Blk W w.heap.size 157 #[cloV F caps] := by rw [← hW]; exact Blk.new w _ _
  clear hW
  go_upto_region 2 with (go_at_call 134; refine (only_any _ _ _).mono ?_; rintro e w2 ⟨lp, rfl, l1, l2, l3⟩)
  have hs2 := l3.size
  have hsW := bW.size
  generalize hW3 : (w2.alloc _) = W3
  have b3 : Below W.heap.size W W3 := by rw [← hW3]; exact l3.alloc (by omega) _
  have s3 : W3.heap.size = w2.heap.size + 1 := by rw [← hW3]; simp
  have qt : Blk W3 w2.heap.size 134 #[.nilFunc, .pointer none, pV lp, .int .i64 0] := by rw [← hW3]; exact Blk.new w2 _ _
  have ql : Blk W3 lp 249 #[.pointer none, .pointer none, cloV 135 #[pV w.heap.size]] := by rw [← hW3]; exact l2.alloc _
  have hlp := l2.lt
  clear hW3
  have bw3 : Below w.heap.size w W3 := bW.trans (b3.mono hsW)
  have qf := q0.below b3 q0.lt
  have hqf := q0.lt
  have J3 := HK.out W3 (fun b => Q b ∧ b ≠ w2.heap.size) w.heap.size bw3 qf (Nat.le_refl _) qf.lt ⟨HQ.out _ (Nat.le_refl _), by omega⟩ (fun b hb h => ⟨h, by omega⟩)
  have HM := Lib.hid (show ∀ b, M b → b < w.heap.size → True from fun _ _ _ => trivial)
  obtain ⟨hml⟩ : Nonempty (Hid (¬ M lp)) := ⟨Lib.hid fun h => by
    have J4 := HK.out W3 (fun b => Q b ∧ b ≠ w2.heap.size ∧ b ≠ lp) w.heap.size bw3 qf (Nat.le_refl _) qf.lt ⟨HQ.out _ (Nat.le_refl _), by omega, by omega⟩ (fun b hb h => ⟨h, by omega, by omega⟩)
    exact (J4.few lp h).1.2.2 rfl⟩
  have HG := Lib.hid (goon_treeM O w2.heap.size n .nilFunc (.pointer none) (pV lp) [w.heap.size] (fun b => Q b ∧ b ≠ w2.heap.size) M R W3
    qt (.inr ⟨0, lp, rfl, .leaf lp _ ⟨⟨HQ.out _ (by omega), by omega⟩, hml.out⟩ ql⟩) (fun j hj => ⟨HQ.out _ (by omega), by omega⟩) (fun h => h.2 rfl)
    (fun j e => by have := HN.out j e; omega) J3)
  have HF := Lib.hid J3.few
  clear qt ql qf J3
  go_wp2_with (go_at_call 87; refine HG.out.mono ?_; rintro e w4 ⟨rfl, k4, M2, hm, hT4⟩)
  go_ret
  refine ⟨w2.heap.size, M2, rfl, by omega, hT4, fun x hx h => hm x (by have := bw3.size; omega) h, (Keep.ofBelow bw3).step k4 (fun i hi h => ?_)⟩
  rcases h with h | h
  · omega
  · exact h
/-- a task of a caller's own, at block t, of the blocks of which Q is said -/
def TkM {A : Type} (O : Ops A) (w : World) (t : Nat) (Q : Nat → Prop) (T : Tre A) : Prop :=
  ∃ Q1 M : Nat → Prop, JmF O w Q1 M (some ⟨t, 0, none⟩) [] T ∧ ¬ Q1 t ∧ (∀ b, Q1 b ∨ b = t → Q b) ∧ ∀ b, Q b → b < w.heap.size
theorem TkM.keep {A : Type} {O : Ops A} {w w1 : World} {t : Nat} {Q F : Nat → Prop} {T : Tre A} (h : TkM O w t Q T) (hk : Keep F w w1) (hn : ∀ b, Q b → ¬ F b) : TkM O w1 t Q T := by
  obtain ⟨Q1, M, h1, h2, h3, h4⟩ := h
  exact ⟨Q1, M, h1.keep hk (fun b hb => hn b (h3 b (.inl hb))) (fun k e => by injection e with e; injection e with e; exact e ▸ hn t (h3 t (.inr rfl))) (fun _ _ h => h), h2, h3, fun b hb => Nat.lt_of_lt_of_le (h4 b hb) hk.size⟩
theorem TkM.lt {A : Type} {O : Ops A} {w : World} {t : Nat} {Q : Nat → Prop} {T : Tre A} (h : TkM O w t Q T) : ∀ b, Q b → b < w.heap.size := by
  obtain ⟨Q1, M, h1, h2, h3, h4⟩ := h
  exact h4
theorem TkM.own {A : Type} {O : Ops A} {w : World} {t : Nat} {Q : Nat → Prop} {T : Tre A} (h : TkM O w t Q T) : Q t := by
  obtain ⟨Q1, M, h1, h2, h3, h4⟩ := h
  exact h3 t (.inr rfl)
theorem TkM.new {A : Type} {O : Ops A} {w' : World} {t : Nat} {Q M : Nat → Prop} {T : Tre A} (h : JmF O w' (fun b => Q b ∧ b ≠ t) M (some ⟨t, 0, none⟩) [] T) (hq : Q t) : TkM O w' t (fun b => Q b ∧ b < w'.heap.size) T :=
  ⟨fun b => (Q b ∧ b ≠ t) ∧ b < w'.heap.size, M, h.keep (Keep.refl (fun _ => False) w') (fun _ _ h => h) (fun _ _ h => h) (fun b hb h => ⟨h, hb⟩), fun h => h.1.2 rfl, fun b hb => by
    rcases hb with hb | rfl
    · exact ⟨hb.1.1, hb.2⟩
    · exact ⟨hq, h.lt⟩, fun b hb => hb.2⟩
theorem TkT.tkM {A : Type} {O : Ops A} {w : World} {t : Nat} {Q : Nat → Prop} {T : Tre A} (h : TkT O w t Q T) : TkM O w t Q T := by
  obtain ⟨Q1, h1, h2, h3, h4⟩ := h
  exact ⟨Q1, _, jmF_pure O h1, h2, h3, h4⟩
theorem TkM.done {A : Type} {O : Ops A} {w : World} {t : Nat} {Q : Nat → Prop} {v : Int} (h : TkM O w t Q (retT v)) : DoneV w (some ⟨t, 0, none⟩) v := by
  obtain ⟨Q1, M, h1, h2, h3, h4⟩ := h
  rcases h1 with ⟨u, κ, g1, g2, e⟩ | ⟨x, κ, k, d, p, rest, fs, e, _⟩
  · obtain rfl := g2.ret
    rw [retT_inj e]; exact g1
  · exact (ret_op e).elim
theorem TkM.live {A : Type} {O : Ops A} {w : World} {t : Nat} {Q : Nat → Prop} {x : A} {κ : Int → Tre A} (h : TkM O w t Q (opT x κ)) :
    ∃ Q1 M : Nat → Prop, ¬ Q1 t ∧ (∀ b, Q1 b ∨ b = t → Q b) ∧ t < w.heap.size ∧ ∃ d p rest fs, Live w t d p rest ∧ TreeO w (fun b => Q1 b ∧ ¬ M b) rest fs ∧ O.is w Q1 x d p ∧ ContsM O w Q1 M fs κ := by
  obtain ⟨Q1, M, h1, h2, h3, h4⟩ := h
  refine ⟨Q1, M, h2, h3, h4 t (h3 t (.inr rfl)), ?_⟩
  rcases h1 with ⟨u, κ', g1, g2, e⟩ | ⟨x', κ', k, d, p, rest, fs, e, e2, g1, g2, g3, g4⟩
  · obtain rfl := g2.ret
    exact (ret_op e.symm).elim
  · obtain ⟨rfl, rfl⟩ := opT_inj e
    injection e2 with e2
    injection e2 with e2
    subst e2
    rw [List.append_nil] at g4
    exact ⟨d, p, rest, fs, g1, g2, g3, g4⟩
theorem tdoneM_ret {A : Type} {O : Ops A} (t : Nat) (Q : Nat → Prop) (v : Int) (w : World) (h : TkM O w t Q (retT v)) : Calls Tryz.prog 38 #[pV t] w fun e w' => e = .returned (.bool true) ∧ w = w' := doneV_done _ v w h.done
theorem tdoneM_op {A : Type} {O : Ops A} (t : Nat) (Q : Nat → Prop) (x : A) (κ : Int → Tre A) (w : World) (h : TkM O w t Q (opT x κ)) : Calls Tryz.prog 38 #[pV t] w fun e w' => e = .returned (.bool false) ∧ w = w' := by
  obtain ⟨_, _, _, _, _, d, p, rest, fs, hL, _⟩ := h.live
  exact live_done t d p rest w hL
theorem tvalueM_ret {A : Type} {O : Ops A} (t : Nat) (Q : Nat → Prop) (v : Int) (w : World) (h : TkM O w t Q (retT v)) : Calls Tryz.prog 25 #[pV t] w fun e w' => e = .returned (.int .i64 v) ∧ w = w' := doneV_value _ v w h.done
theorem tvalueM_op {A : Type} {O : Ops A} (t : Nat) (Q : Nat → Prop) (x : A) (κ : Int → Tre A) (w : World) (h : TkM O w t Q (opT x κ)) : Calls Tryz.prog 25 #[pV t] w fun e w' => e = .returned (.int .i64 0) ∧ w = w' := by
  obtain ⟨_, _, _, _, _, d, p, rest, fs, hL, _⟩ := h.live
  exact value_any t _ _ _ 0 w hL.blk
theorem tstepM_ret {A : Type} {O : Ops A} (t : Nat) (Q : Nat → Prop) (v k : Int) (w : World) (h : TkM O w t Q (retT v)) : Calls Tryz.prog 32 #[pV t, .int .i64 k] w fun e w' => e = .returned (.bool false) ∧ w = w' := step_done _ v k w h.done
/-- a step that does an operation on cells -/
theorem tstepM_op (C P S t : Nat) (Q : Nat → Prop) (x : Itm) (κ : Int → Tre Itm) (m : List Int) (n : Int) (w : World) (h : TkM (cellOps C P) w t Q (opT x κ)) (hC : CellsAt w C S m n) (hk : x.kind < 5) (hQ : ∀ b, Q b → b ≠ C ∧ b ≠ S) (hn : 0 ≤ n ∧ n ≤ 2000000) :
    Calls Tryz.prog 32 #[pV t, .int .i64 0] w fun e w' => e = .returned (.bool true) ∧ (∃ Q', TkM (cellOps C P) w' t Q' (κ (operS m x).2.1) ∧ ∀ b, Q' b → Q b ∨ w.heap.size ≤ b) ∧
      CellsAt w' C S (operS m x).1 (n + countS m x) ∧ Keep (fun b => Q b ∨ ofCells C S b) w w' := by
  obtain ⟨Q1, M, q1, q2, hlt, d, p, rest, fs, hL, hT, hO, hc⟩ := h.live
  have hcq : ∀ b, Q1 b → ¬ ofCells C S b := fun b hb hf => by
    have := hQ b (q2 b (.inl hb))
    rcases hf with hf | hf
    · exact this.1 hf
    · exact this.2 hf
  have htc : ¬ ofCells C S t := fun hf => by
    have := hQ t (q2 t (.inr rfl))
    rcases hf with hf | hf
    · exact this.1 hf
    · exact this.2 hf
  obtain ⟨b, F, caps, rfl, rfl, b1, b2, b3⟩ : ∃ b F caps, d = cloV 280 #[pV b] ∧ p = .pointer none ∧ Q1 b ∧ Blk w b _ #[cloV F caps] ∧ CloAt w C Q1 x F caps := by
    rcases hO with hO | ⟨hO, _⟩ | ⟨hO, _⟩
    · exact hO
    · omega
    · omega
  have hM := hc.few
  refine step_yes t _ _ rest 0 w (fun v' w2 => v' = (operS m x).2.1 ∧ CellsAt w2 C S (operS m x).1 (n + countS m x) ∧ Keep (ofCells C S) w w2)
    (fun w' => (∃ Q', TkM (cellOps C P) w' t Q' (κ (operS m x).2.1) ∧ ∀ b, Q' b → Q b ∨ w.heap.size ≤ b) ∧ CellsAt w' C S (operS m x).1 (n + countS m x) ∧ Keep (fun b => Q b ∨ ofCells C S b) w w') hL ?_ ?_
  · refine opend_do b w _ fun W hb => ?_
    have kW : Keep (fun _ => False) w W := Keep.ofBelow hb
    refine (do6_any C S Q1 m n x b F caps W (b2.below hb b2.lt) (b3.keep kW (fun _ _ h => h) (fun _ _ h => h)) (hC.keep kW (fun h => h) (fun h => h)) hn.1 (by omega)).mono ?_
    rintro e w' ⟨v', rfl, e1, e2, e3⟩
    exact ⟨v', rfl, e1, e2, (Keep.ofBelow hb).trans e3⟩
  · rintro v' w2 w3 k ⟨rfl, hC2, hk2⟩ g1 g2 g3
    have k3 : Keep (ofCells C S) w w3 := hk2.trans (Keep.ofBelow g3)
    have s2 := hk2.size
    have s3 := k3.size
    have hT3 : TreeO w3 (fun b => (Q1 b ∨ w.heap.size ≤ b) ∧ ¬ M b) rest fs := (hT.keep k3 (fun b hb => hcq b hb.1)).mono (fun b _ h => ⟨.inl h.1, h.2⟩)
    have hC3 : ContsM (cellOps C P) w3 (fun b => Q1 b ∨ w.heap.size ≤ b) M fs κ := hc.keep k3 hcq (fun b _ h => .inl h)
    refine (goon_treeM (cellOps C P) t (some ⟨k, 0, none⟩) _ _ rest fs (fun b => Q1 b ∨ w.heap.size ≤ b) M _ w3 (hL.blk.keep k3 htc) hT3 (fun j hj => .inr (by omega)) (fun hh => hh.elim q1 (fun h => by omega)) (fun j e => by injection e with e; injection e with e; omega) (.inl ⟨_, κ, g2, hC3, rfl⟩)).mono ?_
    rintro e w' ⟨rfl, k4, M2, hm2, hT4⟩
    have s4 := k4.size
    have k5 : Keep (fun b => Q b ∨ ofCells C S b) w w' := by
      refine (k3.mono (fun _ _ h => .inr h)).step k4 (fun i hi h => .inl ?_)
      rcases h with h | h
      · exact q2 i (.inr h)
      · exact q2 i (.inl (hM i h).1)
    refine ⟨rfl, ⟨fun b => (Q b ∨ w.heap.size ≤ b) ∧ b < w'.heap.size, ⟨fun b => (Q1 b ∨ w.heap.size ≤ b) ∧ b < w'.heap.size, M2, hT4.keep (Keep.refl (fun _ => False) w') (fun _ _ h => h) (fun _ _ h => h) (fun b hb hq => ⟨hq, hb⟩), fun hh => ?_, fun b hb => ?_, fun b hb => hb.2⟩, fun b hb => hb.1⟩, ?_, k5⟩
    · rcases hh.1 with hh | hh
      · exact q1 hh
      · omega
    · rcases hb with ⟨hb | hb, hlt2⟩ | rfl
      · exact ⟨.inl (q2 b (.inl hb)), hlt2⟩
      · exact ⟨.inr hb, hlt2⟩
      · exact ⟨.inl (q2 b (.inr rfl)), by omega⟩
    · have hC4 := hC2.keep (Keep.ofBelow (Q := fun _ => False) g3) (fun h => h) (fun h => h)
      refine hC4.keep k4 (fun e => ?_) (fun e => ?_)
      · rcases e with e | e
        · exact htc (.inl e.symm)
        · exact hcq C (hM C e).1 (.inl rfl)
      · rcases e with e | e
        · exact htc (.inr e.symm)
        · exact hcq S (hM S e).1 (.inr rfl)
end Go.Proofs.YtmknnjjmmfbppaaGreat
