/- Package task: goOn. -/
import Derived.Test.YtmknnjjmmfbppaaGreatMgBegAT
import Derived.Deep.CutBlock
import Derived.Test.YtmknnjjmmfbppaaGreatMgBegAE
namespace Go.Proofs.YtmknnjjmmfbppaaGreat
open Go.ChangeShapes Go.WideShapes Go.ChangeAt Go.RowKit
set_option linter.unusedVariables false
set_option maxRecDepth 100000
set_option linter.unusedSimpArgs false
theorem Tree.unique {w : World} {Q Q' : Nat → Prop} {n m p : Nat} {fs gs : List Nat} (h : Tree w Q n p fs) (k : Tree w Q' m p gs) : fs = gs := by
  induction h generalizing m gs with
  | leaf p b h1 h2 =>
    cases k with
    | leaf p b' k1 k2 =>
      have e := (show w.heap[p]? = _ from h2).symm.trans k2
      simp [pV, cloV] at e
      simp [e]
    | node n m p a b' fs gs k1 k2 k3 k4 =>
      have e := (show w.heap[p]? = _ from h2).symm.trans k2
      simp [pV, cloV] at e
  | node n m p a b fs gs h1 h2 h3 h4 i3 i4 =>
    cases k with
    | leaf p b' k1 k2 =>
      have e := (show w.heap[p]? = _ from h2).symm.trans k2
      simp [pV, cloV] at e
    | node n m p a' b' fs' gs' k1 k2 k3 k4 =>
      have e := (show w.heap[p]? = _ from h2).symm.trans k2
      simp [pV, cloV] at e
      obtain ⟨rfl, rfl⟩ := e
      rw [i3 k3, i4 k4]
theorem TreeO.unique {w : World} {Q Q' : Nat → Prop} {v : Value} {fs gs : List Nat} (h : TreeO w Q v fs) (k : TreeO w Q' v gs) : fs = gs := by
  rcases h with ⟨rfl, rfl⟩ | ⟨n, p, rfl, h⟩
  · rcases k with ⟨_, rfl⟩ | ⟨m, q, e, k⟩
    · rfl
    · cases e
  · rcases k with ⟨e, _⟩ | ⟨m, q, e, k⟩
    · cases e
    · simp [pV] at e
      subst e
      exact h.unique k
/-- a task that is done, or none -/
def DoneV (w : World) (n : Option Addr) (v : Int) : Prop := (n = none ∧ v = 0) ∨ ∃ k, n = some ⟨k, 0, none⟩ ∧ Blk w k 134 #[.nilFunc, .pointer none, .pointer none, .int .i64 v]
theorem DoneV.keep {w w1 : World} {n : Option Addr} {v : Int} {F : Nat → Prop} (h : DoneV w n v) (hk : Keep F w w1) (hn : ∀ k, n = some ⟨k, 0, none⟩ → ¬ F k) : DoneV w1 n v := by
  rcases h with h | ⟨k, rfl, h⟩
  · exact .inl h
  · exact .inr ⟨k, rfl, h.keep hk (hn k rfl)⟩
theorem doneV_done (n : Option Addr) (v : Int) (w : World) (h : DoneV w n v) : Calls Tryz.prog 38 #[.pointer n] w fun e w' => e = .returned (.bool true) ∧ w = w' := by
  rcases h with ⟨rfl, _⟩ | ⟨k, rfl, h⟩
  · exact done_nil w
  · exact done_yes k _ _ w h
theorem doneV_value (n : Option Addr) (v : Int) (w : World) (h : DoneV w n v) : Calls Tryz.prog 25 #[.pointer n] w fun e w' => e = .returned (.int .i64 v) ∧ w = w' := by
  rcases h with ⟨rfl, rfl⟩ | ⟨k, rfl, h⟩
  · exact value_nil w
  · exact value_any k _ _ _ v w h
/-- one that needs a step -/
structure Live (w : World) (k : Nat) (d p r : Value) : Prop where
  blk : Blk w k 134 #[d, p, r, .int .i64 0]
  op : (∃ F caps, d = cloV F caps ∧ p = .pointer none) ∨ ∃ q, d = .nilFunc ∧ p = pV q
theorem Live.keep {w w1 : World} {k : Nat} {d p r : Value} {F : Nat → Prop} (h : Live w k d p r) (hk : Keep F w w1) (hn : ¬ F k) : Live w1 k d p r := ⟨h.blk.keep hk hn, h.op⟩
theorem live_done (k : Nat) (d p r : Value) (w : World) (h : Live w k d p r) : Calls Tryz.prog 38 #[pV k] w fun e w' => e = .returned (.bool false) ∧ w = w' := by
  rcases h.op with ⟨F, caps, rfl, rfl⟩ | ⟨q, rfl, rfl⟩
  · exact done_op k F caps _ _ _ w h.blk
  · exact done_park k q _ _ w h.blk
set_option maxHeartbeats 2000000 in
theorem goon_ptr (t : Nat) (n : Option Addr) (d0 p0 r0 : Value) (v0 : Int) (fs : List Nat) (Q : Nat → Prop) (J : World → Option Addr → List Nat → Prop) (w : World)
    (ht : Blk w t 134 #[d0, p0, r0, .int .i64 v0]) (hr : TreeO w Q r0 fs) (hQ : ∀ k, w.heap.size ≤ k → Q k) (hQt : ¬ Q t) (hJ : J w n fs)
    (jk : ∀ a b n fs, w.heap.size ≤ a.heap.size → J a n fs → Keep (fun k => k = t) a b → J b n fs)
    (jv : ∀ a n fs, J a n fs → n ≠ some ⟨t, 0, none⟩ ∧ ((∃ v, DoneV a n v) ∨ ∃ k d p r gs, n = some ⟨k, 0, none⟩ ∧ Live a k d p r ∧ TreeO a Q r gs))
    (jn : ∀ a n f fs v, w.heap.size ≤ a.heap.size → J a n (f :: fs) → DoneV a n v → Calls Tryz.prog 135 #[.int .i64 v, pV f] a fun e b => ∃ k, e = .returned (.pointer k) ∧ J b k fs ∧ Below a.heap.size a b) :
    Calls Tryz.prog 87 #[pV t, .pointer n] w fun e w' => e = .returned (.tuple #[]) ∧ Keep (fun k => k = t) w w' ∧ ∃ n fs, J w' n fs ∧
      ((fs = [] ∧ ∃ v, DoneV w' n v ∧ Blk w' t 134 #[.nilFunc, .pointer none, .pointer none, .int .i64 v]) ∨
       ∃ k d p r gs j, n = some ⟨k, 0, none⟩ ∧ Live w' k d p r ∧ TreeO w' Q r gs ∧ TreeO w' Q j (gs ++ fs) ∧ Blk w' t 134 #[d, p, j, .int .i64 v0]) := by
  have HT := Lib.hid ht
  have HR := Lib.hid hr
  have HQ := Lib.hid hQ
  have HJ := Lib.hid hJ
  have JK := Lib.hid jk
  have JV := Lib.hid jv
  have JN := Lib.hid jn
  have HQt := Lib.hid hQt
  clear ht hr hQ hJ jk jv jn hQt
  go_enter Tryz.func87, Tryz.ntmps87
  go_wp2_with fail
  go_loopg [1] fs.length (fun k nV wr => ∃ n r gs, nV = .pointer n ∧ k = gs.length ∧ Blk wr t 134 #[d0, p0, r, .int .i64 v0] ∧ TreeO wr Q r gs ∧ J wr n gs ∧ Keep (fun k => k = t) w wr)
  case atStart => exact ⟨n, r0, fs, rfl, rfl, HT.out, HR.out, HJ.out, Keep.refl _ _⟩
  case round =>
    obtain ⟨n, r, gs, rfl, hk0, hB, hT, hj, hK⟩ := hrel
    have hsz := hK.size
    obtain ⟨hne, hv | hv⟩ := JV.out wr n gs hj
    · obtain ⟨v, hv⟩ := hv
      have hd := Lib.hid (doneV_done n v wr hv)
      have hval := Lib.hid (doneV_value n v wr hv)
      have HB := Lib.hid hB
      have HV := Lib.hid hv
      have Hj := Lib.hid hj
      have Hn := Lib.hid hne
      have c2 : wr.cell? ⟨t, 2, none⟩ = some r := hB.cell 2 _ rfl
      have c0 : wr.cell? ⟨t, 0, none⟩ = some d0 := hB.cell 0 _ rfl
      have c1 : wr.cell? ⟨t, 1, none⟩ = some p0 := hB.cell 1 _ rfl
      have c3 : wr.cell? ⟨t, 3, none⟩ = some (.int .i64 v0) := hB.cell 3 _ rfl
      have z0 := hB.free 0
      have z1 := hB.free 1
      have z2 := hB.free 2
      have z3 := hB.free 3
      rcases hT with ⟨rfl, rfl⟩ | ⟨m, q, rfl, hT⟩
      · clear hB hv hj hk0 hne
        go_wp2_with (first | (go_at_call 38; refine hd.out.mono ?_; rintro e w2 ⟨rfl, rfl⟩) | (go_at_call 25; refine hval.out.mono ?_; rintro e w2 ⟨rfl, rfl⟩))
        have kW : Keep (fun k => k = t) wr (((wr.setCell ⟨t, 0, none⟩ .nilFunc).setCell ⟨t, 1, none⟩ (.pointer none)).setCell ⟨t, 3, none⟩ (.int .i64 v)) := (((Keep.refl (fun k => k = t) wr).set (p := ⟨t, 0, none⟩) (fun _ => rfl) _).set (p := ⟨t, 1, none⟩) (fun _ => rfl) _).set (p := ⟨t, 3, none⟩) (fun _ => rfl) _
        have bW := ((HB.out.set 0 .nilFunc).set 1 (.pointer none)).set 3 (.int .i64 v)
        refine bodyPost_ret (v := .tuple #[]) (by simp [results, Tryz.results87, go_sem]) rfl ?_
        refine ⟨rfl, hK.trans kW, n, [], JK.out _ _ _ _ hsz Hj.out kW, .inl ⟨rfl, v, HV.out.keep kW (fun k e hk => Hn.out (by rw [e, hk])), bW⟩⟩
      · cases gs with
        | nil => exact absurd rfl hT.ne
        | cons f gs =>
          have HF := Lib.hid (first_any m q f gs Q wr hT (fun k hk => HQ.out k (by omega)))
          clear hB hv hj hne hT
          go_upto_region 3 with (first | (go_at_call 38; refine hd.out.mono ?_; rintro e w2 ⟨rfl, rfl⟩) | (go_at_call 160; refine HF.out.mono ?_; rintro e w3 ⟨rest, rfl, hrest, hw3⟩; obtain ⟨ru, rfl⟩ := hrest.is; clear c0 c1 c2 c3 z0 z1 z2 z3; have z2 := (HB.out.below hw3 HB.out.lt).free 2; have c2 : w3.cell? ⟨t, 2, none⟩ = some (pV q) := (HB.out.below hw3 HB.out.lt).cell 2 _ rfl))
          have kW : Keep (fun k => k = t) wr (w3.setCell ⟨t, 2, none⟩ (.pointer ru)) := (Keep.ofBelow (Q := fun k => k = t) hw3).set (p := ⟨t, 2, none⟩) (fun _ => rfl) _
          have bW := (HB.out.below hw3 HB.out.lt).set 2 (.pointer ru)
          have hv4 := HV.out.keep kW (fun k e hk => Hn.out (by rw [e, hk]))
          have hj4 := JK.out _ _ _ _ hsz Hj.out kW
          have hr4 : TreeO (w3.setCell ⟨t, 2, none⟩ (.pointer ru)) Q (.pointer ru) gs := hrest.keep ((Keep.refl (fun k => k = t) w3).set (p := ⟨t, 2, none⟩) (fun _ => rfl) (.pointer ru)) (fun b hb hk => HQt.out (hk ▸ hb))
          have hs4 : w.heap.size ≤ (w3.setCell ⟨t, 2, none⟩ (.pointer ru)).heap.size := Nat.le_trans hsz kW.size
          clear c2 z2
          generalize w3.setCell ⟨t, 2, none⟩ (.pointer ru) = w4 at *
          have hval4 := Lib.hid (doneV_value n v w4 hv4)
          have hcall := Lib.hid (JN.out w4 n f gs v hs4 hj4 hv4)
          have HV4 := Lib.hid hr4
          have hk5 : gk = gs.length + 1 := hk0
          clear hv4 hj4 hr4 hk0 hrest
          go_wp2_with (first | (go_at_call 25; refine hval4.out.mono ?_; rintro e w5 ⟨rfl, rfl⟩) | (go_at_call 135; refine hcall.out.mono ?_; rintro e w6 ⟨k6, rfl, hj6, hw6⟩))
          go_roundg gs.length
          case measure => omega
          case rel => exact ⟨_, _, gs, rfl, rfl, bW.below hw6 bW.lt, HV4.out.keep (Keep.ofBelow (Q := fun _ => False) hw6) (fun _ _ h => h), hj6, hK.trans (kW.trans (Keep.ofBelow hw6))⟩
    · obtain ⟨k1, d, p, r1, g1, rfl, hL, hT1⟩ := hv
      have hd := Lib.hid (live_done k1 d p r1 wr hL)
      have hne1 : k1 ≠ t := fun e => hne (by rw [e])
      have a0 : wr.cell? ⟨k1, 0, none⟩ = some d := hL.blk.cell 0 _ rfl
      have a1 : wr.cell? ⟨k1, 1, none⟩ = some p := hL.blk.cell 1 _ rfl
      have a2 : wr.cell? ⟨k1, 2, none⟩ = some r1 := hL.blk.cell 2 _ rfl
      have c2 : wr.cell? ⟨t, 2, none⟩ = some r := hB.cell 2 _ rfl
      have hjn := Lib.hid fun W (hk : Keep (fun k => k = t) wr W) (ht2 : TreeO W Q r gs) => join_trees r1 r g1 gs Q W (hT1.keep hk fun b hb e => HQt.out (e ▸ hb)) ht2 (fun k hk2 => HQ.out k (by have := hk.size; omega))
      have hjl := Lib.hid fun W (hk : Keep (fun k => k = t) wr W) => hL.keep hk hne1
      have HTr := Lib.hid (show TreeO wr.drew Q r gs from hT.keep ((Keep.refl (fun _ => False) wr).drew) (fun _ _ h => h))
      have HBr : Hid (Blk wr.drew t 134 #[d0, p0, r, .int .i64 v0]) := Lib.hid hB
      have HL := Lib.hid hL
      have Hj := Lib.hid hj
      have ho := hL.op
      have hr1 := hT1.ptr
      have hr := hT.ptr
      have HT1 := Lib.hid hT1
      clear hB hj hL hT hT1 hk0
      go_upto_region 6 with (go_at_call 38; refine hd.out.mono ?_; rintro e w2 ⟨rfl, rfl⟩)
      have k0 : Keep (fun k => k = t) wr wr.drew := (Keep.refl _ _).drew
      have q2 : wr.drew.cell? ⟨t, 2, none⟩ = some r := HBr.out.cell 2 _ rfl
      obtain ⟨ru, rfl⟩ : ∃ u, r = .pointer u := by rcases hr with rfl | ⟨q, rfl⟩ <;> exact ⟨_, rfl⟩
      obtain ⟨r1u, rfl⟩ : ∃ u, r1 = .pointer u := by rcases hr1 with rfl | ⟨q, rfl⟩ <;> exact ⟨_, rfl⟩
      clear hr hr1 a0 a1 a2 c2 hd
      rcases ho with ⟨F, caps, rfl, rfl⟩ | ⟨q, rfl, rfl⟩
      · have SK := Lib.hid (show ∀ W, Keep (fun k => k = t) wr W → (fun W => (W.cell? ⟨k1, 0, none⟩ = some (cloV F caps) ∧ W.cell? ⟨k1, 1, none⟩ = some (.pointer none) ∧ W.cell? ⟨k1, 2, none⟩ = some (.pointer r1u))) W from fun W hk => ⟨(hjl.out W hk).blk.cell 0 _ rfl, (hjl.out W hk).blk.cell 1 _ rfl, (hjl.out W hk).blk.cell 2 _ rfl⟩)
        refine wp_region_held_drew (S := (fun W => (W.cell? ⟨k1, 0, none⟩ = some (cloV F caps) ∧ W.cell? ⟨k1, 1, none⟩ = some (.pointer none) ∧ W.cell? ⟨k1, 2, none⟩ = some (.pointer r1u)))) (by kernel_rfl) (SK.out _ k0) (fun hHeld => ?_)
        refine wpAnyH_take (i := 0) (oi := _) (v := ?_) rfl (by kernel_rfl) (by kernel_rfl) (by kernel_rfl) (fun _ _ _ h => h) (Or.inl ⟨by rfl, ?_⟩) (by assumption) ?_
        rotate_left
        · intro w hSw; (try dsimp only at hSw); go_simp; try with_reducible rfl
        (try simp only [Act.put, List.setIfInBounds_toArray, List.set_cons_zero, List.set_cons_succ])
        refine wpAnyH_take (i := 1) (oi := _) (v := ?_) rfl (by kernel_rfl) (by kernel_rfl) (by kernel_rfl) (fun _ _ _ h => h) (Or.inl ⟨by rfl, ?_⟩) (by assumption) ?_
        rotate_left
        · intro w hSw; (try dsimp only at hSw); go_simp; try with_reducible rfl
        (try simp only [Act.put, List.setIfInBounds_toArray, List.set_cons_zero, List.set_cons_succ])
        refine wpAnyH_take (i := 2) (oi := _) (v := ?_) rfl (by kernel_rfl) (by kernel_rfl) (by kernel_rfl) (fun _ _ _ h => h) (Or.inl ⟨by rfl, ?_⟩) (by assumption) ?_
        rotate_left
        · intro w hSw; (try dsimp only at hSw); go_simp; try with_reducible rfl
        (try simp only [Act.put, List.setIfInBounds_toArray, List.set_cons_zero, List.set_cons_succ])
        refine wpAnyH_take (i := 3) (oi := _) (v := ?_) rfl (by kernel_rfl) (by kernel_rfl) (by kernel_rfl) (fun _ _ _ h => h) (Or.inl ⟨by rfl, ?_⟩) (by assumption) ?_
        rotate_left
        · intro w hSw; (try dsimp only at hSw); go_simp; try with_reducible rfl
        (try simp only [Act.put, List.setIfInBounds_toArray, List.set_cons_zero, List.set_cons_succ])
        refine wpAnyH_take (i := 4) (oi := _) (v := ?_) rfl (by kernel_rfl) (by kernel_rfl) (by kernel_rfl) (fun _ _ _ h => h) (Or.inl ⟨by rfl, ?_⟩) (by assumption) ?_
        rotate_left
        · intro w hSw; (try dsimp only at hSw); go_simp; try with_reducible rfl
        (try simp only [Act.put, List.setIfInBounds_toArray, List.set_cons_zero, List.set_cons_succ])
        refine wpAnyH_take (i := 5) (oi := _) (v := ?_) rfl (by kernel_rfl) (by kernel_rfl) (by kernel_rfl) (fun _ _ _ h => h) (Or.inl ⟨by rfl, ?_⟩) (by assumption) ?_
        rotate_left
        · intro w hSw; (try dsimp only at hSw); go_simp; try with_reducible rfl
        (try simp only [Act.put, List.setIfInBounds_toArray, List.set_cons_zero, List.set_cons_succ])
        refine wpAnyH_take (i := 6) (oi := _) (v := ?_) rfl (by kernel_rfl) (by kernel_rfl) (by kernel_rfl) (fun _ _ _ h => h) (Or.inl ⟨by rfl, ?_⟩) (by assumption) ?_
        rotate_left
        · intro w hSw; (try dsimp only at hSw); go_simp; try with_reducible rfl
        (try simp only [Act.put, List.setIfInBounds_toArray, List.set_cons_zero, List.set_cons_succ])
        refine wpAnyH_take (i := 7) (oi := _) (v := ?_) rfl (by kernel_rfl) (by kernel_rfl) (by kernel_rfl) (fun _ _ _ h => h) (Or.inl ⟨by rfl, ?_⟩) (by assumption) ?_
        rotate_left
        · intro w hSw; (try dsimp only at hSw); go_simp; try with_reducible rfl
        (try simp only [Act.put, List.setIfInBounds_toArray, List.set_cons_zero, List.set_cons_succ])
        refine wpAnyH_take (i := 8) (oi := _) (v := ?_) rfl (by kernel_rfl) (by kernel_rfl) (by kernel_rfl) (fun _ _ _ h => h) (Or.inl ⟨by rfl, ?_⟩) (by assumption) ?_
        rotate_left
        · intro w hSw; (try dsimp only at hSw); go_simp; try with_reducible rfl
        (try simp only [Act.put, List.setIfInBounds_toArray, List.set_cons_zero, List.set_cons_succ])
        refine wpAnyH_take (i := 9) (oi := _) (v := ?_) rfl (by kernel_rfl) (by kernel_rfl) (by kernel_rfl) (fun _ _ _ h => h) (Or.inl ⟨by rfl, ?_⟩) (by assumption) ?_
        rotate_left
        · intro w hSw; (try dsimp only at hSw); go_simp; try with_reducible rfl
        (try simp only [Act.put, List.setIfInBounds_toArray, List.set_cons_zero, List.set_cons_succ])
        refine wpAnyH_take (i := 10) (oi := _) (v := ?_) rfl (by kernel_rfl) (by kernel_rfl) (by kernel_rfl) (fun _ _ _ h => h) (Or.inl ⟨by rfl, ?_⟩) (by assumption) ?_
        rotate_left
        · intro w hSw; (try dsimp only at hSw); go_simp; try with_reducible rfl
        (try simp only [Act.put, List.setIfInBounds_toArray, List.set_cons_zero, List.set_cons_succ])
        refine wpAnyH_take (i := 11) (oi := _) (v := ?_) rfl (by kernel_rfl) (by kernel_rfl) (by kernel_rfl) (fun _ _ _ h => h) (Or.inl ⟨by rfl, ?_⟩) (by assumption) ?_
        rotate_left
        · intro w hSw; (try dsimp only at hSw); go_simp; try with_reducible rfl
        (try simp only [Act.put, List.setIfInBounds_toArray, List.set_cons_zero, List.set_cons_succ])
        refine wpAnyH_take (i := 12) (oi := _) (v := ?_) rfl (by kernel_rfl) (by kernel_rfl) (by kernel_rfl) (fun _ _ _ h => h) (Or.inl ⟨by rfl, ?_⟩) (by assumption) ?_
        rotate_left
        · intro w hSw; (try dsimp only at hSw); go_simp; try with_reducible rfl
        (try simp only [Act.put, List.setIfInBounds_toArray, List.set_cons_zero, List.set_cons_succ])
        refine wpAnyH_ready (rs := [13]) (by kernel_rfl) (by simp) ?_
        refine AllReadyH.cons rfl (fun K hK => ?_) AllReadyH.nil
        go_simp
        go_wp2_with fail
        refine hK.out _ _ (SK.out _ k0) (fun hHeld => ?_)
        clear hK K
        (try dsimp only [Act.put]); (try simp only [Act.put, List.setIfInBounds_toArray, List.set_cons_zero, List.set_cons_succ])
        refine wpAnyH_ready (rs := [14]) (by kernel_rfl) (by simp) ?_
        refine AllReadyH.cons rfl (fun K hK => ?_) AllReadyH.nil
        go_simp
        go_at_call 161
        refine (hjn.out _ k0 HTr.out).mono ?_
        rintro e w3 ⟨j, rfl, hjt, hw3⟩
        obtain ⟨ju, rfl⟩ := hjt.is
        have k3 := k0.trans (Keep.ofBelow (Q := fun k => k = t) hw3)
        have B3 := HBr.out.below hw3 HBr.out.lt
        clear q2
        go_wp2_with fail
        refine hK.out _ _ (SK.out _ k3) (fun hHeld => ?_)
        clear hK K
        (try dsimp only [Act.put]); (try simp only [Act.put, List.setIfInBounds_toArray, List.set_cons_zero, List.set_cons_succ])
        have q0 : w3.cell? ⟨t, 0, none⟩ = some d0 := B3.cell 0 _ rfl
        have q1 : w3.cell? ⟨t, 1, none⟩ = some p0 := B3.cell 1 _ rfl
        have z0 := B3.free 0
        have z1 := B3.free 1
        refine wpAnyH_take (i := 15) (oi := _) (v := ?_) rfl (by kernel_rfl) (by kernel_rfl) (by kernel_rfl) (fun _ _ _ h => h) (Or.inl ⟨by rfl, ?_⟩) (by assumption) ?_
        rotate_left
        · intro w hSw; (try dsimp only at hSw); go_simp; try with_reducible rfl
        (try simp only [Act.put, List.setIfInBounds_toArray, List.set_cons_zero, List.set_cons_succ])
        refine wpAnyH_take (i := 16) (oi := _) (v := ?_) rfl (by kernel_rfl) (by kernel_rfl) (by kernel_rfl) (fun _ _ _ h => h) (Or.inl ⟨by rfl, ?_⟩) (by assumption) ?_
        rotate_left
        · intro w hSw; (try dsimp only at hSw); go_simp; try with_reducible rfl
        (try simp only [Act.put, List.setIfInBounds_toArray, List.set_cons_zero, List.set_cons_succ])
        have k4 : Keep (fun k => k = t) wr ((w3.setCell ⟨t, 0, none⟩ (cloV F caps)).setCell ⟨t, 1, none⟩ (.pointer none)) := (k3.set (p := ⟨t, 0, none⟩) (fun _ => rfl) _).set (p := ⟨t, 1, none⟩) (fun _ => rfl) _
        refine wpAnyH_ready (rs := [17]) (by kernel_rfl) (by simp) ?_
        refine AllReadyH.cons rfl (fun K hK => ?_) AllReadyH.nil
        go_simp
        go_wp2_with fail
        refine hK.out _ _ (SK.out _ k4) (fun hHeld => ?_)
        clear hK K
        (try dsimp only [Act.put]); (try simp only [Act.put, List.setIfInBounds_toArray, List.set_cons_zero, List.set_cons_succ])
        have B4 := (B3.set 0 (cloV F caps)).set 1 (.pointer none)
        have hjt4 : TreeO ((w3.setCell ⟨t, 0, none⟩ (cloV F caps)).setCell ⟨t, 1, none⟩ (.pointer none)) Q (.pointer ju) (g1 ++ gs) := hjt.keep (((Keep.refl (fun k => k = t) w3).set (p := ⟨t, 0, none⟩) (fun _ => rfl) _).set (p := ⟨t, 1, none⟩) (fun _ => rfl) _) (fun b hb e => HQt.out (e ▸ hb))
        clear q0 q1 z0 z1 hHeld
        generalize ((w3.setCell ⟨t, 0, none⟩ (cloV F caps)).setCell ⟨t, 1, none⟩ (.pointer none)) = w4 at *
        have hHeld := SK.out _ k4
        have q2 : w4.cell? ⟨t, 2, none⟩ = some (.pointer ru) := B4.cell 2 _ rfl
        have z2 := B4.free 2
        have k5 : Keep (fun k => k = t) wr (w4.setCell ⟨t, 2, none⟩ (.pointer ju)) := k4.set (p := ⟨t, 2, none⟩) (fun _ => rfl) _
        refine wpAnyH_take (i := 18) (oi := _) (v := ?_) rfl (by kernel_rfl) (by kernel_rfl) (by kernel_rfl) (fun _ _ _ h => h) (Or.inl ⟨by rfl, ?_⟩) (by assumption) ?_
        rotate_left
        · intro w hSw; (try dsimp only at hSw); go_simp; try with_reducible rfl
        (try simp only [Act.put, List.setIfInBounds_toArray, List.set_cons_zero, List.set_cons_succ])
        refine wpAnyH_take (i := 19) (oi := _) (v := ?_) rfl (by kernel_rfl) (by kernel_rfl) (by kernel_rfl) (fun _ _ _ h => h) (Or.inl ⟨by rfl, ?_⟩) (by assumption) ?_
        rotate_left
        · intro w hSw; (try dsimp only at hSw); go_simp; try with_reducible rfl
        (try simp only [Act.put, List.setIfInBounds_toArray, List.set_cons_zero, List.set_cons_succ])
        refine wpAnyH_ready (rs := [20]) (by kernel_rfl) (by simp) ?_
        refine AllReadyH.cons rfl (fun K hK => ?_) AllReadyH.nil
        go_simp
        go_wp2_with fail
        refine hK.out _ _ (SK.out _ k5) (fun hHeld => ?_)
        clear hK K
        (try dsimp only [Act.put]); (try simp only [Act.put, List.setIfInBounds_toArray, List.set_cons_zero, List.set_cons_succ])
        refine wpAnyH_done (by kernel_rfl) ?_ _
        have bW := B4.set 2 (.pointer ju)
        have k6 : Keep (fun k => k = t) w4 (w4.setCell ⟨t, 2, none⟩ (.pointer ju)) := (Keep.refl (fun k => k = t) w4).set (p := ⟨t, 2, none⟩) (fun _ => rfl) _
        go_end0
        refine ⟨rfl, hK.trans k5, some ⟨k1, 0, none⟩, gs, JK.out _ _ _ _ hsz Hj.out k5, .inr ⟨k1, _, _, _, g1, _, rfl, hjl.out _ k5, HT1.out.keep k5 (fun b hb e => HQt.out (e ▸ hb)), hjt4.keep k6 (fun b hb e => HQt.out (e ▸ hb)), bW⟩⟩
      · have SK := Lib.hid (show ∀ W, Keep (fun k => k = t) wr W → (fun W => (W.cell? ⟨k1, 0, none⟩ = some (.nilFunc) ∧ W.cell? ⟨k1, 1, none⟩ = some (pV q) ∧ W.cell? ⟨k1, 2, none⟩ = some (.pointer r1u))) W from fun W hk => ⟨(hjl.out W hk).blk.cell 0 _ rfl, (hjl.out W hk).blk.cell 1 _ rfl, (hjl.out W hk).blk.cell 2 _ rfl⟩)
        refine wp_region_held_drew (S := (fun W => (W.cell? ⟨k1, 0, none⟩ = some (.nilFunc) ∧ W.cell? ⟨k1, 1, none⟩ = some (pV q) ∧ W.cell? ⟨k1, 2, none⟩ = some (.pointer r1u)))) (by kernel_rfl) (SK.out _ k0) (fun hHeld => ?_)
        refine wpAnyH_take (i := 0) (oi := _) (v := ?_) rfl (by kernel_rfl) (by kernel_rfl) (by kernel_rfl) (fun _ _ _ h => h) (Or.inl ⟨by rfl, ?_⟩) (by assumption) ?_
        rotate_left
        · intro w hSw; (try dsimp only at hSw); go_simp; try with_reducible rfl
        (try simp only [Act.put, List.setIfInBounds_toArray, List.set_cons_zero, List.set_cons_succ])
        refine wpAnyH_take (i := 1) (oi := _) (v := ?_) rfl (by kernel_rfl) (by kernel_rfl) (by kernel_rfl) (fun _ _ _ h => h) (Or.inl ⟨by rfl, ?_⟩) (by assumption) ?_
        rotate_left
        · intro w hSw; (try dsimp only at hSw); go_simp; try with_reducible rfl
        (try simp only [Act.put, List.setIfInBounds_toArray, List.set_cons_zero, List.set_cons_succ])
        refine wpAnyH_take (i := 2) (oi := _) (v := ?_) rfl (by kernel_rfl) (by kernel_rfl) (by kernel_rfl) (fun _ _ _ h => h) (Or.inl ⟨by rfl, ?_⟩) (by assumption) ?_
        rotate_left
        · intro w hSw; (try dsimp only at hSw); go_simp; try with_reducible rfl
        (try simp only [Act.put, List.setIfInBounds_toArray, List.set_cons_zero, List.set_cons_succ])
        refine wpAnyH_take (i := 3) (oi := _) (v := ?_) rfl (by kernel_rfl) (by kernel_rfl) (by kernel_rfl) (fun _ _ _ h => h) (Or.inl ⟨by rfl, ?_⟩) (by assumption) ?_
        rotate_left
        · intro w hSw; (try dsimp only at hSw); go_simp; try with_reducible rfl
        (try simp only [Act.put, List.setIfInBounds_toArray, List.set_cons_zero, List.set_cons_succ])
        refine wpAnyH_take (i := 4) (oi := _) (v := ?_) rfl (by kernel_rfl) (by kernel_rfl) (by kernel_rfl) (fun _ _ _ h => h) (Or.inl ⟨by rfl, ?_⟩) (by assumption) ?_
        rotate_left
        · intro w hSw; (try dsimp only at hSw); go_simp; try with_reducible rfl
        (try simp only [Act.put, List.setIfInBounds_toArray, List.set_cons_zero, List.set_cons_succ])
        refine wpAnyH_take (i := 5) (oi := _) (v := ?_) rfl (by kernel_rfl) (by kernel_rfl) (by kernel_rfl) (fun _ _ _ h => h) (Or.inl ⟨by rfl, ?_⟩) (by assumption) ?_
        rotate_left
        · intro w hSw; (try dsimp only at hSw); go_simp; try with_reducible rfl
        (try simp only [Act.put, List.setIfInBounds_toArray, List.set_cons_zero, List.set_cons_succ])
        refine wpAnyH_take (i := 6) (oi := _) (v := ?_) rfl (by kernel_rfl) (by kernel_rfl) (by kernel_rfl) (fun _ _ _ h => h) (Or.inl ⟨by rfl, ?_⟩) (by assumption) ?_
        rotate_left
        · intro w hSw; (try dsimp only at hSw); go_simp; try with_reducible rfl
        (try simp only [Act.put, List.setIfInBounds_toArray, List.set_cons_zero, List.set_cons_succ])
        refine wpAnyH_take (i := 7) (oi := _) (v := ?_) rfl (by kernel_rfl) (by kernel_rfl) (by kernel_rfl) (fun _ _ _ h => h) (Or.inl ⟨by rfl, ?_⟩) (by assumption) ?_
        rotate_left
        · intro w hSw; (try dsimp only at hSw); go_simp; try with_reducible rfl
        (try simp only [Act.put, List.setIfInBounds_toArray, List.set_cons_zero, List.set_cons_succ])
        refine wpAnyH_take (i := 8) (oi := _) (v := ?_) rfl (by kernel_rfl) (by kernel_rfl) (by kernel_rfl) (fun _ _ _ h => h) (Or.inl ⟨by rfl, ?_⟩) (by assumption) ?_
        rotate_left
        · intro w hSw; (try dsimp only at hSw); go_simp; try with_reducible rfl
        (try simp only [Act.put, List.setIfInBounds_toArray, List.set_cons_zero, List.set_cons_succ])
        refine wpAnyH_take (i := 9) (oi := _) (v := ?_) rfl (by kernel_rfl) (by kernel_rfl) (by kernel_rfl) (fun _ _ _ h => h) (Or.inl ⟨by rfl, ?_⟩) (by assumption) ?_
        rotate_left
        · intro w hSw; (try dsimp only at hSw); go_simp; try with_reducible rfl
        (try simp only [Act.put, List.setIfInBounds_toArray, List.set_cons_zero, List.set_cons_succ])
        refine wpAnyH_take (i := 10) (oi := _) (v := ?_) rfl (by kernel_rfl) (by kernel_rfl) (by kernel_rfl) (fun _ _ _ h => h) (Or.inl ⟨by rfl, ?_⟩) (by assumption) ?_
        rotate_left
        · intro w hSw; (try dsimp only at hSw); go_simp; try with_reducible rfl
        (try simp only [Act.put, List.setIfInBounds_toArray, List.set_cons_zero, List.set_cons_succ])
        refine wpAnyH_take (i := 11) (oi := _) (v := ?_) rfl (by kernel_rfl) (by kernel_rfl) (by kernel_rfl) (fun _ _ _ h => h) (Or.inl ⟨by rfl, ?_⟩) (by assumption) ?_
        rotate_left
        · intro w hSw; (try dsimp only at hSw); go_simp; try with_reducible rfl
        (try simp only [Act.put, List.setIfInBounds_toArray, List.set_cons_zero, List.set_cons_succ])
        refine wpAnyH_take (i := 12) (oi := _) (v := ?_) rfl (by kernel_rfl) (by kernel_rfl) (by kernel_rfl) (fun _ _ _ h => h) (Or.inl ⟨by rfl, ?_⟩) (by assumption) ?_
        rotate_left
        · intro w hSw; (try dsimp only at hSw); go_simp; try with_reducible rfl
        (try simp only [Act.put, List.setIfInBounds_toArray, List.set_cons_zero, List.set_cons_succ])
        refine wpAnyH_ready (rs := [13]) (by kernel_rfl) (by simp) ?_
        refine AllReadyH.cons rfl (fun K hK => ?_) AllReadyH.nil
        go_simp
        go_wp2_with fail
        refine hK.out _ _ (SK.out _ k0) (fun hHeld => ?_)
        clear hK K
        (try dsimp only [Act.put]); (try simp only [Act.put, List.setIfInBounds_toArray, List.set_cons_zero, List.set_cons_succ])
        refine wpAnyH_ready (rs := [14]) (by kernel_rfl) (by simp) ?_
        refine AllReadyH.cons rfl (fun K hK => ?_) AllReadyH.nil
        go_simp
        go_at_call 161
        refine (hjn.out _ k0 HTr.out).mono ?_
        rintro e w3 ⟨j, rfl, hjt, hw3⟩
        obtain ⟨ju, rfl⟩ := hjt.is
        have k3 := k0.trans (Keep.ofBelow (Q := fun k => k = t) hw3)
        have B3 := HBr.out.below hw3 HBr.out.lt
        clear q2
        go_wp2_with fail
        refine hK.out _ _ (SK.out _ k3) (fun hHeld => ?_)
        clear hK K
        (try dsimp only [Act.put]); (try simp only [Act.put, List.setIfInBounds_toArray, List.set_cons_zero, List.set_cons_succ])
        have q0 : w3.cell? ⟨t, 0, none⟩ = some d0 := B3.cell 0 _ rfl
        have q1 : w3.cell? ⟨t, 1, none⟩ = some p0 := B3.cell 1 _ rfl
        have z0 := B3.free 0
        have z1 := B3.free 1
        refine wpAnyH_take (i := 15) (oi := _) (v := ?_) rfl (by kernel_rfl) (by kernel_rfl) (by kernel_rfl) (fun _ _ _ h => h) (Or.inl ⟨by rfl, ?_⟩) (by assumption) ?_
        rotate_left
        · intro w hSw; (try dsimp only at hSw); go_simp; try with_reducible rfl
        (try simp only [Act.put, List.setIfInBounds_toArray, List.set_cons_zero, List.set_cons_succ])
        refine wpAnyH_take (i := 16) (oi := _) (v := ?_) rfl (by kernel_rfl) (by kernel_rfl) (by kernel_rfl) (fun _ _ _ h => h) (Or.inl ⟨by rfl, ?_⟩) (by assumption) ?_
        rotate_left
        · intro w hSw; (try dsimp only at hSw); go_simp; try with_reducible rfl
        (try simp only [Act.put, List.setIfInBounds_toArray, List.set_cons_zero, List.set_cons_succ])
        have k4 : Keep (fun k => k = t) wr ((w3.setCell ⟨t, 0, none⟩ (.nilFunc)).setCell ⟨t, 1, none⟩ (pV q)) := (k3.set (p := ⟨t, 0, none⟩) (fun _ => rfl) _).set (p := ⟨t, 1, none⟩) (fun _ => rfl) _
        refine wpAnyH_ready (rs := [17]) (by kernel_rfl) (by simp) ?_
        refine AllReadyH.cons rfl (fun K hK => ?_) AllReadyH.nil
        go_simp
        go_wp2_with fail
        refine hK.out _ _ (SK.out _ k4) (fun hHeld => ?_)
        clear hK K
        (try dsimp only [Act.put]); (try simp only [Act.put, List.setIfInBounds_toArray, List.set_cons_zero, List.set_cons_succ])
        have B4 := (B3.set 0 (.nilFunc)).set 1 (pV q)
        have hjt4 : TreeO ((w3.setCell ⟨t, 0, none⟩ (.nilFunc)).setCell ⟨t, 1, none⟩ (pV q)) Q (.pointer ju) (g1 ++ gs) := hjt.keep (((Keep.refl (fun k => k = t) w3).set (p := ⟨t, 0, none⟩) (fun _ => rfl) _).set (p := ⟨t, 1, none⟩) (fun _ => rfl) _) (fun b hb e => HQt.out (e ▸ hb))
        clear q0 q1 z0 z1 hHeld
        generalize ((w3.setCell ⟨t, 0, none⟩ (.nilFunc)).setCell ⟨t, 1, none⟩ (pV q)) = w4 at *
        have hHeld := SK.out _ k4
        have q2 : w4.cell? ⟨t, 2, none⟩ = some (.pointer ru) := B4.cell 2 _ rfl
        have z2 := B4.free 2
        have k5 : Keep (fun k => k = t) wr (w4.setCell ⟨t, 2, none⟩ (.pointer ju)) := k4.set (p := ⟨t, 2, none⟩) (fun _ => rfl) _
        refine wpAnyH_take (i := 18) (oi := _) (v := ?_) rfl (by kernel_rfl) (by kernel_rfl) (by kernel_rfl) (fun _ _ _ h => h) (Or.inl ⟨by rfl, ?_⟩) (by assumption) ?_
        rotate_left
        · intro w hSw; (try dsimp only at hSw); go_simp; try with_reducible rfl
        (try simp only [Act.put, List.setIfInBounds_toArray, List.set_cons_zero, List.set_cons_succ])
        refine wpAnyH_take (i := 19) (oi := _) (v := ?_) rfl (by kernel_rfl) (by kernel_rfl) (by kernel_rfl) (fun _ _ _ h => h) (Or.inl ⟨by rfl, ?_⟩) (by assumption) ?_
        rotate_left
        · intro w hSw; (try dsimp only at hSw); go_simp; try with_reducible rfl
        (try simp only [Act.put, List.setIfInBounds_toArray, List.set_cons_zero, List.set_cons_succ])
        refine wpAnyH_ready (rs := [20]) (by kernel_rfl) (by simp) ?_
        refine AllReadyH.cons rfl (fun K hK => ?_) AllReadyH.nil
        go_simp
        go_wp2_with fail
        refine hK.out _ _ (SK.out _ k5) (fun hHeld => ?_)
        clear hK K
        (try dsimp only [Act.put]); (try simp only [Act.put, List.setIfInBounds_toArray, List.set_cons_zero, List.set_cons_succ])
        refine wpAnyH_done (by kernel_rfl) ?_ _
        have bW := B4.set 2 (.pointer ju)
        have k6 : Keep (fun k => k = t) w4 (w4.setCell ⟨t, 2, none⟩ (.pointer ju)) := (Keep.refl (fun k => k = t) w4).set (p := ⟨t, 2, none⟩) (fun _ => rfl) _
        go_end0
        refine ⟨rfl, hK.trans k5, some ⟨k1, 0, none⟩, gs, JK.out _ _ _ _ hsz Hj.out k5, .inr ⟨k1, _, _, _, g1, _, rfl, hjl.out _ k5, HT1.out.keep k5 (fun b hb e => HQt.out (e ▸ hb)), hjt4.keep k6 (fun b hb e => HQt.out (e ▸ hb)), bW⟩⟩
theorem goon_gen (t : Nat) (n : Option Addr) (d0 p0 r0 : Value) (v0 : Int) (fs : List Nat) (Q : Nat → Prop) (J : World → Option Addr → List Nat → Prop) (w : World)
    (ht : Blk w t 134 #[d0, p0, r0, .int .i64 v0]) (hr : TreeO w Q r0 fs) (hQ : ∀ k, w.heap.size ≤ k → Q k) (hQt : ¬ Q t) (hJ : J w n fs)
    (jk : ∀ a b n fs, w.heap.size ≤ a.heap.size → J a n fs → Keep (fun k => k = t) a b → J b n fs)
    (jv : ∀ a n fs, J a n fs → n ≠ some ⟨t, 0, none⟩ ∧ ((∃ v, DoneV a n v) ∨ ∃ k d p r gs, n = some ⟨k, 0, none⟩ ∧ Live a k d p r ∧ TreeO a Q r gs))
    (jn : ∀ a n f fs v, w.heap.size ≤ a.heap.size → J a n (f :: fs) → DoneV a n v → Calls Tryz.prog 135 #[.int .i64 v, pV f] a fun e b => ∃ k, e = .returned (pV k) ∧ J b (some ⟨k, 0, none⟩) fs ∧ Below a.heap.size a b) :
    Calls Tryz.prog 87 #[pV t, .pointer n] w fun e w' => e = .returned (.tuple #[]) ∧ Keep (fun k => k = t) w w' ∧ ∃ n fs, J w' n fs ∧
      ((fs = [] ∧ ∃ v, DoneV w' n v ∧ Blk w' t 134 #[.nilFunc, .pointer none, .pointer none, .int .i64 v]) ∨
       ∃ k d p r gs j, n = some ⟨k, 0, none⟩ ∧ Live w' k d p r ∧ TreeO w' Q r gs ∧ TreeO w' Q j (gs ++ fs) ∧ Blk w' t 134 #[d, p, j, .int .i64 v0]) :=
  goon_ptr t n d0 p0 r0 v0 fs Q J w ht hr hQ hQt hJ jk jv fun a n f fs v h1 h2 h3 => (jn a n f fs v h1 h2 h3).mono (by rintro e b ⟨k, rfl, h4⟩; exact ⟨_, rfl, h4⟩)
end Go.Proofs.YtmknnjjmmfbppaaGreat
/- Contracts of package permit, for one goroutine alone: Give, Take, Block (of a thread that has a permit, or that there is not). -/
namespace Go.Proofs.YtmknnjjmmfbppaaGreat
open Go.ChangeShapes Go.WideShapes Go.ChangeAt Go.RowKit Go.Conc
set_option linter.unusedVariables false
set_option maxRecDepth 100000
set_option linter.unusedSimpArgs false
/-- a call, by its contract, within the machine of one -/
theorem LoneTo.call {P : Program} {Q : Goroutine → World → Prop} {R : Ending → World → Prop} {b : Frame} {a : Act} {k : List Item} {cs : List Frame} {w : World} {ops : Array Oper} {i : Nat} {rest : List Nat} {o : Oper} {f : FuncId} {fn : Func} {args : Array Operand} {ats : Array TypeId} {vs : Array Value}
    (ho : ops[i]? = some o) (hw : Region.wanted o (yielded ops a.tmps) = true) (hk : b.kind ≠ .early) (hop : o.op = .call { callee := .value (.func f), args, argTypes := ats })
    (hf : P.funcs[f]? = some fn) (hname : (fn.name == "runtime.NumGoroutine") = false) (hb : fn.body.isNone = false) (hv : args.map a.eval = vs) (h : Calls P f vs w R)
    (hR : ∀ e w', R e w' → ∃ v, e = .returned v ∧ LoneTo P Q (G (b.at (a.put ((ops[i]?).bind (·.dst)) v) (.inRegion ops rest :: k)) cs) w') :
    LoneTo P Q (G (b.at a (.inRegion ops (i :: rest) :: k)) cs) w := by
  subst hv
  obtain ⟨e, w', fr', hR', hc, hf', hl⟩ := h (b.at a (.inRegion ops (i :: rest) :: k) :: cs)
  obtain ⟨v, rfl, g, w2, hs, hq⟩ := hR e w' hR'
  refine ⟨g, w2, Steps.head (step_solo_go rfl (stepG_enter ho hw hk (run_call_body hop hf hname hb))) (Steps.trans hc (Steps.head (step_leave_returned hl) ?_)), hq⟩
  rw [Frame.finish_at]
  exact hs
theorem set_same {l : List Bool} {t : Nat} {b : Bool} (h : l[t]? = some b) : l.set t b = l := by
  apply List.ext_getElem?
  intro i
  by_cases e : t = i
  · subst e
    rw [List.getElem?_set_self (List.getElem?_eq_some_iff.1 h).1, h]
  · rw [List.getElem?_set_ne e]
theorem chan_for {w : World} {P S : Nat} {cs : List Nat} {l : List Bool} {t : Nat} {b : Bool} (hP : PermitsAt w P S cs l) (hb : l[t]? = some b) : ∃ c, cs[t]? = some c := by
  have := hP.len
  have h2 := (List.getElem?_eq_some_iff.1 hb).1
  exact ⟨cs[t]'(by omega), by simp⟩
set_option maxRecDepth 100000 in
theorem give_any (P S : Nat) (cs : List Nat) (l : List Bool) (t : Nat) (b : Bool) (w : World) (hP : PermitsAt w P S cs l) (hb : l[t]? = some b) :
    Calls Tryz.prog 43 #[permitsV P, .int .i64 t] w fun e w' => e = .returned (.bool true) ∧ PermitsAt w' P S cs (l.set t true) ∧ Keep (fun k => k ∈ cs) w w' := by
  obtain ⟨c, hc⟩ := chan_for hP hb
  have ho := of_any P S cs l t c w hP hc
  obtain ⟨s, r, hch⟩ := hP.chan t c b hc hb
  refine calls_of_loneTo fun cs' => ?_
  have e : Frame.enter Tryz.prog 43 #[permitsV P, .int .i64 t] .normal = (base 43).at ⟨#[permitsV P, .int .i64 t] ++ Array.replicate (Tryz.f43.ntmps - 2) undef, []⟩ [.code (Tryz.f43.body.getD .skip)] := by
    rw [enter_at _ Tryz.func43 rfl]; rfl
  rw [e]
  refine LoneTo.goes (n := 60) ?_
  simp only [Tryz.f43, Option.getD_some]
  walk_nrm
  repeat (first | s_c stepG_seq | s_c stepG_region_end | s_c stepG_skip | s_c stepG_block | s_c stepG_inBlock | s_reg | s_op)
  s_stop
  refine LoneTo.call (f := 95) (fn := Tryz.f95) rfl rfl (by decide) rfl Tryz.func95 (by kernel_rfl) (by kernel_rfl) ?_ ho ?_
  · walk_nrm
  rintro e1 w1 ⟨rfl, rfl⟩
  refine ⟨_, rfl, ?_⟩
  walk_nrm
  refine LoneTo.goes (n := 60) ?_
  repeat (first | s_c stepG_seq | s_c stepG_region_end | s_c stepG_skip | s_c stepG_block | s_c stepG_inBlock | s_reg | s_op)
  s_cond false
  repeat (first | s_c stepG_seq | s_c stepG_region_end | s_c stepG_skip | s_c stepG_block | s_c stepG_inBlock | s_reg | s_op)
  s_stop
  have hcomm : (execOp (Act.eval ⟨#[permitsV P, .int .i64 t, undef, undef, .bool false, .chan (some c), permitsV P, .int .i64 t, .chan (some c), .chan (some c), .bool false, .chan (some c), .agg #[], undef, undef, undef], []⟩)
      { dst := some 13, op := Op.select #[{ chan := Operand.tmp 11, send := some (Operand.tmp 12), elem := 38 }] false, type := 0, pos := "permit.go:49", after := #[], guard := none }).run Tryz.prog w = .ok (.comm #[scase c tokV tokV] false .select) w := by
    simp [go_sem, execOp, scase, Act.eval]
  cases b
  · refine LoneTo.step (step_lone_select_send_room (c := c) (cap := 1) (buf := #[]) (s := s) (r := r) (tm := false) (stepG_comm rfl rfl (by decide) hcomm) hch (by simp)) ?_
    rw [Frame.finish_at]
    walk_nrm
    refine LoneTo.goes (n := 60) ?_
    repeat (first | s_c stepG_seq | s_c stepG_region_end | s_c stepG_skip | s_c stepG_block | s_c stepG_inBlock | s_reg | s_op)
    s_cond true
    repeat (first | s_c stepG_seq | s_c stepG_region_end | s_c stepG_skip | s_c stepG_block | s_c stepG_inBlock | s_reg | s_op)
    s_c stepG_ret'
    s_stop
    refine LoneTo.done ⟨.returned (.bool true), _, rfl, ⟨rfl, ?_⟩, rfl, rfl, rfl, rfl, _, Tryz.func43, by simp [results, Tryz.results43, Frame.at]⟩
    exact hP.setChan hc true (s + 1) r
  · refine LoneTo.step (step_lone_select_send_full (c := c) (cap := 1) (buf := #[tokV]) (s := s) (r := r) (tm := false) (stepG_comm rfl rfl (by decide) hcomm) hch (by simp)) ?_
    rw [Frame.finish_at]
    walk_nrm
    refine LoneTo.goes (n := 60) ?_
    repeat (first | s_c stepG_seq | s_c stepG_region_end | s_c stepG_skip | s_c stepG_block | s_c stepG_inBlock | s_reg | s_op)
    s_cond false
    repeat (first | s_c stepG_seq | s_c stepG_region_end | s_c stepG_skip | s_c stepG_block | s_c stepG_inBlock | s_reg | s_op)
    s_c stepG_ret'
    s_stop
    refine LoneTo.done ⟨.returned (.bool true), _, rfl, ⟨rfl, ?_⟩, rfl, rfl, rfl, rfl, _, Tryz.func43, by simp [results, Tryz.results43, Frame.at]⟩
    exact ⟨by rwa [set_same hb], Keep.refl _ w⟩
theorem give_no (P S : Nat) (cs : List Nat) (l : List Bool) (t : Int) (w : World) (hP : PermitsAt w P S cs l) (ht : t < 0 ∨ (l.length : Int) ≤ t) :
    Calls Tryz.prog 43 #[permitsV P, .int .i64 t] w fun e w' => e = .returned (.bool false) ∧ w = w' := by
  have ho := pof_no P S cs l t w hP ht
  have hcn : ∀ W : World, (binOp .eql 176 (.chan none) (.chan none)).run Tryz.prog W = .ok (.bool true) W := by intro W; kernel_rfl
  go_enter Tryz.func43, Tryz.ntmps43
  go_wp2_with (go_at_call 95; (with_reducible refine ho.mono ?_); rintro e w1 ⟨rfl, rfl⟩)
  go_ret
  exact ⟨rfl, rfl⟩
theorem give_nil (t : Int) (w : World) :
    Calls Tryz.prog 43 #[.pointer none, .int .i64 t] w fun e w' => e = .returned (.bool false) ∧ w = w' := by
  have ho := of_nil t w
  have hcn : ∀ W : World, (binOp .eql 176 (.chan none) (.chan none)).run Tryz.prog W = .ok (.bool true) W := by intro W; kernel_rfl
  go_enter Tryz.func43, Tryz.ntmps43
  go_wp2_with (go_at_call 95; (with_reducible refine ho.mono ?_); rintro e w1 ⟨rfl, rfl⟩)
  go_ret
  exact ⟨rfl, rfl⟩
set_option maxRecDepth 100000 in
theorem take_any (P S : Nat) (cs : List Nat) (l : List Bool) (t : Nat) (b : Bool) (w : World) (hP : PermitsAt w P S cs l) (hb : l[t]? = some b) :
    Calls Tryz.prog 213 #[permitsV P, .int .i64 t] w fun e w' => e = .returned (.bool b) ∧ PermitsAt w' P S cs (l.set t false) ∧ Keep (fun k => k ∈ cs) w w' := by
  obtain ⟨c, hc⟩ := chan_for hP hb
  have ho := of_any P S cs l t c w hP hc
  obtain ⟨s, r, hch⟩ := hP.chan t c b hc hb
  refine calls_of_loneTo fun cs' => ?_
  have e : Frame.enter Tryz.prog 213 #[permitsV P, .int .i64 t] .normal = (base 213).at ⟨#[permitsV P, .int .i64 t] ++ Array.replicate (Tryz.f213.ntmps - 2) undef, []⟩ [.code (Tryz.f213.body.getD .skip)] := by
    rw [enter_at _ Tryz.func213 rfl]; rfl
  rw [e]
  refine LoneTo.goes (n := 60) ?_
  simp only [Tryz.f213, Option.getD_some]
  walk_nrm
  repeat (first | s_c stepG_seq | s_c stepG_region_end | s_c stepG_skip | s_c stepG_block | s_c stepG_inBlock | s_reg | s_op)
  s_stop
  refine LoneTo.call (f := 95) (fn := Tryz.f95) rfl rfl (by decide) rfl Tryz.func95 (by kernel_rfl) (by kernel_rfl) ?_ ho ?_
  · walk_nrm
  rintro e1 w1 ⟨rfl, rfl⟩
  refine ⟨_, rfl, ?_⟩
  walk_nrm
  refine LoneTo.goes (n := 60) ?_
  repeat (first | s_c stepG_seq | s_c stepG_region_end | s_c stepG_skip | s_c stepG_block | s_c stepG_inBlock | s_reg | s_op)
  s_stop
  have hcomm : (execOp (Act.eval ⟨#[permitsV P, .int .i64 t, undef, undef, .bool false, permitsV P, .int .i64 t, .chan (some c), undef, undef, undef], []⟩)
      { dst := some 8, op := Op.select #[{ chan := Operand.tmp 7, send := none, elem := 38 }] false, type := 0, pos := "permit.go:59", after := #[], guard := none }).run Tryz.prog w = .ok (.comm #[rcase c tokV] false .select) w := by
    simp [go_sem, execOp, rcase, rcaseNil, Act.eval]
  cases b
  · refine LoneTo.step (step_lone_select_default (c := c) (cap := 1) (s := s) (r := r) (tm := false) (stepG_comm rfl rfl (by decide) hcomm) hch) ?_
    rw [Frame.finish_at]
    walk_nrm
    refine LoneTo.goes (n := 60) ?_
    repeat (first | s_c stepG_seq | s_c stepG_region_end | s_c stepG_skip | s_c stepG_block | s_c stepG_inBlock | s_reg | s_op)
    s_cond false
    repeat (first | s_c stepG_seq | s_c stepG_region_end | s_c stepG_skip | s_c stepG_block | s_c stepG_inBlock | s_reg | s_op)
    s_c stepG_ret'
    s_stop
    refine LoneTo.done ⟨.returned (.bool false), _, rfl, ⟨rfl, ?_⟩, rfl, rfl, rfl, rfl, _, Tryz.func213, by simp [results, Tryz.results213, Frame.at]⟩
    exact ⟨by rwa [set_same hb], Keep.refl _ w⟩
  · refine LoneTo.step (step_lone_select_recv_buf (c := c) (cap := 1) (buf := #[tokV]) (s := s) (r := r) (tm := false) (stepG_comm rfl rfl (by decide) hcomm) hch (by simp)) ?_
    rw [Frame.finish_at]
    walk_nrm
    refine LoneTo.goes (n := 60) ?_
    repeat (first | s_c stepG_seq | s_c stepG_region_end | s_c stepG_skip | s_c stepG_block | s_c stepG_inBlock | s_reg | s_op)
    s_cond true
    repeat (first | s_c stepG_seq | s_c stepG_region_end | s_c stepG_skip | s_c stepG_block | s_c stepG_inBlock | s_reg | s_op)
    s_c stepG_ret'
    s_stop
    refine LoneTo.done ⟨.returned (.bool true), _, rfl, ⟨rfl, ?_⟩, rfl, rfl, rfl, rfl, _, Tryz.func213, by simp [results, Tryz.results213, Frame.at]⟩
    exact hP.setChan hc false s (r + 1)
set_option maxRecDepth 100000 in
theorem take_no (P S : Nat) (cs : List Nat) (l : List Bool) (t : Int) (w : World) (hP : PermitsAt w P S cs l) (ht : t < 0 ∨ (l.length : Int) ≤ t) :
    Calls Tryz.prog 213 #[permitsV P, .int .i64 t] w fun e w' => e = .returned (.bool false) ∧ w = w' := by
  have ho := pof_no P S cs l t w hP ht
  refine calls_of_loneTo fun cs' => ?_
  have e : Frame.enter Tryz.prog 213 #[permitsV P, .int .i64 t] .normal = (base 213).at ⟨#[permitsV P, .int .i64 t] ++ Array.replicate (Tryz.f213.ntmps - 2) undef, []⟩ [.code (Tryz.f213.body.getD .skip)] := by
    rw [enter_at _ Tryz.func213 rfl]; rfl
  rw [e]
  refine LoneTo.goes (n := 60) ?_
  simp only [Tryz.f213, Option.getD_some]
  walk_nrm
  repeat (first | s_c stepG_seq | s_c stepG_region_end | s_c stepG_skip | s_c stepG_block | s_c stepG_inBlock | s_reg | s_op)
  s_stop
  refine LoneTo.call (f := 95) (fn := Tryz.f95) rfl rfl (by decide) rfl Tryz.func95 (by kernel_rfl) (by kernel_rfl) ?_ ho ?_
  · walk_nrm
  rintro e1 w1 ⟨rfl, rfl⟩
  refine ⟨_, rfl, ?_⟩
  walk_nrm
  refine LoneTo.goes (n := 60) ?_
  repeat (first | s_c stepG_seq | s_c stepG_region_end | s_c stepG_skip | s_c stepG_block | s_c stepG_inBlock | s_reg | s_op)
  s_stop
  have hcomm : (execOp (Act.eval ⟨#[permitsV P, .int .i64 t, undef, undef, .bool false, permitsV P, .int .i64 t, .chan none, undef, undef, undef], []⟩)
      { dst := some 8, op := Op.select #[{ chan := Operand.tmp 7, send := none, elem := 38 }] false, type := 0, pos := "permit.go:59", after := #[], guard := none }).run Tryz.prog w = .ok (.comm #[rcaseNil tokV] false .select) w := by
    simp [go_sem, execOp, rcase, rcaseNil, Act.eval]
  refine LoneTo.step (step_lone_select_recv_nil (stepG_comm rfl rfl (by decide) hcomm)) ?_
  rw [Frame.finish_at]
  walk_nrm
  refine LoneTo.goes (n := 60) ?_
  repeat (first | s_c stepG_seq | s_c stepG_region_end | s_c stepG_skip | s_c stepG_block | s_c stepG_inBlock | s_reg | s_op)
  s_cond false
  repeat (first | s_c stepG_seq | s_c stepG_region_end | s_c stepG_skip | s_c stepG_block | s_c stepG_inBlock | s_reg | s_op)
  s_c stepG_ret'
  s_stop
  refine LoneTo.done ⟨.returned (.bool false), _, rfl, ⟨rfl, ?_⟩, rfl, rfl, rfl, rfl, _, Tryz.func213, by simp [results, Tryz.results213, Frame.at]⟩
  rfl
set_option maxRecDepth 100000 in
theorem take_nil (t : Int) (w : World) :
    Calls Tryz.prog 213 #[.pointer none, .int .i64 t] w fun e w' => e = .returned (.bool false) ∧ w = w' := by
  have ho := of_nil t w
  refine calls_of_loneTo fun cs' => ?_
  have e : Frame.enter Tryz.prog 213 #[.pointer none, .int .i64 t] .normal = (base 213).at ⟨#[.pointer none, .int .i64 t] ++ Array.replicate (Tryz.f213.ntmps - 2) undef, []⟩ [.code (Tryz.f213.body.getD .skip)] := by
    rw [enter_at _ Tryz.func213 rfl]; rfl
  rw [e]
  refine LoneTo.goes (n := 60) ?_
  simp only [Tryz.f213, Option.getD_some]
  walk_nrm
  repeat (first | s_c stepG_seq | s_c stepG_region_end | s_c stepG_skip | s_c stepG_block | s_c stepG_inBlock | s_reg | s_op)
  s_stop
  refine LoneTo.call (f := 95) (fn := Tryz.f95) rfl rfl (by decide) rfl Tryz.func95 (by kernel_rfl) (by kernel_rfl) ?_ ho ?_
  · walk_nrm
  rintro e1 w1 ⟨rfl, rfl⟩
  refine ⟨_, rfl, ?_⟩
  walk_nrm
  refine LoneTo.goes (n := 60) ?_
  repeat (first | s_c stepG_seq | s_c stepG_region_end | s_c stepG_skip | s_c stepG_block | s_c stepG_inBlock | s_reg | s_op)
  s_stop
  have hcomm : (execOp (Act.eval ⟨#[.pointer none, .int .i64 t, undef, undef, .bool false, .pointer none, .int .i64 t, .chan none, undef, undef, undef], []⟩)
      { dst := some 8, op := Op.select #[{ chan := Operand.tmp 7, send := none, elem := 38 }] false, type := 0, pos := "permit.go:59", after := #[], guard := none }).run Tryz.prog w = .ok (.comm #[rcaseNil tokV] false .select) w := by
    simp [go_sem, execOp, rcase, rcaseNil, Act.eval]
  refine LoneTo.step (step_lone_select_recv_nil (stepG_comm rfl rfl (by decide) hcomm)) ?_
  rw [Frame.finish_at]
  walk_nrm
  refine LoneTo.goes (n := 60) ?_
  repeat (first | s_c stepG_seq | s_c stepG_region_end | s_c stepG_skip | s_c stepG_block | s_c stepG_inBlock | s_reg | s_op)
  s_cond false
  repeat (first | s_c stepG_seq | s_c stepG_region_end | s_c stepG_skip | s_c stepG_block | s_c stepG_inBlock | s_reg | s_op)
  s_c stepG_ret'
  s_stop
  refine LoneTo.done ⟨.returned (.bool false), _, rfl, ⟨rfl, ?_⟩, rfl, rfl, rfl, rfl, _, Tryz.func213, by simp [results, Tryz.results213, Frame.at]⟩
  rfl
end Go.Proofs.YtmknnjjmmfbppaaGreat
