/- Package task: functions that are none. -/
import Derived.Test.YtmkgbbbhmbejnaaTaskWorksB
namespace Go.Proofs.Ytmkgbbbhmbejnaa
open Go.ChangeShapes Go.WideShapes Go.ChangeAt Go.RowKit
set_option linter.unusedVariables false
set_option maxRecDepth 100000
set_option linter.unusedSimpArgs false
theorem catchT_panic (v : Value) (older : List PanicEntry) (w : World) : CallsD Try.prog 114 #[] (.panicking ({ v := v, recovered := false } :: older)) w fun e u' w' => e = .returned (.tuple #[]) ∧ u' = .panicking ({ v := v, recovered := true } :: older) ∧ w' = w := by
  refine callsD_of_wpS Try.func114 rfl fun c₀ cs hu => ?_
  apply wpS_region
  simp [wpOpsS, go_sem, recoverD, hu, Try.ntmps114, Exit.thenS, bodyPostS, results, Try.results114]
theorem catchI_panic (v : Value) (older : List PanicEntry) (w : World) : CallsD Try.prog 115 #[] (.panicking ({ v := v, recovered := false } :: older)) w fun e u' w' => e = .returned (.tuple #[]) ∧ u' = .panicking ({ v := v, recovered := true } :: older) ∧ w' = w := by
  refine callsD_of_wpS Try.func115 rfl fun c₀ cs hu => ?_
  apply wpS_region
  simp [wpOpsS, go_sem, recoverD, hu, Try.ntmps115, Exit.thenS, bodyPostS, results, Try.results115]
theorem answerT_none (w : World) : Calls Try.prog 99 #[.nilFunc] w fun e w' => e = .returned (.pointer none) ∧ w = w' := by
  go_enter_defers Try.func99, Try.ntmps99
  go_wp2_with fail
  refine leaves_cons (f := 114) (args := #[]) (by simp) (by simp [go_sem]) ?_
  refine (catchT_panic _ [] _).mono ?_
  rintro e u' w'' ⟨rfl, rfl, rfl⟩
  simp [Leaves, settle, results, Try.results99, go_sem]
theorem answerI_none (w : World) : Calls Try.prog 106 #[.nilFunc] w fun e w' => e = .returned (.int .i64 0) ∧ w = w' := by
  go_enter_defers Try.func106, Try.ntmps106
  go_wp2_with fail
  refine leaves_cons (f := 115) (args := #[]) (by simp) (by simp [go_sem]) ?_
  refine (catchI_panic _ [] _).mono ?_
  rintro e u' w'' ⟨rfl, rfl, rfl⟩
  simp [Leaves, settle, results, Try.results106, go_sem]
theorem answerT_dies (F : Nat) (caps : Array Value) (w : World) (R : World → Prop)
    (hcall : ∀ (W : World) (args : Array Value), (callFunc F args).run Try.prog W = .ok (.enter F args) W)
    (h : Calls Try.prog F caps w fun e w' => (∃ v, e = .panicked [{ v := v, recovered := false }]) ∧ R w') :
    Calls Try.prog 99 #[cloV F caps] w fun e w' => e = .returned (.pointer none) ∧ R w' := by
  have HH := Lib.hid h
  clear h
  go_enter_defers Try.func99, Try.ntmps99
  go_wp2_with fail
  refine HH.out.mono ?_
  rintro e w1 ⟨⟨v, rfl⟩, hp⟩
  go_wp2_with fail
  refine leaves_cons (f := 114) (args := #[]) (by simp) (by simp [go_sem]) ?_
  refine (catchT_panic _ [] _).mono ?_
  rintro e u' w'' ⟨rfl, rfl, rfl⟩
  simp [Leaves, settle, results, Try.results99, go_sem]
  exact hp
theorem then11_none (f bv : Nat) (v : Int) (w : World) (hf : Blk w f 84 #[.nilFunc]) (hv : Blk w bv 3 #[.int .i64 v]) :
    Calls Try.prog 103 #[pV f, pV bv] w fun e w' => (∃ v, e = .panicked [{ v := v, recovered := false }]) ∧ w = w' := by
  have c0 : w.cell? ⟨f, 0, none⟩ = some .nilFunc := hf.cell 0 _ rfl
  have c1 : w.cell? ⟨bv, 0, none⟩ = some (.int .i64 v) := hv.cell 0 _ rfl
  clear hf hv
  go_enter Try.func103, Try.ntmps103
  go_wp2
  simp [bodyPost]
theorem then1_none (f : Nat) (v : Int) (w : World) (hf : Blk w f 84 #[.nilFunc]) :
    Calls Try.prog 102 #[.int .i64 v, pV f] w fun e w' => e = .returned (.pointer none) ∧ Below w.heap.size w w' := by
  have hmf : ∀ (fn : Fn) (first cap : Array Value) (w : World), (Instr.makeFunc fn first cap).run Try.prog w = .ok (.func fn first cap) w := fun _ _ _ _ => rfl
  have HH := Lib.hid fun W hb hv => answerT_dies 103 #[pV f, pV w.heap.size] W (fun w' => Below w.heap.size w w') call_then11 ((then11_none f w.heap.size v W (hf.below hb hf.lt) hv).mono (by rintro e w' ⟨h, rfl⟩; exact ⟨h, hb⟩))
  clear hf
  go_enter Try.func102, Try.ntmps102
  go_upto_region 1 with fail
  generalize hW : (w.alloc _) = W
  have bW : Below w.heap.size w W := by rw [← hW]; go_grown
  have q0 : Blk W w.heap.size 3 #[.int .i64 v] := by rw [← hW]; exact Blk.new w _ _
  clear hW
  have HA := Lib.hid (HH.out W bW q0)
  go_wp2_with (go_at_call 99; refine HA.out.mono ?_; rintro e w2 ⟨rfl, hR⟩)
  go_ret
  exact ⟨rfl, hR⟩
theorem loop_nil (w : World) : Calls Try.prog 71 #[.nilFunc] w fun e w' => ∃ t, e = .returned (pV t) ∧ w.heap.size ≤ t ∧ DoneV w' (some ⟨t, 0, none⟩) 0 ∧ Below w.heap.size w w' := by
  go_enter Try.func71, Try.ntmps71
  go_upto_region 1 with fail
  generalize hW : (w.alloc _) = W
  have bW : Below w.heap.size w W := by rw [← hW]; go_grown
  have q0 : Blk W w.heap.size 130 #[.nilFunc] := by rw [← hW]; exact Blk.new w _ _
  clear hW
  have c0 : W.cell? ⟨w.heap.size, 0, none⟩ = some .nilFunc := q0.cell 0 _ rfl
  have sW := bW.size
  go_wp2_with (first
    | (go_at_call 99; refine (answerT_none _).mono ?_; rintro e w2 ⟨rfl, rfl⟩)
    | (go_at_call 29; refine (done_nil _).mono ?_; rintro e w2 ⟨rfl, rfl⟩)
    | (go_at_call 32; refine (value_nil _).mono ?_; rintro e w2 ⟨rfl, rfl⟩)
    | (go_at_call 42; refine (ready_any _ _).mono ?_; rintro e w3 ⟨t, rfl, h1, h2, h3⟩))
  go_ret
  exact ⟨t, rfl, by omega, .inr ⟨t, rfl, h2⟩, bW.trans (h3.mono sW)⟩
theorem one_nil (w : World) :
    Calls Try.prog 79 #[.nilFunc] w fun e w' => ∃ t b, e = .returned (pV t) ∧ w.heap.size ≤ t ∧ w.heap.size ≤ b ∧ Blk w' b 61 #[.nilFunc] ∧ Live w' t (cloV 105 #[pV b]) (.pointer none) (.pointer none) ∧ Below w.heap.size w w' := by
  have hmf : ∀ (fn : Fn) (first cap : Array Value) (w : World), (Instr.makeFunc fn first cap).run Try.prog w = .ok (.func fn first cap) w := fun _ _ _ _ => rfl
  go_enter Try.func79, Try.ntmps79
  go_wp2
  go_ret
  refine ⟨w.heap.size + 1, w.heap.size, ?_, by omega, by omega, (Blk.new w _ _).alloc _, ⟨?_, .inl ⟨_, _, rfl, rfl⟩⟩, by go_grown⟩
  · simp [pV]
  · exact blk_two w _ _ _
theorem one1_none (b : Nat) (w : World) (hb : Blk w b 61 #[.nilFunc]) : Calls Try.prog 105 #[pV b] w fun e w' => e = .returned (.int .i64 0) ∧ w = w' := by
  have c0 : w.cell? ⟨b, 0, none⟩ = some .nilFunc := hb.cell 0 _ rfl
  clear hb
  go_enter Try.func105, Try.ntmps105
  go_wp2_with (go_at_call 106; refine (answerI_none _).mono ?_; rintro e w2 ⟨rfl, rfl⟩)
  go_ret
  exact ⟨rfl, rfl⟩
/-- a task that needs a step, and something behind it -/
theorem then_nil (k : Nat) (d p r : Value) (gs : List Nat) (Q : Nat → Prop) (w : World) (hL : Live w k d p r) (hT : TreeO w Q r gs) (hQ : ∀ k, w.heap.size ≤ k → Q k) :
    Calls Try.prog 73 #[pV k, Value.nilFunc] w fun e w' => ∃ t f j, e = .returned (pV t) ∧ w.heap.size ≤ t ∧ w.heap.size ≤ f ∧ Blk w' f 84 #[Value.nilFunc] ∧ Live w' t d p j ∧ TreeO w' (fun b => Q b ∧ b ≠ t) j (gs ++ [f]) ∧ f ≠ t ∧ Below w.heap.size w w' := by
  have hmf : ∀ (fn : Fn) (first cap : Array Value) (w : World), (Instr.makeFunc fn first cap).run Try.prog w = .ok (.func fn first cap) w := fun _ _ _ _ => rfl
  have HQ := Lib.hid hQ
  have HL := Lib.hid hL
  have HT := Lib.hid hT
  clear hQ hL hT
  go_enter Try.func73, Try.ntmps73
  go_upto_region 1 with fail
  generalize hW : (w.alloc _) = W
  have bW : Below w.heap.size w W := by rw [← hW]; go_grown
  have q0 : Blk W w.heap.size 84 #[Value.nilFunc] := by rw [← hW]; exact Blk.new w _ _
  clear hW
  go_upto_region 2 with (go_at_call 101; refine (only_any _ _ _).mono ?_; rintro e w2 ⟨lp, rfl, l1, l2, l3⟩)
  have hk := HL.out.blk.lt
  have hs2 := l3.size
  have hsW := bW.size
  generalize hW3 : (w2.alloc _) = W3
  have b3 : Below W.heap.size W W3 := by rw [← hW3]; exact l3.alloc (by omega) _
  have s3 : W3.heap.size = w2.heap.size + 1 := by rw [← hW3]; simp
  have qt : Blk W3 w2.heap.size 116 #[.nilFunc, .pointer none, pV lp, .int .i64 0] := by rw [← hW3]; exact Blk.new w2 _ _
  have ql : Blk W3 lp 157 #[.pointer none, .pointer none, cloV 102 #[pV w.heap.size]] := by rw [← hW3]; exact l2.alloc _
  have hlp := l2.lt
  clear hW3
  have bw3 : Below w.heap.size w W3 := bW.trans (b3.mono hsW)
  have qf := q0.below b3 q0.lt
  have kk : Keep (fun _ => False) w W3 := Keep.ofBelow bw3
  have L3 : Live W3 k d p r := HL.out.keep kk (fun h => h)
  have T3 : TreeO W3 (fun b => Q b ∧ b ≠ w2.heap.size) r gs := (HT.out.mono (Q' := fun b => Q b ∧ b ≠ w2.heap.size) fun b hb hq => ⟨hq, by omega⟩).keep kk (fun _ _ h => h)
  have hqf := q0.lt
  have HG := Lib.hid (goon_gen w2.heap.size (some ⟨k, 0, none⟩) .nilFunc (.pointer none) (pV lp) 0 [w.heap.size] (fun b => Q b ∧ b ≠ w2.heap.size) (fun a n fs => n = some ⟨k, 0, none⟩ ∧ fs = [w.heap.size] ∧ Live a k d p r ∧ TreeO a (fun b => Q b ∧ b ≠ w2.heap.size) r gs) W3
    qt (.inr ⟨0, lp, rfl, .leaf lp _ ⟨HQ.out _ (by omega), by omega⟩ ql⟩) (fun j hj => ⟨HQ.out _ (by omega), by omega⟩) (fun h => h.2 rfl) ⟨rfl, rfl, L3, T3⟩
    (fun a b n fs _ h hk2 => ⟨h.1, h.2.1, h.2.2.1.keep hk2 (by omega), h.2.2.2.keep hk2 (fun b hb => hb.2)⟩)
    (fun a n fs h => ⟨by rw [h.1]; intro e; injection e with e1; injection e1 with e2; omega, .inr ⟨k, d, p, r, gs, h.1, h.2.2.1, h.2.2.2⟩⟩)
    (fun a n f fs v _ h hd => by rw [h.1] at hd; exact (hd.live h.2.2.1).elim))
  clear qt ql qf
  go_wp2_with (go_at_call 62; refine HG.out.mono ?_; rintro e w4 ⟨rfl, k4, n4, fs4, ⟨rfl, rfl, L4, T4⟩, hpost⟩)
  go_ret
  rcases hpost with ⟨e, _⟩ | ⟨k5, d5, p5, r5, g5, j, e5, L5, T5, T6, B6⟩
  · cases e
  · obtain rfl : k = k5 := by simpa using e5
    obtain ⟨rfl, rfl, rfl⟩ := L4.unique L5
    obtain rfl := T4.unique T5
    have b4 : Below w.heap.size w w4 := bw3.trans (k4.below bw3.size (fun i _ h => by omega))
    refine ⟨w2.heap.size, w.heap.size, j, rfl, by omega, Nat.le_refl _, ?_, ⟨B6, L5.op⟩, T6, by omega, b4⟩
    exact (q0.below b3 q0.lt).keep k4 (by omega)
set_option maxHeartbeats 2000000 in
theorem goon_opt (t : Nat) (n : Option Addr) (d0 p0 r0 : Value) (v0 : Int) (fs : List Nat) (Q : Nat → Prop) (J : World → Option Addr → List Nat → Prop) (w : World)
    (ht : Blk w t 116 #[d0, p0, r0, .int .i64 v0]) (hr : TreeO w Q r0 fs) (hQ : ∀ k, w.heap.size ≤ k → Q k) (hQt : ¬ Q t) (hJ : J w n fs)
    (jk : ∀ a b n fs, w.heap.size ≤ a.heap.size → J a n fs → Keep (fun k => k = t) a b → J b n fs)
    (jv : ∀ a n fs, J a n fs → n ≠ some ⟨t, 0, none⟩ ∧ ((∃ v, DoneV a n v) ∨ ∃ k d p r gs, n = some ⟨k, 0, none⟩ ∧ Live a k d p r ∧ TreeO a Q r gs))
    (jn : ∀ a n f fs v, w.heap.size ≤ a.heap.size → J a n (f :: fs) → DoneV a n v → Calls Try.prog 102 #[.int .i64 v, pV f] a fun e b => ∃ k, e = .returned (.pointer k) ∧ J b k fs ∧ Below a.heap.size a b) :
    Calls Try.prog 62 #[pV t, .pointer n] w fun e w' => e = .returned (.tuple #[]) ∧ Keep (fun k => k = t) w w' ∧ ∃ n fs, J w' n fs ∧
      ((fs = [] ∧ ∃ v, DoneV w' n v ∧ Blk w' t 116 #[.nilFunc, .pointer none, .pointer none, .int .i64 v]) ∨
       ∃ k d p r gs j, n = some ⟨k, 0, none⟩ ∧ Live w' k d p r ∧ TreeO w' Q r gs ∧ TreeO w' Q j (gs ++ fs) ∧ Blk w' t 116 #[d, p, j, .int .i64 v0]) := by
  have HT := Lib.hid ht
  have HR := Lib.hid hr
  have HQ := Lib.hid hQ
  have HJ := Lib.hid hJ
  have JK := Lib.hid jk
  have JV := Lib.hid jv
  have JN := Lib.hid jn
  have HQt := Lib.hid hQt
  clear ht hr hQ hJ jk jv jn hQt
  go_enter Try.func62, Try.ntmps62
  go_wp2_with fail
  go_loopg [1] fs.length (fun k nV wr => ∃ n r gs, nV = .pointer n ∧ k = gs.length ∧ Blk wr t 116 #[d0, p0, r, .int .i64 v0] ∧ TreeO wr Q r gs ∧ J wr n gs ∧ Keep (fun k => k = t) w wr)
  case atStart => exact ⟨n, r0, fs, rfl, rfl, HT.out, HR.out, HJ.out, Keep.refl _ _⟩
  case round =>
    obtain ⟨n, r, gs, rfl, hk0, hB, hT, hj, hK⟩ := hrel
    have hsz := hK.size
    obtain ⟨hne, hv | hv⟩ := JV.out wr n gs hj
    · obtain ⟨v, hv⟩ := hv
      have hd := Lib.hid (doneV_done n v wr hv)
      have hval := Lib.hid (doneV_value n v wr hv)
      have HB := Lib.hid hB
      have HV := Lib.hid hv
      have Hj := Lib.hid hj
      have Hn := Lib.hid hne
      have c2 : wr.cell? ⟨t, 2, none⟩ = some r := hB.cell 2 _ rfl
      have c0 : wr.cell? ⟨t, 0, none⟩ = some d0 := hB.cell 0 _ rfl
      have c1 : wr.cell? ⟨t, 1, none⟩ = some p0 := hB.cell 1 _ rfl
      have c3 : wr.cell? ⟨t, 3, none⟩ = some (.int .i64 v0) := hB.cell 3 _ rfl
      have z0 := hB.free 0
      have z1 := hB.free 1
      have z2 := hB.free 2
      have z3 := hB.free 3
      rcases hT with ⟨rfl, rfl⟩ | ⟨m, q, rfl, hT⟩
      · clear hB hv hj hk0 hne
        go_wp2_with (first | (go_at_call 29; refine hd.out.mono ?_; rintro e w2 ⟨rfl, rfl⟩) | (go_at_call 32; refine hval.out.mono ?_; rintro e w2 ⟨rfl, rfl⟩))
        have kW : Keep (fun k => k = t) wr (((wr.setCell ⟨t, 0, none⟩ .nilFunc).setCell ⟨t, 1, none⟩ (.pointer none)).setCell ⟨t, 3, none⟩ (.int .i64 v)) := (((Keep.refl (fun k => k = t) wr).set (p := ⟨t, 0, none⟩) (fun _ => rfl) _).set (p := ⟨t, 1, none⟩) (fun _ => rfl) _).set (p := ⟨t, 3, none⟩) (fun _ => rfl) _
        have bW := ((HB.out.set 0 .nilFunc).set 1 (.pointer none)).set 3 (.int .i64 v)
        refine bodyPost_ret (v := .tuple #[]) (by simp [results, Try.results62, go_sem]) rfl ?_
        refine ⟨rfl, hK.trans kW, n, [], JK.out _ _ _ _ hsz Hj.out kW, .inl ⟨rfl, v, HV.out.keep kW (fun k e hk => Hn.out (by rw [e, hk])), bW⟩⟩
      · cases gs with
        | nil => exact absurd rfl hT.ne
        | cons f gs =>
          have HF := Lib.hid (first_any m q f gs Q wr hT (fun k hk => HQ.out k (by omega)))
          clear hB hv hj hne hT
          go_upto_region 3 with (first | (go_at_call 29; refine hd.out.mono ?_; rintro e w2 ⟨rfl, rfl⟩) | (go_at_call 91; refine HF.out.mono ?_; rintro e w3 ⟨rest, rfl, hrest, hw3⟩; obtain ⟨ru, rfl⟩ := hrest.is; clear c0 c1 c2 c3 z0 z1 z2 z3; have z2 := (HB.out.below hw3 HB.out.lt).free 2; have c2 : w3.cell? ⟨t, 2, none⟩ = some (pV q) := (HB.out.below hw3 HB.out.lt).cell 2 _ rfl))
          have kW : Keep (fun k => k = t) wr (w3.setCell ⟨t, 2, none⟩ (.pointer ru)) := (Keep.ofBelow (Q := fun k => k = t) hw3).set (p := ⟨t, 2, none⟩) (fun _ => rfl) _
          have bW := (HB.out.below hw3 HB.out.lt).set 2 (.pointer ru)
          have hv4 := HV.out.keep kW (fun k e hk => Hn.out (by rw [e, hk]))
          have hj4 := JK.out _ _ _ _ hsz Hj.out kW
          have hr4 : TreeO (w3.setCell ⟨t, 2, none⟩ (.pointer ru)) Q (.pointer ru) gs := hrest.keep ((Keep.refl (fun k => k = t) w3).set (p := ⟨t, 2, none⟩) (fun _ => rfl) (.pointer ru)) (fun b hb hk => HQt.out (hk ▸ hb))
          have hs4 : w.heap.size ≤ (w3.setCell ⟨t, 2, none⟩ (.pointer ru)).heap.size := Nat.le_trans hsz kW.size
          clear c2 z2
          generalize w3.setCell ⟨t, 2, none⟩ (.pointer ru) = w4 at *
          have hval4 := Lib.hid (doneV_value n v w4 hv4)
          have hcall := Lib.hid (JN.out w4 n f gs v hs4 hj4 hv4)
          have HV4 := Lib.hid hr4
          have hk5 : gk = gs.length + 1 := hk0
          clear hv4 hj4 hr4 hk0 hrest
          go_wp2_with (first | (go_at_call 32; refine hval4.out.mono ?_; rintro e w5 ⟨rfl, rfl⟩) | (go_at_call 102; refine hcall.out.mono ?_; rintro e w6 ⟨k6, rfl, hj6, hw6⟩))
          go_roundg gs.length
          case measure => omega
          case rel => exact ⟨_, _, gs, rfl, rfl, bW.below hw6 bW.lt, HV4.out.keep (Keep.ofBelow (Q := fun _ => False) hw6) (fun _ _ h => h), hj6, hK.trans (kW.trans (Keep.ofBelow hw6))⟩
    · obtain ⟨k1, d, p, r1, g1, rfl, hL, hT1⟩ := hv
      have hd := Lib.hid (live_done k1 d p r1 wr hL)
      have hne1 : k1 ≠ t := fun e => hne (by rw [e])
      have a0 : wr.cell? ⟨k1, 0, none⟩ = some d := hL.blk.cell 0 _ rfl
      have a1 : wr.cell? ⟨k1, 1, none⟩ = some p := hL.blk.cell 1 _ rfl
      have a2 : wr.cell? ⟨k1, 2, none⟩ = some r1 := hL.blk.cell 2 _ rfl
      have c2 : wr.cell? ⟨t, 2, none⟩ = some r := hB.cell 2 _ rfl
      have hjn := Lib.hid fun W (hk : Keep (fun k => k = t) wr W) (ht2 : TreeO W Q r gs) => join_trees r1 r g1 gs Q W (hT1.keep hk fun b hb e => HQt.out (e ▸ hb)) ht2 (fun k hk2 => HQ.out k (by have := hk.size; omega))
      have hjl := Lib.hid fun W (hk : Keep (fun k => k = t) wr W) => hL.keep hk hne1
      have HTr := Lib.hid (show TreeO wr.drew Q r gs from hT.keep ((Keep.refl (fun _ => False) wr).drew) (fun _ _ h => h))
      have HBr : Hid (Blk wr.drew t 116 #[d0, p0, r, .int .i64 v0]) := Lib.hid hB
      have HL := Lib.hid hL
      have Hj := Lib.hid hj
      have ho := hL.op
      have hr1 := hT1.ptr
      have hr := hT.ptr
      have HT1 := Lib.hid hT1
      clear hB hj hL hT hT1 hk0
      go_upto_region 6 with (go_at_call 29; refine hd.out.mono ?_; rintro e w2 ⟨rfl, rfl⟩)
      have k0 : Keep (fun k => k = t) wr wr.drew := (Keep.refl _ _).drew
      have q2 : wr.drew.cell? ⟨t, 2, none⟩ = some r := HBr.out.cell 2 _ rfl
      obtain ⟨ru, rfl⟩ : ∃ u, r = .pointer u := by rcases hr with rfl | ⟨q, rfl⟩ <;> exact ⟨_, rfl⟩
      obtain ⟨r1u, rfl⟩ : ∃ u, r1 = .pointer u := by rcases hr1 with rfl | ⟨q, rfl⟩ <;> exact ⟨_, rfl⟩
      clear hr hr1 a0 a1 a2 c2 hd
      rcases ho with ⟨F, caps, rfl, rfl⟩ | ⟨q, rfl, rfl⟩
      · have SK := Lib.hid (show ∀ W, Keep (fun k => k = t) wr W → (fun W => (W.cell? ⟨k1, 0, none⟩ = some (cloV F caps) ∧ W.cell? ⟨k1, 1, none⟩ = some (.pointer none) ∧ W.cell? ⟨k1, 2, none⟩ = some (.pointer r1u))) W from fun W hk => ⟨(hjl.out W hk).blk.cell 0 _ rfl, (hjl.out W hk).blk.cell 1 _ rfl, (hjl.out W hk).blk.cell 2 _ rfl⟩)
        refine wp_region_held_drew (S := (fun W => (W.cell? ⟨k1, 0, none⟩ = some (cloV F caps) ∧ W.cell? ⟨k1, 1, none⟩ = some (.pointer none) ∧ W.cell? ⟨k1, 2, none⟩ = some (.pointer r1u)))) (by kernel_rfl) (SK.out _ k0) (fun hHeld => ?_)
        refine wpAnyH_take (i := 0) (oi := _) (v := ?_) rfl (by kernel_rfl) (by kernel_rfl) (by kernel_rfl) (fun _ _ _ h => h) (Or.inl ⟨by rfl, ?_⟩) (by assumption) ?_
        rotate_left
        · intro w hSw; (try dsimp only at hSw); go_simp; try with_reducible rfl
        (try simp only [Act.put, List.setIfInBounds_toArray, List.set_cons_zero, List.set_cons_succ])
        refine wpAnyH_take (i := 1) (oi := _) (v := ?_) rfl (by kernel_rfl) (by kernel_rfl) (by kernel_rfl) (fun _ _ _ h => h) (Or.inl ⟨by rfl, ?_⟩) (by assumption) ?_
        rotate_left
        · intro w hSw; (try dsimp only at hSw); go_simp; try with_reducible rfl
        (try simp only [Act.put, List.setIfInBounds_toArray, List.set_cons_zero, List.set_cons_succ])
        refine wpAnyH_take (i := 2) (oi := _) (v := ?_) rfl (by kernel_rfl) (by kernel_rfl) (by kernel_rfl) (fun _ _ _ h => h) (Or.inl ⟨by rfl, ?_⟩) (by assumption) ?_
        rotate_left
        · intro w hSw; (try dsimp only at hSw); go_simp; try with_reducible rfl
        (try simp only [Act.put, List.setIfInBounds_toArray, List.set_cons_zero, List.set_cons_succ])
        refine wpAnyH_take (i := 3) (oi := _) (v := ?_) rfl (by kernel_rfl) (by kernel_rfl) (by kernel_rfl) (fun _ _ _ h => h) (Or.inl ⟨by rfl, ?_⟩) (by assumption) ?_
        rotate_left
        · intro w hSw; (try dsimp only at hSw); go_simp; try with_reducible rfl
        (try simp only [Act.put, List.setIfInBounds_toArray, List.set_cons_zero, List.set_cons_succ])
        refine wpAnyH_take (i := 4) (oi := _) (v := ?_) rfl (by kernel_rfl) (by kernel_rfl) (by kernel_rfl) (fun _ _ _ h => h) (Or.inl ⟨by rfl, ?_⟩) (by assumption) ?_
        rotate_left
        · intro w hSw; (try dsimp only at hSw); go_simp; try with_reducible rfl
        (try simp only [Act.put, List.setIfInBounds_toArray, List.set_cons_zero, List.set_cons_succ])
        refine wpAnyH_take (i := 5) (oi := _) (v := ?_) rfl (by kernel_rfl) (by kernel_rfl) (by kernel_rfl) (fun _ _ _ h => h) (Or.inl ⟨by rfl, ?_⟩) (by assumption) ?_
        rotate_left
        · intro w hSw; (try dsimp only at hSw); go_simp; try with_reducible rfl
        (try simp only [Act.put, List.setIfInBounds_toArray, List.set_cons_zero, List.set_cons_succ])
        refine wpAnyH_take (i := 6) (oi := _) (v := ?_) rfl (by kernel_rfl) (by kernel_rfl) (by kernel_rfl) (fun _ _ _ h => h) (Or.inl ⟨by rfl, ?_⟩) (by assumption) ?_
        rotate_left
        · intro w hSw; (try dsimp only at hSw); go_simp; try with_reducible rfl
        (try simp only [Act.put, List.setIfInBounds_toArray, List.set_cons_zero, List.set_cons_succ])
        refine wpAnyH_take (i := 7) (oi := _) (v := ?_) rfl (by kernel_rfl) (by kernel_rfl) (by kernel_rfl) (fun _ _ _ h => h) (Or.inl ⟨by rfl, ?_⟩) (by assumption) ?_
        rotate_left
        · intro w hSw; (try dsimp only at hSw); go_simp; try with_reducible rfl
        (try simp only [Act.put, List.setIfInBounds_toArray, List.set_cons_zero, List.set_cons_succ])
        refine wpAnyH_take (i := 8) (oi := _) (v := ?_) rfl (by kernel_rfl) (by kernel_rfl) (by kernel_rfl) (fun _ _ _ h => h) (Or.inl ⟨by rfl, ?_⟩) (by assumption) ?_
        rotate_left
        · intro w hSw; (try dsimp only at hSw); go_simp; try with_reducible rfl
        (try simp only [Act.put, List.setIfInBounds_toArray, List.set_cons_zero, List.set_cons_succ])
        refine wpAnyH_take (i := 9) (oi := _) (v := ?_) rfl (by kernel_rfl) (by kernel_rfl) (by kernel_rfl) (fun _ _ _ h => h) (Or.inl ⟨by rfl, ?_⟩) (by assumption) ?_
        rotate_left
        · intro w hSw; (try dsimp only at hSw); go_simp; try with_reducible rfl
        (try simp only [Act.put, List.setIfInBounds_toArray, List.set_cons_zero, List.set_cons_succ])
        refine wpAnyH_take (i := 10) (oi := _) (v := ?_) rfl (by kernel_rfl) (by kernel_rfl) (by kernel_rfl) (fun _ _ _ h => h) (Or.inl ⟨by rfl, ?_⟩) (by assumption) ?_
        rotate_left
        · intro w hSw; (try dsimp only at hSw); go_simp; try with_reducible rfl
        (try simp only [Act.put, List.setIfInBounds_toArray, List.set_cons_zero, List.set_cons_succ])
        refine wpAnyH_take (i := 11) (oi := _) (v := ?_) rfl (by kernel_rfl) (by kernel_rfl) (by kernel_rfl) (fun _ _ _ h => h) (Or.inl ⟨by rfl, ?_⟩) (by assumption) ?_
        rotate_left
        · intro w hSw; (try dsimp only at hSw); go_simp; try with_reducible rfl
        (try simp only [Act.put, List.setIfInBounds_toArray, List.set_cons_zero, List.set_cons_succ])
        refine wpAnyH_take (i := 12) (oi := _) (v := ?_) rfl (by kernel_rfl) (by kernel_rfl) (by kernel_rfl) (fun _ _ _ h => h) (Or.inl ⟨by rfl, ?_⟩) (by assumption) ?_
        rotate_left
        · intro w hSw; (try dsimp only at hSw); go_simp; try with_reducible rfl
        (try simp only [Act.put, List.setIfInBounds_toArray, List.set_cons_zero, List.set_cons_succ])
        refine wpAnyH_ready (rs := [13]) (by kernel_rfl) (by simp) ?_
        refine AllReadyH.cons rfl (fun K hK => ?_) AllReadyH.nil
        go_simp
        go_wp2_with fail
        refine hK.out _ _ (SK.out _ k0) (fun hHeld => ?_)
        clear hK K
        (try dsimp only [Act.put]); (try simp only [Act.put, List.setIfInBounds_toArray, List.set_cons_zero, List.set_cons_succ])
        refine wpAnyH_ready (rs := [14]) (by kernel_rfl) (by simp) ?_
        refine AllReadyH.cons rfl (fun K hK => ?_) AllReadyH.nil
        go_simp
        go_at_call 92
        refine (hjn.out _ k0 HTr.out).mono ?_
        rintro e w3 ⟨j, rfl, hjt, hw3⟩
        obtain ⟨ju, rfl⟩ := hjt.is
        have k3 := k0.trans (Keep.ofBelow (Q := fun k => k = t) hw3)
        have B3 := HBr.out.below hw3 HBr.out.lt
        clear q2
        go_wp2_with fail
        refine hK.out _ _ (SK.out _ k3) (fun hHeld => ?_)
        clear hK K
        (try dsimp only [Act.put]); (try simp only [Act.put, List.setIfInBounds_toArray, List.set_cons_zero, List.set_cons_succ])
        have q0 : w3.cell? ⟨t, 0, none⟩ = some d0 := B3.cell 0 _ rfl
        have q1 : w3.cell? ⟨t, 1, none⟩ = some p0 := B3.cell 1 _ rfl
        have z0 := B3.free 0
        have z1 := B3.free 1
        refine wpAnyH_take (i := 15) (oi := _) (v := ?_) rfl (by kernel_rfl) (by kernel_rfl) (by kernel_rfl) (fun _ _ _ h => h) (Or.inl ⟨by rfl, ?_⟩) (by assumption) ?_
        rotate_left
        · intro w hSw; (try dsimp only at hSw); go_simp; try with_reducible rfl
        (try simp only [Act.put, List.setIfInBounds_toArray, List.set_cons_zero, List.set_cons_succ])
        refine wpAnyH_take (i := 16) (oi := _) (v := ?_) rfl (by kernel_rfl) (by kernel_rfl) (by kernel_rfl) (fun _ _ _ h => h) (Or.inl ⟨by rfl, ?_⟩) (by assumption) ?_
        rotate_left
        · intro w hSw; (try dsimp only at hSw); go_simp; try with_reducible rfl
        (try simp only [Act.put, List.setIfInBounds_toArray, List.set_cons_zero, List.set_cons_succ])
        have k4 : Keep (fun k => k = t) wr ((w3.setCell ⟨t, 0, none⟩ (cloV F caps)).setCell ⟨t, 1, none⟩ (.pointer none)) := (k3.set (p := ⟨t, 0, none⟩) (fun _ => rfl) _).set (p := ⟨t, 1, none⟩) (fun _ => rfl) _
        refine wpAnyH_ready (rs := [17]) (by kernel_rfl) (by simp) ?_
        refine AllReadyH.cons rfl (fun K hK => ?_) AllReadyH.nil
        go_simp
        go_wp2_with fail
        refine hK.out _ _ (SK.out _ k4) (fun hHeld => ?_)
        clear hK K
        (try dsimp only [Act.put]); (try simp only [Act.put, List.setIfInBounds_toArray, List.set_cons_zero, List.set_cons_succ])
        have B4 := (B3.set 0 (cloV F caps)).set 1 (.pointer none)
        have hjt4 : TreeO ((w3.setCell ⟨t, 0, none⟩ (cloV F caps)).setCell ⟨t, 1, none⟩ (.pointer none)) Q (.pointer ju) (g1 ++ gs) := hjt.keep (((Keep.refl (fun k => k = t) w3).set (p := ⟨t, 0, none⟩) (fun _ => rfl) _).set (p := ⟨t, 1, none⟩) (fun _ => rfl) _) (fun b hb e => HQt.out (e ▸ hb))
        clear q0 q1 z0 z1 hHeld
        generalize ((w3.setCell ⟨t, 0, none⟩ (cloV F caps)).setCell ⟨t, 1, none⟩ (.pointer none)) = w4 at *
        have hHeld := SK.out _ k4
        have q2 : w4.cell? ⟨t, 2, none⟩ = some (.pointer ru) := B4.cell 2 _ rfl
        have z2 := B4.free 2
        have k5 : Keep (fun k => k = t) wr (w4.setCell ⟨t, 2, none⟩ (.pointer ju)) := k4.set (p := ⟨t, 2, none⟩) (fun _ => rfl) _
        refine wpAnyH_take (i := 18) (oi := _) (v := ?_) rfl (by kernel_rfl) (by kernel_rfl) (by kernel_rfl) (fun _ _ _ h => h) (Or.inl ⟨by rfl, ?_⟩) (by assumption) ?_
        rotate_left
        · intro w hSw; (try dsimp only at hSw); go_simp; try with_reducible rfl
        (try simp only [Act.put, List.setIfInBounds_toArray, List.set_cons_zero, List.set_cons_succ])
        refine wpAnyH_take (i := 19) (oi := _) (v := ?_) rfl (by kernel_rfl) (by kernel_rfl) (by kernel_rfl) (fun _ _ _ h => h) (Or.inl ⟨by rfl, ?_⟩) (by assumption) ?_
        rotate_left
        · intro w hSw; (try dsimp only at hSw); go_simp; try with_reducible rfl
        (try simp only [Act.put, List.setIfInBounds_toArray, List.set_cons_zero, List.set_cons_succ])
        refine wpAnyH_ready (rs := [20]) (by kernel_rfl) (by simp) ?_
        refine AllReadyH.cons rfl (fun K hK => ?_) AllReadyH.nil
        go_simp
        go_wp2_with fail
        refine hK.out _ _ (SK.out _ k5) (fun hHeld => ?_)
        clear hK K
        (try dsimp only [Act.put]); (try simp only [Act.put, List.setIfInBounds_toArray, List.set_cons_zero, List.set_cons_succ])
        refine wpAnyH_done (by kernel_rfl) ?_ _
        have bW := B4.set 2 (.pointer ju)
        have k6 : Keep (fun k => k = t) w4 (w4.setCell ⟨t, 2, none⟩ (.pointer ju)) := (Keep.refl (fun k => k = t) w4).set (p := ⟨t, 2, none⟩) (fun _ => rfl) _
        go_end0
        refine ⟨rfl, hK.trans k5, some ⟨k1, 0, none⟩, gs, JK.out _ _ _ _ hsz Hj.out k5, .inr ⟨k1, _, _, _, g1, _, rfl, hjl.out _ k5, HT1.out.keep k5 (fun b hb e => HQt.out (e ▸ hb)), hjt4.keep k6 (fun b hb e => HQt.out (e ▸ hb)), bW⟩⟩
      · have SK := Lib.hid (show ∀ W, Keep (fun k => k = t) wr W → (fun W => (W.cell? ⟨k1, 0, none⟩ = some (.nilFunc) ∧ W.cell? ⟨k1, 1, none⟩ = some (pV q) ∧ W.cell? ⟨k1, 2, none⟩ = some (.pointer r1u))) W from fun W hk => ⟨(hjl.out W hk).blk.cell 0 _ rfl, (hjl.out W hk).blk.cell 1 _ rfl, (hjl.out W hk).blk.cell 2 _ rfl⟩)
        refine wp_region_held_drew (S := (fun W => (W.cell? ⟨k1, 0, none⟩ = some (.nilFunc) ∧ W.cell? ⟨k1, 1, none⟩ = some (pV q) ∧ W.cell? ⟨k1, 2, none⟩ = some (.pointer r1u)))) (by kernel_rfl) (SK.out _ k0) (fun hHeld => ?_)
        refine wpAnyH_take (i := 0) (oi := _) (v := ?_) rfl (by kernel_rfl) (by kernel_rfl) (by kernel_rfl) (fun _ _ _ h => h) (Or.inl ⟨by rfl, ?_⟩) (by assumption) ?_
        rotate_left
        · intro w hSw; (try dsimp only at hSw); go_simp; try with_reducible rfl
        (try simp only [Act.put, List.setIfInBounds_toArray, List.set_cons_zero, List.set_cons_succ])
        refine wpAnyH_take (i := 1) (oi := _) (v := ?_) rfl (by kernel_rfl) (by kernel_rfl) (by kernel_rfl) (fun _ _ _ h => h) (Or.inl ⟨by rfl, ?_⟩) (by assumption) ?_
        rotate_left
        · intro w hSw; (try dsimp only at hSw); go_simp; try with_reducible rfl
        (try simp only [Act.put, List.setIfInBounds_toArray, List.set_cons_zero, List.set_cons_succ])
        refine wpAnyH_take (i := 2) (oi := _) (v := ?_) rfl (by kernel_rfl) (by kernel_rfl) (by kernel_rfl) (fun _ _ _ h => h) (Or.inl ⟨by rfl, ?_⟩) (by assumption) ?_
        rotate_left
        · intro w hSw; (try dsimp only at hSw); go_simp; try with_reducible rfl
        (try simp only [Act.put, List.setIfInBounds_toArray, List.set_cons_zero, List.set_cons_succ])
        refine wpAnyH_take (i := 3) (oi := _) (v := ?_) rfl (by kernel_rfl) (by kernel_rfl) (by kernel_rfl) (fun _ _ _ h => h) (Or.inl ⟨by rfl, ?_⟩) (by assumption) ?_
        rotate_left
        · intro w hSw; (try dsimp only at hSw); go_simp; try with_reducible rfl
        (try simp only [Act.put, List.setIfInBounds_toArray, List.set_cons_zero, List.set_cons_succ])
        refine wpAnyH_take (i := 4) (oi := _) (v := ?_) rfl (by kernel_rfl) (by kernel_rfl) (by kernel_rfl) (fun _ _ _ h => h) (Or.inl ⟨by rfl, ?_⟩) (by assumption) ?_
        rotate_left
        · intro w hSw; (try dsimp only at hSw); go_simp; try with_reducible rfl
        (try simp only [Act.put, List.setIfInBounds_toArray, List.set_cons_zero, List.set_cons_succ])
        refine wpAnyH_take (i := 5) (oi := _) (v := ?_) rfl (by kernel_rfl) (by kernel_rfl) (by kernel_rfl) (fun _ _ _ h => h) (Or.inl ⟨by rfl, ?_⟩) (by assumption) ?_
        rotate_left
        · intro w hSw; (try dsimp only at hSw); go_simp; try with_reducible rfl
        (try simp only [Act.put, List.setIfInBounds_toArray, List.set_cons_zero, List.set_cons_succ])
        refine wpAnyH_take (i := 6) (oi := _) (v := ?_) rfl (by kernel_rfl) (by kernel_rfl) (by kernel_rfl) (fun _ _ _ h => h) (Or.inl ⟨by rfl, ?_⟩) (by assumption) ?_
        rotate_left
        · intro w hSw; (try dsimp only at hSw); go_simp; try with_reducible rfl
        (try simp only [Act.put, List.setIfInBounds_toArray, List.set_cons_zero, List.set_cons_succ])
        refine wpAnyH_take (i := 7) (oi := _) (v := ?_) rfl (by kernel_rfl) (by kernel_rfl) (by kernel_rfl) (fun _ _ _ h => h) (Or.inl ⟨by rfl, ?_⟩) (by assumption) ?_
        rotate_left
        · intro w hSw; (try dsimp only at hSw); go_simp; try with_reducible rfl
        (try simp only [Act.put, List.setIfInBounds_toArray, List.set_cons_zero, List.set_cons_succ])
        refine wpAnyH_take (i := 8) (oi := _) (v := ?_) rfl (by kernel_rfl) (by kernel_rfl) (by kernel_rfl) (fun _ _ _ h => h) (Or.inl ⟨by rfl, ?_⟩) (by assumption) ?_
        rotate_left
        · intro w hSw; (try dsimp only at hSw); go_simp; try with_reducible rfl
        (try simp only [Act.put, List.setIfInBounds_toArray, List.set_cons_zero, List.set_cons_succ])
        refine wpAnyH_take (i := 9) (oi := _) (v := ?_) rfl (by kernel_rfl) (by kernel_rfl) (by kernel_rfl) (fun _ _ _ h => h) (Or.inl ⟨by rfl, ?_⟩) (by assumption) ?_
        rotate_left
        · intro w hSw; (try dsimp only at hSw); go_simp; try with_reducible rfl
        (try simp only [Act.put, List.setIfInBounds_toArray, List.set_cons_zero, List.set_cons_succ])
        refine wpAnyH_take (i := 10) (oi := _) (v := ?_) rfl (by kernel_rfl) (by kernel_rfl) (by kernel_rfl) (fun _ _ _ h => h) (Or.inl ⟨by rfl, ?_⟩) (by assumption) ?_
        rotate_left
        · intro w hSw; (try dsimp only at hSw); go_simp; try with_reducible rfl
        (try simp only [Act.put, List.setIfInBounds_toArray, List.set_cons_zero, List.set_cons_succ])
        refine wpAnyH_take (i := 11) (oi := _) (v := ?_) rfl (by kernel_rfl) (by kernel_rfl) (by kernel_rfl) (fun _ _ _ h => h) (Or.inl ⟨by rfl, ?_⟩) (by assumption) ?_
        rotate_left
        · intro w hSw; (try dsimp only at hSw); go_simp; try with_reducible rfl
        (try simp only [Act.put, List.setIfInBounds_toArray, List.set_cons_zero, List.set_cons_succ])
        refine wpAnyH_take (i := 12) (oi := _) (v := ?_) rfl (by kernel_rfl) (by kernel_rfl) (by kernel_rfl) (fun _ _ _ h => h) (Or.inl ⟨by rfl, ?_⟩) (by assumption) ?_
        rotate_left
        · intro w hSw; (try dsimp only at hSw); go_simp; try with_reducible rfl
        (try simp only [Act.put, List.setIfInBounds_toArray, List.set_cons_zero, List.set_cons_succ])
        refine wpAnyH_ready (rs := [13]) (by kernel_rfl) (by simp) ?_
        refine AllReadyH.cons rfl (fun K hK => ?_) AllReadyH.nil
        go_simp
        go_wp2_with fail
        refine hK.out _ _ (SK.out _ k0) (fun hHeld => ?_)
        clear hK K
        (try dsimp only [Act.put]); (try simp only [Act.put, List.setIfInBounds_toArray, List.set_cons_zero, List.set_cons_succ])
        refine wpAnyH_ready (rs := [14]) (by kernel_rfl) (by simp) ?_
        refine AllReadyH.cons rfl (fun K hK => ?_) AllReadyH.nil
        go_simp
        go_at_call 92
        refine (hjn.out _ k0 HTr.out).mono ?_
        rintro e w3 ⟨j, rfl, hjt, hw3⟩
        obtain ⟨ju, rfl⟩ := hjt.is
        have k3 := k0.trans (Keep.ofBelow (Q := fun k => k = t) hw3)
        have B3 := HBr.out.below hw3 HBr.out.lt
        clear q2
        go_wp2_with fail
        refine hK.out _ _ (SK.out _ k3) (fun hHeld => ?_)
        clear hK K
        (try dsimp only [Act.put]); (try simp only [Act.put, List.setIfInBounds_toArray, List.set_cons_zero, List.set_cons_succ])
        have q0 : w3.cell? ⟨t, 0, none⟩ = some d0 := B3.cell 0 _ rfl
        have q1 : w3.cell? ⟨t, 1, none⟩ = some p0 := B3.cell 1 _ rfl
        have z0 := B3.free 0
        have z1 := B3.free 1
        refine wpAnyH_take (i := 15) (oi := _) (v := ?_) rfl (by kernel_rfl) (by kernel_rfl) (by kernel_rfl) (fun _ _ _ h => h) (Or.inl ⟨by rfl, ?_⟩) (by assumption) ?_
        rotate_left
        · intro w hSw; (try dsimp only at hSw); go_simp; try with_reducible rfl
        (try simp only [Act.put, List.setIfInBounds_toArray, List.set_cons_zero, List.set_cons_succ])
        refine wpAnyH_take (i := 16) (oi := _) (v := ?_) rfl (by kernel_rfl) (by kernel_rfl) (by kernel_rfl) (fun _ _ _ h => h) (Or.inl ⟨by rfl, ?_⟩) (by assumption) ?_
        rotate_left
        · intro w hSw; (try dsimp only at hSw); go_simp; try with_reducible rfl
        (try simp only [Act.put, List.setIfInBounds_toArray, List.set_cons_zero, List.set_cons_succ])
        have k4 : Keep (fun k => k = t) wr ((w3.setCell ⟨t, 0, none⟩ (.nilFunc)).setCell ⟨t, 1, none⟩ (pV q)) := (k3.set (p := ⟨t, 0, none⟩) (fun _ => rfl) _).set (p := ⟨t, 1, none⟩) (fun _ => rfl) _
        refine wpAnyH_ready (rs := [17]) (by kernel_rfl) (by simp) ?_
        refine AllReadyH.cons rfl (fun K hK => ?_) AllReadyH.nil
        go_simp
        go_wp2_with fail
        refine hK.out _ _ (SK.out _ k4) (fun hHeld => ?_)
        clear hK K
        (try dsimp only [Act.put]); (try simp only [Act.put, List.setIfInBounds_toArray, List.set_cons_zero, List.set_cons_succ])
        have B4 := (B3.set 0 (.nilFunc)).set 1 (pV q)
        have hjt4 : TreeO ((w3.setCell ⟨t, 0, none⟩ (.nilFunc)).setCell ⟨t, 1, none⟩ (pV q)) Q (.pointer ju) (g1 ++ gs) := hjt.keep (((Keep.refl (fun k => k = t) w3).set (p := ⟨t, 0, none⟩) (fun _ => rfl) _).set (p := ⟨t, 1, none⟩) (fun _ => rfl) _) (fun b hb e => HQt.out (e ▸ hb))
        clear q0 q1 z0 z1 hHeld
        generalize ((w3.setCell ⟨t, 0, none⟩ (.nilFunc)).setCell ⟨t, 1, none⟩ (pV q)) = w4 at *
        have hHeld := SK.out _ k4
        have q2 : w4.cell? ⟨t, 2, none⟩ = some (.pointer ru) := B4.cell 2 _ rfl
        have z2 := B4.free 2
        have k5 : Keep (fun k => k = t) wr (w4.setCell ⟨t, 2, none⟩ (.pointer ju)) := k4.set (p := ⟨t, 2, none⟩) (fun _ => rfl) _
        refine wpAnyH_take (i := 18) (oi := _) (v := ?_) rfl (by kernel_rfl) (by kernel_rfl) (by kernel_rfl) (fun _ _ _ h => h) (Or.inl ⟨by rfl, ?_⟩) (by assumption) ?_
        rotate_left
        · intro w hSw; (try dsimp only at hSw); go_simp; try with_reducible rfl
        (try simp only [Act.put, List.setIfInBounds_toArray, List.set_cons_zero, List.set_cons_succ])
        refine wpAnyH_take (i := 19) (oi := _) (v := ?_) rfl (by kernel_rfl) (by kernel_rfl) (by kernel_rfl) (fun _ _ _ h => h) (Or.inl ⟨by rfl, ?_⟩) (by assumption) ?_
        rotate_left
        · intro w hSw; (try dsimp only at hSw); go_simp; try with_reducible rfl
        (try simp only [Act.put, List.setIfInBounds_toArray, List.set_cons_zero, List.set_cons_succ])
        refine wpAnyH_ready (rs := [20]) (by kernel_rfl) (by simp) ?_
        refine AllReadyH.cons rfl (fun K hK => ?_) AllReadyH.nil
        go_simp
        go_wp2_with fail
        refine hK.out _ _ (SK.out _ k5) (fun hHeld => ?_)
        clear hK K
        (try dsimp only [Act.put]); (try simp only [Act.put, List.setIfInBounds_toArray, List.set_cons_zero, List.set_cons_succ])
        refine wpAnyH_done (by kernel_rfl) ?_ _
        have bW := B4.set 2 (.pointer ju)
        have k6 : Keep (fun k => k = t) w4 (w4.setCell ⟨t, 2, none⟩ (.pointer ju)) := (Keep.refl (fun k => k = t) w4).set (p := ⟨t, 2, none⟩) (fun _ => rfl) _
        go_end0
        refine ⟨rfl, hK.trans k5, some ⟨k1, 0, none⟩, gs, JK.out _ _ _ _ hsz Hj.out k5, .inr ⟨k1, _, _, _, g1, _, rfl, hjl.out _ k5, HT1.out.keep k5 (fun b hb e => HQt.out (e ▸ hb)), hjt4.keep k6 (fun b hb e => HQt.out (e ▸ hb)), bW⟩⟩
end Go.Proofs.Ytmkgbbbhmbejnaa
