/- Package machine: Make of no function; a nil machine's Add and Make. -/
import Derived.Test.YtgcmnaiiifaajaaMacL
namespace Go.Proofs.Ytgcmnaiiifaajaa
open Go.ChangeShapes Go.WideShapes Go.ChangeAt Go.RowKit
set_option linter.unusedVariables false
set_option maxRecDepth 100000
set_option linter.unusedSimpArgs false
theorem catchM_panic (v : Value) (older : List PanicEntry) (w : World) : CallsD Try.prog 63 #[] (.panicking ({ v := v, recovered := false } :: older)) w fun e u' w' => e = .returned (.tuple #[]) ∧ u' = .panicking ({ v := v, recovered := true } :: older) ∧ w' = w := by
  refine callsD_of_wpS Try.func63 rfl fun c₀ cs hu => ?_
  apply wpS_region
  simp [wpOpsS, go_sem, recoverD, hu, Try.ntmps63, Exit.thenS, bodyPostS, results, Try.results63]
theorem called_nil (i : Int) (w : World) : Calls Try.prog 46 #[.nilFunc, .int .i64 i] w fun e w' => e = .returned (.pointer none) ∧ w = w' := by
  go_enter_defers Try.func46, Try.ntmps46
  go_wp2_with fail
  refine leaves_cons (f := 63) (args := #[]) (by simp) (by simp [go_sem]) ?_
  refine (catchM_panic _ [] _).mono ?_
  rintro e u' w'' ⟨rfl, rfl, rfl⟩
  simp [Leaves, settle, results, Try.results46, go_sem]
theorem make1_nil (bs bn : Nat) (w : World) (h1 : Blk w bs 3 #[.int .i64 0]) (h2 : Blk w bn 43 #[.nilFunc]) : Calls Try.prog 45 #[pV bs, pV bn] w fun e w' => e = .returned (.pointer none) ∧ Keep (fun b => b = bs) w w' := by
  have c0 := h1.cell 0 _ rfl
  have z0 := h1.free 0
  have hne : bs ≠ bn := h1.apart h2 (by decide)
  have c1 : (w.setCell ⟨bs, 0, none⟩ (.int .i64 1)).cell? ⟨bn, 0, none⟩ = some .nilFunc := (h2.far (Ne.symm hne) 0 _).cell 0 _ rfl
  have hk := keep_one w bs 0 (.int .i64 1)
  clear h1 h2
  go_enter Try.func45, Try.ntmps45
  go_wp2_with (go_at_call 46; refine (called_nil _ _).mono ?_; rintro e w2 ⟨rfl, rfl⟩)
  go_ret
  exact ⟨rfl, hk⟩
set_option maxHeartbeats 2000000 in
theorem add_none (C P M bs bn : Nat) (U : Nat → Prop) (L : List Th) (w : World) (h : MachAt w C P M U L) (hb : Blk w bs 3 #[.int .i64 0]) (hb2 : Blk w bn 43 #[.nilFunc]) (hs : ¬ U bs) (hs2 : ¬ U bn) (hf : L.length + 1 ≤ 1000) :
    Calls Try.prog 30 #[pV M, cloV 45 #[pV bs, pV bn]] w fun e w' => e = .returned (.int .i64 L.length) ∧ (∃ X O1 U', MachAt w' C P M U' (L ++ [⟨X, O1, ([], [])⟩]) ∧ ∀ b, U' b → U b ∨ w.heap.size ≤ b) ∧ Keep (fun b => U b ∨ b = bs) w w' := by
  have hbsl := hb.lt
  obtain ⟨p0, hp0, hp1, hp2, hp3⟩ := info_parts pthread_info
  obtain ⟨u, n0, h1, h2, h3, h4⟩ := h.own
  obtain ⟨ua, uc, rfl⟩ : ∃ a c, u = .slice a L.length c := by
    rcases h2.2 with ⟨rfl, h0⟩ | ⟨g, cap, cur, rfl, _⟩
    · exact ⟨none, 0, by rw [h0]⟩
    · exact ⟨_, _, rfl⟩
  have c0 : w.cell? ⟨M, 0, none⟩ = some (.slice ua L.length uc) := h1.cell 0 _ rfl
  have H1 := Lib.hid h1
  have H2 := Lib.hid h2
  have hMl := h1.lt
  have hX0 : w.heap.size = w.heap.size := rfl
  go_enter Try.func30, Try.ntmps30
  go_upto_region 3 with fail
  go_cut [5, 6] from 9 to 16 (fun s5 s6 wx => s5 = pV w.heap.size ∧ s6 = .int .i64 (L.length : Int) ∧ Blk wx w.heap.size 84 #[.pointer none, cloV 45 #[pV bs, pV bn], .slice none 0 0] ∧ Below w.heap.size w wx)
  case first =>
    go_region_held3 (fun W => W.cell? ⟨M, 0, none⟩ = some (.slice ua L.length uc)) (first | exact c0 | exact (H1.out.alloc _).cell 0 _ rfl) (fail)
    all_goals
      go_wp2_with fail
      go_meet
      refine ⟨rfl, rfl, Blk.new w _ _, bdrewN ((Below.refl _ w).alloc (Nat.le_refl _) _) 1⟩
  case rest =>
    obtain ⟨rfl, rfl, hX, hB⟩ := hcut
    have k1 : Keep (fun _ => False) w wc := Keep.ofBelow hB
    have hXl := hX.lt
    have m1 := H1.out.keep k1 (fun h => h)
    have o1 := row_ownkeep H2.out k1 (fun _ _ h => h)
    have c1 : wc.cell? ⟨M, 0, none⟩ = some (.slice ua L.length uc) := m1.cell 0 _ rfl
    have hfew := h.few
    have hs1 := hB.size
    have h3' : n0 ≤ wc.heap.size := by omega
    have HX := Lib.hid hX
    have HM1 := Lib.hid m1
    clear c0 h1 h2 hX m1
    go_upto_region 5 with (at_builtin; refine wpList_append_own2 _ rfl _ _ 59 rfl n0 68 p0 (.pointer none) 1 8 Try.underlying59 hp0 hp1 hp2 hp3 rfl (by decide) _ _ _ rfl (o1.alloc _) ⟨wc.heap.size, 0, none⟩ 1 1 [pV w.heap.size] rfl rfl (cell_one_new _ _ _) (by simp [Value.oneCell']) (by unfold maxLen; omega) (by omega) (by simp; omega) (by omega) ?_; intro g2 cap2 w2 hr2 hgr2 hg2; have m2 := HM1.out.keep (grown_keep hgr2) (fun e => by have := (row_lt o1 e).2; obtain ⟨_, hb⟩ := this; exact HM1.out.apart hb (by decide) rfl); have d0 := m2.cell 0 _ rfl; have z0 := m2.free 0)
    have kA : Keep (fun b => (Value.slice ua L.length uc).ownBlock = some b ∨ b = M) w (w2.setCell ⟨M, 0, none⟩ (.slice (some ⟨g2, 0, none⟩) (L.length + 1) cap2)) := ((k1.mono (fun _ _ h => h.elim)).step (grown_keep hgr2) (fun _ _ e => .inl e)).step (keep_one w2 M 0 _) (fun _ _ e => .inr e)
    have kX : Keep (fun b => (Value.slice ua L.length uc).ownBlock = some b ∨ b = M) wc (w2.setCell ⟨M, 0, none⟩ (.slice (some ⟨g2, 0, none⟩) (L.length + 1) cap2)) := ((grown_keep hgr2).mono (fun _ _ e => .inl e)).step (keep_one w2 M 0 _) (fun _ _ e => .inr e)
    have g2b := (row_lt hr2 (g := g2) rfl)
    obtain ⟨g2l, g2c, g2k⟩ := g2b
    have g2M : g2 ≠ M := g2k.apart m2 (by decide)
    have X2 : Blk w2 w.heap.size 84 #[.pointer none, cloV 45 #[pV bs, pV bn], .slice none 0 0] := HX.out.keep (grown_keep hgr2) (fun e => by obtain ⟨_, _, hb⟩ := row_lt o1 e; exact HX.out.apart hb (by decide) rfl)
    have g2X : g2 ≠ w.heap.size := g2k.apart X2 (by decide)
    have X3 : Blk (w2.setCell ⟨M, 0, none⟩ (.slice (some ⟨g2, 0, none⟩) (L.length + 1) cap2)) w.heap.size 84 #[.pointer none, cloV 45 #[pV bs, pV bn], .slice none 0 0] := X2.far (by omega) 0 _
    have m3 : Blk (w2.setCell ⟨M, 0, none⟩ (.slice (some ⟨g2, 0, none⟩) (L.length + 1) cap2)) M 61 #[.slice (some ⟨g2, 0, none⟩) (L.length + 1) cap2] := m2.set 0 _
    have hr3 := row_ownkeep hr2 (keep_one w2 M 0 (.slice (some ⟨g2, 0, none⟩) (L.length + 1) cap2)) (fun g' e => by rw [← own_some e]; exact g2M)
    have hs3 : wc.heap.size ≤ (w2.setCell ⟨M, 0, none⟩ (.slice (some ⟨g2, 0, none⟩) (L.length + 1) cap2)).heap.size := kX.size
    have g2l3 : g2 < (w2.setCell ⟨M, 0, none⟩ (.slice (some ⟨g2, 0, none⟩) (L.length + 1) cap2)).heap.size := by rw [World.size_setCell]; exact g2l
    replace hg2 : (Value.slice ua L.length uc).ownBlock = some g2 ∨ wc.heap.size + 1 ≤ g2 := hg2.imp id (fun h => by rw [World.size_alloc] at h; exact h)
    clear d0 z0 m2 X2 hr2 g2k g2l c1
    generalize w2.setCell ⟨M, 0, none⟩ (.slice (some ⟨g2, 0, none⟩) (L.length + 1) cap2) = W3 at *
    have s3 : Keep (fun b => (Value.slice ua L.length uc).ownBlock = some b ∨ b = M) w W3 := kA
    have nbs : ¬ ((Value.slice ua L.length uc).ownBlock = some bs ∨ bs = M) := fun h' => h'.elim (fun e => hs (h4 bs e).1) (fun e => hs (e ▸ h.mine.1))
    have nbn : ¬ ((Value.slice ua L.length uc).ownBlock = some bn ∨ bn = M) := fun h' => h'.elim (fun e => hs2 (h4 bn e).1) (fun e => hs2 (e ▸ h.mine.1))
    have HS := Lib.hid (make1_nil bs bn W3 (hb.keep kA nbs) (hb2.keep kA nbn))
    have x31 : W3.cell? ⟨w.heap.size, 1, none⟩ = some (cloV 45 #[pV bs, pV bn]) := X3.cell 1 _ rfl
    have nX : bs ≠ w.heap.size := by have := hb.lt; omega
    have HG : Hid (∀ w4, Keep (fun b => b = bs) W3 w4 →
        Calls Try.prog 52 #[pV w.heap.size] (w4.setCell ⟨w.heap.size, 0, none⟩ (.pointer none)) fun e w' => e = .returned (.tuple #[]) ∧ (∃ O1, ThrAt w' C P w.heap.size O1 [] [] ∧ ∀ b, O1 b → w.heap.size ≤ b ∧ b ≠ g2) ∧ Keep (fun b => b = bs ∨ b = w.heap.size) W3 w') := Lib.hid (by
      intro w4 k4
      have kz : Keep (fun b => b = bs ∨ b = w.heap.size) W3 (w4.setCell ⟨w.heap.size, 0, none⟩ (.pointer none)) := (k4.mono (fun _ _ e => .inl e)).step (keep_one w4 _ 0 _) (fun _ _ e => .inr e)
      have X5 := (X3.keep k4 (Ne.symm nX)).set 0 (.pointer none)
      have hs5 := kz.size
      have hT : ThrAt (w4.setCell ⟨w.heap.size, 0, none⟩ (.pointer none)) C P w.heap.size (fun b => b = w.heap.size) [] [] :=
        ⟨_, _, _, 0, X5, rfl, World.ownsRow_nil _ _ _ _, by omega, fun g e => by simp [Value.ownBlock] at e, fun b hb => by rw [hb]; omega, .inl ⟨rfl, rfl⟩⟩
      refine (goOn_any C P _ _ _ [] _ hT (by simp)).mono ?_
      rintro e w' ⟨rfl, ⟨O1, g1, g3⟩, g4⟩
      refine ⟨rfl, ⟨O1, g1, fun b hb => ?_⟩, kz.trans (g4.mono (fun _ _ e => .inr e))⟩
      rcases g3 b hb with h | h
      · exact ⟨by omega, fun e => g2X (by omega)⟩
      · exact ⟨by omega, fun e => by omega⟩)
    have hMach := Lib.hid h
    have H4 := Lib.hid h4
    clear h h4 hb hb2 s3 nbs nbn kX
    go_wp2_with (first
      | (go_at_call 45; refine HS.out.mono ?_; rintro e w4 ⟨rfl, k4⟩; have x4 := (X3.keep k4 (Ne.symm nX)).cell 0 _ rfl; have z4 := (X3.keep k4 (Ne.symm nX)).free 0; have HG2 := Lib.hid (HG.out w4 k4))
      | (go_at_call 52; refine HG2.out.mono ?_; rintro e w6 ⟨rfl, ⟨O1, hT6, hO1⟩, k6⟩))
    go_ret
    have kW : Keep (fun b => ((Value.slice ua L.length uc).ownBlock = some b ∨ b = M) ∨ b = bs) w w6 := (kA.mono (fun _ _ h => .inl h)).step k6 (fun i hi h => h.elim .inr (fun e => by omega))
    have hOM : ¬ (M = bs ∨ M = w.heap.size) := fun h => h.elim (fun h => hs (h ▸ hMach.out.mine.1)) (fun h => by omega)
    have og2 : ∀ g, (Value.slice (some ⟨g2, 0, none⟩) (L.length + 1) cap2).ownBlock = some g → ((∀ k ∈ L, ¬ k.O g) ∧ U g ∨ w.heap.size ≤ g) ∧ ¬ O1 g := fun g e => by
      obtain rfl := own_some e
      refine ⟨?_, fun h => (hO1 _ h).2 rfl⟩
      rcases hg2 with hg2 | hg2
      · exact .inl ⟨(H4.out _ hg2).2, (H4.out _ hg2).1⟩
      · exact .inr (by omega)
    refine ⟨rfl, ⟨w.heap.size, O1, _, hMach.out.push (x := ([], [])) (m3.keep k6 hOM) (row_ownkeep (by simpa using hr3) k6 (fun g e => ?_)) (by have := k6.size; omega) og2 kW (fun k hk b hb h => ?_) hT6 (fun t h => by simp at h) (by simp) (fun b hb hU => ?_) hf, fun b hb => ?_⟩, kW.mono (fun b _ h => ?_)⟩
    · obtain rfl := own_some e
      rintro (h | h)
      · rcases hg2 with hg2 | hg2
        · exact hs (h ▸ (H4.out _ hg2).1)
        · have hbl : bs < w.heap.size := hbsl
          omega
      · exact g2X h
    · rcases h with (h | h) | h
      · exact (H4.out _ h).2 k hk hb
      · exact hMach.out.mine.2 k hk (h ▸ hb)
      · exact hs (h ▸ (hMach.out.thr k hk).2.2.1 b hb)
    · have := hMach.out.lt b hU
      have := (hO1 b hb).1
      omega
    · rcases hb with (hb | hb) | hb
      · exact .inl hb
      · exact .inr (hO1 b hb).1
      · rcases (og2 b hb).1 with h | h
        · exact .inl h.2
        · exact .inr h
    · rcases h with (h | h) | h
      · exact .inl (H4.out _ h).1
      · exact .inl (h ▸ hMach.out.mine.1)
      · exact .inr h
theorem addM_nil (f : Value) (w : World) : Calls Try.prog 30 #[.pointer none, f] w fun e w' => e = .returned (.int .i64 (-1)) ∧ w = w' := by
  go_enter Try.func30, Try.ntmps30
  go_wp2
  go_ret
  exact ⟨rfl, rfl⟩
theorem Add_nil (w : World) : Calls Try.prog 9 #[.pointer none, .slice none 0 0] w fun e w' => e = .returned (.int .i64 (-1)) ∧ Below w.heap.size w w' := by
  go_enter Try.func9, Try.ntmps9
  go_wp2_with (first
    | (go_at_call 32; refine (clone_nil w).mono ?_; rintro e w2 ⟨rfl, rfl⟩)
    | (go_at_call 31; refine (inOrder8_any _ w ⟨none, 0, 0, rfl⟩).mono ?_; rintro e w3 ⟨rfl, hbl, hb3⟩)
    | (go_at_call 30; refine (addM_nil _ _).mono ?_; rintro e w4 ⟨rfl, rfl⟩))
  go_ret
  exact ⟨rfl, hb3⟩
theorem Make_nil (w : World) : Calls Try.prog 20 #[.pointer none, .nilFunc] w fun e w' => e = .returned (.int .i64 (-1)) ∧ Below w.heap.size w w' := by
  have hmf : ∀ (fn : Fn) (first cap : Array Value) (w : World), (Instr.makeFunc fn first cap).run Try.prog w = .ok (.func fn first cap) w := fun _ _ _ _ => rfl
  go_enter Try.func20, Try.ntmps20
  go_wp2_with (go_at_call 30; refine (addM_nil _ _).mono ?_; rintro e w4 ⟨rfl, rfl⟩)
  go_ret
  exact ⟨rfl, by go_grown⟩
theorem Make_none (C P M : Nat) (U : Nat → Prop) (L : List Th) (w : World) (h : MachAt w C P M U L) (hf : L.length + 1 ≤ 1000) :
    Calls Try.prog 20 #[pV M, .nilFunc] w fun e w' => e = .returned (.int .i64 L.length) ∧ (∃ X O1 U', MachAt w' C P M U' (L ++ [⟨X, O1, ([], [])⟩]) ∧ ∀ b, U' b → U b ∨ w.heap.size ≤ b) ∧ Keep U w w' := by
  have hmf : ∀ (fn : Fn) (first cap : Array Value) (w : World), (Instr.makeFunc fn first cap).run Try.prog w = .ok (.func fn first cap) w := fun _ _ _ _ => rfl
  have HA : Hid (∀ W, Below w.heap.size w W → Blk W (w.heap.size + 1) 3 #[.int .i64 0] → Blk W w.heap.size 43 #[.nilFunc] → Calls Try.prog 30 #[pV M, cloV 45 #[pV (w.heap.size + 1), pV w.heap.size]] W fun e w' => e = .returned (.int .i64 L.length) ∧ (∃ X O1 U', MachAt w' C P M U' (L ++ [⟨X, O1, ([], [])⟩]) ∧ ∀ b, U' b → U b ∨ w.heap.size ≤ b) ∧ Keep U w w') := Lib.hid (by
    intro W hW h1 h2
    have hs := hW.size
    refine (add_none C P M _ _ U L W (h.still (Keep.ofBelow hW)) h1 h2 (fun hu => by have := h.lt _ hu; omega) (fun hu => by have := h.lt _ hu; omega) hf).mono ?_
    rintro e w' ⟨rfl, ⟨X, O1, U', g1, g2⟩, g3⟩
    exact ⟨rfl, ⟨X, O1, U', g1, fun b hb => (g2 b hb).imp id (fun h => by omega)⟩, (Keep.ofBelow (Q := U) hW).step g3 (fun i hi h => h.elim id (fun e => by omega))⟩)
  clear h
  go_enter Try.func20, Try.ntmps20
  go_upto_region 2 with fail
  generalize hW : (World.alloc _ _) = W
  have bW : Below w.heap.size w W := by rw [← hW]; go_grown
  have q0 : Blk W w.heap.size 43 #[.nilFunc] := by rw [← hW]; exact (Blk.new w _ _).alloc _
  have q1 : Blk W (w.heap.size + 1) 3 #[.int .i64 0] := by rw [← hW]; exact blk_two w _ _ _
  clear hW
  have HA2 := Lib.hid (HA.out W bW q1 q0)
  clear q0 q1
  go_wp2_with (go_at_call 30; refine HA2.out.mono ?_; rintro e w4 ⟨rfl, hM, hk⟩)
  go_ret
  exact ⟨rfl, hM, hk⟩
theorem pick_nil (t k : Int) (w : World) : Calls Try.prog 10 #[.pointer none, .agg #[.int .i64 t, .int .i64 k]] w fun e w' => e = .returned (.bool false) ∧ Below w.heap.size w w' :=
  mpick_no (.pointer none) ([], []) 0 0 0 [] [] t k w (fun h => by simp [parkedT] at h) (fun _ h => by simp at h) rfl (fun W _ => thread_any_nil 0 0 t W)
theorem can_nilM (t k : Int) (w : World) : Calls Try.prog 22 #[.pointer none, .agg #[.int .i64 t, .int .i64 k]] w fun e w' => e = .returned (.bool false) ∧ Below w.heap.size w w' :=
  mcan_gen (.pointer none) ([], []) 0 0 0 [] [] t k w (fun h => by simp [parkedT] at h) (fun _ h => by simp at h) (fun W _ => thread_any_nil 0 0 t W)
theorem done_nilM (t : Int) (w : World) : Calls Try.prog 17 #[.pointer none, .int .i64 t] w fun e w' => e = .returned (.bool true) ∧ Below w.heap.size w w' :=
  mdone_gen (.pointer none) ([], []) 0 0 t w (fun t h => by simp at h) (thread_any_nil 0 0 t w)
theorem parked_nilM (t : Int) (w : World) : Calls Try.prog 24 #[.pointer none, .int .i64 t] w fun e w' => e = .returned (.bool false) ∧ Below w.heap.size w w' :=
  mparked_gen (.pointer none) ([], []) 0 0 t w (thread_any_nil 0 0 t w)
theorem values_nilM (t : Int) (w : World) : Calls Try.prog 19 #[.pointer none, .int .i64 t] w fun e w' => ∃ v, e = .returned v ∧ RowI w' v [] ∧ Below w.heap.size w w' :=
  mvalues_gen (.pointer none) ([], []) 0 0 t w (by simp) (thread_any_nil 0 0 t w)
/-- a nil machine's iterator yields nothing -/
theorem those1_nil (n : Nat) (hn : 1 ≤ n) (Bm Bi n₀ : Nat) (w : World) (hBm : Blk w Bm 27 #[.pointer none]) :
    SeqStopsK Fence.wide n Try.prog 59 #[.pointer (some ⟨Bm, 0, none⟩), .pointer (some ⟨Bi, 0, none⟩)] (fun x : Nat => #[.int .i64 (x : Nat)]) (Kd n₀ Bm Bi) (fun ys => ys = []) (fun pre => pre <+: []) 0 w := by
  intro l J Jx W hW hJ _ hY h0
  have hro : Fence.wide.round = none := rfl
  have c0 := (hBm.below hW hBm.lt).cell 0 _ rfl
  have HLen := Lib.hid (mthreads_nil W)
  refine callsIn_of_wp Try.func59 rfl trivial ?_ hro
  simp only [Try.ntmps59, List.size_toArray, List.length_cons, List.length_nil, Nat.reduceAdd, Nat.reduceSub, Array.replicate_succ, Array.replicate_zero, List.push_toArray, List.append_toArray, List.nil_append, List.cons_append]
  gi_wp2_with (refine ⟨trivial, ?_⟩; gi_at_call 21; refine (callsIn_wide.2 HLen.out).mono ?_; rintro e w1 ⟨rfl, rfl⟩)
  clear c0
  gi_loopw [7] (fun i wr => i = .int .i64 0 ∧ J [] wr)
    (fun i wr => 0)
  case atStart => exact ⟨rfl, h0⟩
  case round =>
    obtain ⟨rfl, hJ2⟩ := hrel
    gi_wp2
    go_end0
    exact ⟨⟨_, rfl⟩, .inl ⟨[], rfl, hJ2⟩⟩
end Go.Proofs.Ytgcmnaiiifaajaa
