/- Package machine: Add. -/
import Derived.Test.YtpopcallphbklaaGreatMacF
namespace Go.Proofs.YtpopcallphbklaaGreat
open Go.ChangeShapes Go.WideShapes Go.ChangeAt Go.RowKit
set_option linter.unusedVariables false
set_option maxRecDepth 100000
set_option linter.unusedSimpArgs false
theorem pthread_info : (Tryz.prog.info? 81).map (fun i => (i.zero, i.size, i.bytes)) = some (some (.pointer none), 1, 8) := by kernel_rfl
theorem supply_first (bl B : Nat) (sl : Value) (L : List Tk) (w : World) (hb : Blk w bl 61 #[sl]) (hR : RowT w B sl L) :
    Calls Tryz.prog 95 #[pV bl] w fun e w' => ∃ c2, e = .returned (.pointer c2) ∧ Keep (fun b => b = bl) w w' ∧
      ((L = [] ∧ c2 = none) ∨ ∃ k M sl', L = k :: M ∧ c2 = some ⟨k.t, 0, none⟩ ∧ Blk w' bl 61 #[sl'] ∧ RowT w' B sl' M) := by
  obtain ⟨a, cp, rfl, hcp, hrow⟩ := hR
  cases L with
  | nil =>
    refine (supply_none bl a cp w hb).mono ?_
    rintro e w2 ⟨rfl, rfl⟩
    exact ⟨none, rfl, Keep.refl _ _, .inl ⟨rfl, rfl⟩⟩
  | cons k M =>
    obtain ⟨o, rfl, ⟨cs, hB⟩, hcells⟩ := hrow (by simp)
    have nBl : B ≠ bl := hB.apart hb (by decide)
    have c0 := hcells 0 k rfl
    refine (supply_more bl B o M.length cp k.t w hb (by simpa using c0) (by simpa using hcp)).mono ?_
    rintro e w2 ⟨rfl, a', ha', rfl⟩
    have k2 : Keep (fun b => b = bl) w (w.setCell ⟨bl, 0, none⟩ (.slice a' M.length (cp - 1))) := keep_one w bl 0 _
    refine ⟨_, rfl, k2, .inr ⟨k, M, _, rfl, rfl, hb.set 0 _, a', cp - 1, rfl, by simp at hcp; omega, fun hM => ⟨o + 1, ha' (by cases M with | nil => exact absurd rfl hM | cons _ _ => simp), ⟨cs, hB.keep k2 nBl⟩, fun i q hi => ?_⟩⟩⟩
    have := cell_keep6 (hcells (i + 1) q (by simpa using hi)) k2 nBl
    rwa [show o + (i + 1) = o + 1 + i by omega] at this
/-- tasks that are handed to a new thread: what supplies them, of blocks of their own -/
structure Handed8 (w : World) (C P bl : Nat) (O : Nat → Prop) (L : List Tk) : Prop where
  row : ∃ B sl, Blk w bl 61 #[sl] ∧ RowT w B sl L ∧ (L ≠ [] → O B ∧ ∀ j ∈ L, ¬ j.Q B)
  bl : O bl ∧ ∀ j ∈ L, ¬ j.Q bl
  tks : TksAt w C P L
  all : ∀ j ∈ L, ∀ b, j.Q b → O b
  lt : ∀ b, O b → b < w.heap.size
theorem MachAt.push {w w' : World} {C P M X n0 : Nat} {U O1 G : Nat → Prop} {L : List Th} {u2 : Value} {x : Thr} (h : MachAt w C P M U L) (hM : Blk w' M 90 #[u2]) (hr : w'.ownsRow n0 81 1 u2 (L.length + 1) (L.map (fun k => pV k.X) ++ [pV X])) (hn0 : n0 ≤ w'.heap.size)
    (hg : ∀ g, u2.ownBlock = some g → ((∀ k ∈ L, ¬ k.O g) ∧ U g ∨ w.heap.size ≤ g) ∧ ¬ O1 g) (hk : Keep G w w') (hG : ∀ k ∈ L, ∀ b, k.O b → ¬ G b) (hT : ThrAt w' C P X O1 x.1 x.2) (hok : ThrOk x) (hx : x.1.length + x.2.length ≤ 1000) (hO : ∀ b, O1 b → ¬ U b) (hf : L.length + 1 ≤ 1000) :
    MachAt w' C P M (fun b => (U b ∨ O1 b) ∨ u2.ownBlock = some b) (L ++ [⟨X, O1, x⟩]) := by
  have hs := hk.size
  have mem : ∀ k, k ∈ L ++ [⟨X, O1, x⟩] → k ∈ L ∨ k = ⟨X, O1, x⟩ := fun k hk => by simpa using hk
  refine ⟨⟨u2, n0, hM, by simpa using hr, hn0, fun g e => ⟨.inr e, fun k hk => ?_⟩⟩, ⟨.inl (.inl h.mine.1), fun k hk => ?_⟩, fun k hk => ?_, ?_, fun b hb => ?_, by simpa using hf⟩
  · rcases mem k hk with hk | rfl
    · intro hkg
      rcases (hg g e).1 with ⟨h1, _⟩ | h1
      · exact h1 k hk hkg
      · have := h.lt g ((h.thr k hk).2.2.1 g hkg); omega
    · exact (hg g e).2
  · rcases mem k hk with hk | rfl
    · exact h.mine.2 k hk
    · exact fun e => hO M e h.mine.1
  · rcases mem k hk with hk' | rfl
    · obtain ⟨a, b, c, d⟩ := h.thr k hk'
      exact ⟨a.keep ‹Keep G w w'› (hG k hk'), b, fun z hz => .inl (.inl (c z hz)), d⟩
    · exact ⟨hT, hok, fun z hz => .inl (.inr hz), hx⟩
  · rw [List.pairwise_append]
    refine ⟨h.apart, List.pairwise_singleton _ _, fun a ha b hb z hz hz2 => ?_⟩
    obtain rfl : b = ⟨X, O1, x⟩ := by simpa using hb
    exact hO z hz2 ((h.thr a ha).2.2.1 z hz)
  · rcases hb with (hb | hb) | hb
    · have := h.lt b hb; omega
    · exact hT.lt b hb
    · exact (row_lt hr hb).1
set_option maxHeartbeats 2000000 in
theorem add_any (C P M bl : Nat) (U O0 : Nat → Prop) (L : List Th) (TK : List Tk) (w : World) (h : MachAt w C P M U L) (hH : Handed8 w C P bl O0 TK) (hO : ∀ b, O0 b → ¬ U b) (hf : L.length + 1 ≤ 1000) (ht : TK.length ≤ 1000) :
    Calls Tryz.prog 64 #[pV M, cloV 95 #[pV bl]] w fun e w' => e = .returned (.int .i64 L.length) ∧ (∃ X O1 U', MachAt w' C P M U' (L ++ [⟨X, O1, goS (TK.map Tk.x) []⟩]) ∧ ∀ b, U' b → U b ∨ O0 b ∨ w.heap.size ≤ b) ∧ Keep (fun b => U b ∨ O0 b) w w' := by
  obtain ⟨p0, hp0, hp1, hp2, hp3⟩ := info_parts pthread_info
  obtain ⟨u, n0, h1, h2, h3, h4⟩ := h.own
  obtain ⟨B, sl, r1, r2, r3⟩ := hH.row
  obtain ⟨ua, uc, rfl⟩ : ∃ a c, u = .slice a L.length c := by
    rcases h2.2 with ⟨rfl, h0⟩ | ⟨g, cap, cur, rfl, _⟩
    · exact ⟨none, 0, by rw [h0]⟩
    · exact ⟨_, _, rfl⟩
  have c0 : w.cell? ⟨M, 0, none⟩ = some (.slice ua L.length uc) := h1.cell 0 _ rfl
  have H1 := Lib.hid h1
  have H2 := Lib.hid h2
  have hMl := h1.lt
  go_enter Tryz.func64, Tryz.ntmps64
  go_upto_region 3 with fail
  go_cut [5, 6] from 9 to 16 (fun s5 s6 wx => s5 = pV w.heap.size ∧ s6 = .int .i64 (L.length : Int) ∧ Blk wx w.heap.size 86 #[.pointer none, cloV 95 #[pV bl], .slice none 0 0] ∧ Below w.heap.size w wx)
  case first =>
    go_region_held3 (fun W => W.cell? ⟨M, 0, none⟩ = some (.slice ua L.length uc)) (first | exact c0 | exact (H1.out.alloc _).cell 0 _ rfl) (fail)
    all_goals
      go_wp2_with fail
      go_meet
      refine ⟨rfl, rfl, Blk.new w _ _, bdrewN ((Below.refl _ w).alloc (Nat.le_refl _) _) 1⟩
  case rest =>
    obtain ⟨rfl, rfl, hX, hB⟩ := hcut
    have k1 : Keep (fun _ => False) w wc := Keep.ofBelow hB
    have hXl := hX.lt
    have m1 := H1.out.keep k1 (fun h => h)
    have o1 := row_ownkeep H2.out k1 (fun _ _ h => h)
    have c1 : wc.cell? ⟨M, 0, none⟩ = some (.slice ua L.length uc) := m1.cell 0 _ rfl
    have hfew := h.few
    have hs1 := hB.size
    have h3' : n0 ≤ wc.heap.size := by omega
    have HX := Lib.hid hX
    have HM1 := Lib.hid m1
    clear c0 h1 h2 hX m1
    go_upto_region 5 with (at_builtin; refine wpList_append_own2 _ rfl _ _ 88 rfl n0 81 p0 (.pointer none) 1 8 Tryz.underlying88 hp0 hp1 hp2 hp3 rfl (by decide) _ _ _ rfl (o1.alloc _) ⟨wc.heap.size, 0, none⟩ 1 1 [pV w.heap.size] rfl rfl (cell_one_new _ _ _) (by simp [Value.oneCell']) (by unfold maxLen; omega) (by omega) (by simp; omega) (by omega) ?_; intro g2 cap2 w2 hr2 hgr2 hg2; have m2 := HM1.out.keep (grown_keep hgr2) (fun e => by have := (row_lt o1 e).2; obtain ⟨_, hb⟩ := this; exact HM1.out.apart hb (by decide) rfl); have d0 := m2.cell 0 _ rfl; have z0 := m2.free 0)
    have kA : Keep (fun b => (Value.slice ua L.length uc).ownBlock = some b ∨ b = M) w (w2.setCell ⟨M, 0, none⟩ (.slice (some ⟨g2, 0, none⟩) (L.length + 1) cap2)) := ((k1.mono (fun _ _ h => h.elim)).step (grown_keep hgr2) (fun _ _ e => .inl e)).step (keep_one w2 M 0 _) (fun _ _ e => .inr e)
    have kX : Keep (fun b => (Value.slice ua L.length uc).ownBlock = some b ∨ b = M) wc (w2.setCell ⟨M, 0, none⟩ (.slice (some ⟨g2, 0, none⟩) (L.length + 1) cap2)) := ((grown_keep hgr2).mono (fun _ _ e => .inl e)).step (keep_one w2 M 0 _) (fun _ _ e => .inr e)
    have g2b := (row_lt hr2 (g := g2) rfl)
    obtain ⟨g2l, g2c, g2k⟩ := g2b
    have g2M : g2 ≠ M := g2k.apart m2 (by decide)
    have X2 : Blk w2 w.heap.size 86 #[.pointer none, cloV 95 #[pV bl], .slice none 0 0] := HX.out.keep (grown_keep hgr2) (fun e => by obtain ⟨_, _, hb⟩ := row_lt o1 e; exact HX.out.apart hb (by decide) rfl)
    have g2X : g2 ≠ w.heap.size := g2k.apart X2 (by decide)
    have X3 : Blk (w2.setCell ⟨M, 0, none⟩ (.slice (some ⟨g2, 0, none⟩) (L.length + 1) cap2)) w.heap.size 86 #[.pointer none, cloV 95 #[pV bl], .slice none 0 0] := X2.far (by omega) 0 _
    have m3 : Blk (w2.setCell ⟨M, 0, none⟩ (.slice (some ⟨g2, 0, none⟩) (L.length + 1) cap2)) M 90 #[.slice (some ⟨g2, 0, none⟩) (L.length + 1) cap2] := m2.set 0 _
    have hr3 := row_ownkeep hr2 (keep_one w2 M 0 (.slice (some ⟨g2, 0, none⟩) (L.length + 1) cap2)) (fun g' e => by rw [← own_some e]; exact g2M)
    have hs3 : wc.heap.size ≤ (w2.setCell ⟨M, 0, none⟩ (.slice (some ⟨g2, 0, none⟩) (L.length + 1) cap2)).heap.size := kX.size
    have g2l3 : g2 < (w2.setCell ⟨M, 0, none⟩ (.slice (some ⟨g2, 0, none⟩) (L.length + 1) cap2)).heap.size := by rw [World.size_setCell]; exact g2l
    replace hg2 : (Value.slice ua L.length uc).ownBlock = some g2 ∨ wc.heap.size + 1 ≤ g2 := hg2.imp id (fun h => by rw [World.size_alloc] at h; exact h)
    clear d0 z0 m2 X2 hr2 g2k g2l c1
    generalize w2.setCell ⟨M, 0, none⟩ (.slice (some ⟨g2, 0, none⟩) (L.length + 1) cap2) = W3 at *
    have nO : ∀ b, O0 b → ¬ ((Value.slice ua L.length uc).ownBlock = some b ∨ b = M) := fun b hb h => h.elim (fun e => hO b hb (h4 b e).1) (fun e => hO b hb (e ▸ ‹MachAt w C P M U L›.mine.1))
    have bl3 := r1.keep kA (nO bl hH.bl.1)
    have r23 := r2.keep kA (fun hL => nO B (r3 hL).1)
    have t3 := hH.tks.keep kA (fun j hj b hb => nO b (hH.all j hj b hb))
    have HS := Lib.hid (supply_first bl B sl TK W3 bl3 r23)
    have x31 : W3.cell? ⟨w.heap.size, 1, none⟩ = some (cloV 95 #[pV bl]) := X3.cell 1 _ rfl
    have nbl : bl ≠ w.heap.size := by have := hH.lt bl hH.bl.1; omega
    have HG : Hid (∀ w4 c2, Keep (fun b => b = bl) W3 w4 → ((TK = [] ∧ c2 = none) ∨ ∃ k M' sl', TK = k :: M' ∧ c2 = some ⟨k.t, 0, none⟩ ∧ Blk w4 bl 61 #[sl'] ∧ RowT w4 B sl' M') →
        Calls Tryz.prog 71 #[pV w.heap.size] (w4.setCell ⟨w.heap.size, 0, none⟩ (.pointer c2)) fun e w' => e = .returned (.tuple #[]) ∧ (∃ O1, ThrAt w' C P w.heap.size O1 (goS (TK.map Tk.x) []).1 (goS (TK.map Tk.x) []).2 ∧ ∀ b, O1 b → (O0 b ∨ w.heap.size ≤ b) ∧ b ≠ g2) ∧ Keep (fun b => O0 b ∨ b = w.heap.size) W3 w') := Lib.hid (by
      intro w4 c2 k4 hc
      have kz : Keep (fun b => b = bl ∨ b = w.heap.size) W3 (w4.setCell ⟨w.heap.size, 0, none⟩ (.pointer c2)) := (k4.mono (fun _ _ e => .inl e)).step (keep_one w4 _ 0 _) (fun _ _ e => .inr e)
      have X5 := (X3.keep k4 (Ne.symm nbl)).set 0 (.pointer c2)
      have hs5 := kz.size
      have hT : ThrAt (w4.setCell ⟨w.heap.size, 0, none⟩ (.pointer c2)) C P w.heap.size (fun b => O0 b ∨ b = w.heap.size) (TK.map Tk.x) [] := by
        refine ⟨_, _, _, 0, X5, .inr rfl, World.ownsRow_nil _ _ _ _, by omega, fun g e => by simp [Value.ownBlock] at e, fun b hb => ?_, ?_⟩
        · rcases hb with hb | rfl
          · have := hH.lt b hb; omega
          · omega
        · rcases hc with ⟨e1, rfl⟩ | ⟨k, M', sl', e1, rfl, hb4, hr4⟩
          · exact .inl ⟨by rw [e1]; rfl, rfl⟩
          · have hne : TK ≠ [] := by rw [e1]; simp
            refine .inr ⟨k, M', bl, B, sl', by rw [e1], rfl, rfl, hb4.keep (keep_one w4 _ 0 _) nbl, .inl hH.bl.1, hr4.keep (keep_one w4 _ 0 _) (fun _ e => by have := hH.lt B (r3 hne).1; omega), fun _ => .inl (r3 hne).1, ?_, fun j hj b hb => ?_⟩
            · rw [← e1]
              exact t3.keep kz (fun j hj b hb h => h.elim (fun e => hH.bl.2 j hj (e ▸ hb)) (fun e => by have := hH.lt b (hH.all j hj b hb); omega))
            · rw [← e1] at hj
              have hOb := hH.all j hj b hb
              have := hH.lt b hOb
              exact ⟨.inl hOb, by omega, fun e => hH.bl.2 j hj (e ▸ hb), fun _ e => (r3 hne).2 j hj (e ▸ hb), by simp [Value.ownBlock]⟩
      refine (goOn_any C P _ _ _ [] _ hT (by simp; omega)).mono ?_
      rintro e w' ⟨rfl, ⟨O1, g1, g3⟩, g4⟩
      refine ⟨rfl, ⟨O1, g1, fun b hb => ?_⟩, (kz.mono (fun b _ h => h.elim (fun e => .inl (e ▸ hH.bl.1)) .inr)).trans g4⟩
      rcases g3 b hb with (h | h) | h
      · refine ⟨.inl h, fun e => ?_⟩
        subst e
        rcases hg2 with hg2 | hg2
        · exact hO b h (h4 b hg2).1
        · have := hH.lt b h; omega
      · exact ⟨.inr (by omega), fun e => g2X (by omega)⟩
      · exact ⟨.inr (by omega), fun e => by omega⟩)
    have hMach := Lib.hid h
    have H4 := Lib.hid h4
    have HH := Lib.hid hH
    have HO := Lib.hid hO
    clear h h4 hH hO r1 r2 r3 bl3 r23 t3 nO kX
    go_wp2_with (first
      | (go_at_call 95; refine HS.out.mono ?_; rintro e w4 ⟨c2, rfl, k4, hc⟩; have x4 := (X3.keep k4 (Ne.symm nbl)).cell 0 _ rfl; have z4 := (X3.keep k4 (Ne.symm nbl)).free 0; have HG2 := Lib.hid (HG.out w4 c2 k4 hc))
      | (go_at_call 71; refine HG2.out.mono ?_; rintro e w6 ⟨rfl, ⟨O1, hT6, hO1⟩, k6⟩))
    go_ret
    have nM : M ≠ w.heap.size := by omega
    have kW : Keep (fun b => ((Value.slice ua L.length uc).ownBlock = some b ∨ b = M) ∨ O0 b) w w6 := (kA.mono (fun _ _ h => .inl h)).step k6 (fun i hi h => h.elim .inr (fun e => by omega))
    have hOM : ¬ (O0 M ∨ M = w.heap.size) := fun h => h.elim (fun h => HO.out M h hMach.out.mine.1) nM
    have og2 : ∀ g, (Value.slice (some ⟨g2, 0, none⟩) (L.length + 1) cap2).ownBlock = some g → ((∀ k ∈ L, ¬ k.O g) ∧ U g ∨ w.heap.size ≤ g) ∧ ¬ O1 g := fun g e => by
      obtain rfl := own_some e
      refine ⟨?_, fun h => (hO1 _ h).2 rfl⟩
      rcases hg2 with hg2 | hg2
      · exact .inl ⟨(H4.out _ hg2).2, (H4.out _ hg2).1⟩
      · exact .inr (by omega)
    refine ⟨rfl, ⟨w.heap.size, O1, _, hMach.out.push (x := goS (TK.map Tk.x) []) (m3.keep k6 hOM) (row_ownkeep (by simpa using hr3) k6 (fun g e => ?_)) (by have := k6.size; omega) og2 kW (fun k hk b hb h => ?_) hT6 (goS_ok _ _) (by have := goS_len (TK.map Tk.x) []; simp at this; omega) (fun b hb => ?_) hf, fun b hb => ?_⟩, kW.mono (fun b _ h => ?_)⟩
    · obtain rfl := own_some e
      rintro (h | h)
      · rcases hg2 with hg2 | hg2
        · exact HO.out _ h (H4.out _ hg2).1
        · have := HH.out.lt _ h; omega
      · exact g2X h
    · rcases h with (h | h) | h
      · exact (H4.out _ h).2 k hk hb
      · exact hMach.out.mine.2 k hk (h ▸ hb)
      · exact HO.out b h ((hMach.out.thr k hk).2.2.1 b hb)
    · rcases (hO1 b hb).1 with h | h
      · exact HO.out b h
      · exact fun hU => by have := hMach.out.lt b hU; omega
    · rcases hb with (hb | hb) | hb
      · exact .inl hb
      · rcases (hO1 b hb).1 with h | h
        · exact .inr (.inl h)
        · exact .inr (.inr h)
      · rcases (og2 b hb).1 with h | h
        · exact .inl h.2
        · exact .inr (.inr h)
    · rcases h with (h | h) | h
      · exact .inl (H4.out _ h).1
      · exact .inl (h ▸ hMach.out.mine.1)
      · exact .inr h
end Go.Proofs.YtpopcallphbklaaGreat
