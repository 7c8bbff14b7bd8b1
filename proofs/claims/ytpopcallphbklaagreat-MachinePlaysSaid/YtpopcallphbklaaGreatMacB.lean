/- Package machine: going past tasks that are done. -/
import Derived.Test.YtpopcallphbklaaGreatMacA
namespace Go.Proofs.YtpopcallphbklaaGreat
open Go.ChangeShapes Go.WideShapes Go.ChangeAt Go.RowKit
set_option linter.unusedVariables false
set_option maxRecDepth 100000
set_option linter.unusedSimpArgs false
theorem keep_one (w : World) (X i : Nat) (v : Value) : Keep (fun b => b = X) w (w.setCell ⟨X, i, none⟩ v) := (Keep.refl (fun b => b = X) w).set (p := ⟨X, i, none⟩) (fun _ => rfl) v
theorem mint_info : (Tryz.prog.info? 3).map (fun i => (i.zero, i.size, i.bytes)) = some (some (.int .i64 0), 1, 8) := by kernel_rfl
theorem live_uns {w : World} {C P X : Nat} {O : Nat → Prop} {cur f u : Value} {x : Tsk} {l : List Tsk} (h : LiveT w C P X O cur f u (x :: l)) :
    ∃ t Q, cur = pV t ∧ TaskG w C P t Q x.1 x.2 ∧ (∀ b, Q b → O b ∧ b ≠ X) := by
  obtain ⟨k, M, bl, B, sl, e1, e2, e3, h1, h2, h3, h4, h5, h6⟩ := h
  rw [List.map_cons] at e1
  obtain ⟨rfl, rfl⟩ := List.cons.inj e1
  exact ⟨k.t, k.Q, e2, h5.1 k (by simp), fun b hb => ⟨(h6 k (by simp) b hb).1, (h6 k (by simp) b hb).2.1⟩⟩
/-- behind the append: the thread's block has the new row of values, all else stands -/
def PastApp (w wx : World) (X : Nat) (cur f u : Value) (n0 : Nat) (vs : List Int) : Prop :=
  ∃ g cap, Blk wx X 86 #[cur, f, .slice (some ⟨g, 0, none⟩) vs.length cap] ∧ wx.ownsRow n0 3 1 (.slice (some ⟨g, 0, none⟩) vs.length cap) vs.length (vs.map (.int .i64)) ∧ (u.ownBlock = some g ∨ w.heap.size ≤ g) ∧ Keep (fun b => u.ownBlock = some b ∨ b = X) w wx
/-- the next task is supplied -/
theorem live_next {w wx : World} {C P X n0 : Nat} {O : Nat → Prop} {cur f u : Value} {x : Tsk} {l : List Tsk} {vs : List Int} (h : LiveT w C P X O cur f u (x :: l)) (hX : O X) (hu : ∀ g, u.ownBlock = some g → O g) (hlt : ∀ b, O b → b < w.heap.size) (hn0 : n0 ≤ w.heap.size)
    (hu2 : w.ownsRow n0 3 1 u (vs.length - 1) ((vs.dropLast).map (.int .i64))) (hXb : Blk w X 86 #[cur, f, u]) (hP : PastApp w wx X cur f u n0 vs) :
    ∃ bl, f = cloV 95 #[pV bl] ∧ Calls Tryz.prog 95 #[pV bl] wx fun e w2 => ∃ c2, e = .returned (.pointer c2) ∧ Blk w2 X 86 #[cur, f, (wx.cell? ⟨X, 2, none⟩).getD undef] ∧ (∀ W, W = w2.setCell ⟨X, 0, none⟩ (.pointer c2) → (∃ O', ThrAt W C P X O' l vs ∧ ∀ b, O' b → O b ∨ w.heap.size ≤ b) ∧ Keep O w W) := by
  obtain ⟨k, M, bl, B, sl, e1, e2, e3, h1, h2, h3, h4, h5, h6⟩ := h
  rw [List.map_cons] at e1
  obtain ⟨rfl, rfl⟩ := List.cons.inj e1
  obtain ⟨g, cap, hXx, hr, hg, hk⟩ := hP
  have hxc : (wx.cell? ⟨X, 2, none⟩).getD undef = .slice (some ⟨g, 0, none⟩) vs.length cap := by rw [hXx.cell 2 _ rfl]; rfl
  rw [hxc]
  have hgx : g < wx.heap.size ∧ ∃ cur, Blk wx g 3 cur := row_lt hr (g := g) rfl
  obtain ⟨hgl, gc, hgb⟩ := hgx
  have hsz := hk.size
  have nbl : bl ≠ X := h1.apart hXb (by decide)
  have nblu : ¬ u.ownBlock = some bl := fun e => by
    obtain ⟨_, c, hb⟩ := row_lt hu2 e
    exact h1.apart hb (by decide) rfl
  have b1 : Blk wx bl 61 #[sl] := h1.keep hk (fun h => h.elim nblu nbl)
  have gX : g ≠ X := hgb.apart hXx (by decide)
  have gbl : g ≠ bl := hgb.apart b1 (by decide)
  refine ⟨bl, e3, ?_⟩
  obtain ⟨a, cp, rfl, hcp, hrow⟩ := id h3
  have kx : ∀ c2 W2, Keep (fun b => b = bl) wx W2 → Keep O w (W2.setCell ⟨X, 0, none⟩ c2) := fun c2 W2 hk2 =>
    ((hk.mono (fun b _ h => h.elim (hu b) (fun e => e ▸ hX))).step hk2 (fun i _ e => e ▸ h2)).set (p := ⟨X, 0, none⟩) (fun _ => hX) _
  cases M with
  | nil =>
    refine (supply_none bl a cp wx b1).mono ?_
    rintro e w2 ⟨rfl, rfl⟩
    refine ⟨none, rfl, hXx, ?_⟩
    rintro W rfl
    have hXW := hXx.set 0 (.pointer none)
    refine ⟨⟨fun b => O b ∨ b = g, ⟨_, f, _, n0, hXW, .inl hX, row_ownkeep (Q := fun b => b = X) hr (keep_one wx X 0 _) (fun g' e => by rw [← own_some e]; exact gX), by rw [World.size_setCell]; omega, fun g' e => .inr (own_some e).symm, fun b hb => ?_, .inl ⟨rfl, rfl⟩⟩, fun b hb => ?_⟩, kx _ _ (Keep.refl _ _)⟩
    · rw [World.size_setCell]
      rcases hb with hb | rfl
      · have := hlt b hb; omega
      · exact hgl
    · rcases hb with hb | rfl
      · exact .inl hb
      · exact hg.imp (hu b) id
  | cons k2 M =>
    obtain ⟨o, rfl, ⟨cs, hB⟩, hcells⟩ := hrow (by simp)
    have nB : B ≠ X := hB.apart hXb (by decide)
    have nBl : B ≠ bl := hB.apart h1 (by decide)
    have nBu : ¬ u.ownBlock = some B := fun e => by
      obtain ⟨_, c, hb⟩ := row_lt hu2 e
      exact hB.apart hb (by decide) rfl
    have c0 := cell_keep6 (hcells 0 k2 rfl) hk (fun h => h.elim nBu nB)
    refine (supply_more bl B o M.length cp k2.t wx b1 (by simpa using c0) (by simpa using hcp)).mono ?_
    rintro e w2 ⟨rfl, a', ha', rfl⟩
    have k2' : Keep (fun b => b = bl) wx (wx.setCell ⟨bl, 0, none⟩ (.slice a' M.length (cp - 1))) := keep_one wx bl 0 _
    have b2 : Blk (wx.setCell ⟨bl, 0, none⟩ (.slice a' M.length (cp - 1))) bl 61 #[.slice a' M.length (cp - 1)] := b1.set 0 _
    have X2 := hXx.keep k2' (fun e => nbl e.symm)
    generalize wx.setCell ⟨bl, 0, none⟩ (.slice a' M.length (cp - 1)) = w2 at *
    refine ⟨some ⟨k2.t, 0, none⟩, rfl, X2, ?_⟩
    rintro W rfl
    have k3 : Keep (fun b => b = X) w2 (w2.setCell ⟨X, 0, none⟩ (pV k2.t)) := keep_one w2 X 0 _
    have kA : Keep (fun b => b = bl ∨ b = X) wx (w2.setCell ⟨X, 0, none⟩ (pV k2.t)) := (k2'.mono (fun _ _ e => .inl e)).step k3 (fun _ _ e => .inr e)
    have kB : Keep (fun b => (u.ownBlock = some b ∨ b = X) ∨ b = bl) w (w2.setCell ⟨X, 0, none⟩ (pV k2.t)) := (hk.mono (fun _ _ e => .inl e)).step kA (fun _ _ e => e.elim .inr (fun e => .inl (.inr e)))
    have hXW := X2.set 0 (pV k2.t)
    have h6' := fun j hj => h6 j (List.mem_cons_of_mem k hj)
    refine ⟨⟨fun b => O b ∨ b = g, ⟨_, f, _, n0, hXW, .inl hX, row_ownkeep hr kA (fun g' e => by rw [← own_some e]; exact fun h => h.elim gbl gX), by rw [World.size_setCell]; have := k2'.size; omega, fun g' e => .inr (own_some e).symm, fun b hb => ?_, .inr ?_⟩, fun b hb => ?_⟩, kx _ _ k2'⟩
    · rw [World.size_setCell]
      have := k2'.size
      rcases hb with hb | rfl
      · have := hlt b hb; omega
      · omega
    · refine ⟨k2, M, bl, B, _, by simp, rfl, e3, b2.keep k3 nbl, .inl h2, ⟨a', cp - 1, rfl, by simp at hcp; omega, fun hM => ⟨o + 1, ha' (by cases M with | nil => exact absurd rfl hM | cons _ _ => simp), ⟨cs, hB.keep kB (fun h => h.elim (fun h => h.elim nBu nB) nBl)⟩, fun i q hi => ?_⟩⟩, fun _ => .inl (h4 (by simp)), ?_, ?_⟩
      · have := cell_keep6 (hcells (i + 1) q (by simpa using hi)) kB (fun h => h.elim (fun h => h.elim nBu nB) nBl)
        rwa [show o + (i + 1) = o + 1 + i by omega] at this
      · have hT : TksAt w C P (k2 :: M) := ⟨fun j hj => h5.1 j (List.mem_cons_of_mem k hj), (List.pairwise_cons.1 h5.2).2⟩
        exact hT.keep kB (fun j hj b hb h => by
          have := h6' j hj b hb
          rcases h with (h | h) | h
          · exact this.2.2.2.2 h
          · exact this.2.1 h
          · exact this.2.2.1 h)
      · intro j hj b hb
        have := h6' j hj b hb
        refine ⟨.inl this.1, this.2.1, this.2.2.1, fun hM => this.2.2.2.1 (by simp), fun e => ?_⟩
        obtain rfl := own_some e
        rcases hg with hg | hg
        · exact this.2.2.2.2 hg
        · have := hlt _ this.1; omega
    · rcases hb with hb | rfl
      · exact .inl hb
      · exact hg.imp (hu b) id
theorem past_app {wr Wd w6 : World} {X n0 g cap6 : Nat} {cur f u : Value} {vs : List Int} {v : Int} {o : Obj} (kd : Keep (fun _ => False) wr Wd) (hr : w6.ownsRow n0 3 1 (.slice (some ⟨g, 0, none⟩) (vs.length + 1) cap6) (vs.length + 1) (vs.map (.int .i64) ++ [.int .i64 v])) (hgr : (Wd.alloc o).grownBy w6 u.ownBlock)
    (hg : u.ownBlock = some g ∨ Wd.heap.size ≤ g) (hX : Blk w6 X 86 #[cur, f, u]) : PastApp wr (w6.setCell ⟨X, 2, none⟩ (.slice (some ⟨g, 0, none⟩) (vs.length + 1) cap6)) X cur f u n0 (vs ++ [v]) := by
  have gX : g ≠ X := by
    obtain ⟨_, c, hb⟩ := row_lt hr (g := g) rfl
    exact hb.apart hX (by decide)
  have e : (vs ++ [v]).length = vs.length + 1 := by simp
  refine ⟨g, cap6, by rw [e]; exact hX.set 2 _, ?_, hg.imp id (fun h => Nat.le_trans kd.size h), ((kd.mono (fun _ _ h => h.elim)).step (grown_keep hgr) (fun _ _ h => .inl h)).step (keep_one _ X 2 _) (fun _ _ h => .inr h)⟩
  rw [e]
  simpa using row_ownkeep hr (keep_one w6 X 2 _) (fun g' h => by rw [← own_some h]; exact gX)
set_option maxHeartbeats 4000000 in
theorem goOn_any (C P X : Nat) (O : Nat → Prop) (l : List Tsk) (vs : List Int) (w : World) (h : ThrAt w C P X O l vs) (hn : l.length + vs.length ≤ 1000) :
    Calls Tryz.prog 71 #[pV X] w fun e w' => e = .returned (.tuple #[]) ∧ (∃ O', ThrAt w' C P X O' (goS l vs).1 (goS l vs).2 ∧ ∀ b, O' b → O b ∨ w.heap.size ≤ b) ∧ Keep O w w' := by
  obtain ⟨i0, hi, hz0, hz1, hz2⟩ := info_parts mint_info
  have H0 := Lib.hid h
  clear h
  go_enter Tryz.func71, Tryz.ntmps71
  go_wp2
  go_loopg [2] l.length (fun k _ wr => ∃ l' vs' O', k = l'.length ∧ Hid (goS l' vs' = goS l vs) ∧ l'.length + vs'.length ≤ 1000 ∧ Hid (ThrAt wr C P X O' l' vs') ∧ Hid (∀ b, O' b → O b ∨ w.heap.size ≤ b) ∧ Keep O w wr)
  case atStart => exact ⟨l, vs, O, rfl, Lib.hid rfl, hn, H0, Lib.hid (fun b h => .inl h), Keep.refl _ _⟩
  case round =>
    clear H0
    obtain ⟨l', vs', O', hk, hS, hn', hT, hO, hK⟩ := hrel
    obtain ⟨cur, f, u, n0, h1, h2, h3, h4, h5, h6, h7⟩ := hT.out
    rcases h7 with ⟨rfl, rfl⟩ | h7
    · have x0 : wr.cell? ⟨X, 0, none⟩ = some (.pointer none) := h1.cell 0 _ rfl
      clear h1 h2 h3 h4 h5 h6 hn hn'
      go_wp2
      go_end0
      refine ⟨rfl, ⟨O', ?_, hO.out⟩, hK⟩
      rw [← hS.out]
      exact hT.out
    · cases l' with
      | nil =>
        obtain ⟨k, M, bl, B, sl, e1, _⟩ := h7
        simp at e1
      | cons x l' =>
        obtain ⟨t, Q, rfl, hTk, hQ⟩ := live_uns h7
        obtain ⟨r, v⟩ := x
        have x0 : wr.cell? ⟨X, 0, none⟩ = some (pV t) := h1.cell 0 _ rfl
        have HD := Lib.hid (isdone_any C P t Q r v wr hTk)
        cases r with
        | cons y r =>
          clear h1 h2 h3 h4 h5 h6 hn h7 hTk hQ
          go_wp2_with (go_at_call 44; refine HD.out.mono ?_; rintro e w3 ⟨rfl, rfl⟩)
          go_end0
          refine ⟨rfl, ⟨O', ?_, hO.out⟩, hK⟩
          rw [← hS.out, goS_live (by simp)]
          exact hT.out
        | nil =>
          have HV := Lib.hid (isvalue_any C P t Q [] v wr.drew (hTk.keep (F := fun _ => False) ((Keep.refl _ _).drew) (fun _ _ h => h)))
          have hval : valueS [] v = v := rfl
          rw [hval] at HV
          have H1 := Lib.hid h1
          have H3 := Lib.hid h3
          have H7 := Lib.hid h7
          have H2 := Lib.hid h2
          have H4 := Lib.hid h4
          have H5 := Lib.hid h5
          have H6 := Lib.hid h6
          simp only [List.length_cons] at hn' hk
          clear h1 h3 h7 h2 h4 h5 h6 hTk hQ hn hval
          go_upto_region 1 with (go_at_call 44; refine HD.out.mono ?_; rintro e w3 ⟨rfl, rfl⟩)
          go_cut [] from 2 to 35 (fun wx => PastApp wr wx X (pV t) f u n0 (vs' ++ [v]))
          case first =>
            have kd : Keep (fun _ => False) wr wr.drew := (Keep.refl _ _).drew
            have hXd := H1.out.keep kd (fun h => h)
            have hrd := ownsRow_keep H3.out kd
            have hnd : n0 ≤ wr.drew.heap.size := Nat.le_trans H4.out kd.size
            have nXu : ¬ u.ownBlock = some X := fun e => by
              obtain ⟨_, c, hb⟩ := row_lt H3.out e
              exact H1.out.apart hb (by decide) rfl
            refine wp_region_held_drew (S := (fun w' => w'.cell? ⟨X, 0, none⟩ = some (pV t))) (by kernel_rfl) (hXd.cell 0 _ rfl) (fun hHeld => ?_)
            clear x0 HD
            generalize wr.drew = Wd at *
            have XS : ∀ o, (Wd.alloc o).cell? ⟨X, 0, none⟩ = some (pV t) := fun o => (hXd.alloc o).cell 0 _ rfl
            have XK : ∀ w6, (Wd.alloc (.cells #[.int .i64 v] 3)).grownBy w6 u.ownBlock → Blk w6 X 86 #[pV t, f, u] := fun w6 hg => hXd.keep (grown_keep hg) nXu
            have X7 : ∀ (w6 : World) v2, Blk w6 X 86 #[pV t, f, u] → (w6.setCell ⟨X, 2, none⟩ v2).cell? ⟨X, 0, none⟩ = some (pV t) := fun w6 v2 h => (h.set 2 v2).cell 0 _ rfl
            have x2 : Wd.cell? ⟨X, 2, none⟩ = some u := hXd.cell 2 _ rfl
            have hln : vs'.length + 1 ≤ 1000 := by omega
            refine wpAnyH_take (i := 0) (oi := _) (v := ?_) rfl (by kernel_rfl) (by kernel_rfl) (by kernel_rfl) (fun _ _ _ h => h) (Or.inl ⟨by rfl, ?_⟩) (by assumption) ?_
            rotate_left
            · intro w hSw; (try dsimp only at hSw); go_simp; try with_reducible rfl
            (try simp only [Act.put, List.setIfInBounds_toArray, List.set_cons_zero, List.set_cons_succ])
            refine wpAnyH_take (i := 1) (oi := _) (v := ?_) rfl (by kernel_rfl) (by kernel_rfl) (by kernel_rfl) (fun _ _ _ h => h) (Or.inl ⟨by rfl, ?_⟩) (by assumption) ?_
            rotate_left
            · intro w hSw; (try dsimp only at hSw); go_simp; try with_reducible rfl
            (try simp only [Act.put, List.setIfInBounds_toArray, List.set_cons_zero, List.set_cons_succ])
            refine wpAnyH_take (i := 2) (oi := _) (v := ?_) rfl (by kernel_rfl) (by kernel_rfl) (by kernel_rfl) (fun _ _ _ h => h) (Or.inl ⟨by rfl, ?_⟩) (by assumption) ?_
            rotate_left
            · intro w hSw; (try dsimp only at hSw); go_simp; try with_reducible rfl
            (try simp only [Act.put, List.setIfInBounds_toArray, List.set_cons_zero, List.set_cons_succ])
            refine wpAnyH_take (i := 3) (oi := _) (v := ?_) rfl (by kernel_rfl) (by kernel_rfl) (by kernel_rfl) (fun _ _ _ h => h) (Or.inl ⟨by rfl, ?_⟩) (by assumption) ?_
            rotate_left
            · intro w hSw; (try dsimp only at hSw); go_simp; try with_reducible rfl
            (try simp only [Act.put, List.setIfInBounds_toArray, List.set_cons_zero, List.set_cons_succ])
            refine wpAnyH_take (i := 5) (oi := _) (v := ?_) rfl (by kernel_rfl) (by kernel_rfl) (by kernel_rfl) (fun _ _ _ h => h) (Or.inl ⟨by rfl, ?_⟩) (by assumption) ?_
            rotate_left
            · intro w hSw; (try dsimp only at hSw); go_simp; try with_reducible rfl
            (try simp only [Act.put, List.setIfInBounds_toArray, List.set_cons_zero, List.set_cons_succ])
            refine wpAnyH_take (i := 6) (oi := _) (v := ?_) rfl (by kernel_rfl) (by kernel_rfl) (by kernel_rfl) (fun _ _ _ h => h) (Or.inl ⟨by rfl, ?_⟩) (by assumption) ?_
            rotate_left
            · intro w hSw; (try dsimp only at hSw); go_simp; try with_reducible rfl
            (try simp only [Act.put, List.setIfInBounds_toArray, List.set_cons_zero, List.set_cons_succ])
            refine wpAnyH_take (i := 7) (oi := _) (v := ?_) rfl (by kernel_rfl) (by kernel_rfl) (by kernel_rfl) (fun _ _ _ h => h) (Or.inl ⟨by rfl, ?_⟩) (by assumption) ?_
            rotate_left
            · intro w hSw; (try dsimp only at hSw); go_simp; try with_reducible rfl
            (try simp only [Act.put, List.setIfInBounds_toArray, List.set_cons_zero, List.set_cons_succ])
            refine wpAnyH_take (i := 8) (oi := _) (v := ?_) rfl (by kernel_rfl) (by kernel_rfl) (by kernel_rfl) (fun _ _ _ h => h) (Or.inl ⟨by rfl, ?_⟩) (by assumption) ?_
            rotate_left
            · intro w hSw; (try dsimp only at hSw); go_simp; try with_reducible rfl
            (try simp only [Act.put, List.setIfInBounds_toArray, List.set_cons_zero, List.set_cons_succ])
            refine wpAnyH_ready (rs := [4, 9]) (by kernel_rfl) (by simp) ?_
            refine AllReadyH.cons rfl (fun K hK => ?_) (AllReadyH.cons rfl (fun K hK => ?_) AllReadyH.nil)
            · go_simp
              go_wp2_with fail
              refine hK.out _ _ ((by assumption)) (fun hHeld => ?_)
              clear hK K
              (try dsimp only [Act.put]); (try simp only [Act.put, List.setIfInBounds_toArray, List.set_cons_zero, List.set_cons_succ])
              refine wpAnyH_ready (rs := [9]) (by kernel_rfl) (by simp) ?_
              refine AllReadyH.cons rfl (fun K hK => ?_) AllReadyH.nil
              go_simp
              go_at_call 98
              refine HV.out.mono ?_
              rintro e w3 ⟨rfl, rfl⟩
              go_wp2_with fail
              refine hK.out _ _ ((by assumption)) (fun hHeld => ?_)
              clear hK K
              (try dsimp only [Act.put]); (try simp only [Act.put, List.setIfInBounds_toArray, List.set_cons_zero, List.set_cons_succ])
              refine wpAnyH_ready (rs := [10]) (by kernel_rfl) (by simp) ?_
              refine AllReadyH.cons rfl (fun K hK => ?_) AllReadyH.nil
              go_simp
              go_wp2_with fail
              refine hK.out _ _ ((XS _)) (fun hHeld => ?_)
              clear hK K
              (try dsimp only [Act.put]); (try simp only [Act.put, List.setIfInBounds_toArray, List.set_cons_zero, List.set_cons_succ])
              have hr5 := (hrd.alloc (.cells #[.int .i64 v] 3))
              have hnew := cell_one_new Wd (.int .i64 v) 3
              refine wpAnyH_ready (rs := [11]) (by kernel_rfl) (by simp) ?_
              refine AllReadyH.cons rfl (fun K hK => ?_) AllReadyH.nil
              rw [if_pos (by kernel_rfl)]
              refine wp_append_own2 _ _ _ _ rfl n0 3 i0 (.int .i64 0) 1 8 Tryz.underlying48 hi hz0 hz1 hz2 rfl (by decide) _ _ _ rfl hr5 ⟨Wd.heap.size, 0, none⟩ 1 1 [.int .i64 v] rfl rfl hnew (by simp [Value.oneCell']) (by unfold maxLen; omega) (by omega) (by simp; omega) (by omega) ?_
              intro g cap6 w6 hr6 hgr hg
              have X6 := XK w6 hgr
              have z2 := X6.free 2
              have d2 : w6.cell? ⟨X, 2, none⟩ = some u := X6.cell 2 _ rfl
              have x0 : w6.cell? ⟨X, 0, none⟩ = some (pV t) := X6.cell 0 _ rfl
              refine hK.out _ _ x0 (fun hHeld => ?_)
              clear hK K
              (try dsimp only [Act.put]); (try simp only [Act.put, List.setIfInBounds_toArray, List.set_cons_zero, List.set_cons_succ])
              refine wpAnyH_take (i := 12) (oi := _) (v := ?_) rfl (by kernel_rfl) (by kernel_rfl) (by kernel_rfl) (fun _ _ _ h => h) (Or.inl ⟨by rfl, ?_⟩) (by assumption) ?_
              rotate_left
              · intro w hSw; (try dsimp only at hSw); go_simp; try with_reducible rfl
              (try simp only [Act.put, List.setIfInBounds_toArray, List.set_cons_zero, List.set_cons_succ])
              refine wpAnyH_take (i := 13) (oi := _) (v := ?_) rfl (by kernel_rfl) (by kernel_rfl) (by kernel_rfl) (fun _ _ _ h => h) (Or.inl ⟨by rfl, ?_⟩) (by assumption) ?_
              rotate_left
              · intro w hSw; (try dsimp only at hSw); go_simp; try with_reducible rfl
              (try simp only [Act.put, List.setIfInBounds_toArray, List.set_cons_zero, List.set_cons_succ])
              refine wpAnyH_ready (rs := [14]) (by kernel_rfl) (by simp) ?_
              refine AllReadyH.cons rfl (fun K hK => ?_) AllReadyH.nil
              go_simp
              go_wp2_with fail
              refine hK.out _ _ (X7 w6 _ X6) (fun hHeld => ?_)
              clear hK K
              (try dsimp only [Act.put]); (try simp only [Act.put, List.setIfInBounds_toArray, List.set_cons_zero, List.set_cons_succ])
              refine wpAnyH_done (by kernel_rfl) ?_ _
              replace hg : u.ownBlock = some g ∨ Wd.heap.size ≤ g := hg.imp id (fun h => by rw [World.size_alloc] at h; omega)
              clear hHeld x0 z2 d2 hr5 hnew
              go_wp2_with fail
              go_meet
              exact past_app kd hr6 hgr hg X6
            · go_simp
              go_at_call 98
              refine HV.out.mono ?_
              rintro e w3 ⟨rfl, rfl⟩
              go_wp2_with fail
              refine hK.out _ _ ((by assumption)) (fun hHeld => ?_)
              clear hK K
              (try dsimp only [Act.put]); (try simp only [Act.put, List.setIfInBounds_toArray, List.set_cons_zero, List.set_cons_succ])
              refine wpAnyH_ready (rs := [4, 10]) (by kernel_rfl) (by simp) ?_
              refine AllReadyH.cons rfl (fun K hK => ?_) (AllReadyH.cons rfl (fun K hK => ?_) AllReadyH.nil)
              · go_simp
                go_wp2_with fail
                refine hK.out _ _ ((by assumption)) (fun hHeld => ?_)
                clear hK K
                (try dsimp only [Act.put]); (try simp only [Act.put, List.setIfInBounds_toArray, List.set_cons_zero, List.set_cons_succ])
                refine wpAnyH_ready (rs := [10]) (by kernel_rfl) (by simp) ?_
                refine AllReadyH.cons rfl (fun K hK => ?_) AllReadyH.nil
                go_simp
                go_wp2_with fail
                refine hK.out _ _ ((XS _)) (fun hHeld => ?_)
                clear hK K
                (try dsimp only [Act.put]); (try simp only [Act.put, List.setIfInBounds_toArray, List.set_cons_zero, List.set_cons_succ])
                have hr5 := (hrd.alloc (.cells #[.int .i64 v] 3))
                have hnew := cell_one_new Wd (.int .i64 v) 3
                refine wpAnyH_ready (rs := [11]) (by kernel_rfl) (by simp) ?_
                refine AllReadyH.cons rfl (fun K hK => ?_) AllReadyH.nil
                rw [if_pos (by kernel_rfl)]
                refine wp_append_own2 _ _ _ _ rfl n0 3 i0 (.int .i64 0) 1 8 Tryz.underlying48 hi hz0 hz1 hz2 rfl (by decide) _ _ _ rfl hr5 ⟨Wd.heap.size, 0, none⟩ 1 1 [.int .i64 v] rfl rfl hnew (by simp [Value.oneCell']) (by unfold maxLen; omega) (by omega) (by simp; omega) (by omega) ?_
                intro g cap6 w6 hr6 hgr hg
                have X6 := XK w6 hgr
                have z2 := X6.free 2
                have d2 : w6.cell? ⟨X, 2, none⟩ = some u := X6.cell 2 _ rfl
                have x0 : w6.cell? ⟨X, 0, none⟩ = some (pV t) := X6.cell 0 _ rfl
                refine hK.out _ _ x0 (fun hHeld => ?_)
                clear hK K
                (try dsimp only [Act.put]); (try simp only [Act.put, List.setIfInBounds_toArray, List.set_cons_zero, List.set_cons_succ])
                refine wpAnyH_take (i := 12) (oi := _) (v := ?_) rfl (by kernel_rfl) (by kernel_rfl) (by kernel_rfl) (fun _ _ _ h => h) (Or.inl ⟨by rfl, ?_⟩) (by assumption) ?_
                rotate_left
                · intro w hSw; (try dsimp only at hSw); go_simp; try with_reducible rfl
                (try simp only [Act.put, List.setIfInBounds_toArray, List.set_cons_zero, List.set_cons_succ])
                refine wpAnyH_take (i := 13) (oi := _) (v := ?_) rfl (by kernel_rfl) (by kernel_rfl) (by kernel_rfl) (fun _ _ _ h => h) (Or.inl ⟨by rfl, ?_⟩) (by assumption) ?_
                rotate_left
                · intro w hSw; (try dsimp only at hSw); go_simp; try with_reducible rfl
                (try simp only [Act.put, List.setIfInBounds_toArray, List.set_cons_zero, List.set_cons_succ])
                refine wpAnyH_ready (rs := [14]) (by kernel_rfl) (by simp) ?_
                refine AllReadyH.cons rfl (fun K hK => ?_) AllReadyH.nil
                go_simp
                go_wp2_with fail
                refine hK.out _ _ (X7 w6 _ X6) (fun hHeld => ?_)
                clear hK K
                (try dsimp only [Act.put]); (try simp only [Act.put, List.setIfInBounds_toArray, List.set_cons_zero, List.set_cons_succ])
                refine wpAnyH_done (by kernel_rfl) ?_ _
                replace hg : u.ownBlock = some g ∨ Wd.heap.size ≤ g := hg.imp id (fun h => by rw [World.size_alloc] at h; omega)
                clear hHeld x0 z2 d2 hr5 hnew
                go_wp2_with fail
                go_meet
                exact past_app kd hr6 hgr hg X6
              · go_simp
                go_wp2_with fail
                refine hK.out _ _ ((XS _)) (fun hHeld => ?_)
                clear hK K
                (try dsimp only [Act.put]); (try simp only [Act.put, List.setIfInBounds_toArray, List.set_cons_zero, List.set_cons_succ])
                refine wpAnyH_ready (rs := [4]) (by kernel_rfl) (by simp) ?_
                refine AllReadyH.cons rfl (fun K hK => ?_) AllReadyH.nil
                have x2 : (Wd.alloc (.cells #[.int .i64 v] 3)).cell? ⟨X, 2, none⟩ = some u := (hXd.alloc _).cell 2 _ rfl
                go_simp
                go_wp2_with fail
                refine hK.out _ _ ((XS _)) (fun hHeld => ?_)
                clear hK K
                (try dsimp only [Act.put]); (try simp only [Act.put, List.setIfInBounds_toArray, List.set_cons_zero, List.set_cons_succ])
                have hr5 := (hrd.alloc (.cells #[.int .i64 v] 3))
                have hnew := cell_one_new Wd (.int .i64 v) 3
                refine wpAnyH_ready (rs := [11]) (by kernel_rfl) (by simp) ?_
                refine AllReadyH.cons rfl (fun K hK => ?_) AllReadyH.nil
                rw [if_pos (by kernel_rfl)]
                refine wp_append_own2 _ _ _ _ rfl n0 3 i0 (.int .i64 0) 1 8 Tryz.underlying48 hi hz0 hz1 hz2 rfl (by decide) _ _ _ rfl hr5 ⟨Wd.heap.size, 0, none⟩ 1 1 [.int .i64 v] rfl rfl hnew (by simp [Value.oneCell']) (by unfold maxLen; omega) (by omega) (by simp; omega) (by omega) ?_
                intro g cap6 w6 hr6 hgr hg
                have X6 := XK w6 hgr
                have z2 := X6.free 2
                have d2 : w6.cell? ⟨X, 2, none⟩ = some u := X6.cell 2 _ rfl
                have x0 : w6.cell? ⟨X, 0, none⟩ = some (pV t) := X6.cell 0 _ rfl
                refine hK.out _ _ x0 (fun hHeld => ?_)
                clear hK K
                (try dsimp only [Act.put]); (try simp only [Act.put, List.setIfInBounds_toArray, List.set_cons_zero, List.set_cons_succ])
                refine wpAnyH_take (i := 12) (oi := _) (v := ?_) rfl (by kernel_rfl) (by kernel_rfl) (by kernel_rfl) (fun _ _ _ h => h) (Or.inl ⟨by rfl, ?_⟩) (by assumption) ?_
                rotate_left
                · intro w hSw; (try dsimp only at hSw); go_simp; try with_reducible rfl
                (try simp only [Act.put, List.setIfInBounds_toArray, List.set_cons_zero, List.set_cons_succ])
                refine wpAnyH_take (i := 13) (oi := _) (v := ?_) rfl (by kernel_rfl) (by kernel_rfl) (by kernel_rfl) (fun _ _ _ h => h) (Or.inl ⟨by rfl, ?_⟩) (by assumption) ?_
                rotate_left
                · intro w hSw; (try dsimp only at hSw); go_simp; try with_reducible rfl
                (try simp only [Act.put, List.setIfInBounds_toArray, List.set_cons_zero, List.set_cons_succ])
                refine wpAnyH_ready (rs := [14]) (by kernel_rfl) (by simp) ?_
                refine AllReadyH.cons rfl (fun K hK => ?_) AllReadyH.nil
                go_simp
                go_wp2_with fail
                refine hK.out _ _ (X7 w6 _ X6) (fun hHeld => ?_)
                clear hK K
                (try dsimp only [Act.put]); (try simp only [Act.put, List.setIfInBounds_toArray, List.set_cons_zero, List.set_cons_succ])
                refine wpAnyH_done (by kernel_rfl) ?_ _
                replace hg : u.ownBlock = some g ∨ Wd.heap.size ≤ g := hg.imp id (fun h => by rw [World.size_alloc] at h; omega)
                clear hHeld x0 z2 d2 hr5 hnew
                go_wp2_with fail
                go_meet
                exact past_app kd hr6 hgr hg X6
          case rest =>
            obtain ⟨bl, rfl, hC⟩ := live_next H7.out H2.out H5.out H6.out H4.out (by simpa using H3.out) H1.out hcut
            obtain ⟨g, cap, hXx, hr, hg, hkk⟩ := hcut
            have x1 : wc.cell? ⟨X, 1, none⟩ = some (cloV 95 #[pV bl]) := hXx.cell 1 _ rfl
            have HC := Lib.hid hC
            clear hC hXx hr hg hkk H7 H3 H1 H2 H4 H5 H6 x0 HV HD
            go_wp2_with (go_at_call 95; refine HC.out.mono ?_; rintro e w2 ⟨c2, rfl, hX2, hW⟩; have y0 := hX2.cell 0 _ rfl; have z0 := hX2.free 0)
            go_roundg l'.length
            case measure => omega
            case rel =>
              obtain ⟨⟨O2, hT2, hO2⟩, k2⟩ := hW _ rfl
              refine ⟨l', vs' ++ [v], O2, rfl, Lib.hid (by rw [← hS.out, goS_done]), by simp; omega, Lib.hid hT2, Lib.hid (fun b hb => ?_), hK.step k2 (fun i hi h => ?_)⟩
              · rcases hO2 b hb with h | h
                · exact hO.out b h
                · exact .inr (Nat.le_trans hK.size h)
              · rcases hO.out i h with h | h
                · exact h
                · omega
end Go.Proofs.YtpopcallphbklaaGreat
