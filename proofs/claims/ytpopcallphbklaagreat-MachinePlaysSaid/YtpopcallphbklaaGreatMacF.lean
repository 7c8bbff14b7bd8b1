/- Package machine: Pick. -/
import Derived.Test.YtpopcallphbklaaGreatMacE
namespace Go.Proofs.YtpopcallphbklaaGreat
open Go.ChangeShapes Go.WideShapes Go.ChangeAt Go.RowKit
set_option linter.unusedVariables false
set_option maxRecDepth 100000
set_option linter.unusedSimpArgs false
theorem mpick_no (m : Value) (x : Thr) (C P R : Nat) (cs : List Nat) (ps : List Bool) (t k : Int) (w : World) (hP : parkedT x = true → PermitsAt w P R cs ps) (hok : ∀ t ∈ x.1, ParkOk ps t.1) (hk : canT ps x k = false)
    (H : ∀ W, Below w.heap.size w W → Calls Tryz.prog 36 #[m, .int .i64 t] W fun e w' => ∃ X O, e = .returned (pV X) ∧ ThrAt w' C P X O x.1 x.2 ∧ Below W.heap.size W w') :
    Calls Tryz.prog 8 #[m, .agg #[.int .i64 t, .int .i64 k]] w fun e w' => e = .returned (.bool false) ∧ Below w.heap.size w w' := by
  have HH := Lib.hid H
  have HP := Lib.hid hP
  have HO := Lib.hid hok
  have HK := Lib.hid hk
  clear H hP hok hk
  go_enter Tryz.func8, Tryz.ntmps8
  go_upto_region 1 with fail
  generalize hW : (w.alloc _) = W0
  have bW : Below w.heap.size w W0 := by rw [← hW]; go_grown
  have q0 : Blk W0 w.heap.size 37 #[.int .i64 t, .int .i64 k] := by rw [← hW]; exact Blk.new w _ _
  clear hW
  have hl := q0.lt
  have SK := Lib.hid (show ∀ W, Below W0.heap.size W0 W → W.cell? ⟨w.heap.size, 0, none⟩ = some (.int .i64 t) ∧ W.cell? ⟨w.heap.size, 1, none⟩ = some (.int .i64 k) from fun W hk => ⟨(q0.below hk hl).cell 0 _ rfl, (q0.below hk hl).cell 1 _ rfl⟩)
  have bd : Below W0.heap.size W0 W0.drew := ⟨rfl, rfl, rfl, Nat.le_refl _, fun _ _ => rfl⟩
  have HT := Lib.hid (HH.out W0.drew (bW.trans (bd.mono bW.size)))
  go_region_held3 (fun W => W.cell? ⟨w.heap.size, 0, none⟩ = some (.int .i64 t) ∧ W.cell? ⟨w.heap.size, 1, none⟩ = some (.int .i64 k)) (first | exact SK.out _ b3 | exact SK.out _ b2 | exact SK.out _ bd) (first
    | (go_at_call 36; refine HT.out.mono ?_; rintro e w2 ⟨X, O, rfl, hT, hb⟩; have b2 : Below W0.heap.size W0 w2 := bd.trans hb; have HC := Lib.hid (thr_no k hT (fun hp => (HP.out hp).keep (Keep.ofBelow (Q := fun _ => False) (bW.trans (b2.mono bW.size))) (fun h => h) (fun h => h) (fun _ _ h => h)) HO.out HK.out))
    | (go_at_call 37; refine HC.out.mono ?_; rintro e w3 ⟨rfl, k3⟩; have b3 : Below W0.heap.size W0 w3 := b2.trans (k3.below b2.size (fun _ _ h => h.elim))))
  go_wp2
  go_ret
  exact ⟨rfl, bW.trans (b3.mono bW.size)⟩
theorem mpick_yes (C P M i : Nat) (U F : Nat → Prop) (L : List Th) (kk : Th) (r r' : List Itm) (v v' : Int) (l : List Tsk) (k : Int) (R : World → Prop) (w : World) (h : MachAt w C P M U L) (hi : L[i]? = some kk) (hx : kk.x.1 = (r, v) :: l)
    (hst : ∀ W, Below w.heap.size w W → ∀ t Q, TaskG W C P t Q r v → (∀ b, Q b → U b) → Calls Tryz.prog 70 #[pV t, .int .i64 k] W fun e w' => e = .returned (.bool true) ∧ (∃ Q', TaskG w' C P t Q' r' v' ∧ ∀ b, Q' b → Q b ∨ W.heap.size ≤ b) ∧ R w' ∧ Keep (fun b => b = t ∨ F b) W w')
    (hF : ∀ b, U b → ¬ F b) (hFl : ∀ b, F b → b < w.heap.size) :
    Calls Tryz.prog 8 #[pV M, .agg #[.int .i64 i, .int .i64 k]] w fun e w' => e = .returned (.bool true) ∧
      (∃ U' O', MachAt w' C P M U' (L.set i ⟨kk.X, O', goS ((r', v') :: l) kk.x.2⟩) ∧ ∀ b, U' b → U b ∨ w.heap.size ≤ b) ∧ (∃ w1, R w1 ∧ Keep (fun b => U b ∨ w.heap.size ≤ b) w1 w') ∧ Keep (fun b => U b ∨ F b) w w' := by
  have HT : Hid (∀ W, Below w.heap.size w W → Calls Tryz.prog 36 #[pV M, .int .i64 i] W fun e w' => e = .returned (pV kk.X) ∧ W = w') := Lib.hid fun W hb => thread_yes C P M i U L kk W (h.still (Keep.ofBelow hb)) hi
  have HC : Hid (∀ W, Below w.heap.size w W → Calls Tryz.prog 37 #[pV kk.X, .int .i64 k] W fun e w' => e = .returned (.bool true) ∧ (∃ U' O', MachAt w' C P M U' (L.set i ⟨kk.X, O', goS ((r', v') :: l) kk.x.2⟩) ∧ ∀ b, U' b → U b ∨ W.heap.size ≤ b) ∧ (∃ w1, R w1 ∧ Keep (fun b => U b ∨ W.heap.size ≤ b) w1 w') ∧ Keep (fun b => U b ∨ F b) W w') := Lib.hid (by
    intro W hb
    have hM := h.still (Keep.ofBelow hb)
    have hkm := List.mem_of_getElem? hi
    obtain ⟨a1, a2, a3, a4⟩ := hM.thr kk hkm
    rw [hx] at a1 a4
    refine (thr_yes (F := F) (r' := r') (v' := v') k a1 (by simp at a4; omega) (fun t Q hT hQ => hst W hb t Q hT (fun b hb => a3 b (hQ b hb))) (fun b hb => hF b (a3 b hb))).mono ?_
    rintro e w' ⟨rfl, ⟨O', g1, g2⟩, ⟨w1, g3, g4, g5⟩, g6⟩
    have hl := goS_len ((r', v') :: l) kk.x.2
    obtain ⟨U', m1, m2⟩ := hM.turn (O' := O') (x' := goS ((r', v') :: l) kk.x.2) hi g6 hF g1 g2 (goS_ok _ _) (by simp at a4 hl; omega)
    exact ⟨rfl, ⟨U', O', m1, m2⟩, ⟨w1, g3, g5.mono (fun b _ h => h.imp (a3 b) id)⟩, g6.mono (fun b _ h => h.imp (a3 b) id)⟩)
  have hUl := Lib.hid h.lt
  have hFl' := Lib.hid hFl
  clear h hst hF hFl
  go_enter Tryz.func8, Tryz.ntmps8
  go_upto_region 1 with fail
  generalize hW : (w.alloc _) = W0
  have bW : Below w.heap.size w W0 := by rw [← hW]; go_grown
  have q0 : Blk W0 w.heap.size 37 #[.int .i64 i, .int .i64 k] := by rw [← hW]; exact Blk.new w _ _
  clear hW
  have hl := q0.lt
  have bd : Below W0.heap.size W0 W0.drew := ⟨rfl, rfl, rfl, Nat.le_refl _, fun _ _ => rfl⟩
  have SK := Lib.hid (show ∀ W, Keep (fun b => U b ∨ F b) W0 W → W.cell? ⟨w.heap.size, 0, none⟩ = some (.int .i64 i) ∧ W.cell? ⟨w.heap.size, 1, none⟩ = some (.int .i64 k) from fun W hk => by
    have hn : ¬ (U w.heap.size ∨ F w.heap.size) := fun h => by
      rcases h with h | h
      · have := hUl.out _ h; omega
      · have := hFl'.out _ h; omega
    exact ⟨(q0.keep hk hn).cell 0 _ rfl, (q0.keep hk hn).cell 1 _ rfl⟩)
  have k0 : Keep (fun b => U b ∨ F b) W0 W0.drew := (Keep.refl _ _).drew
  have bWd := bW.trans (bd.mono bW.size)
  go_region_held3 (fun W => W.cell? ⟨w.heap.size, 0, none⟩ = some (.int .i64 i) ∧ W.cell? ⟨w.heap.size, 1, none⟩ = some (.int .i64 k)) (first | exact SK.out _ k3 | exact SK.out _ k0) (first
    | (go_at_call 36; refine (HT.out _ bWd).mono ?_; rintro e w2 ⟨rfl, rfl⟩)
    | (go_at_call 37; refine (HC.out _ bWd).mono ?_; rintro e w3 ⟨rfl, ⟨U', O', m1, m2⟩, ⟨w1, r1, r2⟩, kk3⟩; have k3 := k0.trans kk3))
  go_wp2
  go_ret
  have hs := bWd.size
  refine ⟨rfl, ⟨U', O', m1, fun b hb => (m2 b hb).imp id (fun h => by omega)⟩, ⟨w1, r1, r2.mono (fun b _ h => h.imp id (fun h => by omega))⟩, (Keep.ofBelow bW).trans k3⟩
end Go.Proofs.YtpopcallphbklaaGreat
