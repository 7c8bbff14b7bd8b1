/- Package task: inOrder. -/
import Derived.Test.YtmknnjjmmfbppaaGreatMgBegAW
import Derived.Test.YtmknnjjmmfbppaaGreatMgBegAG
namespace Go.Proofs.YtmknnjjmmfbppaaGreat
open Go.ChangeShapes Go.WideShapes Go.ChangeAt Go.RowKit
set_option linter.unusedVariables false
set_option maxRecDepth 100000
set_option linter.unusedSimpArgs false
/-- what the tasks of a list are together -/
def Res6 (L : List (Option Addr × List Itm)) (r : List Itm) (v : Int) : Prop := (L = [] ∧ r = [] ∧ v = 0) ∨ (L ≠ [] ∧ Equiv6 (flat L) r v)
theorem flat_cons (x : Option Addr × List Itm) (L : List (Option Addr × List Itm)) : flat (x :: L) = x.2 ++ flat L := by simp [flat]
/-- the first one is done, and there are others -/
theorem Res6.skip {x y : Option Addr × List Itm} {L : List (Option Addr × List Itm)} {r : List Itm} {u v : Int} (hx : Equiv6 x.2 [] u) (h : Res6 (y :: L) r v) : Res6 (x :: y :: L) r v := by
  rcases h with ⟨h, _⟩ | ⟨_, h⟩
  · cases h
  · refine .inr ⟨by simp, h.fresh, fun z => ?_⟩
    rw [flat_cons, onS_append, if_pos (hx.on z).1]
    exact h.on _
/-- the first one needs a step -/
theorem Res6.stop {x : Option Addr × List Itm} {L : List (Option Addr × List Itm)} {y : Itm} {r : List Itm} {u v : Int} (hx : Equiv6 x.2 (y :: r) u) : Res6 (x :: L) (y :: (r ++ flat L)) v := by
  refine .inr ⟨by simp, Fresh.append (s := flat L) hx.fresh (by simp), fun z => ?_⟩
  rw [flat_cons, onS_append, (hx.on z).1]
  simp
theorem Res6.one {x : Option Addr × List Itm} {u : Int} (hx : Equiv6 x.2 [] u) : Res6 [x] [] u := by
  refine .inr ⟨by simp, hx.fresh, fun z => ?_⟩
  rw [flat_cons]
  simpa [flat] using hx.on z
theorem Elem.view {w : World} {C P : Nat} {Q : Nat → Prop} {u : Option Addr} {s : List Itm} (h : Elem (Cont w C P Q) w C P Q u s) :
    (∃ v, DoneV w u v ∧ Equiv6 s [] v) ∨ ∃ k y r d p rest gs fs v, u = some ⟨k, 0, none⟩ ∧ Live w k d p rest ∧ TreeO w Q rest (gs ++ fs) ∧ OpAt w C P Q y d p gs ∧ Conts (Cont w C P Q) fs r ∧ Equiv6 s (y :: r) v := by
  rcases h with ⟨rfl, h⟩ | ⟨t, r, v, rfl, h1, h2, h3⟩
  · exact .inl ⟨0, .inl ⟨rfl, rfl⟩, h⟩
  · rcases TaskC.view h2 with ⟨rfl, hd⟩ | ⟨y, r', d, p, rest, gs, fs, rfl, a, b, c, d⟩
    · exact .inl ⟨v, hd, h3⟩
    · exact .inr ⟨t, y, r', _, _, _, gs, fs, v, rfl, a, b, c, d, h3⟩
theorem order_cont {w : World} {C P : Nat} {Q : Nat → Prop} {f bl B o cap : Nat} {M : List (Option Addr × List Itm)} (h1 : Blk w f 157 #[cloV 252 #[pV bl]]) (h2 : Q f) (h3 : Q bl) (h4 : Blk w bl 250 #[.slice (some ⟨B, o, none⟩) (M.length + 1) cap]) (h5 : M ≠ [] → Q B)
    (h6 : M.length < 1000) (h7 : M.length + 1 ≤ cap) (h8 : cap ≤ maxLen) (h9 : RowAt (Cont w C P Q) w C P Q B (o + 1) M) : Cont w C P Q f (flat M) :=
  Cont.fold ⟨h2, bl, B, o, cap, M, h1, h3, h4, h5, h6, h7, h8, h9, rfl⟩
theorem then_task {w : World} {C P : Nat} {Q : Nat → Prop} {t f : Nat} {d p j : Value} {gs fs : List Nat} {x : Itm} {r s : List Itm} {v : Int} (h1 : Live w t d p j) (h2 : TreeO w Q j ((gs ++ fs) ++ [f])) (h3 : OpAt w C P Q x d p gs) (h4 : Conts (Cont w C P Q) fs r) (h5 : Cont w C P Q f s) : TaskC w C P Q t (x :: (r ++ s)) v :=
  ⟨d, p, j, 0, h1.blk, rfl, gs, fs ++ [f], by rw [← List.append_assoc]; exact h2, h3, Conts.append fs [f] r s h4 ⟨s, [], h5, rfl, by simp⟩⟩
theorem Conts.keep {w w1 : World} {C P : Nat} {Q Q' F : Nat → Prop} {fs : List Nat} {r : List Itm} (h : Conts (Cont w C P Q) fs r) (hk : Keep F w w1) (hd : ∀ b, Q b → ¬ F b) (hq : ∀ b, b < w.heap.size → Q b → Q' b) : Conts (Cont w1 C P Q') fs r := h.mono (fun f s h => h.keep hk hd hq) _ _
/-- the row behind its first -/
theorem RowAt.tail {K : Nat → List Itm → Prop} {w : World} {C P : Nat} {Q : Nat → Prop} {B o : Nat} {x : Option Addr × List Itm} {M : List (Option Addr × List Itm)} (h : RowAt K w C P Q B o (x :: M)) : RowAt K w C P Q B (o + 1) M :=
  fun i y hy => by have := h (i + 1) y (by simpa using hy); rwa [show o + (i + 1) = o + 1 + i by omega] at this
theorem cell_lt6 {w : World} {B o : Nat} {v : Value} (h : w.cell? ⟨B, o, none⟩ = some v) : B < w.heap.size := by
  unfold World.cell? at h
  cases hb : w.heap[B]? with
  | none => simp [hb] at h
  | some y => exact (Array.getElem?_eq_some_iff.1 hb).1
theorem slice_from (B o n cap : Nat) (h1 : 1 ≤ n) (h2 : 2 ≤ cap) (W : World) :
    (Instr.slice 250 (.slice (some ⟨B, o, none⟩) n cap) (some (.int .i64 1)) none none).run Tryz.prog W = .ok (.slice (some ⟨B, o + 1, none⟩) (n - 1) (cap - 1)) W := by
  rw [run_slice_l _ 250 _ _ _ (by kernel_rfl) .i64 1 (by omega) (by omega)]
  have hs : (sizeOf (Tryz.prog.elem 250)).run Tryz.prog W = .ok 1 W := by kernel_rfl
  rw [hs]
  have : ¬ cap = 1 := by omega
  simp [Result.andThen, sliced, this, Addr.add]
def rowSl (a : Option Addr) (n cap : Nat) : Value := .slice a n cap
set_option maxHeartbeats 1000000 in
theorem inOrder_any (C P : Nat) (Q : Nat → Prop) (L : List (Option Addr × List Itm)) (a : Option Addr) (cap : Nat) (w : World)
    (ha : L ≠ [] → ∃ B o, a = some ⟨B, o, none⟩ ∧ Q B ∧ RowAt (Cont w C P Q) w C P Q B o L) (hn : L.length ≤ 1000) (hc : L.length ≤ cap) (hm : cap ≤ maxLen) (hQ : ∀ k, w.heap.size ≤ k → Q k) :
    Calls Tryz.prog 196 #[.slice a L.length cap] w fun e w' => ∃ t r v, e = .returned (pV t) ∧ Made6 w C P Q r v t w' ∧ Res6 L r v := by
  have hmf : ∀ (fn : Fn) (first cap : Array Value) (w : World), (Instr.makeFunc fn first cap).run Tryz.prog w = .ok (.func fn first cap) w := fun _ _ _ _ => rfl
  have HQ := Lib.hid hQ
  have HA := Lib.hid ha
  have HM := Lib.hid hm
  clear hQ ha hm
  go_enter Tryz.func196, Tryz.ntmps196
  go_upto_region 1 with fail
  generalize hW : (w.alloc _) = W
  have bW : Below w.heap.size w W := by rw [← hW]; go_grown
  have q0 : Blk W w.heap.size 250 #[.slice a L.length cap] := by rw [← hW]; exact Blk.new w _ _
  clear hW
  have hl0 := q0.lt
  have hsl := slice_from
  go_loopg [3] L.length (fun k _ wr => ∃ M a' cap', k = M.length ∧ Blk wr w.heap.size 250 #[.slice a' M.length cap'] ∧ Hid (M ≠ [] → ∃ B o, a' = some ⟨B, o, none⟩ ∧ Q B ∧ RowAt (Cont w C P Q) w C P Q B o M) ∧ M.length ≤ cap' ∧ Hid (cap' ≤ maxLen) ∧ M.length ≤ 1000 ∧ Hid (∀ r v, Res6 M r v → Res6 L r v) ∧ Below w.heap.size w wr)
  case atStart => exact ⟨L, a, cap, rfl, q0, Lib.hid HA.out, hc, HM, hn, Lib.hid (fun r v h => h), bW⟩
  case round =>
    clear q0 HA HM hc hn hl0
    obtain ⟨M, a', cap', hk, hB, hA, hc, hm, hn, hR, hW⟩ := hrel
    have hsz := hW.size
    have z0 := hB.free 0
    have HB := Lib.hid hB
    have kk : Keep (fun _ => False) w wr := Keep.ofBelow hW
    match M, hk, hB, hA, hc, hm, hn, hR, HB with
    | [], hk, hB, hA, hc, hm, hn, hR, HB =>
      have c0 : wr.cell? ⟨w.heap.size, 0, none⟩ = some (.slice a' 0 cap') := hB.cell 0 _ rfl
      clear hB z0
      go_wp2_with (go_at_call 88; refine (tready_any C P Q _ _).mono ?_; rintro e w2 ⟨t, rfl, h1, h2, h3⟩)
      go_ret
      exact ⟨t, [], 0, rfl, ⟨by omega, h2, hW.trans (h3.mono hsz)⟩, hR.out _ _ (.inl ⟨rfl, rfl, rfl⟩)⟩
    | [x], hk, hB, hA, hc, hm, hn, hR, HB =>
      obtain ⟨B, o, rfl, hQB, hrow⟩ := hA.out (by simp)
      have c0 : wr.cell? ⟨w.heap.size, 0, none⟩ = some (.slice (some ⟨B, o, none⟩) 1 cap') := hB.cell 0 _ rfl
      have e0 : wr.cell? ⟨B, o, none⟩ = some (.pointer x.1) := by have := (hrow 0 x rfl).1; exact cell_keep6 this kk (fun h => h)
      have e0' := (hrow 0 x rfl).1
      have hE := (hrow 0 x rfl).2
      have hRow := Lib.hid hrow
      clear hB hrow hA
      rcases hE.view with ⟨v, hd, hE⟩ | hE
      · have hTH := Lib.hid (then_last x.1 v w.heap.size (some ⟨B, o, none⟩) cap' Q wr (hd.keep kk (fun _ _ h => h)) HB.out (fun k hk => HQ.out k (by omega)))
        have HE := Lib.hid hE
        clear hE hd z0
        go_wp2_with (go_at_call 79; refine hTH.out.mono ?_; rintro e w2 ⟨t, rfl, h1, h2, h3⟩)
        go_ret
        obtain ⟨k, e, h2⟩ := h2.resolve_left (fun h => by cases h.1)
        obtain rfl : t = k := by simpa using e
        exact ⟨t, [], v, rfl, ⟨by omega, ⟨_, _, _, _, h2, rfl, rfl, rfl, rfl⟩, hW.trans (h3.mono hsz)⟩, hR.out _ _ (Res6.one HE.out)⟩
      · clear z0
        obtain ⟨k0, y0, r0, d0, p0, rest0, gs0, fs0, v0, hx1, hL, hT, hO, hC0, hE⟩ := hE
        have hx2 : Value.pointer x.1 = pV k0 := by rw [hx1]
        rw [hx2] at e0
        have hTH := Lib.hid (then_raw k0 252 #[pV w.heap.size] d0 p0 rest0 (gs0 ++ fs0) Q wr (hL.keep kk (fun h => h)) (hT.keep kk (fun _ _ h => h)) (fun k hk => HQ.out k (by omega)))
        have hD := Lib.hid (live_done k0 d0 p0 rest0 wr (hL.keep kk (fun h => h)))
        have HO := Lib.hid hO
        have HC0 := Lib.hid hC0
        have HE := Lib.hid hE
        clear hL hT hO hC0 hE hx1 hx2
        go_wp2_with (first | (go_at_call 38; refine hD.out.mono ?_; rintro e w3 ⟨rfl, rfl⟩) | (go_at_call 79; refine hTH.out.mono ?_; rintro e w2 ⟨t, f, j, rfl, h1, h2, h3, h4, h5, hft, h6⟩))
        go_ret
        have k2 : Keep (fun _ => False) w w2 := Keep.ofBelow (hW.trans (h6.mono hsz))
        have hBlt := cell_lt6 e0'
        have hB2 := HB.out.below h6 HB.out.lt
        refine ⟨t, _, 0, rfl, ⟨by omega, then_task h4 h5 (HO.out.keep k2 (fun _ _ h => h) (fun b hb h => ⟨h, by omega⟩)) (HC0.out.keep k2 (fun _ _ h => h) (fun b hb h => ⟨h, by omega⟩)) (order_cont (M := []) h3 ⟨HQ.out _ (by omega), hft⟩ ⟨HQ.out _ (Nat.le_refl _), by have := HB.out.lt; omega⟩ hB2 (fun _ => ⟨hQB, by omega⟩) (by simp only [List.length_cons, List.length_nil] at hn ⊢; omega) (by simpa using hc) hm.out ?_), hW.trans (h6.mono hsz)⟩, hR.out _ _ (Res6.stop HE.out)⟩
        exact (hRow.out.tail).keep (fun f s h => h.keep k2 (fun _ _ h => h) (fun b hb h => ⟨h, by omega⟩)) k2 (fun _ _ h => h) (fun h => h) (fun b hb h => ⟨h, by omega⟩)
    | x :: y :: M, hk, hB, hA, hc, hm, hn, hR, HB =>
      obtain ⟨B, o, rfl, hQB, hrow⟩ := hA.out (by simp)
      have c0 : wr.cell? ⟨w.heap.size, 0, none⟩ = some (.slice (some ⟨B, o, none⟩) (M.length + 1 + 1) cap') := hB.cell 0 _ rfl
      have e0 : wr.cell? ⟨B, o, none⟩ = some (.pointer x.1) := by have := (hrow 0 x rfl).1; exact cell_keep6 this kk (fun h => h)
      have e0' := (hrow 0 x rfl).1
      have hE := (hrow 0 x rfl).2
      have hRow := Lib.hid hrow
      clear hB hrow hA
      simp only [List.length_cons] at hc hn
      have hsl2 := hsl B o (M.length + 1 + 1) cap' (by omega) (by omega)
      rcases hE.view with ⟨v, hd, hE⟩ | hE
      · have hD := Lib.hid (doneV_done x.1 v wr (hd.keep kk (fun _ _ h => h)))
        have HE := Lib.hid hE
        clear hE hd hsl
        go_wp2_with (go_at_call 38; refine hD.out.mono ?_; rintro e w3 ⟨rfl, rfl⟩)
        go_roundg (M.length + 1)
        case measure => simp only [List.length_cons] at hk; omega
        case rel =>
          refine ⟨y :: M, some ⟨B, o + 1, none⟩, cap' - 1, rfl, ?_, Lib.hid (fun _ => ⟨B, o + 1, rfl, hQB, hRow.out.tail⟩), by simp only [List.length_cons]; omega, Lib.hid (by have := hm.out; omega), by simp only [List.length_cons]; omega, Lib.hid (fun r v h => hR.out r v (Res6.skip HE.out h)), hW.setCell (p := ⟨w.heap.size, 0, none⟩) (Nat.le_refl _) _⟩
          have := HB.out.set 0 (.slice (some ⟨B, o + 1, none⟩) (M.length + 1) (cap' - 1))
          exact this
      · clear z0 hsl hsl2
        obtain ⟨k0, y0, r0, d0, p0, rest0, gs0, fs0, v0, hx1, hL, hT, hO, hC0, hE⟩ := hE
        have hx2 : Value.pointer x.1 = pV k0 := by rw [hx1]
        rw [hx2] at e0
        have hTH := Lib.hid (then_raw k0 252 #[pV w.heap.size] d0 p0 rest0 (gs0 ++ fs0) Q wr (hL.keep kk (fun h => h)) (hT.keep kk (fun _ _ h => h)) (fun k hk => HQ.out k (by omega)))
        have hD := Lib.hid (live_done k0 d0 p0 rest0 wr (hL.keep kk (fun h => h)))
        have HO := Lib.hid hO
        have HC0 := Lib.hid hC0
        have HE := Lib.hid hE
        clear hL hT hO hC0 hE hx1 hx2
        go_wp2_with (first | (go_at_call 38; refine hD.out.mono ?_; rintro e w3 ⟨rfl, rfl⟩) | (go_at_call 79; refine hTH.out.mono ?_; rintro e w2 ⟨t, f, j, rfl, h1, h2, h3, h4, h5, hft, h6⟩))
        go_ret
        have k2 : Keep (fun _ => False) w w2 := Keep.ofBelow (hW.trans (h6.mono hsz))
        have hBlt := cell_lt6 e0'
        have hB2 := HB.out.below h6 HB.out.lt
        refine ⟨t, _, 0, rfl, ⟨by omega, then_task h4 h5 (HO.out.keep k2 (fun _ _ h => h) (fun b hb h => ⟨h, by omega⟩)) (HC0.out.keep k2 (fun _ _ h => h) (fun b hb h => ⟨h, by omega⟩)) (order_cont (M := y :: M) h3 ⟨HQ.out _ (by omega), hft⟩ ⟨HQ.out _ (Nat.le_refl _), by have := HB.out.lt; omega⟩ hB2 (fun _ => ⟨hQB, by omega⟩) (by simp only [List.length_cons, List.length_nil] at hn ⊢; omega) (by simpa using hc) hm.out ?_), hW.trans (h6.mono hsz)⟩, hR.out _ _ (Res6.stop HE.out)⟩
        exact (hRow.out.tail).keep (fun f s h => h.keep k2 (fun _ _ h => h) (fun b hb h => ⟨h, by omega⟩)) k2 (fun _ _ h => h) (fun h => h) (fun b hb h => ⟨h, by omega⟩)
end Go.Proofs.YtmknnjjmmfbppaaGreat
/- Package task: what follows in a list of tasks; Seq. -/
namespace Go.Proofs.YtmknnjjmmfbppaaGreat
open Go.ChangeShapes Go.WideShapes Go.ChangeAt Go.RowKit
set_option linter.unusedVariables false
set_option maxRecDepth 100000
set_option linter.unusedSimpArgs false
theorem order1_more (C P : Nat) (Q : Nat → Prop) (L : List (Option Addr × List Itm)) (bl B o cap : Nat) (v : Int) (w : World) (hL : L ≠ []) (hb : Blk w bl 250 #[.slice (some ⟨B, o, none⟩) (L.length + 1) cap])
    (hB : Q B) (hR : RowAt (Cont w C P Q) w C P Q B (o + 1) L) (hn : L.length ≤ 1000) (hc : L.length + 1 ≤ cap) (hm : cap ≤ maxLen) (hQ : ∀ k, w.heap.size ≤ k → Q k) :
    Calls Tryz.prog 252 #[.int .i64 v, pV bl] w fun e w' => ∃ t, e = .returned (pV t) ∧ ∃ r v, Made6 w C P Q r v t w' ∧ Res6 L r v := by
  have c0 : w.cell? ⟨bl, 0, none⟩ = some (.slice (some ⟨B, o, none⟩) (L.length + 1) cap) := hb.cell 0 _ rfl
  have h1 : 1 ≤ L.length := by
    cases L with
    | nil => exact absurd rfl hL
    | cons x L => simp
  have hsl := slice_from B o (L.length + 1) cap (by omega) (by omega)
  have HH := Lib.hid (inOrder_any C P Q L (some ⟨B, o + 1, none⟩) (cap - 1) w (fun _ => ⟨B, o + 1, rfl, hB, hR⟩) hn (by omega) (by omega) hQ)
  clear hR hB hQ hm hc hb
  simp only [Nat.add_sub_cancel] at hsl
  generalize L.length = n at *
  go_enter Tryz.func252, Tryz.ntmps252
  go_wp2_with (go_at_call 196; refine HH.out.mono ?_; rintro e w2 ⟨t, r, v, rfl, h1, h2⟩)
  go_ret
  exact ⟨t, rfl, r, v, h1, h2⟩
/-- a continuation, called -/
theorem cont_call (C P : Nat) (Q : Nat → Prop) (f : Nat) (s : List Itm) (v : Int) (w : World) (h : Cont w C P Q f s) (hQ : ∀ k, w.heap.size ≤ k → Q k) :
    Calls Tryz.prog 135 #[.int .i64 v, pV f] w fun e w' => ∃ t, e = .returned (pV t) ∧ Made6 w C P Q (onS s v).1 (onS s v).2 t w' := by
  obtain ⟨h1, bl, B, o, cap, L, h2, h3, h4, h5, h6, h7, h8, h9, rfl⟩ := h.unfold
  refine then1_any f 252 #[pV bl] v w (fun t w' => Made6 w C P Q (onS (flat L) v).1 (onS (flat L) v).2 t w') h2 call_order1 fun w1 hb => ?_
  have hk : Keep (fun _ => False) w w1 := Keep.ofBelow hb
  have hsz := hb.size
  by_cases hL : L = []
  · subst hL
    refine (order1_last bl _ cap v w1 (h4.below hb h4.lt)).mono ?_
    rintro e w' ⟨t, rfl, g1, g2, g3⟩
    obtain ⟨k, e, g2⟩ := g2.resolve_left (fun h => by cases h.1)
    obtain rfl : t = k := by simpa using e
    exact ⟨t, rfl, by omega, ⟨_, _, _, _, g2, rfl, rfl, rfl, rfl⟩, hb.trans (g3.mono hsz)⟩
  · refine (order1_more C P Q L bl B o cap v w1 hL (h4.below hb h4.lt) (h5 hL) (h9.keep (fun f s h => h.keep hk (fun _ _ h => h) (fun _ _ h => h)) hk (fun _ _ h => h) (fun h => h) (fun _ _ h => h)) (by omega) h7 h8 (fun k hk => hQ k (by omega))).mono ?_
    rintro e w' ⟨t, rfl, r, v', ⟨g1, g2, g3⟩, g4⟩
    rcases g4 with ⟨g4, _⟩ | ⟨_, g4⟩
    · exact absurd g4 hL
    · refine ⟨t, rfl, by omega, ?_, hb.trans (g3.mono hsz)⟩
      rw [(g4.on v).1]
      exact TaskIn.value g2 _ (fun h => (g4.on v).2 h)
theorem addr_add (B o j : Nat) : (⟨B, o, none⟩ : Addr).add j = ⟨B, o + j, none⟩ := by
  simp only [Addr.add]
  split
  · next h => subst h; rfl
  · rfl
theorem ptask_info : (Tryz.prog.info? 69).map (fun i => (i.zero, i.size, i.bytes)) = some (some (.pointer none), 1, 8) := by kernel_rfl
theorem clone_nil (w : World) : Calls Tryz.prog 197 #[.slice none 0 0] w fun e w' => e = .returned (.slice none 0 0) ∧ w = w' := by
  have hq : ∀ W : World, (binOp .eql 250 (.slice none 0 0) (.slice none 0 0)).run Tryz.prog W = .ok (.bool true) W := by intro W; kernel_rfl
  go_enter Tryz.func197, Tryz.ntmps197
  go_wp2
  go_ret
  exact ⟨rfl, rfl⟩
theorem clone_any (L : List (Option Addr)) (B o cap : Nat) (w : World) (hne : L ≠ []) (hl : L.length ≤ 1000) (hc : ∀ i x, L[i]? = some x → w.cell? ⟨B, o + i, none⟩ = some (.pointer x)) :
    Calls Tryz.prog 197 #[.slice (some ⟨B, o, none⟩) L.length cap] w fun e w' => ∃ g cap', e = .returned (.slice (some ⟨g, 0, none⟩) L.length cap') ∧ w.heap.size ≤ g ∧ L.length ≤ cap' ∧ cap' ≤ maxLen ∧
      (∀ i x, L[i]? = some x → w'.cell? ⟨g, i, none⟩ = some (.pointer x)) ∧ (∃ cur, Blk w' g 69 cur) ∧ Below w.heap.size w w' := by
  obtain ⟨p0, hp0, hp1, hp2, hp3⟩ := info_parts ptask_info
  have HC := Lib.hid hc
  clear hc
  have hq : ∀ W : World, (binOp .eql 250 (.slice (some ⟨B, o, none⟩) L.length cap) (.slice none 0 0)).run Tryz.prog W = .ok (.bool false) W := by intro W; rfl
  have hown : Hid ((w.alloc (.cells #[] 69)).ownsRow w.heap.size 69 1 (.slice (some ⟨w.heap.size, 0, none⟩) 0 0) 0 []) := Lib.hid ⟨rfl, .inr ⟨w.heap.size, 0, #[], rfl, Nat.le_refl _, Blk.new w _ _, Nat.le_refl _, by unfold maxLen; omega, rfl, rfl⟩⟩
  have hpos : 0 < L.length := by
    cases L with
    | nil => exact absurd rfl hne
    | cons x L => simp
  have hcel : Hid (∀ (j : Nat) (u : Value), (L.map Value.pointer)[j]? = some u → (w.alloc (.cells #[] 69)).cell? ((⟨B, o, none⟩ : Addr).add j) = some u) := Lib.hid (by
    intro j u hu
    rw [List.getElem?_map] at hu
    obtain ⟨y, hy, rfl⟩ := Option.map_eq_some_iff.1 hu
    exact cell_keep6 (by rw [addr_add]; exact HC.out j y hy) ((Keep.refl (fun _ => False) w).alloc _) (fun h => h))
  have hone : Hid (∀ u ∈ L.map Value.pointer, u.oneCell' = true) := Lib.hid (by
    intro u hu
    obtain ⟨y, _, rfl⟩ := List.mem_map.1 hu
    rfl)
  have hlm : (L.map Value.pointer).length = L.length * 1 := by simp
  go_enter Tryz.func197, Tryz.ntmps197
  go_wp2_with (at_builtin; refine wpList_append_own2 _ rfl _ _ 250 rfl w.heap.size 69 p0 (.pointer none) 1 8 Tryz.underlying250 hp0 hp1 hp2 hp3 rfl (by decide) _ 0 [] rfl hown.out ⟨B, o, none⟩ L.length cap (L.map Value.pointer) rfl hlm hcel.out hone.out (by unfold maxLen; omega) (by omega) (by simp) hpos ?_; intro g cap' w5 hrow hgr hg)
  replace hgr : (w.alloc (.cells #[] 69)).grownBy w5 (some w.heap.size) := hgr
  replace hg : some w.heap.size = some g ∨ w.heap.size + 1 ≤ g := by
    rcases hg with h | h
    · exact .inl h
    · exact .inr (by simpa using h)
  have hgs := hgr.size
  simp only [World.size_alloc] at hgs
  have hge : w.heap.size ≤ g := by
    rcases hg with h | h
    · injection h with h; omega
    · omega
  simp only [Nat.zero_add, List.nil_append] at hrow
  have hcl : L.length ≤ cap' ∧ cap' ≤ maxLen := by
    rcases hrow.2 with ⟨h, _⟩ | ⟨g2, c2, cur, e, h1, h2, h3, h4, _⟩
    · cases h
    · obtain ⟨rfl, rfl⟩ : g = g2 ∧ cap' = c2 := by simpa using e
      exact ⟨h3, h4⟩
  go_ret
  refine ⟨g, cap', rfl, hge, hcl.1, hcl.2, fun i y hy => ?_, (row_lt hrow (g := g) rfl).2, ⟨hgr.os, hgr.tape, hgr.output, by omega, fun k hk => ?_⟩⟩
  · have := hrow.cells (g := g) rfl i (.pointer y) (by rw [List.getElem?_map, hy]; rfl)
    rw [addr_add, Nat.zero_add] at this
    exact this
  · rw [hgr.block k (by simp; omega) (fun e => by injection e with e; omega)]
    exact Below.heap_alloc w _ k hk
/-- the tasks of a row, one behind the other -/
theorem seq_any (C P : Nat) (Q : Nat → Prop) (L : List (Option Addr × List Itm)) (B o cap : Nat) (w : World) (hne : L ≠ []) (hl : L.length ≤ 1000) (hR : RowAt (Cont w C P Q) w C P Q B o L) (hQ : ∀ k, w.heap.size ≤ k → Q k) :
    Calls Tryz.prog 138 #[.slice (some ⟨B, o, none⟩) L.length cap] w fun e w' => ∃ t r v, e = .returned (pV t) ∧ Made6 w C P Q r v t w' ∧ Res6 L r v := by
  have HC := Lib.hid (clone_any (L.map (·.1)) B o cap w (by simpa using hne) (by simpa using hl) (fun i x hx => by
    rw [List.getElem?_map] at hx
    obtain ⟨y, hy, rfl⟩ := Option.map_eq_some_iff.1 hx
    exact (hR i y hy).1))
  have HI := Lib.hid fun W g c2 (hb : Below w.heap.size w W) (hg : w.heap.size ≤ g) (hc : L.length ≤ c2) (hm : c2 ≤ maxLen) (hcl : ∀ i x, (L.map (·.1))[i]? = some x → W.cell? ⟨g, i, none⟩ = some (.pointer x)) =>
    inOrder_any C P Q L (some ⟨g, 0, none⟩) c2 W (fun _ => ⟨g, 0, rfl, hQ g hg, fun i x hx => ⟨by rw [Nat.zero_add]; exact hcl i x.1 (by rw [List.getElem?_map, hx]; rfl), (hR i x hx).2.keep (fun f s h => h.keep (Keep.ofBelow (Q := fun _ => False) hb) (fun _ _ h => h) (fun _ _ h => h)) (Keep.ofBelow (Q := fun _ => False) hb) (fun _ _ h => h) (fun _ _ h => h)⟩⟩) hl hc hm (fun k hk => hQ k (Nat.le_trans hb.size hk))
  rw [List.length_map] at HC
  clear hR hQ
  go_enter Tryz.func138, Tryz.ntmps138
  go_wp2_with (first | (go_at_call 197; refine HC.out.mono ?_; rintro e w2 ⟨g, c2, rfl, h1, h2, h3, h4, _, h5⟩; have H2 := Lib.hid (HI.out w2 g c2 h5 h1 h2 h3 h4)) | (go_at_call 196; refine H2.out.mono ?_; rintro e w3 ⟨t, r, v, rfl, ⟨g1, g2, g3⟩, g4⟩))
  go_ret
  have := h5.size
  exact ⟨t, r, v, rfl, ⟨by omega, g2, h5.trans (g3.mono this)⟩, g4⟩
theorem seq_none (C P : Nat) (Q : Nat → Prop) (w : World) :
    Calls Tryz.prog 138 #[.slice none 0 0] w fun e w' => ∃ t, e = .returned (pV t) ∧ Made6 w C P Q [] 0 t w' := by
  have HI := Lib.hid (inOrder_any C P (fun _ => True) [] none 0 w (fun h => absurd rfl h) (by simp) (by simp) (by simp) (fun _ _ => trivial))
  go_enter Tryz.func138, Tryz.ntmps138
  go_wp2_with (first | (go_at_call 197; refine (clone_nil _).mono ?_; rintro e w2 ⟨rfl, rfl⟩) | (go_at_call 196; refine HI.out.mono ?_; rintro e w3 ⟨t, r, v, rfl, ⟨g1, g2, g3⟩, g4⟩))
  go_ret
  rcases g4 with ⟨_, rfl, rfl⟩ | ⟨h, _⟩
  · obtain ⟨d, p, rest, val, hb, h⟩ := g2
    exact ⟨t, rfl, g1, ⟨d, p, rest, val, hb, h⟩, g3⟩
  · exact absurd rfl h
end Go.Proofs.YtmknnjjmmfbppaaGreat
