/- Package task: inOrder. -/
import Derived.Test.YtldofbkjjmnooaaGreatMgQTLD
import Derived.Test.YtldofbkjjmnooaaGreatMgQTLA
import Derived.Test.YtldofbkjjmnooaaGreatMgQTLB
import Derived.Laws.OwnMore
import Derived.Deep.Upon
import Derived.Test.YtldofbkjjmnooaaGreatMgQTLC
namespace Go.Proofs.YtldofbkjjmnooaaGreat
open Go.ChangeShapes Go.WideShapes Go.ChangeAt Go.RowKit
set_option linter.unusedVariables false
set_option maxRecDepth 100000
set_option linter.unusedSimpArgs false
/-- what the tasks of a list are together -/
def Res6 (L : List (Option Addr × List Itm)) (r : List Itm) (v : Int) : Prop := (L = [] ∧ r = [] ∧ v = 0) ∨ (L ≠ [] ∧ Equiv6 (flat L) r v)
theorem flat_cons (x : Option Addr × List Itm) (L : List (Option Addr × List Itm)) : flat (x :: L) = x.2 ++ flat L := by simp [flat]
/-- the first one is done, and there are others -/
theorem Res6.skip {x y : Option Addr × List Itm} {L : List (Option Addr × List Itm)} {r : List Itm} {u v : Int} (hx : Equiv6 x.2 [] u) (h : Res6 (y :: L) r v) : Res6 (x :: y :: L) r v := by
  rcases h with ⟨h, _⟩ | ⟨_, h⟩
  · cases h
  · refine .inr ⟨by simp, h.fresh, fun z => ?_⟩
    rw [flat_cons, onS_append, if_pos (hx.on z).1]
    exact h.on _
/-- the first one needs a step -/
theorem Res6.stop {x : Option Addr × List Itm} {L : List (Option Addr × List Itm)} {y : Itm} {r : List Itm} {u v : Int} (hx : Equiv6 x.2 (y :: r) u) : Res6 (x :: L) (y :: (r ++ flat L)) v := by
  refine .inr ⟨by simp, Fresh.append (s := flat L) hx.fresh (by simp), fun z => ?_⟩
  rw [flat_cons, onS_append, (hx.on z).1]
  simp
theorem Res6.one {x : Option Addr × List Itm} {u : Int} (hx : Equiv6 x.2 [] u) : Res6 [x] [] u := by
  refine .inr ⟨by simp, hx.fresh, fun z => ?_⟩
  rw [flat_cons]
  simpa [flat] using hx.on z
theorem Elem.view {w : World} {C P : Nat} {Q : Nat → Prop} {u : Option Addr} {s : List Itm} (h : Elem (Cont w C P Q) w C P Q u s) :
    (∃ v, DoneV w u v ∧ Equiv6 s [] v) ∨ ∃ k y r d p rest gs fs v, u = some ⟨k, 0, none⟩ ∧ Live w k d p rest ∧ TreeO w Q rest (gs ++ fs) ∧ OpAt w C P Q y d p gs ∧ Conts (Cont w C P Q) fs r ∧ Equiv6 s (y :: r) v := by
  rcases h with ⟨rfl, h⟩ | ⟨t, r, v, rfl, h1, h2, h3⟩
  · exact .inl ⟨0, .inl ⟨rfl, rfl⟩, h⟩
  · rcases TaskC.view h2 with ⟨rfl, hd⟩ | ⟨y, r', d, p, rest, gs, fs, rfl, a, b, c, d⟩
    · exact .inl ⟨v, hd, h3⟩
    · exact .inr ⟨t, y, r', _, _, _, gs, fs, v, rfl, a, b, c, d, h3⟩
theorem order_cont {w : World} {C P : Nat} {Q : Nat → Prop} {f bl B o cap : Nat} {M : List (Option Addr × List Itm)} (h1 : Blk w f 89 #[cloV 291 #[pV bl]]) (h2 : Q f) (h3 : Q bl) (h4 : Blk w bl 54 #[.slice (some ⟨B, o, none⟩) (M.length + 1) cap]) (h5 : M ≠ [] → Q B)
    (h6 : M.length < 1000) (h7 : M.length + 1 ≤ cap) (h8 : cap ≤ maxLen) (h9 : RowAt (Cont w C P Q) w C P Q B (o + 1) M) : Cont w C P Q f (flat M) :=
  Cont.fold ⟨h2, bl, B, o, cap, M, h1, h3, h4, h5, h6, h7, h8, h9, rfl⟩
theorem then_task {w : World} {C P : Nat} {Q : Nat → Prop} {t f : Nat} {d p j : Value} {gs fs : List Nat} {x : Itm} {r s : List Itm} {v : Int} (h1 : Live w t d p j) (h2 : TreeO w Q j ((gs ++ fs) ++ [f])) (h3 : OpAt w C P Q x d p gs) (h4 : Conts (Cont w C P Q) fs r) (h5 : Cont w C P Q f s) : TaskC w C P Q t (x :: (r ++ s)) v :=
  ⟨d, p, j, 0, h1.blk, rfl, gs, fs ++ [f], by rw [← List.append_assoc]; exact h2, h3, Conts.append fs [f] r s h4 ⟨s, [], h5, rfl, by simp⟩⟩
theorem Conts.keep {w w1 : World} {C P : Nat} {Q Q' F : Nat → Prop} {fs : List Nat} {r : List Itm} (h : Conts (Cont w C P Q) fs r) (hk : Keep F w w1) (hd : ∀ b, Q b → ¬ F b) (hq : ∀ b, b < w.heap.size → Q b → Q' b) : Conts (Cont w1 C P Q') fs r := h.mono (fun f s h => h.keep hk hd hq) _ _
/-- the row behind its first -/
theorem RowAt.tail {K : Nat → List Itm → Prop} {w : World} {C P : Nat} {Q : Nat → Prop} {B o : Nat} {x : Option Addr × List Itm} {M : List (Option Addr × List Itm)} (h : RowAt K w C P Q B o (x :: M)) : RowAt K w C P Q B (o + 1) M :=
  fun i y hy => by have := h (i + 1) y (by simpa using hy); rwa [show o + (i + 1) = o + 1 + i by omega] at this
theorem cell_lt6 {w : World} {B o : Nat} {v : Value} (h : w.cell? ⟨B, o, none⟩ = some v) : B < w.heap.size := by
  unfold World.cell? at h
  cases hb : w.heap[B]? with
  | none => simp [hb] at h
  | some y => exact (Array.getElem?_eq_some_iff.1 hb).1
theorem slice_from (B o n cap : Nat) (h1 : 1 ≤ n) (h2 : 2 ≤ cap) (W : World) :
    (Instr.slice 54 (.slice (some ⟨B, o, none⟩) n cap) (some (.int .i64 1)) none none).run Tryz.prog W = .ok (.slice (some ⟨B, o + 1, none⟩) (n - 1) (cap - 1)) W := by
  rw [run_slice_l _ 54 _ _ _ (by kernel_rfl) .i64 1 (by omega) (by omega)]
  have hs : (sizeOf (Tryz.prog.elem 54)).run Tryz.prog W = .ok 1 W := by kernel_rfl
  rw [hs]
  have : ¬ cap = 1 := by omega
  simp [Result.andThen, sliced, this, Addr.add]
def rowSl (a : Option Addr) (n cap : Nat) : Value := .slice a n cap
set_option maxHeartbeats 1000000 in
theorem inOrder_any (C P : Nat) (Q : Nat → Prop) (L : List (Option Addr × List Itm)) (a : Option Addr) (cap : Nat) (w : World)
    (ha : L ≠ [] → ∃ B o, a = some ⟨B, o, none⟩ ∧ Q B ∧ RowAt (Cont w C P Q) w C P Q B o L) (hn : L.length ≤ 1000) (hc : L.length ≤ cap) (hm : cap ≤ maxLen) (hQ : ∀ k, w.heap.size ≤ k → Q k) :
    Calls Tryz.prog 224 #[.slice a L.length cap] w fun e w' => ∃ t r v, e = .returned (pV t) ∧ Made6 w C P Q r v t w' ∧ Res6 L r v := by
  have hmf : ∀ (fn : Fn) (first cap : Array Value) (w : World), (Instr.makeFunc fn first cap).run Tryz.prog w = .ok (.func fn first cap) w := fun _ _ _ _ => rfl
  have HQ := Lib.hid hQ
  have HA := Lib.hid ha
  have HM := Lib.hid hm
  clear hQ ha hm
  go_enter Tryz.func224, Tryz.ntmps224
  go_upto_region 1 with fail
  generalize hW : (w.alloc _) = W
  have bW : Below w.heap.size w W := by rw [← hW]; go_grown
  have q0 : Blk W w.heap.size 54 #[.slice a L.length cap] := by rw [← hW]; exact Blk.new w _ _
  clear hW
  have hl0 := q0.lt
  have hsl := slice_from
  go_loopg [3] L.length (fun k _ wr => ∃ M a' cap', k = M.length ∧ Blk wr w.heap.size 54 #[.slice a' M.length cap'] ∧ Hid (M ≠ [] → ∃ B o, a' = some ⟨B, o, none⟩ ∧ Q B ∧ RowAt (Cont w C P Q) w C P Q B o M) ∧ M.length ≤ cap' ∧ Hid (cap' ≤ maxLen) ∧ M.length ≤ 1000 ∧ Hid (∀ r v, Res6 M r v → Res6 L r v) ∧ Below w.heap.size w wr)
  case atStart => exact ⟨L, a, cap, rfl, q0, Lib.hid HA.out, hc, HM, hn, Lib.hid (fun r v h => h), bW⟩
  case round =>
    clear q0 HA HM hc hn hl0
    obtain ⟨M, a', cap', hk, hB, hA, hc, hm, hn, hR, hW⟩ := hrel
    have hsz := hW.size
    have z0 := hB.free 0
    have HB := Lib.hid hB
    have kk : Keep (fun _ => False) w wr := Keep.ofBelow hW
    match M, hk, hB, hA, hc, hm, hn, hR, HB with
    | [], hk, hB, hA, hc, hm, hn, hR, HB =>
      have c0 : wr.cell? ⟨w.heap.size, 0, none⟩ = some (.slice a' 0 cap') := hB.cell 0 _ rfl
      clear hB z0
      go_wp2_with (go_at_call 102; refine (tready_any C P Q _ _).mono ?_; rintro e w2 ⟨t, rfl, h1, h2, h3⟩)
      go_ret
      exact ⟨t, [], 0, rfl, ⟨by omega, h2, hW.trans (h3.mono hsz)⟩, hR.out _ _ (.inl ⟨rfl, rfl, rfl⟩)⟩
    | [x], hk, hB, hA, hc, hm, hn, hR, HB =>
      obtain ⟨B, o, rfl, hQB, hrow⟩ := hA.out (by simp)
      have c0 : wr.cell? ⟨w.heap.size, 0, none⟩ = some (.slice (some ⟨B, o, none⟩) 1 cap') := hB.cell 0 _ rfl
      have e0 : wr.cell? ⟨B, o, none⟩ = some (.pointer x.1) := by have := (hrow 0 x rfl).1; exact cell_keep6 this kk (fun h => h)
      have e0' := (hrow 0 x rfl).1
      have hE := (hrow 0 x rfl).2
      have hRow := Lib.hid hrow
      clear hB hrow hA
      rcases hE.view with ⟨v, hd, hE⟩ | hE
      · have hTH := Lib.hid (then_last x.1 v w.heap.size (some ⟨B, o, none⟩) cap' Q wr (hd.keep kk (fun _ _ h => h)) HB.out (fun k hk => HQ.out k (by omega)))
        have HE := Lib.hid hE
        clear hE hd z0
        go_wp2_with (go_at_call 137; refine hTH.out.mono ?_; rintro e w2 ⟨t, rfl, h1, h2, h3⟩)
        go_ret
        obtain ⟨k, e, h2⟩ := h2.resolve_left (fun h => by cases h.1)
        obtain rfl : t = k := by simpa using e
        exact ⟨t, [], v, rfl, ⟨by omega, ⟨_, _, _, _, h2, rfl, rfl, rfl, rfl⟩, hW.trans (h3.mono hsz)⟩, hR.out _ _ (Res6.one HE.out)⟩
      · clear z0
        obtain ⟨k0, y0, r0, d0, p0, rest0, gs0, fs0, v0, hx1, hL, hT, hO, hC0, hE⟩ := hE
        have hx2 : Value.pointer x.1 = pV k0 := by rw [hx1]
        rw [hx2] at e0
        have hTH := Lib.hid (then_raw k0 291 #[pV w.heap.size] d0 p0 rest0 (gs0 ++ fs0) Q wr (hL.keep kk (fun h => h)) (hT.keep kk (fun _ _ h => h)) (fun k hk => HQ.out k (by omega)))
        have hD := Lib.hid (live_done k0 d0 p0 rest0 wr (hL.keep kk (fun h => h)))
        have HO := Lib.hid hO
        have HC0 := Lib.hid hC0
        have HE := Lib.hid hE
        clear hL hT hO hC0 hE hx1 hx2
        go_wp2_with (first | (go_at_call 38; refine hD.out.mono ?_; rintro e w3 ⟨rfl, rfl⟩) | (go_at_call 137; refine hTH.out.mono ?_; rintro e w2 ⟨t, f, j, rfl, h1, h2, h3, h4, h5, hft, h6⟩))
        go_ret
        have k2 : Keep (fun _ => False) w w2 := Keep.ofBelow (hW.trans (h6.mono hsz))
        have hBlt := cell_lt6 e0'
        have hB2 := HB.out.below h6 HB.out.lt
        refine ⟨t, _, 0, rfl, ⟨by omega, then_task h4 h5 (HO.out.keep k2 (fun _ _ h => h) (fun b hb h => ⟨h, by omega⟩)) (HC0.out.keep k2 (fun _ _ h => h) (fun b hb h => ⟨h, by omega⟩)) (order_cont (M := []) h3 ⟨HQ.out _ (by omega), hft⟩ ⟨HQ.out _ (Nat.le_refl _), by have := HB.out.lt; omega⟩ hB2 (fun _ => ⟨hQB, by omega⟩) (by simp only [List.length_cons, List.length_nil] at hn ⊢; omega) (by simpa using hc) hm.out ?_), hW.trans (h6.mono hsz)⟩, hR.out _ _ (Res6.stop HE.out)⟩
        exact (hRow.out.tail).keep (fun f s h => h.keep k2 (fun _ _ h => h) (fun b hb h => ⟨h, by omega⟩)) k2 (fun _ _ h => h) (fun h => h) (fun b hb h => ⟨h, by omega⟩)
    | x :: y :: M, hk, hB, hA, hc, hm, hn, hR, HB =>
      obtain ⟨B, o, rfl, hQB, hrow⟩ := hA.out (by simp)
      have c0 : wr.cell? ⟨w.heap.size, 0, none⟩ = some (.slice (some ⟨B, o, none⟩) (M.length + 1 + 1) cap') := hB.cell 0 _ rfl
      have e0 : wr.cell? ⟨B, o, none⟩ = some (.pointer x.1) := by have := (hrow 0 x rfl).1; exact cell_keep6 this kk (fun h => h)
      have e0' := (hrow 0 x rfl).1
      have hE := (hrow 0 x rfl).2
      have hRow := Lib.hid hrow
      clear hB hrow hA
      simp only [List.length_cons] at hc hn
      have hsl2 := hsl B o (M.length + 1 + 1) cap' (by omega) (by omega)
      rcases hE.view with ⟨v, hd, hE⟩ | hE
      · have hD := Lib.hid (doneV_done x.1 v wr (hd.keep kk (fun _ _ h => h)))
        have HE := Lib.hid hE
        clear hE hd hsl
        go_wp2_with (go_at_call 38; refine hD.out.mono ?_; rintro e w3 ⟨rfl, rfl⟩)
        go_roundg (M.length + 1)
        case measure => simp only [List.length_cons] at hk; omega
        case rel =>
          refine ⟨y :: M, some ⟨B, o + 1, none⟩, cap' - 1, rfl, ?_, Lib.hid (fun _ => ⟨B, o + 1, rfl, hQB, hRow.out.tail⟩), by simp only [List.length_cons]; omega, Lib.hid (by have := hm.out; omega), by simp only [List.length_cons]; omega, Lib.hid (fun r v h => hR.out r v (Res6.skip HE.out h)), hW.setCell (p := ⟨w.heap.size, 0, none⟩) (Nat.le_refl _) _⟩
          have := HB.out.set 0 (.slice (some ⟨B, o + 1, none⟩) (M.length + 1) (cap' - 1))
          exact this
      · clear z0 hsl hsl2
        obtain ⟨k0, y0, r0, d0, p0, rest0, gs0, fs0, v0, hx1, hL, hT, hO, hC0, hE⟩ := hE
        have hx2 : Value.pointer x.1 = pV k0 := by rw [hx1]
        rw [hx2] at e0
        have hTH := Lib.hid (then_raw k0 291 #[pV w.heap.size] d0 p0 rest0 (gs0 ++ fs0) Q wr (hL.keep kk (fun h => h)) (hT.keep kk (fun _ _ h => h)) (fun k hk => HQ.out k (by omega)))
        have hD := Lib.hid (live_done k0 d0 p0 rest0 wr (hL.keep kk (fun h => h)))
        have HO := Lib.hid hO
        have HC0 := Lib.hid hC0
        have HE := Lib.hid hE
        clear hL hT hO hC0 hE hx1 hx2
        go_wp2_with (first | (go_at_call 38; refine hD.out.mono ?_; rintro e w3 ⟨rfl, rfl⟩) | (go_at_call 137; refine hTH.out.mono ?_; rintro e w2 ⟨t, f, j, rfl, h1, h2, h3, h4, h5, hft, h6⟩))
        go_ret
        have k2 : Keep (fun _ => False) w w2 := Keep.ofBelow (hW.trans (h6.mono hsz))
        have hBlt := cell_lt6 e0'
        have hB2 := HB.out.below h6 HB.out.lt
        refine ⟨t, _, 0, rfl, ⟨by omega, then_task h4 h5 (HO.out.keep k2 (fun _ _ h => h) (fun b hb h => ⟨h, by omega⟩)) (HC0.out.keep k2 (fun _ _ h => h) (fun b hb h => ⟨h, by omega⟩)) (order_cont (M := y :: M) h3 ⟨HQ.out _ (by omega), hft⟩ ⟨HQ.out _ (Nat.le_refl _), by have := HB.out.lt; omega⟩ hB2 (fun _ => ⟨hQB, by omega⟩) (by simp only [List.length_cons, List.length_nil] at hn ⊢; omega) (by simpa using hc) hm.out ?_), hW.trans (h6.mono hsz)⟩, hR.out _ _ (Res6.stop HE.out)⟩
        exact (hRow.out.tail).keep (fun f s h => h.keep k2 (fun _ _ h => h) (fun b hb h => ⟨h, by omega⟩)) k2 (fun _ _ h => h) (fun h => h) (fun b hb h => ⟨h, by omega⟩)
end Go.Proofs.YtldofbkjjmnooaaGreat
/- Package task: what follows in a list of tasks; Seq. -/
namespace Go.Proofs.YtldofbkjjmnooaaGreat
open Go.ChangeShapes Go.WideShapes Go.ChangeAt Go.RowKit
set_option linter.unusedVariables false
set_option maxRecDepth 100000
set_option linter.unusedSimpArgs false
theorem order1_more (C P : Nat) (Q : Nat → Prop) (L : List (Option Addr × List Itm)) (bl B o cap : Nat) (v : Int) (w : World) (hL : L ≠ []) (hb : Blk w bl 54 #[.slice (some ⟨B, o, none⟩) (L.length + 1) cap])
    (hB : Q B) (hR : RowAt (Cont w C P Q) w C P Q B (o + 1) L) (hn : L.length ≤ 1000) (hc : L.length + 1 ≤ cap) (hm : cap ≤ maxLen) (hQ : ∀ k, w.heap.size ≤ k → Q k) :
    Calls Tryz.prog 291 #[.int .i64 v, pV bl] w fun e w' => ∃ t, e = .returned (pV t) ∧ ∃ r v, Made6 w C P Q r v t w' ∧ Res6 L r v := by
  have c0 : w.cell? ⟨bl, 0, none⟩ = some (.slice (some ⟨B, o, none⟩) (L.length + 1) cap) := hb.cell 0 _ rfl
  have h1 : 1 ≤ L.length := by
    cases L with
    | nil => exact absurd rfl hL
    | cons x L => simp
  have hsl := slice_from B o (L.length + 1) cap (by omega) (by omega)
  have HH := Lib.hid (inOrder_any C P Q L (some ⟨B, o + 1, none⟩) (cap - 1) w (fun _ => ⟨B, o + 1, rfl, hB, hR⟩) hn (by omega) (by omega) hQ)
  clear hR hB hQ hm hc hb
  simp only [Nat.add_sub_cancel] at hsl
  generalize L.length = n at *
  go_enter Tryz.func291, Tryz.ntmps291
  go_wp2_with (go_at_call 224; refine HH.out.mono ?_; rintro e w2 ⟨t, r, v, rfl, h1, h2⟩)
  go_ret
  exact ⟨t, rfl, r, v, h1, h2⟩
/-- a continuation, called -/
theorem cont_call (C P : Nat) (Q : Nat → Prop) (f : Nat) (s : List Itm) (v : Int) (w : World) (h : Cont w C P Q f s) (hQ : ∀ k, w.heap.size ≤ k → Q k) :
    Calls Tryz.prog 221 #[.int .i64 v, pV f] w fun e w' => ∃ t, e = .returned (pV t) ∧ Made6 w C P Q (onS s v).1 (onS s v).2 t w' := by
  obtain ⟨h1, bl, B, o, cap, L, h2, h3, h4, h5, h6, h7, h8, h9, rfl⟩ := h.unfold
  refine then1_any f 291 #[pV bl] v w (fun t w' => Made6 w C P Q (onS (flat L) v).1 (onS (flat L) v).2 t w') h2 call_order1 fun w1 hb => ?_
  have hk : Keep (fun _ => False) w w1 := Keep.ofBelow hb
  have hsz := hb.size
  by_cases hL : L = []
  · subst hL
    refine (order1_last bl _ cap v w1 (h4.below hb h4.lt)).mono ?_
    rintro e w' ⟨t, rfl, g1, g2, g3⟩
    obtain ⟨k, e, g2⟩ := g2.resolve_left (fun h => by cases h.1)
    obtain rfl : t = k := by simpa using e
    exact ⟨t, rfl, by omega, ⟨_, _, _, _, g2, rfl, rfl, rfl, rfl⟩, hb.trans (g3.mono hsz)⟩
  · refine (order1_more C P Q L bl B o cap v w1 hL (h4.below hb h4.lt) (h5 hL) (h9.keep (fun f s h => h.keep hk (fun _ _ h => h) (fun _ _ h => h)) hk (fun _ _ h => h) (fun h => h) (fun _ _ h => h)) (by omega) h7 h8 (fun k hk => hQ k (by omega))).mono ?_
    rintro e w' ⟨t, rfl, r, v', ⟨g1, g2, g3⟩, g4⟩
    rcases g4 with ⟨g4, _⟩ | ⟨_, g4⟩
    · exact absurd g4 hL
    · refine ⟨t, rfl, by omega, ?_, hb.trans (g3.mono hsz)⟩
      rw [(g4.on v).1]
      exact TaskIn.value g2 _ (fun h => (g4.on v).2 h)
theorem addr_add (B o j : Nat) : (⟨B, o, none⟩ : Addr).add j = ⟨B, o + j, none⟩ := by
  simp only [Addr.add]
  split
  · next h => subst h; rfl
  · rfl
theorem ptask_info : (Tryz.prog.info? 40).map (fun i => (i.zero, i.size, i.bytes)) = some (some (.pointer none), 1, 8) := by kernel_rfl
theorem clone_nil (w : World) : Calls Tryz.prog 225 #[.slice none 0 0] w fun e w' => e = .returned (.slice none 0 0) ∧ w = w' := by
  have hq : ∀ W : World, (binOp .eql 54 (.slice none 0 0) (.slice none 0 0)).run Tryz.prog W = .ok (.bool true) W := by intro W; kernel_rfl
  go_enter Tryz.func225, Tryz.ntmps225
  go_wp2
  go_ret
  exact ⟨rfl, rfl⟩
theorem clone_any (L : List (Option Addr)) (B o cap : Nat) (w : World) (hne : L ≠ []) (hl : L.length ≤ 1000) (hc : ∀ i x, L[i]? = some x → w.cell? ⟨B, o + i, none⟩ = some (.pointer x)) :
    Calls Tryz.prog 225 #[.slice (some ⟨B, o, none⟩) L.length cap] w fun e w' => ∃ g cap', e = .returned (.slice (some ⟨g, 0, none⟩) L.length cap') ∧ w.heap.size ≤ g ∧ L.length ≤ cap' ∧ cap' ≤ maxLen ∧
      (∀ i x, L[i]? = some x → w'.cell? ⟨g, i, none⟩ = some (.pointer x)) ∧ (∃ cur, Blk w' g 40 cur) ∧ Below w.heap.size w w' := by
  obtain ⟨p0, hp0, hp1, hp2, hp3⟩ := info_parts ptask_info
  have HC := Lib.hid hc
  clear hc
  have hq : ∀ W : World, (binOp .eql 54 (.slice (some ⟨B, o, none⟩) L.length cap) (.slice none 0 0)).run Tryz.prog W = .ok (.bool false) W := by intro W; rfl
  have hown : Hid ((w.alloc (.cells #[] 40)).ownsRow w.heap.size 40 1 (.slice (some ⟨w.heap.size, 0, none⟩) 0 0) 0 []) := Lib.hid ⟨rfl, .inr ⟨w.heap.size, 0, #[], rfl, Nat.le_refl _, Blk.new w _ _, Nat.le_refl _, by unfold maxLen; omega, rfl, rfl⟩⟩
  have hpos : 0 < L.length := by
    cases L with
    | nil => exact absurd rfl hne
    | cons x L => simp
  have hcel : Hid (∀ (j : Nat) (u : Value), (L.map Value.pointer)[j]? = some u → (w.alloc (.cells #[] 40)).cell? ((⟨B, o, none⟩ : Addr).add j) = some u) := Lib.hid (by
    intro j u hu
    rw [List.getElem?_map] at hu
    obtain ⟨y, hy, rfl⟩ := Option.map_eq_some_iff.1 hu
    exact cell_keep6 (by rw [addr_add]; exact HC.out j y hy) ((Keep.refl (fun _ => False) w).alloc _) (fun h => h))
  have hone : Hid (∀ u ∈ L.map Value.pointer, u.oneCell' = true) := Lib.hid (by
    intro u hu
    obtain ⟨y, _, rfl⟩ := List.mem_map.1 hu
    rfl)
  have hlm : (L.map Value.pointer).length = L.length * 1 := by simp
  go_enter Tryz.func225, Tryz.ntmps225
  go_wp2_with (at_builtin; refine wpList_append_own2 _ rfl _ _ 54 rfl w.heap.size 40 p0 (.pointer none) 1 8 Tryz.underlying54 hp0 hp1 hp2 hp3 rfl (by decide) _ 0 [] rfl hown.out ⟨B, o, none⟩ L.length cap (L.map Value.pointer) rfl hlm hcel.out hone.out (by unfold maxLen; omega) (by omega) (by simp) hpos ?_; intro g cap' w5 hrow hgr hg)
  replace hgr : (w.alloc (.cells #[] 40)).grownBy w5 (some w.heap.size) := hgr
  replace hg : some w.heap.size = some g ∨ w.heap.size + 1 ≤ g := by
    rcases hg with h | h
    · exact .inl h
    · exact .inr (by simpa using h)
  have hgs := hgr.size
  simp only [World.size_alloc] at hgs
  have hge : w.heap.size ≤ g := by
    rcases hg with h | h
    · injection h with h; omega
    · omega
  simp only [Nat.zero_add, List.nil_append] at hrow
  have hcl : L.length ≤ cap' ∧ cap' ≤ maxLen := by
    rcases hrow.2 with ⟨h, _⟩ | ⟨g2, c2, cur, e, h1, h2, h3, h4, _⟩
    · cases h
    · obtain ⟨rfl, rfl⟩ : g = g2 ∧ cap' = c2 := by simpa using e
      exact ⟨h3, h4⟩
  go_ret
  refine ⟨g, cap', rfl, hge, hcl.1, hcl.2, fun i y hy => ?_, (row_lt hrow (g := g) rfl).2, ⟨hgr.os, hgr.tape, hgr.output, by omega, fun k hk => ?_⟩⟩
  · have := hrow.cells (g := g) rfl i (.pointer y) (by rw [List.getElem?_map, hy]; rfl)
    rw [addr_add, Nat.zero_add] at this
    exact this
  · rw [hgr.block k (by simp; omega) (fun e => by injection e with e; omega)]
    exact Below.heap_alloc w _ k hk
/-- the tasks of a row, one behind the other -/
theorem seq_any (C P : Nat) (Q : Nat → Prop) (L : List (Option Addr × List Itm)) (B o cap : Nat) (w : World) (hne : L ≠ []) (hl : L.length ≤ 1000) (hR : RowAt (Cont w C P Q) w C P Q B o L) (hQ : ∀ k, w.heap.size ≤ k → Q k) :
    Calls Tryz.prog 138 #[.slice (some ⟨B, o, none⟩) L.length cap] w fun e w' => ∃ t r v, e = .returned (pV t) ∧ Made6 w C P Q r v t w' ∧ Res6 L r v := by
  have HC := Lib.hid (clone_any (L.map (·.1)) B o cap w (by simpa using hne) (by simpa using hl) (fun i x hx => by
    rw [List.getElem?_map] at hx
    obtain ⟨y, hy, rfl⟩ := Option.map_eq_some_iff.1 hx
    exact (hR i y hy).1))
  have HI := Lib.hid fun W g c2 (hb : Below w.heap.size w W) (hg : w.heap.size ≤ g) (hc : L.length ≤ c2) (hm : c2 ≤ maxLen) (hcl : ∀ i x, (L.map (·.1))[i]? = some x → W.cell? ⟨g, i, none⟩ = some (.pointer x)) =>
    inOrder_any C P Q L (some ⟨g, 0, none⟩) c2 W (fun _ => ⟨g, 0, rfl, hQ g hg, fun i x hx => ⟨by rw [Nat.zero_add]; exact hcl i x.1 (by rw [List.getElem?_map, hx]; rfl), (hR i x hx).2.keep (fun f s h => h.keep (Keep.ofBelow (Q := fun _ => False) hb) (fun _ _ h => h) (fun _ _ h => h)) (Keep.ofBelow (Q := fun _ => False) hb) (fun _ _ h => h) (fun _ _ h => h)⟩⟩) hl hc hm (fun k hk => hQ k (Nat.le_trans hb.size hk))
  rw [List.length_map] at HC
  clear hR hQ
  go_enter Tryz.func138, Tryz.ntmps138
  go_wp2_with (first | (go_at_call 225; refine HC.out.mono ?_; rintro e w2 ⟨g, c2, rfl, h1, h2, h3, h4, _, h5⟩; have H2 := Lib.hid (HI.out w2 g c2 h5 h1 h2 h3 h4)) | (go_at_call 224; refine H2.out.mono ?_; rintro e w3 ⟨t, r, v, rfl, ⟨g1, g2, g3⟩, g4⟩))
  go_ret
  have := h5.size
  exact ⟨t, r, v, rfl, ⟨by omega, g2, h5.trans (g3.mono this)⟩, g4⟩
theorem seq_none (C P : Nat) (Q : Nat → Prop) (w : World) :
    Calls Tryz.prog 138 #[.slice none 0 0] w fun e w' => ∃ t, e = .returned (pV t) ∧ Made6 w C P Q [] 0 t w' := by
  have HI := Lib.hid (inOrder_any C P (fun _ => True) [] none 0 w (fun h => absurd rfl h) (by simp) (by simp) (by simp) (fun _ _ => trivial))
  go_enter Tryz.func138, Tryz.ntmps138
  go_wp2_with (first | (go_at_call 225; refine (clone_nil _).mono ?_; rintro e w2 ⟨rfl, rfl⟩) | (go_at_call 224; refine HI.out.mono ?_; rintro e w3 ⟨t, r, v, rfl, ⟨g1, g2, g3⟩, g4⟩))
  go_ret
  rcases g4 with ⟨_, rfl, rfl⟩ | ⟨h, _⟩
  · obtain ⟨d, p, rest, val, hb, h⟩ := g2
    exact ⟨t, rfl, g1, ⟨d, p, rest, val, hb, h⟩, g3⟩
  · exact absurd rfl h
end Go.Proofs.YtldofbkjjmnooaaGreat
/- A region's condition, strengthened on the way. No program is named here. -/
namespace Go.Proofs.YtldofbkjjmnooaaGreat
open Go.ChangeShapes Go.WideShapes Go.ChangeAt Go.RowKit
theorem wpAnyH_moreP {P : Program} {md : Region.Mode} {ops : Array Oper} {Q : Exit → Act → World → Prop} {S S' : World → Prop} (h : ∀ w, S' w → S w) :
    ∀ (fuel : Nat) (listed : Array Bool) (a : Act) (w : World), wpAnyH P md ops Q S' fuel listed a w → wpAnyH P md ops Q S fuel listed a w
  | 0, _, _, _, hh => hh
  | fuel + 1, _, _, _, hh => ⟨hh.1, fun i hi => wpOp_mono (fun a' w' h' => ⟨h _ h'.1, wpAnyH_moreP h fuel _ a' w' h'.2⟩) (hh.2 i hi)⟩
end Go.Proofs.YtldofbkjjmnooaaGreat
/- The document's queues: Push, Pop, Remove. -/
namespace Go.Proofs.YtldofbkjjmnooaaGreat
open Go.ChangeShapes Go.WideShapes Go.ChangeAt Go.RowKit
set_option linter.unusedVariables false
set_option maxRecDepth 100000
set_option linter.unusedSimpArgs false
/-- append to a slice of one's own that is not nil: maybe of nothing, maybe of nil -/
theorem run_append_own4 {P : Program} (w : World) (base : Nat) (t ty e : TypeId) (i : TypeInfo) (z : Value) (size bytes : Nat) (ht : P.underlying t = some (.slice e)) (hi : P.info? e = some i) (hz : i.zero = some z)
    (hsize : i.size = size) (hby : i.bytes = bytes) (hzs : z.cells.size = size) (hsz : 0 < size)
    (g0 n cap0 : Nat) (xs : List Value) (hown : w.ownsRow base e size (.slice (some ⟨g0, 0, none⟩) n cap0) n xs)
    (a : Option Addr) (m c : Nat) (news : List Value) (hl : news.length = m * size) (hnews : ∀ j u, news[j]? = some u → ∃ ad, a = some ad ∧ w.cell? (ad.add j) = some u) (h1 : ∀ u ∈ news, u.oneCell' = true)
    (h63 : n + m ≤ maxLen) (hbytes : (n + m) * bytes ≤ 140737488355328) (hbase : base ≤ w.heap.size) :
    ∃ g cap w', (Builtin.append_ #[t, t] ty #[.slice (some ⟨g0, 0, none⟩) n cap0, .slice a m c]).run P w = .ok (.slice (some ⟨g, 0, none⟩) (n + m) cap) w' ∧ w'.ownsRow base e size (.slice (some ⟨g, 0, none⟩) (n + m) cap) (n + m) (xs ++ news) ∧ Keep (fun b => b = g0) w w' ∧ (g = g0 ∨ w.heap.size ≤ g) := by
  cases a with
  | some ad =>
    have hn : ∀ j u, news[j]? = some u → w.cell? (ad.add j) = some u := fun j u hj => by
      obtain ⟨ad', e, h⟩ := hnews j u hj
      injection e with e
      rw [e]; exact h
    by_cases hroom : n + m ≤ cap0
    · obtain ⟨w2, hr2, h2, h3⟩ := run_append_fits (P := P) w base t ty e i size ht hi hsize g0 n cap0 xs hown ad m c news hl hn h1 hroom
      exact ⟨g0, cap0, w2, hr2, h2, ⟨h3.os, h3.tape, h3.output, h3.size, fun y hy hn => h3.block y hy (fun e => hn (by injection e))⟩, .inl rfl⟩
    · obtain ⟨v', w', hr, h2, h3, _⟩ := run_append_own (P := P) w base t ty e i z size bytes ht hi hz hsize hby hzs hsz _ n xs hown ad m c news hl hn h1 h63 hbytes hbase
      subst hsize
      subst hby
      have hsmall : n + m ≤ 9223372036854775807 := by simp only [maxLen] at h63; omega
      have holds : ∀ j u, xs[j]? = some u → w.cell? ((⟨g0, 0, none⟩ : Addr).add j) = some u := hown.cells (g := g0) rfl
      have hr2 := run_append_grow (P := P) w t ty e i z ht hi hz ⟨g0, 0, none⟩ n cap0 xs hown.1 holds ad m c news hl hn (by omega) (by omega) (growslice_fits (by omega) hbytes)
      rw [hr] at hr2
      obtain ⟨rfl, _⟩ : v' = .slice (some ⟨w.heap.size, 0, none⟩) (n + m) (grownCap w (n + m) cap0 e) ∧ w' = _ := by simpa using hr2
      exact ⟨_, _, w', hr, h2, ⟨h3.os, h3.tape, h3.output, h3.size, fun y hy hn => h3.block y hy (fun e => hn (by injection e))⟩, .inr (Nat.le_refl _)⟩
  | none =>
    have hnil : news = [] := by
      cases news with
      | nil => rfl
      | cons u us => obtain ⟨ad, e, _⟩ := hnews 0 u rfl; cases e
    subst hnil
    have hm0 : m = 0 := by
      have h0 : m * size = 0 := hl.symm
      rcases Nat.mul_eq_zero.1 h0 with h | h
      · exact h
      · omega
    subst hm0
    have hc0 : c = c := rfl
    have hle : n ≤ cap0 := by
      rcases hown.2 with ⟨h, h0⟩ | ⟨g, cap, cur, h, h1, h2, h3, _⟩
      · cases h
      · injection h with h4 h5 h6; omega
    refine ⟨g0, cap0, w, ?_, by simpa using hown, Keep.refl _ w, .inl rfl⟩
    exact run_append_nothing w t t ty e i ht hi _ n cap0 hle _ (Src.ofNil (w := w) ht c)
theorem wp_append_own4 {P : Program} (w : World) {o : Oper} {a : Act} {K : Act → World → Prop} {Q : Exit → Act → World → Prop} (s x : Operand) (t : TypeId)
    (ho : o.op = .call { callee := .builtin .append, args := #[s, x], argTypes := #[t, t] })
    (base : Nat) (e : TypeId) (i : TypeInfo) (z : Value) (size bytes : Nat) (ht : P.underlying t = some (.slice e)) (hi : P.info? e = some i) (hz : i.zero = some z)
    (hsize : i.size = size) (hby : i.bytes = bytes) (hzs : z.cells.size = size) (hsz : 0 < size)
    (g0 n cap0 : Nat) (xs : List Value) (hs : a.eval s = .slice (some ⟨g0, 0, none⟩) n cap0) (hown : w.ownsRow base e size (.slice (some ⟨g0, 0, none⟩) n cap0) n xs)
    (ad : Option Addr) (m c : Nat) (news : List Value) (hx : a.eval x = .slice ad m c) (hl : news.length = m * size) (hnews : ∀ j u, news[j]? = some u → ∃ y, ad = some y ∧ w.cell? (y.add j) = some u) (h1 : ∀ u ∈ news, u.oneCell' = true)
    (h63 : n + m ≤ maxLen) (hbytes : (n + m) * bytes ≤ 140737488355328) (hbase : base ≤ w.heap.size)
    (h : ∀ g cap w', w'.ownsRow base e size (.slice (some ⟨g, 0, none⟩) (n + m) cap) (n + m) (xs ++ news) → Keep (fun b => b = g0) w w' → (g = g0 ∨ w.heap.size ≤ g) → K (a.put o.dst (.slice (some ⟨g, 0, none⟩) (n + m) cap)) w') : o.wp P a w K Q := by
  obtain ⟨g, cap, w', hr, h2, h3, h4⟩ := run_append_own4 (P := P) w base t o.type e i z size bytes ht hi hz hsize hby hzs hsz g0 n cap0 xs hown ad m c news hl hnews h1 h63 hbytes hbase
  unfold Oper.wp execOp
  simp only [ho, resolve, invoke, builtin, Sem.run_bind, Sem.run_pure, Result.andThen_ok, List.map_toArray, List.map_cons, List.map_nil, hs, hx, hr]
  exact h g cap w' h2 h3 h4
abbrev qiL (l : List Int) : List Value := l.map (Value.int .i64)
theorem qiL_one {l : List Int} : ∀ u ∈ qiL l, u.oneCell' = true := fun u hu => by
  obtain ⟨y, _, rfl⟩ := List.mem_map.1 hu
  rfl
theorem qown_zero (w : World) (n0 : Nat) (h : n0 ≤ w.heap.size) : (w.alloc (.cells #[] 3)).ownsRow n0 3 1 (.slice (some ⟨w.heap.size, 0, none⟩) 0 0) 0 [] :=
  ⟨rfl, .inr ⟨w.heap.size, 0, #[], rfl, h, Blk.new w _ _, Nat.le_refl _, by unfold maxLen; omega, rfl, rfl⟩⟩
theorem int_infoQ : (Tryz.prog.info? 3).map (fun i => (i.zero, i.size, i.bytes)) = some (some (.int .i64 0), 1, 8) := by kernel_rfl
/-- a row's new slice, where the rows lie -/
theorem RQ.turn {w w1 : World} {Q B : Nat} {O : Nat → Prop} {L : List (List Int)} (h : RQ w Q B O L) (hb : Below w.heap.size w w1) {i : Nat} {l l' : List Int} (hi : L[i]? = some l) (hl : l'.length ≤ 1000) {g cap : Nat} (ho : w1.ownsRow w.heap.size 3 1 (.slice (some ⟨g, 0, none⟩) l'.length cap) l'.length (qiL l')) :
    RQ (w1.setCell ⟨B, i, none⟩ (.slice (some ⟨g, 0, none⟩) l'.length cap)) Q B (fun b => O b ∨ (w.heap.size ≤ b ∧ b < w1.heap.size)) (L.set i l') ∧ Keep (fun b => b = B) w (w1.setCell ⟨B, i, none⟩ (.slice (some ⟨g, 0, none⟩) l'.length cap)) := by
  obtain ⟨c, h1⟩ := h.own
  obtain ⟨vs, h2, h3, h4⟩ := h.rows
  have k1 : Keep (fun b => b = B) w w1 := Keep.ofBelow hb
  have k2 : Keep (fun b => b = B) w (w1.setCell ⟨B, i, none⟩ (.slice (some ⟨g, 0, none⟩) l'.length cap)) := k1.set (p := ⟨B, i, none⟩) (fun _ => rfl) _
  have hil : i < L.length := (List.getElem?_eq_some_iff.1 hi).1
  have hQB : Q ≠ B := h1.apart h2 (by decide)
  have hsz : (w1.setCell ⟨B, i, none⟩ (.slice (some ⟨g, 0, none⟩) l'.length cap)).heap.size = w1.heap.size := by simp
  refine ⟨⟨⟨c, by rw [List.length_set]; exact h1.keep k2 hQB⟩, ⟨vs.set i (.slice (some ⟨g, 0, none⟩) l'.length cap), ?_, by simpa using h3, fun j x hj => ?_⟩, ⟨by simpa using h.few.1, fun x hx => ?_⟩, ⟨.inl h.mine.1, .inl h.mine.2⟩, fun b hb2 => ?_⟩, k2⟩
  · have := (h2.below hb h2.lt).set i (.slice (some ⟨g, 0, none⟩) l'.length cap)
    simpa using this
  · by_cases e : i = j
    · subst e
      rw [List.getElem?_set_self hil] at hj
      obtain rfl := Option.some.inj hj
      refine ⟨_, List.getElem?_set_self (by omega), some ⟨g, 0, none⟩, cap, rfl, ?_, fun t x hx => ?_⟩
      · rcases ho.2 with ⟨h, h0⟩ | ⟨g', cap', cur, h, q1, q2, q3, _⟩
        · cases h
        · injection h with h5 h6 h7; omega
      · have hc := ho.cells (g := g) rfl t (.int .i64 x) (by rw [List.getElem?_map, hx]; rfl)
        rw [addr_add, Nat.zero_add] at hc
        obtain ⟨hg1, hg2⟩ : w.heap.size ≤ g ∧ g < w1.heap.size := by
          rcases ho.2 with ⟨h, h0⟩ | ⟨g', cap', cur, h, q1, q2, q3, _⟩
          · cases h
          · injection h with h5 h6 h7
            injection h5 with h5
            injection h5 with h5
            subst h5
            exact ⟨q1, (Array.getElem?_eq_some_iff.1 q2).1⟩
        have hB := h2.lt
        have hQ := h1.lt
        refine ⟨g, 0, rfl, ⟨.inr ⟨hg1, hg2⟩, by omega, by omega⟩, by rw [hsz]; exact hg2, ?_⟩
        rw [Nat.zero_add]
        exact qcell_keep hc ((Keep.refl (fun b => b = B) w1).set (p := ⟨B, i, none⟩) (fun _ => rfl) _) (by show ¬ g = B; omega)
    · rw [List.getElem?_set_ne e] at hj
      obtain ⟨v, hv, hr⟩ := h4 j x hj
      refine ⟨v, by rw [List.getElem?_set_ne e]; exact hv, (hr.keep k2 (fun b hb => hb.2.1)).mono fun b hb => ⟨.inl hb.1, hb.2⟩⟩
  · rcases List.mem_or_eq_of_mem_set hx with hx | rfl
    · exact h.few.2 x hx
    · exact hl
  · rw [hsz]
    rcases hb2 with hb2 | hb2
    · exact Nat.lt_of_lt_of_le (h.lt b hb2) hb.size
    · exact hb2.2
--REST
theorem qslice_from (b o n cap k : Nat) (kI : Int) (hkI : kI = k) (hk : k ≤ n) (hc : n ≤ cap) : ∃ a2 : Option Addr, (∀ W, (Instr.slice 37 (.slice (some ⟨b, o, none⟩) n cap) (some (.int .i64 kI)) none none).run Tryz.prog W = .ok (.slice a2 (n - k) (cap - k)) W) ∧ (k < n → a2 = some ⟨b, o + k, none⟩) := by
  subst hkI
  by_cases e : cap = k
  · refine ⟨some ⟨b, o, none⟩, fun W => ?_, fun h => by omega⟩
    rw [run_slice_l _ 37 _ _ _ (by kernel_rfl) .i64 k (by omega) (by omega)]
    have hs : (sizeOf (Tryz.prog.elem 37)).run Tryz.prog W = .ok 1 W := by kernel_rfl
    rw [hs]
    simp [Result.andThen, sliced, e, Addr.add]
  · refine ⟨some ⟨b, o + k, none⟩, fun W => ?_, fun _ => rfl⟩
    rw [run_slice_l _ 37 _ _ _ (by kernel_rfl) .i64 k (by omega) (by omega)]
    have hs : (sizeOf (Tryz.prog.elem 37)).run Tryz.prog W = .ok 1 W := by kernel_rfl
    rw [hs]
    simp [Result.andThen, sliced, e, Addr.add]
theorem qslice_to (b o n cap k : Nat) (hk : k ≤ n) (hc : n ≤ cap) : ∀ W, (Instr.slice 37 (.slice (some ⟨b, o, none⟩) n cap) none (some (.int .i64 (k : Int))) none).run Tryz.prog W = .ok (.slice (some ⟨b, o, none⟩) k cap) W := by
  intro W
  rw [run_slice_h _ 37 _ _ _ (by kernel_rfl) .i64 k (by omega) (by omega)]
  have hs : (sizeOf (Tryz.prog.elem 37)).run Tryz.prog W = .ok 1 W := by kernel_rfl
  rw [hs]
  simp [Result.andThen, sliced, Addr.add]
theorem qtail {V : World} {b0 o0 k n : Nat} {a2 : Option Addr} {l : List Int} (hr : ∀ j u, (qiL l)[j]? = some u → ∃ b o, (some ⟨b0, o0, none⟩ : Option Addr) = some ⟨b, o, none⟩ ∧ V.cell? ⟨b, o + j, none⟩ = some u) (hn : l.length = n) (ha : k < n → a2 = some ⟨b0, o0 + k, none⟩) :
    ∀ j u, (qiL (l.drop k))[j]? = some u → ∃ y, a2 = some y ∧ V.cell? (y.add j) = some u := fun j u hj => by
  have hj2 : (qiL l)[k + j]? = some u := by
    rw [List.getElem?_map] at hj ⊢
    rw [List.getElem?_drop] at hj
    exact hj
  obtain ⟨b, o, e, h⟩ := hr (k + j) u hj2
  injection e with e
  injection e with e1 e2
  subst e1
  subst e2
  have hlt := (List.getElem?_eq_some_iff.1 hj2).1
  rw [List.length_map] at hlt
  refine ⟨_, ha (by omega), ?_⟩
  rw [addr_add, Nat.add_assoc]
  exact h
theorem qhead {V : World} {b0 o0 k : Nat} {l : List Int} (hr : ∀ j u, (qiL l)[j]? = some u → ∃ b o, (some ⟨b0, o0, none⟩ : Option Addr) = some ⟨b, o, none⟩ ∧ V.cell? ⟨b, o + j, none⟩ = some u) :
    ∀ j u, (qiL (l.take k))[j]? = some u → ∃ y, (some ⟨b0, o0, none⟩ : Option Addr) = some y ∧ V.cell? (y.add j) = some u := fun j u hj => by
  have hj2 : (qiL l)[j]? = some u := by
    rw [List.getElem?_map] at hj ⊢
    obtain ⟨x, hx, rfl⟩ := Option.map_eq_some_iff.1 hj
    rw [List.getElem?_take] at hx
    split at hx
    · rw [hx]; rfl
    · cases hx
  obtain ⟨b, o, e, h⟩ := hr j u hj2
  refine ⟨_, e, ?_⟩
  rw [addr_add]
  exact h
theorem qcell_alloc {W : World} {tb : Nat} {v : Value} (h : W.cell? ⟨tb, 0, none⟩ = some v ∧ tb < W.heap.size) (o : Obj) : (W.alloc o).cell? ⟨tb, 0, none⟩ = some v ∧ tb < (W.alloc o).heap.size :=
  ⟨(((Below.refl _ W).alloc (Nat.le_refl _) o).cell (p := ⟨tb, 0, none⟩) h.2).trans h.1, by rw [World.size_alloc]; have := h.2; omega⟩
theorem qcell_new (W : World) (t : Int) : (W.alloc (.cells #[.int .i64 t] 3)).cell? ⟨W.heap.size, 0, none⟩ = some (.int .i64 t) ∧ W.heap.size < (W.alloc (.cells #[.int .i64 t] 3)).heap.size :=
  ⟨(Blk.new W 3 #[.int .i64 t]).cell 0 _ rfl, by rw [World.size_alloc]; omega⟩
theorem qcell_far {W W' : World} {tb g : Nat} {v : Value} (h : W.cell? ⟨tb, 0, none⟩ = some v ∧ tb < W.heap.size) (hk : Keep (fun b => b = g) W W') (hn : tb ≠ g) : W'.cell? ⟨tb, 0, none⟩ = some v ∧ tb < W'.heap.size :=
  ⟨qcell_keep h.1 hk hn, Nat.lt_of_lt_of_le h.2 hk.size⟩
theorem qown_lo {W : World} {base g n cap : Nat} {xs : List Value} (h : W.ownsRow base 3 1 (.slice (some ⟨g, 0, none⟩) n cap) n xs) : base ≤ g := by
  rcases h.2 with ⟨h, h0⟩ | ⟨g', cap', cur, h, q1, q2, q3, _⟩
  · cases h
  · injection h with h5 h6 h7
    injection h5 with h5
    injection h5 with h5
    subst h5
    exact q1
theorem qown_lt {W : World} {base g n cap : Nat} {xs : List Value} (h : W.ownsRow base 3 1 (.slice (some ⟨g, 0, none⟩) n cap) n xs) : g < W.heap.size := by
  rcases h.2 with ⟨h, h0⟩ | ⟨g', cap', cur, h, q1, q2, q3, _⟩
  · cases h
  · injection h with h5 h6 h7
    injection h5 with h5
    injection h5 with h5
    subst h5
    exact (Array.getElem?_eq_some_iff.1 q2).1
theorem RQ.row {w : World} {Q B : Nat} {O : Nat → Prop} {L : List (List Int)} (h : RQ w Q B O L) {i : Nat} {l : List Int} (hi : L[i]? = some l) : ∃ ar cr, w.cell? ⟨B, i, none⟩ = some (.slice ar l.length cr) ∧ l.length ≤ cr ∧ ∀ V, Below w.heap.size w V → V.cell? ⟨B, i, none⟩ = some (.slice ar l.length cr) ∧ V.frozen? ⟨B, i, none⟩ = false ∧ ∀ j u, (qiL l)[j]? = some u → ∃ b o, ar = some ⟨b, o, none⟩ ∧ V.cell? ⟨b, o + j, none⟩ = some u := by
  obtain ⟨a, c, h1, h2, h3⟩ := h.at hi
  obtain ⟨vs, b2, b3, b4⟩ := h.rows
  have hBl := b2.lt
  refine ⟨a, c, h1, h2, fun V hV => ⟨(hV.cell (p := ⟨B, i, none⟩) hBl).trans h1, (b2.below hV hBl).free i, fun j u hj => ?_⟩⟩
  rw [List.getElem?_map] at hj
  obtain ⟨x, hx, rfl⟩ := Option.map_eq_some_iff.1 hj
  obtain ⟨b, o, rfl, hN, hc⟩ := h3 j x hx
  refine ⟨b, o, rfl, ?_⟩
  exact (hV.cell (p := ⟨b, o + j, none⟩) (h.lt b hN.1)).trans hc
set_option maxHeartbeats 4000000 in
theorem rpush_any (Q B : Nat) (O : Nat → Prop) (L : List (List Int)) (i : Nat) (l : List Int) (t : Int) (w : World) (h : RQ w Q B O L) (hi : L[i]? = some l) (hl : l.length + 1 ≤ 1000) :
    Calls Tryz.prog 21 #[qV Q, .int .i64 (i : Int), .int .i64 t] w fun e w' => e = .returned (.int .i64 0) ∧ RQ w' Q B (fun b => O b ∨ (w.heap.size ≤ b ∧ b < w'.heap.size)) (L.set i (l ++ [t])) ∧ Keep (fun b => b = B) w w' := by
  obtain ⟨c, h1⟩ := h.own
  obtain ⟨ar, cr, cB, hcr, hrow⟩ := h.row hi
  have hQl := h1.lt
  have hBl := h.lt B h.mine.2
  have H := Lib.hid h
  have HI := Lib.hid hi
  have hil : i < L.length := (List.getElem?_eq_some_iff.1 hi).1
  have hf4 := h.few.1
  obtain ⟨ll, hll⟩ : ∃ ll, L.length = ll := ⟨_, rfl⟩
  rw [hll] at h1 hil hf4
  obtain ⟨n, hn⟩ : ∃ n, l.length = n := ⟨_, rfl⟩
  rw [hn] at hrow cB hcr hl
  have HN := Lib.hid hn
  have SK := Lib.hid (show ∀ V, Below w.heap.size w V → V.cell? ⟨Q, 0, none⟩ = some (.slice (some ⟨B, 0, none⟩) ll c) from fun V hV => (h1.below hV hQl).cell 0 _ rfl)
  have SB := Lib.hid hrow
  have hQB : Q ≠ B := by
    obtain ⟨vs, b2, _, _⟩ := h.rows
    exact h1.apart b2 (by decide)
  have SKs := Lib.hid (show ∀ V v, Below w.heap.size w V → (V.setCell ⟨B, i, none⟩ v).cell? ⟨Q, 0, none⟩ = some (.slice (some ⟨B, 0, none⟩) ll c) from fun V v hV => ((h1.below hV hQl).far (C := B) hQB i v).cell 0 _ rfl)
  have hx1 := idx_qintss ll c B 0 i hil
  simp only [Nat.zero_add] at hx1
  obtain ⟨ti, hti, hz0, hz1, hz2⟩ := info_parts int_infoQ
  have bd := bdrewP w
  have HBD := Lib.hid bd
  clear h h1 hi hll hn hrow cB bd
  go_enter Tryz.func21, Tryz.ntmps21
  go_upto_region 1 with fail
  refine wp_region_held_drew (S := (fun V : World => V.cell? ⟨Q, 0, none⟩ = some (.slice (some ⟨B, 0, none⟩) ll c))) (by kernel_rfl) (SK.out _ HBD.out) (fun hHeld => ?_)
  generalize w.drew = wD at *
  refine wpAnyH_take (i := 0) (oi := { dst := some 7, op := Op.move (Operand.tmp 0), type := 30, pos := "ref.go:21", after := #[], guard := none }) (v := ?_) rfl (by kernel_rfl) (by kernel_rfl) (by kernel_rfl) (fun _ _ _ h => h) (Or.inl ⟨by rfl, ?_⟩) (by assumption) ?_
  rotate_left
  · intro w hSw; (try dsimp only at hSw); go_simp; try with_reducible rfl
  (try simp only [Act.put, List.setIfInBounds_toArray, List.set_cons_zero, List.set_cons_succ])
  refine wpAnyH_take (i := 1) (oi := { dst := some 8, op := Op.nilCheck (Operand.tmp 7), type := 0, pos := "ref.go:21", after := #[{ on := 0, ground := Ground.data }], guard := none }) (v := ?_) rfl (by kernel_rfl) (by kernel_rfl) (by kernel_rfl) (fun _ _ _ h => h) (Or.inl ⟨by rfl, ?_⟩) (by assumption) ?_
  rotate_left
  · intro w hSw; (try dsimp only at hSw); go_simp; try with_reducible rfl
  (try simp only [Act.put, List.setIfInBounds_toArray, List.set_cons_zero, List.set_cons_succ])
  refine wpAnyH_take (i := 2) (oi := { dst := some 9, op := Op.fieldAddr 33 (Operand.tmp 8) 0, type := 0, pos := "ref.go:21", after := #[{ on := 1, ground := Ground.data }], guard := none }) (v := ?_) rfl (by kernel_rfl) (by kernel_rfl) (by kernel_rfl) (fun _ _ _ h => h) (Or.inl ⟨by rfl, ?_⟩) (by assumption) ?_
  rotate_left
  · intro w hSw; (try dsimp only at hSw); go_simp; try with_reducible rfl
  (try simp only [Act.put, List.setIfInBounds_toArray, List.set_cons_zero, List.set_cons_succ])
  refine wpAnyH_take (i := 3) (oi := { dst := some 10, op := Op.load 31 (Operand.tmp 9), type := 31, pos := "ref.go:21", after := #[{ on := 2, ground := Ground.data }], guard := none }) (v := ?_) rfl (by kernel_rfl) (by kernel_rfl) (by kernel_rfl) (fun _ _ _ h => h) (Or.inl ⟨by rfl, ?_⟩) (by assumption) ?_
  rotate_left
  · intro w hSw; (try dsimp only at hSw); go_simp; try with_reducible rfl
  (try simp only [Act.put, List.setIfInBounds_toArray, List.set_cons_zero, List.set_cons_succ])
  refine wpAnyH_take (i := 4) (oi := { dst := some 11, op := Op.move (Operand.tmp 1), type := 3, pos := "ref.go:21", after := #[], guard := none }) (v := ?_) rfl (by kernel_rfl) (by kernel_rfl) (by kernel_rfl) (fun _ _ _ h => h) (Or.inl ⟨by rfl, ?_⟩) (by assumption) ?_
  rotate_left
  · intro w hSw; (try dsimp only at hSw); go_simp; try with_reducible rfl
  (try simp only [Act.put, List.setIfInBounds_toArray, List.set_cons_zero, List.set_cons_succ])
  refine wpAnyH_take (i := 6) (oi := { dst := some 13, op := Op.move (Operand.tmp 0), type := 30, pos := "ref.go:21", after := #[], guard := none }) (v := ?_) rfl (by kernel_rfl) (by kernel_rfl) (by kernel_rfl) (fun _ _ _ h => h) (Or.inl ⟨by rfl, ?_⟩) (by assumption) ?_
  rotate_left
  · intro w hSw; (try dsimp only at hSw); go_simp; try with_reducible rfl
  (try simp only [Act.put, List.setIfInBounds_toArray, List.set_cons_zero, List.set_cons_succ])
  refine wpAnyH_take (i := 7) (oi := { dst := some 14, op := Op.nilCheck (Operand.tmp 13), type := 0, pos := "ref.go:21", after := #[{ on := 6, ground := Ground.data }], guard := none }) (v := ?_) rfl (by kernel_rfl) (by kernel_rfl) (by kernel_rfl) (fun _ _ _ h => h) (Or.inl ⟨by rfl, ?_⟩) (by assumption) ?_
  rotate_left
  · intro w hSw; (try dsimp only at hSw); go_simp; try with_reducible rfl
  (try simp only [Act.put, List.setIfInBounds_toArray, List.set_cons_zero, List.set_cons_succ])
  refine wpAnyH_take (i := 8) (oi := { dst := some 15, op := Op.fieldAddr 33 (Operand.tmp 14) 0, type := 0, pos := "ref.go:21", after := #[{ on := 7, ground := Ground.data }], guard := none }) (v := ?_) rfl (by kernel_rfl) (by kernel_rfl) (by kernel_rfl) (fun _ _ _ h => h) (Or.inl ⟨by rfl, ?_⟩) (by assumption) ?_
  rotate_left
  · intro w hSw; (try dsimp only at hSw); go_simp; try with_reducible rfl
  (try simp only [Act.put, List.setIfInBounds_toArray, List.set_cons_zero, List.set_cons_succ])
  refine wpAnyH_take (i := 9) (oi := { dst := some 16, op := Op.load 31 (Operand.tmp 15), type := 31, pos := "ref.go:21", after := #[{ on := 8, ground := Ground.data }], guard := none }) (v := ?_) rfl (by kernel_rfl) (by kernel_rfl) (by kernel_rfl) (fun _ _ _ h => h) (Or.inl ⟨by rfl, ?_⟩) (by assumption) ?_
  rotate_left
  · intro w hSw; (try dsimp only at hSw); go_simp; try with_reducible rfl
  (try simp only [Act.put, List.setIfInBounds_toArray, List.set_cons_zero, List.set_cons_succ])
  refine wpAnyH_take (i := 10) (oi := { dst := some 17, op := Op.move (Operand.tmp 1), type := 3, pos := "ref.go:21", after := #[], guard := none }) (v := ?_) rfl (by kernel_rfl) (by kernel_rfl) (by kernel_rfl) (fun _ _ _ h => h) (Or.inl ⟨by rfl, ?_⟩) (by assumption) ?_
  rotate_left
  · intro w hSw; (try dsimp only at hSw); go_simp; try with_reducible rfl
  (try simp only [Act.put, List.setIfInBounds_toArray, List.set_cons_zero, List.set_cons_succ])
  refine wpAnyH_take (i := 11) (oi := { dst := some 18, op := Op.indexAddr 31 (Operand.tmp 16) (Operand.tmp 17), type := 0, pos := "ref.go:21", after := #[{ on := 9, ground := Ground.data }, { on := 10, ground := Ground.data }], guard := none }) (v := ?_) rfl (by kernel_rfl) (by kernel_rfl) (by kernel_rfl) (fun _ _ _ h => h) (Or.inl ⟨by rfl, ?_⟩) (by assumption) ?_
  rotate_left
  · intro w hSw; (try dsimp only at hSw); go_simp; try with_reducible rfl
  (try simp only [Act.put, List.setIfInBounds_toArray, List.set_cons_zero, List.set_cons_succ])
  refine wpAnyH_take (i := 14) (oi := { dst := some 21, op := Op.move (Operand.tmp 2), type := 3, pos := "ref.go:21", after := #[], guard := none }) (v := ?_) rfl (by kernel_rfl) (by kernel_rfl) (by kernel_rfl) (fun _ _ _ h => h) (Or.inl ⟨by rfl, ?_⟩) (by assumption) ?_
  rotate_left
  · intro w hSw; (try dsimp only at hSw); go_simp; try with_reducible rfl
  (try simp only [Act.put, List.setIfInBounds_toArray, List.set_cons_zero, List.set_cons_succ])
  refine wpAnyH_ready (rs := [5, 12, 15]) (by kernel_rfl) (by simp) ?_
  refine AllReadyH.cons rfl (fun K hK => ?_) (AllReadyH.cons rfl (fun K hK => ?_) (AllReadyH.cons rfl (fun K hK => ?_) (AllReadyH.nil)))
  · go_simp
    go_wp2_with fail
    refine hK.out _ _ (SK.out _ (HBD.out.alloc HBD.out.size _)) (fun hHeld => ?_)
    have HB1 := Lib.hid (HBD.out.alloc HBD.out.size (.cells #[] 3))
    have HR1 := Lib.hid (qown_zero wD w.heap.size HBD.out.size)
    generalize wD.heap.size = g1 at *
    generalize wD.alloc (.cells #[] 3) = W1 at *
    clear hK K
    (try dsimp only [Act.put]); (try simp only [Act.put, List.setIfInBounds_toArray, List.set_cons_zero, List.set_cons_succ])
    refine wpAnyH_ready (rs := [12, 15]) (by kernel_rfl) (by simp) ?_
    refine AllReadyH.cons rfl (fun K hK => ?_) (AllReadyH.cons rfl (fun K hK => ?_) (AllReadyH.nil))
    · have cB := (SB.out W1 HB1.out).1
      go_simp
      go_wp2_with fail
      refine hK.out _ _ (SK.out _ HB1.out) (fun hHeld => ?_)
      clear cB
      clear hK K
      (try dsimp only [Act.put]); (try simp only [Act.put, List.setIfInBounds_toArray, List.set_cons_zero, List.set_cons_succ])
      refine wpAnyH_ready (rs := [13, 15]) (by kernel_rfl) (by simp) ?_
      refine AllReadyH.cons rfl (fun K hK => ?_) (AllReadyH.cons rfl (fun K hK => ?_) (AllReadyH.nil))
      · rw [if_pos (by kernel_rfl)]
        refine wp_append_own4 (o := { dst := some 20, op := Op.call { callee := Callee.builtin Builtin.append, args := #[Operand.tmp 12, Operand.tmp 19], argTypes := #[37, 37] }, type := 37, pos := "ref.go:21", after := #[{ on := 5, ground := Ground.data }, { on := 12, ground := Ground.data }], guard := none }) _ _ _ _ rfl w.heap.size 3 ti (.int .i64 0) 1 8 Tryz.underlying37 hti hz0 hz1 hz2 rfl (by decide) g1 (0) 0 ([]) rfl HR1.out ar (n) cr (qiL l) rfl (by simp [HN.out]) (fun j u hj => by obtain ⟨b, o, e, h⟩ := (SB.out W1 HB1.out).2.2 j u hj; exact ⟨_, e, by rw [addr_add]; exact h⟩) qiL_one (by unfold maxLen; omega) (by omega) HB1.out.size ?_
        intro g3 cap3 W3 hr3 k3 hg3
        have HB3 := Lib.hid (HB1.out.trans (k3.below HB1.out.size fun b _ e => by rw [e]; exact qown_lo HR1.out))
        rw [Nat.zero_add, List.nil_append] at hr3
        have HR3 := Lib.hid hr3
        clear hr3 k3 hg3
        refine hK.out _ _ (SK.out _ HB3.out) (fun hHeld => ?_)
        try simp only [Nat.zero_add]
        clear hK K
        (try dsimp only [Act.put]); (try simp only [Act.put, List.setIfInBounds_toArray, List.set_cons_zero, List.set_cons_succ])
        refine wpAnyH_ready (rs := [15]) (by kernel_rfl) (by simp) ?_
        refine AllReadyH.cons rfl (fun K hK => ?_) (AllReadyH.nil)
        go_simp
        go_wp2_with fail
        refine hK.out _ _ (SK.out _ (HB3.out.alloc HB3.out.size _)) (fun hHeld => ?_)
        have HB4 := Lib.hid (HB3.out.alloc HB3.out.size (.cells #[.int .i64 t] 3))
        have HT4 := Lib.hid (qcell_new W3 t)
        have HR4 := Lib.hid (HR3.out.alloc (.cells #[.int .i64 t] 3))
        have HN4 := Lib.hid (show W3.heap.size ≠ g3 from by have := qown_lt HR3.out; omega)
        generalize W3.heap.size = g4 at *
        generalize W3.alloc (.cells #[.int .i64 t] 3) = W4 at *
        clear hK K
        (try dsimp only [Act.put]); (try simp only [Act.put, List.setIfInBounds_toArray, List.set_cons_zero, List.set_cons_succ])
        refine wpAnyH_ready (rs := [16]) (by kernel_rfl) (by simp) ?_
        refine AllReadyH.cons rfl (fun K hK => ?_) (AllReadyH.nil)
        rw [if_pos (by kernel_rfl)]
        refine wp_append_own4 (o := { dst := some 23, op := Op.call { callee := Callee.builtin Builtin.append, args := #[Operand.tmp 20, Operand.tmp 22], argTypes := #[37, 37] }, type := 37, pos := "ref.go:21", after := #[{ on := 13, ground := Ground.data }, { on := 15, ground := Ground.data }, { on := 13, ground := Ground.chain }], guard := none }) _ _ _ _ rfl w.heap.size 3 ti (.int .i64 0) 1 8 Tryz.underlying37 hti hz0 hz1 hz2 rfl (by decide) g3 (n) cap3 (qiL l) rfl HR4.out (some ⟨g4, 0, none⟩) (1) 1 ([.int .i64 t]) rfl rfl (fun j u hj => by match j, hj with | 0, hj => (obtain rfl := Option.some.inj hj; exact ⟨_, rfl, HT4.out.1⟩)) (by simp [Value.oneCell']) (by unfold maxLen; omega) (by omega) HB4.out.size ?_
        intro g5 cap5 W5 hr5 k5 hg5
        have HB5 := Lib.hid (HB4.out.trans (k5.below HB4.out.size fun b _ e => by rw [e]; exact qown_lo HR4.out))
        have HR5 := Lib.hid hr5
        have HT5 := Lib.hid (qcell_far HT4.out k5 HN4.out)
        have HN5 := Lib.hid (show g4 ≠ g5 from fun e => by rcases hg5 with h | h; exact HN4.out (e.trans h); have := HT4.out.2; omega)
        clear hr5 k5 hg5
        refine hK.out _ _ (SK.out _ HB5.out) (fun hHeld => ?_)
        clear hK K
        (try dsimp only [Act.put]); (try simp only [Act.put, List.setIfInBounds_toArray, List.set_cons_zero, List.set_cons_succ])
        refine wpAnyH_take (i := 17) (oi := { dst := some 24, op := Op.indexAddr 31 (Operand.tmp 10) (Operand.tmp 11), type := 0, pos := "ref.go:21", after := #[{ on := 3, ground := Ground.data }, { on := 4, ground := Ground.data }, { on := 0, ground := Ground.phase }, { on := 1, ground := Ground.phase }, { on := 2, ground := Ground.phase }, { on := 3, ground := Ground.phase }, { on := 4, ground := Ground.phase }, { on := 5, ground := Ground.phase }, { on := 6, ground := Ground.phase }, { on := 7, ground := Ground.phase }, { on := 8, ground := Ground.phase }, { on := 9, ground := Ground.phase }, { on := 10, ground := Ground.phase }, { on := 11, ground := Ground.phase }, { on := 12, ground := Ground.phase }, { on := 13, ground := Ground.phase }, { on := 14, ground := Ground.phase }, { on := 15, ground := Ground.phase }, { on := 16, ground := Ground.phase }], guard := none }) (v := ?_) rfl (by kernel_rfl) (by kernel_rfl) (by kernel_rfl) (fun _ _ _ h => h) (Or.inl ⟨by rfl, ?_⟩) (by assumption) ?_
        rotate_left
        · intro w hSw; (try dsimp only at hSw); go_simp; try with_reducible rfl
        (try simp only [Act.put, List.setIfInBounds_toArray, List.set_cons_zero, List.set_cons_succ])
        refine wpAnyH_ready (rs := [18]) (by kernel_rfl) (by simp) ?_
        refine AllReadyH.cons rfl (fun K hK => ?_) (AllReadyH.nil)
        have cB := (SB.out W5 HB5.out).1
        have fB := (SB.out W5 HB5.out).2.1
        go_simp
        go_wp2_with fail
        refine hK.out _ _ (SKs.out _ _ HB5.out) (fun hHeld => ?_)
        clear cB fB
        clear hK K
        (try dsimp only [Act.put]); (try simp only [Act.put, List.setIfInBounds_toArray, List.set_cons_zero, List.set_cons_succ])
        refine wpAnyH_done (by kernel_rfl) ?_ _
        go_wp2
        go_ret
        have e1 : n + 1 = (l ++ [t]).length := by simp [HN.out]
        have e2 : qiL l ++ [.int .i64 t] = qiL (l ++ [t]) := by simp [qiL]
        have hr := HR5.out
        rw [e1, e2] at hr
        have hT := RQ.turn H.out HB5.out HI.out (l' := l ++ [t]) (by simp [HN.out]; omega) hr
        rw [← e1] at hT
        refine ⟨rfl, ?_, hT.2⟩
        rw [show ((W5.setCell ⟨B, i, none⟩ (.slice (some ⟨g5, 0, none⟩) (n + 1) cap5))).heap.size = W5.heap.size from by simp]
        exact hT.1
      · go_simp
        go_wp2_with fail
        refine hK.out _ _ (SK.out _ (HB1.out.alloc HB1.out.size _)) (fun hHeld => ?_)
        have HB7 := Lib.hid (HB1.out.alloc HB1.out.size (.cells #[.int .i64 t] 3))
        have HT7 := Lib.hid (qcell_new W1 t)
        have HR7 := Lib.hid (HR1.out.alloc (.cells #[.int .i64 t] 3))
        have HN7 := Lib.hid (show W1.heap.size ≠ g1 from by have := qown_lt HR1.out; omega)
        generalize W1.heap.size = g7 at *
        generalize W1.alloc (.cells #[.int .i64 t] 3) = W7 at *
        clear hK K
        (try dsimp only [Act.put]); (try simp only [Act.put, List.setIfInBounds_toArray, List.set_cons_zero, List.set_cons_succ])
        refine wpAnyH_ready (rs := [13]) (by kernel_rfl) (by simp) ?_
        refine AllReadyH.cons rfl (fun K hK => ?_) (AllReadyH.nil)
        rw [if_pos (by kernel_rfl)]
        refine wp_append_own4 (o := { dst := some 20, op := Op.call { callee := Callee.builtin Builtin.append, args := #[Operand.tmp 12, Operand.tmp 19], argTypes := #[37, 37] }, type := 37, pos := "ref.go:21", after := #[{ on := 5, ground := Ground.data }, { on := 12, ground := Ground.data }], guard := none }) _ _ _ _ rfl w.heap.size 3 ti (.int .i64 0) 1 8 Tryz.underlying37 hti hz0 hz1 hz2 rfl (by decide) g1 (0) 0 ([]) rfl HR7.out ar (n) cr (qiL l) rfl (by simp [HN.out]) (fun j u hj => by obtain ⟨b, o, e, h⟩ := (SB.out W7 HB7.out).2.2 j u hj; exact ⟨_, e, by rw [addr_add]; exact h⟩) qiL_one (by unfold maxLen; omega) (by omega) HB7.out.size ?_
        intro g8 cap8 W8 hr8 k8 hg8
        have HB8 := Lib.hid (HB7.out.trans (k8.below HB7.out.size fun b _ e => by rw [e]; exact qown_lo HR7.out))
        rw [Nat.zero_add, List.nil_append] at hr8
        have HR8 := Lib.hid hr8
        have HT8 := Lib.hid (qcell_far HT7.out k8 HN7.out)
        have HN8 := Lib.hid (show g7 ≠ g8 from fun e => by rcases hg8 with h | h; exact HN7.out (e.trans h); have := HT7.out.2; omega)
        clear hr8 k8 hg8
        refine hK.out _ _ (SK.out _ HB8.out) (fun hHeld => ?_)
        try simp only [Nat.zero_add]
        clear hK K
        (try dsimp only [Act.put]); (try simp only [Act.put, List.setIfInBounds_toArray, List.set_cons_zero, List.set_cons_succ])
        refine wpAnyH_ready (rs := [16]) (by kernel_rfl) (by simp) ?_
        refine AllReadyH.cons rfl (fun K hK => ?_) (AllReadyH.nil)
        rw [if_pos (by kernel_rfl)]
        refine wp_append_own4 (o := { dst := some 23, op := Op.call { callee := Callee.builtin Builtin.append, args := #[Operand.tmp 20, Operand.tmp 22], argTypes := #[37, 37] }, type := 37, pos := "ref.go:21", after := #[{ on := 13, ground := Ground.data }, { on := 15, ground := Ground.data }, { on := 13, ground := Ground.chain }], guard := none }) _ _ _ _ rfl w.heap.size 3 ti (.int .i64 0) 1 8 Tryz.underlying37 hti hz0 hz1 hz2 rfl (by decide) g8 (n) cap8 (qiL l) rfl HR8.out (some ⟨g7, 0, none⟩) (1) 1 ([.int .i64 t]) rfl rfl (fun j u hj => by match j, hj with | 0, hj => (obtain rfl := Option.some.inj hj; exact ⟨_, rfl, HT8.out.1⟩)) (by simp [Value.oneCell']) (by unfold maxLen; omega) (by omega) HB8.out.size ?_
        intro g9 cap9 W9 hr9 k9 hg9
        have HB9 := Lib.hid (HB8.out.trans (k9.below HB8.out.size fun b _ e => by rw [e]; exact qown_lo HR8.out))
        have HR9 := Lib.hid hr9
        have HT9 := Lib.hid (qcell_far HT8.out k9 HN8.out)
        have HN9 := Lib.hid (show g7 ≠ g9 from fun e => by rcases hg9 with h | h; exact HN8.out (e.trans h); have := HT8.out.2; omega)
        clear hr9 k9 hg9
        refine hK.out _ _ (SK.out _ HB9.out) (fun hHeld => ?_)
        clear hK K
        (try dsimp only [Act.put]); (try simp only [Act.put, List.setIfInBounds_toArray, List.set_cons_zero, List.set_cons_succ])
        refine wpAnyH_take (i := 17) (oi := { dst := some 24, op := Op.indexAddr 31 (Operand.tmp 10) (Operand.tmp 11), type := 0, pos := "ref.go:21", after := #[{ on := 3, ground := Ground.data }, { on := 4, ground := Ground.data }, { on := 0, ground := Ground.phase }, { on := 1, ground := Ground.phase }, { on := 2, ground := Ground.phase }, { on := 3, ground := Ground.phase }, { on := 4, ground := Ground.phase }, { on := 5, ground := Ground.phase }, { on := 6, ground := Ground.phase }, { on := 7, ground := Ground.phase }, { on := 8, ground := Ground.phase }, { on := 9, ground := Ground.phase }, { on := 10, ground := Ground.phase }, { on := 11, ground := Ground.phase }, { on := 12, ground := Ground.phase }, { on := 13, ground := Ground.phase }, { on := 14, ground := Ground.phase }, { on := 15, ground := Ground.phase }, { on := 16, ground := Ground.phase }], guard := none }) (v := ?_) rfl (by kernel_rfl) (by kernel_rfl) (by kernel_rfl) (fun _ _ _ h => h) (Or.inl ⟨by rfl, ?_⟩) (by assumption) ?_
        rotate_left
        · intro w hSw; (try dsimp only at hSw); go_simp; try with_reducible rfl
        (try simp only [Act.put, List.setIfInBounds_toArray, List.set_cons_zero, List.set_cons_succ])
        refine wpAnyH_ready (rs := [18]) (by kernel_rfl) (by simp) ?_
        refine AllReadyH.cons rfl (fun K hK => ?_) (AllReadyH.nil)
        have cB := (SB.out W9 HB9.out).1
        have fB := (SB.out W9 HB9.out).2.1
        go_simp
        go_wp2_with fail
        refine hK.out _ _ (SKs.out _ _ HB9.out) (fun hHeld => ?_)
        clear cB fB
        clear hK K
        (try dsimp only [Act.put]); (try simp only [Act.put, List.setIfInBounds_toArray, List.set_cons_zero, List.set_cons_succ])
        refine wpAnyH_done (by kernel_rfl) ?_ _
        go_wp2
        go_ret
        have e1 : n + 1 = (l ++ [t]).length := by simp [HN.out]
        have e2 : qiL l ++ [.int .i64 t] = qiL (l ++ [t]) := by simp [qiL]
        have hr := HR9.out
        rw [e1, e2] at hr
        have hT := RQ.turn H.out HB9.out HI.out (l' := l ++ [t]) (by simp [HN.out]; omega) hr
        rw [← e1] at hT
        refine ⟨rfl, ?_, hT.2⟩
        rw [show ((W9.setCell ⟨B, i, none⟩ (.slice (some ⟨g9, 0, none⟩) (n + 1) cap9))).heap.size = W9.heap.size from by simp]
        exact hT.1
    · go_simp
      go_wp2_with fail
      refine hK.out _ _ (SK.out _ (HB1.out.alloc HB1.out.size _)) (fun hHeld => ?_)
      have HB11 := Lib.hid (HB1.out.alloc HB1.out.size (.cells #[.int .i64 t] 3))
      have HT11 := Lib.hid (qcell_new W1 t)
      have HR11 := Lib.hid (HR1.out.alloc (.cells #[.int .i64 t] 3))
      have HN11 := Lib.hid (show W1.heap.size ≠ g1 from by have := qown_lt HR1.out; omega)
      generalize W1.heap.size = g11 at *
      generalize W1.alloc (.cells #[.int .i64 t] 3) = W11 at *
      clear hK K
      (try dsimp only [Act.put]); (try simp only [Act.put, List.setIfInBounds_toArray, List.set_cons_zero, List.set_cons_succ])
      refine wpAnyH_ready (rs := [12]) (by kernel_rfl) (by simp) ?_
      refine AllReadyH.cons rfl (fun K hK => ?_) (AllReadyH.nil)
      have cB := (SB.out W11 HB11.out).1
      go_simp
      go_wp2_with fail
      refine hK.out _ _ (SK.out _ HB11.out) (fun hHeld => ?_)
      clear cB
      clear hK K
      (try dsimp only [Act.put]); (try simp only [Act.put, List.setIfInBounds_toArray, List.set_cons_zero, List.set_cons_succ])
      refine wpAnyH_ready (rs := [13]) (by kernel_rfl) (by simp) ?_
      refine AllReadyH.cons rfl (fun K hK => ?_) (AllReadyH.nil)
      rw [if_pos (by kernel_rfl)]
      refine wp_append_own4 (o := { dst := some 20, op := Op.call { callee := Callee.builtin Builtin.append, args := #[Operand.tmp 12, Operand.tmp 19], argTypes := #[37, 37] }, type := 37, pos := "ref.go:21", after := #[{ on := 5, ground := Ground.data }, { on := 12, ground := Ground.data }], guard := none }) _ _ _ _ rfl w.heap.size 3 ti (.int .i64 0) 1 8 Tryz.underlying37 hti hz0 hz1 hz2 rfl (by decide) g1 (0) 0 ([]) rfl HR11.out ar (n) cr (qiL l) rfl (by simp [HN.out]) (fun j u hj => by obtain ⟨b, o, e, h⟩ := (SB.out W11 HB11.out).2.2 j u hj; exact ⟨_, e, by rw [addr_add]; exact h⟩) qiL_one (by unfold maxLen; omega) (by omega) HB11.out.size ?_
      intro g13 cap13 W13 hr13 k13 hg13
      have HB13 := Lib.hid (HB11.out.trans (k13.below HB11.out.size fun b _ e => by rw [e]; exact qown_lo HR11.out))
      rw [Nat.zero_add, List.nil_append] at hr13
      have HR13 := Lib.hid hr13
      have HT13 := Lib.hid (qcell_far HT11.out k13 HN11.out)
      have HN13 := Lib.hid (show g11 ≠ g13 from fun e => by rcases hg13 with h | h; exact HN11.out (e.trans h); have := HT11.out.2; omega)
      clear hr13 k13 hg13
      refine hK.out _ _ (SK.out _ HB13.out) (fun hHeld => ?_)
      try simp only [Nat.zero_add]
      clear hK K
      (try dsimp only [Act.put]); (try simp only [Act.put, List.setIfInBounds_toArray, List.set_cons_zero, List.set_cons_succ])
      refine wpAnyH_ready (rs := [16]) (by kernel_rfl) (by simp) ?_
      refine AllReadyH.cons rfl (fun K hK => ?_) (AllReadyH.nil)
      rw [if_pos (by kernel_rfl)]
      refine wp_append_own4 (o := { dst := some 23, op := Op.call { callee := Callee.builtin Builtin.append, args := #[Operand.tmp 20, Operand.tmp 22], argTypes := #[37, 37] }, type := 37, pos := "ref.go:21", after := #[{ on := 13, ground := Ground.data }, { on := 15, ground := Ground.data }, { on := 13, ground := Ground.chain }], guard := none }) _ _ _ _ rfl w.heap.size 3 ti (.int .i64 0) 1 8 Tryz.underlying37 hti hz0 hz1 hz2 rfl (by decide) g13 (n) cap13 (qiL l) rfl HR13.out (some ⟨g11, 0, none⟩) (1) 1 ([.int .i64 t]) rfl rfl (fun j u hj => by match j, hj with | 0, hj => (obtain rfl := Option.some.inj hj; exact ⟨_, rfl, HT13.out.1⟩)) (by simp [Value.oneCell']) (by unfold maxLen; omega) (by omega) HB13.out.size ?_
      intro g14 cap14 W14 hr14 k14 hg14
      have HB14 := Lib.hid (HB13.out.trans (k14.below HB13.out.size fun b _ e => by rw [e]; exact qown_lo HR13.out))
      have HR14 := Lib.hid hr14
      have HT14 := Lib.hid (qcell_far HT13.out k14 HN13.out)
      have HN14 := Lib.hid (show g11 ≠ g14 from fun e => by rcases hg14 with h | h; exact HN13.out (e.trans h); have := HT13.out.2; omega)
      clear hr14 k14 hg14
      refine hK.out _ _ (SK.out _ HB14.out) (fun hHeld => ?_)
      clear hK K
      (try dsimp only [Act.put]); (try simp only [Act.put, List.setIfInBounds_toArray, List.set_cons_zero, List.set_cons_succ])
      refine wpAnyH_take (i := 17) (oi := { dst := some 24, op := Op.indexAddr 31 (Operand.tmp 10) (Operand.tmp 11), type := 0, pos := "ref.go:21", after := #[{ on := 3, ground := Ground.data }, { on := 4, ground := Ground.data }, { on := 0, ground := Ground.phase }, { on := 1, ground := Ground.phase }, { on := 2, ground := Ground.phase }, { on := 3, ground := Ground.phase }, { on := 4, ground := Ground.phase }, { on := 5, ground := Ground.phase }, { on := 6, ground := Ground.phase }, { on := 7, ground := Ground.phase }, { on := 8, ground := Ground.phase }, { on := 9, ground := Ground.phase }, { on := 10, ground := Ground.phase }, { on := 11, ground := Ground.phase }, { on := 12, ground := Ground.phase }, { on := 13, ground := Ground.phase }, { on := 14, ground := Ground.phase }, { on := 15, ground := Ground.phase }, { on := 16, ground := Ground.phase }], guard := none }) (v := ?_) rfl (by kernel_rfl) (by kernel_rfl) (by kernel_rfl) (fun _ _ _ h => h) (Or.inl ⟨by rfl, ?_⟩) (by assumption) ?_
      rotate_left
      · intro w hSw; (try dsimp only at hSw); go_simp; try with_reducible rfl
      (try simp only [Act.put, List.setIfInBounds_toArray, List.set_cons_zero, List.set_cons_succ])
      refine wpAnyH_ready (rs := [18]) (by kernel_rfl) (by simp) ?_
      refine AllReadyH.cons rfl (fun K hK => ?_) (AllReadyH.nil)
      have cB := (SB.out W14 HB14.out).1
      have fB := (SB.out W14 HB14.out).2.1
      go_simp
      go_wp2_with fail
      refine hK.out _ _ (SKs.out _ _ HB14.out) (fun hHeld => ?_)
      clear cB fB
      clear hK K
      (try dsimp only [Act.put]); (try simp only [Act.put, List.setIfInBounds_toArray, List.set_cons_zero, List.set_cons_succ])
      refine wpAnyH_done (by kernel_rfl) ?_ _
      go_wp2
      go_ret
      have e1 : n + 1 = (l ++ [t]).length := by simp [HN.out]
      have e2 : qiL l ++ [.int .i64 t] = qiL (l ++ [t]) := by simp [qiL]
      have hr := HR14.out
      rw [e1, e2] at hr
      have hT := RQ.turn H.out HB14.out HI.out (l' := l ++ [t]) (by simp [HN.out]; omega) hr
      rw [← e1] at hT
      refine ⟨rfl, ?_, hT.2⟩
      rw [show ((W14.setCell ⟨B, i, none⟩ (.slice (some ⟨g14, 0, none⟩) (n + 1) cap14))).heap.size = W14.heap.size from by simp]
      exact hT.1
  · have cB := (SB.out wD HBD.out).1
    go_simp
    go_wp2_with fail
    refine hK.out _ _ (SK.out _ HBD.out) (fun hHeld => ?_)
    clear cB
    clear hK K
    (try dsimp only [Act.put]); (try simp only [Act.put, List.setIfInBounds_toArray, List.set_cons_zero, List.set_cons_succ])
    refine wpAnyH_ready (rs := [5, 15]) (by kernel_rfl) (by simp) ?_
    refine AllReadyH.cons rfl (fun K hK => ?_) (AllReadyH.cons rfl (fun K hK => ?_) (AllReadyH.nil))
    · go_simp
      go_wp2_with fail
      refine hK.out _ _ (SK.out _ (HBD.out.alloc HBD.out.size _)) (fun hHeld => ?_)
      have HB17 := Lib.hid (HBD.out.alloc HBD.out.size (.cells #[] 3))
      have HR17 := Lib.hid (qown_zero wD w.heap.size HBD.out.size)
      generalize wD.heap.size = g17 at *
      generalize wD.alloc (.cells #[] 3) = W17 at *
      clear hK K
      (try dsimp only [Act.put]); (try simp only [Act.put, List.setIfInBounds_toArray, List.set_cons_zero, List.set_cons_succ])
      refine wpAnyH_ready (rs := [13, 15]) (by kernel_rfl) (by simp) ?_
      refine AllReadyH.cons rfl (fun K hK => ?_) (AllReadyH.cons rfl (fun K hK => ?_) (AllReadyH.nil))
      · rw [if_pos (by kernel_rfl)]
        refine wp_append_own4 (o := { dst := some 20, op := Op.call { callee := Callee.builtin Builtin.append, args := #[Operand.tmp 12, Operand.tmp 19], argTypes := #[37, 37] }, type := 37, pos := "ref.go:21", after := #[{ on := 5, ground := Ground.data }, { on := 12, ground := Ground.data }], guard := none }) _ _ _ _ rfl w.heap.size 3 ti (.int .i64 0) 1 8 Tryz.underlying37 hti hz0 hz1 hz2 rfl (by decide) g17 (0) 0 ([]) rfl HR17.out ar (n) cr (qiL l) rfl (by simp [HN.out]) (fun j u hj => by obtain ⟨b, o, e, h⟩ := (SB.out W17 HB17.out).2.2 j u hj; exact ⟨_, e, by rw [addr_add]; exact h⟩) qiL_one (by unfold maxLen; omega) (by omega) HB17.out.size ?_
        intro g18 cap18 W18 hr18 k18 hg18
        have HB18 := Lib.hid (HB17.out.trans (k18.below HB17.out.size fun b _ e => by rw [e]; exact qown_lo HR17.out))
        rw [Nat.zero_add, List.nil_append] at hr18
        have HR18 := Lib.hid hr18
        clear hr18 k18 hg18
        refine hK.out _ _ (SK.out _ HB18.out) (fun hHeld => ?_)
        try simp only [Nat.zero_add]
        clear hK K
        (try dsimp only [Act.put]); (try simp only [Act.put, List.setIfInBounds_toArray, List.set_cons_zero, List.set_cons_succ])
        refine wpAnyH_ready (rs := [15]) (by kernel_rfl) (by simp) ?_
        refine AllReadyH.cons rfl (fun K hK => ?_) (AllReadyH.nil)
        go_simp
        go_wp2_with fail
        refine hK.out _ _ (SK.out _ (HB18.out.alloc HB18.out.size _)) (fun hHeld => ?_)
        have HB19 := Lib.hid (HB18.out.alloc HB18.out.size (.cells #[.int .i64 t] 3))
        have HT19 := Lib.hid (qcell_new W18 t)
        have HR19 := Lib.hid (HR18.out.alloc (.cells #[.int .i64 t] 3))
        have HN19 := Lib.hid (show W18.heap.size ≠ g18 from by have := qown_lt HR18.out; omega)
        generalize W18.heap.size = g19 at *
        generalize W18.alloc (.cells #[.int .i64 t] 3) = W19 at *
        clear hK K
        (try dsimp only [Act.put]); (try simp only [Act.put, List.setIfInBounds_toArray, List.set_cons_zero, List.set_cons_succ])
        refine wpAnyH_ready (rs := [16]) (by kernel_rfl) (by simp) ?_
        refine AllReadyH.cons rfl (fun K hK => ?_) (AllReadyH.nil)
        rw [if_pos (by kernel_rfl)]
        refine wp_append_own4 (o := { dst := some 23, op := Op.call { callee := Callee.builtin Builtin.append, args := #[Operand.tmp 20, Operand.tmp 22], argTypes := #[37, 37] }, type := 37, pos := "ref.go:21", after := #[{ on := 13, ground := Ground.data }, { on := 15, ground := Ground.data }, { on := 13, ground := Ground.chain }], guard := none }) _ _ _ _ rfl w.heap.size 3 ti (.int .i64 0) 1 8 Tryz.underlying37 hti hz0 hz1 hz2 rfl (by decide) g18 (n) cap18 (qiL l) rfl HR19.out (some ⟨g19, 0, none⟩) (1) 1 ([.int .i64 t]) rfl rfl (fun j u hj => by match j, hj with | 0, hj => (obtain rfl := Option.some.inj hj; exact ⟨_, rfl, HT19.out.1⟩)) (by simp [Value.oneCell']) (by unfold maxLen; omega) (by omega) HB19.out.size ?_
        intro g20 cap20 W20 hr20 k20 hg20
        have HB20 := Lib.hid (HB19.out.trans (k20.below HB19.out.size fun b _ e => by rw [e]; exact qown_lo HR19.out))
        have HR20 := Lib.hid hr20
        have HT20 := Lib.hid (qcell_far HT19.out k20 HN19.out)
        have HN20 := Lib.hid (show g19 ≠ g20 from fun e => by rcases hg20 with h | h; exact HN19.out (e.trans h); have := HT19.out.2; omega)
        clear hr20 k20 hg20
        refine hK.out _ _ (SK.out _ HB20.out) (fun hHeld => ?_)
        clear hK K
        (try dsimp only [Act.put]); (try simp only [Act.put, List.setIfInBounds_toArray, List.set_cons_zero, List.set_cons_succ])
        refine wpAnyH_take (i := 17) (oi := { dst := some 24, op := Op.indexAddr 31 (Operand.tmp 10) (Operand.tmp 11), type := 0, pos := "ref.go:21", after := #[{ on := 3, ground := Ground.data }, { on := 4, ground := Ground.data }, { on := 0, ground := Ground.phase }, { on := 1, ground := Ground.phase }, { on := 2, ground := Ground.phase }, { on := 3, ground := Ground.phase }, { on := 4, ground := Ground.phase }, { on := 5, ground := Ground.phase }, { on := 6, ground := Ground.phase }, { on := 7, ground := Ground.phase }, { on := 8, ground := Ground.phase }, { on := 9, ground := Ground.phase }, { on := 10, ground := Ground.phase }, { on := 11, ground := Ground.phase }, { on := 12, ground := Ground.phase }, { on := 13, ground := Ground.phase }, { on := 14, ground := Ground.phase }, { on := 15, ground := Ground.phase }, { on := 16, ground := Ground.phase }], guard := none }) (v := ?_) rfl (by kernel_rfl) (by kernel_rfl) (by kernel_rfl) (fun _ _ _ h => h) (Or.inl ⟨by rfl, ?_⟩) (by assumption) ?_
        rotate_left
        · intro w hSw; (try dsimp only at hSw); go_simp; try with_reducible rfl
        (try simp only [Act.put, List.setIfInBounds_toArray, List.set_cons_zero, List.set_cons_succ])
        refine wpAnyH_ready (rs := [18]) (by kernel_rfl) (by simp) ?_
        refine AllReadyH.cons rfl (fun K hK => ?_) (AllReadyH.nil)
        have cB := (SB.out W20 HB20.out).1
        have fB := (SB.out W20 HB20.out).2.1
        go_simp
        go_wp2_with fail
        refine hK.out _ _ (SKs.out _ _ HB20.out) (fun hHeld => ?_)
        clear cB fB
        clear hK K
        (try dsimp only [Act.put]); (try simp only [Act.put, List.setIfInBounds_toArray, List.set_cons_zero, List.set_cons_succ])
        refine wpAnyH_done (by kernel_rfl) ?_ _
        go_wp2
        go_ret
        have e1 : n + 1 = (l ++ [t]).length := by simp [HN.out]
        have e2 : qiL l ++ [.int .i64 t] = qiL (l ++ [t]) := by simp [qiL]
        have hr := HR20.out
        rw [e1, e2] at hr
        have hT := RQ.turn H.out HB20.out HI.out (l' := l ++ [t]) (by simp [HN.out]; omega) hr
        rw [← e1] at hT
        refine ⟨rfl, ?_, hT.2⟩
        rw [show ((W20.setCell ⟨B, i, none⟩ (.slice (some ⟨g20, 0, none⟩) (n + 1) cap20))).heap.size = W20.heap.size from by simp]
        exact hT.1
      · go_simp
        go_wp2_with fail
        refine hK.out _ _ (SK.out _ (HB17.out.alloc HB17.out.size _)) (fun hHeld => ?_)
        have HB22 := Lib.hid (HB17.out.alloc HB17.out.size (.cells #[.int .i64 t] 3))
        have HT22 := Lib.hid (qcell_new W17 t)
        have HR22 := Lib.hid (HR17.out.alloc (.cells #[.int .i64 t] 3))
        have HN22 := Lib.hid (show W17.heap.size ≠ g17 from by have := qown_lt HR17.out; omega)
        generalize W17.heap.size = g22 at *
        generalize W17.alloc (.cells #[.int .i64 t] 3) = W22 at *
        clear hK K
        (try dsimp only [Act.put]); (try simp only [Act.put, List.setIfInBounds_toArray, List.set_cons_zero, List.set_cons_succ])
        refine wpAnyH_ready (rs := [13]) (by kernel_rfl) (by simp) ?_
        refine AllReadyH.cons rfl (fun K hK => ?_) (AllReadyH.nil)
        rw [if_pos (by kernel_rfl)]
        refine wp_append_own4 (o := { dst := some 20, op := Op.call { callee := Callee.builtin Builtin.append, args := #[Operand.tmp 12, Operand.tmp 19], argTypes := #[37, 37] }, type := 37, pos := "ref.go:21", after := #[{ on := 5, ground := Ground.data }, { on := 12, ground := Ground.data }], guard := none }) _ _ _ _ rfl w.heap.size 3 ti (.int .i64 0) 1 8 Tryz.underlying37 hti hz0 hz1 hz2 rfl (by decide) g17 (0) 0 ([]) rfl HR22.out ar (n) cr (qiL l) rfl (by simp [HN.out]) (fun j u hj => by obtain ⟨b, o, e, h⟩ := (SB.out W22 HB22.out).2.2 j u hj; exact ⟨_, e, by rw [addr_add]; exact h⟩) qiL_one (by unfold maxLen; omega) (by omega) HB22.out.size ?_
        intro g23 cap23 W23 hr23 k23 hg23
        have HB23 := Lib.hid (HB22.out.trans (k23.below HB22.out.size fun b _ e => by rw [e]; exact qown_lo HR22.out))
        rw [Nat.zero_add, List.nil_append] at hr23
        have HR23 := Lib.hid hr23
        have HT23 := Lib.hid (qcell_far HT22.out k23 HN22.out)
        have HN23 := Lib.hid (show g22 ≠ g23 from fun e => by rcases hg23 with h | h; exact HN22.out (e.trans h); have := HT22.out.2; omega)
        clear hr23 k23 hg23
        refine hK.out _ _ (SK.out _ HB23.out) (fun hHeld => ?_)
        try simp only [Nat.zero_add]
        clear hK K
        (try dsimp only [Act.put]); (try simp only [Act.put, List.setIfInBounds_toArray, List.set_cons_zero, List.set_cons_succ])
        refine wpAnyH_ready (rs := [16]) (by kernel_rfl) (by simp) ?_
        refine AllReadyH.cons rfl (fun K hK => ?_) (AllReadyH.nil)
        rw [if_pos (by kernel_rfl)]
        refine wp_append_own4 (o := { dst := some 23, op := Op.call { callee := Callee.builtin Builtin.append, args := #[Operand.tmp 20, Operand.tmp 22], argTypes := #[37, 37] }, type := 37, pos := "ref.go:21", after := #[{ on := 13, ground := Ground.data }, { on := 15, ground := Ground.data }, { on := 13, ground := Ground.chain }], guard := none }) _ _ _ _ rfl w.heap.size 3 ti (.int .i64 0) 1 8 Tryz.underlying37 hti hz0 hz1 hz2 rfl (by decide) g23 (n) cap23 (qiL l) rfl HR23.out (some ⟨g22, 0, none⟩) (1) 1 ([.int .i64 t]) rfl rfl (fun j u hj => by match j, hj with | 0, hj => (obtain rfl := Option.some.inj hj; exact ⟨_, rfl, HT23.out.1⟩)) (by simp [Value.oneCell']) (by unfold maxLen; omega) (by omega) HB23.out.size ?_
        intro g24 cap24 W24 hr24 k24 hg24
        have HB24 := Lib.hid (HB23.out.trans (k24.below HB23.out.size fun b _ e => by rw [e]; exact qown_lo HR23.out))
        have HR24 := Lib.hid hr24
        have HT24 := Lib.hid (qcell_far HT23.out k24 HN23.out)
        have HN24 := Lib.hid (show g22 ≠ g24 from fun e => by rcases hg24 with h | h; exact HN23.out (e.trans h); have := HT23.out.2; omega)
        clear hr24 k24 hg24
        refine hK.out _ _ (SK.out _ HB24.out) (fun hHeld => ?_)
        clear hK K
        (try dsimp only [Act.put]); (try simp only [Act.put, List.setIfInBounds_toArray, List.set_cons_zero, List.set_cons_succ])
        refine wpAnyH_take (i := 17) (oi := { dst := some 24, op := Op.indexAddr 31 (Operand.tmp 10) (Operand.tmp 11), type := 0, pos := "ref.go:21", after := #[{ on := 3, ground := Ground.data }, { on := 4, ground := Ground.data }, { on := 0, ground := Ground.phase }, { on := 1, ground := Ground.phase }, { on := 2, ground := Ground.phase }, { on := 3, ground := Ground.phase }, { on := 4, ground := Ground.phase }, { on := 5, ground := Ground.phase }, { on := 6, ground := Ground.phase }, { on := 7, ground := Ground.phase }, { on := 8, ground := Ground.phase }, { on := 9, ground := Ground.phase }, { on := 10, ground := Ground.phase }, { on := 11, ground := Ground.phase }, { on := 12, ground := Ground.phase }, { on := 13, ground := Ground.phase }, { on := 14, ground := Ground.phase }, { on := 15, ground := Ground.phase }, { on := 16, ground := Ground.phase }], guard := none }) (v := ?_) rfl (by kernel_rfl) (by kernel_rfl) (by kernel_rfl) (fun _ _ _ h => h) (Or.inl ⟨by rfl, ?_⟩) (by assumption) ?_
        rotate_left
        · intro w hSw; (try dsimp only at hSw); go_simp; try with_reducible rfl
        (try simp only [Act.put, List.setIfInBounds_toArray, List.set_cons_zero, List.set_cons_succ])
        refine wpAnyH_ready (rs := [18]) (by kernel_rfl) (by simp) ?_
        refine AllReadyH.cons rfl (fun K hK => ?_) (AllReadyH.nil)
        have cB := (SB.out W24 HB24.out).1
        have fB := (SB.out W24 HB24.out).2.1
        go_simp
        go_wp2_with fail
        refine hK.out _ _ (SKs.out _ _ HB24.out) (fun hHeld => ?_)
        clear cB fB
        clear hK K
        (try dsimp only [Act.put]); (try simp only [Act.put, List.setIfInBounds_toArray, List.set_cons_zero, List.set_cons_succ])
        refine wpAnyH_done (by kernel_rfl) ?_ _
        go_wp2
        go_ret
        have e1 : n + 1 = (l ++ [t]).length := by simp [HN.out]
        have e2 : qiL l ++ [.int .i64 t] = qiL (l ++ [t]) := by simp [qiL]
        have hr := HR24.out
        rw [e1, e2] at hr
        have hT := RQ.turn H.out HB24.out HI.out (l' := l ++ [t]) (by simp [HN.out]; omega) hr
        rw [← e1] at hT
        refine ⟨rfl, ?_, hT.2⟩
        rw [show ((W24.setCell ⟨B, i, none⟩ (.slice (some ⟨g24, 0, none⟩) (n + 1) cap24))).heap.size = W24.heap.size from by simp]
        exact hT.1
    · go_simp
      go_wp2_with fail
      refine hK.out _ _ (SK.out _ (HBD.out.alloc HBD.out.size _)) (fun hHeld => ?_)
      have HB26 := Lib.hid (HBD.out.alloc HBD.out.size (.cells #[.int .i64 t] 3))
      have HT26 := Lib.hid (qcell_new wD t)
      generalize wD.heap.size = g26 at *
      generalize wD.alloc (.cells #[.int .i64 t] 3) = W26 at *
      clear hK K
      (try dsimp only [Act.put]); (try simp only [Act.put, List.setIfInBounds_toArray, List.set_cons_zero, List.set_cons_succ])
      refine wpAnyH_ready (rs := [5]) (by kernel_rfl) (by simp) ?_
      refine AllReadyH.cons rfl (fun K hK => ?_) (AllReadyH.nil)
      go_simp
      go_wp2_with fail
      refine hK.out _ _ (SK.out _ (HB26.out.alloc HB26.out.size _)) (fun hHeld => ?_)
      have HB27 := Lib.hid (HB26.out.alloc HB26.out.size (.cells #[] 3))
      have HR27 := Lib.hid (qown_zero W26 w.heap.size HB26.out.size)
      have HT27 := Lib.hid (qcell_alloc HT26.out (.cells #[] 3))
      have HN27 := Lib.hid (show g26 ≠ W26.heap.size from by have := HT26.out.2; omega)
      generalize W26.heap.size = g27 at *
      generalize W26.alloc (.cells #[] 3) = W27 at *
      clear hK K
      (try dsimp only [Act.put]); (try simp only [Act.put, List.setIfInBounds_toArray, List.set_cons_zero, List.set_cons_succ])
      refine wpAnyH_ready (rs := [13]) (by kernel_rfl) (by simp) ?_
      refine AllReadyH.cons rfl (fun K hK => ?_) (AllReadyH.nil)
      rw [if_pos (by kernel_rfl)]
      refine wp_append_own4 (o := { dst := some 20, op := Op.call { callee := Callee.builtin Builtin.append, args := #[Operand.tmp 12, Operand.tmp 19], argTypes := #[37, 37] }, type := 37, pos := "ref.go:21", after := #[{ on := 5, ground := Ground.data }, { on := 12, ground := Ground.data }], guard := none }) _ _ _ _ rfl w.heap.size 3 ti (.int .i64 0) 1 8 Tryz.underlying37 hti hz0 hz1 hz2 rfl (by decide) g27 (0) 0 ([]) rfl HR27.out ar (n) cr (qiL l) rfl (by simp [HN.out]) (fun j u hj => by obtain ⟨b, o, e, h⟩ := (SB.out W27 HB27.out).2.2 j u hj; exact ⟨_, e, by rw [addr_add]; exact h⟩) qiL_one (by unfold maxLen; omega) (by omega) HB27.out.size ?_
      intro g28 cap28 W28 hr28 k28 hg28
      have HB28 := Lib.hid (HB27.out.trans (k28.below HB27.out.size fun b _ e => by rw [e]; exact qown_lo HR27.out))
      rw [Nat.zero_add, List.nil_append] at hr28
      have HR28 := Lib.hid hr28
      have HT28 := Lib.hid (qcell_far HT27.out k28 HN27.out)
      have HN28 := Lib.hid (show g26 ≠ g28 from fun e => by rcases hg28 with h | h; exact HN27.out (e.trans h); have := HT27.out.2; omega)
      clear hr28 k28 hg28
      refine hK.out _ _ (SK.out _ HB28.out) (fun hHeld => ?_)
      try simp only [Nat.zero_add]
      clear hK K
      (try dsimp only [Act.put]); (try simp only [Act.put, List.setIfInBounds_toArray, List.set_cons_zero, List.set_cons_succ])
      refine wpAnyH_ready (rs := [16]) (by kernel_rfl) (by simp) ?_
      refine AllReadyH.cons rfl (fun K hK => ?_) (AllReadyH.nil)
      rw [if_pos (by kernel_rfl)]
      refine wp_append_own4 (o := { dst := some 23, op := Op.call { callee := Callee.builtin Builtin.append, args := #[Operand.tmp 20, Operand.tmp 22], argTypes := #[37, 37] }, type := 37, pos := "ref.go:21", after := #[{ on := 13, ground := Ground.data }, { on := 15, ground := Ground.data }, { on := 13, ground := Ground.chain }], guard := none }) _ _ _ _ rfl w.heap.size 3 ti (.int .i64 0) 1 8 Tryz.underlying37 hti hz0 hz1 hz2 rfl (by decide) g28 (n) cap28 (qiL l) rfl HR28.out (some ⟨g26, 0, none⟩) (1) 1 ([.int .i64 t]) rfl rfl (fun j u hj => by match j, hj with | 0, hj => (obtain rfl := Option.some.inj hj; exact ⟨_, rfl, HT28.out.1⟩)) (by simp [Value.oneCell']) (by unfold maxLen; omega) (by omega) HB28.out.size ?_
      intro g29 cap29 W29 hr29 k29 hg29
      have HB29 := Lib.hid (HB28.out.trans (k29.below HB28.out.size fun b _ e => by rw [e]; exact qown_lo HR28.out))
      have HR29 := Lib.hid hr29
      have HT29 := Lib.hid (qcell_far HT28.out k29 HN28.out)
      have HN29 := Lib.hid (show g26 ≠ g29 from fun e => by rcases hg29 with h | h; exact HN28.out (e.trans h); have := HT28.out.2; omega)
      clear hr29 k29 hg29
      refine hK.out _ _ (SK.out _ HB29.out) (fun hHeld => ?_)
      clear hK K
      (try dsimp only [Act.put]); (try simp only [Act.put, List.setIfInBounds_toArray, List.set_cons_zero, List.set_cons_succ])
      refine wpAnyH_take (i := 17) (oi := { dst := some 24, op := Op.indexAddr 31 (Operand.tmp 10) (Operand.tmp 11), type := 0, pos := "ref.go:21", after := #[{ on := 3, ground := Ground.data }, { on := 4, ground := Ground.data }, { on := 0, ground := Ground.phase }, { on := 1, ground := Ground.phase }, { on := 2, ground := Ground.phase }, { on := 3, ground := Ground.phase }, { on := 4, ground := Ground.phase }, { on := 5, ground := Ground.phase }, { on := 6, ground := Ground.phase }, { on := 7, ground := Ground.phase }, { on := 8, ground := Ground.phase }, { on := 9, ground := Ground.phase }, { on := 10, ground := Ground.phase }, { on := 11, ground := Ground.phase }, { on := 12, ground := Ground.phase }, { on := 13, ground := Ground.phase }, { on := 14, ground := Ground.phase }, { on := 15, ground := Ground.phase }, { on := 16, ground := Ground.phase }], guard := none }) (v := ?_) rfl (by kernel_rfl) (by kernel_rfl) (by kernel_rfl) (fun _ _ _ h => h) (Or.inl ⟨by rfl, ?_⟩) (by assumption) ?_
      rotate_left
      · intro w hSw; (try dsimp only at hSw); go_simp; try with_reducible rfl
      (try simp only [Act.put, List.setIfInBounds_toArray, List.set_cons_zero, List.set_cons_succ])
      refine wpAnyH_ready (rs := [18]) (by kernel_rfl) (by simp) ?_
      refine AllReadyH.cons rfl (fun K hK => ?_) (AllReadyH.nil)
      have cB := (SB.out W29 HB29.out).1
      have fB := (SB.out W29 HB29.out).2.1
      go_simp
      go_wp2_with fail
      refine hK.out _ _ (SKs.out _ _ HB29.out) (fun hHeld => ?_)
      clear cB fB
      clear hK K
      (try dsimp only [Act.put]); (try simp only [Act.put, List.setIfInBounds_toArray, List.set_cons_zero, List.set_cons_succ])
      refine wpAnyH_done (by kernel_rfl) ?_ _
      go_wp2
      go_ret
      have e1 : n + 1 = (l ++ [t]).length := by simp [HN.out]
      have e2 : qiL l ++ [.int .i64 t] = qiL (l ++ [t]) := by simp [qiL]
      have hr := HR29.out
      rw [e1, e2] at hr
      have hT := RQ.turn H.out HB29.out HI.out (l' := l ++ [t]) (by simp [HN.out]; omega) hr
      rw [← e1] at hT
      refine ⟨rfl, ?_, hT.2⟩
      rw [show ((W29.setCell ⟨B, i, none⟩ (.slice (some ⟨g29, 0, none⟩) (n + 1) cap29))).heap.size = W29.heap.size from by simp]
      exact hT.1
  · go_simp
    go_wp2_with fail
    refine hK.out _ _ (SK.out _ (HBD.out.alloc HBD.out.size _)) (fun hHeld => ?_)
    have HB31 := Lib.hid (HBD.out.alloc HBD.out.size (.cells #[.int .i64 t] 3))
    have HT31 := Lib.hid (qcell_new wD t)
    generalize wD.heap.size = g31 at *
    generalize wD.alloc (.cells #[.int .i64 t] 3) = W31 at *
    clear hK K
    (try dsimp only [Act.put]); (try simp only [Act.put, List.setIfInBounds_toArray, List.set_cons_zero, List.set_cons_succ])
    refine wpAnyH_ready (rs := [5, 12]) (by kernel_rfl) (by simp) ?_
    refine AllReadyH.cons rfl (fun K hK => ?_) (AllReadyH.cons rfl (fun K hK => ?_) (AllReadyH.nil))
    · go_simp
      go_wp2_with fail
      refine hK.out _ _ (SK.out _ (HB31.out.alloc HB31.out.size _)) (fun hHeld => ?_)
      have HB32 := Lib.hid (HB31.out.alloc HB31.out.size (.cells #[] 3))
      have HR32 := Lib.hid (qown_zero W31 w.heap.size HB31.out.size)
      have HT32 := Lib.hid (qcell_alloc HT31.out (.cells #[] 3))
      have HN32 := Lib.hid (show g31 ≠ W31.heap.size from by have := HT31.out.2; omega)
      generalize W31.heap.size = g32 at *
      generalize W31.alloc (.cells #[] 3) = W32 at *
      clear hK K
      (try dsimp only [Act.put]); (try simp only [Act.put, List.setIfInBounds_toArray, List.set_cons_zero, List.set_cons_succ])
      refine wpAnyH_ready (rs := [12]) (by kernel_rfl) (by simp) ?_
      refine AllReadyH.cons rfl (fun K hK => ?_) (AllReadyH.nil)
      have cB := (SB.out W32 HB32.out).1
      go_simp
      go_wp2_with fail
      refine hK.out _ _ (SK.out _ HB32.out) (fun hHeld => ?_)
      clear cB
      clear hK K
      (try dsimp only [Act.put]); (try simp only [Act.put, List.setIfInBounds_toArray, List.set_cons_zero, List.set_cons_succ])
      refine wpAnyH_ready (rs := [13]) (by kernel_rfl) (by simp) ?_
      refine AllReadyH.cons rfl (fun K hK => ?_) (AllReadyH.nil)
      rw [if_pos (by kernel_rfl)]
      refine wp_append_own4 (o := { dst := some 20, op := Op.call { callee := Callee.builtin Builtin.append, args := #[Operand.tmp 12, Operand.tmp 19], argTypes := #[37, 37] }, type := 37, pos := "ref.go:21", after := #[{ on := 5, ground := Ground.data }, { on := 12, ground := Ground.data }], guard := none }) _ _ _ _ rfl w.heap.size 3 ti (.int .i64 0) 1 8 Tryz.underlying37 hti hz0 hz1 hz2 rfl (by decide) g32 (0) 0 ([]) rfl HR32.out ar (n) cr (qiL l) rfl (by simp [HN.out]) (fun j u hj => by obtain ⟨b, o, e, h⟩ := (SB.out W32 HB32.out).2.2 j u hj; exact ⟨_, e, by rw [addr_add]; exact h⟩) qiL_one (by unfold maxLen; omega) (by omega) HB32.out.size ?_
      intro g34 cap34 W34 hr34 k34 hg34
      have HB34 := Lib.hid (HB32.out.trans (k34.below HB32.out.size fun b _ e => by rw [e]; exact qown_lo HR32.out))
      rw [Nat.zero_add, List.nil_append] at hr34
      have HR34 := Lib.hid hr34
      have HT34 := Lib.hid (qcell_far HT32.out k34 HN32.out)
      have HN34 := Lib.hid (show g31 ≠ g34 from fun e => by rcases hg34 with h | h; exact HN32.out (e.trans h); have := HT32.out.2; omega)
      clear hr34 k34 hg34
      refine hK.out _ _ (SK.out _ HB34.out) (fun hHeld => ?_)
      try simp only [Nat.zero_add]
      clear hK K
      (try dsimp only [Act.put]); (try simp only [Act.put, List.setIfInBounds_toArray, List.set_cons_zero, List.set_cons_succ])
      refine wpAnyH_ready (rs := [16]) (by kernel_rfl) (by simp) ?_
      refine AllReadyH.cons rfl (fun K hK => ?_) (AllReadyH.nil)
      rw [if_pos (by kernel_rfl)]
      refine wp_append_own4 (o := { dst := some 23, op := Op.call { callee := Callee.builtin Builtin.append, args := #[Operand.tmp 20, Operand.tmp 22], argTypes := #[37, 37] }, type := 37, pos := "ref.go:21", after := #[{ on := 13, ground := Ground.data }, { on := 15, ground := Ground.data }, { on := 13, ground := Ground.chain }], guard := none }) _ _ _ _ rfl w.heap.size 3 ti (.int .i64 0) 1 8 Tryz.underlying37 hti hz0 hz1 hz2 rfl (by decide) g34 (n) cap34 (qiL l) rfl HR34.out (some ⟨g31, 0, none⟩) (1) 1 ([.int .i64 t]) rfl rfl (fun j u hj => by match j, hj with | 0, hj => (obtain rfl := Option.some.inj hj; exact ⟨_, rfl, HT34.out.1⟩)) (by simp [Value.oneCell']) (by unfold maxLen; omega) (by omega) HB34.out.size ?_
      intro g35 cap35 W35 hr35 k35 hg35
      have HB35 := Lib.hid (HB34.out.trans (k35.below HB34.out.size fun b _ e => by rw [e]; exact qown_lo HR34.out))
      have HR35 := Lib.hid hr35
      have HT35 := Lib.hid (qcell_far HT34.out k35 HN34.out)
      have HN35 := Lib.hid (show g31 ≠ g35 from fun e => by rcases hg35 with h | h; exact HN34.out (e.trans h); have := HT34.out.2; omega)
      clear hr35 k35 hg35
      refine hK.out _ _ (SK.out _ HB35.out) (fun hHeld => ?_)
      clear hK K
      (try dsimp only [Act.put]); (try simp only [Act.put, List.setIfInBounds_toArray, List.set_cons_zero, List.set_cons_succ])
      refine wpAnyH_take (i := 17) (oi := { dst := some 24, op := Op.indexAddr 31 (Operand.tmp 10) (Operand.tmp 11), type := 0, pos := "ref.go:21", after := #[{ on := 3, ground := Ground.data }, { on := 4, ground := Ground.data }, { on := 0, ground := Ground.phase }, { on := 1, ground := Ground.phase }, { on := 2, ground := Ground.phase }, { on := 3, ground := Ground.phase }, { on := 4, ground := Ground.phase }, { on := 5, ground := Ground.phase }, { on := 6, ground := Ground.phase }, { on := 7, ground := Ground.phase }, { on := 8, ground := Ground.phase }, { on := 9, ground := Ground.phase }, { on := 10, ground := Ground.phase }, { on := 11, ground := Ground.phase }, { on := 12, ground := Ground.phase }, { on := 13, ground := Ground.phase }, { on := 14, ground := Ground.phase }, { on := 15, ground := Ground.phase }, { on := 16, ground := Ground.phase }], guard := none }) (v := ?_) rfl (by kernel_rfl) (by kernel_rfl) (by kernel_rfl) (fun _ _ _ h => h) (Or.inl ⟨by rfl, ?_⟩) (by assumption) ?_
      rotate_left
      · intro w hSw; (try dsimp only at hSw); go_simp; try with_reducible rfl
      (try simp only [Act.put, List.setIfInBounds_toArray, List.set_cons_zero, List.set_cons_succ])
      refine wpAnyH_ready (rs := [18]) (by kernel_rfl) (by simp) ?_
      refine AllReadyH.cons rfl (fun K hK => ?_) (AllReadyH.nil)
      have cB := (SB.out W35 HB35.out).1
      have fB := (SB.out W35 HB35.out).2.1
      go_simp
      go_wp2_with fail
      refine hK.out _ _ (SKs.out _ _ HB35.out) (fun hHeld => ?_)
      clear cB fB
      clear hK K
      (try dsimp only [Act.put]); (try simp only [Act.put, List.setIfInBounds_toArray, List.set_cons_zero, List.set_cons_succ])
      refine wpAnyH_done (by kernel_rfl) ?_ _
      go_wp2
      go_ret
      have e1 : n + 1 = (l ++ [t]).length := by simp [HN.out]
      have e2 : qiL l ++ [.int .i64 t] = qiL (l ++ [t]) := by simp [qiL]
      have hr := HR35.out
      rw [e1, e2] at hr
      have hT := RQ.turn H.out HB35.out HI.out (l' := l ++ [t]) (by simp [HN.out]; omega) hr
      rw [← e1] at hT
      refine ⟨rfl, ?_, hT.2⟩
      rw [show ((W35.setCell ⟨B, i, none⟩ (.slice (some ⟨g35, 0, none⟩) (n + 1) cap35))).heap.size = W35.heap.size from by simp]
      exact hT.1
    · have cB := (SB.out W31 HB31.out).1
      go_simp
      go_wp2_with fail
      refine hK.out _ _ (SK.out _ HB31.out) (fun hHeld => ?_)
      clear cB
      clear hK K
      (try dsimp only [Act.put]); (try simp only [Act.put, List.setIfInBounds_toArray, List.set_cons_zero, List.set_cons_succ])
      refine wpAnyH_ready (rs := [5]) (by kernel_rfl) (by simp) ?_
      refine AllReadyH.cons rfl (fun K hK => ?_) (AllReadyH.nil)
      go_simp
      go_wp2_with fail
      refine hK.out _ _ (SK.out _ (HB31.out.alloc HB31.out.size _)) (fun hHeld => ?_)
      have HB38 := Lib.hid (HB31.out.alloc HB31.out.size (.cells #[] 3))
      have HR38 := Lib.hid (qown_zero W31 w.heap.size HB31.out.size)
      have HT38 := Lib.hid (qcell_alloc HT31.out (.cells #[] 3))
      have HN38 := Lib.hid (show g31 ≠ W31.heap.size from by have := HT31.out.2; omega)
      generalize W31.heap.size = g38 at *
      generalize W31.alloc (.cells #[] 3) = W38 at *
      clear hK K
      (try dsimp only [Act.put]); (try simp only [Act.put, List.setIfInBounds_toArray, List.set_cons_zero, List.set_cons_succ])
      refine wpAnyH_ready (rs := [13]) (by kernel_rfl) (by simp) ?_
      refine AllReadyH.cons rfl (fun K hK => ?_) (AllReadyH.nil)
      rw [if_pos (by kernel_rfl)]
      refine wp_append_own4 (o := { dst := some 20, op := Op.call { callee := Callee.builtin Builtin.append, args := #[Operand.tmp 12, Operand.tmp 19], argTypes := #[37, 37] }, type := 37, pos := "ref.go:21", after := #[{ on := 5, ground := Ground.data }, { on := 12, ground := Ground.data }], guard := none }) _ _ _ _ rfl w.heap.size 3 ti (.int .i64 0) 1 8 Tryz.underlying37 hti hz0 hz1 hz2 rfl (by decide) g38 (0) 0 ([]) rfl HR38.out ar (n) cr (qiL l) rfl (by simp [HN.out]) (fun j u hj => by obtain ⟨b, o, e, h⟩ := (SB.out W38 HB38.out).2.2 j u hj; exact ⟨_, e, by rw [addr_add]; exact h⟩) qiL_one (by unfold maxLen; omega) (by omega) HB38.out.size ?_
      intro g39 cap39 W39 hr39 k39 hg39
      have HB39 := Lib.hid (HB38.out.trans (k39.below HB38.out.size fun b _ e => by rw [e]; exact qown_lo HR38.out))
      rw [Nat.zero_add, List.nil_append] at hr39
      have HR39 := Lib.hid hr39
      have HT39 := Lib.hid (qcell_far HT38.out k39 HN38.out)
      have HN39 := Lib.hid (show g31 ≠ g39 from fun e => by rcases hg39 with h | h; exact HN38.out (e.trans h); have := HT38.out.2; omega)
      clear hr39 k39 hg39
      refine hK.out _ _ (SK.out _ HB39.out) (fun hHeld => ?_)
      try simp only [Nat.zero_add]
      clear hK K
      (try dsimp only [Act.put]); (try simp only [Act.put, List.setIfInBounds_toArray, List.set_cons_zero, List.set_cons_succ])
      refine wpAnyH_ready (rs := [16]) (by kernel_rfl) (by simp) ?_
      refine AllReadyH.cons rfl (fun K hK => ?_) (AllReadyH.nil)
      rw [if_pos (by kernel_rfl)]
      refine wp_append_own4 (o := { dst := some 23, op := Op.call { callee := Callee.builtin Builtin.append, args := #[Operand.tmp 20, Operand.tmp 22], argTypes := #[37, 37] }, type := 37, pos := "ref.go:21", after := #[{ on := 13, ground := Ground.data }, { on := 15, ground := Ground.data }, { on := 13, ground := Ground.chain }], guard := none }) _ _ _ _ rfl w.heap.size 3 ti (.int .i64 0) 1 8 Tryz.underlying37 hti hz0 hz1 hz2 rfl (by decide) g39 (n) cap39 (qiL l) rfl HR39.out (some ⟨g31, 0, none⟩) (1) 1 ([.int .i64 t]) rfl rfl (fun j u hj => by match j, hj with | 0, hj => (obtain rfl := Option.some.inj hj; exact ⟨_, rfl, HT39.out.1⟩)) (by simp [Value.oneCell']) (by unfold maxLen; omega) (by omega) HB39.out.size ?_
      intro g40 cap40 W40 hr40 k40 hg40
      have HB40 := Lib.hid (HB39.out.trans (k40.below HB39.out.size fun b _ e => by rw [e]; exact qown_lo HR39.out))
      have HR40 := Lib.hid hr40
      have HT40 := Lib.hid (qcell_far HT39.out k40 HN39.out)
      have HN40 := Lib.hid (show g31 ≠ g40 from fun e => by rcases hg40 with h | h; exact HN39.out (e.trans h); have := HT39.out.2; omega)
      clear hr40 k40 hg40
      refine hK.out _ _ (SK.out _ HB40.out) (fun hHeld => ?_)
      clear hK K
      (try dsimp only [Act.put]); (try simp only [Act.put, List.setIfInBounds_toArray, List.set_cons_zero, List.set_cons_succ])
      refine wpAnyH_take (i := 17) (oi := { dst := some 24, op := Op.indexAddr 31 (Operand.tmp 10) (Operand.tmp 11), type := 0, pos := "ref.go:21", after := #[{ on := 3, ground := Ground.data }, { on := 4, ground := Ground.data }, { on := 0, ground := Ground.phase }, { on := 1, ground := Ground.phase }, { on := 2, ground := Ground.phase }, { on := 3, ground := Ground.phase }, { on := 4, ground := Ground.phase }, { on := 5, ground := Ground.phase }, { on := 6, ground := Ground.phase }, { on := 7, ground := Ground.phase }, { on := 8, ground := Ground.phase }, { on := 9, ground := Ground.phase }, { on := 10, ground := Ground.phase }, { on := 11, ground := Ground.phase }, { on := 12, ground := Ground.phase }, { on := 13, ground := Ground.phase }, { on := 14, ground := Ground.phase }, { on := 15, ground := Ground.phase }, { on := 16, ground := Ground.phase }], guard := none }) (v := ?_) rfl (by kernel_rfl) (by kernel_rfl) (by kernel_rfl) (fun _ _ _ h => h) (Or.inl ⟨by rfl, ?_⟩) (by assumption) ?_
      rotate_left
      · intro w hSw; (try dsimp only at hSw); go_simp; try with_reducible rfl
      (try simp only [Act.put, List.setIfInBounds_toArray, List.set_cons_zero, List.set_cons_succ])
      refine wpAnyH_ready (rs := [18]) (by kernel_rfl) (by simp) ?_
      refine AllReadyH.cons rfl (fun K hK => ?_) (AllReadyH.nil)
      have cB := (SB.out W40 HB40.out).1
      have fB := (SB.out W40 HB40.out).2.1
      go_simp
      go_wp2_with fail
      refine hK.out _ _ (SKs.out _ _ HB40.out) (fun hHeld => ?_)
      clear cB fB
      clear hK K
      (try dsimp only [Act.put]); (try simp only [Act.put, List.setIfInBounds_toArray, List.set_cons_zero, List.set_cons_succ])
      refine wpAnyH_done (by kernel_rfl) ?_ _
      go_wp2
      go_ret
      have e1 : n + 1 = (l ++ [t]).length := by simp [HN.out]
      have e2 : qiL l ++ [.int .i64 t] = qiL (l ++ [t]) := by simp [qiL]
      have hr := HR40.out
      rw [e1, e2] at hr
      have hT := RQ.turn H.out HB40.out HI.out (l' := l ++ [t]) (by simp [HN.out]; omega) hr
      rw [← e1] at hT
      refine ⟨rfl, ?_, hT.2⟩
      rw [show ((W40.setCell ⟨B, i, none⟩ (.slice (some ⟨g40, 0, none⟩) (n + 1) cap40))).heap.size = W40.heap.size from by simp]
      exact hT.1

set_option maxHeartbeats 4000000 in
theorem rpop_any (Q B : Nat) (O : Nat → Prop) (L : List (List Int)) (i : Nat) (l : List Int) (x : Int) (l0 : List Int) (w : World) (h : RQ w Q B O L) (hi : L[i]? = some l) (hl : l.length + 1 ≤ 1000) (hx : l = x :: l0) :
    Calls Tryz.prog 23 #[qV Q, .int .i64 (i : Int)] w fun e w' => e = .returned (.int .i64 x) ∧ RQ w' Q B (fun b => O b ∨ (w.heap.size ≤ b ∧ b < w'.heap.size)) (L.set i l0) ∧ Keep (fun b => b = B) w w' := by
  obtain ⟨c, h1⟩ := h.own
  obtain ⟨ar, cr, cB, hcr, hrow⟩ := h.row hi
  have hQl := h1.lt
  have hBl := h.lt B h.mine.2
  have H := Lib.hid h
  have HI := Lib.hid hi
  have hil : i < L.length := (List.getElem?_eq_some_iff.1 hi).1
  have hf4 := h.few.1
  obtain ⟨ll, hll⟩ : ∃ ll, L.length = ll := ⟨_, rfl⟩
  rw [hll] at h1 hil hf4
  obtain ⟨n, hn⟩ : ∃ n, l.length = n := ⟨_, rfl⟩
  rw [hn] at hrow cB hcr hl
  have HN := Lib.hid hn
  have SK := Lib.hid (show ∀ V, Below w.heap.size w V → V.cell? ⟨Q, 0, none⟩ = some (.slice (some ⟨B, 0, none⟩) ll c) from fun V hV => (h1.below hV hQl).cell 0 _ rfl)
  have SB := Lib.hid hrow
  have HX := Lib.hid hx
  have hn1 : 1 ≤ n := by rw [← hn, hx]; simp
  have hQB : Q ≠ B := by
    obtain ⟨vs, b2, _, _⟩ := h.rows
    exact h1.apart b2 (by decide)
  have SKs := Lib.hid (show ∀ V v, Below w.heap.size w V → (V.setCell ⟨B, i, none⟩ v).cell? ⟨Q, 0, none⟩ = some (.slice (some ⟨B, 0, none⟩) ll c) from fun V v hV => ((h1.below hV hQl).far (C := B) hQB i v).cell 0 _ rfl)
  have hx1 := idx_qintss ll c B 0 i hil
  simp only [Nat.zero_add] at hx1
  obtain ⟨ti, hti, hz0, hz1, hz2⟩ := info_parts int_infoQ
  have bd := bdrewP w
  have HBD := Lib.hid bd
  obtain ⟨b0, o0, rfl, cx⟩ := (hrow w (Below.refl _ _)).2.2 0 (.int .i64 x) (by rw [hx]; rfl)
  simp only [Nat.add_zero] at cx
  have hnI : (0 : Int) < (n : Int) := by omega
  obtain ⟨a2, hsl, ha2⟩ := qslice_from b0 o0 n cr 1 1 rfl hn1 hcr
  have HA2 := Lib.hid ha2
  have hn0 : ((n : Int) == 0) = false := by rw [beq_eq_false_iff_ne]; omega
  have cQ := SK.out w (Below.refl _ _)
  clear h h1 hi hll hn hrow bd hx ha2
  go_enter Tryz.func23, Tryz.ntmps23
  go_upto_region 4 with fail
  refine wp_region_held_drew (S := (fun V : World => V.cell? ⟨Q, 0, none⟩ = some (.slice (some ⟨B, 0, none⟩) ll c))) (by kernel_rfl) (SK.out _ HBD.out) (fun hHeld => ?_)
  generalize w.drew = wD at *
  refine wpAnyH_take (i := 0) (oi := { dst := some 24, op := Op.move (Operand.tmp 0), type := 30, pos := "ref.go:31", after := #[], guard := none }) (v := ?_) rfl (by kernel_rfl) (by kernel_rfl) (by kernel_rfl) (fun _ _ _ h => h) (Or.inl ⟨by rfl, ?_⟩) (by assumption) ?_
  rotate_left
  · intro w hSw; (try dsimp only at hSw); go_simp; try with_reducible rfl
  (try simp only [Act.put, List.setIfInBounds_toArray, List.set_cons_zero, List.set_cons_succ])
  refine wpAnyH_take (i := 1) (oi := { dst := some 25, op := Op.nilCheck (Operand.tmp 24), type := 0, pos := "ref.go:31", after := #[{ on := 0, ground := Ground.data }], guard := none }) (v := ?_) rfl (by kernel_rfl) (by kernel_rfl) (by kernel_rfl) (fun _ _ _ h => h) (Or.inl ⟨by rfl, ?_⟩) (by assumption) ?_
  rotate_left
  · intro w hSw; (try dsimp only at hSw); go_simp; try with_reducible rfl
  (try simp only [Act.put, List.setIfInBounds_toArray, List.set_cons_zero, List.set_cons_succ])
  refine wpAnyH_take (i := 2) (oi := { dst := some 26, op := Op.fieldAddr 33 (Operand.tmp 25) 0, type := 0, pos := "ref.go:31", after := #[{ on := 1, ground := Ground.data }], guard := none }) (v := ?_) rfl (by kernel_rfl) (by kernel_rfl) (by kernel_rfl) (fun _ _ _ h => h) (Or.inl ⟨by rfl, ?_⟩) (by assumption) ?_
  rotate_left
  · intro w hSw; (try dsimp only at hSw); go_simp; try with_reducible rfl
  (try simp only [Act.put, List.setIfInBounds_toArray, List.set_cons_zero, List.set_cons_succ])
  refine wpAnyH_take (i := 3) (oi := { dst := some 27, op := Op.load 31 (Operand.tmp 26), type := 31, pos := "ref.go:31", after := #[{ on := 2, ground := Ground.data }], guard := none }) (v := ?_) rfl (by kernel_rfl) (by kernel_rfl) (by kernel_rfl) (fun _ _ _ h => h) (Or.inl ⟨by rfl, ?_⟩) (by assumption) ?_
  rotate_left
  · intro w hSw; (try dsimp only at hSw); go_simp; try with_reducible rfl
  (try simp only [Act.put, List.setIfInBounds_toArray, List.set_cons_zero, List.set_cons_succ])
  refine wpAnyH_take (i := 4) (oi := { dst := some 28, op := Op.move (Operand.tmp 1), type := 3, pos := "ref.go:31", after := #[], guard := none }) (v := ?_) rfl (by kernel_rfl) (by kernel_rfl) (by kernel_rfl) (fun _ _ _ h => h) (Or.inl ⟨by rfl, ?_⟩) (by assumption) ?_
  rotate_left
  · intro w hSw; (try dsimp only at hSw); go_simp; try with_reducible rfl
  (try simp only [Act.put, List.setIfInBounds_toArray, List.set_cons_zero, List.set_cons_succ])
  refine wpAnyH_take (i := 6) (oi := { dst := some 30, op := Op.move (Operand.tmp 0), type := 30, pos := "ref.go:31", after := #[], guard := none }) (v := ?_) rfl (by kernel_rfl) (by kernel_rfl) (by kernel_rfl) (fun _ _ _ h => h) (Or.inl ⟨by rfl, ?_⟩) (by assumption) ?_
  rotate_left
  · intro w hSw; (try dsimp only at hSw); go_simp; try with_reducible rfl
  (try simp only [Act.put, List.setIfInBounds_toArray, List.set_cons_zero, List.set_cons_succ])
  refine wpAnyH_take (i := 7) (oi := { dst := some 31, op := Op.nilCheck (Operand.tmp 30), type := 0, pos := "ref.go:31", after := #[{ on := 6, ground := Ground.data }], guard := none }) (v := ?_) rfl (by kernel_rfl) (by kernel_rfl) (by kernel_rfl) (fun _ _ _ h => h) (Or.inl ⟨by rfl, ?_⟩) (by assumption) ?_
  rotate_left
  · intro w hSw; (try dsimp only at hSw); go_simp; try with_reducible rfl
  (try simp only [Act.put, List.setIfInBounds_toArray, List.set_cons_zero, List.set_cons_succ])
  refine wpAnyH_take (i := 8) (oi := { dst := some 32, op := Op.fieldAddr 33 (Operand.tmp 31) 0, type := 0, pos := "ref.go:31", after := #[{ on := 7, ground := Ground.data }], guard := none }) (v := ?_) rfl (by kernel_rfl) (by kernel_rfl) (by kernel_rfl) (fun _ _ _ h => h) (Or.inl ⟨by rfl, ?_⟩) (by assumption) ?_
  rotate_left
  · intro w hSw; (try dsimp only at hSw); go_simp; try with_reducible rfl
  (try simp only [Act.put, List.setIfInBounds_toArray, List.set_cons_zero, List.set_cons_succ])
  refine wpAnyH_take (i := 9) (oi := { dst := some 33, op := Op.load 31 (Operand.tmp 32), type := 31, pos := "ref.go:31", after := #[{ on := 8, ground := Ground.data }], guard := none }) (v := ?_) rfl (by kernel_rfl) (by kernel_rfl) (by kernel_rfl) (fun _ _ _ h => h) (Or.inl ⟨by rfl, ?_⟩) (by assumption) ?_
  rotate_left
  · intro w hSw; (try dsimp only at hSw); go_simp; try with_reducible rfl
  (try simp only [Act.put, List.setIfInBounds_toArray, List.set_cons_zero, List.set_cons_succ])
  refine wpAnyH_take (i := 10) (oi := { dst := some 34, op := Op.move (Operand.tmp 1), type := 3, pos := "ref.go:31", after := #[], guard := none }) (v := ?_) rfl (by kernel_rfl) (by kernel_rfl) (by kernel_rfl) (fun _ _ _ h => h) (Or.inl ⟨by rfl, ?_⟩) (by assumption) ?_
  rotate_left
  · intro w hSw; (try dsimp only at hSw); go_simp; try with_reducible rfl
  (try simp only [Act.put, List.setIfInBounds_toArray, List.set_cons_zero, List.set_cons_succ])
  refine wpAnyH_take (i := 11) (oi := { dst := some 35, op := Op.indexAddr 31 (Operand.tmp 33) (Operand.tmp 34), type := 0, pos := "ref.go:31", after := #[{ on := 9, ground := Ground.data }, { on := 10, ground := Ground.data }], guard := none }) (v := ?_) rfl (by kernel_rfl) (by kernel_rfl) (by kernel_rfl) (fun _ _ _ h => h) (Or.inl ⟨by rfl, ?_⟩) (by assumption) ?_
  rotate_left
  · intro w hSw; (try dsimp only at hSw); go_simp; try with_reducible rfl
  (try simp only [Act.put, List.setIfInBounds_toArray, List.set_cons_zero, List.set_cons_succ])
  refine wpAnyH_ready (rs := [5, 12]) (by kernel_rfl) (by simp) ?_
  refine AllReadyH.cons rfl (fun K hK => ?_) (AllReadyH.cons rfl (fun K hK => ?_) (AllReadyH.nil))
  · go_simp
    go_wp2_with fail
    refine hK.out _ _ (SK.out _ (HBD.out.alloc HBD.out.size _)) (fun hHeld => ?_)
    have HB1 := Lib.hid (HBD.out.alloc HBD.out.size (.cells #[] 3))
    have HR1 := Lib.hid (qown_zero wD w.heap.size HBD.out.size)
    generalize wD.heap.size = g1 at *
    generalize wD.alloc (.cells #[] 3) = W1 at *
    clear hK K
    (try dsimp only [Act.put]); (try simp only [Act.put, List.setIfInBounds_toArray, List.set_cons_zero, List.set_cons_succ])
    refine wpAnyH_ready (rs := [12]) (by kernel_rfl) (by simp) ?_
    refine AllReadyH.cons rfl (fun K hK => ?_) (AllReadyH.nil)
    have cB := (SB.out W1 HB1.out).1
    go_simp
    go_wp2_with fail
    refine hK.out _ _ (SK.out _ HB1.out) (fun hHeld => ?_)
    clear cB
    clear hK K
    (try dsimp only [Act.put]); (try simp only [Act.put, List.setIfInBounds_toArray, List.set_cons_zero, List.set_cons_succ])
    refine wpAnyH_take (i := 13) (oi := { dst := some 37, op := Op.slice 37 (Operand.tmp 36) (some (Operand.const (Value.int IntKind.i64 1))) none none, type := 37, pos := "ref.go:31", after := #[{ on := 12, ground := Ground.data }], guard := none }) (v := ?_) rfl (by kernel_rfl) (by kernel_rfl) (by kernel_rfl) (fun _ _ _ h => h) (Or.inl ⟨by rfl, ?_⟩) (by assumption) ?_
    rotate_left
    · intro w hSw; (try dsimp only at hSw); go_simp; try with_reducible rfl
    (try simp only [Act.put, List.setIfInBounds_toArray, List.set_cons_zero, List.set_cons_succ])
    refine wpAnyH_ready (rs := [14]) (by kernel_rfl) (by simp) ?_
    refine AllReadyH.cons rfl (fun K hK => ?_) (AllReadyH.nil)
    rw [if_pos (by kernel_rfl)]
    refine wp_append_own4 (o := { dst := some 38, op := Op.call { callee := Callee.builtin Builtin.append, args := #[Operand.tmp 29, Operand.tmp 37], argTypes := #[37, 37] }, type := 37, pos := "ref.go:31", after := #[{ on := 5, ground := Ground.data }, { on := 13, ground := Ground.data }], guard := none }) _ _ _ _ rfl w.heap.size 3 ti (.int .i64 0) 1 8 Tryz.underlying37 hti hz0 hz1 hz2 rfl (by decide) g1 (0) 0 ([]) rfl HR1.out a2 ((n - 1)) (cr - 1) (qiL (l.drop 1)) rfl (by have := HN.out; simp; omega) (qtail (SB.out W1 HB1.out).2.2 HN.out HA2.out) qiL_one (by unfold maxLen; omega) (by omega) HB1.out.size ?_
    intro g3 cap3 W3 hr3 k3 hg3
    have HB3 := Lib.hid (HB1.out.trans (k3.below HB1.out.size fun b _ e => by rw [e]; exact qown_lo HR1.out))
    rw [Nat.zero_add, List.nil_append] at hr3
    have HR3 := Lib.hid hr3
    clear hr3 k3 hg3
    refine hK.out _ _ (SK.out _ HB3.out) (fun hHeld => ?_)
    try simp only [Nat.zero_add]
    clear hK K
    (try dsimp only [Act.put]); (try simp only [Act.put, List.setIfInBounds_toArray, List.set_cons_zero, List.set_cons_succ])
    refine wpAnyH_take (i := 15) (oi := { dst := some 39, op := Op.indexAddr 31 (Operand.tmp 27) (Operand.tmp 28), type := 0, pos := "ref.go:31", after := #[{ on := 3, ground := Ground.data }, { on := 4, ground := Ground.data }, { on := 0, ground := Ground.phase }, { on := 1, ground := Ground.phase }, { on := 2, ground := Ground.phase }, { on := 3, ground := Ground.phase }, { on := 4, ground := Ground.phase }, { on := 5, ground := Ground.phase }, { on := 6, ground := Ground.phase }, { on := 7, ground := Ground.phase }, { on := 8, ground := Ground.phase }, { on := 9, ground := Ground.phase }, { on := 10, ground := Ground.phase }, { on := 11, ground := Ground.phase }, { on := 12, ground := Ground.phase }, { on := 13, ground := Ground.phase }, { on := 14, ground := Ground.phase }], guard := none }) (v := ?_) rfl (by kernel_rfl) (by kernel_rfl) (by kernel_rfl) (fun _ _ _ h => h) (Or.inl ⟨by rfl, ?_⟩) (by assumption) ?_
    rotate_left
    · intro w hSw; (try dsimp only at hSw); go_simp; try with_reducible rfl
    (try simp only [Act.put, List.setIfInBounds_toArray, List.set_cons_zero, List.set_cons_succ])
    refine wpAnyH_ready (rs := [16]) (by kernel_rfl) (by simp) ?_
    refine AllReadyH.cons rfl (fun K hK => ?_) (AllReadyH.nil)
    have cB := (SB.out W3 HB3.out).1
    have fB := (SB.out W3 HB3.out).2.1
    go_simp
    go_wp2_with fail
    refine hK.out _ _ (SKs.out _ _ HB3.out) (fun hHeld => ?_)
    clear cB fB
    clear hK K
    (try dsimp only [Act.put]); (try simp only [Act.put, List.setIfInBounds_toArray, List.set_cons_zero, List.set_cons_succ])
    refine wpAnyH_done (by kernel_rfl) ?_ _
    go_wp2
    go_ret
    have hr := HR3.out
    have e1 : n - 1 = l0.length := by have := HN.out; rw [HX.out] at this; simp at this; omega
    have e2 : qiL (l.drop 1) = qiL l0 := by rw [HX.out]; rfl
    rw [e1, e2] at hr
    have hT := RQ.turn H.out HB3.out HI.out (l' := l0) (by omega) hr
    rw [← e1] at hT
    refine ⟨rfl, ?_, hT.2⟩
    rw [show ((W3.setCell ⟨B, i, none⟩ (.slice (some ⟨g3, 0, none⟩) ((n - 1)) cap3))).heap.size = W3.heap.size from by simp]
    exact hT.1
  · have cB := (SB.out wD HBD.out).1
    go_simp
    go_wp2_with fail
    refine hK.out _ _ (SK.out _ HBD.out) (fun hHeld => ?_)
    clear cB
    clear hK K
    (try dsimp only [Act.put]); (try simp only [Act.put, List.setIfInBounds_toArray, List.set_cons_zero, List.set_cons_succ])
    refine wpAnyH_take (i := 13) (oi := { dst := some 37, op := Op.slice 37 (Operand.tmp 36) (some (Operand.const (Value.int IntKind.i64 1))) none none, type := 37, pos := "ref.go:31", after := #[{ on := 12, ground := Ground.data }], guard := none }) (v := ?_) rfl (by kernel_rfl) (by kernel_rfl) (by kernel_rfl) (fun _ _ _ h => h) (Or.inl ⟨by rfl, ?_⟩) (by assumption) ?_
    rotate_left
    · intro w hSw; (try dsimp only at hSw); go_simp; try with_reducible rfl
    (try simp only [Act.put, List.setIfInBounds_toArray, List.set_cons_zero, List.set_cons_succ])
    refine wpAnyH_ready (rs := [5]) (by kernel_rfl) (by simp) ?_
    refine AllReadyH.cons rfl (fun K hK => ?_) (AllReadyH.nil)
    go_simp
    go_wp2_with fail
    refine hK.out _ _ (SK.out _ (HBD.out.alloc HBD.out.size _)) (fun hHeld => ?_)
    have HB6 := Lib.hid (HBD.out.alloc HBD.out.size (.cells #[] 3))
    have HR6 := Lib.hid (qown_zero wD w.heap.size HBD.out.size)
    generalize wD.heap.size = g6 at *
    generalize wD.alloc (.cells #[] 3) = W6 at *
    clear hK K
    (try dsimp only [Act.put]); (try simp only [Act.put, List.setIfInBounds_toArray, List.set_cons_zero, List.set_cons_succ])
    refine wpAnyH_ready (rs := [14]) (by kernel_rfl) (by simp) ?_
    refine AllReadyH.cons rfl (fun K hK => ?_) (AllReadyH.nil)
    rw [if_pos (by kernel_rfl)]
    refine wp_append_own4 (o := { dst := some 38, op := Op.call { callee := Callee.builtin Builtin.append, args := #[Operand.tmp 29, Operand.tmp 37], argTypes := #[37, 37] }, type := 37, pos := "ref.go:31", after := #[{ on := 5, ground := Ground.data }, { on := 13, ground := Ground.data }], guard := none }) _ _ _ _ rfl w.heap.size 3 ti (.int .i64 0) 1 8 Tryz.underlying37 hti hz0 hz1 hz2 rfl (by decide) g6 (0) 0 ([]) rfl HR6.out a2 ((n - 1)) (cr - 1) (qiL (l.drop 1)) rfl (by have := HN.out; simp; omega) (qtail (SB.out W6 HB6.out).2.2 HN.out HA2.out) qiL_one (by unfold maxLen; omega) (by omega) HB6.out.size ?_
    intro g7 cap7 W7 hr7 k7 hg7
    have HB7 := Lib.hid (HB6.out.trans (k7.below HB6.out.size fun b _ e => by rw [e]; exact qown_lo HR6.out))
    rw [Nat.zero_add, List.nil_append] at hr7
    have HR7 := Lib.hid hr7
    clear hr7 k7 hg7
    refine hK.out _ _ (SK.out _ HB7.out) (fun hHeld => ?_)
    try simp only [Nat.zero_add]
    clear hK K
    (try dsimp only [Act.put]); (try simp only [Act.put, List.setIfInBounds_toArray, List.set_cons_zero, List.set_cons_succ])
    refine wpAnyH_take (i := 15) (oi := { dst := some 39, op := Op.indexAddr 31 (Operand.tmp 27) (Operand.tmp 28), type := 0, pos := "ref.go:31", after := #[{ on := 3, ground := Ground.data }, { on := 4, ground := Ground.data }, { on := 0, ground := Ground.phase }, { on := 1, ground := Ground.phase }, { on := 2, ground := Ground.phase }, { on := 3, ground := Ground.phase }, { on := 4, ground := Ground.phase }, { on := 5, ground := Ground.phase }, { on := 6, ground := Ground.phase }, { on := 7, ground := Ground.phase }, { on := 8, ground := Ground.phase }, { on := 9, ground := Ground.phase }, { on := 10, ground := Ground.phase }, { on := 11, ground := Ground.phase }, { on := 12, ground := Ground.phase }, { on := 13, ground := Ground.phase }, { on := 14, ground := Ground.phase }], guard := none }) (v := ?_) rfl (by kernel_rfl) (by kernel_rfl) (by kernel_rfl) (fun _ _ _ h => h) (Or.inl ⟨by rfl, ?_⟩) (by assumption) ?_
    rotate_left
    · intro w hSw; (try dsimp only at hSw); go_simp; try with_reducible rfl
    (try simp only [Act.put, List.setIfInBounds_toArray, List.set_cons_zero, List.set_cons_succ])
    refine wpAnyH_ready (rs := [16]) (by kernel_rfl) (by simp) ?_
    refine AllReadyH.cons rfl (fun K hK => ?_) (AllReadyH.nil)
    have cB := (SB.out W7 HB7.out).1
    have fB := (SB.out W7 HB7.out).2.1
    go_simp
    go_wp2_with fail
    refine hK.out _ _ (SKs.out _ _ HB7.out) (fun hHeld => ?_)
    clear cB fB
    clear hK K
    (try dsimp only [Act.put]); (try simp only [Act.put, List.setIfInBounds_toArray, List.set_cons_zero, List.set_cons_succ])
    refine wpAnyH_done (by kernel_rfl) ?_ _
    go_wp2
    go_ret
    have hr := HR7.out
    have e1 : n - 1 = l0.length := by have := HN.out; rw [HX.out] at this; simp at this; omega
    have e2 : qiL (l.drop 1) = qiL l0 := by rw [HX.out]; rfl
    rw [e1, e2] at hr
    have hT := RQ.turn H.out HB7.out HI.out (l' := l0) (by omega) hr
    rw [← e1] at hT
    refine ⟨rfl, ?_, hT.2⟩
    rw [show ((W7.setCell ⟨B, i, none⟩ (.slice (some ⟨g7, 0, none⟩) ((n - 1)) cap7))).heap.size = W7.heap.size from by simp]
    exact hT.1

set_option maxHeartbeats 4000000 in
theorem rrem_any (Q B : Nat) (O : Nat → Prop) (L : List (List Int)) (i : Nat) (l : List Int) (t : Int) (w : World) (h : RQ w Q B O L) (hi : L[i]? = some l) (hl : l.length ≤ 1000) :
    Calls Tryz.prog 25 #[qV Q, .int .i64 (i : Int), .int .i64 t] w fun e w' => (e = .returned (.int .i64 1) ∧ ∃ k, l[k]? = some t ∧ (∀ y ∈ l.take k, y ≠ t) ∧ RQ w' Q B (fun b => O b ∨ (w.heap.size ≤ b ∧ b < w'.heap.size)) (L.set i (l.take k ++ l.drop (k + 1))) ∧ Keep (fun b => b = B) w w') ∨ (e = .returned (.int .i64 0) ∧ t ∉ l ∧ w' = w) := by
  obtain ⟨c, h1⟩ := h.own
  obtain ⟨ar, cr, cB, hcr, hrow⟩ := h.row hi
  have hQl := h1.lt
  have hBl := h.lt B h.mine.2
  have H := Lib.hid h
  have HI := Lib.hid hi
  have hil : i < L.length := (List.getElem?_eq_some_iff.1 hi).1
  have hf4 := h.few.1
  obtain ⟨ll, hll⟩ : ∃ ll, L.length = ll := ⟨_, rfl⟩
  rw [hll] at h1 hil hf4
  obtain ⟨n, hn⟩ : ∃ n, l.length = n := ⟨_, rfl⟩
  rw [hn] at hrow cB hcr hl
  have HN := Lib.hid hn
  have SK := Lib.hid (show ∀ V, Below w.heap.size w V → V.cell? ⟨Q, 0, none⟩ = some (.slice (some ⟨B, 0, none⟩) ll c) from fun V hV => (h1.below hV hQl).cell 0 _ rfl)
  have SB := Lib.hid hrow
  have hQB : Q ≠ B := by
    obtain ⟨vs, b2, _, _⟩ := h.rows
    exact h1.apart b2 (by decide)
  have SKs := Lib.hid (show ∀ V v, Below w.heap.size w V → (V.setCell ⟨B, i, none⟩ v).cell? ⟨Q, 0, none⟩ = some (.slice (some ⟨B, 0, none⟩) ll c) from fun V v hV => ((h1.below hV hQl).far (C := B) hQB i v).cell 0 _ rfl)
  have hx1 := idx_qintss ll c B 0 i hil
  simp only [Nat.zero_add] at hx1
  obtain ⟨ti, hti, hz0, hz1, hz2⟩ := info_parts int_infoQ
  have bd := bdrewP w
  have HBD := Lib.hid bd
  have cQ := SK.out w (Below.refl _ _)
  clear h h1 hi hll hn hrow bd
  go_enter Tryz.func25, Tryz.ntmps25
  go_wp2_with fail
  go_loopw [7] (fun v7 wr => ∃ k : Nat, k ≤ n ∧ v7 = .int .i64 (k : Int) ∧ Hid (∀ y ∈ l.take k, y ≠ t) ∧ wr = w) (fun v7 _ => n - (intOf v7).toNat)
  case atStart => exact ⟨0, by omega, rfl, Lib.hid (by simp), rfl⟩
  case round =>
    obtain ⟨k, hk, rfl, hnk, rfl⟩ := hrel
    by_cases hkn : k < n
    · have hkI : (k : Int) < (n : Int) := by omega
      obtain ⟨x, hx⟩ : ∃ x, l[k]? = some x := ⟨_, List.getElem?_eq_getElem (by rw [HN.out]; exact hkn)⟩
      obtain ⟨b0, o0, rfl, cx⟩ := (SB.out wr (Below.refl _ _)).2.2 k (.int .i64 x) (by rw [List.getElem?_map, hx]; rfl)
      have hx2 := idx_qints n cr b0 o0 k hkn
      have HX := Lib.hid hx
      clear hx
      by_cases hxt : x = t
      · subst hxt
        obtain ⟨a2, hsl2, ha2⟩ := qslice_from b0 o0 n cr (k + 1) (IntKind.i64.wrap ((k : Int) + 1)) (IntWalk.i64_in ((k : Int) + 1) ⟨by omega, by omega⟩) (by omega) hcr
        have hsl1 := qslice_to b0 o0 n cr k (by omega) hcr
        have HA2 := Lib.hid ha2
        clear ha2
        go_upto_region 5 with fail
        refine wp_region_held_drew (S := (fun V : World => V.cell? ⟨Q, 0, none⟩ = some (.slice (some ⟨B, 0, none⟩) ll c))) (by kernel_rfl) (SK.out _ HBD.out) (fun hHeld => ?_)
        generalize wr.drew = wD at *
        refine wpAnyH_take (i := 0) (oi := { dst := some 32, op := Op.move (Operand.tmp 0), type := 30, pos := "ref.go:39", after := #[], guard := none }) (v := ?_) rfl (by kernel_rfl) (by kernel_rfl) (by kernel_rfl) (fun _ _ _ h => h) (Or.inl ⟨by rfl, ?_⟩) (by assumption) ?_
        rotate_left
        · intro w hSw; (try dsimp only at hSw); go_simp; try with_reducible rfl
        (try simp only [Act.put, List.setIfInBounds_toArray, List.set_cons_zero, List.set_cons_succ])
        refine wpAnyH_take (i := 1) (oi := { dst := some 33, op := Op.nilCheck (Operand.tmp 32), type := 0, pos := "ref.go:39", after := #[{ on := 0, ground := Ground.data }], guard := none }) (v := ?_) rfl (by kernel_rfl) (by kernel_rfl) (by kernel_rfl) (fun _ _ _ h => h) (Or.inl ⟨by rfl, ?_⟩) (by assumption) ?_
        rotate_left
        · intro w hSw; (try dsimp only at hSw); go_simp; try with_reducible rfl
        (try simp only [Act.put, List.setIfInBounds_toArray, List.set_cons_zero, List.set_cons_succ])
        refine wpAnyH_take (i := 2) (oi := { dst := some 34, op := Op.fieldAddr 33 (Operand.tmp 33) 0, type := 0, pos := "ref.go:39", after := #[{ on := 1, ground := Ground.data }], guard := none }) (v := ?_) rfl (by kernel_rfl) (by kernel_rfl) (by kernel_rfl) (fun _ _ _ h => h) (Or.inl ⟨by rfl, ?_⟩) (by assumption) ?_
        rotate_left
        · intro w hSw; (try dsimp only at hSw); go_simp; try with_reducible rfl
        (try simp only [Act.put, List.setIfInBounds_toArray, List.set_cons_zero, List.set_cons_succ])
        refine wpAnyH_take (i := 3) (oi := { dst := some 35, op := Op.load 31 (Operand.tmp 34), type := 31, pos := "ref.go:39", after := #[{ on := 2, ground := Ground.data }], guard := none }) (v := ?_) rfl (by kernel_rfl) (by kernel_rfl) (by kernel_rfl) (fun _ _ _ h => h) (Or.inl ⟨by rfl, ?_⟩) (by assumption) ?_
        rotate_left
        · intro w hSw; (try dsimp only at hSw); go_simp; try with_reducible rfl
        (try simp only [Act.put, List.setIfInBounds_toArray, List.set_cons_zero, List.set_cons_succ])
        refine wpAnyH_take (i := 4) (oi := { dst := some 36, op := Op.move (Operand.tmp 1), type := 3, pos := "ref.go:39", after := #[], guard := none }) (v := ?_) rfl (by kernel_rfl) (by kernel_rfl) (by kernel_rfl) (fun _ _ _ h => h) (Or.inl ⟨by rfl, ?_⟩) (by assumption) ?_
        rotate_left
        · intro w hSw; (try dsimp only at hSw); go_simp; try with_reducible rfl
        (try simp only [Act.put, List.setIfInBounds_toArray, List.set_cons_zero, List.set_cons_succ])
        refine wpAnyH_take (i := 6) (oi := { dst := some 38, op := Op.move (Operand.tmp 0), type := 30, pos := "ref.go:39", after := #[], guard := none }) (v := ?_) rfl (by kernel_rfl) (by kernel_rfl) (by kernel_rfl) (fun _ _ _ h => h) (Or.inl ⟨by rfl, ?_⟩) (by assumption) ?_
        rotate_left
        · intro w hSw; (try dsimp only at hSw); go_simp; try with_reducible rfl
        (try simp only [Act.put, List.setIfInBounds_toArray, List.set_cons_zero, List.set_cons_succ])
        refine wpAnyH_take (i := 7) (oi := { dst := some 39, op := Op.nilCheck (Operand.tmp 38), type := 0, pos := "ref.go:39", after := #[{ on := 6, ground := Ground.data }], guard := none }) (v := ?_) rfl (by kernel_rfl) (by kernel_rfl) (by kernel_rfl) (fun _ _ _ h => h) (Or.inl ⟨by rfl, ?_⟩) (by assumption) ?_
        rotate_left
        · intro w hSw; (try dsimp only at hSw); go_simp; try with_reducible rfl
        (try simp only [Act.put, List.setIfInBounds_toArray, List.set_cons_zero, List.set_cons_succ])
        refine wpAnyH_take (i := 8) (oi := { dst := some 40, op := Op.fieldAddr 33 (Operand.tmp 39) 0, type := 0, pos := "ref.go:39", after := #[{ on := 7, ground := Ground.data }], guard := none }) (v := ?_) rfl (by kernel_rfl) (by kernel_rfl) (by kernel_rfl) (fun _ _ _ h => h) (Or.inl ⟨by rfl, ?_⟩) (by assumption) ?_
        rotate_left
        · intro w hSw; (try dsimp only at hSw); go_simp; try with_reducible rfl
        (try simp only [Act.put, List.setIfInBounds_toArray, List.set_cons_zero, List.set_cons_succ])
        refine wpAnyH_take (i := 9) (oi := { dst := some 41, op := Op.load 31 (Operand.tmp 40), type := 31, pos := "ref.go:39", after := #[{ on := 8, ground := Ground.data }], guard := none }) (v := ?_) rfl (by kernel_rfl) (by kernel_rfl) (by kernel_rfl) (fun _ _ _ h => h) (Or.inl ⟨by rfl, ?_⟩) (by assumption) ?_
        rotate_left
        · intro w hSw; (try dsimp only at hSw); go_simp; try with_reducible rfl
        (try simp only [Act.put, List.setIfInBounds_toArray, List.set_cons_zero, List.set_cons_succ])
        refine wpAnyH_take (i := 10) (oi := { dst := some 42, op := Op.move (Operand.tmp 1), type := 3, pos := "ref.go:39", after := #[], guard := none }) (v := ?_) rfl (by kernel_rfl) (by kernel_rfl) (by kernel_rfl) (fun _ _ _ h => h) (Or.inl ⟨by rfl, ?_⟩) (by assumption) ?_
        rotate_left
        · intro w hSw; (try dsimp only at hSw); go_simp; try with_reducible rfl
        (try simp only [Act.put, List.setIfInBounds_toArray, List.set_cons_zero, List.set_cons_succ])
        refine wpAnyH_take (i := 11) (oi := { dst := some 43, op := Op.indexAddr 31 (Operand.tmp 41) (Operand.tmp 42), type := 0, pos := "ref.go:39", after := #[{ on := 9, ground := Ground.data }, { on := 10, ground := Ground.data }], guard := none }) (v := ?_) rfl (by kernel_rfl) (by kernel_rfl) (by kernel_rfl) (fun _ _ _ h => h) (Or.inl ⟨by rfl, ?_⟩) (by assumption) ?_
        rotate_left
        · intro w hSw; (try dsimp only at hSw); go_simp; try with_reducible rfl
        (try simp only [Act.put, List.setIfInBounds_toArray, List.set_cons_zero, List.set_cons_succ])
        refine wpAnyH_take (i := 13) (oi := { dst := some 45, op := Op.move (Operand.tmp 7), type := 3, pos := "ref.go:39", after := #[], guard := none }) (v := ?_) rfl (by kernel_rfl) (by kernel_rfl) (by kernel_rfl) (fun _ _ _ h => h) (Or.inl ⟨by rfl, ?_⟩) (by assumption) ?_
        rotate_left
        · intro w hSw; (try dsimp only at hSw); go_simp; try with_reducible rfl
        (try simp only [Act.put, List.setIfInBounds_toArray, List.set_cons_zero, List.set_cons_succ])
        refine wpAnyH_take (i := 16) (oi := { dst := some 48, op := Op.move (Operand.tmp 0), type := 30, pos := "ref.go:39", after := #[], guard := none }) (v := ?_) rfl (by kernel_rfl) (by kernel_rfl) (by kernel_rfl) (fun _ _ _ h => h) (Or.inl ⟨by rfl, ?_⟩) (by assumption) ?_
        rotate_left
        · intro w hSw; (try dsimp only at hSw); go_simp; try with_reducible rfl
        (try simp only [Act.put, List.setIfInBounds_toArray, List.set_cons_zero, List.set_cons_succ])
        refine wpAnyH_take (i := 17) (oi := { dst := some 49, op := Op.nilCheck (Operand.tmp 48), type := 0, pos := "ref.go:39", after := #[{ on := 16, ground := Ground.data }], guard := none }) (v := ?_) rfl (by kernel_rfl) (by kernel_rfl) (by kernel_rfl) (fun _ _ _ h => h) (Or.inl ⟨by rfl, ?_⟩) (by assumption) ?_
        rotate_left
        · intro w hSw; (try dsimp only at hSw); go_simp; try with_reducible rfl
        (try simp only [Act.put, List.setIfInBounds_toArray, List.set_cons_zero, List.set_cons_succ])
        refine wpAnyH_take (i := 18) (oi := { dst := some 50, op := Op.fieldAddr 33 (Operand.tmp 49) 0, type := 0, pos := "ref.go:39", after := #[{ on := 17, ground := Ground.data }], guard := none }) (v := ?_) rfl (by kernel_rfl) (by kernel_rfl) (by kernel_rfl) (fun _ _ _ h => h) (Or.inl ⟨by rfl, ?_⟩) (by assumption) ?_
        rotate_left
        · intro w hSw; (try dsimp only at hSw); go_simp; try with_reducible rfl
        (try simp only [Act.put, List.setIfInBounds_toArray, List.set_cons_zero, List.set_cons_succ])
        refine wpAnyH_take (i := 19) (oi := { dst := some 51, op := Op.load 31 (Operand.tmp 50), type := 31, pos := "ref.go:39", after := #[{ on := 18, ground := Ground.data }], guard := none }) (v := ?_) rfl (by kernel_rfl) (by kernel_rfl) (by kernel_rfl) (fun _ _ _ h => h) (Or.inl ⟨by rfl, ?_⟩) (by assumption) ?_
        rotate_left
        · intro w hSw; (try dsimp only at hSw); go_simp; try with_reducible rfl
        (try simp only [Act.put, List.setIfInBounds_toArray, List.set_cons_zero, List.set_cons_succ])
        refine wpAnyH_take (i := 20) (oi := { dst := some 52, op := Op.move (Operand.tmp 1), type := 3, pos := "ref.go:39", after := #[], guard := none }) (v := ?_) rfl (by kernel_rfl) (by kernel_rfl) (by kernel_rfl) (fun _ _ _ h => h) (Or.inl ⟨by rfl, ?_⟩) (by assumption) ?_
        rotate_left
        · intro w hSw; (try dsimp only at hSw); go_simp; try with_reducible rfl
        (try simp only [Act.put, List.setIfInBounds_toArray, List.set_cons_zero, List.set_cons_succ])
        refine wpAnyH_take (i := 21) (oi := { dst := some 53, op := Op.indexAddr 31 (Operand.tmp 51) (Operand.tmp 52), type := 0, pos := "ref.go:39", after := #[{ on := 19, ground := Ground.data }, { on := 20, ground := Ground.data }], guard := none }) (v := ?_) rfl (by kernel_rfl) (by kernel_rfl) (by kernel_rfl) (fun _ _ _ h => h) (Or.inl ⟨by rfl, ?_⟩) (by assumption) ?_
        rotate_left
        · intro w hSw; (try dsimp only at hSw); go_simp; try with_reducible rfl
        (try simp only [Act.put, List.setIfInBounds_toArray, List.set_cons_zero, List.set_cons_succ])
        refine wpAnyH_take (i := 23) (oi := { dst := some 55, op := Op.move (Operand.tmp 7), type := 3, pos := "ref.go:39", after := #[], guard := none }) (v := ?_) rfl (by kernel_rfl) (by kernel_rfl) (by kernel_rfl) (fun _ _ _ h => h) (Or.inl ⟨by rfl, ?_⟩) (by assumption) ?_
        rotate_left
        · intro w hSw; (try dsimp only at hSw); go_simp; try with_reducible rfl
        (try simp only [Act.put, List.setIfInBounds_toArray, List.set_cons_zero, List.set_cons_succ])
        refine wpAnyH_take (i := 24) (oi := { dst := some 56, op := Op.binOp BinOp.add 3 (Operand.tmp 55) (Operand.const (Value.int IntKind.i64 1)) 3, type := 3, pos := "ref.go:39", after := #[{ on := 23, ground := Ground.data }], guard := none }) (v := ?_) rfl (by kernel_rfl) (by kernel_rfl) (by kernel_rfl) (fun _ _ _ h => h) (Or.inl ⟨by rfl, ?_⟩) (by assumption) ?_
        rotate_left
        · intro w hSw; (try dsimp only at hSw); go_simp; try with_reducible rfl
        (try simp only [Act.put, List.setIfInBounds_toArray, List.set_cons_zero, List.set_cons_succ])
        refine wpAnyH_ready (rs := [5, 12, 22]) (by kernel_rfl) (by simp) ?_
        refine AllReadyH.cons rfl (fun K hK => ?_) (AllReadyH.cons rfl (fun K hK => ?_) (AllReadyH.cons rfl (fun K hK => ?_) (AllReadyH.nil)))
        · go_simp
          go_wp2_with fail
          refine hK.out _ _ (SK.out _ (HBD.out.alloc HBD.out.size _)) (fun hHeld => ?_)
          have HB1 := Lib.hid (HBD.out.alloc HBD.out.size (.cells #[] 3))
          have HR1 := Lib.hid (qown_zero wD wr.heap.size HBD.out.size)
          generalize wD.heap.size = g1 at *
          generalize wD.alloc (.cells #[] 3) = W1 at *
          clear hK K
          (try dsimp only [Act.put]); (try simp only [Act.put, List.setIfInBounds_toArray, List.set_cons_zero, List.set_cons_succ])
          refine wpAnyH_ready (rs := [12, 22]) (by kernel_rfl) (by simp) ?_
          refine AllReadyH.cons rfl (fun K hK => ?_) (AllReadyH.cons rfl (fun K hK => ?_) (AllReadyH.nil))
          · have cB := (SB.out W1 HB1.out).1
            go_simp
            go_wp2_with fail
            refine hK.out _ _ (SK.out _ HB1.out) (fun hHeld => ?_)
            clear cB
            clear hK K
            (try dsimp only [Act.put]); (try simp only [Act.put, List.setIfInBounds_toArray, List.set_cons_zero, List.set_cons_succ])
            refine wpAnyH_take (i := 14) (oi := { dst := some 46, op := Op.slice 37 (Operand.tmp 44) none (some (Operand.tmp 45)) none, type := 37, pos := "ref.go:39", after := #[{ on := 12, ground := Ground.data }, { on := 13, ground := Ground.data }], guard := none }) (v := ?_) rfl (by kernel_rfl) (by kernel_rfl) (by kernel_rfl) (fun _ _ _ h => h) (Or.inl ⟨by rfl, ?_⟩) (by assumption) ?_
            rotate_left
            · intro w hSw; (try dsimp only at hSw); go_simp; try with_reducible rfl
            (try simp only [Act.put, List.setIfInBounds_toArray, List.set_cons_zero, List.set_cons_succ])
            refine wpAnyH_ready (rs := [15, 22]) (by kernel_rfl) (by simp) ?_
            refine AllReadyH.cons rfl (fun K hK => ?_) (AllReadyH.cons rfl (fun K hK => ?_) (AllReadyH.nil))
            · rw [if_pos (by kernel_rfl)]
              refine wp_append_own4 (o := { dst := some 47, op := Op.call { callee := Callee.builtin Builtin.append, args := #[Operand.tmp 37, Operand.tmp 46], argTypes := #[37, 37] }, type := 37, pos := "ref.go:39", after := #[{ on := 5, ground := Ground.data }, { on := 14, ground := Ground.data }], guard := none }) _ _ _ _ rfl wr.heap.size 3 ti (.int .i64 0) 1 8 Tryz.underlying37 hti hz0 hz1 hz2 rfl (by decide) g1 (0) 0 ([]) rfl HR1.out (some ⟨b0, o0, none⟩) (k) cr (qiL (l.take k)) rfl (by have := HN.out; simp; omega) (qhead (SB.out W1 HB1.out).2.2) qiL_one (by unfold maxLen; omega) (by omega) HB1.out.size ?_
              intro g3 cap3 W3 hr3 k3 hg3
              have HB3 := Lib.hid (HB1.out.trans (k3.below HB1.out.size fun b _ e => by rw [e]; exact qown_lo HR1.out))
              rw [Nat.zero_add, List.nil_append] at hr3
              have HR3 := Lib.hid hr3
              clear hr3 k3 hg3
              refine hK.out _ _ (SK.out _ HB3.out) (fun hHeld => ?_)
              try simp only [Nat.zero_add]
              clear hK K
              (try dsimp only [Act.put]); (try simp only [Act.put, List.setIfInBounds_toArray, List.set_cons_zero, List.set_cons_succ])
              refine wpAnyH_ready (rs := [22]) (by kernel_rfl) (by simp) ?_
              refine AllReadyH.cons rfl (fun K hK => ?_) (AllReadyH.nil)
              have cB := (SB.out W3 HB3.out).1
              go_simp
              go_wp2_with fail
              refine hK.out _ _ (SK.out _ HB3.out) (fun hHeld => ?_)
              clear cB
              clear hK K
              (try dsimp only [Act.put]); (try simp only [Act.put, List.setIfInBounds_toArray, List.set_cons_zero, List.set_cons_succ])
              refine wpAnyH_take (i := 25) (oi := { dst := some 57, op := Op.slice 37 (Operand.tmp 54) (some (Operand.tmp 56)) none none, type := 37, pos := "ref.go:39", after := #[{ on := 22, ground := Ground.data }, { on := 24, ground := Ground.data }], guard := none }) (v := ?_) rfl (by kernel_rfl) (by kernel_rfl) (by kernel_rfl) (fun _ _ _ h => h) (Or.inl ⟨by rfl, ?_⟩) (by assumption) ?_
              rotate_left
              · intro w hSw; (try dsimp only at hSw); go_simp; try with_reducible rfl
              (try simp only [Act.put, List.setIfInBounds_toArray, List.set_cons_zero, List.set_cons_succ])
              refine wpAnyH_ready (rs := [26]) (by kernel_rfl) (by simp) ?_
              refine AllReadyH.cons rfl (fun K hK => ?_) (AllReadyH.nil)
              rw [if_pos (by kernel_rfl)]
              refine wp_append_own4 (o := { dst := some 58, op := Op.call { callee := Callee.builtin Builtin.append, args := #[Operand.tmp 47, Operand.tmp 57], argTypes := #[37, 37] }, type := 37, pos := "ref.go:39", after := #[{ on := 15, ground := Ground.data }, { on := 25, ground := Ground.data }, { on := 15, ground := Ground.chain }], guard := none }) _ _ _ _ rfl wr.heap.size 3 ti (.int .i64 0) 1 8 Tryz.underlying37 hti hz0 hz1 hz2 rfl (by decide) g3 (k) cap3 (qiL (l.take k)) rfl HR3.out a2 ((n - (k + 1))) (cr - (k + 1)) (qiL (l.drop (k + 1))) rfl (by have := HN.out; simp; omega) (qtail (SB.out W3 HB3.out).2.2 HN.out HA2.out) qiL_one (by unfold maxLen; omega) (by omega) HB3.out.size ?_
              intro g5 cap5 W5 hr5 k5 hg5
              have HB5 := Lib.hid (HB3.out.trans (k5.below HB3.out.size fun b _ e => by rw [e]; exact qown_lo HR3.out))
              have HR5 := Lib.hid hr5
              clear hr5 k5 hg5
              refine hK.out _ _ (SK.out _ HB5.out) (fun hHeld => ?_)
              clear hK K
              (try dsimp only [Act.put]); (try simp only [Act.put, List.setIfInBounds_toArray, List.set_cons_zero, List.set_cons_succ])
              refine wpAnyH_take (i := 27) (oi := { dst := some 59, op := Op.indexAddr 31 (Operand.tmp 35) (Operand.tmp 36), type := 0, pos := "ref.go:39", after := #[{ on := 3, ground := Ground.data }, { on := 4, ground := Ground.data }, { on := 0, ground := Ground.phase }, { on := 1, ground := Ground.phase }, { on := 2, ground := Ground.phase }, { on := 3, ground := Ground.phase }, { on := 4, ground := Ground.phase }, { on := 5, ground := Ground.phase }, { on := 6, ground := Ground.phase }, { on := 7, ground := Ground.phase }, { on := 8, ground := Ground.phase }, { on := 9, ground := Ground.phase }, { on := 10, ground := Ground.phase }, { on := 11, ground := Ground.phase }, { on := 12, ground := Ground.phase }, { on := 13, ground := Ground.phase }, { on := 14, ground := Ground.phase }, { on := 15, ground := Ground.phase }, { on := 16, ground := Ground.phase }, { on := 17, ground := Ground.phase }, { on := 18, ground := Ground.phase }, { on := 19, ground := Ground.phase }, { on := 20, ground := Ground.phase }, { on := 21, ground := Ground.phase }, { on := 22, ground := Ground.phase }, { on := 23, ground := Ground.phase }, { on := 24, ground := Ground.phase }, { on := 25, ground := Ground.phase }, { on := 26, ground := Ground.phase }], guard := none }) (v := ?_) rfl (by kernel_rfl) (by kernel_rfl) (by kernel_rfl) (fun _ _ _ h => h) (Or.inl ⟨by rfl, ?_⟩) (by assumption) ?_
              rotate_left
              · intro w hSw; (try dsimp only at hSw); go_simp; try with_reducible rfl
              (try simp only [Act.put, List.setIfInBounds_toArray, List.set_cons_zero, List.set_cons_succ])
              refine wpAnyH_ready (rs := [28]) (by kernel_rfl) (by simp) ?_
              refine AllReadyH.cons rfl (fun K hK => ?_) (AllReadyH.nil)
              have cB := (SB.out W5 HB5.out).1
              have fB := (SB.out W5 HB5.out).2.1
              go_simp
              go_wp2_with fail
              refine hK.out _ _ (SKs.out _ _ HB5.out) (fun hHeld => ?_)
              clear cB fB
              clear hK K
              (try dsimp only [Act.put]); (try simp only [Act.put, List.setIfInBounds_toArray, List.set_cons_zero, List.set_cons_succ])
              refine wpAnyH_done (by kernel_rfl) ?_ _
              go_wp2
              go_ret
              have hkn2 : k ≤ l.length := by rw [HN.out]; omega
              have hr := HR5.out
              have e1 : k + (n - (k + 1)) = (l.take k ++ l.drop (k + 1)).length := by have := HN.out; simp; omega
              have e2 : qiL (l.take k) ++ qiL (l.drop (k + 1)) = qiL (l.take k ++ l.drop (k + 1)) := by simp [qiL]
              rw [e1, e2] at hr
              have hT := RQ.turn H.out HB5.out HI.out (l' := l.take k ++ l.drop (k + 1)) (by have := HN.out; simp; omega) hr
              rw [← e1] at hT
              refine .inl ⟨rfl, k, HX.out, hnk.out, ?_, hT.2⟩
              rw [show ((W5.setCell ⟨B, i, none⟩ (.slice (some ⟨g5, 0, none⟩) (k + (n - (k + 1))) cap5))).heap.size = W5.heap.size from by simp]
              exact hT.1
            · have cB := (SB.out W1 HB1.out).1
              go_simp
              go_wp2_with fail
              refine hK.out _ _ (SK.out _ HB1.out) (fun hHeld => ?_)
              clear cB
              clear hK K
              (try dsimp only [Act.put]); (try simp only [Act.put, List.setIfInBounds_toArray, List.set_cons_zero, List.set_cons_succ])
              refine wpAnyH_take (i := 25) (oi := { dst := some 57, op := Op.slice 37 (Operand.tmp 54) (some (Operand.tmp 56)) none none, type := 37, pos := "ref.go:39", after := #[{ on := 22, ground := Ground.data }, { on := 24, ground := Ground.data }], guard := none }) (v := ?_) rfl (by kernel_rfl) (by kernel_rfl) (by kernel_rfl) (fun _ _ _ h => h) (Or.inl ⟨by rfl, ?_⟩) (by assumption) ?_
              rotate_left
              · intro w hSw; (try dsimp only at hSw); go_simp; try with_reducible rfl
              (try simp only [Act.put, List.setIfInBounds_toArray, List.set_cons_zero, List.set_cons_succ])
              refine wpAnyH_ready (rs := [15]) (by kernel_rfl) (by simp) ?_
              refine AllReadyH.cons rfl (fun K hK => ?_) (AllReadyH.nil)
              rw [if_pos (by kernel_rfl)]
              refine wp_append_own4 (o := { dst := some 47, op := Op.call { callee := Callee.builtin Builtin.append, args := #[Operand.tmp 37, Operand.tmp 46], argTypes := #[37, 37] }, type := 37, pos := "ref.go:39", after := #[{ on := 5, ground := Ground.data }, { on := 14, ground := Ground.data }], guard := none }) _ _ _ _ rfl wr.heap.size 3 ti (.int .i64 0) 1 8 Tryz.underlying37 hti hz0 hz1 hz2 rfl (by decide) g1 (0) 0 ([]) rfl HR1.out (some ⟨b0, o0, none⟩) (k) cr (qiL (l.take k)) rfl (by have := HN.out; simp; omega) (qhead (SB.out W1 HB1.out).2.2) qiL_one (by unfold maxLen; omega) (by omega) HB1.out.size ?_
              intro g8 cap8 W8 hr8 k8 hg8
              have HB8 := Lib.hid (HB1.out.trans (k8.below HB1.out.size fun b _ e => by rw [e]; exact qown_lo HR1.out))
              rw [Nat.zero_add, List.nil_append] at hr8
              have HR8 := Lib.hid hr8
              clear hr8 k8 hg8
              refine hK.out _ _ (SK.out _ HB8.out) (fun hHeld => ?_)
              try simp only [Nat.zero_add]
              clear hK K
              (try dsimp only [Act.put]); (try simp only [Act.put, List.setIfInBounds_toArray, List.set_cons_zero, List.set_cons_succ])
              refine wpAnyH_ready (rs := [26]) (by kernel_rfl) (by simp) ?_
              refine AllReadyH.cons rfl (fun K hK => ?_) (AllReadyH.nil)
              rw [if_pos (by kernel_rfl)]
              refine wp_append_own4 (o := { dst := some 58, op := Op.call { callee := Callee.builtin Builtin.append, args := #[Operand.tmp 47, Operand.tmp 57], argTypes := #[37, 37] }, type := 37, pos := "ref.go:39", after := #[{ on := 15, ground := Ground.data }, { on := 25, ground := Ground.data }, { on := 15, ground := Ground.chain }], guard := none }) _ _ _ _ rfl wr.heap.size 3 ti (.int .i64 0) 1 8 Tryz.underlying37 hti hz0 hz1 hz2 rfl (by decide) g8 (k) cap8 (qiL (l.take k)) rfl HR8.out a2 ((n - (k + 1))) (cr - (k + 1)) (qiL (l.drop (k + 1))) rfl (by have := HN.out; simp; omega) (qtail (SB.out W8 HB8.out).2.2 HN.out HA2.out) qiL_one (by unfold maxLen; omega) (by omega) HB8.out.size ?_
              intro g9 cap9 W9 hr9 k9 hg9
              have HB9 := Lib.hid (HB8.out.trans (k9.below HB8.out.size fun b _ e => by rw [e]; exact qown_lo HR8.out))
              have HR9 := Lib.hid hr9
              clear hr9 k9 hg9
              refine hK.out _ _ (SK.out _ HB9.out) (fun hHeld => ?_)
              clear hK K
              (try dsimp only [Act.put]); (try simp only [Act.put, List.setIfInBounds_toArray, List.set_cons_zero, List.set_cons_succ])
              refine wpAnyH_take (i := 27) (oi := { dst := some 59, op := Op.indexAddr 31 (Operand.tmp 35) (Operand.tmp 36), type := 0, pos := "ref.go:39", after := #[{ on := 3, ground := Ground.data }, { on := 4, ground := Ground.data }, { on := 0, ground := Ground.phase }, { on := 1, ground := Ground.phase }, { on := 2, ground := Ground.phase }, { on := 3, ground := Ground.phase }, { on := 4, ground := Ground.phase }, { on := 5, ground := Ground.phase }, { on := 6, ground := Ground.phase }, { on := 7, ground := Ground.phase }, { on := 8, ground := Ground.phase }, { on := 9, ground := Ground.phase }, { on := 10, ground := Ground.phase }, { on := 11, ground := Ground.phase }, { on := 12, ground := Ground.phase }, { on := 13, ground := Ground.phase }, { on := 14, ground := Ground.phase }, { on := 15, ground := Ground.phase }, { on := 16, ground := Ground.phase }, { on := 17, ground := Ground.phase }, { on := 18, ground := Ground.phase }, { on := 19, ground := Ground.phase }, { on := 20, ground := Ground.phase }, { on := 21, ground := Ground.phase }, { on := 22, ground := Ground.phase }, { on := 23, ground := Ground.phase }, { on := 24, ground := Ground.phase }, { on := 25, ground := Ground.phase }, { on := 26, ground := Ground.phase }], guard := none }) (v := ?_) rfl (by kernel_rfl) (by kernel_rfl) (by kernel_rfl) (fun _ _ _ h => h) (Or.inl ⟨by rfl, ?_⟩) (by assumption) ?_
              rotate_left
              · intro w hSw; (try dsimp only at hSw); go_simp; try with_reducible rfl
              (try simp only [Act.put, List.setIfInBounds_toArray, List.set_cons_zero, List.set_cons_succ])
              refine wpAnyH_ready (rs := [28]) (by kernel_rfl) (by simp) ?_
              refine AllReadyH.cons rfl (fun K hK => ?_) (AllReadyH.nil)
              have cB := (SB.out W9 HB9.out).1
              have fB := (SB.out W9 HB9.out).2.1
              go_simp
              go_wp2_with fail
              refine hK.out _ _ (SKs.out _ _ HB9.out) (fun hHeld => ?_)
              clear cB fB
              clear hK K
              (try dsimp only [Act.put]); (try simp only [Act.put, List.setIfInBounds_toArray, List.set_cons_zero, List.set_cons_succ])
              refine wpAnyH_done (by kernel_rfl) ?_ _
              go_wp2
              go_ret
              have hkn2 : k ≤ l.length := by rw [HN.out]; omega
              have hr := HR9.out
              have e1 : k + (n - (k + 1)) = (l.take k ++ l.drop (k + 1)).length := by have := HN.out; simp; omega
              have e2 : qiL (l.take k) ++ qiL (l.drop (k + 1)) = qiL (l.take k ++ l.drop (k + 1)) := by simp [qiL]
              rw [e1, e2] at hr
              have hT := RQ.turn H.out HB9.out HI.out (l' := l.take k ++ l.drop (k + 1)) (by have := HN.out; simp; omega) hr
              rw [← e1] at hT
              refine .inl ⟨rfl, k, HX.out, hnk.out, ?_, hT.2⟩
              rw [show ((W9.setCell ⟨B, i, none⟩ (.slice (some ⟨g9, 0, none⟩) (k + (n - (k + 1))) cap9))).heap.size = W9.heap.size from by simp]
              exact hT.1
          · have cB := (SB.out W1 HB1.out).1
            go_simp
            go_wp2_with fail
            refine hK.out _ _ (SK.out _ HB1.out) (fun hHeld => ?_)
            clear cB
            clear hK K
            (try dsimp only [Act.put]); (try simp only [Act.put, List.setIfInBounds_toArray, List.set_cons_zero, List.set_cons_succ])
            refine wpAnyH_take (i := 25) (oi := { dst := some 57, op := Op.slice 37 (Operand.tmp 54) (some (Operand.tmp 56)) none none, type := 37, pos := "ref.go:39", after := #[{ on := 22, ground := Ground.data }, { on := 24, ground := Ground.data }], guard := none }) (v := ?_) rfl (by kernel_rfl) (by kernel_rfl) (by kernel_rfl) (fun _ _ _ h => h) (Or.inl ⟨by rfl, ?_⟩) (by assumption) ?_
            rotate_left
            · intro w hSw; (try dsimp only at hSw); go_simp; try with_reducible rfl
            (try simp only [Act.put, List.setIfInBounds_toArray, List.set_cons_zero, List.set_cons_succ])
            refine wpAnyH_ready (rs := [12]) (by kernel_rfl) (by simp) ?_
            refine AllReadyH.cons rfl (fun K hK => ?_) (AllReadyH.nil)
            have cB := (SB.out W1 HB1.out).1
            go_simp
            go_wp2_with fail
            refine hK.out _ _ (SK.out _ HB1.out) (fun hHeld => ?_)
            clear cB
            clear hK K
            (try dsimp only [Act.put]); (try simp only [Act.put, List.setIfInBounds_toArray, List.set_cons_zero, List.set_cons_succ])
            refine wpAnyH_take (i := 14) (oi := { dst := some 46, op := Op.slice 37 (Operand.tmp 44) none (some (Operand.tmp 45)) none, type := 37, pos := "ref.go:39", after := #[{ on := 12, ground := Ground.data }, { on := 13, ground := Ground.data }], guard := none }) (v := ?_) rfl (by kernel_rfl) (by kernel_rfl) (by kernel_rfl) (fun _ _ _ h => h) (Or.inl ⟨by rfl, ?_⟩) (by assumption) ?_
            rotate_left
            · intro w hSw; (try dsimp only at hSw); go_simp; try with_reducible rfl
            (try simp only [Act.put, List.setIfInBounds_toArray, List.set_cons_zero, List.set_cons_succ])
            refine wpAnyH_ready (rs := [15]) (by kernel_rfl) (by simp) ?_
            refine AllReadyH.cons rfl (fun K hK => ?_) (AllReadyH.nil)
            rw [if_pos (by kernel_rfl)]
            refine wp_append_own4 (o := { dst := some 47, op := Op.call { callee := Callee.builtin Builtin.append, args := #[Operand.tmp 37, Operand.tmp 46], argTypes := #[37, 37] }, type := 37, pos := "ref.go:39", after := #[{ on := 5, ground := Ground.data }, { on := 14, ground := Ground.data }], guard := none }) _ _ _ _ rfl wr.heap.size 3 ti (.int .i64 0) 1 8 Tryz.underlying37 hti hz0 hz1 hz2 rfl (by decide) g1 (0) 0 ([]) rfl HR1.out (some ⟨b0, o0, none⟩) (k) cr (qiL (l.take k)) rfl (by have := HN.out; simp; omega) (qhead (SB.out W1 HB1.out).2.2) qiL_one (by unfold maxLen; omega) (by omega) HB1.out.size ?_
            intro g13 cap13 W13 hr13 k13 hg13
            have HB13 := Lib.hid (HB1.out.trans (k13.below HB1.out.size fun b _ e => by rw [e]; exact qown_lo HR1.out))
            rw [Nat.zero_add, List.nil_append] at hr13
            have HR13 := Lib.hid hr13
            clear hr13 k13 hg13
            refine hK.out _ _ (SK.out _ HB13.out) (fun hHeld => ?_)
            try simp only [Nat.zero_add]
            clear hK K
            (try dsimp only [Act.put]); (try simp only [Act.put, List.setIfInBounds_toArray, List.set_cons_zero, List.set_cons_succ])
            refine wpAnyH_ready (rs := [26]) (by kernel_rfl) (by simp) ?_
            refine AllReadyH.cons rfl (fun K hK => ?_) (AllReadyH.nil)
            rw [if_pos (by kernel_rfl)]
            refine wp_append_own4 (o := { dst := some 58, op := Op.call { callee := Callee.builtin Builtin.append, args := #[Operand.tmp 47, Operand.tmp 57], argTypes := #[37, 37] }, type := 37, pos := "ref.go:39", after := #[{ on := 15, ground := Ground.data }, { on := 25, ground := Ground.data }, { on := 15, ground := Ground.chain }], guard := none }) _ _ _ _ rfl wr.heap.size 3 ti (.int .i64 0) 1 8 Tryz.underlying37 hti hz0 hz1 hz2 rfl (by decide) g13 (k) cap13 (qiL (l.take k)) rfl HR13.out a2 ((n - (k + 1))) (cr - (k + 1)) (qiL (l.drop (k + 1))) rfl (by have := HN.out; simp; omega) (qtail (SB.out W13 HB13.out).2.2 HN.out HA2.out) qiL_one (by unfold maxLen; omega) (by omega) HB13.out.size ?_
            intro g14 cap14 W14 hr14 k14 hg14
            have HB14 := Lib.hid (HB13.out.trans (k14.below HB13.out.size fun b _ e => by rw [e]; exact qown_lo HR13.out))
            have HR14 := Lib.hid hr14
            clear hr14 k14 hg14
            refine hK.out _ _ (SK.out _ HB14.out) (fun hHeld => ?_)
            clear hK K
            (try dsimp only [Act.put]); (try simp only [Act.put, List.setIfInBounds_toArray, List.set_cons_zero, List.set_cons_succ])
            refine wpAnyH_take (i := 27) (oi := { dst := some 59, op := Op.indexAddr 31 (Operand.tmp 35) (Operand.tmp 36), type := 0, pos := "ref.go:39", after := #[{ on := 3, ground := Ground.data }, { on := 4, ground := Ground.data }, { on := 0, ground := Ground.phase }, { on := 1, ground := Ground.phase }, { on := 2, ground := Ground.phase }, { on := 3, ground := Ground.phase }, { on := 4, ground := Ground.phase }, { on := 5, ground := Ground.phase }, { on := 6, ground := Ground.phase }, { on := 7, ground := Ground.phase }, { on := 8, ground := Ground.phase }, { on := 9, ground := Ground.phase }, { on := 10, ground := Ground.phase }, { on := 11, ground := Ground.phase }, { on := 12, ground := Ground.phase }, { on := 13, ground := Ground.phase }, { on := 14, ground := Ground.phase }, { on := 15, ground := Ground.phase }, { on := 16, ground := Ground.phase }, { on := 17, ground := Ground.phase }, { on := 18, ground := Ground.phase }, { on := 19, ground := Ground.phase }, { on := 20, ground := Ground.phase }, { on := 21, ground := Ground.phase }, { on := 22, ground := Ground.phase }, { on := 23, ground := Ground.phase }, { on := 24, ground := Ground.phase }, { on := 25, ground := Ground.phase }, { on := 26, ground := Ground.phase }], guard := none }) (v := ?_) rfl (by kernel_rfl) (by kernel_rfl) (by kernel_rfl) (fun _ _ _ h => h) (Or.inl ⟨by rfl, ?_⟩) (by assumption) ?_
            rotate_left
            · intro w hSw; (try dsimp only at hSw); go_simp; try with_reducible rfl
            (try simp only [Act.put, List.setIfInBounds_toArray, List.set_cons_zero, List.set_cons_succ])
            refine wpAnyH_ready (rs := [28]) (by kernel_rfl) (by simp) ?_
            refine AllReadyH.cons rfl (fun K hK => ?_) (AllReadyH.nil)
            have cB := (SB.out W14 HB14.out).1
            have fB := (SB.out W14 HB14.out).2.1
            go_simp
            go_wp2_with fail
            refine hK.out _ _ (SKs.out _ _ HB14.out) (fun hHeld => ?_)
            clear cB fB
            clear hK K
            (try dsimp only [Act.put]); (try simp only [Act.put, List.setIfInBounds_toArray, List.set_cons_zero, List.set_cons_succ])
            refine wpAnyH_done (by kernel_rfl) ?_ _
            go_wp2
            go_ret
            have hkn2 : k ≤ l.length := by rw [HN.out]; omega
            have hr := HR14.out
            have e1 : k + (n - (k + 1)) = (l.take k ++ l.drop (k + 1)).length := by have := HN.out; simp; omega
            have e2 : qiL (l.take k) ++ qiL (l.drop (k + 1)) = qiL (l.take k ++ l.drop (k + 1)) := by simp [qiL]
            rw [e1, e2] at hr
            have hT := RQ.turn H.out HB14.out HI.out (l' := l.take k ++ l.drop (k + 1)) (by have := HN.out; simp; omega) hr
            rw [← e1] at hT
            refine .inl ⟨rfl, k, HX.out, hnk.out, ?_, hT.2⟩
            rw [show ((W14.setCell ⟨B, i, none⟩ (.slice (some ⟨g14, 0, none⟩) (k + (n - (k + 1))) cap14))).heap.size = W14.heap.size from by simp]
            exact hT.1
        · have cB := (SB.out wD HBD.out).1
          go_simp
          go_wp2_with fail
          refine hK.out _ _ (SK.out _ HBD.out) (fun hHeld => ?_)
          clear cB
          clear hK K
          (try dsimp only [Act.put]); (try simp only [Act.put, List.setIfInBounds_toArray, List.set_cons_zero, List.set_cons_succ])
          refine wpAnyH_take (i := 14) (oi := { dst := some 46, op := Op.slice 37 (Operand.tmp 44) none (some (Operand.tmp 45)) none, type := 37, pos := "ref.go:39", after := #[{ on := 12, ground := Ground.data }, { on := 13, ground := Ground.data }], guard := none }) (v := ?_) rfl (by kernel_rfl) (by kernel_rfl) (by kernel_rfl) (fun _ _ _ h => h) (Or.inl ⟨by rfl, ?_⟩) (by assumption) ?_
          rotate_left
          · intro w hSw; (try dsimp only at hSw); go_simp; try with_reducible rfl
          (try simp only [Act.put, List.setIfInBounds_toArray, List.set_cons_zero, List.set_cons_succ])
          refine wpAnyH_ready (rs := [5, 22]) (by kernel_rfl) (by simp) ?_
          refine AllReadyH.cons rfl (fun K hK => ?_) (AllReadyH.cons rfl (fun K hK => ?_) (AllReadyH.nil))
          · go_simp
            go_wp2_with fail
            refine hK.out _ _ (SK.out _ (HBD.out.alloc HBD.out.size _)) (fun hHeld => ?_)
            have HB17 := Lib.hid (HBD.out.alloc HBD.out.size (.cells #[] 3))
            have HR17 := Lib.hid (qown_zero wD wr.heap.size HBD.out.size)
            generalize wD.heap.size = g17 at *
            generalize wD.alloc (.cells #[] 3) = W17 at *
            clear hK K
            (try dsimp only [Act.put]); (try simp only [Act.put, List.setIfInBounds_toArray, List.set_cons_zero, List.set_cons_succ])
            refine wpAnyH_ready (rs := [15, 22]) (by kernel_rfl) (by simp) ?_
            refine AllReadyH.cons rfl (fun K hK => ?_) (AllReadyH.cons rfl (fun K hK => ?_) (AllReadyH.nil))
            · rw [if_pos (by kernel_rfl)]
              refine wp_append_own4 (o := { dst := some 47, op := Op.call { callee := Callee.builtin Builtin.append, args := #[Operand.tmp 37, Operand.tmp 46], argTypes := #[37, 37] }, type := 37, pos := "ref.go:39", after := #[{ on := 5, ground := Ground.data }, { on := 14, ground := Ground.data }], guard := none }) _ _ _ _ rfl wr.heap.size 3 ti (.int .i64 0) 1 8 Tryz.underlying37 hti hz0 hz1 hz2 rfl (by decide) g17 (0) 0 ([]) rfl HR17.out (some ⟨b0, o0, none⟩) (k) cr (qiL (l.take k)) rfl (by have := HN.out; simp; omega) (qhead (SB.out W17 HB17.out).2.2) qiL_one (by unfold maxLen; omega) (by omega) HB17.out.size ?_
              intro g18 cap18 W18 hr18 k18 hg18
              have HB18 := Lib.hid (HB17.out.trans (k18.below HB17.out.size fun b _ e => by rw [e]; exact qown_lo HR17.out))
              rw [Nat.zero_add, List.nil_append] at hr18
              have HR18 := Lib.hid hr18
              clear hr18 k18 hg18
              refine hK.out _ _ (SK.out _ HB18.out) (fun hHeld => ?_)
              try simp only [Nat.zero_add]
              clear hK K
              (try dsimp only [Act.put]); (try simp only [Act.put, List.setIfInBounds_toArray, List.set_cons_zero, List.set_cons_succ])
              refine wpAnyH_ready (rs := [22]) (by kernel_rfl) (by simp) ?_
              refine AllReadyH.cons rfl (fun K hK => ?_) (AllReadyH.nil)
              have cB := (SB.out W18 HB18.out).1
              go_simp
              go_wp2_with fail
              refine hK.out _ _ (SK.out _ HB18.out) (fun hHeld => ?_)
              clear cB
              clear hK K
              (try dsimp only [Act.put]); (try simp only [Act.put, List.setIfInBounds_toArray, List.set_cons_zero, List.set_cons_succ])
              refine wpAnyH_take (i := 25) (oi := { dst := some 57, op := Op.slice 37 (Operand.tmp 54) (some (Operand.tmp 56)) none none, type := 37, pos := "ref.go:39", after := #[{ on := 22, ground := Ground.data }, { on := 24, ground := Ground.data }], guard := none }) (v := ?_) rfl (by kernel_rfl) (by kernel_rfl) (by kernel_rfl) (fun _ _ _ h => h) (Or.inl ⟨by rfl, ?_⟩) (by assumption) ?_
              rotate_left
              · intro w hSw; (try dsimp only at hSw); go_simp; try with_reducible rfl
              (try simp only [Act.put, List.setIfInBounds_toArray, List.set_cons_zero, List.set_cons_succ])
              refine wpAnyH_ready (rs := [26]) (by kernel_rfl) (by simp) ?_
              refine AllReadyH.cons rfl (fun K hK => ?_) (AllReadyH.nil)
              rw [if_pos (by kernel_rfl)]
              refine wp_append_own4 (o := { dst := some 58, op := Op.call { callee := Callee.builtin Builtin.append, args := #[Operand.tmp 47, Operand.tmp 57], argTypes := #[37, 37] }, type := 37, pos := "ref.go:39", after := #[{ on := 15, ground := Ground.data }, { on := 25, ground := Ground.data }, { on := 15, ground := Ground.chain }], guard := none }) _ _ _ _ rfl wr.heap.size 3 ti (.int .i64 0) 1 8 Tryz.underlying37 hti hz0 hz1 hz2 rfl (by decide) g18 (k) cap18 (qiL (l.take k)) rfl HR18.out a2 ((n - (k + 1))) (cr - (k + 1)) (qiL (l.drop (k + 1))) rfl (by have := HN.out; simp; omega) (qtail (SB.out W18 HB18.out).2.2 HN.out HA2.out) qiL_one (by unfold maxLen; omega) (by omega) HB18.out.size ?_
              intro g20 cap20 W20 hr20 k20 hg20
              have HB20 := Lib.hid (HB18.out.trans (k20.below HB18.out.size fun b _ e => by rw [e]; exact qown_lo HR18.out))
              have HR20 := Lib.hid hr20
              clear hr20 k20 hg20
              refine hK.out _ _ (SK.out _ HB20.out) (fun hHeld => ?_)
              clear hK K
              (try dsimp only [Act.put]); (try simp only [Act.put, List.setIfInBounds_toArray, List.set_cons_zero, List.set_cons_succ])
              refine wpAnyH_take (i := 27) (oi := { dst := some 59, op := Op.indexAddr 31 (Operand.tmp 35) (Operand.tmp 36), type := 0, pos := "ref.go:39", after := #[{ on := 3, ground := Ground.data }, { on := 4, ground := Ground.data }, { on := 0, ground := Ground.phase }, { on := 1, ground := Ground.phase }, { on := 2, ground := Ground.phase }, { on := 3, ground := Ground.phase }, { on := 4, ground := Ground.phase }, { on := 5, ground := Ground.phase }, { on := 6, ground := Ground.phase }, { on := 7, ground := Ground.phase }, { on := 8, ground := Ground.phase }, { on := 9, ground := Ground.phase }, { on := 10, ground := Ground.phase }, { on := 11, ground := Ground.phase }, { on := 12, ground := Ground.phase }, { on := 13, ground := Ground.phase }, { on := 14, ground := Ground.phase }, { on := 15, ground := Ground.phase }, { on := 16, ground := Ground.phase }, { on := 17, ground := Ground.phase }, { on := 18, ground := Ground.phase }, { on := 19, ground := Ground.phase }, { on := 20, ground := Ground.phase }, { on := 21, ground := Ground.phase }, { on := 22, ground := Ground.phase }, { on := 23, ground := Ground.phase }, { on := 24, ground := Ground.phase }, { on := 25, ground := Ground.phase }, { on := 26, ground := Ground.phase }], guard := none }) (v := ?_) rfl (by kernel_rfl) (by kernel_rfl) (by kernel_rfl) (fun _ _ _ h => h) (Or.inl ⟨by rfl, ?_⟩) (by assumption) ?_
              rotate_left
              · intro w hSw; (try dsimp only at hSw); go_simp; try with_reducible rfl
              (try simp only [Act.put, List.setIfInBounds_toArray, List.set_cons_zero, List.set_cons_succ])
              refine wpAnyH_ready (rs := [28]) (by kernel_rfl) (by simp) ?_
              refine AllReadyH.cons rfl (fun K hK => ?_) (AllReadyH.nil)
              have cB := (SB.out W20 HB20.out).1
              have fB := (SB.out W20 HB20.out).2.1
              go_simp
              go_wp2_with fail
              refine hK.out _ _ (SKs.out _ _ HB20.out) (fun hHeld => ?_)
              clear cB fB
              clear hK K
              (try dsimp only [Act.put]); (try simp only [Act.put, List.setIfInBounds_toArray, List.set_cons_zero, List.set_cons_succ])
              refine wpAnyH_done (by kernel_rfl) ?_ _
              go_wp2
              go_ret
              have hkn2 : k ≤ l.length := by rw [HN.out]; omega
              have hr := HR20.out
              have e1 : k + (n - (k + 1)) = (l.take k ++ l.drop (k + 1)).length := by have := HN.out; simp; omega
              have e2 : qiL (l.take k) ++ qiL (l.drop (k + 1)) = qiL (l.take k ++ l.drop (k + 1)) := by simp [qiL]
              rw [e1, e2] at hr
              have hT := RQ.turn H.out HB20.out HI.out (l' := l.take k ++ l.drop (k + 1)) (by have := HN.out; simp; omega) hr
              rw [← e1] at hT
              refine .inl ⟨rfl, k, HX.out, hnk.out, ?_, hT.2⟩
              rw [show ((W20.setCell ⟨B, i, none⟩ (.slice (some ⟨g20, 0, none⟩) (k + (n - (k + 1))) cap20))).heap.size = W20.heap.size from by simp]
              exact hT.1
            · have cB := (SB.out W17 HB17.out).1
              go_simp
              go_wp2_with fail
              refine hK.out _ _ (SK.out _ HB17.out) (fun hHeld => ?_)
              clear cB
              clear hK K
              (try dsimp only [Act.put]); (try simp only [Act.put, List.setIfInBounds_toArray, List.set_cons_zero, List.set_cons_succ])
              refine wpAnyH_take (i := 25) (oi := { dst := some 57, op := Op.slice 37 (Operand.tmp 54) (some (Operand.tmp 56)) none none, type := 37, pos := "ref.go:39", after := #[{ on := 22, ground := Ground.data }, { on := 24, ground := Ground.data }], guard := none }) (v := ?_) rfl (by kernel_rfl) (by kernel_rfl) (by kernel_rfl) (fun _ _ _ h => h) (Or.inl ⟨by rfl, ?_⟩) (by assumption) ?_
              rotate_left
              · intro w hSw; (try dsimp only at hSw); go_simp; try with_reducible rfl
              (try simp only [Act.put, List.setIfInBounds_toArray, List.set_cons_zero, List.set_cons_succ])
              refine wpAnyH_ready (rs := [15]) (by kernel_rfl) (by simp) ?_
              refine AllReadyH.cons rfl (fun K hK => ?_) (AllReadyH.nil)
              rw [if_pos (by kernel_rfl)]
              refine wp_append_own4 (o := { dst := some 47, op := Op.call { callee := Callee.builtin Builtin.append, args := #[Operand.tmp 37, Operand.tmp 46], argTypes := #[37, 37] }, type := 37, pos := "ref.go:39", after := #[{ on := 5, ground := Ground.data }, { on := 14, ground := Ground.data }], guard := none }) _ _ _ _ rfl wr.heap.size 3 ti (.int .i64 0) 1 8 Tryz.underlying37 hti hz0 hz1 hz2 rfl (by decide) g17 (0) 0 ([]) rfl HR17.out (some ⟨b0, o0, none⟩) (k) cr (qiL (l.take k)) rfl (by have := HN.out; simp; omega) (qhead (SB.out W17 HB17.out).2.2) qiL_one (by unfold maxLen; omega) (by omega) HB17.out.size ?_
              intro g23 cap23 W23 hr23 k23 hg23
              have HB23 := Lib.hid (HB17.out.trans (k23.below HB17.out.size fun b _ e => by rw [e]; exact qown_lo HR17.out))
              rw [Nat.zero_add, List.nil_append] at hr23
              have HR23 := Lib.hid hr23
              clear hr23 k23 hg23
              refine hK.out _ _ (SK.out _ HB23.out) (fun hHeld => ?_)
              try simp only [Nat.zero_add]
              clear hK K
              (try dsimp only [Act.put]); (try simp only [Act.put, List.setIfInBounds_toArray, List.set_cons_zero, List.set_cons_succ])
              refine wpAnyH_ready (rs := [26]) (by kernel_rfl) (by simp) ?_
              refine AllReadyH.cons rfl (fun K hK => ?_) (AllReadyH.nil)
              rw [if_pos (by kernel_rfl)]
              refine wp_append_own4 (o := { dst := some 58, op := Op.call { callee := Callee.builtin Builtin.append, args := #[Operand.tmp 47, Operand.tmp 57], argTypes := #[37, 37] }, type := 37, pos := "ref.go:39", after := #[{ on := 15, ground := Ground.data }, { on := 25, ground := Ground.data }, { on := 15, ground := Ground.chain }], guard := none }) _ _ _ _ rfl wr.heap.size 3 ti (.int .i64 0) 1 8 Tryz.underlying37 hti hz0 hz1 hz2 rfl (by decide) g23 (k) cap23 (qiL (l.take k)) rfl HR23.out a2 ((n - (k + 1))) (cr - (k + 1)) (qiL (l.drop (k + 1))) rfl (by have := HN.out; simp; omega) (qtail (SB.out W23 HB23.out).2.2 HN.out HA2.out) qiL_one (by unfold maxLen; omega) (by omega) HB23.out.size ?_
              intro g24 cap24 W24 hr24 k24 hg24
              have HB24 := Lib.hid (HB23.out.trans (k24.below HB23.out.size fun b _ e => by rw [e]; exact qown_lo HR23.out))
              have HR24 := Lib.hid hr24
              clear hr24 k24 hg24
              refine hK.out _ _ (SK.out _ HB24.out) (fun hHeld => ?_)
              clear hK K
              (try dsimp only [Act.put]); (try simp only [Act.put, List.setIfInBounds_toArray, List.set_cons_zero, List.set_cons_succ])
              refine wpAnyH_take (i := 27) (oi := { dst := some 59, op := Op.indexAddr 31 (Operand.tmp 35) (Operand.tmp 36), type := 0, pos := "ref.go:39", after := #[{ on := 3, ground := Ground.data }, { on := 4, ground := Ground.data }, { on := 0, ground := Ground.phase }, { on := 1, ground := Ground.phase }, { on := 2, ground := Ground.phase }, { on := 3, ground := Ground.phase }, { on := 4, ground := Ground.phase }, { on := 5, ground := Ground.phase }, { on := 6, ground := Ground.phase }, { on := 7, ground := Ground.phase }, { on := 8, ground := Ground.phase }, { on := 9, ground := Ground.phase }, { on := 10, ground := Ground.phase }, { on := 11, ground := Ground.phase }, { on := 12, ground := Ground.phase }, { on := 13, ground := Ground.phase }, { on := 14, ground := Ground.phase }, { on := 15, ground := Ground.phase }, { on := 16, ground := Ground.phase }, { on := 17, ground := Ground.phase }, { on := 18, ground := Ground.phase }, { on := 19, ground := Ground.phase }, { on := 20, ground := Ground.phase }, { on := 21, ground := Ground.phase }, { on := 22, ground := Ground.phase }, { on := 23, ground := Ground.phase }, { on := 24, ground := Ground.phase }, { on := 25, ground := Ground.phase }, { on := 26, ground := Ground.phase }], guard := none }) (v := ?_) rfl (by kernel_rfl) (by kernel_rfl) (by kernel_rfl) (fun _ _ _ h => h) (Or.inl ⟨by rfl, ?_⟩) (by assumption) ?_
              rotate_left
              · intro w hSw; (try dsimp only at hSw); go_simp; try with_reducible rfl
              (try simp only [Act.put, List.setIfInBounds_toArray, List.set_cons_zero, List.set_cons_succ])
              refine wpAnyH_ready (rs := [28]) (by kernel_rfl) (by simp) ?_
              refine AllReadyH.cons rfl (fun K hK => ?_) (AllReadyH.nil)
              have cB := (SB.out W24 HB24.out).1
              have fB := (SB.out W24 HB24.out).2.1
              go_simp
              go_wp2_with fail
              refine hK.out _ _ (SKs.out _ _ HB24.out) (fun hHeld => ?_)
              clear cB fB
              clear hK K
              (try dsimp only [Act.put]); (try simp only [Act.put, List.setIfInBounds_toArray, List.set_cons_zero, List.set_cons_succ])
              refine wpAnyH_done (by kernel_rfl) ?_ _
              go_wp2
              go_ret
              have hkn2 : k ≤ l.length := by rw [HN.out]; omega
              have hr := HR24.out
              have e1 : k + (n - (k + 1)) = (l.take k ++ l.drop (k + 1)).length := by have := HN.out; simp; omega
              have e2 : qiL (l.take k) ++ qiL (l.drop (k + 1)) = qiL (l.take k ++ l.drop (k + 1)) := by simp [qiL]
              rw [e1, e2] at hr
              have hT := RQ.turn H.out HB24.out HI.out (l' := l.take k ++ l.drop (k + 1)) (by have := HN.out; simp; omega) hr
              rw [← e1] at hT
              refine .inl ⟨rfl, k, HX.out, hnk.out, ?_, hT.2⟩
              rw [show ((W24.setCell ⟨B, i, none⟩ (.slice (some ⟨g24, 0, none⟩) (k + (n - (k + 1))) cap24))).heap.size = W24.heap.size from by simp]
              exact hT.1
          · have cB := (SB.out wD HBD.out).1
            go_simp
            go_wp2_with fail
            refine hK.out _ _ (SK.out _ HBD.out) (fun hHeld => ?_)
            clear cB
            clear hK K
            (try dsimp only [Act.put]); (try simp only [Act.put, List.setIfInBounds_toArray, List.set_cons_zero, List.set_cons_succ])
            refine wpAnyH_take (i := 25) (oi := { dst := some 57, op := Op.slice 37 (Operand.tmp 54) (some (Operand.tmp 56)) none none, type := 37, pos := "ref.go:39", after := #[{ on := 22, ground := Ground.data }, { on := 24, ground := Ground.data }], guard := none }) (v := ?_) rfl (by kernel_rfl) (by kernel_rfl) (by kernel_rfl) (fun _ _ _ h => h) (Or.inl ⟨by rfl, ?_⟩) (by assumption) ?_
            rotate_left
            · intro w hSw; (try dsimp only at hSw); go_simp; try with_reducible rfl
            (try simp only [Act.put, List.setIfInBounds_toArray, List.set_cons_zero, List.set_cons_succ])
            refine wpAnyH_ready (rs := [5]) (by kernel_rfl) (by simp) ?_
            refine AllReadyH.cons rfl (fun K hK => ?_) (AllReadyH.nil)
            go_simp
            go_wp2_with fail
            refine hK.out _ _ (SK.out _ (HBD.out.alloc HBD.out.size _)) (fun hHeld => ?_)
            have HB27 := Lib.hid (HBD.out.alloc HBD.out.size (.cells #[] 3))
            have HR27 := Lib.hid (qown_zero wD wr.heap.size HBD.out.size)
            generalize wD.heap.size = g27 at *
            generalize wD.alloc (.cells #[] 3) = W27 at *
            clear hK K
            (try dsimp only [Act.put]); (try simp only [Act.put, List.setIfInBounds_toArray, List.set_cons_zero, List.set_cons_succ])
            refine wpAnyH_ready (rs := [15]) (by kernel_rfl) (by simp) ?_
            refine AllReadyH.cons rfl (fun K hK => ?_) (AllReadyH.nil)
            rw [if_pos (by kernel_rfl)]
            refine wp_append_own4 (o := { dst := some 47, op := Op.call { callee := Callee.builtin Builtin.append, args := #[Operand.tmp 37, Operand.tmp 46], argTypes := #[37, 37] }, type := 37, pos := "ref.go:39", after := #[{ on := 5, ground := Ground.data }, { on := 14, ground := Ground.data }], guard := none }) _ _ _ _ rfl wr.heap.size 3 ti (.int .i64 0) 1 8 Tryz.underlying37 hti hz0 hz1 hz2 rfl (by decide) g27 (0) 0 ([]) rfl HR27.out (some ⟨b0, o0, none⟩) (k) cr (qiL (l.take k)) rfl (by have := HN.out; simp; omega) (qhead (SB.out W27 HB27.out).2.2) qiL_one (by unfold maxLen; omega) (by omega) HB27.out.size ?_
            intro g28 cap28 W28 hr28 k28 hg28
            have HB28 := Lib.hid (HB27.out.trans (k28.below HB27.out.size fun b _ e => by rw [e]; exact qown_lo HR27.out))
            rw [Nat.zero_add, List.nil_append] at hr28
            have HR28 := Lib.hid hr28
            clear hr28 k28 hg28
            refine hK.out _ _ (SK.out _ HB28.out) (fun hHeld => ?_)
            try simp only [Nat.zero_add]
            clear hK K
            (try dsimp only [Act.put]); (try simp only [Act.put, List.setIfInBounds_toArray, List.set_cons_zero, List.set_cons_succ])
            refine wpAnyH_ready (rs := [26]) (by kernel_rfl) (by simp) ?_
            refine AllReadyH.cons rfl (fun K hK => ?_) (AllReadyH.nil)
            rw [if_pos (by kernel_rfl)]
            refine wp_append_own4 (o := { dst := some 58, op := Op.call { callee := Callee.builtin Builtin.append, args := #[Operand.tmp 47, Operand.tmp 57], argTypes := #[37, 37] }, type := 37, pos := "ref.go:39", after := #[{ on := 15, ground := Ground.data }, { on := 25, ground := Ground.data }, { on := 15, ground := Ground.chain }], guard := none }) _ _ _ _ rfl wr.heap.size 3 ti (.int .i64 0) 1 8 Tryz.underlying37 hti hz0 hz1 hz2 rfl (by decide) g28 (k) cap28 (qiL (l.take k)) rfl HR28.out a2 ((n - (k + 1))) (cr - (k + 1)) (qiL (l.drop (k + 1))) rfl (by have := HN.out; simp; omega) (qtail (SB.out W28 HB28.out).2.2 HN.out HA2.out) qiL_one (by unfold maxLen; omega) (by omega) HB28.out.size ?_
            intro g29 cap29 W29 hr29 k29 hg29
            have HB29 := Lib.hid (HB28.out.trans (k29.below HB28.out.size fun b _ e => by rw [e]; exact qown_lo HR28.out))
            have HR29 := Lib.hid hr29
            clear hr29 k29 hg29
            refine hK.out _ _ (SK.out _ HB29.out) (fun hHeld => ?_)
            clear hK K
            (try dsimp only [Act.put]); (try simp only [Act.put, List.setIfInBounds_toArray, List.set_cons_zero, List.set_cons_succ])
            refine wpAnyH_take (i := 27) (oi := { dst := some 59, op := Op.indexAddr 31 (Operand.tmp 35) (Operand.tmp 36), type := 0, pos := "ref.go:39", after := #[{ on := 3, ground := Ground.data }, { on := 4, ground := Ground.data }, { on := 0, ground := Ground.phase }, { on := 1, ground := Ground.phase }, { on := 2, ground := Ground.phase }, { on := 3, ground := Ground.phase }, { on := 4, ground := Ground.phase }, { on := 5, ground := Ground.phase }, { on := 6, ground := Ground.phase }, { on := 7, ground := Ground.phase }, { on := 8, ground := Ground.phase }, { on := 9, ground := Ground.phase }, { on := 10, ground := Ground.phase }, { on := 11, ground := Ground.phase }, { on := 12, ground := Ground.phase }, { on := 13, ground := Ground.phase }, { on := 14, ground := Ground.phase }, { on := 15, ground := Ground.phase }, { on := 16, ground := Ground.phase }, { on := 17, ground := Ground.phase }, { on := 18, ground := Ground.phase }, { on := 19, ground := Ground.phase }, { on := 20, ground := Ground.phase }, { on := 21, ground := Ground.phase }, { on := 22, ground := Ground.phase }, { on := 23, ground := Ground.phase }, { on := 24, ground := Ground.phase }, { on := 25, ground := Ground.phase }, { on := 26, ground := Ground.phase }], guard := none }) (v := ?_) rfl (by kernel_rfl) (by kernel_rfl) (by kernel_rfl) (fun _ _ _ h => h) (Or.inl ⟨by rfl, ?_⟩) (by assumption) ?_
            rotate_left
            · intro w hSw; (try dsimp only at hSw); go_simp; try with_reducible rfl
            (try simp only [Act.put, List.setIfInBounds_toArray, List.set_cons_zero, List.set_cons_succ])
            refine wpAnyH_ready (rs := [28]) (by kernel_rfl) (by simp) ?_
            refine AllReadyH.cons rfl (fun K hK => ?_) (AllReadyH.nil)
            have cB := (SB.out W29 HB29.out).1
            have fB := (SB.out W29 HB29.out).2.1
            go_simp
            go_wp2_with fail
            refine hK.out _ _ (SKs.out _ _ HB29.out) (fun hHeld => ?_)
            clear cB fB
            clear hK K
            (try dsimp only [Act.put]); (try simp only [Act.put, List.setIfInBounds_toArray, List.set_cons_zero, List.set_cons_succ])
            refine wpAnyH_done (by kernel_rfl) ?_ _
            go_wp2
            go_ret
            have hkn2 : k ≤ l.length := by rw [HN.out]; omega
            have hr := HR29.out
            have e1 : k + (n - (k + 1)) = (l.take k ++ l.drop (k + 1)).length := by have := HN.out; simp; omega
            have e2 : qiL (l.take k) ++ qiL (l.drop (k + 1)) = qiL (l.take k ++ l.drop (k + 1)) := by simp [qiL]
            rw [e1, e2] at hr
            have hT := RQ.turn H.out HB29.out HI.out (l' := l.take k ++ l.drop (k + 1)) (by have := HN.out; simp; omega) hr
            rw [← e1] at hT
            refine .inl ⟨rfl, k, HX.out, hnk.out, ?_, hT.2⟩
            rw [show ((W29.setCell ⟨B, i, none⟩ (.slice (some ⟨g29, 0, none⟩) (k + (n - (k + 1))) cap29))).heap.size = W29.heap.size from by simp]
            exact hT.1
        · have cB := (SB.out wD HBD.out).1
          go_simp
          go_wp2_with fail
          refine hK.out _ _ (SK.out _ HBD.out) (fun hHeld => ?_)
          clear cB
          clear hK K
          (try dsimp only [Act.put]); (try simp only [Act.put, List.setIfInBounds_toArray, List.set_cons_zero, List.set_cons_succ])
          refine wpAnyH_take (i := 25) (oi := { dst := some 57, op := Op.slice 37 (Operand.tmp 54) (some (Operand.tmp 56)) none none, type := 37, pos := "ref.go:39", after := #[{ on := 22, ground := Ground.data }, { on := 24, ground := Ground.data }], guard := none }) (v := ?_) rfl (by kernel_rfl) (by kernel_rfl) (by kernel_rfl) (fun _ _ _ h => h) (Or.inl ⟨by rfl, ?_⟩) (by assumption) ?_
          rotate_left
          · intro w hSw; (try dsimp only at hSw); go_simp; try with_reducible rfl
          (try simp only [Act.put, List.setIfInBounds_toArray, List.set_cons_zero, List.set_cons_succ])
          refine wpAnyH_ready (rs := [5, 12]) (by kernel_rfl) (by simp) ?_
          refine AllReadyH.cons rfl (fun K hK => ?_) (AllReadyH.cons rfl (fun K hK => ?_) (AllReadyH.nil))
          · go_simp
            go_wp2_with fail
            refine hK.out _ _ (SK.out _ (HBD.out.alloc HBD.out.size _)) (fun hHeld => ?_)
            have HB32 := Lib.hid (HBD.out.alloc HBD.out.size (.cells #[] 3))
            have HR32 := Lib.hid (qown_zero wD wr.heap.size HBD.out.size)
            generalize wD.heap.size = g32 at *
            generalize wD.alloc (.cells #[] 3) = W32 at *
            clear hK K
            (try dsimp only [Act.put]); (try simp only [Act.put, List.setIfInBounds_toArray, List.set_cons_zero, List.set_cons_succ])
            refine wpAnyH_ready (rs := [12]) (by kernel_rfl) (by simp) ?_
            refine AllReadyH.cons rfl (fun K hK => ?_) (AllReadyH.nil)
            have cB := (SB.out W32 HB32.out).1
            go_simp
            go_wp2_with fail
            refine hK.out _ _ (SK.out _ HB32.out) (fun hHeld => ?_)
            clear cB
            clear hK K
            (try dsimp only [Act.put]); (try simp only [Act.put, List.setIfInBounds_toArray, List.set_cons_zero, List.set_cons_succ])
            refine wpAnyH_take (i := 14) (oi := { dst := some 46, op := Op.slice 37 (Operand.tmp 44) none (some (Operand.tmp 45)) none, type := 37, pos := "ref.go:39", after := #[{ on := 12, ground := Ground.data }, { on := 13, ground := Ground.data }], guard := none }) (v := ?_) rfl (by kernel_rfl) (by kernel_rfl) (by kernel_rfl) (fun _ _ _ h => h) (Or.inl ⟨by rfl, ?_⟩) (by assumption) ?_
            rotate_left
            · intro w hSw; (try dsimp only at hSw); go_simp; try with_reducible rfl
            (try simp only [Act.put, List.setIfInBounds_toArray, List.set_cons_zero, List.set_cons_succ])
            refine wpAnyH_ready (rs := [15]) (by kernel_rfl) (by simp) ?_
            refine AllReadyH.cons rfl (fun K hK => ?_) (AllReadyH.nil)
            rw [if_pos (by kernel_rfl)]
            refine wp_append_own4 (o := { dst := some 47, op := Op.call { callee := Callee.builtin Builtin.append, args := #[Operand.tmp 37, Operand.tmp 46], argTypes := #[37, 37] }, type := 37, pos := "ref.go:39", after := #[{ on := 5, ground := Ground.data }, { on := 14, ground := Ground.data }], guard := none }) _ _ _ _ rfl wr.heap.size 3 ti (.int .i64 0) 1 8 Tryz.underlying37 hti hz0 hz1 hz2 rfl (by decide) g32 (0) 0 ([]) rfl HR32.out (some ⟨b0, o0, none⟩) (k) cr (qiL (l.take k)) rfl (by have := HN.out; simp; omega) (qhead (SB.out W32 HB32.out).2.2) qiL_one (by unfold maxLen; omega) (by omega) HB32.out.size ?_
            intro g34 cap34 W34 hr34 k34 hg34
            have HB34 := Lib.hid (HB32.out.trans (k34.below HB32.out.size fun b _ e => by rw [e]; exact qown_lo HR32.out))
            rw [Nat.zero_add, List.nil_append] at hr34
            have HR34 := Lib.hid hr34
            clear hr34 k34 hg34
            refine hK.out _ _ (SK.out _ HB34.out) (fun hHeld => ?_)
            try simp only [Nat.zero_add]
            clear hK K
            (try dsimp only [Act.put]); (try simp only [Act.put, List.setIfInBounds_toArray, List.set_cons_zero, List.set_cons_succ])
            refine wpAnyH_ready (rs := [26]) (by kernel_rfl) (by simp) ?_
            refine AllReadyH.cons rfl (fun K hK => ?_) (AllReadyH.nil)
            rw [if_pos (by kernel_rfl)]
            refine wp_append_own4 (o := { dst := some 58, op := Op.call { callee := Callee.builtin Builtin.append, args := #[Operand.tmp 47, Operand.tmp 57], argTypes := #[37, 37] }, type := 37, pos := "ref.go:39", after := #[{ on := 15, ground := Ground.data }, { on := 25, ground := Ground.data }, { on := 15, ground := Ground.chain }], guard := none }) _ _ _ _ rfl wr.heap.size 3 ti (.int .i64 0) 1 8 Tryz.underlying37 hti hz0 hz1 hz2 rfl (by decide) g34 (k) cap34 (qiL (l.take k)) rfl HR34.out a2 ((n - (k + 1))) (cr - (k + 1)) (qiL (l.drop (k + 1))) rfl (by have := HN.out; simp; omega) (qtail (SB.out W34 HB34.out).2.2 HN.out HA2.out) qiL_one (by unfold maxLen; omega) (by omega) HB34.out.size ?_
            intro g35 cap35 W35 hr35 k35 hg35
            have HB35 := Lib.hid (HB34.out.trans (k35.below HB34.out.size fun b _ e => by rw [e]; exact qown_lo HR34.out))
            have HR35 := Lib.hid hr35
            clear hr35 k35 hg35
            refine hK.out _ _ (SK.out _ HB35.out) (fun hHeld => ?_)
            clear hK K
            (try dsimp only [Act.put]); (try simp only [Act.put, List.setIfInBounds_toArray, List.set_cons_zero, List.set_cons_succ])
            refine wpAnyH_take (i := 27) (oi := { dst := some 59, op := Op.indexAddr 31 (Operand.tmp 35) (Operand.tmp 36), type := 0, pos := "ref.go:39", after := #[{ on := 3, ground := Ground.data }, { on := 4, ground := Ground.data }, { on := 0, ground := Ground.phase }, { on := 1, ground := Ground.phase }, { on := 2, ground := Ground.phase }, { on := 3, ground := Ground.phase }, { on := 4, ground := Ground.phase }, { on := 5, ground := Ground.phase }, { on := 6, ground := Ground.phase }, { on := 7, ground := Ground.phase }, { on := 8, ground := Ground.phase }, { on := 9, ground := Ground.phase }, { on := 10, ground := Ground.phase }, { on := 11, ground := Ground.phase }, { on := 12, ground := Ground.phase }, { on := 13, ground := Ground.phase }, { on := 14, ground := Ground.phase }, { on := 15, ground := Ground.phase }, { on := 16, ground := Ground.phase }, { on := 17, ground := Ground.phase }, { on := 18, ground := Ground.phase }, { on := 19, ground := Ground.phase }, { on := 20, ground := Ground.phase }, { on := 21, ground := Ground.phase }, { on := 22, ground := Ground.phase }, { on := 23, ground := Ground.phase }, { on := 24, ground := Ground.phase }, { on := 25, ground := Ground.phase }, { on := 26, ground := Ground.phase }], guard := none }) (v := ?_) rfl (by kernel_rfl) (by kernel_rfl) (by kernel_rfl) (fun _ _ _ h => h) (Or.inl ⟨by rfl, ?_⟩) (by assumption) ?_
            rotate_left
            · intro w hSw; (try dsimp only at hSw); go_simp; try with_reducible rfl
            (try simp only [Act.put, List.setIfInBounds_toArray, List.set_cons_zero, List.set_cons_succ])
            refine wpAnyH_ready (rs := [28]) (by kernel_rfl) (by simp) ?_
            refine AllReadyH.cons rfl (fun K hK => ?_) (AllReadyH.nil)
            have cB := (SB.out W35 HB35.out).1
            have fB := (SB.out W35 HB35.out).2.1
            go_simp
            go_wp2_with fail
            refine hK.out _ _ (SKs.out _ _ HB35.out) (fun hHeld => ?_)
            clear cB fB
            clear hK K
            (try dsimp only [Act.put]); (try simp only [Act.put, List.setIfInBounds_toArray, List.set_cons_zero, List.set_cons_succ])
            refine wpAnyH_done (by kernel_rfl) ?_ _
            go_wp2
            go_ret
            have hkn2 : k ≤ l.length := by rw [HN.out]; omega
            have hr := HR35.out
            have e1 : k + (n - (k + 1)) = (l.take k ++ l.drop (k + 1)).length := by have := HN.out; simp; omega
            have e2 : qiL (l.take k) ++ qiL (l.drop (k + 1)) = qiL (l.take k ++ l.drop (k + 1)) := by simp [qiL]
            rw [e1, e2] at hr
            have hT := RQ.turn H.out HB35.out HI.out (l' := l.take k ++ l.drop (k + 1)) (by have := HN.out; simp; omega) hr
            rw [← e1] at hT
            refine .inl ⟨rfl, k, HX.out, hnk.out, ?_, hT.2⟩
            rw [show ((W35.setCell ⟨B, i, none⟩ (.slice (some ⟨g35, 0, none⟩) (k + (n - (k + 1))) cap35))).heap.size = W35.heap.size from by simp]
            exact hT.1
          · have cB := (SB.out wD HBD.out).1
            go_simp
            go_wp2_with fail
            refine hK.out _ _ (SK.out _ HBD.out) (fun hHeld => ?_)
            clear cB
            clear hK K
            (try dsimp only [Act.put]); (try simp only [Act.put, List.setIfInBounds_toArray, List.set_cons_zero, List.set_cons_succ])
            refine wpAnyH_take (i := 14) (oi := { dst := some 46, op := Op.slice 37 (Operand.tmp 44) none (some (Operand.tmp 45)) none, type := 37, pos := "ref.go:39", after := #[{ on := 12, ground := Ground.data }, { on := 13, ground := Ground.data }], guard := none }) (v := ?_) rfl (by kernel_rfl) (by kernel_rfl) (by kernel_rfl) (fun _ _ _ h => h) (Or.inl ⟨by rfl, ?_⟩) (by assumption) ?_
            rotate_left
            · intro w hSw; (try dsimp only at hSw); go_simp; try with_reducible rfl
            (try simp only [Act.put, List.setIfInBounds_toArray, List.set_cons_zero, List.set_cons_succ])
            refine wpAnyH_ready (rs := [5]) (by kernel_rfl) (by simp) ?_
            refine AllReadyH.cons rfl (fun K hK => ?_) (AllReadyH.nil)
            go_simp
            go_wp2_with fail
            refine hK.out _ _ (SK.out _ (HBD.out.alloc HBD.out.size _)) (fun hHeld => ?_)
            have HB38 := Lib.hid (HBD.out.alloc HBD.out.size (.cells #[] 3))
            have HR38 := Lib.hid (qown_zero wD wr.heap.size HBD.out.size)
            generalize wD.heap.size = g38 at *
            generalize wD.alloc (.cells #[] 3) = W38 at *
            clear hK K
            (try dsimp only [Act.put]); (try simp only [Act.put, List.setIfInBounds_toArray, List.set_cons_zero, List.set_cons_succ])
            refine wpAnyH_ready (rs := [15]) (by kernel_rfl) (by simp) ?_
            refine AllReadyH.cons rfl (fun K hK => ?_) (AllReadyH.nil)
            rw [if_pos (by kernel_rfl)]
            refine wp_append_own4 (o := { dst := some 47, op := Op.call { callee := Callee.builtin Builtin.append, args := #[Operand.tmp 37, Operand.tmp 46], argTypes := #[37, 37] }, type := 37, pos := "ref.go:39", after := #[{ on := 5, ground := Ground.data }, { on := 14, ground := Ground.data }], guard := none }) _ _ _ _ rfl wr.heap.size 3 ti (.int .i64 0) 1 8 Tryz.underlying37 hti hz0 hz1 hz2 rfl (by decide) g38 (0) 0 ([]) rfl HR38.out (some ⟨b0, o0, none⟩) (k) cr (qiL (l.take k)) rfl (by have := HN.out; simp; omega) (qhead (SB.out W38 HB38.out).2.2) qiL_one (by unfold maxLen; omega) (by omega) HB38.out.size ?_
            intro g39 cap39 W39 hr39 k39 hg39
            have HB39 := Lib.hid (HB38.out.trans (k39.below HB38.out.size fun b _ e => by rw [e]; exact qown_lo HR38.out))
            rw [Nat.zero_add, List.nil_append] at hr39
            have HR39 := Lib.hid hr39
            clear hr39 k39 hg39
            refine hK.out _ _ (SK.out _ HB39.out) (fun hHeld => ?_)
            try simp only [Nat.zero_add]
            clear hK K
            (try dsimp only [Act.put]); (try simp only [Act.put, List.setIfInBounds_toArray, List.set_cons_zero, List.set_cons_succ])
            refine wpAnyH_ready (rs := [26]) (by kernel_rfl) (by simp) ?_
            refine AllReadyH.cons rfl (fun K hK => ?_) (AllReadyH.nil)
            rw [if_pos (by kernel_rfl)]
            refine wp_append_own4 (o := { dst := some 58, op := Op.call { callee := Callee.builtin Builtin.append, args := #[Operand.tmp 47, Operand.tmp 57], argTypes := #[37, 37] }, type := 37, pos := "ref.go:39", after := #[{ on := 15, ground := Ground.data }, { on := 25, ground := Ground.data }, { on := 15, ground := Ground.chain }], guard := none }) _ _ _ _ rfl wr.heap.size 3 ti (.int .i64 0) 1 8 Tryz.underlying37 hti hz0 hz1 hz2 rfl (by decide) g39 (k) cap39 (qiL (l.take k)) rfl HR39.out a2 ((n - (k + 1))) (cr - (k + 1)) (qiL (l.drop (k + 1))) rfl (by have := HN.out; simp; omega) (qtail (SB.out W39 HB39.out).2.2 HN.out HA2.out) qiL_one (by unfold maxLen; omega) (by omega) HB39.out.size ?_
            intro g40 cap40 W40 hr40 k40 hg40
            have HB40 := Lib.hid (HB39.out.trans (k40.below HB39.out.size fun b _ e => by rw [e]; exact qown_lo HR39.out))
            have HR40 := Lib.hid hr40
            clear hr40 k40 hg40
            refine hK.out _ _ (SK.out _ HB40.out) (fun hHeld => ?_)
            clear hK K
            (try dsimp only [Act.put]); (try simp only [Act.put, List.setIfInBounds_toArray, List.set_cons_zero, List.set_cons_succ])
            refine wpAnyH_take (i := 27) (oi := { dst := some 59, op := Op.indexAddr 31 (Operand.tmp 35) (Operand.tmp 36), type := 0, pos := "ref.go:39", after := #[{ on := 3, ground := Ground.data }, { on := 4, ground := Ground.data }, { on := 0, ground := Ground.phase }, { on := 1, ground := Ground.phase }, { on := 2, ground := Ground.phase }, { on := 3, ground := Ground.phase }, { on := 4, ground := Ground.phase }, { on := 5, ground := Ground.phase }, { on := 6, ground := Ground.phase }, { on := 7, ground := Ground.phase }, { on := 8, ground := Ground.phase }, { on := 9, ground := Ground.phase }, { on := 10, ground := Ground.phase }, { on := 11, ground := Ground.phase }, { on := 12, ground := Ground.phase }, { on := 13, ground := Ground.phase }, { on := 14, ground := Ground.phase }, { on := 15, ground := Ground.phase }, { on := 16, ground := Ground.phase }, { on := 17, ground := Ground.phase }, { on := 18, ground := Ground.phase }, { on := 19, ground := Ground.phase }, { on := 20, ground := Ground.phase }, { on := 21, ground := Ground.phase }, { on := 22, ground := Ground.phase }, { on := 23, ground := Ground.phase }, { on := 24, ground := Ground.phase }, { on := 25, ground := Ground.phase }, { on := 26, ground := Ground.phase }], guard := none }) (v := ?_) rfl (by kernel_rfl) (by kernel_rfl) (by kernel_rfl) (fun _ _ _ h => h) (Or.inl ⟨by rfl, ?_⟩) (by assumption) ?_
            rotate_left
            · intro w hSw; (try dsimp only at hSw); go_simp; try with_reducible rfl
            (try simp only [Act.put, List.setIfInBounds_toArray, List.set_cons_zero, List.set_cons_succ])
            refine wpAnyH_ready (rs := [28]) (by kernel_rfl) (by simp) ?_
            refine AllReadyH.cons rfl (fun K hK => ?_) (AllReadyH.nil)
            have cB := (SB.out W40 HB40.out).1
            have fB := (SB.out W40 HB40.out).2.1
            go_simp
            go_wp2_with fail
            refine hK.out _ _ (SKs.out _ _ HB40.out) (fun hHeld => ?_)
            clear cB fB
            clear hK K
            (try dsimp only [Act.put]); (try simp only [Act.put, List.setIfInBounds_toArray, List.set_cons_zero, List.set_cons_succ])
            refine wpAnyH_done (by kernel_rfl) ?_ _
            go_wp2
            go_ret
            have hkn2 : k ≤ l.length := by rw [HN.out]; omega
            have hr := HR40.out
            have e1 : k + (n - (k + 1)) = (l.take k ++ l.drop (k + 1)).length := by have := HN.out; simp; omega
            have e2 : qiL (l.take k) ++ qiL (l.drop (k + 1)) = qiL (l.take k ++ l.drop (k + 1)) := by simp [qiL]
            rw [e1, e2] at hr
            have hT := RQ.turn H.out HB40.out HI.out (l' := l.take k ++ l.drop (k + 1)) (by have := HN.out; simp; omega) hr
            rw [← e1] at hT
            refine .inl ⟨rfl, k, HX.out, hnk.out, ?_, hT.2⟩
            rw [show ((W40.setCell ⟨B, i, none⟩ (.slice (some ⟨g40, 0, none⟩) (k + (n - (k + 1))) cap40))).heap.size = W40.heap.size from by simp]
            exact hT.1
      · have hxb : ((x : Int) == t) = false := by rw [beq_eq_false_iff_ne]; exact hxt
        go_wp2_with fail
        go_roundw
        case rel => exact ⟨k + 1, by omega, by go_num, Lib.hid (not_in_next HX.out hnk.out hxt), trivial⟩
        case measure => simp [intOf]; omega
    · obtain rfl : k = n := by omega
      have hkI : ¬ (k : Int) < (k : Int) := by omega
      go_wp2_with fail
      go_ret
      refine .inr ⟨rfl, fun hm => ?_, rfl⟩
      have := hnk.out
      rw [← HN.out, List.take_length] at this
      exact this t hm rfl

end Go.Proofs.YtldofbkjjmnooaaGreat
/- What tasks may yet do, as trees: functions from the answers so far to what is next. No program is named here. -/
namespace Go.Proofs.YtldofbkjjmnooaaGreat
set_option linter.unusedVariables false
/-- done, with a value; or ahead of an operation -/
inductive Nd (A : Type)
  | ret (v : Int)
  | op (x : A)
abbrev Tre (A : Type) := List Int → Nd A
def retT {A : Type} (v : Int) : Tre A := fun _ => .ret v
def opT {A : Type} (x : A) (k : Int → Tre A) : Tre A := fun p => match p with
  | [] => .op x
  | v :: p => k v p
def bindP {A : Type} (k : Int → Tre A) : List Int → Tre A → Nd A
  | [], T => match T [] with
    | .ret v => k v []
    | .op x => .op x
  | v :: p, T => match T [] with
    | .ret u => k u (v :: p)
    | .op _ => bindP k p (fun q => T (v :: q))
/-- one behind the other -/
def bindT {A : Type} (k : Int → Tre A) (T : Tre A) : Tre A := fun p => bindP k p T
theorem bindT_ret {A : Type} (k : Int → Tre A) (v : Int) : bindT k (retT v) = k v := by
  funext p
  cases p <;> simp [bindT, bindP, retT]
theorem bindT_op {A : Type} (k : Int → Tre A) (x : A) (g : Int → Tre A) : bindT k (opT x g) = opT x (fun v => bindT k (g v)) := by
  funext p
  cases p <;> simp [bindT, bindP, opT]
theorem retT_inj {A : Type} {u v : Int} (h : (retT u : Tre A) = retT v) : u = v := by
  have := congrFun h []
  simpa [retT] using this
theorem opT_inj {A : Type} {x y : A} {g h : Int → Tre A} (e : opT x g = opT y h) : x = y ∧ g = h := by
  refine ⟨by simpa [opT] using congrFun e [], ?_⟩
  funext v p
  simpa [opT] using congrFun e (v :: p)
theorem ret_op {A : Type} {v : Int} {x : A} {g : Int → Tre A} (e : retT v = opT x g) : False := by
  have := congrFun e []
  simp [retT, opT] at this
theorem bindT_assoc {A : Type} (h k : Int → Tre A) (T : Tre A) : bindT h (bindT k T) = bindT (fun v => bindT h (k v)) T := by
  funext p
  induction p generalizing T with
  | nil =>
    cases e : T [] with
    | ret v => simp [bindT, bindP, e]
    | op x => simp [bindT, bindP, e]
  | cons u p ih =>
    have ih' := ih (fun q => T (u :: q))
    cases e : T [] with
    | ret v =>
      simp only [bindT, bindP, e]
    | op x =>
      simp only [bindT, bindP, e] at ih' ⊢
      exact ih'
/-- tries again and again -/
def spinP (x : Itm) : List Int → Nd Itm
  | [] => .op x
  | v :: p => if v = 0 ∨ v = -2147483648 then spinP x p else .ret v
def spinT (x : Itm) : Tre Itm := fun p => spinP x p
theorem spinT_eq (x : Itm) : spinT x = opT x (fun v => if v = 0 ∨ v = -2147483648 then spinT x else retT v) := by
  funext p
  cases p with
  | nil => rfl
  | cons v p =>
    simp only [spinT, spinP, opT]
    split <;> rfl
theorem spin_end (x : Itm) : bindT retT (spinT x) = spinT x := by
  funext p
  have key : ∀ q, bindP retT q (spinT x) = spinT x q := by
    intro q
    induction q with
    | nil => rfl
    | cons v q ih =>
      simp only [bindP, spinT, spinP]
      by_cases h : v = 0 ∨ v = -2147483648
      · simp only [h, if_true]
        exact ih
      · simp only [h, if_false]
        cases q <;> simp [bindP, retT]
  exact key p
def loopK (x : Itm) (v : Int) : Tre Itm := if v = -2147483648 then spinT x else retT v
def spinK (v : Int) : Tre Itm := if v = 0 then retT (-2147483648) else retT v
theorem spinT_eq2 (x : Itm) : spinT x = opT x (fun v => bindT (loopK x) (spinK v)) := by
  rw [spinT_eq]
  congr 1
  funext v
  unfold spinK
  by_cases h : v = 0
  · rw [if_pos (.inl h), if_pos h, bindT_ret]
    simp [loopK]
  · rw [if_neg h, bindT_ret]
    unfold loopK
    by_cases h2 : v = -2147483648
    · rw [if_pos (.inr h2), if_pos h2]
    · rw [if_neg (fun hh => hh.elim h h2), if_neg h2]
/-- the items of a list, one behind the other -/
def itmT : List Itm → Int → Tre Itm
  | [], v => retT v
  | x :: r, v => if x.kind = 7 then itmT r x.a else if x.kind = 4 then bindT (itmT r) (spinT x) else opT x (itmT r)
theorem itmT_append : ∀ (s r : List Itm) (v : Int), itmT (s ++ r) v = bindT (itmT r) (itmT s v)
  | [], r, v => by simp only [List.nil_append, itmT, bindT_ret]
  | x :: s, r, v => by
    simp only [List.cons_append, itmT]
    split
    · exact itmT_append s r x.a
    · split
      · rw [bindT_assoc]
        congr 1
        funext u
        exact itmT_append s r u
      · rw [bindT_op]
        congr 1
        funext u
        exact itmT_append s r u
theorem itmT_on : ∀ (r : List Itm) (v : Int), itmT (onS r v).1 (onS r v).2 = itmT r v
  | [], v => rfl
  | x :: r, v => by
    by_cases h : x.kind = 7
    · rw [onS_ready h, itmT_on r x.a]
      simp [itmT, h]
    · rw [onS_other h]
end Go.Proofs.YtldofbkjjmnooaaGreat
