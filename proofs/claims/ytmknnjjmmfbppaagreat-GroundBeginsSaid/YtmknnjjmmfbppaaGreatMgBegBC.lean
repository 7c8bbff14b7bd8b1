/- Package task: Seq, of tasks by what they may yet do. -/
import Derived.Test.YtmknnjjmmfbppaaGreatMgBegBB
import Derived.Test.YtmknnjjmmfbppaaGreatMgBegAX
import Derived.Test.YtmknnjjmmfbppaaGreatMgBegAD
namespace Go.Proofs.YtmknnjjmmfbppaaGreat
open Go.ChangeShapes Go.WideShapes Go.ChangeAt Go.RowKit
set_option linter.unusedVariables false
set_option maxRecDepth 100000
set_option linter.unusedSimpArgs false
/-- one behind the other, with the last one's value -/
def seqT {A : Type} : List (Tre A) → Tre A
  | [] => retT 0
  | [T] => bindT retT T
  | T :: U :: r => bindT (fun _ => seqT (U :: r)) T
theorem seqT_skip {A : Type} (v : Int) (U : Tre A) (r : List (Tre A)) : seqT (retT v :: U :: r) = seqT (U :: r) := by simp only [seqT, bindT_ret]
/-- a new task -/
def MadeQ {A : Type} (O : Ops A) (w : World) (Q : Nat → Prop) (T : Tre A) (t : Nat) (w' : World) : Prop := w.heap.size ≤ t ∧ TaskF O w' (fun b => Q b ∧ b ≠ t) (some ⟨t, 0, none⟩) T ∧ Below w.heap.size w w'
theorem Made6.madeQ {w w' : World} {C P : Nat} {Q : Nat → Prop} {r : List Itm} {v : Int} {t : Nat} (h : Made6 w C P Q r v t w') : MadeQ (cellOps C P) w Q (itmT r v) t w' := ⟨h.1, TaskC.tree h.2.1, h.2.2⟩
theorem MadeQ.of {A : Type} {O : Ops A} {w w1 w' : World} {Q : Nat → Prop} {T : Tre A} {t : Nat} (h : MadeQ O w1 Q T t w') (hb : Below w.heap.size w w1) : MadeQ O w Q T t w' := ⟨Nat.le_trans hb.size h.1, h.2.1, hb.trans (h.2.2.mono hb.size)⟩
theorem MadeQ.task {A : Type} {O : Ops A} {w w' : World} {Q : Nat → Prop} {T : Tre A} {t : Nat} (h : MadeQ O w Q T t w') : TaskF O w' Q (some ⟨t, 0, none⟩) T :=
  TaskF.keep h.2.1 (Keep.refl (fun _ => False) w') (fun _ _ h => h) (fun _ _ h => h) (fun b _ h => h.1)
theorem TaskF.at {A : Type} {O : Ops A} {w w1 : World} {Q : Nat → Prop} {n : Option Addr} {T : Tre A} (h : TaskF O w Q n T) (hb : Below w.heap.size w w1) : TaskF O w1 Q n T :=
  TaskF.keep h (Keep.ofBelow (Q := fun _ => False) hb) (fun _ _ h => h) (fun _ _ h => h) (fun b _ h => h)
theorem MadeQ.lt {A : Type} {O : Ops A} {w w' : World} {Q : Nat → Prop} {T : Tre A} {t : Nat} (h : MadeQ O w Q T t w') : t < w'.heap.size := TaskT.lt h.2.1
theorem MadeQ.mono {A : Type} {O : Ops A} {w w' : World} {Q Q' : Nat → Prop} {T : Tre A} {t : Nat} (h : MadeQ O w Q T t w') (hq : ∀ b, b < w'.heap.size → Q b → Q' b) : MadeQ O w Q' T t w' :=
  ⟨h.1, TaskF.keep h.2.1 (Keep.refl (fun _ => False) w') (fun _ _ h => h) (fun _ _ h => h) (fun b hb h => ⟨hq b hb h.1, h.2⟩), h.2.2⟩
/-- a row of tasks -/
def RowT {A : Type} (O : Ops A) (w : World) (Q : Nat → Prop) (B o : Nat) (L : List (Option Addr × Tre A)) : Prop :=
  ∀ (i : Nat) x, L[i]? = some x → w.cell? ⟨B, o + i, none⟩ = some (.pointer x.1) ∧ TaskF O w Q x.1 x.2 ∧ InQ (fun k => k < w.heap.size) x.1
theorem RowT.tail {A : Type} {O : Ops A} {w : World} {Q : Nat → Prop} {B o : Nat} {x : Option Addr × Tre A} {M : List (Option Addr × Tre A)} (h : RowT O w Q B o (x :: M)) : RowT O w Q B (o + 1) M :=
  fun i y hy => by have := h (i + 1) y (by simpa using hy); rwa [show o + (i + 1) = o + 1 + i by omega] at this
theorem RowT.keep {A : Type} {O : Ops A} {w w1 : World} {Q Q' F : Nat → Prop} {B o : Nat} {L : List (Option Addr × Tre A)} (h : RowT O w Q B o L) (hk : Keep F w w1) (hd : ∀ b, Q b → ¬ F b) (hB : ¬ F B) (hn : ∀ (i : Nat) x, L[i]? = some x → InQ (fun k => ¬ F k) x.1) (hq : ∀ b, b < w.heap.size → Q b → Q' b) : RowT O w1 Q' B o L := fun i x hx => by
  obtain ⟨h1, h2, h3⟩ := h i x hx
  exact ⟨cell_keep6 h1 hk hB, TaskF.keep h2 hk hd (hn i x hx) hq, fun k e => Nat.lt_of_lt_of_le (h3 k e) hk.size⟩
theorem RowT.at {A : Type} {O : Ops A} {w w1 : World} {Q : Nat → Prop} {B o : Nat} {L : List (Option Addr × Tre A)} (h : RowT O w Q B o L) (hb : Below w.heap.size w w1) : RowT O w1 Q B o L :=
  h.keep (Keep.ofBelow (Q := fun _ => False) hb) (fun _ _ h => h) (fun h => h) (fun _ _ _ _ _ h => h) (fun _ _ h => h)
theorem TaskF.either {A : Type} {O : Ops A} {w : World} {Q : Nat → Prop} {n : Option Addr} {T : Tre A} (h : TaskF O w Q n T) : (∃ v, T = retT v ∧ DoneV w n v) ∨ ∃ k d p r, n = some ⟨k, 0, none⟩ ∧ Live w k d p r := by
  rcases h with ⟨v, e, h⟩ | ⟨x, κ, k, d, p, rest, fs, e, rfl, h1, h2, h3, h4⟩
  · exact .inl ⟨v, e, h⟩
  · exact .inr ⟨k, d, p, rest, rfl, h1⟩
/-- what is said of inOrder for shorter lists -/
def OrdT {A : Type} (O : Ops A) (k : Nat) : Prop := ∀ (L : List (Option Addr × Tre A)) (Q : Nat → Prop) (a : Option Addr) (cap : Nat) (w : World), L.length ≤ k → (L ≠ [] → ∃ B o, a = some ⟨B, o, none⟩ ∧ Q B ∧ RowT O w Q B o L ∧ ∀ (i : Nat) x, L[i]? = some x → InQ Q x.1) → L.length ≤ 1000 → L.length ≤ cap → cap ≤ maxLen → (∀ k, w.heap.size ≤ k → Q k) →
  Calls Tryz.prog 196 #[.slice a L.length cap] w fun e w' => ∃ t, e = .returned (pV t) ∧ MadeQ O w Q (seqT (L.map (·.2))) t w'
theorem order1T {A : Type} (O : Ops A) (k : Nat) (hO : OrdT O k) (Q : Nat → Prop) (L : List (Option Addr × Tre A)) (bl B o cap : Nat) (v : Int) (w : World) (hL : L ≠ []) (hk : L.length ≤ k) (hb : Blk w bl 250 #[.slice (some ⟨B, o, none⟩) (L.length + 1) cap])
    (hB : Q B) (hR : RowT O w Q B (o + 1) L) (hI : ∀ (i : Nat) x, L[i]? = some x → InQ Q x.1) (hn : L.length ≤ 1000) (hc : L.length + 1 ≤ cap) (hm : cap ≤ maxLen) (hQ : ∀ k, w.heap.size ≤ k → Q k) :
    Calls Tryz.prog 252 #[.int .i64 v, pV bl] w fun e w' => ∃ t, e = .returned (pV t) ∧ MadeQ O w Q (seqT (L.map (·.2))) t w' := by
  have c0 : w.cell? ⟨bl, 0, none⟩ = some (.slice (some ⟨B, o, none⟩) (L.length + 1) cap) := hb.cell 0 _ rfl
  have h1 : 1 ≤ L.length := by
    cases L with
    | nil => exact absurd rfl hL
    | cons x L => simp
  have hsl := slice_from B o (L.length + 1) cap (by omega) (by omega)
  have HH := Lib.hid (hO L Q (some ⟨B, o + 1, none⟩) (cap - 1) w hk (fun _ => ⟨B, o + 1, rfl, hB, hR, hI⟩) hn (by omega) (by omega) hQ)
  clear hR hB hQ hm hc hb hI hO
  simp only [Nat.add_sub_cancel] at hsl
  generalize L.length = n at *
  go_enter Tryz.func252, Tryz.ntmps252
  go_wp2_with (go_at_call 196; refine HH.out.mono ?_; rintro e w2 ⟨t, rfl, h2⟩)
  go_ret
  exact ⟨t, rfl, h2⟩
set_option maxHeartbeats 1000000 in
theorem inOrderT {A : Type} (O : Ops A) : ∀ k, OrdT O k := by
  intro k
  induction k with
  | zero =>
    intro L Q a cap w hk ha hn hc hm hQ
    obtain rfl : L = [] := List.length_eq_zero_iff.1 (by omega)
    go_enter Tryz.func196, Tryz.ntmps196
    go_upto_region 1 with fail
    generalize hW : (w.alloc _) = W
    have bW : Below w.heap.size w W := by rw [← hW]; go_grown
    have q0 : Blk W w.heap.size 250 #[.slice a 0 cap] := by rw [← hW]; exact Blk.new w _ _
    clear hW
    have c0 : W.cell? ⟨w.heap.size, 0, none⟩ = some (.slice a 0 cap) := q0.cell 0 _ rfl
    have sW := bW.size
    clear q0
    go_loopg [3] 0 (fun k _ wr => k = 0 ∧ wr = W)
    case atStart => exact ⟨rfl, rfl⟩
    case round =>
      obtain ⟨_, rfl⟩ := hrel
      go_wp2_with (go_at_call 88; refine (ready_any _ _).mono ?_; rintro e w2 ⟨t, rfl, h1, h2, h3⟩)
      go_ret
      exact ⟨t, rfl, by omega, .inl ⟨0, rfl, .inr ⟨t, rfl, h2⟩⟩, bW.trans (h3.mono sW)⟩
  | succ k ih =>
    intro L Q a cap w hk ha hn hc hm hQ
    have hmf : ∀ (fn : Fn) (first cap : Array Value) (w : World), (Instr.makeFunc fn first cap).run Tryz.prog w = .ok (.func fn first cap) w := fun _ _ _ _ => rfl
    have HQ := Lib.hid hQ
    have HA := Lib.hid ha
    have HM := Lib.hid hm
    have IH := Lib.hid ih
    have HK := Lib.hid hk
    clear hQ ha hm ih hk
    go_enter Tryz.func196, Tryz.ntmps196
    go_upto_region 1 with fail
    generalize hW : (w.alloc _) = W
    have bW : Below w.heap.size w W := by rw [← hW]; go_grown
    have q0 : Blk W w.heap.size 250 #[.slice a L.length cap] := by rw [← hW]; exact Blk.new w _ _
    clear hW
    have hl0 := q0.lt
    have hsl := slice_from
    go_loopg [3] L.length (fun k _ wr => ∃ M a' cap', k = M.length ∧ Blk wr w.heap.size 250 #[.slice a' M.length cap'] ∧ Hid (M ≠ [] → ∃ B o, a' = some ⟨B, o, none⟩ ∧ Q B ∧ RowT O w Q B o M ∧ ∀ (i : Nat) x, M[i]? = some x → InQ Q x.1) ∧ M.length ≤ cap' ∧ Hid (cap' ≤ maxLen) ∧ M.length ≤ 1000 ∧ Hid (M.length ≤ L.length) ∧ Hid (seqT (M.map (·.2)) = seqT (L.map (·.2))) ∧ Below w.heap.size w wr)
    case atStart => exact ⟨L, a, cap, rfl, q0, Lib.hid HA.out, hc, HM, hn, Lib.hid (Nat.le_refl _), Lib.hid rfl, bW⟩
    case round =>
      clear q0 HA HM hc hn hl0
      obtain ⟨M, a', cap', hk, hB, hA, hc, hm, hn, hML, hR, hW⟩ := hrel
      have hsz := hW.size
      have z0 := hB.free 0
      have HB := Lib.hid hB
      have kk : Keep (fun _ => False) w wr := Keep.ofBelow hW
      match M, hk, hB, hA, hc, hm, hn, hML, hR, HB with
      | [], hk, hB, hA, hc, hm, hn, hML, hR, HB =>
        have c0 : wr.cell? ⟨w.heap.size, 0, none⟩ = some (.slice a' 0 cap') := hB.cell 0 _ rfl
        clear hB z0
        go_wp2_with (go_at_call 88; refine (ready_any _ _).mono ?_; rintro e w2 ⟨t, rfl, h1, h2, h3⟩)
        go_ret
        refine ⟨t, rfl, ?_⟩
        rw [← hR.out]
        exact ⟨by omega, .inl ⟨0, rfl, .inr ⟨t, rfl, h2⟩⟩, hW.trans (h3.mono hsz)⟩
      | [x], hk, hB, hA, hc, hm, hn, hML, hR, HB =>
        obtain ⟨B, o, rfl, hQB, hrow, hiq⟩ := hA.out (by simp)
        have c0 : wr.cell? ⟨w.heap.size, 0, none⟩ = some (.slice (some ⟨B, o, none⟩) 1 cap') := hB.cell 0 _ rfl
        have e0 : wr.cell? ⟨B, o, none⟩ = some (.pointer x.1) := by have := (hrow 0 x rfl).1; exact cell_keep6 this kk (fun h => h)
        obtain ⟨_, hT, hlt⟩ := hrow 0 x rfl
        have hTH := Lib.hid (thenT_any O x.1 252 #[pV w.heap.size] x.2 retT Q wr (hT.at hW) (fun j e => Nat.lt_of_lt_of_le (hlt j e) hsz) (fun k hk => HQ.out k (by omega)) (by
          intro w3 Q1 f hb hf hlo hqf hqq
          refine contT_of O w3 Q1 f 252 _ _ hqf hf call_order1 fun v w4 hw => ?_
          have hbk : Blk w4 w.heap.size 250 #[.slice (some ⟨B, o, none⟩) 1 cap'] := (HB.out.below hb HB.out.lt).keep hw (fun h => h (hqq _ HB.out.lt (HQ.out _ (Nat.le_refl _))))
          refine (order1_last w.heap.size _ cap' v w4 hbk).mono ?_
          rintro e w5 ⟨t, rfl, h1, h2, h3⟩
          exact ⟨some ⟨t, 0, none⟩, rfl, h3, .inl ⟨v, rfl, h2⟩, fun j e => by injection e with e; injection e with e; exact .inr (by omega)⟩))
        have hei := Lib.hid (hT.at hW).either
        clear hB hrow hA hT z0
        have hD : Hid (∃ b, Calls Tryz.prog 38 #[.pointer x.1] wr fun e w' => e = .returned (.bool b) ∧ wr = w') := Lib.hid (by
          rcases hei.out with ⟨v, _, hd⟩ | ⟨k, d, p, r, e, hL⟩
          · exact ⟨true, doneV_done _ v wr hd⟩
          · rw [e]; exact ⟨false, live_done k d p r wr hL⟩)
        obtain ⟨b0, hD⟩ := hD.out
        have HD := Lib.hid hD
        clear hD
        go_wp2_with (first | (go_at_call 38; refine HD.out.mono ?_; rintro e w3 ⟨rfl, rfl⟩) | (go_at_call 79; refine hTH.out.mono ?_; rintro e w2 ⟨t, rfl, h1, h2, h3⟩))
        go_ret
        refine ⟨t, rfl, ?_⟩
        rw [← hR.out]
        exact ⟨by omega, h2, hW.trans (h3.mono hsz)⟩
      | x :: y :: M, hk, hB, hA, hc, hm, hn, hML, hR, HB =>
        obtain ⟨B, o, rfl, hQB, hrow, hiq⟩ := hA.out (by simp)
        have c0 : wr.cell? ⟨w.heap.size, 0, none⟩ = some (.slice (some ⟨B, o, none⟩) (M.length + 1 + 1) cap') := hB.cell 0 _ rfl
        have e0 : wr.cell? ⟨B, o, none⟩ = some (.pointer x.1) := by have := (hrow 0 x rfl).1; exact cell_keep6 this kk (fun h => h)
        obtain ⟨_, hT, hlt⟩ := hrow 0 x rfl
        have hRow := Lib.hid hrow
        have hIq := Lib.hid hiq
        clear hB hrow hA hiq
        simp only [List.length_cons] at hc hn
        have hsl2 := hsl B o (M.length + 1 + 1) cap' (by omega) (by omega)
        rcases (hT.at hW).either with ⟨v, ev, hd⟩ | ⟨k0, d0, p0, r0, hx1, hL⟩
        · have hD := Lib.hid (doneV_done x.1 v wr hd)
          have HE := Lib.hid ev
          clear hd hsl hT ev
          go_wp2_with (go_at_call 38; refine hD.out.mono ?_; rintro e w3 ⟨rfl, rfl⟩)
          go_roundg (M.length + 1)
          case measure => simp only [List.length_cons] at hk; omega
          case rel =>
            refine ⟨y :: M, some ⟨B, o + 1, none⟩, cap' - 1, rfl, ?_, Lib.hid (fun _ => ⟨B, o + 1, rfl, hQB, hRow.out.tail, fun i z hz => hIq.out (i + 1) z (by simpa using hz)⟩), by simp only [List.length_cons]; omega, Lib.hid (by have := hm.out; omega), by simp only [List.length_cons]; omega, Lib.hid (by have := hML.out; simp only [List.length_cons] at this ⊢; omega), Lib.hid (by rw [← hR.out]; simp only [List.map_cons]; rw [HE.out, seqT_skip]), hW.setCell (p := ⟨w.heap.size, 0, none⟩) (Nat.le_refl _) _⟩
            have := HB.out.set 0 (.slice (some ⟨B, o + 1, none⟩) (M.length + 1) (cap' - 1))
            exact this
        · clear z0 hsl hsl2
          have hBlt := cell_lt6 (hRow.out 0 x rfl).1
          have hTH := Lib.hid (thenT_any O x.1 252 #[pV w.heap.size] x.2 (fun _ => seqT ((y :: M).map (·.2))) Q wr (hT.at hW) (fun j e => Nat.lt_of_lt_of_le (hlt j e) hsz) (fun k hk => HQ.out k (by omega)) (by
            intro w3 Q1 f hb hf hlo hqf hqq
            have hq0 : ∀ b, b < w.heap.size → Q b → Q1 b := fun b hb h => hqq b (by omega) h
            refine contT_of O w3 Q1 f 252 _ _ hqf hf call_order1 fun v w4 hw => ?_
            have hbk : Blk w4 w.heap.size 250 #[.slice (some ⟨B, o, none⟩) ((y :: M).length + 1) cap'] := (HB.out.below hb HB.out.lt).keep hw (fun h => h (hqq _ HB.out.lt (HQ.out _ (Nat.le_refl _))))
            have s3 := hb.size
            have k04 : Keep (fun b => ¬ (Q b ∧ b < w.heap.size)) w w4 := (kk.mono (fun _ _ h => h.elim)).step (((Keep.ofBelow (Q := fun _ => False) hb).mono (Q' := fun b => ¬ Q1 b) (fun _ _ h => h.elim)).trans hw) (fun i hi h hh => h (hq0 i hi hh.1))
            have hRT : RowT O w (fun b => Q b ∧ b < w.heap.size) B (o + 1) (y :: M) := hRow.out.tail.keep (Keep.refl (fun _ => False) w) (fun _ _ h => h) (fun h => h) (fun _ _ _ _ _ h => h) (fun b hb h => ⟨h, hb⟩)
            refine (order1T O k IH.out (fun b => (Q1 b ∧ b < w3.heap.size) ∨ w4.heap.size ≤ b) (y :: M) w.heap.size B o cap' v w4 (by simp) (by have h1 := hML.out; have h2 := HK.out; simp only [List.length_cons] at h1 h2 ⊢; omega) hbk (.inl ⟨hq0 B hBlt hQB, by omega⟩) (hRT.keep k04 (fun b h hn => hn h) (fun h => h ⟨hQB, hBlt⟩) (fun i z hz j e h => h ⟨hIq.out (i + 1) z (by simpa using hz) j e, (hRow.out (i + 1) z (by simpa using hz)).2.2 j e⟩) (fun b hb h => .inl ⟨hq0 b hb h.1, by omega⟩)) (fun i z hz j e => .inl ⟨hq0 j ((hRow.out (i + 1) z (by simpa using hz)).2.2 j e) (hIq.out (i + 1) z (by simpa using hz) j e), by have := (hRow.out (i + 1) z (by simpa using hz)).2.2 j e; omega⟩) (by simp only [List.length_cons]; omega) (by simp only [List.length_cons]; omega) hm.out (fun k hk => .inr hk)).mono ?_
            rintro e w5 ⟨t, rfl, hM⟩
            exact ⟨some ⟨t, 0, none⟩, rfl, hM.2.2, hM.task, fun j e => by injection e with e; injection e with e; rw [← e]; exact .inr hM.1⟩))
          have hx2 : Value.pointer x.1 = pV k0 := by rw [hx1]
          have hD := Lib.hid (live_done k0 d0 p0 r0 wr hL)
          rw [hx2] at hTH e0
          clear hL hT hx1 hx2
          go_wp2_with (first | (go_at_call 38; refine hD.out.mono ?_; rintro e w3 ⟨rfl, rfl⟩) | (go_at_call 79; refine hTH.out.mono ?_; rintro e w2 ⟨t, rfl, h1, h2, h3⟩))
          go_ret
          refine ⟨t, rfl, ?_⟩
          rw [← hR.out]
          exact ⟨by omega, h2, hW.trans (h3.mono hsz)⟩
/-- the tasks of a row, one behind the other -/
theorem seqT_any {A : Type} (O : Ops A) (Q : Nat → Prop) (L : List (Option Addr × Tre A)) (B o cap : Nat) (w : World) (hne : L ≠ []) (hl : L.length ≤ 1000) (hR : RowT O w Q B o L) (hI : ∀ (i : Nat) x, L[i]? = some x → InQ Q x.1) (hQ : ∀ k, w.heap.size ≤ k → Q k) :
    Calls Tryz.prog 138 #[.slice (some ⟨B, o, none⟩) L.length cap] w fun e w' => ∃ t, e = .returned (pV t) ∧ MadeQ O w Q (seqT (L.map (·.2))) t w' := by
  have HC := Lib.hid (clone_any (L.map (·.1)) B o cap w (by simpa using hne) (by simpa using hl) (fun i x hx => by
    rw [List.getElem?_map] at hx
    obtain ⟨y, hy, rfl⟩ := Option.map_eq_some_iff.1 hx
    exact (hR i y hy).1))
  have HI := Lib.hid fun W g c2 (hb : Below w.heap.size w W) (hg : w.heap.size ≤ g) (hc : L.length ≤ c2) (hm : c2 ≤ maxLen) (hcl : ∀ i x, (L.map (·.1))[i]? = some x → W.cell? ⟨g, i, none⟩ = some (.pointer x)) =>
    inOrderT O L.length L Q (some ⟨g, 0, none⟩) c2 W (Nat.le_refl _) (fun _ => ⟨g, 0, rfl, hQ g hg, fun i x hx => ⟨by rw [Nat.zero_add]; exact hcl i x.1 (by rw [List.getElem?_map, hx]; rfl), (hR i x hx).2.1.at hb, fun k e => Nat.lt_of_lt_of_le ((hR i x hx).2.2 k e) hb.size⟩, hI⟩) hl hc hm (fun k hk => hQ k (Nat.le_trans hb.size hk))
  rw [List.length_map] at HC
  clear hR hQ hI
  go_enter Tryz.func138, Tryz.ntmps138
  go_wp2_with (first | (go_at_call 197; refine HC.out.mono ?_; rintro e w2 ⟨g, c2, rfl, h1, h2, h3, h4, _, h5⟩; have H2 := Lib.hid (HI.out w2 g c2 h5 h1 h2 h3 h4)) | (go_at_call 196; refine H2.out.mono ?_; rintro e w3 ⟨t, rfl, h6⟩))
  go_ret
  exact ⟨t, rfl, h6.of h5⟩
/-- .. of a list that is written out -/
theorem seqT_two {A : Type} (O : Ops A) (Q : Nat → Prop) (T1 T2 : Tre A) (t1 t2 : Nat) (w : World) (h1 : TaskF O w Q (some ⟨t1, 0, none⟩) T1) (h2 : TaskF O w Q (some ⟨t2, 0, none⟩) T2) (q1 : Q t1) (q2 : Q t2) (hQ : ∀ k, w.heap.size ≤ k → Q k) :
    Calls Tryz.prog 138 #[.slice (some ⟨w.heap.size, 0, none⟩) 2 2] (w.alloc (.cells #[pV t1, pV t2] 69)) fun e w' => ∃ t, e = .returned (pV t) ∧ MadeQ O w Q (seqT [T1, T2]) t w' := by
  have hB := Blk.new w 69 #[pV t1, pV t2]
  have hb : Below w.heap.size w (w.alloc (.cells #[pV t1, pV t2] 69)) := (Below.refl _ w).alloc (Nat.le_refl _) _
  have l1 := TaskT.lt h1
  have l2 := TaskT.lt h2
  have hi : ∀ (P : Nat → Prop), P t1 → P t2 → ∀ (i : Nat) (x : Option Addr × Tre A), [((some ⟨t1, 0, none⟩ : Option Addr), T1), (some ⟨t2, 0, none⟩, T2)][i]? = some x → InQ P x.1 := fun P p1 p2 i x hx k e => by
    match i, hx with
    | 0, hx => simp at hx; subst hx; simp at e; exact e ▸ p1
    | 1, hx => simp at hx; subst hx; simp at e; exact e ▸ p2
    | (i + 2), hx => simp at hx
  refine (seqT_any O Q [((some ⟨t1, 0, none⟩ : Option Addr), T1), (some ⟨t2, 0, none⟩, T2)] w.heap.size 0 2 _ (by simp) (by simp) (fun i x hx => ?_) (hi Q q1 q2) (fun k hk => hQ k (by rw [World.size_alloc] at hk; omega))).mono ?_
  · refine ⟨?_, ?_, fun k e => Nat.lt_of_lt_of_le (hi (fun k => k < w.heap.size) l1 l2 i x hx k e) hb.size⟩
    · match i, hx with
      | 0, hx => simp at hx; subst hx; exact hB.cell 0 _ rfl
      | 1, hx => simp at hx; subst hx; exact hB.cell 1 _ rfl
      | (i + 2), hx => simp at hx
    · match i, hx with
      | 0, hx => simp at hx; subst hx; exact h1.at hb
      | 1, hx => simp at hx; subst hx; exact h2.at hb
      | (i + 2), hx => simp at hx
  · rintro e w' ⟨t, rfl, h⟩
    exact ⟨t, rfl, h.of hb⟩
theorem seqT_four {A : Type} (O : Ops A) (Q : Nat → Prop) (T1 T2 T3 T4 : Tre A) (t1 t2 t3 t4 : Nat) (w : World) (h1 : TaskF O w Q (some ⟨t1, 0, none⟩) T1) (h2 : TaskF O w Q (some ⟨t2, 0, none⟩) T2) (h3 : TaskF O w Q (some ⟨t3, 0, none⟩) T3) (h4 : TaskF O w Q (some ⟨t4, 0, none⟩) T4) (q1 : Q t1) (q2 : Q t2) (q3 : Q t3) (q4 : Q t4) (hQ : ∀ k, w.heap.size ≤ k → Q k) :
    Calls Tryz.prog 138 #[.slice (some ⟨w.heap.size, 0, none⟩) 4 4] (w.alloc (.cells #[pV t1, pV t2, pV t3, pV t4] 69)) fun e w' => ∃ t, e = .returned (pV t) ∧ MadeQ O w Q (seqT [T1, T2, T3, T4]) t w' := by
  have hB := Blk.new w 69 #[pV t1, pV t2, pV t3, pV t4]
  have hb : Below w.heap.size w (w.alloc (.cells #[pV t1, pV t2, pV t3, pV t4] 69)) := (Below.refl _ w).alloc (Nat.le_refl _) _
  have l1 := TaskT.lt h1
  have l2 := TaskT.lt h2
  have l3 := TaskT.lt h3
  have l4 := TaskT.lt h4
  have hi : ∀ (P : Nat → Prop), P t1 → P t2 → P t3 → P t4 → ∀ (i : Nat) (x : Option Addr × Tre A), [((some ⟨t1, 0, none⟩ : Option Addr), T1), (some ⟨t2, 0, none⟩, T2), (some ⟨t3, 0, none⟩, T3), (some ⟨t4, 0, none⟩, T4)][i]? = some x → InQ P x.1 := fun P p1 p2 p3 p4 i x hx k e => by
    match i, hx with
    | 0, hx => simp at hx; subst hx; simp at e; exact e ▸ p1
    | 1, hx => simp at hx; subst hx; simp at e; exact e ▸ p2
    | 2, hx => simp at hx; subst hx; simp at e; exact e ▸ p3
    | 3, hx => simp at hx; subst hx; simp at e; exact e ▸ p4
    | (i + 4), hx => simp at hx
  refine (seqT_any O Q [((some ⟨t1, 0, none⟩ : Option Addr), T1), (some ⟨t2, 0, none⟩, T2), (some ⟨t3, 0, none⟩, T3), (some ⟨t4, 0, none⟩, T4)] w.heap.size 0 4 _ (by simp) (by simp) (fun i x hx => ?_) (hi Q q1 q2 q3 q4) (fun k hk => hQ k (by rw [World.size_alloc] at hk; omega))).mono ?_
  · refine ⟨?_, ?_, fun k e => Nat.lt_of_lt_of_le (hi (fun k => k < w.heap.size) l1 l2 l3 l4 i x hx k e) hb.size⟩
    · match i, hx with
      | 0, hx => simp at hx; subst hx; exact hB.cell 0 _ rfl
      | 1, hx => simp at hx; subst hx; exact hB.cell 1 _ rfl
      | 2, hx => simp at hx; subst hx; exact hB.cell 2 _ rfl
      | 3, hx => simp at hx; subst hx; exact hB.cell 3 _ rfl
      | (i + 4), hx => simp at hx
    · match i, hx with
      | 0, hx => simp at hx; subst hx; exact h1.at hb
      | 1, hx => simp at hx; subst hx; exact h2.at hb
      | 2, hx => simp at hx; subst hx; exact h3.at hb
      | 3, hx => simp at hx; subst hx; exact h4.at hb
      | (i + 4), hx => simp at hx
  · rintro e w' ⟨t, rfl, h⟩
    exact ⟨t, rfl, h.of hb⟩
end Go.Proofs.YtmknnjjmmfbppaaGreat
/- Package queue: threads and marks; cells of a map; what is behind a thread. -/
namespace Go.Proofs.YtmknnjjmmfbppaaGreat
open Go.ChangeShapes Go.WideShapes Go.ChangeAt Go.RowKit
set_option linter.unusedVariables false
set_option maxRecDepth 100000
set_option linter.unusedSimpArgs false
abbrev nextV (m : Mp) : Value := .func (.func 162) #[mapV m] #[]
def behN (m : Mp) (a : Nat) (u : Int) : Nat := if u = -1 then a else nxN m u
/-- the thread that a cell's value names; by what a task's value is -/
def markedS (m : Mp) (v : Int) : Int := if (m.t : Int) < v then -1 else v - 1
def thrS (m : Mp) (v : Int) : Int := markedS m (IntKind.u64.wrap v)
theorem u64_range (v : Int) : 0 ≤ IntKind.u64.wrap v ∧ IntKind.u64.wrap v < 18446744073709551616 := by
  rw [IntKind.wrap_u64]
  omega
theorem thrS_range (m : Mp) (v : Int) : -1 ≤ thrS m v ∧ thrS m v < m.t := by
  have := u64_range v
  unfold thrS markedS
  split <;> omega
theorem thrS_of {m : Mp} {v : Int} (h : 0 ≤ v ∧ v ≤ m.t) (hm : m.t ≤ 32766) : thrS m v = v - 1 := by
  unfold thrS markedS
  rw [IntKind.wrap_u64]
  have : v % 18446744073709551616 = v := by omega
  rw [this, if_neg (by omega)]
abbrev lineV (C a : Nat) (m : Mp) : Value := .agg #[cellsV C, .int .i64 (a : Int), .int .i64 ((a : Int) + 1), nextV m, .int .i64 (m.t : Int)]
theorem mark_any (u : Int) (w : World) (h : -1 ≤ u ∧ u ≤ 100000) : Calls Tryz.prog 262 #[.int .i64 u] w fun e w' => e = .returned (.int .u64 (u + 1)) ∧ w = w' := by
  have e1 : IntKind.u64.wrap (u + 1) = u + 1 := by rw [IntKind.wrap_u64]; omega
  go_enter Tryz.func262, Tryz.ntmps262
  go_wp2
  go_ret
  exact ⟨rfl, rfl⟩
theorem next_any (m : Mp) (u : Int) (w : World) (hm : m.ok) (h : 0 ≤ u ∧ u < m.t) : Calls Tryz.prog 162 #[mapV m, .int .i64 u] w fun e w' => e = .returned (.int .i64 (nxN m u : Int)) ∧ Below w.heap.size w w' := by
  have HT := Lib.hid fun W => thread_any m u W hm h
  clear hm h
  go_enter Tryz.func162, Tryz.ntmps162
  go_wp2_with (go_at_call 92; refine (HT.out _).mono ?_; rintro e w2 ⟨rfl, b2⟩)
  go_ret
  exact ⟨rfl, ((Below.refl _ w).alloc (Nat.le_refl _) _).trans (b2.mono (by simp))⟩
theorem marked_any (C a : Nat) (m : Mp) (v : Int) (w : World) (hm : m.ok) (hv : 0 ≤ v ∧ v < 18446744073709551616) : Calls Tryz.prog 164 #[lineV C a m, .int .u64 v] w fun e w' => e = .returned (.int .i64 (markedS m v)) ∧ Below w.heap.size w w' := by
  have h1 := hm.t
  have e1 : IntKind.u64.wrap (m.t : Int) = m.t := by rw [IntKind.wrap_u64]; omega
  clear hm
  by_cases h : (m.t : Int) < v
  · have e : markedS m v = -1 := by simp [markedS, h]
    rw [e]
    clear e hv
    go_enter Tryz.func164, Tryz.ntmps164
    go_wp2
    go_ret
    exact ⟨rfl, by go_grown⟩
  · have e : markedS m v = v - 1 := by simp [markedS, h]
    have e2 : IntKind.i64.wrap v = v := IntWalk.i64_in _ ⟨by omega, by omega⟩
    rw [e]
    have hv2 : 0 ≤ v ∧ v ≤ 100000 := by omega
    clear e hv
    go_enter Tryz.func164, Tryz.ntmps164
    go_wp2
    go_ret
    exact ⟨rfl, by go_grown⟩
theorem behind_any (C a : Nat) (m : Mp) (u : Int) (w : World) (hm : m.ok) (h : -1 ≤ u ∧ u < m.t) : Calls Tryz.prog 265 #[lineV C a m, .int .i64 u] w fun e w' => e = .returned (.int .i64 (behN m a u : Int)) ∧ Below w.heap.size w w' := by
  by_cases hu : u = -1
  · subst hu
    have e : ((behN m a (-1) : Nat) : Int) = a := by simp [behN]
    rw [e]
    clear e
    go_enter Tryz.func265, Tryz.ntmps265
    go_wp2
    go_ret
    exact ⟨rfl, by go_grown⟩
  · have e : behN m a u = nxN m u := by simp [behN, hu]
    have HN := Lib.hid fun W => next_any m u W hm (by omega)
    rw [e]
    clear e hm h
    go_enter Tryz.func265, Tryz.ntmps265
    go_wp2_with (go_at_call 162; refine (HN.out _).mono ?_; rintro e w2 ⟨rfl, b2⟩)
    go_ret
    exact ⟨rfl, ((Below.refl _ w).alloc (Nat.le_refl _) _).trans (b2.mono (by simp))⟩
end Go.Proofs.YtmknnjjmmfbppaaGreat
