/- Package queue: read, end. -/
import Derived.Test.YtldofbkjjmnooaaGreatMgGSlO
import Derived.Test.YtldofbkjjmnooaaGreatMgGSlK
import Derived.Test.YtldofbkjjmnooaaGreatMgGSlH
import Derived.Maps.Own
import Derived.Maps.OwnSet
import Derived.Maps.Views
import Derived.Test.YtldofbkjjmnooaaGreatMgGSlA
import Derived.RangeFuncNested
import Derived.RangeFuncBound
import Derived.RangeFuncCalls
import Derived.RangeFuncLeaves
namespace Go.Proofs.YtldofbkjjmnooaaGreat
open Go.ChangeShapes Go.WideShapes Go.ChangeAt Go.RowKit
set_option linter.unusedVariables false
set_option maxRecDepth 100000
set_option linter.unusedSimpArgs false
abbrev ldI (i : Nat) : Itm := ⟨0, i, 0, 0⟩
abbrev stI (i : Nat) (v : Int) : Itm := ⟨1, i, v, 0⟩
def stT (i : Nat) (v : Int) : Tre Itm := opT (stI i v) fun u => retT u
theorem stT_eq (i : Nat) (v : Int) : itmT [stI i v] 0 = stT i v := rfl
def readT (m : Mp) (i : Nat) (κ : Int → Tre Itm) : Tre Itm := opT (ldI i) fun v => κ (thrS m v)
/-- a line, in a box -/
abbrev lineCs (C a : Nat) (m : Mp) : Array Value := #[cellsV C, .int .i64 (a : Int), .int .i64 ((a : Int) + 1), nextV m, .int .i64 (m.t : Int)]
/-- a function of threads that hands back a task -/
def FnT (C P : Nat) (m : Mp) (w : World) (Q : Nat → Prop) (fv : Value) (κ : Int → Tre Itm) : Prop :=
  ∃ G caps, fv = cloV G caps ∧ (∀ (W : World) (args : Array Value), (callFunc G args).run Tryz.prog W = .ok (.enter G args) W) ∧
    ∀ (W : World) (u : Int), Keep (fun b => ¬ Q b) w W → -1 ≤ u → u < m.t → Calls Tryz.prog G (#[.int .i64 u] ++ caps) W fun e w2 => ∃ t, e = .returned (pV t) ∧ MadeQ (cellOps C P) W (fun b => (Q b ∧ b < w.heap.size) ∨ W.heap.size ≤ b) (κ u) t w2
theorem FnT.later {C P : Nat} {m : Mp} {w w1 : World} {Q Q1 : Nat → Prop} {fv : Value} {κ : Int → Tre Itm} (h : FnT C P m w Q fv κ) (hk : Keep (fun _ => False) w w1) (hq : ∀ b, b < w.heap.size → Q b → Q1 b) : FnT C P m w1 Q1 fv κ := by
  obtain ⟨G, caps, rfl, hc, h⟩ := h
  refine ⟨G, caps, rfl, hc, fun W u hW h1 h2 => ?_⟩
  have hs := hk.size
  refine (h W u ⟨hW.os.trans hk.os, hW.tape.trans hk.tape, hW.output.trans hk.output, Nat.le_trans hs hW.size, fun b hb hn => ?_⟩ h1 h2).mono ?_
  · have hQ : Q b := Classical.not_not.1 hn
    rw [hW.block b (by omega) (fun h => h (hq b hb hQ)), hk.block b hb (fun h => h)]
  · rintro e w2 ⟨t, rfl, hM⟩
    exact ⟨t, rfl, hM.mono fun b _ h => h.imp (fun h => ⟨hq b h.2 h.1, by omega⟩) id⟩
theorem call_read1 : ∀ (W : World) (args : Array Value), (callFunc 272 args).run Tryz.prog W = .ok (.enter 272 args) W := by
  intro W args
  go_simp
theorem read1_any (C a : Nat) (m : Mp) (v : Int) (bt bl G : Nat) (caps : Array Value) (w : World) (F : Nat → Prop) (R : World → Nat → World → Prop) (hm : m.ok) (hbt : Blk w bt 89 #[cloV G caps]) (hbl : Blk w bl 153 (lineCs C a m)) (ft : ¬ F bt) (fl : ¬ F bl)
    (hcall : ∀ (W : World) (args : Array Value), (callFunc G args).run Tryz.prog W = .ok (.enter G args) W)
    (hG : ∀ W, Below w.heap.size w W → Calls Tryz.prog G (#[.int .i64 (thrS m v)] ++ caps) W fun e w' => ∃ t, e = .returned (pV t) ∧ Keep F W w' ∧ R W t w') :
    Calls Tryz.prog 272 #[.int .i64 v, pV bt, pV bl] w fun e w' => ∃ t W, e = .returned (pV t) ∧ Below w.heap.size w W ∧ Keep F W w' ∧ R W t w' := by
  have HM := Lib.hid fun W => marked_any C a m (IntKind.u64.wrap v) W hm (u64_range v)
  have HG := Lib.hid hG
  have hl := hbl.lt
  have ht := hbt.lt
  have SK := Lib.hid (show ∀ V, Keep F w V → V.cell? ⟨bt, 0, none⟩ = some (cloV G caps) ∧ V.cell? ⟨bl, 0, none⟩ = some (cellsV C) ∧ V.cell? ⟨bl, 1, none⟩ = some (.int .i64 (a : Int)) ∧ V.cell? ⟨bl, 2, none⟩ = some (.int .i64 ((a : Int) + 1)) ∧ V.cell? ⟨bl, 3, none⟩ = some (nextV m) ∧ V.cell? ⟨bl, 4, none⟩ = some (.int .i64 (m.t : Int)) from fun V hk =>
    ⟨(hbt.keep hk ft).cell 0 _ rfl, (hbl.keep hk fl).cell 0 _ rfl, (hbl.keep hk fl).cell 1 _ rfl, (hbl.keep hk fl).cell 2 _ rfl, (hbl.keep hk fl).cell 3 _ rfl, (hbl.keep hk fl).cell 4 _ rfl⟩)
  have bd : Below w.heap.size w w.drew := ⟨rfl, rfl, rfl, Nat.le_refl _, fun _ _ => rfl⟩
  have kd : Keep F w w.drew := Keep.ofBelow bd
  clear hG hm hbt hbl hl ht ft fl
  go_enter Tryz.func272, Tryz.ntmps272
  go_upto_region 1 with fail
  go_region_held3 (fun V => V.cell? ⟨bt, 0, none⟩ = some (cloV G caps) ∧ V.cell? ⟨bl, 0, none⟩ = some (cellsV C) ∧ V.cell? ⟨bl, 1, none⟩ = some (.int .i64 (a : Int)) ∧ V.cell? ⟨bl, 2, none⟩ = some (.int .i64 ((a : Int) + 1)) ∧ V.cell? ⟨bl, 3, none⟩ = some (nextV m) ∧ V.cell? ⟨bl, 4, none⟩ = some (.int .i64 (m.t : Int))) (first | exact SK.out _ k3 | exact SK.out _ k2 | exact SK.out _ kd) (first
    | (go_at_call 190; refine (HM.out _).mono ?_; rintro e w2 ⟨rfl, hb2⟩; have b2 : Below w.heap.size w w2 := bd.trans hb2; have k2 : Keep F w w2 := Keep.ofBelow b2; have HG2 := Lib.hid (HG.out w2 b2); rw [show markedS m (IntKind.u64.wrap v) = thrS m v from rfl])
    | ((with_reducible refine HG2.out.mono ?_); rintro e w3 ⟨t, rfl, g3, hR⟩; have k3 : Keep F w w3 := k2.trans g3))
  go_wp2
  go_ret
  exact ⟨t, w2, rfl, b2, g3, hR⟩
/-- what read made: a load, and what follows, in their boxes -/
structure ReadAt (w0 w : World) (C a : Nat) (m : Mp) (Q : Nat → Prop) (i : Nat) (fv : Value) (t : Nat) (d r : Value) (f bt bl : Nat) : Prop where
  new : w0.heap.size ≤ t ∧ w0.heap.size ≤ f ∧ w0.heap.size ≤ bt ∧ w0.heap.size ≤ bl ∧ f ≠ t ∧ bt ≠ t ∧ bl ≠ t
  live : Live w t d (.pointer none) r
  op : ∃ b F caps, d = cloV 260 #[pV b] ∧ Q b ∧ b ≠ t ∧ Blk w b 28 #[cloV F caps] ∧ CloAt w C (fun b => Q b ∧ b ≠ t) (ldI i) F caps
  tree : TreeO w (fun b => Q b ∧ b ≠ t ∧ b ≠ bt ∧ b ≠ bl) r [f]
  box : Blk w f 89 #[cloV 272 #[pV bt, pV bl]]
  fn : Blk w bt 89 #[fv]
  line : Blk w bl 153 (lineCs C a m)
set_option maxHeartbeats 1000000 in
theorem read_raw (C a : Nat) (m : Mp) (i G : Nat) (caps : Array Value) (Q : Nat → Prop) (w : World) (hQ : ∀ k, w.heap.size ≤ k → Q k) :
    Calls Tryz.prog 183 #[lineV C a m, .int .i64 (i : Int), cloV G caps] w fun e w' => ∃ t d r f bt bl, e = .returned (pV t) ∧ ReadAt w w' C a m Q i (cloV G caps) t d r f bt bl ∧ Below w.heap.size w w' := by
  have hmf : ∀ (fn : Fn) (first cap : Array Value) (w : World), (Instr.makeFunc fn first cap).run Tryz.prog w = .ok (.func fn first cap) w := fun _ _ _ _ => rfl
  have HQ := Lib.hid hQ
  clear hQ
  go_enter Tryz.func183, Tryz.ntmps183
  go_upto_region 1 with fail
  generalize hW : ((w.alloc _).alloc _) = W
  have bW : Below w.heap.size w W := by rw [← hW]; go_grown
  have sW : W.heap.size = w.heap.size + 2 := by rw [← hW]; simp
  have q0 : Blk W w.heap.size 153 (lineCs C a m) := by rw [← hW]; exact (Blk.new w _ _).alloc _
  have q1 : Blk W (w.heap.size + 1) 89 #[cloV G caps] := by rw [← hW]; exact blk_two w _ _ _
  clear hW
  have c0 : W.cell? ⟨w.heap.size, 0, none⟩ = some (cellsV C) := q0.cell 0 _ rfl
  have HL := Lib.hid (tLoad_raw C (fun b => Q b ∧ b ≠ w.heap.size ∧ b ≠ w.heap.size + 1) (ldI i) W rfl (fun k hk => ⟨HQ.out k (by omega), by omega, by omega⟩))
  have HT := Lib.hid fun w2 (d : Value) t (hL : Live w2 t d (.pointer none) (.pointer none)) (hs : W.heap.size ≤ w2.heap.size) => then_raw t 272 #[pV (w.heap.size + 1), pV w.heap.size] d _ _ [] (fun b => Q b ∧ b ≠ w.heap.size + 1 ∧ b ≠ w.heap.size) w2 hL (.inl ⟨rfl, rfl⟩) (fun k hk => ⟨HQ.out k (by omega), by omega, by omega⟩)
  go_wp2_with (first
    | (go_at_call 193; refine HL.out.mono ?_; rintro e w2 ⟨t1, b, F, caps', rfl, h1, h2, h3, h4, h5, h6⟩; have HT2 := Lib.hid (HT.out w2 _ t1 ⟨h4, .inl ⟨_, _, rfl, rfl⟩⟩ h6.size))
    | (go_at_call 137; refine HT2.out.mono ?_; rintro e w3 ⟨t, f, j, rfl, g1, g2, g3, g4, g5, gft, g6⟩))
  go_ret
  have s2 := h6.size
  have k3 : Keep (fun _ => False) w2 w3 := Keep.ofBelow g6
  have hl3 := h3.lt
  have c5 : CloAt w3 C (fun b => Q b ∧ b ≠ t) (ldI i) F caps' := h5.keep k3 (fun _ _ h => h) (fun b hb h => ⟨h.1, by omega⟩)
  exact ⟨t, _, j, f, w.heap.size + 1, w.heap.size, rfl, ⟨⟨by omega, by omega, by omega, by omega, gft, by omega, by omega⟩, g4, ⟨b, F, caps', rfl, HQ.out b (by omega), by omega, h3.below g6 h3.lt, c5⟩, g5.mono (fun b _ h => ⟨h.1.1, h.2, h.1.2.1, h.1.2.2⟩), g3, (q1.below h6 q1.lt).below g6 (by have := q1.lt; omega), (q0.below h6 q0.lt).below g6 (by have := q0.lt; omega)⟩, bW.trans ((h6.trans (g6.mono s2)).mono bW.size)⟩
theorem read_any (C P a : Nat) (m : Mp) (i : Nat) (fv : Value) (κ : Int → Tre Itm) (Q : Nat → Prop) (w : World) (hm : m.ok) (hF : FnT C P m w Q fv κ) (hQ : ∀ k, w.heap.size ≤ k → Q k) :
    Calls Tryz.prog 183 #[lineV C a m, .int .i64 (i : Int), fv] w fun e w' => ∃ t, e = .returned (pV t) ∧ MadeQ (cellOps C P) w Q (readT m i κ) t w' := by
  obtain ⟨G, caps, rfl, hcall, hG⟩ := id hF
  refine (read_raw C a m i G caps Q w hQ).mono ?_
  rintro e w' ⟨t, d, r, f, bt, bl, rfl, hR, hb⟩
  refine ⟨t, rfl, hR.new.1, ?_, hb⟩
  obtain ⟨b, F, caps', hd, o1, o2, o3, o4⟩ := hR.op
  obtain ⟨n1, n2, n3, n4, n5, n6, n7⟩ := hR.new
  refine .inr ⟨ldI i, _, t, d, _, r, [f], rfl, rfl, hR.live, hR.tree.mono (fun b _ h => ⟨h.1, h.2.1⟩), .inl ⟨b, F, caps', hd, rfl, ⟨o1, o2⟩, o3, o4⟩, fun v => ?_⟩
  refine ⟨fun v => κ (thrS m v), fun v => κ (thrS m v), ?_, by rw [bindT_ret], fun u => rfl⟩
  have hF2 := hF.later (w1 := w') (Q1 := fun b => Q b ∧ b ≠ t) (Keep.ofBelow hb) (fun b hb2 h => ⟨h, by omega⟩)
  obtain ⟨G', caps2, e, _, hG2⟩ := hF2
  obtain ⟨rfl, rfl⟩ : G' = G ∧ caps2 = caps := by
    injection e with e1 e2 e3
    injection e1 with e1
    exact ⟨e1.symm, e3.symm⟩
  refine contT_of (cellOps C P) w' _ f 272 _ _ ⟨hQ f n2, n5⟩ hR.box call_read1 fun v w1 hw => ?_
  have nt : ¬ ¬ (Q bt ∧ bt ≠ t) := fun h => h ⟨hQ bt n3, n6⟩
  have nl : ¬ ¬ (Q bl ∧ bl ≠ t) := fun h => h ⟨hQ bl n4, n7⟩
  refine (read1_any C a m v bt bl G' caps2 w1 (fun _ => False) (fun W t2 w2 => Below w1.heap.size w1 W ∧ MadeQ (cellOps C P) W (fun b => ((Q b ∧ b ≠ t) ∧ b < w'.heap.size) ∨ W.heap.size ≤ b) (κ (thrS m v)) t2 w2) hm (hR.fn.keep hw nt) (hR.line.keep hw nl) (fun h => h) (fun h => h) hcall fun W hW => ?_).mono ?_
  · refine (hG2 W (thrS m v) (hw.step (Q' := fun _ => False) (Keep.ofBelow hW) (fun _ _ h => h.elim)) (thrS_range m v).1 (thrS_range m v).2).mono ?_
    rintro e w2 ⟨t2, rfl, hM⟩
    exact ⟨t2, rfl, Keep.ofBelow hM.2.2, hW, hM⟩
  · rintro e w2 ⟨t2, W, rfl, hW, _, _, hM⟩
    have hs := hW.size
    have hqq : ∀ b, ((Q b ∧ b ≠ t) ∧ b < w'.heap.size) ∨ W.heap.size ≤ b → ((Q b ∧ b ≠ t) ∧ b < w'.heap.size) ∨ w1.heap.size ≤ b := fun b h => h.imp id (fun h => by omega)
    refine ⟨some ⟨t2, 0, none⟩, rfl, hW.trans (hM.2.2.mono hs), (hM.mono fun b _ h => hqq b h).task, fun j e => ?_⟩
    injection e with e
    injection e with e
    have := hM.1
    exact .inr (by omega)
theorem call_end1 : ∀ (W : World) (args : Array Value), (callFunc 270 args).run Tryz.prog W = .ok (.enter 270 args) W := by
  intro W args
  go_simp
theorem call_end11 : ∀ (W : World) (args : Array Value), (callFunc 271 args).run Tryz.prog W = .ok (.enter 271 args) W := by
  intro W args
  go_simp
theorem readyQ (C P : Nat) (Q : Nat → Prop) (v : Int) (w : World) : Calls Tryz.prog 102 #[.int .i64 v] w fun e w' => ∃ t, e = .returned (pV t) ∧ MadeQ (cellOps C P) w Q (retT v) t w' := by
  refine (tready_any C P Q v w).mono ?_
  rintro e w' ⟨t, rfl, h⟩
  exact ⟨t, rfl, h.madeQ⟩
theorem storeQ (C P : Nat) (Q : Nat → Prop) (i : Nat) (v : Int) (w : World) (hQ : ∀ k, w.heap.size ≤ k → Q k) : Calls Tryz.prog 178 #[cellsV C, .int .i64 (i : Int), .int .u64 v] w fun e w' => ∃ t, e = .returned (pV t) ∧ MadeQ (cellOps C P) w Q (stT i v) t w' := by
  refine (tStore_any C P Q (stI i v) w rfl hQ).mono ?_
  rintro e w' ⟨t, rfl, h⟩
  exact ⟨t, rfl, h.madeQ⟩
def endK2 (f : Int) (l : Int) : Tre Itm := if l = -1 then retT f else retT l
def endK (m : Mp) (a : Nat) (f : Int) : Tre Itm := if f = -1 then retT (-1) else readT m (a + 1) (endK2 f)
def endT (m : Mp) (a : Nat) : Tre Itm := readT m a (endK m a)
theorem end11_any (C P : Nat) (Q : Nat → Prop) (f l : Int) (bf : Nat) (w : World) (hf : Blk w bf 3 #[.int .i64 f]) :
    Calls Tryz.prog 271 #[.int .i64 l, pV bf] w fun e w' => ∃ t, e = .returned (pV t) ∧ MadeQ (cellOps C P) w Q (endK2 f l) t w' := by
  have c0 : w.cell? ⟨bf, 0, none⟩ = some (.int .i64 f) := hf.cell 0 _ rfl
  clear hf
  by_cases h : l = -1
  · subst h
    go_enter Tryz.func271, Tryz.ntmps271
    go_wp2_with (go_at_call 102; refine (readyQ C P Q f _).mono ?_; rintro e w2 ⟨t, rfl, h1⟩)
    go_ret
    exact ⟨t, rfl, by rw [endK2, if_pos rfl]; exact h1⟩
  · go_enter Tryz.func271, Tryz.ntmps271
    go_wp2_with (go_at_call 102; refine (readyQ C P Q l _).mono ?_; rintro e w2 ⟨t, rfl, h1⟩)
    go_ret
    exact ⟨t, rfl, by rw [endK2, if_neg h]; exact h1⟩
theorem end1_any (C P a : Nat) (m : Mp) (Q : Nat → Prop) (f : Int) (bl : Nat) (w : World) (hm : m.ok) (hl : Blk w bl 153 (lineCs C a m)) (hQ : ∀ k, w.heap.size ≤ k → Q k) :
    Calls Tryz.prog 270 #[.int .i64 f, pV bl] w fun e w' => ∃ t, e = .returned (pV t) ∧ MadeQ (cellOps C P) w Q (endK m a f) t w' := by
  have hmf : ∀ (fn : Fn) (first cap : Array Value) (w : World), (Instr.makeFunc fn first cap).run Tryz.prog w = .ok (.func fn first cap) w := fun _ _ _ _ => rfl
  have HQ := Lib.hid hQ
  have HM := Lib.hid hm
  clear hQ hm
  go_enter Tryz.func270, Tryz.ntmps270
  go_upto_region 1 with fail
  generalize hW : (w.alloc _) = W
  have bW : Below w.heap.size w W := by rw [← hW]; go_grown
  have sW : W.heap.size = w.heap.size + 1 := by rw [← hW]; simp
  have q0 : Blk W w.heap.size 3 #[.int .i64 f] := by rw [← hW]; exact Blk.new w _ _
  have hlW := hl.below bW hl.lt
  clear hW hl
  have c0 : W.cell? ⟨w.heap.size, 0, none⟩ = some (.int .i64 f) := q0.cell 0 _ rfl
  have d0 : W.cell? ⟨bl, 0, none⟩ = some (cellsV C) := hlW.cell 0 _ rfl
  have d1 : W.cell? ⟨bl, 1, none⟩ = some (.int .i64 (a : Int)) := hlW.cell 1 _ rfl
  have d2 : W.cell? ⟨bl, 2, none⟩ = some (.int .i64 ((a : Int) + 1)) := hlW.cell 2 _ rfl
  have d3 : W.cell? ⟨bl, 3, none⟩ = some (nextV m) := hlW.cell 3 _ rfl
  have d4 : W.cell? ⟨bl, 4, none⟩ = some (.int .i64 (m.t : Int)) := hlW.cell 4 _ rfl
  by_cases h : f = -1
  · subst h
    go_wp2_with (go_at_call 102; refine (readyQ C P Q (-1) _).mono ?_; rintro e w2 ⟨t, rfl, h1⟩)
    go_ret
    exact ⟨t, rfl, by rw [endK, if_pos rfl]; exact h1.of bW⟩
  · have HR := Lib.hid (read_any C P a m (a + 1) (cloV 271 #[pV w.heap.size]) (endK2 f) Q W HM.out ⟨_, _, rfl, call_end11, fun V u hV h1 h2 => end11_any C P _ f u w.heap.size V (q0.keep hV (fun h => h (HQ.out _ (Nat.le_refl _))))⟩ (fun k hk => HQ.out k (by omega)))
    rw [show (((a + 1 : Nat) : Int)) = (a : Int) + 1 by omega] at HR
    go_wp2_with (go_at_call 183; refine HR.out.mono ?_; rintro e w2 ⟨t, rfl, h1⟩)
    go_ret
    exact ⟨t, rfl, by rw [endK, if_neg h]; exact h1.of bW⟩
theorem end_any (C P a : Nat) (m : Mp) (Q : Nat → Prop) (w : World) (hm : m.ok) (hQ : ∀ k, w.heap.size ≤ k → Q k) :
    Calls Tryz.prog 180 #[lineV C a m] w fun e w' => ∃ t, e = .returned (pV t) ∧ MadeQ (cellOps C P) w Q (endT m a) t w' := by
  have hmf : ∀ (fn : Fn) (first cap : Array Value) (w : World), (Instr.makeFunc fn first cap).run Tryz.prog w = .ok (.func fn first cap) w := fun _ _ _ _ => rfl
  have HQ := Lib.hid hQ
  have HM := Lib.hid hm
  clear hQ hm
  go_enter Tryz.func180, Tryz.ntmps180
  go_upto_region 1 with fail
  generalize hW : (w.alloc _) = W
  have bW : Below w.heap.size w W := by rw [← hW]; go_grown
  have sW : W.heap.size = w.heap.size + 1 := by rw [← hW]; simp
  have hlW : Blk W w.heap.size 153 (lineCs C a m) := by rw [← hW]; exact Blk.new w _ _
  clear hW
  have d0 : W.cell? ⟨w.heap.size, 0, none⟩ = some (cellsV C) := hlW.cell 0 _ rfl
  have d1 : W.cell? ⟨w.heap.size, 1, none⟩ = some (.int .i64 (a : Int)) := hlW.cell 1 _ rfl
  have d2 : W.cell? ⟨w.heap.size, 2, none⟩ = some (.int .i64 ((a : Int) + 1)) := hlW.cell 2 _ rfl
  have d3 : W.cell? ⟨w.heap.size, 3, none⟩ = some (nextV m) := hlW.cell 3 _ rfl
  have d4 : W.cell? ⟨w.heap.size, 4, none⟩ = some (.int .i64 (m.t : Int)) := hlW.cell 4 _ rfl
  have HR := Lib.hid (read_any C P a m a (cloV 270 #[pV w.heap.size]) (endK m a) Q W HM.out ⟨_, _, rfl, call_end1, fun V u hV h1 h2 => end1_any C P a m _ u w.heap.size V HM.out (hlW.keep hV (fun h => h (HQ.out _ (Nat.le_refl _)))) (fun k hk => .inr hk)⟩ (fun k hk => HQ.out k (by omega)))
  go_wp2_with (go_at_call 183; refine HR.out.mono ?_; rintro e w2 ⟨t, rfl, h1⟩)
  go_ret
  exact ⟨t, rfl, h1.of bW⟩
end Go.Proofs.YtldofbkjjmnooaaGreat
/- Package queue: unlink, pop. -/
namespace Go.Proofs.YtldofbkjjmnooaaGreat
open Go.ChangeShapes Go.WideShapes Go.ChangeAt Go.RowKit
set_option linter.unusedVariables false
set_option maxRecDepth 100000
set_option linter.unusedSimpArgs false
theorem lineE_of {V : World} {C a : Nat} {m : Mp} {bl : Nat} (h : Blk V bl 153 (lineCs C a m)) : (V.cell? ⟨bl, 0, none⟩ = some (cellsV C) ∧ V.cell? ⟨bl, 1, none⟩ = some (.int .i64 (a : Int)) ∧ V.cell? ⟨bl, 2, none⟩ = some (.int .i64 ((a : Int) + 1)) ∧ V.cell? ⟨bl, 3, none⟩ = some (nextV m) ∧ V.cell? ⟨bl, 4, none⟩ = some (.int .i64 (m.t : Int))) := ⟨h.cell 0 _ rfl, h.cell 1 _ rfl, h.cell 2 _ rfl, h.cell 3 _ rfl, h.cell 4 _ rfl⟩
theorem bdrewE (w : World) : Below w.heap.size w w.drew := ⟨rfl, rfl, rfl, Nat.le_refl _, fun _ _ => rfl⟩
def unlK (m : Mp) (a : Nat) (p t u : Int) : Tre Itm := seqT [stT (behN m a p) (u + 1), if u = -1 then stT (a + 1) (p + 1) else stT (nxN m t) 0]
def unlinkT (m : Mp) (a : Nat) (p t : Int) : Tre Itm := readT m (nxN m t) (unlK m a p t)
set_option maxHeartbeats 2000000 in
theorem unlink1_any (C P a : Nat) (m : Mp) (Q : Nat → Prop) (p t u : Int) (bl bp bt : Nat) (w : World) (hm : m.ok) (hp : -1 ≤ p ∧ p < m.t) (ht : 0 ≤ t ∧ t < m.t) (hu : -1 ≤ u ∧ u < m.t) (hl : Blk w bl 153 (lineCs C a m)) (hbp : Blk w bp 3 #[.int .i64 p]) (hbt : Blk w bt 3 #[.int .i64 t]) (hQ : ∀ k, w.heap.size ≤ k → Q k) :
    Calls Tryz.prog 273 #[.int .i64 u, pV bl, pV bp, pV bt] w fun e w' => ∃ t', e = .returned (pV t') ∧ MadeQ (cellOps C P) w Q (unlK m a p t u) t' w' := by
  have HB := Lib.hid fun W => behind_any C a m p W hm hp
  have HM := Lib.hid fun W => mark_any u W (by have := hm.t; omega)
  have HMp := Lib.hid fun W => mark_any p W (by have := hm.t; omega)
  have HMn := Lib.hid fun W => mark_any (-1) W (by omega)
  have HX := Lib.hid fun V => next_any m t V hm ht
  have HS := Lib.hid fun W (h : w.heap.size ≤ W.heap.size) => storeQ C P Q (behN m a p) (u + 1) W (fun k hk => hQ k (by omega))
  have HSl := Lib.hid fun W (h : w.heap.size ≤ W.heap.size) => storeQ C P Q (a + 1) (p + 1) W (fun k hk => hQ k (by omega))
  rw [show (((a + 1 : Nat) : Int)) = (a : Int) + 1 by omega] at HSl
  have HSn := Lib.hid fun W (h : w.heap.size ≤ W.heap.size) => storeQ C P Q (nxN m t) (-1 + 1) W (fun k hk => hQ k (by omega))
  have HQ := Lib.hid hQ
  have SK := Lib.hid (show ∀ V, Below w.heap.size w V → (V.cell? ⟨bl, 0, none⟩ = some (cellsV C) ∧ V.cell? ⟨bl, 1, none⟩ = some (.int .i64 (a : Int)) ∧ V.cell? ⟨bl, 2, none⟩ = some (.int .i64 ((a : Int) + 1)) ∧ V.cell? ⟨bl, 3, none⟩ = some (nextV m) ∧ V.cell? ⟨bl, 4, none⟩ = some (.int .i64 (m.t : Int))) ∧ V.cell? ⟨bp, 0, none⟩ = some (.int .i64 p) ∧ V.cell? ⟨bt, 0, none⟩ = some (.int .i64 t) from fun V hk => ⟨lineE_of (hl.below hk hl.lt), (hbp.below hk hbp.lt).cell 0 _ rfl, (hbt.below hk hbt.lt).cell 0 _ rfl⟩)
  have HSQ := Lib.hid fun V t1 t2 T2 (hV : Below w.heap.size w V) h1 h2 q1 q2 => seqT_two (cellOps C P) Q (stT (behN m a p) (u + 1)) T2 t1 t2 V h1 h2 q1 q2 (fun k hk => HQ.out k (by have := hV.size; omega))
  have bd := bdrewE w
  clear hm hp ht hu hl hbp hbt hQ
  go_enter Tryz.func273, Tryz.ntmps273
  go_upto_region 1 with fail
  go_region_held3 (fun V => (V.cell? ⟨bl, 0, none⟩ = some (cellsV C) ∧ V.cell? ⟨bl, 1, none⟩ = some (.int .i64 (a : Int)) ∧ V.cell? ⟨bl, 2, none⟩ = some (.int .i64 ((a : Int) + 1)) ∧ V.cell? ⟨bl, 3, none⟩ = some (nextV m) ∧ V.cell? ⟨bl, 4, none⟩ = some (.int .i64 (m.t : Int))) ∧ V.cell? ⟨bp, 0, none⟩ = some (.int .i64 p) ∧ V.cell? ⟨bt, 0, none⟩ = some (.int .i64 t)) (first | exact SK.out _ b3 | exact SK.out _ b2 | exact SK.out _ bd) (first
    | (go_at_call 182; refine (HB.out _).mono ?_; rintro e w2 ⟨rfl, hb2⟩; have b2 : Below w.heap.size w w2 := bd.trans hb2; have HS2 := Lib.hid (HS.out w2 b2.size))
    | (go_at_call 179; (with_reducible refine (HM.out _).mono ?_); rintro e w2b ⟨rfl, rfl⟩)
    | (go_at_call 178; refine HS2.out.mono ?_; rintro e w3 ⟨t1, rfl, hM⟩; have b3 : Below w.heap.size w w3 := b2.trans (hM.2.2.mono b2.size)))
  clear HS HS2 HB
  have bd3 := bdrewE w3
  have s3 := b3.size
  by_cases hu : u = -1
  · subst hu
    have SK3 := Lib.hid fun V (hV : Below w3.heap.size w3 V) => SK.out V (b3.trans (hV.mono s3))
    clear SK
    go_upto_region 3 with fail
    go_region_held3 (fun V => (V.cell? ⟨bl, 0, none⟩ = some (cellsV C) ∧ V.cell? ⟨bl, 1, none⟩ = some (.int .i64 (a : Int)) ∧ V.cell? ⟨bl, 2, none⟩ = some (.int .i64 ((a : Int) + 1)) ∧ V.cell? ⟨bl, 3, none⟩ = some (nextV m) ∧ V.cell? ⟨bl, 4, none⟩ = some (.int .i64 (m.t : Int))) ∧ V.cell? ⟨bp, 0, none⟩ = some (.int .i64 p) ∧ V.cell? ⟨bt, 0, none⟩ = some (.int .i64 t)) (first | exact SK3.out _ b7 | exact SK3.out _ bA | exact SK3.out _ b5 | exact SK3.out _ bd3) (first
      | (go_at_call 179; (with_reducible refine (HMp.out _).mono ?_); rintro e w4 ⟨rfl, rfl⟩; have HSl2 := Lib.hid (HSl.out w3.drew s3))
      | (go_at_call 178; refine HSl2.out.mono ?_; rintro e w5 ⟨t2, rfl, hM2⟩; have b5 : Below w3.heap.size w3 w5 := bd3.trans hM2.2.2; have HSQ2 := Lib.hid (HSQ.out w5 t1 t2 _ (b3.trans (b5.mono s3)) (hM.task.at b5) hM2.task (HQ.out _ (by have := b2.size; have := hM.1; omega)) (HQ.out _ (by have := b3.size; have h := hM2.1; have : w3.heap.size ≤ t2 := h; omega))); have bA : Below w3.heap.size w3 (w5.alloc (.cells #[pV t1, pV t2] 40)) := b5.trans (((Below.refl _ w5).alloc (Nat.le_refl _) _).mono b5.size))
      | (go_at_call 138; refine HSQ2.out.mono ?_; rintro e w7 ⟨t3, rfl, hM3⟩; have b7 : Below w3.heap.size w3 w7 := b5.trans (hM3.2.2.mono b5.size)))
    all_goals go_wp2
    all_goals go_ret
    all_goals refine ⟨t3, rfl, ?_⟩
    all_goals unfold unlK
    all_goals rw [if_pos rfl]
    all_goals exact hM3.of (b3.trans (b5.mono s3))
  · have SK3 := Lib.hid fun V (hV : Below w3.heap.size w3 V) => SK.out V (b3.trans (hV.mono s3))
    clear SK
    go_upto_region 4 with fail
    go_region_held3 (fun V => (V.cell? ⟨bl, 0, none⟩ = some (cellsV C) ∧ V.cell? ⟨bl, 1, none⟩ = some (.int .i64 (a : Int)) ∧ V.cell? ⟨bl, 2, none⟩ = some (.int .i64 ((a : Int) + 1)) ∧ V.cell? ⟨bl, 3, none⟩ = some (nextV m) ∧ V.cell? ⟨bl, 4, none⟩ = some (.int .i64 (m.t : Int))) ∧ V.cell? ⟨bp, 0, none⟩ = some (.int .i64 p) ∧ V.cell? ⟨bt, 0, none⟩ = some (.int .i64 t)) (first | exact SK3.out _ b7 | exact SK3.out _ bA | exact SK3.out _ b5 | exact SK3.out _ b4 | exact SK3.out _ bd3) (first
      | (go_at_call 30; refine (HX.out _).mono ?_; rintro e w4 ⟨rfl, hb4⟩; have b4 : Below w3.heap.size w3 w4 := bd3.trans hb4; have HSn2 := Lib.hid (HSn.out w4 (Nat.le_trans s3 b4.size)))
      | (go_at_call 179; (with_reducible refine (HMn.out _).mono ?_); rintro e w4b ⟨rfl, rfl⟩)
      | (go_at_call 178; refine HSn2.out.mono ?_; rintro e w5 ⟨t2, rfl, hM2⟩; have b5 : Below w3.heap.size w3 w5 := b4.trans (hM2.2.2.mono b4.size); have HSQ2 := Lib.hid (HSQ.out w5 t1 t2 _ (b3.trans (b5.mono s3)) (hM.task.at b5) hM2.task (HQ.out _ (by have := b2.size; have := hM.1; omega)) (HQ.out _ (by have := b4.size; have h := hM2.1; omega))); have bA : Below w3.heap.size w3 (w5.alloc (.cells #[pV t1, pV t2] 40)) := b5.trans (((Below.refl _ w5).alloc (Nat.le_refl _) _).mono b5.size))
      | (go_at_call 138; refine HSQ2.out.mono ?_; rintro e w7 ⟨t3, rfl, hM3⟩; have b7 : Below w3.heap.size w3 w7 := b5.trans (hM3.2.2.mono b5.size)))
    all_goals go_wp2
    all_goals go_ret
    all_goals refine ⟨t3, rfl, ?_⟩
    all_goals unfold unlK
    all_goals rw [if_neg hu]
    all_goals exact hM3.of (b3.trans (b5.mono s3))
theorem call_unlink1 : ∀ (W : World) (args : Array Value), (callFunc 273 args).run Tryz.prog W = .ok (.enter 273 args) W := by
  intro W args
  go_simp
theorem blk_three (w : World) (o1 o2 : Obj) (t : TypeId) (cs : Array Value) : Blk (((w.alloc o1).alloc o2).alloc (.cells cs t)) (w.heap.size + 2) t cs := by
  have h := Blk.new ((w.alloc o1).alloc o2) t cs
  simp only [World.size_alloc] at h
  exact h
set_option maxHeartbeats 2000000 in
theorem unlink_any (C P a : Nat) (m : Mp) (Q : Nat → Prop) (p t : Int) (w : World) (hm : m.ok) (hp : -1 ≤ p ∧ p < m.t) (ht : 0 ≤ t ∧ t < m.t) (hQ : ∀ k, w.heap.size ≤ k → Q k) :
    Calls Tryz.prog 185 #[lineV C a m, .int .i64 p, .int .i64 t] w fun e w' => ∃ t', e = .returned (pV t') ∧ MadeQ (cellOps C P) w Q (unlinkT m a p t) t' w' := by
  have hmf : ∀ (fn : Fn) (first cap : Array Value) (w : World), (Instr.makeFunc fn first cap).run Tryz.prog w = .ok (.func fn first cap) w := fun _ _ _ _ => rfl
  have HQ := Lib.hid hQ
  have HM := Lib.hid hm
  have Ht := Lib.hid ht
  have Hp := Lib.hid hp
  clear hQ hm ht hp
  go_enter Tryz.func185, Tryz.ntmps185
  go_upto_region 1 with fail
  generalize hW : (((w.alloc _).alloc _).alloc _) = W
  have bW : Below w.heap.size w W := by rw [← hW]; go_grown
  have sW : W.heap.size = w.heap.size + 3 := by rw [← hW]; simp
  have q0 : Blk W w.heap.size 153 (lineCs C a m) := by rw [← hW]; exact ((Blk.new w _ _).alloc _).alloc _
  have q1 : Blk W (w.heap.size + 1) 3 #[.int .i64 p] := by rw [← hW]; exact (blk_two w _ _ _).alloc _
  have q2 : Blk W (w.heap.size + 2) 3 #[.int .i64 t] := by rw [← hW]; exact blk_three w _ _ _ _
  clear hW
  have HX := Lib.hid fun V => next_any m t V HM.out Ht.out
  have HF : Hid (FnT C P m W Q (cloV 273 #[pV w.heap.size, pV (w.heap.size + 1), pV (w.heap.size + 2)]) (unlK m a p t)) := Lib.hid ⟨_, _, rfl, call_unlink1, fun V u hV h1 h2 => unlink1_any C P a m _ p t u _ _ _ V HM.out Hp.out Ht.out ⟨h1, h2⟩ (q0.keep hV (fun h => h (HQ.out _ (by omega)))) (q1.keep hV (fun h => h (HQ.out _ (by omega)))) (q2.keep hV (fun h => h (HQ.out _ (by omega)))) (fun k hk => .inr hk)⟩
  have HR := Lib.hid fun V (hV : Below W.heap.size W V) => read_any C P a m (nxN m t) _ (unlK m a p t) Q V HM.out (HF.out.later (Keep.ofBelow hV) (fun _ _ h => h)) (fun k hk => HQ.out k (by have := hV.size; omega))
  have SK := Lib.hid (show ∀ V, Below W.heap.size W V → (V.cell? ⟨w.heap.size, 0, none⟩ = some (cellsV C) ∧ V.cell? ⟨w.heap.size, 1, none⟩ = some (.int .i64 (a : Int)) ∧ V.cell? ⟨w.heap.size, 2, none⟩ = some (.int .i64 ((a : Int) + 1)) ∧ V.cell? ⟨w.heap.size, 3, none⟩ = some (nextV m) ∧ V.cell? ⟨w.heap.size, 4, none⟩ = some (.int .i64 (m.t : Int))) ∧ V.cell? ⟨w.heap.size + 2, 0, none⟩ = some (.int .i64 t) from fun V hk => ⟨lineE_of (q0.below hk q0.lt), (q2.below hk q2.lt).cell 0 _ rfl⟩)
  have bd := bdrewE W
  go_region_held3 (fun V => (V.cell? ⟨w.heap.size, 0, none⟩ = some (cellsV C) ∧ V.cell? ⟨w.heap.size, 1, none⟩ = some (.int .i64 (a : Int)) ∧ V.cell? ⟨w.heap.size, 2, none⟩ = some (.int .i64 ((a : Int) + 1)) ∧ V.cell? ⟨w.heap.size, 3, none⟩ = some (nextV m) ∧ V.cell? ⟨w.heap.size, 4, none⟩ = some (.int .i64 (m.t : Int))) ∧ V.cell? ⟨w.heap.size + 2, 0, none⟩ = some (.int .i64 t)) (first | exact SK.out _ b3 | exact SK.out _ b2 | exact SK.out _ bd) (first
    | (go_at_call 30; refine (HX.out _).mono ?_; rintro e w2 ⟨rfl, hb2⟩; have b2 : Below W.heap.size W w2 := bd.trans hb2; have HR2 := Lib.hid (HR.out w2 b2))
    | (go_at_call 183; refine HR2.out.mono ?_; rintro e w3 ⟨t', rfl, hM⟩; have b3 : Below W.heap.size W w3 := b2.trans (hM.2.2.mono b2.size)))
  all_goals go_wp2
  all_goals go_ret
  all_goals exact ⟨t', rfl, hM.of (bW.trans (b2.mono bW.size))⟩
def popK (m : Mp) (a : Nat) (t : Int) : Tre Itm := if t = -1 then retT (-1) else seqT [unlinkT m a (-1) t, retT t]
def popT (m : Mp) (a : Nat) : Tre Itm := readT m a (popK m a)
theorem call_pop1 : ∀ (W : World) (args : Array Value), (callFunc 184 args).run Tryz.prog W = .ok (.enter 184 args) W := by
  intro W args
  go_simp
theorem pop1_any (C P a : Nat) (m : Mp) (Q : Nat → Prop) (t : Int) (bl : Nat) (w : World) (hm : m.ok) (ht : -1 ≤ t ∧ t < m.t) (hl : Blk w bl 153 (lineCs C a m)) (hQ : ∀ k, w.heap.size ≤ k → Q k) :
    Calls Tryz.prog 184 #[.int .i64 t, pV bl] w fun e w' => ∃ t', e = .returned (pV t') ∧ MadeQ (cellOps C P) w Q (popK m a t) t' w' := by
  have d0 : w.cell? ⟨bl, 0, none⟩ = some (cellsV C) := hl.cell 0 _ rfl
  have d1 : w.cell? ⟨bl, 1, none⟩ = some (.int .i64 (a : Int)) := hl.cell 1 _ rfl
  have d2 : w.cell? ⟨bl, 2, none⟩ = some (.int .i64 ((a : Int) + 1)) := hl.cell 2 _ rfl
  have d3 : w.cell? ⟨bl, 3, none⟩ = some (nextV m) := hl.cell 3 _ rfl
  have d4 : w.cell? ⟨bl, 4, none⟩ = some (.int .i64 (m.t : Int)) := hl.cell 4 _ rfl
  clear hl
  by_cases h : t = -1
  · subst h
    clear hm ht
    go_enter Tryz.func184, Tryz.ntmps184
    go_wp2_with (go_at_call 102; refine (readyQ C P Q (-1) _).mono ?_; rintro e w2 ⟨t', rfl, h1⟩)
    go_ret
    exact ⟨t', rfl, by rw [popK, if_pos rfl]; exact h1⟩
  · have HU := Lib.hid (unlink_any C P a m Q (-1) t w hm ⟨by omega, by have := hm.t; omega⟩ ⟨by omega, ht.2⟩ hQ)
    have HR := Lib.hid fun W => readyQ C P Q t W
    have HQ := Lib.hid hQ
    have HSQ := Lib.hid fun V t1 t2 (hV : Below w.heap.size w V) h1 h2 q1 q2 => seqT_two (cellOps C P) Q (unlinkT m a (-1) t) (retT t) t1 t2 V h1 h2 q1 q2 (fun k hk => HQ.out k (by have := hV.size; omega))
    clear hm ht hQ
    go_enter Tryz.func184, Tryz.ntmps184
    go_wp2_with (first
      | (go_at_call 185; refine HU.out.mono ?_; rintro e w2 ⟨t1, rfl, hM1⟩; have HR2 := Lib.hid (HR.out w2))
      | (go_at_call 102; refine HR2.out.mono ?_; rintro e w3 ⟨t2, rfl, hM2⟩; have b3 : Below w.heap.size w w3 := hM1.2.2.trans (hM2.2.2.mono hM1.2.2.size); have HSQ2 := Lib.hid (HSQ.out w3 t1 t2 b3 (hM1.task.at hM2.2.2) hM2.task (HQ.out _ hM1.1) (HQ.out _ (Nat.le_trans hM1.2.2.size hM2.1))))
      | (go_at_call 138; refine HSQ2.out.mono ?_; rintro e w5 ⟨t3, rfl, hM3⟩))
    go_ret
    exact ⟨t3, rfl, by rw [popK, if_neg h]; exact hM3.of b3⟩
theorem lpop_any (C P a : Nat) (m : Mp) (Q : Nat → Prop) (w : World) (hm : m.ok) (hQ : ∀ k, w.heap.size ≤ k → Q k) :
    Calls Tryz.prog 105 #[lineV C a m] w fun e w' => ∃ t, e = .returned (pV t) ∧ MadeQ (cellOps C P) w Q (popT m a) t w' := by
  have hmf : ∀ (fn : Fn) (first cap : Array Value) (w : World), (Instr.makeFunc fn first cap).run Tryz.prog w = .ok (.func fn first cap) w := fun _ _ _ _ => rfl
  have HQ := Lib.hid hQ
  have HM := Lib.hid hm
  clear hQ hm
  go_enter Tryz.func105, Tryz.ntmps105
  go_upto_region 1 with fail
  generalize hW : (w.alloc _) = W
  have bW : Below w.heap.size w W := by rw [← hW]; go_grown
  have sW : W.heap.size = w.heap.size + 1 := by rw [← hW]; simp
  have hlW : Blk W w.heap.size 153 (lineCs C a m) := by rw [← hW]; exact Blk.new w _ _
  clear hW
  have d0 : W.cell? ⟨w.heap.size, 0, none⟩ = some (cellsV C) := hlW.cell 0 _ rfl
  have d1 : W.cell? ⟨w.heap.size, 1, none⟩ = some (.int .i64 (a : Int)) := hlW.cell 1 _ rfl
  have d2 : W.cell? ⟨w.heap.size, 2, none⟩ = some (.int .i64 ((a : Int) + 1)) := hlW.cell 2 _ rfl
  have d3 : W.cell? ⟨w.heap.size, 3, none⟩ = some (nextV m) := hlW.cell 3 _ rfl
  have d4 : W.cell? ⟨w.heap.size, 4, none⟩ = some (.int .i64 (m.t : Int)) := hlW.cell 4 _ rfl
  have HR := Lib.hid (read_any C P a m a (cloV 184 #[pV w.heap.size]) (popK m a) Q W HM.out ⟨_, _, rfl, call_pop1, fun V u hV h1 h2 => pop1_any C P a m _ u w.heap.size V HM.out ⟨h1, h2⟩ (hlW.keep hV (fun h => h (HQ.out _ (Nat.le_refl _)))) (fun k hk => .inr hk)⟩ (fun k hk => HQ.out k (by omega)))
  go_wp2_with (go_at_call 183; refine HR.out.mono ?_; rintro e w2 ⟨t, rfl, h1⟩)
  go_ret
  exact ⟨t, rfl, h1.of bW⟩
end Go.Proofs.YtldofbkjjmnooaaGreat
/- Package queue: the threads that were seen; remove's own functions. -/
namespace Go.Proofs.YtldofbkjjmnooaaGreat
open Go.ChangeShapes Go.WideShapes Go.ChangeAt Go.RowKit Go.Maps
set_option linter.unusedVariables false
set_option maxRecDepth 100000
set_option linter.unusedSimpArgs false
/-- a map of the call's own in which these numbers are true -/
def SetAt (w : World) (bm : Nat) (L : List Int) : Prop := ∃ D : DataW Unit, w.ownsMap Tryz.prog 3 (plainElem Tryz.prog 4) bm L.length D ∧ IsMap D ∧ ∀ u : Int, -9223372036854775808 ≤ u ∧ u ≤ 9223372036854775807 → D.atKey (.int .i64 u) (.lit (.bool false)) = .lit (.bool (decide (u ∈ L)))
theorem lawSet : Keyed Tryz.prog 3 := int_keyed Tryz.underlying3
theorem zeroB (w : World) : (zeroValue 4).run Tryz.prog w = .ok (.bool false) w := by kernel_rfl
theorem int_wf {u : Int} (h : -9223372036854775808 ≤ u ∧ u ≤ 9223372036854775807) : (Lit.int .i64 u).wf = true := by
  simp [Lit.wf, IntKind.min, IntKind.max, IntKind.signed, IntKind.bits]
  omega
theorem SetAt.lt {w : World} {bm : Nat} {L : List Int} (h : SetAt w bm L) : bm < w.heap.size := by
  obtain ⟨D, h1, _⟩ := h
  exact h1.lt
theorem SetAt.keep {w w1 : World} {F : Nat → Prop} {bm : Nat} {L : List Int} (h : SetAt w bm L) (hk : Keep F w w1) (hn : ¬ F bm) : SetAt w1 bm L := by
  obtain ⟨D, h1, h2, h3⟩ := h
  have hlt := h1.lt
  obtain ⟨es, clock, hb, hr⟩ := h1
  exact ⟨D, ⟨es, clock, (hk.block bm hlt hn).trans hb, hr⟩, h2, h3⟩
theorem SetAt.made (w : World) : SetAt (w.alloc (.map #[] 0)) w.heap.size [] :=
  ⟨.map [], World.ownsMap_made w _ _ _, isMap_empty, fun u _ => by simp [DataW.atKey]⟩
theorem SetAt.look {w : World} {bm : Nat} {L : List Int} (h : SetAt w bm L) {u : Int} (hu : -9223372036854775808 ≤ u ∧ u ≤ 9223372036854775807) :
    (Instr.lookup 241 (.map (some bm)) (.int .i64 u) false).run Tryz.prog w = .ok (.bool (decide (u ∈ L))) w := by
  obtain ⟨D, h1, h2, h3⟩ := h
  obtain ⟨v, ps, hrun, hv⟩ := h1.lookup lawSet Tryz.underlying241 (zeroB w) (plainElem_bool Tryz.underlying4 false) (keyOf_int_mk Tryz.underlying3 (int_wf hu))
  rw [h3 u hu] at hv
  rw [hrun]
  cases v <;> simp [plainElem, Tryz.underlying4] at hv
  rw [hv.1]
theorem SetAt.put {w : World} {bm : Nat} {L : List Int} (h : SetAt w bm L) {u : Int} (hu : -9223372036854775808 ≤ u ∧ u ≤ 9223372036854775807) (hL : L.length < maxLen) :
    ∃ w', (Instr.mapUpdate 241 (.map (some bm)) (.int .i64 u) (.bool true)).run Tryz.prog w = .ok () w' ∧ SetAt w' bm (u :: L) ∧ w.grownBy w' (some bm) := by
  obtain ⟨D, h1, h2, h3⟩ := h
  obtain ⟨w', hrun, h4, h5⟩ := h1.update lawSet Tryz.underlying241 hL (keyOf_int_mk Tryz.underlying3 (int_wf hu)) (plainElem_bool Tryz.underlying4 true)
  refine ⟨w', hrun, ⟨_, h4, h2.put _ _, fun x hx => ?_⟩, h5⟩
  by_cases e : x = u
  · subst e
    rw [atKey_put_same h2 (by exact trivial)]
    simp
  · rw [atKey_put_other (by simpa using e), h3 x hx]
    simp [e]
/-- what remove's functions share: the line, the thread, the thread ahead, those that were seen -/
structure RemAt (w : World) (C a : Nat) (m : Mp) (t : Int) (bl bt ba bs bm : Nat) (p : Int) (L : List Int) : Prop where
  line : Blk w bl 153 (lineCs C a m)
  thr : Blk w bt 3 #[.int .i64 t]
  ahead : Blk w ba 3 #[.int .i64 p]
  seen : Blk w bs 241 #[.map (some bm)]
  set : SetAt w bm L
  ne : ba ≠ bl ∧ ba ≠ bt ∧ ba ≠ bs ∧ ba ≠ bm ∧ bm ≠ bl ∧ bm ≠ bt ∧ bm ≠ bs
theorem RemAt.keep {w w1 : World} {F : Nat → Prop} {C a : Nat} {m : Mp} {t : Int} {bl bt ba bs bm : Nat} {p : Int} {L : List Int} (h : RemAt w C a m t bl bt ba bs bm p L) (hk : Keep F w w1) (h1 : ¬ F bl) (h2 : ¬ F bt) (h3 : ¬ F ba) (h4 : ¬ F bs) (h5 : ¬ F bm) : RemAt w1 C a m t bl bt ba bs bm p L :=
  ⟨h.line.keep hk h1, h.thr.keep hk h2, h.ahead.keep hk h3, h.seen.keep hk h4, h.set.keep hk h5, h.ne⟩
theorem rem11_on (C P a : Nat) (m : Mp) (Q : Nat → Prop) (t p u : Int) (L : List Int) (bl bt ba bs bm : Nat) (w : World) (hR : RemAt w C a m t bl bt ba bs bm p L) (hu : -1 ≤ u ∧ u < m.t) (hm : m.ok) (h1 : u ≠ t) (h2 : u ≠ -1) (h3 : u ∉ L) (hL : L.length < maxLen) :
    Calls Tryz.prog 188 #[.int .i64 u, pV bt, pV bl, pV ba, pV bs] w fun e w' => ∃ t', e = .returned (pV t') ∧ w.heap.size ≤ t' ∧ DoneV w' (some ⟨t', 0, none⟩) (-2147483648) ∧ RemAt w' C a m t bl bt ba bs bm u (u :: L) ∧ Keep (fun b => b = ba ∨ b = bm) w w' := by
  have hmt := hm.t
  have hub : -9223372036854775808 ≤ u ∧ u ≤ 9223372036854775807 := by omega
  have c0 : w.cell? ⟨bt, 0, none⟩ = some (.int .i64 t) := hR.thr.cell 0 _ rfl
  have c1 : w.cell? ⟨bs, 0, none⟩ = some (.map (some bm)) := hR.seen.cell 0 _ rfl
  have hlk := hR.set.look hub
  rw [show decide (u ∈ L) = false by simpa using h3] at hlk
  have e1 : (u == t) = false := by simpa using h1
  have e2 : (u == -1) = false := by simpa using h2
  have HR := Lib.hid hR
  have HL := Lib.hid hL
  clear hR hL h3 hu hmt hm h1 h2
  go_enter Tryz.func188, Tryz.ntmps188
  go_upto_region 5 with fail
  have z0 := HR.out.ahead.free 0
  obtain ⟨n1, n2, n3, n4, n5, n6, n7⟩ := HR.out.ne
  have ks : Keep (fun b => b = ba) w ((w.setCell ⟨ba, 0, none⟩ (.int .i64 u)).drew) := ((Keep.refl (fun b => b = ba) w).set (p := ⟨ba, 0, none⟩) (fun _ => rfl) _).drew
  have hSa : SetAt ((w.setCell ⟨ba, 0, none⟩ (.int .i64 u)).drew) bm L := HR.out.set.keep ks (fun e => n4 e.symm)
  have c2 : w.cell? ⟨ba, 0, none⟩ = some (.int .i64 p) := HR.out.ahead.cell 0 _ rfl
  obtain ⟨w5, hup, hs5, hg5⟩ := hSa.put hub HL.out
  clear hSa hlk
  go_region
  have k5 : Keep (fun b => b = bm) ((w.setCell ⟨ba, 0, none⟩ (.int .i64 u)).drew) w5 := ⟨hg5.os, hg5.tape, hg5.output, hg5.size, fun k hk hn => hg5.block k hk (fun e => hn (by injection e))⟩
  have kA : Keep (fun b => b = ba ∨ b = bm) w w5 := (ks.mono (fun _ _ h => .inl h)).trans (k5.mono (fun _ _ h => .inr h))
  have hA : Blk w5 ba 3 #[.int .i64 u] := ((HR.out.ahead.set 0 (.int .i64 u)).keep ((Keep.refl (fun _ => False) _).drew) (fun h => h)).keep k5 n4
  have HA := Lib.hid hA
  have HS5 := Lib.hid hs5
  clear hup hA hs5 hg5 c0 c1 c2 z0 ks k5
  go_wp2_with (go_at_call 102; refine (ready_any _ _).mono ?_; rintro e w6 ⟨t', rfl, h1, h2, h3⟩)
  go_ret
  have k6 : Keep (fun _ => False) w5 w6 := Keep.ofBelow h3
  refine ⟨t', rfl, Nat.le_trans kA.size h1, .inr ⟨t', rfl, h2⟩, ⟨(HR.out.line.keep kA ?_).keep k6 (fun h => h), (HR.out.thr.keep kA ?_).keep k6 (fun h => h), HA.out.keep k6 (fun h => h), (HR.out.seen.keep kA ?_).keep k6 (fun h => h), HS5.out.keep k6 (fun h => h), HR.out.ne⟩, kA.trans (Keep.ofBelow h3)⟩
  · exact fun h => h.elim (fun e => n1 e.symm) (fun e => n5 e.symm)
  · exact fun h => h.elim (fun e => n2 e.symm) (fun e => n6 e.symm)
  · exact fun h => h.elim (fun e => n3 e.symm) (fun e => n7 e.symm)
theorem rem11_end (C P a : Nat) (m : Mp) (Q : Nat → Prop) (t p u : Int) (L : List Int) (bl bt ba bs bm : Nat) (w : World) (hR : RemAt w C a m t bl bt ba bs bm p L) (hu : -1 ≤ u ∧ u < m.t) (hm : m.ok) (h1 : u ≠ t) (h2 : u = -1 ∨ u ∈ L) :
    Calls Tryz.prog 188 #[.int .i64 u, pV bt, pV bl, pV ba, pV bs] w fun e w' => ∃ t', e = .returned (pV t') ∧ w.heap.size ≤ t' ∧ DoneV w' (some ⟨t', 0, none⟩) 0 ∧ Below w.heap.size w w' := by
  have hmt := hm.t
  have hub : -9223372036854775808 ≤ u ∧ u ≤ 9223372036854775807 := by omega
  have c0 : w.cell? ⟨bt, 0, none⟩ = some (.int .i64 t) := hR.thr.cell 0 _ rfl
  have c1 : w.cell? ⟨bs, 0, none⟩ = some (.map (some bm)) := hR.seen.cell 0 _ rfl
  have hlk := hR.set.look hub
  have e1 : (u == t) = false := by simpa using h1
  clear hR hu hmt hm
  by_cases h : u = -1
  · subst h
    clear h2 h1 hlk c1
    go_enter Tryz.func188, Tryz.ntmps188
    go_wp2_with (go_at_call 102; refine (ready_any _ _).mono ?_; rintro e w6 ⟨t', rfl, h1, h2, h3⟩)
    go_ret
    exact ⟨t', rfl, h1, .inr ⟨t', rfl, h2⟩, h3⟩
  · have e2 : (u == -1) = false := by simpa using h
    rw [show decide (u ∈ L) = true by simpa using h2.resolve_left h] at hlk
    clear h2 h1 h
    go_enter Tryz.func188, Tryz.ntmps188
    go_wp2_with (go_at_call 102; refine (ready_any _ _).mono ?_; rintro e w6 ⟨t', rfl, h1, h2, h3⟩)
    go_ret
    exact ⟨t', rfl, h1, .inr ⟨t', rfl, h2⟩, h3⟩
theorem rem11_is (C P a : Nat) (m : Mp) (Q : Nat → Prop) (t p : Int) (L : List Int) (bl bt ba bs bm : Nat) (w : World) (hR : RemAt w C a m t bl bt ba bs bm p L) (hp : -1 ≤ p ∧ p < m.t) (ht : 0 ≤ t ∧ t < m.t) (hm : m.ok) (hQ : ∀ k, w.heap.size ≤ k → Q k) :
    Calls Tryz.prog 188 #[.int .i64 t, pV bt, pV bl, pV ba, pV bs] w fun e w' => ∃ t', e = .returned (pV t') ∧ MadeQ (cellOps C P) w Q (seqT [unlinkT m a p t, retT 1]) t' w' := by
  have c0 : w.cell? ⟨bt, 0, none⟩ = some (.int .i64 t) := hR.thr.cell 0 _ rfl
  have c1 : w.cell? ⟨ba, 0, none⟩ = some (.int .i64 p) := hR.ahead.cell 0 _ rfl
  have d0 : w.cell? ⟨bl, 0, none⟩ = some (cellsV C) := hR.line.cell 0 _ rfl
  have d1 : w.cell? ⟨bl, 1, none⟩ = some (.int .i64 (a : Int)) := hR.line.cell 1 _ rfl
  have d2 : w.cell? ⟨bl, 2, none⟩ = some (.int .i64 ((a : Int) + 1)) := hR.line.cell 2 _ rfl
  have d3 : w.cell? ⟨bl, 3, none⟩ = some (nextV m) := hR.line.cell 3 _ rfl
  have d4 : w.cell? ⟨bl, 4, none⟩ = some (.int .i64 (m.t : Int)) := hR.line.cell 4 _ rfl
  have HU := Lib.hid (unlink_any C P a m Q p t w hm hp ht hQ)
  have HR := Lib.hid fun W => readyQ C P Q 1 W
  have HQ := Lib.hid hQ
  have HSQ := Lib.hid fun V t1 t2 (hV : Below w.heap.size w V) h1 h2 q1 q2 => seqT_two (cellOps C P) Q (unlinkT m a p t) (retT 1) t1 t2 V h1 h2 q1 q2 (fun k hk => HQ.out k (by have := hV.size; omega))
  clear hR hm hp ht hQ
  go_enter Tryz.func188, Tryz.ntmps188
  go_wp2_with (first
    | (go_at_call 185; refine HU.out.mono ?_; rintro e w2 ⟨t1, rfl, hM1⟩; have HR2 := Lib.hid (HR.out w2))
    | (go_at_call 102; refine HR2.out.mono ?_; rintro e w3 ⟨t2, rfl, hM2⟩; have b3 : Below w.heap.size w w3 := hM1.2.2.trans (hM2.2.2.mono hM1.2.2.size); have HSQ2 := Lib.hid (HSQ.out w3 t1 t2 b3 (hM1.task.at hM2.2.2) hM2.task (HQ.out _ hM1.1) (HQ.out _ (Nat.le_trans hM1.2.2.size hM2.1))))
    | (go_at_call 138; refine HSQ2.out.mono ?_; rintro e w5 ⟨t3, rfl, hM3⟩))
  go_ret
  exact ⟨t3, rfl, hM3.of b3⟩
theorem call_rem1 : ∀ (W : World) (args : Array Value), (callFunc 187 args).run Tryz.prog W = .ok (.enter 187 args) W := by
  intro W args
  go_simp
theorem call_rem11 : ∀ (W : World) (args : Array Value), (callFunc 188 args).run Tryz.prog W = .ok (.enter 188 args) W := by
  intro W args
  go_simp
abbrev rem1V (bl bt ba bs : Nat) : Value := cloV 187 #[pV bl, pV ba, pV bt, pV bs]
abbrev rem11V (bl bt ba bs : Nat) : Value := cloV 188 #[pV bt, pV bl, pV ba, pV bs]
theorem rem1_any (C a : Nat) (m : Mp) (Q : Nat → Prop) (t p : Int) (L : List Int) (bl bt ba bs bm : Nat) (w : World) (hR : RemAt w C a m t bl bt ba bs bm p L) (hp : -1 ≤ p ∧ p < m.t) (hm : m.ok) (hQ : ∀ k, w.heap.size ≤ k → Q k) :
    Calls Tryz.prog 187 #[pV bl, pV ba, pV bt, pV bs] w fun e w' => ∃ t' W d r f br bl2, e = .returned (pV t') ∧ Below w.heap.size w W ∧ ReadAt W w' C a m Q (behN m a p) (rem11V bl bt ba bs) t' d r f br bl2 ∧ Below w.heap.size w w' := by
  have hmf : ∀ (fn : Fn) (first cap : Array Value) (w : World), (Instr.makeFunc fn first cap).run Tryz.prog w = .ok (.func fn first cap) w := fun _ _ _ _ => rfl
  have HB := Lib.hid fun W => behind_any C a m p W hm hp
  have HD := Lib.hid fun W (h : w.heap.size ≤ W.heap.size) => read_raw C a m (behN m a p) 188 #[pV bt, pV bl, pV ba, pV bs] Q W (fun k hk => hQ k (by omega))
  have SK := Lib.hid (show ∀ V, Below w.heap.size w V → (V.cell? ⟨bl, 0, none⟩ = some (cellsV C) ∧ V.cell? ⟨bl, 1, none⟩ = some (.int .i64 (a : Int)) ∧ V.cell? ⟨bl, 2, none⟩ = some (.int .i64 ((a : Int) + 1)) ∧ V.cell? ⟨bl, 3, none⟩ = some (nextV m) ∧ V.cell? ⟨bl, 4, none⟩ = some (.int .i64 (m.t : Int))) ∧ V.cell? ⟨ba, 0, none⟩ = some (.int .i64 p) from fun V hk => ⟨lineE_of (hR.line.below hk hR.line.lt), (hR.ahead.below hk hR.ahead.lt).cell 0 _ rfl⟩)
  have bd := bdrewE w
  clear hR hp hm hQ
  go_enter Tryz.func187, Tryz.ntmps187
  go_upto_region 1 with fail
  go_region_held3 (fun V => (V.cell? ⟨bl, 0, none⟩ = some (cellsV C) ∧ V.cell? ⟨bl, 1, none⟩ = some (.int .i64 (a : Int)) ∧ V.cell? ⟨bl, 2, none⟩ = some (.int .i64 ((a : Int) + 1)) ∧ V.cell? ⟨bl, 3, none⟩ = some (nextV m) ∧ V.cell? ⟨bl, 4, none⟩ = some (.int .i64 (m.t : Int))) ∧ V.cell? ⟨ba, 0, none⟩ = some (.int .i64 p)) (first | exact SK.out _ b3 | exact SK.out _ b2 | exact SK.out _ bd) (first
    | (go_at_call 182; refine (HB.out _).mono ?_; rintro e w2 ⟨rfl, hb2⟩; have b2 : Below w.heap.size w w2 := bd.trans hb2; have HD2 := Lib.hid (HD.out w2 b2.size))
    | (go_at_call 183; refine HD2.out.mono ?_; rintro e w3 ⟨t', d, r, f, br, bl2, rfl, hA, hb3⟩; have b3 : Below w.heap.size w w3 := b2.trans (hb3.mono b2.size)))
  all_goals go_wp2
  all_goals go_ret
  all_goals exact ⟨t', w2, d, r, f, br, bl2, rfl, b2, hA, b3⟩
end Go.Proofs.YtldofbkjjmnooaaGreat
/- A range over a function whose iterator turns blocks of its own (Z), and whose body makes new ones: what the body holds stands while those are turned; the body keeps them. The body never leaves. No program is named here. (After XScRange.) -/
namespace Go.Proofs.YtldofbkjjmnooaaGreat
open Go.ChangeShapes Go.WideShapes Go.ChangeAt Go.RowKit
set_option linter.unusedVariables false
theorem keep_put {W : World} {l : Nat} (o : Obj) : Keep (fun i => i = l) W (W.putObj l o) :=
  ⟨rfl, rfl, rfl, by simp [World.putObj], fun i _ hi => World.putObj_heap_other (fun e => hi (by first | exact e | exact e.symm))⟩
/-- what a round keeps: all but the caller's own blocks and the loop's two -/
abbrev RKeep (Qb : Nat → Prop) (B : Nat) := Keep (fun i => Qb i ∨ (B ≤ i ∧ i < B + 2))
/-- the contract of such an iterator, called where the loop's two blocks were laid last -/
def SeqOwnZ {α : Type} (F : Fence) (n : Nat) (P : Program) (g : Nat) (lb : Array Value) (encs : α → Array Value) (xs : List α) (Qb Z : Nat → Prop) (B : Nat) (w : World) : Prop :=
  ∀ (J : List α → World → Prop) (W : World), Below w.heap.size w W → W.heap.size = B + 2 → (∀ s A A', J s A → Keep Z A A' → J s A') →
    (∀ pre x A, J pre A → pre.length < xs.length → (∀ i, Z i → i < A.heap.size) → YieldAt F (n - 1) P (B + 1) (encs x) A fun e A' => e = .returned (.bool true) ∧ J (pre ++ [x]) A' ∧ RKeep Qb B A A') →
    J [] W → CallsIn F n P g (#[.func (.yield (B + 1)) #[] #[]] ++ lb) W fun e W' => (∃ v, e = .returned v) ∧ J xs W'
theorem wpIn_range_ownZ {α : Type} {F : Fence} {n : Nat} {P : Program} {g : Operand} {ps : Array Tmp} {assign body : Code} {Q : Exit → Act → World → Prop} {a : Act} {w : World}
    (hro : F.round = none) (h1 : 1 ≤ n) {gf : Nat} {lb : Array Value} (hg : a.eval g = .func (.func gf) #[] lb) (hFg : F.fn gf) (eg : ∀ args w, (callFunc gf args).run P w = .ok (.enter gf args) w)
    {encs : α → Array Value} {xs : List α} {Qb Z : Nat → Prop} (hQ : ∀ i, Qb i → i < w.heap.size ∨ w.heap.size + 2 ≤ i) (hZ : ∀ i, Z i → w.heap.size + 2 ≤ i) (hseq : SeqOwnZ F (n - 1) P gf lb encs xs Qb Z w.heap.size w) (hps : ∀ x, (encs x).size = ps.size)
    (I : List α → World → Prop) (hI : ∀ s A A', I s A → Keep (fun i => Z i ∨ (w.heap.size ≤ i ∧ i < w.heap.size + 2)) A A' → I s A') (h0 : I [] w)
    (Ax : α → Act → World → Prop) (hAx : ∀ x a' A A', Ax x a' A → Keep (fun i => i = w.heap.size + 1) A A' → Ax x a' A')
    (hassign : ∀ (pre : List α) (x : α) (W : World) (K : Act → World → Prop), I pre W → w.heap.size + 2 ≤ W.heap.size → (∀ a' W', Below W.heap.size W W' → Ax x a' W' → K a' W') →
      assign.wpIn (F.inRound (w.heap.size + 1)) (n - 1 - 1) P (Exit.then K (fun _ _ _ => False)) { tmps := (ps.zip (encs x)).foldl (fun t (p, v) => t.setIfInBounds p v) a.tmps, defers := [] } W)
    (hbody : ∀ (pre : List α) (x : α) (a' : Act) (W : World), I pre W → Ax x a' W → w.heap.size + 2 ≤ W.heap.size → pre.length < xs.length → (∀ i, Z i → i < W.heap.size) →
      body.wpIn (F.inRound (w.heap.size + 1)) (n - 1 - 1) P (fun e _ W' => e = .normal ∧ I (pre ++ [x]) W' ∧ Keep Qb W W') a' W)
    (hdone : ∀ (W : World), I xs W → w.heap.size < W.heap.size → W.heap[w.heap.size]? = some (.deferred (some [])) → Q .normal { a with defers := { target := .collected w.heap.size, args := #[] } :: a.defers } W) :
    (Code.rangeFunc g ps assign body).wpIn F n P Q a w := by
  refine wpIn_rangeFunc ?_
  intro fn hfn
  rw [hro]
  obtain ⟨mk, hmk⟩ : ∃ mk : LoopState → Loop, mk = fun st => { state := st, pending := none, fn, tmps := a.tmps, params := ps, assign, body, defers := w.heap.size } := ⟨_, rfl⟩
  obtain ⟨W1, hW1⟩ : ∃ W1, (w.alloc (.deferred (some []))).alloc (.loop (mk .ready)) = W1 := ⟨_, rfl⟩
  have sW1 : W1.heap.size = w.heap.size + 2 := by rw [← hW1]; simp
  have hL1 : W1.heap[w.heap.size + 1]? = some (.loop (mk .ready)) := by
    rw [← hW1]; have := World.alloc_heap_new (w.alloc (.deferred (some []))) (.loop (mk .ready)); rwa [World.size_alloc] at this
  have hK1 : W1.heap[w.heap.size]? = some (.deferred (some [])) := by
    rw [← hW1]; exact (Below.heap_alloc _ _ _ (by simp)).trans (World.alloc_heap_new w _)
  have hb1 : Below w.heap.size w W1 := by rw [← hW1]; exact ((Below.refl _ w).alloc (Nat.le_refl _) _).alloc (by simp) _
  refine ⟨w.heap.size + 1, [{ target := .collected w.heap.size, args := #[] }], W1, { target := .fn (.func gf) lb, args := #[.func (.yield (w.heap.size + 1)) #[] #[]] }, W1, gf,
    #[.func (.yield (w.heap.size + 1)) #[] #[]] ++ lb, W1, ?_, ?_, ?_, ?_, fun _ => h1, ?_⟩
  · rw [← hW1, hmk]; exact run_enterLoop_outer _ _ _ _ _
  · simp only [resolve, hg]
    simp [go_sem]
  · intro f' hf'; simp [Target.leads] at hf'; subst hf'; exact hFg
  · simp [invoke, go_sem, eg]
  · refine (hseq (fun pre W => I pre W ∧ W.heap[w.heap.size + 1]? = some (.loop (mk .ready)) ∧ W.heap[w.heap.size]? = some (.deferred (some []))) W1 hb1 sW1 ?_ ?_ ⟨hI _ _ _ h0 (Keep.ofBelow hb1), hL1, hK1⟩).mono ?_
    · rintro s A A' ⟨i1, i2, i3⟩ hb
      exact ⟨hI _ _ _ i1 (hb.mono fun _ _ h => .inl h), (hb.block _ (Array.getElem?_eq_some_iff.1 i2).1 (fun h => by have := hZ _ h; omega)).trans i2, (hb.block _ (Array.getElem?_eq_some_iff.1 i3).1 (fun h => by have := hZ _ h; omega)).trans i3⟩
    · rintro pre x W ⟨hi, hl, hk⟩ hlen hzl
      have hlt : w.heap.size + 1 < W.heap.size := (Array.getElem?_eq_some_iff.1 hl).1
      have hy := run_yield (P := P) (args := encs x) hl (by rw [hmk]; exact hps x)
      rw [hmk] at hy
      refine ⟨fn, _, assign, body, hy, roundIn_of_wpIn hfn (hassign pre x W _ hi (by omega) ?_)⟩
      intro a' Wa hba hax
      have hla := (hba.block _ hlt).trans hl
      have hka := (hba.block (w.heap.size) (by omega)).trans hk
      have hsa := hba.size
      refine ⟨_, run_beginRound hla (by rw [hmk]), ?_⟩
      obtain ⟨Wb, hWb⟩ : ∃ Wb, Wa.putObj (w.heap.size + 1) (.loop { mk .ready with state := .busy }) = Wb := ⟨_, rfl⟩
      rw [hWb]
      have kb : Keep (fun i => i = w.heap.size + 1) Wa Wb := by rw [← hWb]; exact keep_put _
      have hlb : Wb.heap[w.heap.size + 1]? = some (.loop { mk .ready with state := .busy }) := by rw [← hWb]; exact World.putObj_heap_same (by omega)
      have hkb : Wb.heap[w.heap.size]? = some (.deferred (some [])) := (kb.block _ (by omega) (by omega)).trans hka
      have hib : I pre Wb := hI _ _ _ (hI _ _ _ hi (Keep.ofBelow hba)) (kb.mono fun i _ e => .inr (by omega))
      refine wpIn_mono (hbody pre x a' Wb hib (hAx _ _ _ _ hax kb) (by have := kb.size; omega) hlen (fun i hz => by have := hzl i hz; have := hba.size; have := kb.size; omega)) ?_
      rintro e a3 W3 ⟨rfl, hi3, k3⟩
      have hl3 : W3.heap[w.heap.size + 1]? = some (.loop { mk .ready with state := .busy }) := (k3.block _ (by have := kb.size; omega) (fun e => by have := hQ _ e; omega)).trans hlb
      have hk3 : W3.heap[w.heap.size]? = some (.deferred (some [])) := (k3.block _ (by have := kb.size; omega) (fun e => by have := hQ _ e; omega)).trans hkb
      have hr := run_endRound (P := P) none hl3
      obtain ⟨W4, hW4⟩ : ∃ W4, W3.putObj (w.heap.size + 1) (.loop (mk .ready)) = W4 := ⟨_, rfl⟩
      have k4 : Keep (fun i => i = w.heap.size + 1) W3 W4 := by rw [← hW4]; exact keep_put _
      have hs3 : w.heap.size + 1 < W3.heap.size := (Array.getElem?_eq_some_iff.1 hl3).1
      have hl4 : W4.heap[w.heap.size + 1]? = some (.loop (mk .ready)) := by rw [← hW4]; exact World.putObj_heap_same hs3
      refine ⟨.bool true, W4, ?_, rfl, ⟨hI _ _ _ hi3 (k4.mono fun i _ e => .inr (by omega)), hl4, (k4.block _ (by omega) (by omega)).trans hk3⟩, ?_⟩
      · rw [← hW4]
        rw [hmk] at hr ⊢
        exact hr
      · have ka : RKeep Qb w.heap.size W Wa := Keep.ofBelow hba
        exact ((ka.trans (kb.mono (fun i _ e => .inr (by omega)))).trans (k3.mono (fun i _ e => .inl e))).trans (k4.mono (fun i _ e => .inr (by omega)))
    · rintro e W2 ⟨⟨v, rfl⟩, hi, hl, hk⟩
      have he := run_endLoop (P := P) hl (by rw [hmk]; simp)
      have hs2 : w.heap.size + 1 < W2.heap.size := (Array.getElem?_eq_some_iff.1 hl).1
      have k5 : Keep (fun i => i = w.heap.size + 1) W2 (W2.putObj (w.heap.size + 1) (.loop { mk .ready with state := .exhausted })) := keep_put _
      refine ⟨none, _, ?_, hdone _ (hI _ _ _ hi (k5.mono fun i _ e => .inr (by omega))) (by have := k5.size; omega) ((k5.block _ (by omega) (by omega)).trans hk)⟩
      rw [hmk] at he ⊢
      exact he
end Go.Proofs.YtldofbkjjmnooaaGreat
