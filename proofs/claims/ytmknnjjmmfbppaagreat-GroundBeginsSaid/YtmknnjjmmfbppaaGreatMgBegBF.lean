/- Package queue: read, end. -/
import Derived.Test.YtmknnjjmmfbppaaGreatMgBegBE
import Derived.Test.YtmknnjjmmfbppaaGreatMgBegBC
namespace Go.Proofs.YtmknnjjmmfbppaaGreat
open Go.ChangeShapes Go.WideShapes Go.ChangeAt Go.RowKit
set_option linter.unusedVariables false
set_option maxRecDepth 100000
set_option linter.unusedSimpArgs false
abbrev ldI (i : Nat) : Itm := ⟨0, i, 0, 0⟩
abbrev stI (i : Nat) (v : Int) : Itm := ⟨1, i, v, 0⟩
def stT (i : Nat) (v : Int) : Tre Itm := opT (stI i v) fun u => retT u
theorem stT_eq (i : Nat) (v : Int) : itmT [stI i v] 0 = stT i v := rfl
def readT (m : Mp) (i : Nat) (κ : Int → Tre Itm) : Tre Itm := opT (ldI i) fun v => κ (thrS m v)
/-- a line, in a box -/
abbrev lineCs (C a : Nat) (m : Mp) : Array Value := #[cellsV C, .int .i64 (a : Int), .int .i64 ((a : Int) + 1), nextV m, .int .i64 (m.t : Int)]
/-- a function of threads that hands back a task -/
def FnT (C P : Nat) (m : Mp) (w : World) (Q : Nat → Prop) (fv : Value) (κ : Int → Tre Itm) : Prop :=
  ∃ G caps, fv = cloV G caps ∧ (∀ (W : World) (args : Array Value), (callFunc G args).run Tryz.prog W = .ok (.enter G args) W) ∧
    ∀ (W : World) (u : Int), Keep (fun b => ¬ Q b) w W → -1 ≤ u → u < m.t → Calls Tryz.prog G (#[.int .i64 u] ++ caps) W fun e w2 => ∃ t, e = .returned (pV t) ∧ MadeQ (cellOps C P) W (fun b => (Q b ∧ b < w.heap.size) ∨ W.heap.size ≤ b) (κ u) t w2
theorem FnT.later {C P : Nat} {m : Mp} {w w1 : World} {Q Q1 : Nat → Prop} {fv : Value} {κ : Int → Tre Itm} (h : FnT C P m w Q fv κ) (hk : Keep (fun _ => False) w w1) (hq : ∀ b, b < w.heap.size → Q b → Q1 b) : FnT C P m w1 Q1 fv κ := by
  obtain ⟨G, caps, rfl, hc, h⟩ := h
  refine ⟨G, caps, rfl, hc, fun W u hW h1 h2 => ?_⟩
  have hs := hk.size
  refine (h W u ⟨hW.os.trans hk.os, hW.tape.trans hk.tape, hW.output.trans hk.output, Nat.le_trans hs hW.size, fun b hb hn => ?_⟩ h1 h2).mono ?_
  · have hQ : Q b := Classical.not_not.1 hn
    rw [hW.block b (by omega) (fun h => h (hq b hb hQ)), hk.block b hb (fun h => h)]
  · rintro e w2 ⟨t, rfl, hM⟩
    exact ⟨t, rfl, hM.mono fun b _ h => h.imp (fun h => ⟨hq b h.2 h.1, by omega⟩) id⟩
theorem call_read1 : ∀ (W : World) (args : Array Value), (callFunc 299 args).run Tryz.prog W = .ok (.enter 299 args) W := by
  intro W args
  go_simp
theorem read1_any (C a : Nat) (m : Mp) (v : Int) (bt bl G : Nat) (caps : Array Value) (w : World) (F : Nat → Prop) (R : World → Nat → World → Prop) (hm : m.ok) (hbt : Blk w bt 157 #[cloV G caps]) (hbl : Blk w bl 163 (lineCs C a m)) (ft : ¬ F bt) (fl : ¬ F bl)
    (hcall : ∀ (W : World) (args : Array Value), (callFunc G args).run Tryz.prog W = .ok (.enter G args) W)
    (hG : ∀ W, Below w.heap.size w W → Calls Tryz.prog G (#[.int .i64 (thrS m v)] ++ caps) W fun e w' => ∃ t, e = .returned (pV t) ∧ Keep F W w' ∧ R W t w') :
    Calls Tryz.prog 299 #[.int .i64 v, pV bt, pV bl] w fun e w' => ∃ t W, e = .returned (pV t) ∧ Below w.heap.size w W ∧ Keep F W w' ∧ R W t w' := by
  have HM := Lib.hid fun W => marked_any C a m (IntKind.u64.wrap v) W hm (u64_range v)
  have HG := Lib.hid hG
  have hl := hbl.lt
  have ht := hbt.lt
  have SK := Lib.hid (show ∀ V, Keep F w V → V.cell? ⟨bt, 0, none⟩ = some (cloV G caps) ∧ V.cell? ⟨bl, 0, none⟩ = some (cellsV C) ∧ V.cell? ⟨bl, 1, none⟩ = some (.int .i64 (a : Int)) ∧ V.cell? ⟨bl, 2, none⟩ = some (.int .i64 ((a : Int) + 1)) ∧ V.cell? ⟨bl, 3, none⟩ = some (nextV m) ∧ V.cell? ⟨bl, 4, none⟩ = some (.int .i64 (m.t : Int)) from fun V hk =>
    ⟨(hbt.keep hk ft).cell 0 _ rfl, (hbl.keep hk fl).cell 0 _ rfl, (hbl.keep hk fl).cell 1 _ rfl, (hbl.keep hk fl).cell 2 _ rfl, (hbl.keep hk fl).cell 3 _ rfl, (hbl.keep hk fl).cell 4 _ rfl⟩)
  have bd : Below w.heap.size w w.drew := ⟨rfl, rfl, rfl, Nat.le_refl _, fun _ _ => rfl⟩
  have kd : Keep F w w.drew := Keep.ofBelow bd
  clear hG hm hbt hbl hl ht ft fl
  go_enter Tryz.func299, Tryz.ntmps299
  go_upto_region 1 with fail
  go_region_held3 (fun V => V.cell? ⟨bt, 0, none⟩ = some (cloV G caps) ∧ V.cell? ⟨bl, 0, none⟩ = some (cellsV C) ∧ V.cell? ⟨bl, 1, none⟩ = some (.int .i64 (a : Int)) ∧ V.cell? ⟨bl, 2, none⟩ = some (.int .i64 ((a : Int) + 1)) ∧ V.cell? ⟨bl, 3, none⟩ = some (nextV m) ∧ V.cell? ⟨bl, 4, none⟩ = some (.int .i64 (m.t : Int))) (first | exact SK.out _ k3 | exact SK.out _ k2 | exact SK.out _ kd) (first
    | (go_at_call 164; refine (HM.out _).mono ?_; rintro e w2 ⟨rfl, hb2⟩; have b2 : Below w.heap.size w w2 := bd.trans hb2; have k2 : Keep F w w2 := Keep.ofBelow b2; have HG2 := Lib.hid (HG.out w2 b2); rw [show markedS m (IntKind.u64.wrap v) = thrS m v from rfl])
    | ((with_reducible refine HG2.out.mono ?_); rintro e w3 ⟨t, rfl, g3, hR⟩; have k3 : Keep F w w3 := k2.trans g3))
  go_wp2
  go_ret
  exact ⟨t, w2, rfl, b2, g3, hR⟩
/-- what read made: a load, and what follows, in their boxes -/
structure ReadAt (w0 w : World) (C a : Nat) (m : Mp) (Q : Nat → Prop) (i : Nat) (fv : Value) (t : Nat) (d r : Value) (f bt bl : Nat) : Prop where
  new : w0.heap.size ≤ t ∧ w0.heap.size ≤ f ∧ w0.heap.size ≤ bt ∧ w0.heap.size ≤ bl ∧ f ≠ t ∧ bt ≠ t ∧ bl ≠ t
  live : Live w t d (.pointer none) r
  op : ∃ b F caps, d = cloV 280 #[pV b] ∧ Q b ∧ b ≠ t ∧ Blk w b 52 #[cloV F caps] ∧ CloAt w C (fun b => Q b ∧ b ≠ t) (ldI i) F caps
  tree : TreeO w (fun b => Q b ∧ b ≠ t ∧ b ≠ bt ∧ b ≠ bl) r [f]
  box : Blk w f 157 #[cloV 299 #[pV bt, pV bl]]
  fn : Blk w bt 157 #[fv]
  line : Blk w bl 163 (lineCs C a m)
set_option maxHeartbeats 1000000 in
theorem read_raw (C a : Nat) (m : Mp) (i G : Nat) (caps : Array Value) (Q : Nat → Prop) (w : World) (hQ : ∀ k, w.heap.size ≤ k → Q k) :
    Calls Tryz.prog 289 #[lineV C a m, .int .i64 (i : Int), cloV G caps] w fun e w' => ∃ t d r f bt bl, e = .returned (pV t) ∧ ReadAt w w' C a m Q i (cloV G caps) t d r f bt bl ∧ Below w.heap.size w w' := by
  have hmf : ∀ (fn : Fn) (first cap : Array Value) (w : World), (Instr.makeFunc fn first cap).run Tryz.prog w = .ok (.func fn first cap) w := fun _ _ _ _ => rfl
  have HQ := Lib.hid hQ
  clear hQ
  go_enter Tryz.func289, Tryz.ntmps289
  go_upto_region 1 with fail
  generalize hW : ((w.alloc _).alloc _) = W
  have bW : Below w.heap.size w W := by rw [← hW]; go_grown
  have sW : W.heap.size = w.heap.size + 2 := by rw [← hW]; simp
  have q0 : Blk W w.heap.size 163 (lineCs C a m) := by rw [← hW]; exact (Blk.new w _ _).alloc _
  have q1 : Blk W (w.heap.size + 1) 157 #[cloV G caps] := by rw [← hW]; exact blk_two w _ _ _
  clear hW
  have c0 : W.cell? ⟨w.heap.size, 0, none⟩ = some (cellsV C) := q0.cell 0 _ rfl
  have HL := Lib.hid (tLoad_raw C (fun b => Q b ∧ b ≠ w.heap.size ∧ b ≠ w.heap.size + 1) (ldI i) W rfl (fun k hk => ⟨HQ.out k (by omega), by omega, by omega⟩))
  have HT := Lib.hid fun w2 (d : Value) t (hL : Live w2 t d (.pointer none) (.pointer none)) (hs : W.heap.size ≤ w2.heap.size) => then_raw t 299 #[pV (w.heap.size + 1), pV w.heap.size] d _ _ [] (fun b => Q b ∧ b ≠ w.heap.size + 1 ∧ b ≠ w.heap.size) w2 hL (.inl ⟨rfl, rfl⟩) (fun k hk => ⟨HQ.out k (by omega), by omega, by omega⟩)
  go_wp2_with (first
    | (go_at_call 242; refine HL.out.mono ?_; rintro e w2 ⟨t1, b, F, caps', rfl, h1, h2, h3, h4, h5, h6⟩; have HT2 := Lib.hid (HT.out w2 _ t1 ⟨h4, .inl ⟨_, _, rfl, rfl⟩⟩ h6.size))
    | (go_at_call 79; refine HT2.out.mono ?_; rintro e w3 ⟨t, f, j, rfl, g1, g2, g3, g4, g5, gft, g6⟩))
  go_ret
  have s2 := h6.size
  have k3 : Keep (fun _ => False) w2 w3 := Keep.ofBelow g6
  have hl3 := h3.lt
  have c5 : CloAt w3 C (fun b => Q b ∧ b ≠ t) (ldI i) F caps' := h5.keep k3 (fun _ _ h => h) (fun b hb h => ⟨h.1, by omega⟩)
  exact ⟨t, _, j, f, w.heap.size + 1, w.heap.size, rfl, ⟨⟨by omega, by omega, by omega, by omega, gft, by omega, by omega⟩, g4, ⟨b, F, caps', rfl, HQ.out b (by omega), by omega, h3.below g6 h3.lt, c5⟩, g5.mono (fun b _ h => ⟨h.1.1, h.2, h.1.2.1, h.1.2.2⟩), g3, (q1.below h6 q1.lt).below g6 (by have := q1.lt; omega), (q0.below h6 q0.lt).below g6 (by have := q0.lt; omega)⟩, bW.trans ((h6.trans (g6.mono s2)).mono bW.size)⟩
theorem read_any (C P a : Nat) (m : Mp) (i : Nat) (fv : Value) (κ : Int → Tre Itm) (Q : Nat → Prop) (w : World) (hm : m.ok) (hF : FnT C P m w Q fv κ) (hQ : ∀ k, w.heap.size ≤ k → Q k) :
    Calls Tryz.prog 289 #[lineV C a m, .int .i64 (i : Int), fv] w fun e w' => ∃ t, e = .returned (pV t) ∧ MadeQ (cellOps C P) w Q (readT m i κ) t w' := by
  obtain ⟨G, caps, rfl, hcall, hG⟩ := id hF
  refine (read_raw C a m i G caps Q w hQ).mono ?_
  rintro e w' ⟨t, d, r, f, bt, bl, rfl, hR, hb⟩
  refine ⟨t, rfl, hR.new.1, ?_, hb⟩
  obtain ⟨b, F, caps', hd, o1, o2, o3, o4⟩ := hR.op
  obtain ⟨n1, n2, n3, n4, n5, n6, n7⟩ := hR.new
  refine .inr ⟨ldI i, _, t, d, _, r, [f], rfl, rfl, hR.live, hR.tree.mono (fun b _ h => ⟨h.1, h.2.1⟩), .inl ⟨b, F, caps', hd, rfl, ⟨o1, o2⟩, o3, o4⟩, fun v => ?_⟩
  refine ⟨fun v => κ (thrS m v), fun v => κ (thrS m v), ?_, by rw [bindT_ret], fun u => rfl⟩
  have hF2 := hF.later (w1 := w') (Q1 := fun b => Q b ∧ b ≠ t) (Keep.ofBelow hb) (fun b hb2 h => ⟨h, by omega⟩)
  obtain ⟨G', caps2, e, _, hG2⟩ := hF2
  obtain ⟨rfl, rfl⟩ : G' = G ∧ caps2 = caps := by
    injection e with e1 e2 e3
    injection e1 with e1
    exact ⟨e1.symm, e3.symm⟩
  refine contT_of (cellOps C P) w' _ f 299 _ _ ⟨hQ f n2, n5⟩ hR.box call_read1 fun v w1 hw => ?_
  have nt : ¬ ¬ (Q bt ∧ bt ≠ t) := fun h => h ⟨hQ bt n3, n6⟩
  have nl : ¬ ¬ (Q bl ∧ bl ≠ t) := fun h => h ⟨hQ bl n4, n7⟩
  refine (read1_any C a m v bt bl G' caps2 w1 (fun _ => False) (fun W t2 w2 => Below w1.heap.size w1 W ∧ MadeQ (cellOps C P) W (fun b => ((Q b ∧ b ≠ t) ∧ b < w'.heap.size) ∨ W.heap.size ≤ b) (κ (thrS m v)) t2 w2) hm (hR.fn.keep hw nt) (hR.line.keep hw nl) (fun h => h) (fun h => h) hcall fun W hW => ?_).mono ?_
  · refine (hG2 W (thrS m v) (hw.step (Q' := fun _ => False) (Keep.ofBelow hW) (fun _ _ h => h.elim)) (thrS_range m v).1 (thrS_range m v).2).mono ?_
    rintro e w2 ⟨t2, rfl, hM⟩
    exact ⟨t2, rfl, Keep.ofBelow hM.2.2, hW, hM⟩
  · rintro e w2 ⟨t2, W, rfl, hW, _, _, hM⟩
    have hs := hW.size
    have hqq : ∀ b, ((Q b ∧ b ≠ t) ∧ b < w'.heap.size) ∨ W.heap.size ≤ b → ((Q b ∧ b ≠ t) ∧ b < w'.heap.size) ∨ w1.heap.size ≤ b := fun b h => h.imp id (fun h => by omega)
    refine ⟨some ⟨t2, 0, none⟩, rfl, hW.trans (hM.2.2.mono hs), (hM.mono fun b _ h => hqq b h).task, fun j e => ?_⟩
    injection e with e
    injection e with e
    have := hM.1
    exact .inr (by omega)
theorem call_end1 : ∀ (W : World) (args : Array Value), (callFunc 290 args).run Tryz.prog W = .ok (.enter 290 args) W := by
  intro W args
  go_simp
theorem call_end11 : ∀ (W : World) (args : Array Value), (callFunc 291 args).run Tryz.prog W = .ok (.enter 291 args) W := by
  intro W args
  go_simp
theorem readyQ (C P : Nat) (Q : Nat → Prop) (v : Int) (w : World) : Calls Tryz.prog 88 #[.int .i64 v] w fun e w' => ∃ t, e = .returned (pV t) ∧ MadeQ (cellOps C P) w Q (retT v) t w' := by
  refine (tready_any C P Q v w).mono ?_
  rintro e w' ⟨t, rfl, h⟩
  exact ⟨t, rfl, h.madeQ⟩
theorem storeQ (C P : Nat) (Q : Nat → Prop) (i : Nat) (v : Int) (w : World) (hQ : ∀ k, w.heap.size ≤ k → Q k) : Calls Tryz.prog 198 #[cellsV C, .int .i64 (i : Int), .int .u64 v] w fun e w' => ∃ t, e = .returned (pV t) ∧ MadeQ (cellOps C P) w Q (stT i v) t w' := by
  refine (tStore_any C P Q (stI i v) w rfl hQ).mono ?_
  rintro e w' ⟨t, rfl, h⟩
  exact ⟨t, rfl, h.madeQ⟩
def endK2 (f : Int) (l : Int) : Tre Itm := if l = -1 then retT f else retT l
def endK (m : Mp) (a : Nat) (f : Int) : Tre Itm := if f = -1 then retT (-1) else readT m (a + 1) (endK2 f)
def endT (m : Mp) (a : Nat) : Tre Itm := readT m a (endK m a)
theorem end11_any (C P : Nat) (Q : Nat → Prop) (f l : Int) (bf : Nat) (w : World) (hf : Blk w bf 3 #[.int .i64 f]) :
    Calls Tryz.prog 291 #[.int .i64 l, pV bf] w fun e w' => ∃ t, e = .returned (pV t) ∧ MadeQ (cellOps C P) w Q (endK2 f l) t w' := by
  have c0 : w.cell? ⟨bf, 0, none⟩ = some (.int .i64 f) := hf.cell 0 _ rfl
  clear hf
  by_cases h : l = -1
  · subst h
    go_enter Tryz.func291, Tryz.ntmps291
    go_wp2_with (go_at_call 88; refine (readyQ C P Q f _).mono ?_; rintro e w2 ⟨t, rfl, h1⟩)
    go_ret
    exact ⟨t, rfl, by rw [endK2, if_pos rfl]; exact h1⟩
  · go_enter Tryz.func291, Tryz.ntmps291
    go_wp2_with (go_at_call 88; refine (readyQ C P Q l _).mono ?_; rintro e w2 ⟨t, rfl, h1⟩)
    go_ret
    exact ⟨t, rfl, by rw [endK2, if_neg h]; exact h1⟩
theorem end1_any (C P a : Nat) (m : Mp) (Q : Nat → Prop) (f : Int) (bl : Nat) (w : World) (hm : m.ok) (hl : Blk w bl 163 (lineCs C a m)) (hQ : ∀ k, w.heap.size ≤ k → Q k) :
    Calls Tryz.prog 290 #[.int .i64 f, pV bl] w fun e w' => ∃ t, e = .returned (pV t) ∧ MadeQ (cellOps C P) w Q (endK m a f) t w' := by
  have hmf : ∀ (fn : Fn) (first cap : Array Value) (w : World), (Instr.makeFunc fn first cap).run Tryz.prog w = .ok (.func fn first cap) w := fun _ _ _ _ => rfl
  have HQ := Lib.hid hQ
  have HM := Lib.hid hm
  clear hQ hm
  go_enter Tryz.func290, Tryz.ntmps290
  go_upto_region 1 with fail
  generalize hW : (w.alloc _) = W
  have bW : Below w.heap.size w W := by rw [← hW]; go_grown
  have sW : W.heap.size = w.heap.size + 1 := by rw [← hW]; simp
  have q0 : Blk W w.heap.size 3 #[.int .i64 f] := by rw [← hW]; exact Blk.new w _ _
  have hlW := hl.below bW hl.lt
  clear hW hl
  have c0 : W.cell? ⟨w.heap.size, 0, none⟩ = some (.int .i64 f) := q0.cell 0 _ rfl
  have d0 : W.cell? ⟨bl, 0, none⟩ = some (cellsV C) := hlW.cell 0 _ rfl
  have d1 : W.cell? ⟨bl, 1, none⟩ = some (.int .i64 (a : Int)) := hlW.cell 1 _ rfl
  have d2 : W.cell? ⟨bl, 2, none⟩ = some (.int .i64 ((a : Int) + 1)) := hlW.cell 2 _ rfl
  have d3 : W.cell? ⟨bl, 3, none⟩ = some (nextV m) := hlW.cell 3 _ rfl
  have d4 : W.cell? ⟨bl, 4, none⟩ = some (.int .i64 (m.t : Int)) := hlW.cell 4 _ rfl
  by_cases h : f = -1
  · subst h
    go_wp2_with (go_at_call 88; refine (readyQ C P Q (-1) _).mono ?_; rintro e w2 ⟨t, rfl, h1⟩)
    go_ret
    exact ⟨t, rfl, by rw [endK, if_pos rfl]; exact h1.of bW⟩
  · have HR := Lib.hid (read_any C P a m (a + 1) (cloV 291 #[pV w.heap.size]) (endK2 f) Q W HM.out ⟨_, _, rfl, call_end11, fun V u hV h1 h2 => end11_any C P _ f u w.heap.size V (q0.keep hV (fun h => h (HQ.out _ (Nat.le_refl _))))⟩ (fun k hk => HQ.out k (by omega)))
    rw [show (((a + 1 : Nat) : Int)) = (a : Int) + 1 by omega] at HR
    go_wp2_with (go_at_call 289; refine HR.out.mono ?_; rintro e w2 ⟨t, rfl, h1⟩)
    go_ret
    exact ⟨t, rfl, by rw [endK, if_neg h]; exact h1.of bW⟩
theorem end_any (C P a : Nat) (m : Mp) (Q : Nat → Prop) (w : World) (hm : m.ok) (hQ : ∀ k, w.heap.size ≤ k → Q k) :
    Calls Tryz.prog 263 #[lineV C a m] w fun e w' => ∃ t, e = .returned (pV t) ∧ MadeQ (cellOps C P) w Q (endT m a) t w' := by
  have hmf : ∀ (fn : Fn) (first cap : Array Value) (w : World), (Instr.makeFunc fn first cap).run Tryz.prog w = .ok (.func fn first cap) w := fun _ _ _ _ => rfl
  have HQ := Lib.hid hQ
  have HM := Lib.hid hm
  clear hQ hm
  go_enter Tryz.func263, Tryz.ntmps263
  go_upto_region 1 with fail
  generalize hW : (w.alloc _) = W
  have bW : Below w.heap.size w W := by rw [← hW]; go_grown
  have sW : W.heap.size = w.heap.size + 1 := by rw [← hW]; simp
  have hlW : Blk W w.heap.size 163 (lineCs C a m) := by rw [← hW]; exact Blk.new w _ _
  clear hW
  have d0 : W.cell? ⟨w.heap.size, 0, none⟩ = some (cellsV C) := hlW.cell 0 _ rfl
  have d1 : W.cell? ⟨w.heap.size, 1, none⟩ = some (.int .i64 (a : Int)) := hlW.cell 1 _ rfl
  have d2 : W.cell? ⟨w.heap.size, 2, none⟩ = some (.int .i64 ((a : Int) + 1)) := hlW.cell 2 _ rfl
  have d3 : W.cell? ⟨w.heap.size, 3, none⟩ = some (nextV m) := hlW.cell 3 _ rfl
  have d4 : W.cell? ⟨w.heap.size, 4, none⟩ = some (.int .i64 (m.t : Int)) := hlW.cell 4 _ rfl
  have HR := Lib.hid (read_any C P a m a (cloV 290 #[pV w.heap.size]) (endK m a) Q W HM.out ⟨_, _, rfl, call_end1, fun V u hV h1 h2 => end1_any C P a m _ u w.heap.size V HM.out (hlW.keep hV (fun h => h (HQ.out _ (Nat.le_refl _)))) (fun k hk => .inr hk)⟩ (fun k hk => HQ.out k (by omega)))
  go_wp2_with (go_at_call 289; refine HR.out.mono ?_; rintro e w2 ⟨t, rfl, h1⟩)
  go_ret
  exact ⟨t, rfl, h1.of bW⟩
end Go.Proofs.YtmknnjjmmfbppaaGreat
/- Package queue: unlink, pop. -/
namespace Go.Proofs.YtmknnjjmmfbppaaGreat
open Go.ChangeShapes Go.WideShapes Go.ChangeAt Go.RowKit
set_option linter.unusedVariables false
set_option maxRecDepth 100000
set_option linter.unusedSimpArgs false
theorem lineE_of {V : World} {C a : Nat} {m : Mp} {bl : Nat} (h : Blk V bl 163 (lineCs C a m)) : (V.cell? ⟨bl, 0, none⟩ = some (cellsV C) ∧ V.cell? ⟨bl, 1, none⟩ = some (.int .i64 (a : Int)) ∧ V.cell? ⟨bl, 2, none⟩ = some (.int .i64 ((a : Int) + 1)) ∧ V.cell? ⟨bl, 3, none⟩ = some (nextV m) ∧ V.cell? ⟨bl, 4, none⟩ = some (.int .i64 (m.t : Int))) := ⟨h.cell 0 _ rfl, h.cell 1 _ rfl, h.cell 2 _ rfl, h.cell 3 _ rfl, h.cell 4 _ rfl⟩
theorem bdrewE (w : World) : Below w.heap.size w w.drew := ⟨rfl, rfl, rfl, Nat.le_refl _, fun _ _ => rfl⟩
def unlK (m : Mp) (a : Nat) (p t u : Int) : Tre Itm := seqT [stT (behN m a p) (u + 1), if u = -1 then stT (a + 1) (p + 1) else stT (nxN m t) 0]
def unlinkT (m : Mp) (a : Nat) (p t : Int) : Tre Itm := readT m (nxN m t) (unlK m a p t)
set_option maxHeartbeats 2000000 in
theorem unlink1_any (C P a : Nat) (m : Mp) (Q : Nat → Prop) (p t u : Int) (bl bp bt : Nat) (w : World) (hm : m.ok) (hp : -1 ≤ p ∧ p < m.t) (ht : 0 ≤ t ∧ t < m.t) (hu : -1 ≤ u ∧ u < m.t) (hl : Blk w bl 163 (lineCs C a m)) (hbp : Blk w bp 3 #[.int .i64 p]) (hbt : Blk w bt 3 #[.int .i64 t]) (hQ : ∀ k, w.heap.size ≤ k → Q k) :
    Calls Tryz.prog 300 #[.int .i64 u, pV bl, pV bp, pV bt] w fun e w' => ∃ t', e = .returned (pV t') ∧ MadeQ (cellOps C P) w Q (unlK m a p t u) t' w' := by
  have HB := Lib.hid fun W => behind_any C a m p W hm hp
  have HM := Lib.hid fun W => mark_any u W (by have := hm.t; omega)
  have HMp := Lib.hid fun W => mark_any p W (by have := hm.t; omega)
  have HMn := Lib.hid fun W => mark_any (-1) W (by omega)
  have HX := Lib.hid fun V => next_any m t V hm ht
  have HS := Lib.hid fun W (h : w.heap.size ≤ W.heap.size) => storeQ C P Q (behN m a p) (u + 1) W (fun k hk => hQ k (by omega))
  have HSl := Lib.hid fun W (h : w.heap.size ≤ W.heap.size) => storeQ C P Q (a + 1) (p + 1) W (fun k hk => hQ k (by omega))
  rw [show (((a + 1 : Nat) : Int)) = (a : Int) + 1 by omega] at HSl
  have HSn := Lib.hid fun W (h : w.heap.size ≤ W.heap.size) => storeQ C P Q (nxN m t) (-1 + 1) W (fun k hk => hQ k (by omega))
  have HQ := Lib.hid hQ
  have SK := Lib.hid (show ∀ V, Below w.heap.size w V → (V.cell? ⟨bl, 0, none⟩ = some (cellsV C) ∧ V.cell? ⟨bl, 1, none⟩ = some (.int .i64 (a : Int)) ∧ V.cell? ⟨bl, 2, none⟩ = some (.int .i64 ((a : Int) + 1)) ∧ V.cell? ⟨bl, 3, none⟩ = some (nextV m) ∧ V.cell? ⟨bl, 4, none⟩ = some (.int .i64 (m.t : Int))) ∧ V.cell? ⟨bp, 0, none⟩ = some (.int .i64 p) ∧ V.cell? ⟨bt, 0, none⟩ = some (.int .i64 t) from fun V hk => ⟨lineE_of (hl.below hk hl.lt), (hbp.below hk hbp.lt).cell 0 _ rfl, (hbt.below hk hbt.lt).cell 0 _ rfl⟩)
  have HSQ := Lib.hid fun V t1 t2 T2 (hV : Below w.heap.size w V) h1 h2 q1 q2 => seqT_two (cellOps C P) Q (stT (behN m a p) (u + 1)) T2 t1 t2 V h1 h2 q1 q2 (fun k hk => HQ.out k (by have := hV.size; omega))
  have bd := bdrewE w
  clear hm hp ht hu hl hbp hbt hQ
  go_enter Tryz.func300, Tryz.ntmps300
  go_upto_region 1 with fail
  go_region_held3 (fun V => (V.cell? ⟨bl, 0, none⟩ = some (cellsV C) ∧ V.cell? ⟨bl, 1, none⟩ = some (.int .i64 (a : Int)) ∧ V.cell? ⟨bl, 2, none⟩ = some (.int .i64 ((a : Int) + 1)) ∧ V.cell? ⟨bl, 3, none⟩ = some (nextV m) ∧ V.cell? ⟨bl, 4, none⟩ = some (.int .i64 (m.t : Int))) ∧ V.cell? ⟨bp, 0, none⟩ = some (.int .i64 p) ∧ V.cell? ⟨bt, 0, none⟩ = some (.int .i64 t)) (first | exact SK.out _ b3 | exact SK.out _ b2 | exact SK.out _ bd) (first
    | (go_at_call 265; refine (HB.out _).mono ?_; rintro e w2 ⟨rfl, hb2⟩; have b2 : Below w.heap.size w w2 := bd.trans hb2; have HS2 := Lib.hid (HS.out w2 b2.size))
    | (go_at_call 262; (with_reducible refine (HM.out _).mono ?_); rintro e w2b ⟨rfl, rfl⟩)
    | (go_at_call 198; refine HS2.out.mono ?_; rintro e w3 ⟨t1, rfl, hM⟩; have b3 : Below w.heap.size w w3 := b2.trans (hM.2.2.mono b2.size)))
  clear HS HS2 HB
  have bd3 := bdrewE w3
  have s3 := b3.size
  by_cases hu : u = -1
  · subst hu
    have SK3 := Lib.hid fun V (hV : Below w3.heap.size w3 V) => SK.out V (b3.trans (hV.mono s3))
    clear SK
    go_upto_region 3 with fail
    go_region_held3 (fun V => (V.cell? ⟨bl, 0, none⟩ = some (cellsV C) ∧ V.cell? ⟨bl, 1, none⟩ = some (.int .i64 (a : Int)) ∧ V.cell? ⟨bl, 2, none⟩ = some (.int .i64 ((a : Int) + 1)) ∧ V.cell? ⟨bl, 3, none⟩ = some (nextV m) ∧ V.cell? ⟨bl, 4, none⟩ = some (.int .i64 (m.t : Int))) ∧ V.cell? ⟨bp, 0, none⟩ = some (.int .i64 p) ∧ V.cell? ⟨bt, 0, none⟩ = some (.int .i64 t)) (first | exact SK3.out _ b7 | exact SK3.out _ bA | exact SK3.out _ b5 | exact SK3.out _ bd3) (first
      | (go_at_call 262; (with_reducible refine (HMp.out _).mono ?_); rintro e w4 ⟨rfl, rfl⟩; have HSl2 := Lib.hid (HSl.out w3.drew s3))
      | (go_at_call 198; refine HSl2.out.mono ?_; rintro e w5 ⟨t2, rfl, hM2⟩; have b5 : Below w3.heap.size w3 w5 := bd3.trans hM2.2.2; have HSQ2 := Lib.hid (HSQ.out w5 t1 t2 _ (b3.trans (b5.mono s3)) (hM.task.at b5) hM2.task (HQ.out _ (by have := b2.size; have := hM.1; omega)) (HQ.out _ (by have := b3.size; have h := hM2.1; have : w3.heap.size ≤ t2 := h; omega))); have bA : Below w3.heap.size w3 (w5.alloc (.cells #[pV t1, pV t2] 69)) := b5.trans (((Below.refl _ w5).alloc (Nat.le_refl _) _).mono b5.size))
      | (go_at_call 138; refine HSQ2.out.mono ?_; rintro e w7 ⟨t3, rfl, hM3⟩; have b7 : Below w3.heap.size w3 w7 := b5.trans (hM3.2.2.mono b5.size)))
    all_goals go_wp2
    all_goals go_ret
    all_goals refine ⟨t3, rfl, ?_⟩
    all_goals unfold unlK
    all_goals rw [if_pos rfl]
    all_goals exact hM3.of (b3.trans (b5.mono s3))
  · have SK3 := Lib.hid fun V (hV : Below w3.heap.size w3 V) => SK.out V (b3.trans (hV.mono s3))
    clear SK
    go_upto_region 4 with fail
    go_region_held3 (fun V => (V.cell? ⟨bl, 0, none⟩ = some (cellsV C) ∧ V.cell? ⟨bl, 1, none⟩ = some (.int .i64 (a : Int)) ∧ V.cell? ⟨bl, 2, none⟩ = some (.int .i64 ((a : Int) + 1)) ∧ V.cell? ⟨bl, 3, none⟩ = some (nextV m) ∧ V.cell? ⟨bl, 4, none⟩ = some (.int .i64 (m.t : Int))) ∧ V.cell? ⟨bp, 0, none⟩ = some (.int .i64 p) ∧ V.cell? ⟨bt, 0, none⟩ = some (.int .i64 t)) (first | exact SK3.out _ b7 | exact SK3.out _ bA | exact SK3.out _ b5 | exact SK3.out _ b4 | exact SK3.out _ bd3) (first
      | (go_at_call 162; refine (HX.out _).mono ?_; rintro e w4 ⟨rfl, hb4⟩; have b4 : Below w3.heap.size w3 w4 := bd3.trans hb4; have HSn2 := Lib.hid (HSn.out w4 (Nat.le_trans s3 b4.size)))
      | (go_at_call 262; (with_reducible refine (HMn.out _).mono ?_); rintro e w4b ⟨rfl, rfl⟩)
      | (go_at_call 198; refine HSn2.out.mono ?_; rintro e w5 ⟨t2, rfl, hM2⟩; have b5 : Below w3.heap.size w3 w5 := b4.trans (hM2.2.2.mono b4.size); have HSQ2 := Lib.hid (HSQ.out w5 t1 t2 _ (b3.trans (b5.mono s3)) (hM.task.at b5) hM2.task (HQ.out _ (by have := b2.size; have := hM.1; omega)) (HQ.out _ (by have := b4.size; have h := hM2.1; omega))); have bA : Below w3.heap.size w3 (w5.alloc (.cells #[pV t1, pV t2] 69)) := b5.trans (((Below.refl _ w5).alloc (Nat.le_refl _) _).mono b5.size))
      | (go_at_call 138; refine HSQ2.out.mono ?_; rintro e w7 ⟨t3, rfl, hM3⟩; have b7 : Below w3.heap.size w3 w7 := b5.trans (hM3.2.2.mono b5.size)))
    all_goals go_wp2
    all_goals go_ret
    all_goals refine ⟨t3, rfl, ?_⟩
    all_goals unfold unlK
    all_goals rw [if_neg hu]
    all_goals exact hM3.of (b3.trans (b5.mono s3))
theorem call_unlink1 : ∀ (W : World) (args : Array Value), (callFunc 300 args).run Tryz.prog W = .ok (.enter 300 args) W := by
  intro W args
  go_simp
theorem blk_three (w : World) (o1 o2 : Obj) (t : TypeId) (cs : Array Value) : Blk (((w.alloc o1).alloc o2).alloc (.cells cs t)) (w.heap.size + 2) t cs := by
  have h := Blk.new ((w.alloc o1).alloc o2) t cs
  simp only [World.size_alloc] at h
  exact h
set_option maxHeartbeats 2000000 in
theorem unlink_any (C P a : Nat) (m : Mp) (Q : Nat → Prop) (p t : Int) (w : World) (hm : m.ok) (hp : -1 ≤ p ∧ p < m.t) (ht : 0 ≤ t ∧ t < m.t) (hQ : ∀ k, w.heap.size ≤ k → Q k) :
    Calls Tryz.prog 294 #[lineV C a m, .int .i64 p, .int .i64 t] w fun e w' => ∃ t', e = .returned (pV t') ∧ MadeQ (cellOps C P) w Q (unlinkT m a p t) t' w' := by
  have hmf : ∀ (fn : Fn) (first cap : Array Value) (w : World), (Instr.makeFunc fn first cap).run Tryz.prog w = .ok (.func fn first cap) w := fun _ _ _ _ => rfl
  have HQ := Lib.hid hQ
  have HM := Lib.hid hm
  have Ht := Lib.hid ht
  have Hp := Lib.hid hp
  clear hQ hm ht hp
  go_enter Tryz.func294, Tryz.ntmps294
  go_upto_region 1 with fail
  generalize hW : (((w.alloc _).alloc _).alloc _) = W
  have bW : Below w.heap.size w W := by rw [← hW]; go_grown
  have sW : W.heap.size = w.heap.size + 3 := by rw [← hW]; simp
  have q0 : Blk W w.heap.size 163 (lineCs C a m) := by rw [← hW]; exact ((Blk.new w _ _).alloc _).alloc _
  have q1 : Blk W (w.heap.size + 1) 3 #[.int .i64 p] := by rw [← hW]; exact (blk_two w _ _ _).alloc _
  have q2 : Blk W (w.heap.size + 2) 3 #[.int .i64 t] := by rw [← hW]; exact blk_three w _ _ _ _
  clear hW
  have HX := Lib.hid fun V => next_any m t V HM.out Ht.out
  have HF : Hid (FnT C P m W Q (cloV 300 #[pV w.heap.size, pV (w.heap.size + 1), pV (w.heap.size + 2)]) (unlK m a p t)) := Lib.hid ⟨_, _, rfl, call_unlink1, fun V u hV h1 h2 => unlink1_any C P a m _ p t u _ _ _ V HM.out Hp.out Ht.out ⟨h1, h2⟩ (q0.keep hV (fun h => h (HQ.out _ (by omega)))) (q1.keep hV (fun h => h (HQ.out _ (by omega)))) (q2.keep hV (fun h => h (HQ.out _ (by omega)))) (fun k hk => .inr hk)⟩
  have HR := Lib.hid fun V (hV : Below W.heap.size W V) => read_any C P a m (nxN m t) _ (unlK m a p t) Q V HM.out (HF.out.later (Keep.ofBelow hV) (fun _ _ h => h)) (fun k hk => HQ.out k (by have := hV.size; omega))
  have SK := Lib.hid (show ∀ V, Below W.heap.size W V → (V.cell? ⟨w.heap.size, 0, none⟩ = some (cellsV C) ∧ V.cell? ⟨w.heap.size, 1, none⟩ = some (.int .i64 (a : Int)) ∧ V.cell? ⟨w.heap.size, 2, none⟩ = some (.int .i64 ((a : Int) + 1)) ∧ V.cell? ⟨w.heap.size, 3, none⟩ = some (nextV m) ∧ V.cell? ⟨w.heap.size, 4, none⟩ = some (.int .i64 (m.t : Int))) ∧ V.cell? ⟨w.heap.size + 2, 0, none⟩ = some (.int .i64 t) from fun V hk => ⟨lineE_of (q0.below hk q0.lt), (q2.below hk q2.lt).cell 0 _ rfl⟩)
  have bd := bdrewE W
  go_region_held3 (fun V => (V.cell? ⟨w.heap.size, 0, none⟩ = some (cellsV C) ∧ V.cell? ⟨w.heap.size, 1, none⟩ = some (.int .i64 (a : Int)) ∧ V.cell? ⟨w.heap.size, 2, none⟩ = some (.int .i64 ((a : Int) + 1)) ∧ V.cell? ⟨w.heap.size, 3, none⟩ = some (nextV m) ∧ V.cell? ⟨w.heap.size, 4, none⟩ = some (.int .i64 (m.t : Int))) ∧ V.cell? ⟨w.heap.size + 2, 0, none⟩ = some (.int .i64 t)) (first | exact SK.out _ b3 | exact SK.out _ b2 | exact SK.out _ bd) (first
    | (go_at_call 162; refine (HX.out _).mono ?_; rintro e w2 ⟨rfl, hb2⟩; have b2 : Below W.heap.size W w2 := bd.trans hb2; have HR2 := Lib.hid (HR.out w2 b2))
    | (go_at_call 289; refine HR2.out.mono ?_; rintro e w3 ⟨t', rfl, hM⟩; have b3 : Below W.heap.size W w3 := b2.trans (hM.2.2.mono b2.size)))
  all_goals go_wp2
  all_goals go_ret
  all_goals exact ⟨t', rfl, hM.of (bW.trans (b2.mono bW.size))⟩
def popK (m : Mp) (a : Nat) (t : Int) : Tre Itm := if t = -1 then retT (-1) else seqT [unlinkT m a (-1) t, retT t]
def popT (m : Mp) (a : Nat) : Tre Itm := readT m a (popK m a)
theorem call_pop1 : ∀ (W : World) (args : Array Value), (callFunc 297 args).run Tryz.prog W = .ok (.enter 297 args) W := by
  intro W args
  go_simp
theorem pop1_any (C P a : Nat) (m : Mp) (Q : Nat → Prop) (t : Int) (bl : Nat) (w : World) (hm : m.ok) (ht : -1 ≤ t ∧ t < m.t) (hl : Blk w bl 163 (lineCs C a m)) (hQ : ∀ k, w.heap.size ≤ k → Q k) :
    Calls Tryz.prog 297 #[.int .i64 t, pV bl] w fun e w' => ∃ t', e = .returned (pV t') ∧ MadeQ (cellOps C P) w Q (popK m a t) t' w' := by
  have d0 : w.cell? ⟨bl, 0, none⟩ = some (cellsV C) := hl.cell 0 _ rfl
  have d1 : w.cell? ⟨bl, 1, none⟩ = some (.int .i64 (a : Int)) := hl.cell 1 _ rfl
  have d2 : w.cell? ⟨bl, 2, none⟩ = some (.int .i64 ((a : Int) + 1)) := hl.cell 2 _ rfl
  have d3 : w.cell? ⟨bl, 3, none⟩ = some (nextV m) := hl.cell 3 _ rfl
  have d4 : w.cell? ⟨bl, 4, none⟩ = some (.int .i64 (m.t : Int)) := hl.cell 4 _ rfl
  clear hl
  by_cases h : t = -1
  · subst h
    clear hm ht
    go_enter Tryz.func297, Tryz.ntmps297
    go_wp2_with (go_at_call 88; refine (readyQ C P Q (-1) _).mono ?_; rintro e w2 ⟨t', rfl, h1⟩)
    go_ret
    exact ⟨t', rfl, by rw [popK, if_pos rfl]; exact h1⟩
  · have HU := Lib.hid (unlink_any C P a m Q (-1) t w hm ⟨by omega, by have := hm.t; omega⟩ ⟨by omega, ht.2⟩ hQ)
    have HR := Lib.hid fun W => readyQ C P Q t W
    have HQ := Lib.hid hQ
    have HSQ := Lib.hid fun V t1 t2 (hV : Below w.heap.size w V) h1 h2 q1 q2 => seqT_two (cellOps C P) Q (unlinkT m a (-1) t) (retT t) t1 t2 V h1 h2 q1 q2 (fun k hk => HQ.out k (by have := hV.size; omega))
    clear hm ht hQ
    go_enter Tryz.func297, Tryz.ntmps297
    go_wp2_with (first
      | (go_at_call 294; refine HU.out.mono ?_; rintro e w2 ⟨t1, rfl, hM1⟩; have HR2 := Lib.hid (HR.out w2))
      | (go_at_call 88; refine HR2.out.mono ?_; rintro e w3 ⟨t2, rfl, hM2⟩; have b3 : Below w.heap.size w w3 := hM1.2.2.trans (hM2.2.2.mono hM1.2.2.size); have HSQ2 := Lib.hid (HSQ.out w3 t1 t2 b3 (hM1.task.at hM2.2.2) hM2.task (HQ.out _ hM1.1) (HQ.out _ (Nat.le_trans hM1.2.2.size hM2.1))))
      | (go_at_call 138; refine HSQ2.out.mono ?_; rintro e w5 ⟨t3, rfl, hM3⟩))
    go_ret
    exact ⟨t3, rfl, by rw [popK, if_neg h]; exact hM3.of b3⟩
theorem lpop_any (C P a : Nat) (m : Mp) (Q : Nat → Prop) (w : World) (hm : m.ok) (hQ : ∀ k, w.heap.size ≤ k → Q k) :
    Calls Tryz.prog 285 #[lineV C a m] w fun e w' => ∃ t, e = .returned (pV t) ∧ MadeQ (cellOps C P) w Q (popT m a) t w' := by
  have hmf : ∀ (fn : Fn) (first cap : Array Value) (w : World), (Instr.makeFunc fn first cap).run Tryz.prog w = .ok (.func fn first cap) w := fun _ _ _ _ => rfl
  have HQ := Lib.hid hQ
  have HM := Lib.hid hm
  clear hQ hm
  go_enter Tryz.func285, Tryz.ntmps285
  go_upto_region 1 with fail
  generalize hW : (w.alloc _) = W
  have bW : Below w.heap.size w W := by rw [← hW]; go_grown
  have sW : W.heap.size = w.heap.size + 1 := by rw [← hW]; simp
  have hlW : Blk W w.heap.size 163 (lineCs C a m) := by rw [← hW]; exact Blk.new w _ _
  clear hW
  have d0 : W.cell? ⟨w.heap.size, 0, none⟩ = some (cellsV C) := hlW.cell 0 _ rfl
  have d1 : W.cell? ⟨w.heap.size, 1, none⟩ = some (.int .i64 (a : Int)) := hlW.cell 1 _ rfl
  have d2 : W.cell? ⟨w.heap.size, 2, none⟩ = some (.int .i64 ((a : Int) + 1)) := hlW.cell 2 _ rfl
  have d3 : W.cell? ⟨w.heap.size, 3, none⟩ = some (nextV m) := hlW.cell 3 _ rfl
  have d4 : W.cell? ⟨w.heap.size, 4, none⟩ = some (.int .i64 (m.t : Int)) := hlW.cell 4 _ rfl
  have HR := Lib.hid (read_any C P a m a (cloV 297 #[pV w.heap.size]) (popK m a) Q W HM.out ⟨_, _, rfl, call_pop1, fun V u hV h1 h2 => pop1_any C P a m _ u w.heap.size V HM.out ⟨h1, h2⟩ (hlW.keep hV (fun h => h (HQ.out _ (Nat.le_refl _)))) (fun k hk => .inr hk)⟩ (fun k hk => HQ.out k (by omega)))
  go_wp2_with (go_at_call 289; refine HR.out.mono ?_; rintro e w2 ⟨t, rfl, h1⟩)
  go_ret
  exact ⟨t, rfl, h1.of bW⟩
end Go.Proofs.YtmknnjjmmfbppaaGreat
