/- A ground, as memory that all share; tasks over it, their steps. -/
import Derived.Test.YtldofbkjjmnooaaGreatMgGSlI
import Derived.Test.YtldofbkjjmnooaaGreatMgGSlJ
import Derived.Test.YtldofbkjjmnooaaGreatMgGSlH
import Derived.Test.YtldofbkjjmnooaaGreatMgGSlF
namespace Go.Proofs.YtldofbkjjmnooaaGreat
open Go.ChangeShapes Go.WideShapes Go.ChangeAt Go.RowKit
set_option linter.unusedVariables false
set_option maxRecDepth 100000
set_option linter.unusedSimpArgs false
/-- cells, how many operations there were, permits, the log -/
structure GS where
  mm : List Int
  k : Int
  l : List Bool
  E : List Ev
def grH (g : GrP) (m : Mp) : Shr GS Ev where
  at' w B s := ∃ vo, GrAt w g m s.mm s.k s.l vo s.E ∧ ∀ b, B b ↔ grB g vo b
  keep := by
    rintro w w1 B F s ⟨vo, h, e⟩ hk hd
    exact ⟨vo, h.keep hk (fun b hb => hd b ((e b).2 hb)), e⟩
  lt := by
    rintro w B s ⟨vo, h, e⟩ b hb
    exact h.lt ((e b).1 hb)
  note s l := { s with E := s.E ++ l }
  nil s := by simp
  app s a b := by simp
/-- what else a step may do: note, and store what a hold is; give a permit -/
inductive GFn
  | own (i : Nat) (v : Int) (ev : List Ev)
  | give (u : Nat)
namespace GFn
def ok : GFn → GS → Prop
  | own i _ ev, s => s.E.length + ev.length ≤ 1000000 ∧ 0 ≤ s.k ∧ s.k ≤ 2000000 ∧ i < s.mm.length
  | give u, s => u < s.l.length
def sem : GFn → GS → GS
  | own i v ev, s => ⟨s.mm.set i v, s.k + 1, s.l, s.E ++ ev⟩
  | give u, s => { s with l := s.l.set u true }
end GFn
inductive GOp
  | itm (x : Itm)
  | fn (f : GFn)
/-- a closure of a step's own -/
def FnAt (g : GrP) (m : Mp) (w : World) (Q : Nat → Prop) (f : GFn) (F : Nat) (caps : Array Value) : Prop :=
  (∀ (W : World) (args : Array Value), (callFunc F args).run Tryz.prog W = .ok (.enter F args) W) ∧ ∀ w1 B s, Keep (fun b => ¬ Q b) w w1 → (grH g m).at' w1 B s → (∀ b, B b → b < w.heap.size → ¬ Q b) → f.ok s →
    Calls Tryz.prog F caps w1 fun e w2 => ∃ v, e = .returned (.int .i64 v) ∧ v = 0 ∧ ∃ B2, (grH g m).at' w2 B2 (f.sem s) ∧ (∀ b, b < w1.heap.size → B2 b → B b) ∧ Keep B w1 w2
theorem FnAt.keep {g : GrP} {m : Mp} {w w1 : World} {Q Q' F : Nat → Prop} {f : GFn} {G : Nat} {caps : Array Value} (h : FnAt g m w Q f G caps) (hk : Keep F w w1) (hd : ∀ b, Q b → ¬ F b) (hq : ∀ b, b < w.heap.size → Q b → Q' b) : FnAt g m w1 Q' f G caps := by
  refine ⟨h.1, fun w2 B s hw hB hBd ho => h.2 w2 B s ⟨hw.os.trans hk.os, hw.tape.trans hk.tape, hw.output.trans hk.output, Nat.le_trans hk.size hw.size, fun b hb hn => ?_⟩ hB (fun b hb hl hQ => hBd b hb (Nat.lt_of_lt_of_le hl hk.size) (hq b hl hQ)) ho⟩
  have hQ : Q b := Classical.not_not.1 hn
  rw [hw.block b (Nat.lt_of_lt_of_le hb hk.size) (fun h => h (hq b hb hQ)), hk.block b hb (hd b hQ)]
def gOps (g : GrP) (m : Mp) : Ops GOp where
  is w Q x d p := match x with
    | .itm x => (cellOps g.C g.P).is w Q x d p
    | .fn f => ∃ b F caps, d = cloV 260 #[pV b] ∧ p = .pointer none ∧ Q b ∧ Blk w b 28 #[cloV F caps] ∧ FnAt g m w Q f F caps
  keep := fun {w w1 Q Q' F x d p} h hk hd hq => by
    cases x with
    | itm x => exact (cellOps g.C g.P).keep h hk hd hq
    | fn f =>
      obtain ⟨b, G, caps, e1, e2, h1, h2, h3⟩ := h
      exact ⟨b, G, caps, e1, e2, hq _ h2.lt h1, h2.keep hk (hd _ h1), h3.keep hk hd hq⟩
  op := fun {w Q x d p} h => by
    cases x with
    | itm x => exact (cellOps g.C g.P).op h
    | fn f =>
      obtain ⟨b, G, caps, e1, e2, h1, h2, h3⟩ := h
      exact .inl ⟨_, _, e1, e2⟩
/-- items alone -/
def iOps (g : GrP) : Ops Itm := cellOps g.C g.P
def itE (T : Tre Itm) : TrE GOp Ev := fun p => ([], match T p with | .ret v => .ret v | .op x => .op (.itm x))
theorem itE_ret (v : Int) : itE (retT v) = retE v := rfl
theorem itE_op (x : Itm) (k : Int → Tre Itm) : itE (opT x k) = opE (.itm x) fun v => itE (k v) := by
  funext p
  cases p <;> rfl
theorem itE_bind (k : Int → Tre Itm) (T : Tre Itm) : itE (bindT k T) = bindE (fun v => itE (k v)) (itE T) := by
  funext p
  have key : ∀ p (T : Tre Itm), itE (bindT k T) p = bindEP (fun v => itE (k v)) p (itE T) := by
    intro p
    induction p with
    | nil =>
      intro T
      simp only [itE, bindT, bindP, bindEP]
      cases T [] <;> simp
    | cons v p ih =>
      intro T
      simp only [itE, bindT, bindP, bindEP]
      cases h : T [] with
      | ret u => simp
      | op x => exact ih (fun q => T (v :: q))
  exact key p T
/-- tasks of items are tasks of a ground -/
theorem contsE_it (g : GrP) (m : Mp) {w : World} {Q M : Nat → Prop} {fs : List Nat} {κ : Int → Tre Itm} (h : ContsM (cellOps g.C g.P) w Q M fs κ) : ContsE (grH g m) (gOps g m) w Q M fs (fun v => itE (κ v)) := by
  refine ⟨fun w Q M fs κ => ∃ κ0 : Int → Tre Itm, ContsM (cellOps g.C g.P) w Q M fs κ0 ∧ κ = fun v => itE (κ0 v), ?_, κ, h, rfl⟩
  rintro w Q M fs κ ⟨κ0, h, rfl⟩
  obtain ⟨hm, hr⟩ := h.unfold
  refine ⟨hm, ?_⟩
  cases fs with
  | nil => rw [hr]; rfl
  | cons f fs =>
    obtain ⟨a1, a2, a3⟩ := hr
    refine ⟨a1, a2, fun v w1 B s hw hB hd => (a3 v w1 hw).mono ?_⟩
    rintro e w2 ⟨n, M2, rfl, g1, g2, g3, g4⟩
    have hs := hw.size
    have hB1 := (grH g m).lt hB
    have hB2 : ∀ b, B b → ¬ M b := fun b hb hM => hd b hb (hm b hM).2 (hm b hM).1
    have hnb : ∀ b, (Q b ∧ b < w.heap.size) ∨ w1.heap.size ≤ b → ¬ B b := fun b hb h => by
      rcases hb with hb | hb
      · exact hd b h hb.2 hb.1
      · have := hB1 b h; omega
    refine ⟨n, M2, B, [], itE (κ0 v), rfl, g1.mono (fun b _ h => .inl h), g2, by rw [(grH g m).nil]; exact (grH g m).keep hB g1 hB2, fun b _ h => h, fun k e => ⟨g3 k e, hnb k (g3 k e)⟩, ?_, (emE_nil _).symm⟩
    rcases g4 with ⟨u, κ', q1, q2, e⟩ | ⟨x, gg, k, d, p, rest, gs, e, rfl, q1, q2, q3, q4⟩
    · exact .inl ⟨u, fun v => itE (κ' v), q1, ⟨κ', q2.keep (Keep.refl (fun _ => False) w2) (fun _ _ h => h) (fun b _ h => ⟨h, hnb b h⟩), rfl⟩, by rw [e]⟩
    · exact .inr ⟨.itm x, fun v => itE (gg v), k, d, p, rest, gs, by rw [e, itE_op], rfl, q1, q2.mono (fun b _ h => ⟨⟨h.1, hnb b h.1⟩, h.2⟩), (cellOps g.C g.P).keep q3 (Keep.refl (fun _ => False) w2) (fun _ _ h => h) (fun b _ h => ⟨h, hnb b h⟩), gg, q4.keep (Keep.refl (fun _ => False) w2) (fun _ _ h => h) (fun b _ h => ⟨h, hnb b h⟩), rfl⟩
theorem jeF_it (g : GrP) (m : Mp) {w : World} {Q M : Nat → Prop} {n : Option Addr} {fs : List Nat} {R : Tre Itm} (h : JmF (cellOps g.C g.P) w Q M n fs R) : JeF (grH g m) (gOps g m) w Q M n fs (itE R) := by
  rcases h with ⟨u, κ', q1, q2, e⟩ | ⟨x, gg, k, d, p, rest, gs, e, rfl, q1, q2, q3, q4⟩
  · exact .inl ⟨u, fun v => itE (κ' v), q1, contsE_it g m q2, by rw [e]⟩
  · exact .inr ⟨.itm x, fun v => itE (gg v), k, d, p, rest, gs, by rw [e, itE_op], rfl, q1, q2, q3, contsE_it g m q4⟩
/-- .. that turn nothing of their own -/
theorem jeF_pure (g : GrP) (m : Mp) {w : World} {Q : Nat → Prop} {n : Option Addr} {T : Tre Itm} (h : TaskF (cellOps g.C g.P) w Q n T) : JeF (grH g m) (gOps g m) w Q (fun _ => False) n [] (itE T) := jeF_it g m (jmF_pure _ h)
theorem one1_fn (b F : Nat) (caps : Array Value) (w : World) (R : Int → World → Prop) (hb : Blk w b 28 #[cloV F caps]) (hcall : ∀ (W : World) (args : Array Value), (callFunc F args).run Tryz.prog W = .ok (.enter F args) W)
    (h : Calls Tryz.prog F caps w fun e w' => ∃ v, e = .returned (.int .i64 v) ∧ R v w') : Calls Tryz.prog 260 #[pV b] w fun e w' => ∃ v, e = .returned (.int .i64 v) ∧ R v w' := by
  have c0 : w.cell? ⟨b, 0, none⟩ = some (cloV F caps) := hb.cell 0 _ rfl
  have HH := Lib.hid (answerI_any F caps w R hcall h)
  clear h hb
  go_enter Tryz.func260, Tryz.ntmps260
  go_wp2_with (go_at_call 261; refine HH.out.mono ?_; rintro e w2 ⟨v, rfl, hp⟩)
  go_ret
  exact ⟨v, rfl, hp⟩
section
variable {g : GrP} {m : Mp}
/-- what is left behind a step: the task, memory that all share -/
def GPost (g : GrP) (m : Mp) (w : World) (t : Nat) (Q B : Nat → Prop) (s2 : GS) (R : TrE GOp Ev) (w' : World) : Prop :=
  ∃ Q' B' l T', TkE (grH g m) (gOps g m) w' t Q' T' ∧ (∀ b, Q' b → Q b ∨ w.heap.size ≤ b) ∧ (grH g m).at' w' B' ((grH g m).note s2 l) ∧ (∀ b, b < w.heap.size → B' b → B b) ∧ (∀ b, B' b → ¬ Q' b) ∧ Keep (fun b => Q b ∨ B b) w w' ∧ R = emE l T'
/-- an operation on cells -/
theorem gstep_op (t : Nat) (Q B : Nat → Prop) (s : GS) (x : Itm) (κ : Int → TrE GOp Ev) (w : World) (h : TkE (grH g m) (gOps g m) w t Q (opE (.itm x) κ)) (hB : (grH g m).at' w B s) (hBQ : ∀ b, B b → ¬ Q b) (hk : x.kind < 5) (hn : 0 ≤ s.k ∧ s.k ≤ 2000000) :
    Calls Tryz.prog 37 #[pV t, .int .i64 0] w fun e w' => e = .returned (.bool true) ∧ GPost g m w t Q B ⟨(operS s.mm x).1, s.k + countS s.mm x, s.l, s.E⟩ (κ (operS s.mm x).2.1) w' := by
  refine (tstepE_op t Q B s ⟨(operS s.mm x).1, s.k + countS s.mm x, s.l, s.E⟩ (.itm x) κ 0 (operS s.mm x).2.1 w h hB hBQ ?_).mono fun e w' h => h
  intro Q1 d p hO hq
  obtain ⟨vo, hG, hBb⟩ := hB
  obtain ⟨b, F, caps, rfl, rfl, b1, b2, b3⟩ : ∃ b F caps, d = cloV 260 #[pV b] ∧ p = .pointer none ∧ Q1 b ∧ Blk w b _ #[cloV F caps] ∧ CloAt w g.C Q1 x F caps := by
    rcases hO with hO | ⟨hO, _⟩ | ⟨hO, _⟩
    · exact hO
    · omega
    · omega
  refine (opend_do b w (fun v' w2 => v' = (operS s.mm x).2.1 ∧ CellsAt w2 g.C g.S (operS s.mm x).1 (s.k + countS s.mm x) ∧ Keep (ofCells g.C g.S) w w2) fun W hb => ?_).mono ?_
  · have kW : Keep (fun _ => False) w W := Keep.ofBelow hb
    refine (do6_any g.C g.S Q1 s.mm s.k x b F caps W (b2.below hb b2.lt) (b3.keep kW (fun _ _ h => h) (fun _ _ h => h)) (hG.cells.keep kW (fun h => h) (fun h => h)) hn.1 (by omega)).mono ?_
    rintro e w' ⟨v', rfl, e1, e2, e3⟩
    exact ⟨v', rfl, e1, e2, (Keep.ofBelow hb).trans e3⟩
  · rintro e w2 ⟨v', rfl, rfl, hC2, hk2⟩
    refine ⟨rfl, B, ⟨vo, hG.cells' hC2 hk2 (operS_size _ _), hBb⟩, fun _ _ h => h, hk2.mono fun b _ hb => (hBb b).2 ?_⟩
    rcases hb with rfl | rfl
    · exact .inr (.inl rfl)
    · exact .inr (.inr (.inl rfl))
/-- what a closure of its own does -/
theorem gstep_fn (t : Nat) (Q B : Nat → Prop) (s : GS) (f : GFn) (κ : Int → TrE GOp Ev) (w : World) (h : TkE (grH g m) (gOps g m) w t Q (opE (.fn f) κ)) (hB : (grH g m).at' w B s) (hBQ : ∀ b, B b → ¬ Q b) (ho : f.ok s) :
    Calls Tryz.prog 37 #[pV t, .int .i64 0] w fun e w' => e = .returned (.bool true) ∧ GPost g m w t Q B (f.sem s) (κ 0) w' := by
  refine (tstepE_op t Q B s (f.sem s) (.fn f) κ 0 0 w h hB hBQ ?_).mono fun e w' h => h
  rintro Q1 d p ⟨b, F, caps, rfl, rfl, b1, b2, hcall, hF⟩ hq
  have hBl := (grH g m).lt hB
  refine (opend_do b w (fun v' w2 => v' = 0 ∧ ∃ B2, (grH g m).at' w2 B2 (f.sem s) ∧ (∀ b, b < w.heap.size → B2 b → B b) ∧ Keep B w w2) fun W hb => ?_).mono ?_
  · have kW : Keep (fun _ => False) w W := Keep.ofBelow hb
    have hs := hb.size
    refine one1_fn b F caps W _ (b2.below hb b2.lt) hcall ((hF W B s (kW.mono fun _ _ h => h.elim) ((grH g m).keep hB kW (fun _ _ h => h)) (fun b hb _ hQ => hq b hQ hb) ho).mono ?_)
    rintro e w' ⟨v, rfl, hv, B2, e1, e2, e3⟩
    exact ⟨v, rfl, hv, B2, e1, fun b hb h => e2 b (by omega) h, (Keep.ofBelow hb).trans e3⟩
  · rintro e w2 ⟨v', rfl, rfl, h⟩
    exact ⟨rfl, h⟩
/-- a parking that ends -/
theorem gstep_park (t : Nat) (Q B : Nat → Prop) (s : GS) (x : Itm) (κ : Int → TrE GOp Ev) (k : Int) (b : Bool) (w : World) (h : TkE (grH g m) (gOps g m) w t Q (opE (.itm x) κ)) (hB : (grH g m).at' w B s) (hBQ : ∀ b, B b → ¬ Q b) (hk : x.kind = 5 ∨ x.kind = 6) (hx : s.l[x.at']? = some b) (he : endsS b (x.kind == 6) k = true) :
    Calls Tryz.prog 37 #[pV t, .int .i64 k] w fun e w' => e = .returned (.bool true) ∧ GPost g m w t Q B ⟨s.mm, s.k, if k = 0 then s.l.set x.at' false else s.l, s.E⟩ (κ k) w' := by
  refine (tstepE_op t Q B s ⟨s.mm, s.k, if k = 0 then s.l.set x.at' false else s.l, s.E⟩ (.itm x) κ k k w h hB hBQ ?_).mono fun e w' h => h
  intro Q1 d p hO hq
  obtain ⟨vo, hG, hBb⟩ := hB
  obtain ⟨rfl, pb, rfl, p1, p2⟩ : d = .nilFunc ∧ ∃ pb, p = pV pb ∧ Q1 pb ∧ Blk w pb _ #[pV g.P, .int .i64 x.at', .bool (x.kind == 6)] := by
    rcases hO with ⟨b, F, caps, _, _, _, _, bc, bi, _, _, _, _, hO⟩ | ⟨_, hO⟩ | ⟨hO, _⟩
    · rcases hO with ⟨h, _⟩ | ⟨h, _⟩ | ⟨h, _⟩ | ⟨h, _⟩ <;> omega
    · exact hO
    · omega
  refine (opend_park pb k k true w (fun w2 => PermitsAt w2 g.P g.R g.cs (if k = 0 then s.l.set x.at' false else s.l) ∧ Keep (fun b => b ∈ g.cs) w w2) fun W hb => ?_).mono ?_
  · have kW : Keep (fun _ => False) w W := Keep.ofBelow hb
    have hPW := hG.perms.keep kW (fun h => h) (fun h => h) (fun _ _ h => h)
    by_cases h0 : k = 0
    · subst h0
      obtain rfl : b = true := by simpa [endsS] using he
      refine (pend_take g.P g.R g.cs s.l pb x.at' _ W (p2.below hb p2.lt) hPW hx).mono ?_
      rintro e w' ⟨rfl, g1, g2⟩
      exact ⟨rfl, by simpa using g1, (Keep.ofBelow hb).trans g2⟩
    · refine (pend_kind g.P g.R g.cs s.l pb x.at' _ b k W (p2.below hb p2.lt) hPW hx he h0).mono ?_
      rintro e w' ⟨rfl, g1⟩
      exact ⟨rfl, by rw [if_neg h0]; exact hPW.keep g1 (fun h => h) (fun h => h) (fun _ _ h => h), (Keep.ofBelow hb).trans (g1.mono (fun _ _ h => h.elim))⟩
  · rintro e w2 ⟨rfl, hP2, hk2⟩
    refine ⟨rfl, B, ⟨vo, hG.perms' hP2 hk2 (by split <;> simp), hBb⟩, fun _ _ h => h, hk2.mono fun b _ hb => (hBb b).2 (.inr (.inr (.inr (.inr (.inr (.inl hb))))))⟩
/-- a task ahead of a parking -/
theorem TkE.park {t : Nat} {Q : Nat → Prop} {x : Itm} {κ : Int → TrE GOp Ev} {w : World} (h : TkE (grH g m) (gOps g m) w t Q (opE (.itm x) κ)) (hk : x.kind = 5 ∨ x.kind = 6) : ∃ pb rest, Live w t .nilFunc (pV pb) rest ∧ Blk w pb 265 #[pV g.P, .int .i64 x.at', .bool (x.kind == 6)] := by
  obtain ⟨Q1, M, q1, q2, hlt, d, p, rest, fs, hL, hT, hO, hc⟩ := h.live
  rcases hO with ⟨b, F, caps, _, _, _, _, bc, bi, _, _, _, _, hO⟩ | ⟨_, rfl, pb, rfl, _, hb⟩ | ⟨hO, _⟩
  · rcases hO with ⟨h, _⟩ | ⟨h, _⟩ | ⟨h, _⟩ | ⟨h, _⟩ <;> omega
  · exact ⟨pb, rest, hL, hb⟩
  · omega
/-- a task ahead of a step of another kind -/
theorem TkE.oper {t : Nat} {Q : Nat → Prop} {x : GOp} {κ : Int → TrE GOp Ev} {w : World} (h : TkE (grH g m) (gOps g m) w t Q (opE x κ)) (hk : ∀ y, x = .itm y → y.kind < 5) : ∃ b rest, Live w t (cloV 260 #[pV b]) (.pointer none) rest := by
  obtain ⟨Q1, M, q1, q2, hlt, d, p, rest, fs, hL, hT, hO, hc⟩ := h.live
  cases x with
  | itm y =>
    have := hk y rfl
    rcases hO with ⟨b, F, caps, rfl, rfl, _⟩ | ⟨hO, _⟩ | ⟨hO, _⟩
    · exact ⟨b, rest, hL⟩
    · omega
    · omega
  | fn f =>
    obtain ⟨b, F, caps, rfl, rfl, _⟩ := hO
    exact ⟨b, rest, hL⟩
theorem gparked_park (t : Nat) (Q : Nat → Prop) (x : Itm) (κ : Int → TrE GOp Ev) (w : World) (h : TkE (grH g m) (gOps g m) w t Q (opE (.itm x) κ)) (hk : x.kind = 5 ∨ x.kind = 6) : Calls Tryz.prog 57 #[pV t] w fun e w' => e = .returned (.bool true) ∧ w = w' := by
  obtain ⟨pb, rest, hL, hb⟩ := h.park hk
  exact parked_yes t pb _ _ _ w hL.blk
theorem gparked_op (t : Nat) (Q : Nat → Prop) (x : GOp) (κ : Int → TrE GOp Ev) (w : World) (h : TkE (grH g m) (gOps g m) w t Q (opE x κ)) (hk : ∀ y, x = .itm y → y.kind < 5) : Calls Tryz.prog 57 #[pV t] w fun e w' => e = .returned (.bool false) ∧ w = w' := by
  obtain ⟨b, rest, hL⟩ := h.oper hk
  exact parked_no t _ _ _ w hL.blk
theorem gparked_ret (t : Nat) (Q : Nat → Prop) (v : Int) (w : World) (h : TkE (grH g m) (gOps g m) w t Q (retE v)) : Calls Tryz.prog 57 #[pV t] w fun e w' => e = .returned (.bool false) ∧ w = w' := by
  obtain ⟨k', e, hb⟩ := h.done.resolve_left (fun h => by cases h.1)
  obtain rfl : t = k' := by simpa using e
  exact parked_no t _ _ _ w hb
theorem gcan_park (t : Nat) (Q B : Nat → Prop) (s : GS) (x : Itm) (κ : Int → TrE GOp Ev) (k : Int) (b : Bool) (w : World) (h : TkE (grH g m) (gOps g m) w t Q (opE (.itm x) κ)) (hB : (grH g m).at' w B s) (hk : x.kind = 5 ∨ x.kind = 6) (hx : s.l[x.at']? = some b) :
    Calls Tryz.prog 58 #[pV t, .int .i64 k] w fun e w' => e = .returned (.bool (endsS b (x.kind == 6) k)) ∧ Keep (fun _ => False) w w' := by
  obtain ⟨vo, hG, hBb⟩ := hB
  obtain ⟨pb, rest, hL, hb⟩ := h.park hk
  have HP := Lib.hid (parked_yes t pb _ _ _ w hL.blk)
  have HE := Lib.hid (ends_any g.P g.R g.cs s.l pb x.at' _ b k w hb hG.perms hx)
  have c1 : w.cell? ⟨t, 1, none⟩ = some (pV pb) := hL.blk.cell 1 _ rfl
  generalize endsS b (x.kind == 6) k = res at *
  clear h hL hG hx hb
  go_enter Tryz.func58, Tryz.ntmps58
  go_wp2_with (first | (go_at_call 57; refine HP.out.mono ?_; rintro e w2 ⟨rfl, rfl⟩) | (go_at_call 142; refine HE.out.mono ?_; rintro e w2 ⟨rfl, hk2⟩))
  go_ret
  exact ⟨rfl, hk2⟩
end
end Go.Proofs.YtldofbkjjmnooaaGreat
/- Package task: Seq, of tasks by what they may yet do. -/
namespace Go.Proofs.YtldofbkjjmnooaaGreat
open Go.ChangeShapes Go.WideShapes Go.ChangeAt Go.RowKit
set_option linter.unusedVariables false
set_option maxRecDepth 100000
set_option linter.unusedSimpArgs false
/-- one behind the other, with the last one's value -/
def seqT {A : Type} : List (Tre A) → Tre A
  | [] => retT 0
  | [T] => bindT retT T
  | T :: U :: r => bindT (fun _ => seqT (U :: r)) T
theorem seqT_skip {A : Type} (v : Int) (U : Tre A) (r : List (Tre A)) : seqT (retT v :: U :: r) = seqT (U :: r) := by simp only [seqT, bindT_ret]
/-- a new task -/
def MadeQ {A : Type} (O : Ops A) (w : World) (Q : Nat → Prop) (T : Tre A) (t : Nat) (w' : World) : Prop := w.heap.size ≤ t ∧ TaskF O w' (fun b => Q b ∧ b ≠ t) (some ⟨t, 0, none⟩) T ∧ Below w.heap.size w w'
theorem Made6.madeQ {w w' : World} {C P : Nat} {Q : Nat → Prop} {r : List Itm} {v : Int} {t : Nat} (h : Made6 w C P Q r v t w') : MadeQ (cellOps C P) w Q (itmT r v) t w' := ⟨h.1, TaskC.tree h.2.1, h.2.2⟩
theorem MadeQ.of {A : Type} {O : Ops A} {w w1 w' : World} {Q : Nat → Prop} {T : Tre A} {t : Nat} (h : MadeQ O w1 Q T t w') (hb : Below w.heap.size w w1) : MadeQ O w Q T t w' := ⟨Nat.le_trans hb.size h.1, h.2.1, hb.trans (h.2.2.mono hb.size)⟩
theorem MadeQ.task {A : Type} {O : Ops A} {w w' : World} {Q : Nat → Prop} {T : Tre A} {t : Nat} (h : MadeQ O w Q T t w') : TaskF O w' Q (some ⟨t, 0, none⟩) T :=
  TaskF.keep h.2.1 (Keep.refl (fun _ => False) w') (fun _ _ h => h) (fun _ _ h => h) (fun b _ h => h.1)
theorem TaskF.at {A : Type} {O : Ops A} {w w1 : World} {Q : Nat → Prop} {n : Option Addr} {T : Tre A} (h : TaskF O w Q n T) (hb : Below w.heap.size w w1) : TaskF O w1 Q n T :=
  TaskF.keep h (Keep.ofBelow (Q := fun _ => False) hb) (fun _ _ h => h) (fun _ _ h => h) (fun b _ h => h)
theorem MadeQ.lt {A : Type} {O : Ops A} {w w' : World} {Q : Nat → Prop} {T : Tre A} {t : Nat} (h : MadeQ O w Q T t w') : t < w'.heap.size := TaskT.lt h.2.1
theorem MadeQ.mono {A : Type} {O : Ops A} {w w' : World} {Q Q' : Nat → Prop} {T : Tre A} {t : Nat} (h : MadeQ O w Q T t w') (hq : ∀ b, b < w'.heap.size → Q b → Q' b) : MadeQ O w Q' T t w' :=
  ⟨h.1, TaskF.keep h.2.1 (Keep.refl (fun _ => False) w') (fun _ _ h => h) (fun _ _ h => h) (fun b hb h => ⟨hq b hb h.1, h.2⟩), h.2.2⟩
/-- a row of tasks -/
def RowT {A : Type} (O : Ops A) (w : World) (Q : Nat → Prop) (B o : Nat) (L : List (Option Addr × Tre A)) : Prop :=
  ∀ (i : Nat) x, L[i]? = some x → w.cell? ⟨B, o + i, none⟩ = some (.pointer x.1) ∧ TaskF O w Q x.1 x.2 ∧ InQ (fun k => k < w.heap.size) x.1
theorem RowT.tail {A : Type} {O : Ops A} {w : World} {Q : Nat → Prop} {B o : Nat} {x : Option Addr × Tre A} {M : List (Option Addr × Tre A)} (h : RowT O w Q B o (x :: M)) : RowT O w Q B (o + 1) M :=
  fun i y hy => by have := h (i + 1) y (by simpa using hy); rwa [show o + (i + 1) = o + 1 + i by omega] at this
theorem RowT.keep {A : Type} {O : Ops A} {w w1 : World} {Q Q' F : Nat → Prop} {B o : Nat} {L : List (Option Addr × Tre A)} (h : RowT O w Q B o L) (hk : Keep F w w1) (hd : ∀ b, Q b → ¬ F b) (hB : ¬ F B) (hn : ∀ (i : Nat) x, L[i]? = some x → InQ (fun k => ¬ F k) x.1) (hq : ∀ b, b < w.heap.size → Q b → Q' b) : RowT O w1 Q' B o L := fun i x hx => by
  obtain ⟨h1, h2, h3⟩ := h i x hx
  exact ⟨cell_keep6 h1 hk hB, TaskF.keep h2 hk hd (hn i x hx) hq, fun k e => Nat.lt_of_lt_of_le (h3 k e) hk.size⟩
theorem RowT.at {A : Type} {O : Ops A} {w w1 : World} {Q : Nat → Prop} {B o : Nat} {L : List (Option Addr × Tre A)} (h : RowT O w Q B o L) (hb : Below w.heap.size w w1) : RowT O w1 Q B o L :=
  h.keep (Keep.ofBelow (Q := fun _ => False) hb) (fun _ _ h => h) (fun h => h) (fun _ _ _ _ _ h => h) (fun _ _ h => h)
theorem TaskF.either {A : Type} {O : Ops A} {w : World} {Q : Nat → Prop} {n : Option Addr} {T : Tre A} (h : TaskF O w Q n T) : (∃ v, T = retT v ∧ DoneV w n v) ∨ ∃ k d p r, n = some ⟨k, 0, none⟩ ∧ Live w k d p r := by
  rcases h with ⟨v, e, h⟩ | ⟨x, κ, k, d, p, rest, fs, e, rfl, h1, h2, h3, h4⟩
  · exact .inl ⟨v, e, h⟩
  · exact .inr ⟨k, d, p, rest, rfl, h1⟩
/-- what is said of inOrder for shorter lists -/
def OrdT {A : Type} (O : Ops A) (k : Nat) : Prop := ∀ (L : List (Option Addr × Tre A)) (Q : Nat → Prop) (a : Option Addr) (cap : Nat) (w : World), L.length ≤ k → (L ≠ [] → ∃ B o, a = some ⟨B, o, none⟩ ∧ Q B ∧ RowT O w Q B o L ∧ ∀ (i : Nat) x, L[i]? = some x → InQ Q x.1) → L.length ≤ 1000 → L.length ≤ cap → cap ≤ maxLen → (∀ k, w.heap.size ≤ k → Q k) →
  Calls Tryz.prog 224 #[.slice a L.length cap] w fun e w' => ∃ t, e = .returned (pV t) ∧ MadeQ O w Q (seqT (L.map (·.2))) t w'
theorem order1T {A : Type} (O : Ops A) (k : Nat) (hO : OrdT O k) (Q : Nat → Prop) (L : List (Option Addr × Tre A)) (bl B o cap : Nat) (v : Int) (w : World) (hL : L ≠ []) (hk : L.length ≤ k) (hb : Blk w bl 54 #[.slice (some ⟨B, o, none⟩) (L.length + 1) cap])
    (hB : Q B) (hR : RowT O w Q B (o + 1) L) (hI : ∀ (i : Nat) x, L[i]? = some x → InQ Q x.1) (hn : L.length ≤ 1000) (hc : L.length + 1 ≤ cap) (hm : cap ≤ maxLen) (hQ : ∀ k, w.heap.size ≤ k → Q k) :
    Calls Tryz.prog 291 #[.int .i64 v, pV bl] w fun e w' => ∃ t, e = .returned (pV t) ∧ MadeQ O w Q (seqT (L.map (·.2))) t w' := by
  have c0 : w.cell? ⟨bl, 0, none⟩ = some (.slice (some ⟨B, o, none⟩) (L.length + 1) cap) := hb.cell 0 _ rfl
  have h1 : 1 ≤ L.length := by
    cases L with
    | nil => exact absurd rfl hL
    | cons x L => simp
  have hsl := slice_from B o (L.length + 1) cap (by omega) (by omega)
  have HH := Lib.hid (hO L Q (some ⟨B, o + 1, none⟩) (cap - 1) w hk (fun _ => ⟨B, o + 1, rfl, hB, hR, hI⟩) hn (by omega) (by omega) hQ)
  clear hR hB hQ hm hc hb hI hO
  simp only [Nat.add_sub_cancel] at hsl
  generalize L.length = n at *
  go_enter Tryz.func291, Tryz.ntmps291
  go_wp2_with (go_at_call 224; refine HH.out.mono ?_; rintro e w2 ⟨t, rfl, h2⟩)
  go_ret
  exact ⟨t, rfl, h2⟩
set_option maxHeartbeats 1000000 in
theorem inOrderT {A : Type} (O : Ops A) : ∀ k, OrdT O k := by
  intro k
  induction k with
  | zero =>
    intro L Q a cap w hk ha hn hc hm hQ
    obtain rfl : L = [] := List.length_eq_zero_iff.1 (by omega)
    go_enter Tryz.func224, Tryz.ntmps224
    go_upto_region 1 with fail
    generalize hW : (w.alloc _) = W
    have bW : Below w.heap.size w W := by rw [← hW]; go_grown
    have q0 : Blk W w.heap.size 54 #[.slice a 0 cap] := by rw [← hW]; exact Blk.new w _ _
    clear hW
    have c0 : W.cell? ⟨w.heap.size, 0, none⟩ = some (.slice a 0 cap) := q0.cell 0 _ rfl
    have sW := bW.size
    clear q0
    go_loopg [3] 0 (fun k _ wr => k = 0 ∧ wr = W)
    case atStart => exact ⟨rfl, rfl⟩
    case round =>
      obtain ⟨_, rfl⟩ := hrel
      go_wp2_with (go_at_call 102; refine (ready_any _ _).mono ?_; rintro e w2 ⟨t, rfl, h1, h2, h3⟩)
      go_ret
      exact ⟨t, rfl, by omega, .inl ⟨0, rfl, .inr ⟨t, rfl, h2⟩⟩, bW.trans (h3.mono sW)⟩
  | succ k ih =>
    intro L Q a cap w hk ha hn hc hm hQ
    have hmf : ∀ (fn : Fn) (first cap : Array Value) (w : World), (Instr.makeFunc fn first cap).run Tryz.prog w = .ok (.func fn first cap) w := fun _ _ _ _ => rfl
    have HQ := Lib.hid hQ
    have HA := Lib.hid ha
    have HM := Lib.hid hm
    have IH := Lib.hid ih
    have HK := Lib.hid hk
    clear hQ ha hm ih hk
    go_enter Tryz.func224, Tryz.ntmps224
    go_upto_region 1 with fail
    generalize hW : (w.alloc _) = W
    have bW : Below w.heap.size w W := by rw [← hW]; go_grown
    have q0 : Blk W w.heap.size 54 #[.slice a L.length cap] := by rw [← hW]; exact Blk.new w _ _
    clear hW
    have hl0 := q0.lt
    have hsl := slice_from
    go_loopg [3] L.length (fun k _ wr => ∃ M a' cap', k = M.length ∧ Blk wr w.heap.size 54 #[.slice a' M.length cap'] ∧ Hid (M ≠ [] → ∃ B o, a' = some ⟨B, o, none⟩ ∧ Q B ∧ RowT O w Q B o M ∧ ∀ (i : Nat) x, M[i]? = some x → InQ Q x.1) ∧ M.length ≤ cap' ∧ Hid (cap' ≤ maxLen) ∧ M.length ≤ 1000 ∧ Hid (M.length ≤ L.length) ∧ Hid (seqT (M.map (·.2)) = seqT (L.map (·.2))) ∧ Below w.heap.size w wr)
    case atStart => exact ⟨L, a, cap, rfl, q0, Lib.hid HA.out, hc, HM, hn, Lib.hid (Nat.le_refl _), Lib.hid rfl, bW⟩
    case round =>
      clear q0 HA HM hc hn hl0
      obtain ⟨M, a', cap', hk, hB, hA, hc, hm, hn, hML, hR, hW⟩ := hrel
      have hsz := hW.size
      have z0 := hB.free 0
      have HB := Lib.hid hB
      have kk : Keep (fun _ => False) w wr := Keep.ofBelow hW
      match M, hk, hB, hA, hc, hm, hn, hML, hR, HB with
      | [], hk, hB, hA, hc, hm, hn, hML, hR, HB =>
        have c0 : wr.cell? ⟨w.heap.size, 0, none⟩ = some (.slice a' 0 cap') := hB.cell 0 _ rfl
        clear hB z0
        go_wp2_with (go_at_call 102; refine (ready_any _ _).mono ?_; rintro e w2 ⟨t, rfl, h1, h2, h3⟩)
        go_ret
        refine ⟨t, rfl, ?_⟩
        rw [← hR.out]
        exact ⟨by omega, .inl ⟨0, rfl, .inr ⟨t, rfl, h2⟩⟩, hW.trans (h3.mono hsz)⟩
      | [x], hk, hB, hA, hc, hm, hn, hML, hR, HB =>
        obtain ⟨B, o, rfl, hQB, hrow, hiq⟩ := hA.out (by simp)
        have c0 : wr.cell? ⟨w.heap.size, 0, none⟩ = some (.slice (some ⟨B, o, none⟩) 1 cap') := hB.cell 0 _ rfl
        have e0 : wr.cell? ⟨B, o, none⟩ = some (.pointer x.1) := by have := (hrow 0 x rfl).1; exact cell_keep6 this kk (fun h => h)
        obtain ⟨_, hT, hlt⟩ := hrow 0 x rfl
        have hTH := Lib.hid (thenT_any O x.1 291 #[pV w.heap.size] x.2 retT Q wr (hT.at hW) (fun j e => Nat.lt_of_lt_of_le (hlt j e) hsz) (fun k hk => HQ.out k (by omega)) (by
          intro w3 Q1 f hb hf hlo hqf hqq
          refine contT_of O w3 Q1 f 291 _ _ hqf hf call_order1 fun v w4 hw => ?_
          have hbk : Blk w4 w.heap.size 54 #[.slice (some ⟨B, o, none⟩) 1 cap'] := (HB.out.below hb HB.out.lt).keep hw (fun h => h (hqq _ HB.out.lt (HQ.out _ (Nat.le_refl _))))
          refine (order1_last w.heap.size _ cap' v w4 hbk).mono ?_
          rintro e w5 ⟨t, rfl, h1, h2, h3⟩
          exact ⟨some ⟨t, 0, none⟩, rfl, h3, .inl ⟨v, rfl, h2⟩, fun j e => by injection e with e; injection e with e; exact .inr (by omega)⟩))
        have hei := Lib.hid (hT.at hW).either
        clear hB hrow hA hT z0
        have hD : Hid (∃ b, Calls Tryz.prog 38 #[.pointer x.1] wr fun e w' => e = .returned (.bool b) ∧ wr = w') := Lib.hid (by
          rcases hei.out with ⟨v, _, hd⟩ | ⟨k, d, p, r, e, hL⟩
          · exact ⟨true, doneV_done _ v wr hd⟩
          · rw [e]; exact ⟨false, live_done k d p r wr hL⟩)
        obtain ⟨b0, hD⟩ := hD.out
        have HD := Lib.hid hD
        clear hD
        go_wp2_with (first | (go_at_call 38; refine HD.out.mono ?_; rintro e w3 ⟨rfl, rfl⟩) | (go_at_call 137; refine hTH.out.mono ?_; rintro e w2 ⟨t, rfl, h1, h2, h3⟩))
        go_ret
        refine ⟨t, rfl, ?_⟩
        rw [← hR.out]
        exact ⟨by omega, h2, hW.trans (h3.mono hsz)⟩
      | x :: y :: M, hk, hB, hA, hc, hm, hn, hML, hR, HB =>
        obtain ⟨B, o, rfl, hQB, hrow, hiq⟩ := hA.out (by simp)
        have c0 : wr.cell? ⟨w.heap.size, 0, none⟩ = some (.slice (some ⟨B, o, none⟩) (M.length + 1 + 1) cap') := hB.cell 0 _ rfl
        have e0 : wr.cell? ⟨B, o, none⟩ = some (.pointer x.1) := by have := (hrow 0 x rfl).1; exact cell_keep6 this kk (fun h => h)
        obtain ⟨_, hT, hlt⟩ := hrow 0 x rfl
        have hRow := Lib.hid hrow
        have hIq := Lib.hid hiq
        clear hB hrow hA hiq
        simp only [List.length_cons] at hc hn
        have hsl2 := hsl B o (M.length + 1 + 1) cap' (by omega) (by omega)
        rcases (hT.at hW).either with ⟨v, ev, hd⟩ | ⟨k0, d0, p0, r0, hx1, hL⟩
        · have hD := Lib.hid (doneV_done x.1 v wr hd)
          have HE := Lib.hid ev
          clear hd hsl hT ev
          go_wp2_with (go_at_call 38; refine hD.out.mono ?_; rintro e w3 ⟨rfl, rfl⟩)
          go_roundg (M.length + 1)
          case measure => simp only [List.length_cons] at hk; omega
          case rel =>
            refine ⟨y :: M, some ⟨B, o + 1, none⟩, cap' - 1, rfl, ?_, Lib.hid (fun _ => ⟨B, o + 1, rfl, hQB, hRow.out.tail, fun i z hz => hIq.out (i + 1) z (by simpa using hz)⟩), by simp only [List.length_cons]; omega, Lib.hid (by have := hm.out; omega), by simp only [List.length_cons]; omega, Lib.hid (by have := hML.out; simp only [List.length_cons] at this ⊢; omega), Lib.hid (by rw [← hR.out]; simp only [List.map_cons]; rw [HE.out, seqT_skip]), hW.setCell (p := ⟨w.heap.size, 0, none⟩) (Nat.le_refl _) _⟩
            have := HB.out.set 0 (.slice (some ⟨B, o + 1, none⟩) (M.length + 1) (cap' - 1))
            exact this
        · clear z0 hsl hsl2
          have hBlt := cell_lt6 (hRow.out 0 x rfl).1
          have hTH := Lib.hid (thenT_any O x.1 291 #[pV w.heap.size] x.2 (fun _ => seqT ((y :: M).map (·.2))) Q wr (hT.at hW) (fun j e => Nat.lt_of_lt_of_le (hlt j e) hsz) (fun k hk => HQ.out k (by omega)) (by
            intro w3 Q1 f hb hf hlo hqf hqq
            have hq0 : ∀ b, b < w.heap.size → Q b → Q1 b := fun b hb h => hqq b (by omega) h
            refine contT_of O w3 Q1 f 291 _ _ hqf hf call_order1 fun v w4 hw => ?_
            have hbk : Blk w4 w.heap.size 54 #[.slice (some ⟨B, o, none⟩) ((y :: M).length + 1) cap'] := (HB.out.below hb HB.out.lt).keep hw (fun h => h (hqq _ HB.out.lt (HQ.out _ (Nat.le_refl _))))
            have s3 := hb.size
            have k04 : Keep (fun b => ¬ (Q b ∧ b < w.heap.size)) w w4 := (kk.mono (fun _ _ h => h.elim)).step (((Keep.ofBelow (Q := fun _ => False) hb).mono (Q' := fun b => ¬ Q1 b) (fun _ _ h => h.elim)).trans hw) (fun i hi h hh => h (hq0 i hi hh.1))
            have hRT : RowT O w (fun b => Q b ∧ b < w.heap.size) B (o + 1) (y :: M) := hRow.out.tail.keep (Keep.refl (fun _ => False) w) (fun _ _ h => h) (fun h => h) (fun _ _ _ _ _ h => h) (fun b hb h => ⟨h, hb⟩)
            refine (order1T O k IH.out (fun b => (Q1 b ∧ b < w3.heap.size) ∨ w4.heap.size ≤ b) (y :: M) w.heap.size B o cap' v w4 (by simp) (by have h1 := hML.out; have h2 := HK.out; simp only [List.length_cons] at h1 h2 ⊢; omega) hbk (.inl ⟨hq0 B hBlt hQB, by omega⟩) (hRT.keep k04 (fun b h hn => hn h) (fun h => h ⟨hQB, hBlt⟩) (fun i z hz j e h => h ⟨hIq.out (i + 1) z (by simpa using hz) j e, (hRow.out (i + 1) z (by simpa using hz)).2.2 j e⟩) (fun b hb h => .inl ⟨hq0 b hb h.1, by omega⟩)) (fun i z hz j e => .inl ⟨hq0 j ((hRow.out (i + 1) z (by simpa using hz)).2.2 j e) (hIq.out (i + 1) z (by simpa using hz) j e), by have := (hRow.out (i + 1) z (by simpa using hz)).2.2 j e; omega⟩) (by simp only [List.length_cons]; omega) (by simp only [List.length_cons]; omega) hm.out (fun k hk => .inr hk)).mono ?_
            rintro e w5 ⟨t, rfl, hM⟩
            exact ⟨some ⟨t, 0, none⟩, rfl, hM.2.2, hM.task, fun j e => by injection e with e; injection e with e; rw [← e]; exact .inr hM.1⟩))
          have hx2 : Value.pointer x.1 = pV k0 := by rw [hx1]
          have hD := Lib.hid (live_done k0 d0 p0 r0 wr hL)
          rw [hx2] at hTH e0
          clear hL hT hx1 hx2
          go_wp2_with (first | (go_at_call 38; refine hD.out.mono ?_; rintro e w3 ⟨rfl, rfl⟩) | (go_at_call 137; refine hTH.out.mono ?_; rintro e w2 ⟨t, rfl, h1, h2, h3⟩))
          go_ret
          refine ⟨t, rfl, ?_⟩
          rw [← hR.out]
          exact ⟨by omega, h2, hW.trans (h3.mono hsz)⟩
/-- the tasks of a row, one behind the other -/
theorem seqT_any {A : Type} (O : Ops A) (Q : Nat → Prop) (L : List (Option Addr × Tre A)) (B o cap : Nat) (w : World) (hne : L ≠ []) (hl : L.length ≤ 1000) (hR : RowT O w Q B o L) (hI : ∀ (i : Nat) x, L[i]? = some x → InQ Q x.1) (hQ : ∀ k, w.heap.size ≤ k → Q k) :
    Calls Tryz.prog 138 #[.slice (some ⟨B, o, none⟩) L.length cap] w fun e w' => ∃ t, e = .returned (pV t) ∧ MadeQ O w Q (seqT (L.map (·.2))) t w' := by
  have HC := Lib.hid (clone_any (L.map (·.1)) B o cap w (by simpa using hne) (by simpa using hl) (fun i x hx => by
    rw [List.getElem?_map] at hx
    obtain ⟨y, hy, rfl⟩ := Option.map_eq_some_iff.1 hx
    exact (hR i y hy).1))
  have HI := Lib.hid fun W g c2 (hb : Below w.heap.size w W) (hg : w.heap.size ≤ g) (hc : L.length ≤ c2) (hm : c2 ≤ maxLen) (hcl : ∀ i x, (L.map (·.1))[i]? = some x → W.cell? ⟨g, i, none⟩ = some (.pointer x)) =>
    inOrderT O L.length L Q (some ⟨g, 0, none⟩) c2 W (Nat.le_refl _) (fun _ => ⟨g, 0, rfl, hQ g hg, fun i x hx => ⟨by rw [Nat.zero_add]; exact hcl i x.1 (by rw [List.getElem?_map, hx]; rfl), (hR i x hx).2.1.at hb, fun k e => Nat.lt_of_lt_of_le ((hR i x hx).2.2 k e) hb.size⟩, hI⟩) hl hc hm (fun k hk => hQ k (Nat.le_trans hb.size hk))
  rw [List.length_map] at HC
  clear hR hQ hI
  go_enter Tryz.func138, Tryz.ntmps138
  go_wp2_with (first | (go_at_call 225; refine HC.out.mono ?_; rintro e w2 ⟨g, c2, rfl, h1, h2, h3, h4, _, h5⟩; have H2 := Lib.hid (HI.out w2 g c2 h5 h1 h2 h3 h4)) | (go_at_call 224; refine H2.out.mono ?_; rintro e w3 ⟨t, rfl, h6⟩))
  go_ret
  exact ⟨t, rfl, h6.of h5⟩
/-- .. of a list that is written out -/
theorem seqT_two {A : Type} (O : Ops A) (Q : Nat → Prop) (T1 T2 : Tre A) (t1 t2 : Nat) (w : World) (h1 : TaskF O w Q (some ⟨t1, 0, none⟩) T1) (h2 : TaskF O w Q (some ⟨t2, 0, none⟩) T2) (q1 : Q t1) (q2 : Q t2) (hQ : ∀ k, w.heap.size ≤ k → Q k) :
    Calls Tryz.prog 138 #[.slice (some ⟨w.heap.size, 0, none⟩) 2 2] (w.alloc (.cells #[pV t1, pV t2] 40)) fun e w' => ∃ t, e = .returned (pV t) ∧ MadeQ O w Q (seqT [T1, T2]) t w' := by
  have hB := Blk.new w 40 #[pV t1, pV t2]
  have hb : Below w.heap.size w (w.alloc (.cells #[pV t1, pV t2] 40)) := (Below.refl _ w).alloc (Nat.le_refl _) _
  have l1 := TaskT.lt h1
  have l2 := TaskT.lt h2
  have hi : ∀ (P : Nat → Prop), P t1 → P t2 → ∀ (i : Nat) (x : Option Addr × Tre A), [((some ⟨t1, 0, none⟩ : Option Addr), T1), (some ⟨t2, 0, none⟩, T2)][i]? = some x → InQ P x.1 := fun P p1 p2 i x hx k e => by
    match i, hx with
    | 0, hx => simp at hx; subst hx; simp at e; exact e ▸ p1
    | 1, hx => simp at hx; subst hx; simp at e; exact e ▸ p2
    | (i + 2), hx => simp at hx
  refine (seqT_any O Q [((some ⟨t1, 0, none⟩ : Option Addr), T1), (some ⟨t2, 0, none⟩, T2)] w.heap.size 0 2 _ (by simp) (by simp) (fun i x hx => ?_) (hi Q q1 q2) (fun k hk => hQ k (by rw [World.size_alloc] at hk; omega))).mono ?_
  · refine ⟨?_, ?_, fun k e => Nat.lt_of_lt_of_le (hi (fun k => k < w.heap.size) l1 l2 i x hx k e) hb.size⟩
    · match i, hx with
      | 0, hx => simp at hx; subst hx; exact hB.cell 0 _ rfl
      | 1, hx => simp at hx; subst hx; exact hB.cell 1 _ rfl
      | (i + 2), hx => simp at hx
    · match i, hx with
      | 0, hx => simp at hx; subst hx; exact h1.at hb
      | 1, hx => simp at hx; subst hx; exact h2.at hb
      | (i + 2), hx => simp at hx
  · rintro e w' ⟨t, rfl, h⟩
    exact ⟨t, rfl, h.of hb⟩
theorem seqT_four {A : Type} (O : Ops A) (Q : Nat → Prop) (T1 T2 T3 T4 : Tre A) (t1 t2 t3 t4 : Nat) (w : World) (h1 : TaskF O w Q (some ⟨t1, 0, none⟩) T1) (h2 : TaskF O w Q (some ⟨t2, 0, none⟩) T2) (h3 : TaskF O w Q (some ⟨t3, 0, none⟩) T3) (h4 : TaskF O w Q (some ⟨t4, 0, none⟩) T4) (q1 : Q t1) (q2 : Q t2) (q3 : Q t3) (q4 : Q t4) (hQ : ∀ k, w.heap.size ≤ k → Q k) :
    Calls Tryz.prog 138 #[.slice (some ⟨w.heap.size, 0, none⟩) 4 4] (w.alloc (.cells #[pV t1, pV t2, pV t3, pV t4] 40)) fun e w' => ∃ t, e = .returned (pV t) ∧ MadeQ O w Q (seqT [T1, T2, T3, T4]) t w' := by
  have hB := Blk.new w 40 #[pV t1, pV t2, pV t3, pV t4]
  have hb : Below w.heap.size w (w.alloc (.cells #[pV t1, pV t2, pV t3, pV t4] 40)) := (Below.refl _ w).alloc (Nat.le_refl _) _
  have l1 := TaskT.lt h1
  have l2 := TaskT.lt h2
  have l3 := TaskT.lt h3
  have l4 := TaskT.lt h4
  have hi : ∀ (P : Nat → Prop), P t1 → P t2 → P t3 → P t4 → ∀ (i : Nat) (x : Option Addr × Tre A), [((some ⟨t1, 0, none⟩ : Option Addr), T1), (some ⟨t2, 0, none⟩, T2), (some ⟨t3, 0, none⟩, T3), (some ⟨t4, 0, none⟩, T4)][i]? = some x → InQ P x.1 := fun P p1 p2 p3 p4 i x hx k e => by
    match i, hx with
    | 0, hx => simp at hx; subst hx; simp at e; exact e ▸ p1
    | 1, hx => simp at hx; subst hx; simp at e; exact e ▸ p2
    | 2, hx => simp at hx; subst hx; simp at e; exact e ▸ p3
    | 3, hx => simp at hx; subst hx; simp at e; exact e ▸ p4
    | (i + 4), hx => simp at hx
  refine (seqT_any O Q [((some ⟨t1, 0, none⟩ : Option Addr), T1), (some ⟨t2, 0, none⟩, T2), (some ⟨t3, 0, none⟩, T3), (some ⟨t4, 0, none⟩, T4)] w.heap.size 0 4 _ (by simp) (by simp) (fun i x hx => ?_) (hi Q q1 q2 q3 q4) (fun k hk => hQ k (by rw [World.size_alloc] at hk; omega))).mono ?_
  · refine ⟨?_, ?_, fun k e => Nat.lt_of_lt_of_le (hi (fun k => k < w.heap.size) l1 l2 l3 l4 i x hx k e) hb.size⟩
    · match i, hx with
      | 0, hx => simp at hx; subst hx; exact hB.cell 0 _ rfl
      | 1, hx => simp at hx; subst hx; exact hB.cell 1 _ rfl
      | 2, hx => simp at hx; subst hx; exact hB.cell 2 _ rfl
      | 3, hx => simp at hx; subst hx; exact hB.cell 3 _ rfl
      | (i + 4), hx => simp at hx
    · match i, hx with
      | 0, hx => simp at hx; subst hx; exact h1.at hb
      | 1, hx => simp at hx; subst hx; exact h2.at hb
      | 2, hx => simp at hx; subst hx; exact h3.at hb
      | 3, hx => simp at hx; subst hx; exact h4.at hb
      | (i + 4), hx => simp at hx
  · rintro e w' ⟨t, rfl, h⟩
    exact ⟨t, rfl, h.of hb⟩
end Go.Proofs.YtldofbkjjmnooaaGreat
/- Package queue: threads and marks; cells of a map; what is behind a thread. -/
namespace Go.Proofs.YtldofbkjjmnooaaGreat
open Go.ChangeShapes Go.WideShapes Go.ChangeAt Go.RowKit
set_option linter.unusedVariables false
set_option maxRecDepth 100000
set_option linter.unusedSimpArgs false
abbrev nextV (m : Mp) : Value := .func (.func 30) #[mapV m] #[]
def behN (m : Mp) (a : Nat) (u : Int) : Nat := if u = -1 then a else nxN m u
/-- the thread that a cell's value names; by what a task's value is -/
def markedS (m : Mp) (v : Int) : Int := if (m.t : Int) < v then -1 else v - 1
def thrS (m : Mp) (v : Int) : Int := markedS m (IntKind.u64.wrap v)
theorem u64_range (v : Int) : 0 ≤ IntKind.u64.wrap v ∧ IntKind.u64.wrap v < 18446744073709551616 := by
  rw [IntKind.wrap_u64]
  omega
theorem thrS_range (m : Mp) (v : Int) : -1 ≤ thrS m v ∧ thrS m v < m.t := by
  have := u64_range v
  unfold thrS markedS
  split <;> omega
theorem thrS_of {m : Mp} {v : Int} (h : 0 ≤ v ∧ v ≤ m.t) (hm : m.t ≤ 32766) : thrS m v = v - 1 := by
  unfold thrS markedS
  rw [IntKind.wrap_u64]
  have : v % 18446744073709551616 = v := by omega
  rw [this, if_neg (by omega)]
abbrev lineV (C a : Nat) (m : Mp) : Value := .agg #[cellsV C, .int .i64 (a : Int), .int .i64 ((a : Int) + 1), nextV m, .int .i64 (m.t : Int)]
theorem mark_any (u : Int) (w : World) (h : -1 ≤ u ∧ u ≤ 100000) : Calls Tryz.prog 179 #[.int .i64 u] w fun e w' => e = .returned (.int .u64 (u + 1)) ∧ w = w' := by
  have e1 : IntKind.u64.wrap (u + 1) = u + 1 := by rw [IntKind.wrap_u64]; omega
  go_enter Tryz.func179, Tryz.ntmps179
  go_wp2
  go_ret
  exact ⟨rfl, rfl⟩
theorem next_any (m : Mp) (u : Int) (w : World) (hm : m.ok) (h : 0 ≤ u ∧ u < m.t) : Calls Tryz.prog 30 #[mapV m, .int .i64 u] w fun e w' => e = .returned (.int .i64 (nxN m u : Int)) ∧ Below w.heap.size w w' := by
  have HT := Lib.hid fun W => thread_any m u W hm h
  clear hm h
  go_enter Tryz.func30, Tryz.ntmps30
  go_wp2_with (go_at_call 108; refine (HT.out _).mono ?_; rintro e w2 ⟨rfl, b2⟩)
  go_ret
  exact ⟨rfl, ((Below.refl _ w).alloc (Nat.le_refl _) _).trans (b2.mono (by simp))⟩
theorem marked_any (C a : Nat) (m : Mp) (v : Int) (w : World) (hm : m.ok) (hv : 0 ≤ v ∧ v < 18446744073709551616) : Calls Tryz.prog 190 #[lineV C a m, .int .u64 v] w fun e w' => e = .returned (.int .i64 (markedS m v)) ∧ Below w.heap.size w w' := by
  have h1 := hm.t
  have e1 : IntKind.u64.wrap (m.t : Int) = m.t := by rw [IntKind.wrap_u64]; omega
  clear hm
  by_cases h : (m.t : Int) < v
  · have e : markedS m v = -1 := by simp [markedS, h]
    rw [e]
    clear e hv
    go_enter Tryz.func190, Tryz.ntmps190
    go_wp2
    go_ret
    exact ⟨rfl, by go_grown⟩
  · have e : markedS m v = v - 1 := by simp [markedS, h]
    have e2 : IntKind.i64.wrap v = v := IntWalk.i64_in _ ⟨by omega, by omega⟩
    rw [e]
    have hv2 : 0 ≤ v ∧ v ≤ 100000 := by omega
    clear e hv
    go_enter Tryz.func190, Tryz.ntmps190
    go_wp2
    go_ret
    exact ⟨rfl, by go_grown⟩
theorem behind_any (C a : Nat) (m : Mp) (u : Int) (w : World) (hm : m.ok) (h : -1 ≤ u ∧ u < m.t) : Calls Tryz.prog 182 #[lineV C a m, .int .i64 u] w fun e w' => e = .returned (.int .i64 (behN m a u : Int)) ∧ Below w.heap.size w w' := by
  by_cases hu : u = -1
  · subst hu
    have e : ((behN m a (-1) : Nat) : Int) = a := by simp [behN]
    rw [e]
    clear e
    go_enter Tryz.func182, Tryz.ntmps182
    go_wp2
    go_ret
    exact ⟨rfl, by go_grown⟩
  · have e : behN m a u = nxN m u := by simp [behN, hu]
    have HN := Lib.hid fun W => next_any m u W hm (by omega)
    rw [e]
    clear e hm h
    go_enter Tryz.func182, Tryz.ntmps182
    go_wp2_with (go_at_call 30; refine (HN.out _).mono ?_; rintro e w2 ⟨rfl, b2⟩)
    go_ret
    exact ⟨rfl, ((Below.refl _ w).alloc (Nat.le_refl _) _).trans (b2.mono (by simp))⟩
end Go.Proofs.YtldofbkjjmnooaaGreat
/- Package pool: monitors and marks; the cells of monitors. -/
namespace Go.Proofs.YtldofbkjjmnooaaGreat
open Go.ChangeShapes Go.WideShapes Go.ChangeAt Go.RowKit
set_option linter.unusedVariables false
set_option maxRecDepth 100000
set_option linter.unusedSimpArgs false
/-- the monitor that a cell's value names -/
def pmS (m : Mp) (v : Int) : Int := if (m.n : Int) < v then -1 else v - 1
theorem pmS_range {m : Mp} {v : Int} (h : 0 ≤ v) : -1 ≤ pmS m v ∧ pmS m v < m.n := by
  unfold pmS
  split <;> omega
theorem pmS_of {m : Mp} {v : Int} (h : v ≤ m.n) : pmS m v = v - 1 := by
  unfold pmS
  rw [if_neg (by omega)]
theorem gen_any (m : Mp) (k : Int) (w : World) (hm : m.ok) (h : 0 ≤ k ∧ k ≤ 5000) : Calls Tryz.prog 112 #[mapV m, .int .i64 k] w fun e w' => e = .returned (.int .i64 (genN m k : Nat)) ∧ Below w.heap.size w w' := by
  have h1 := hm.t
  have h2 := hm.o
  rw [genN_eq h.1]
  have HT := Lib.hid fun W => mon_any m k W hm h
  clear hm
  go_enter Tryz.func112, Tryz.ntmps112
  go_wp2_with (go_at_call 128; refine (HT.out _).mono ?_; rintro e w2 ⟨rfl, b2⟩)
  go_ret
  exact ⟨rfl, ((Below.refl _ w).alloc (Nat.le_refl _) _).trans (b2.mono (by simp))⟩
theorem latch_any (m : Mp) (w : World) : Calls Tryz.prog 276 #[mapV m] w fun e w' => e = .returned (.int .i64 0) ∧ Below w.heap.size w w' := by
  go_enter Tryz.func276, Tryz.ntmps276
  go_wp2
  go_ret
  exact ⟨rfl, by go_grown⟩
abbrev stockV (C : Nat) (m : Mp) : Value := .agg #[cellsV C, .int .i64 (m.t : Int), .int .i64 (m.o : Int), .int .i64 (m.n : Int)]
abbrev stockCs (C : Nat) (m : Mp) : Array Value := #[cellsV C, .int .i64 (m.t : Int), .int .i64 (m.o : Int), .int .i64 (m.n : Int)]
theorem pmarked_any (C : Nat) (m : Mp) (v : Int) (w : World) (hm : m.ok) (hv : 0 ≤ v ∧ v < 18446744073709551616) : Calls Tryz.prog 195 #[stockV C m, .int .u64 v] w fun e w' => e = .returned (.int .i64 (pmS m v)) ∧ Below w.heap.size w w' := by
  have h1 := hm.n
  have e1 : IntKind.u64.wrap (m.n : Int) = m.n := by rw [IntKind.wrap_u64]; omega
  clear hm
  by_cases h : (m.n : Int) < v
  · have e : pmS m v = -1 := by simp [pmS, h]
    rw [e]
    clear e hv
    go_enter Tryz.func195, Tryz.ntmps195
    go_wp2
    go_ret
    exact ⟨rfl, by go_grown⟩
  · have e : pmS m v = v - 1 := by simp [pmS, h]
    have e2 : IntKind.i64.wrap v = v := IntWalk.i64_in _ ⟨by omega, by omega⟩
    rw [e]
    have hv2 : 0 ≤ v ∧ v ≤ 100000 := by omega
    clear e hv
    go_enter Tryz.func195, Tryz.ntmps195
    go_wp2
    go_ret
    exact ⟨rfl, by go_grown⟩
theorem popen_yes (cv : Value) (m : Mp) (t : Int) (n : Nat) (w : World) (hm : m.ok) (ht : 0 ≤ t) (hn : sizeN m ≤ n) (hL : ∀ W, Below w.heap.size w W → Calls Tryz.prog 101 #[cv] W fun e w' => e = .returned (.int .i64 (n : Int)) ∧ Below W.heap.size W w') :
    Calls Tryz.prog 115 #[cv, mapV m, .int .i64 t] w fun e w' => e = .returned (.bool true) ∧ Below w.heap.size w w' := by
  have HR := Lib.hid fun W => pright_yes m (n : Int) W hm
  rw [show decide ((sizeN m : Int) ≤ (n : Int)) = true by simp; omega] at HR
  have HL := Lib.hid hL
  clear hm hn hL
  go_enter Tryz.func115, Tryz.ntmps115
  go_upto_region 1 with fail
  generalize hW : (w.alloc _) = W
  have bW : Below w.heap.size w W := by rw [← hW]; go_grown
  have m0 : Blk W w.heap.size 24 #[.int .i64 (m.t : Int), .int .i64 (m.o : Int), .int .i64 (m.n : Int)] := by rw [← hW]; exact Blk.new w _ _
  clear hW
  have hml := m0.lt
  have SK := Lib.hid (show ∀ V, Below W.heap.size W V → V.cell? ⟨w.heap.size, 0, none⟩ = some (.int .i64 (m.t : Int)) ∧ V.cell? ⟨w.heap.size, 1, none⟩ = some (.int .i64 (m.o : Int)) ∧ V.cell? ⟨w.heap.size, 2, none⟩ = some (.int .i64 (m.n : Int)) from fun V hk => ⟨(m0.below hk hml).cell 0 _ rfl, (m0.below hk hml).cell 1 _ rfl, (m0.below hk hml).cell 2 _ rfl⟩)
  have bd := bdrewP W
  have HL1 := Lib.hid (HL.out W.drew (bW.trans (bd.mono bW.size)))
  clear m0 HL
  go_region_held3 (fun V => V.cell? ⟨w.heap.size, 0, none⟩ = some (.int .i64 (m.t : Int)) ∧ V.cell? ⟨w.heap.size, 1, none⟩ = some (.int .i64 (m.o : Int)) ∧ V.cell? ⟨w.heap.size, 2, none⟩ = some (.int .i64 (m.n : Int))) (first | exact SK.out _ b3 | exact SK.out _ b2 | exact SK.out _ bd) (first
    | (go_at_call 101; refine HL1.out.mono ?_; rintro e w2 ⟨rfl, hb2⟩; have b2 : Below W.heap.size W w2 := bd.trans hb2)
    | (go_at_call 113; refine (HR.out _).mono ?_; rintro e w3 ⟨rfl, hb3⟩; have b3 : Below W.heap.size W w3 := b2.trans (hb3.mono b2.size)))
  all_goals go_wp2
  all_goals go_ret
  all_goals exact ⟨rfl, bW.trans (b3.mono bW.size)⟩
end Go.Proofs.YtldofbkjjmnooaaGreat
