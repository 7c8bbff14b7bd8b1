/- The document's automaton: where a walk stands, what a handler gives (written by tools/gen_rsC.py). -/
import Derived.Test.YtcgljmeppmdihaaRsB
import Derived.Test.YtcgljmeppmdihaaSpC
namespace Go.Proofs.Ytcgljmeppmdihaa
open Go.ChangeShapes Go.WideShapes Go.ChangeAt Go.RowKit
set_option linter.unusedVariables false
set_option maxRecDepth 100000
set_option linter.unusedSimpArgs false
/-- where a walk stands: the automaton, the event in its box, what was kept -/
structure RFr (w W : World) (p : RPl) (s : RS) (bx : Nat) (e : Ev) : Prop where
  rs : RsAt W p s
  ev : Blk W bx 37 (evC e)
  kp : Keep (rB p) w W
  out : ¬ rB p bx
theorem RFr.boxed {w : World} {p : RPl} {s : RS} (h : RsAt w p s) (e : Ev) : RFr w (w.alloc (.cells (evC e) 37)) p s w.heap.size e :=
  ⟨h.alloc _, evblk w e, (Keep.refl _ w).alloc _, fun ha => Nat.lt_irrefl _ (h.lt ha)⟩
theorem RFr.below {w W W1 : World} {p : RPl} {s : RS} {bx : Nat} {e : Ev} (h : RFr w W p s bx e) (hb : Below W.heap.size W W1) : RFr w W1 p s bx e :=
  ⟨h.rs.below hb, h.ev.below hb h.ev.lt, h.kp.trans (Keep.ofBelow hb), h.out⟩
theorem RFr.drew {w W : World} {p : RPl} {s : RS} {bx : Nat} {e : Ev} (h : RFr w W p s bx e) : RFr w W.drew p s bx e := h.below ⟨rfl, rfl, rfl, Nat.le_refl _, fun _ _ => rfl⟩
theorem RFr.drewN {w W : World} {p : RPl} {s : RS} {bx : Nat} {e : Ev} (h : RFr w W p s bx e) (n : Nat) : RFr w (W.drewN n) p s bx e := h.below ⟨rfl, rfl, rfl, Nat.le_refl _, fun _ _ => rfl⟩
theorem RFr.step {w W W1 : World} {p : RPl} {s s1 : RS} {bx : Nat} {e : Ev} (h : RFr w W p s bx e) (h1 : RsAt W1 p s1) (hk : Keep (rB p) W W1) : RFr w W1 p s1 bx e := ⟨h1, h.ev.keep hk h.out, h.kp.trans hk, h.out⟩
theorem RFr.cells {w W : World} {p : RPl} {s : RS} {bx : Nat} {e : Ev} (h : RFr w W p s bx e) : RCells W p s ∧ EvAt W bx e := ⟨h.rs.c, evAt h.ev⟩
/-- a thread's field is stored -/
theorem RFr.mod {w W : World} {p : RPl} {s : RS} {bx : Nat} {e : Ev} (h : RFr w W p s bx e) {t : Nat} {x : RTh} (hx : s.T[t]? = some x) (j : Nat) (v : Value) (f : RTh → RTh) (hj : j < 11) (hf : rthC (f x) = (rthC x).set j v) : RFr w (W.setCell ⟨p.T, t * 11 + j, none⟩ v) p (s.mod t f) bx e :=
  h.step (h.rs.mod hx j v f hj hf) ((Keep.refl (rB p) W).set (fun _ => .inr (.inr (.inr rfl))) _)
theorem RFr.setW {w W : World} {p : RPl} {s : RS} {bx : Nat} {e : Ev} (h : RFr w W p s bx e) {o : Nat} {x : Int} (hx : s.W[o]? = some x) (v : Int) : RFr w (W.setCell ⟨p.W, o, none⟩ (.int .i64 v)) p (s.setW o v) bx e :=
  h.step (h.rs.setW hx v) ((Keep.refl (rB p) W).set (fun _ => .inr (.inl rfl)) _)
theorem RFr.setD {w W : World} {p : RPl} {s : RS} {bx : Nat} {e : Ev} (h : RFr w W p s bx e) {o : Nat} {x : Int} (hx : s.D[o]? = some x) (v : Int) : RFr w (W.setCell ⟨p.D, o, none⟩ (.int .i64 v)) p (s.setD o v) bx e :=
  h.step (h.rs.setD hx v) ((Keep.refl (rB p) W).set (fun _ => .inr (.inr (.inl rfl))) _)
theorem RFr.setRel {w W : World} {p : RPl} {s : RS} {bx : Nat} {e : Ev} (h : RFr w W p s bx e) (v : Int) : RFr w (W.setCell ⟨p.P, 3, none⟩ (.int .i64 v)) p { s with rel := v } bx e :=
  h.step (h.rs.setRel v) ((Keep.refl (rB p) W).set (fun _ => .inl rfl) _)
/-- what a handler of the document's gives -/
def RHand (w : World) (p : RPl) (s : RS) (Q : RS → Prop) (e : Ending) (w' : World) : Prop :=
  Keep (rB p) w w' ∧ ((∃ r, e = .returned (.bool true) ∧ Q r ∧ RsAt w' p r) ∨ (e = .returned (.bool false) ∧ RsAt w' p s))
theorem RHand.no {w w' : World} {p : RPl} {s : RS} {Q : RS → Prop} (h : RsAt w' p s) (hk : Keep (rB p) w w') : RHand w p s Q (.returned (.bool false)) w' := ⟨hk, .inr ⟨rfl, h⟩⟩
theorem RHand.yes {w w' : World} {p : RPl} {s r : RS} {Q : RS → Prop} (h : RsAt w' p r) (hk : Keep (rB p) w w') (hq : Q r) : RHand w p s Q (.returned (.bool true)) w' := ⟨hk, .inl ⟨r, rfl, hq, h⟩⟩
theorem RsAt.fr {w : World} {p : RPl} {s : RS} (h : RsAt w p s) (k : Nat) : w.frozen? ⟨p.T, k, none⟩ = false := h.th.free k
/-- a thread behind a change of one thread's progress -/
theorem mod_op {s : RS} {t u : Nat} {x z : RTh} (hx : s.T[t]? = some x) (hz : s.T[u]? = some z) (f : RTh → RTh) (hf : ∀ y, (f y).op = y.op) : ∃ x1, (s.mod u f).T[t]? = some x1 ∧ x1.op = x.op := by
  by_cases e : t = u
  · subst e
    rw [hx] at hz
    obtain rfl := Option.some.inj hz
    exact ⟨f x, mod_same hx, hf x⟩
  · exact ⟨x, (mod_other e).trans hx, rfl⟩
end Go.Proofs.Ytcgljmeppmdihaa
