/- Package spec: where a walk of a handler stands. -/
import Derived.Test.YtcgljmeppmdihaaSpB
namespace Go.Proofs.Ytcgljmeppmdihaa
open Go.ChangeShapes Go.WideShapes Go.ChangeAt Go.RowKit
set_option linter.unusedVariables false
set_option maxRecDepth 100000
set_option linter.unusedSimpArgs false
def HandPost (w : World) (A : Nat → Prop) (p : Pl) (s : SS) (r : Option SS) (e : Ending) (w' : World) : Prop :=
  e = .returned (.bool r.isSome) ∧ ∃ A' : Nat → Prop, SpecAt w' A' p (r.getD s) ∧ Keep A w w' ∧ (∀ b, A' b → A b ∨ w.heap.size ≤ b) ∧ ∀ b, A b → A' b
theorem HandPost.yes {w w' : World} {A : Nat → Prop} {p : Pl} {s s' : SS} (h : SpecAt w' A p s') (hk : Keep A w w') : HandPost w A p s (some s') (.returned (.bool true)) w' :=
  ⟨rfl, A, h, hk, fun b hb => .inl hb, fun _ h => h⟩
theorem HandPost.no {w w' : World} {A : Nat → Prop} {p : Pl} {s : SS} (h : SpecAt w' A p s) (hk : Keep A w w') : HandPost w A p s none (.returned (.bool false)) w' :=
  ⟨rfl, A, h, hk, fun b hb => .inl hb, fun _ h => h⟩
theorem thr_lt {s : SS} {t : Nat} {x : Th} (h : s.T[t]? = some x) : t < s.T.length := (List.getElem?_eq_some_iff.1 h).1
theorem obj_lt {s : SS} {t : Nat} {x : Ob} (h : s.O[t]? = some x) : t < s.O.length := (List.getElem?_eq_some_iff.1 h).1
theorem evblk (w : World) (e : Ev) : Blk (w.alloc (.cells (evC e) 37)) w.heap.size 37 (evC e) := Blk.new _ _ _
/-- where a walk stands: the automaton, the event in its box, what was kept -/
structure Fr (w W : World) (A : Nat → Prop) (p : Pl) (s : SS) (bx : Nat) (e : Ev) : Prop where
  sp : SpecAt W A p s
  ev : Blk W bx 37 (evC e)
  kp : Keep A w W
  out : ¬ A bx
theorem Fr.boxed {w : World} {A : Nat → Prop} {p : Pl} {s : SS} (h : SpecAt w A p s) (e : Ev) : Fr w (w.alloc (.cells (evC e) 37)) A p s w.heap.size e :=
  ⟨h.alloc _, evblk w e, (Keep.refl A w).alloc _, fun ha => Nat.lt_irrefl _ (h.lt _ ha)⟩
theorem Fr.below {w W W1 : World} {A : Nat → Prop} {p : Pl} {s : SS} {bx : Nat} {e : Ev} (h : Fr w W A p s bx e) (hb : Below W.heap.size W W1) : Fr w W1 A p s bx e :=
  ⟨h.sp.below hb, h.ev.below hb h.ev.lt, h.kp.trans (Keep.ofBelow hb), h.out⟩
theorem Fr.drew {w W : World} {A : Nat → Prop} {p : Pl} {s : SS} {bx : Nat} {e : Ev} (h : Fr w W A p s bx e) : Fr w W.drew A p s bx e := h.below ⟨rfl, rfl, rfl, Nat.le_refl _, fun _ _ => rfl⟩
theorem Fr.drewN {w W : World} {A : Nat → Prop} {p : Pl} {s : SS} {bx : Nat} {e : Ev} (h : Fr w W A p s bx e) (n : Nat) : Fr w (W.drewN n) A p s bx e := h.below ⟨rfl, rfl, rfl, Nat.le_refl _, fun _ _ => rfl⟩
theorem Fr.step {w W W1 : World} {A : Nat → Prop} {p : Pl} {s s1 : SS} {bx : Nat} {e : Ev} (h : Fr w W A p s bx e) (h1 : SpecAt W1 A p s1) (hk : Keep A W W1) : Fr w W1 A p s1 bx e :=
  ⟨h1, h.ev.keep hk h.out, h.kp.trans hk, h.out⟩
theorem Fr.cells {w W : World} {A : Nat → Prop} {p : Pl} {s : SS} {bx : Nat} {e : Ev} (h : Fr w W A p s bx e) :
    (W.cell? ⟨p.P, 0, none⟩ = some (.slice (some ⟨p.T, 0, none⟩) s.T.length p.cT) ∧ W.cell? ⟨p.P, 1, none⟩ = some (.slice (some ⟨p.O, 0, none⟩) s.O.length p.cO)) ∧ EvAt W bx e := ⟨⟨h.sp.c0, h.sp.c1⟩, evAt h.ev⟩
theorem SpecAt.own2 {w : World} {A : Nat → Prop} {p : Pl} {s : SS} (h : SpecAt w A p s) {o : Nat} {b : Ob} (hb : s.O[o]? = some b) (a d : Int) : SpecAt ((w.setCell ⟨p.O, o * 3, none⟩ (.int .i64 a)).setCell ⟨p.O, o * 3 + 1, none⟩ (.int .i64 d)) A p (s.setO o { b with own := a, dep := d }) := by
  have h1 := h.setO hb (b' := { b with own := a }) 0 (.int .i64 a) (by omega) (fun _ => rfl) rfl
  have h2 := h1.setO (set_same hb) (b' := { b with own := a, dep := d }) 1 (.int .i64 d) (by omega) (fun _ => rfl) rfl
  have e : (s.setO o { b with own := a }).setO o { b with own := a, dep := d } = s.setO o { b with own := a, dep := d } := by simp [SS.setO]
  rw [e] at h2
  exact h2
theorem SpecAt.own2r {w : World} {A : Nat → Prop} {p : Pl} {s : SS} (h : SpecAt w A p s) {o : Nat} {b : Ob} (hb : s.O[o]? = some b) (a d : Int) : SpecAt ((w.setCell ⟨p.O, o * 3 + 1, none⟩ (.int .i64 d)).setCell ⟨p.O, o * 3, none⟩ (.int .i64 a)) A p (s.setO o { b with own := a, dep := d }) := by
  have h1 := h.setO hb (b' := { b with dep := d }) 1 (.int .i64 d) (by omega) (fun _ => rfl) rfl
  have h2 := h1.setO (set_same hb) (b' := { b with own := a, dep := d }) 0 (.int .i64 a) (by omega) (fun _ => rfl) rfl
  have e : (s.setO o { b with dep := d }).setO o { b with own := a, dep := d } = s.setO o { b with own := a, dep := d } := by simp [SS.setO]
  rw [e] at h2
  exact h2
theorem SpecAt.own1 {w : World} {A : Nat → Prop} {p : Pl} {s : SS} (h : SpecAt w A p s) {o : Nat} {b : Ob} {a : Int} (hb : s.O[o]? = some b) (d : Int) (ha : b.own = a) : SpecAt (w.setCell ⟨p.O, o * 3 + 1, none⟩ (.int .i64 d)) A p (s.setO o { b with own := a, dep := d }) := by
  subst ha
  exact h.setO hb (b' := { b with dep := d }) 1 (.int .i64 d) (by omega) (fun _ => rfl) rfl
theorem scell_keep {w w1 : World} {F : Nat → Prop} {p : Addr} {v : Value} (h : w.cell? p = some v) (hk : Keep F w w1) (hn : ¬ F p.block) : w1.cell? p = some v := by
  have hb : p.block < w.heap.size := by
    unfold World.cell? at h
    cases hb : w.heap[p.block]? with
    | none => rw [hb] at h; cases h
    | some y => exact (Array.getElem?_eq_some_iff.1 hb).1
  unfold World.cell? at h ⊢
  rw [hk.block p.block hb hn]
  exact h
end Go.Proofs.Ytcgljmeppmdihaa
