/- spec.Check; where a walk of a law over automatons stands. -/
import Derived.Test.YtcgljmeppmdihaaSpV
namespace Go.Proofs.Ytcgljmeppmdihaa
open Go.ChangeShapes Go.WideShapes Go.ChangeAt Go.RowKit
set_option linter.unusedVariables false
set_option maxRecDepth 100000
set_option linter.unusedSimpArgs false
theorem check_all (m n : Nat) (l : List Ev) (B off c : Nat) (w : World) (hm : 1 ≤ m ∧ m ≤ 32766) (hn : 1 ≤ n ∧ n ≤ 65536) (hE : EvsAt w B off l) (hB : B < w.heap.size) (hll : l.length ≤ 1000000) (hall : (takesS (newS m n) l).2 = true) :
    Calls Try.prog 12 #[.int .i64 (m : Int), .int .i64 (n : Int), .slice (some ⟨B, off, none⟩) l.length c] w fun r w' => r = .returned (.int .i64 (-1)) ∧ Below w.heap.size w w' := by
  have HNew := Lib.hid (new_some m n w hm hn)
  have HWF := Lib.hid (newS_wf m n hm.2 hn.2)
  have HE := Lib.hid hE
  have HAll := Lib.hid hall
  have hmf : ∀ (fn : Fn) (first cap : Array Value) (w : World), (Instr.makeFunc fn first cap).run Try.prog w = .ok (.func fn first cap) w := fun _ _ _ _ => rfl
  obtain ⟨ll, hl0⟩ : ∃ ll, ll = l.length := ⟨_, rfl⟩
  have HLL := Lib.hid hl0
  rw [← hl0]
  have HMax := Lib.hid hll
  have HBw := Lib.hid hB
  clear hm hn hE hall hl0 hll hB
  go_enter Try.func12, Try.ntmps12
  go_wp2_with fail
  refine HNew.out.mono ?_
  rintro e w1 ⟨p, A, rfl, hS, hA, hb⟩
  have HS := Lib.hid hS
  have HA := Lib.hid hA
  have HB1 := Lib.hid hb
  clear hS hA hb
  go_wp2_with fail
  have HI := Lib.hid (show Calls Try.prog 27 #[.slice (some ⟨B, off, none⟩) ll c, .func (.func 28) #[] #[ptrV w1.heap.size 0]] (w1.alloc (.cells #[spV p] 28)) (fun r w' => r = .returned (.int .i64 (-1)) ∧ Keep A (w1.alloc (.cells #[spV p] 28)) w') from by
    rw [HLL.out]
    refine idx_all (HS.out.alloc _) HWF.out l B off c w1.heap.size ((HE.out.keep (Keep.ofBelow (Q := fun _ => False) HB1.out) (fun h => h)).keep (Keep.ofBelow (Q := fun _ => False) ((Below.refl _ w1).alloc (Nat.le_refl _) _)) (fun h => h)) (fun k => ?_) ((Blk.new _ _ _).cell 0 _ rfl) (fun k => Nat.lt_irrefl _ (HS.out.lt _ k)) HMax.out HAll.out
    have := HA.out B k
    have := HBw.out
    omega)
  refine HI.out.mono ?_
  rintro r w2 ⟨rfl, hk2⟩
  have HK2 := Lib.hid hk2
  clear hk2
  go_wp2_with fail
  go_ret
  refine ⟨rfl, HB1.out.trans (Keep.below (Q := fun b => A b) (Keep.trans ((Keep.refl (fun b => A b) w1).alloc _) HK2.out) HB1.out.size (fun b _ hb => HA.out b hb))⟩
theorem check_none0 (e : Ev) (l : List Ev) (B off c k : Nat) (m n : Int) (w : World) (hm : m < 1 ∨ 32766 < m ∨ n < 1 ∨ 65536 < n) (hE : EvsAt w B off (e :: l)) (hk : k = l.length + 1) :
    Calls Try.prog 12 #[.int .i64 m, .int .i64 n, .slice (some ⟨B, off, none⟩) k c] w fun r w' => r = .returned (.int .i64 0) ∧ Below w.heap.size w w' := by
  subst hk
  have HNew := Lib.hid (new_none m n w hm)
  have HE := Lib.hid hE
  have hmf : ∀ (fn : Fn) (first cap : Array Value) (w : World), (Instr.makeFunc fn first cap).run Try.prog w = .ok (.func fn first cap) w := fun _ _ _ _ => rfl
  have HI := Lib.hid (idx_nil0 (w := w.alloc (.cells #[.pointer none] 28)) e l B off c w.heap.size (hE.keep (Keep.ofBelow (Q := fun _ => False) ((Below.refl _ w).alloc (Nat.le_refl _) _)) (fun h => h)) ((Blk.new _ _ _).cell 0 _ rfl))
  generalize l.length + 1 = n1 at *
  clear hm hE
  go_enter Try.func12, Try.ntmps12
  go_wp2_with fail
  refine HNew.out.mono ?_
  rintro e1 w1 ⟨rfl, rfl⟩
  go_wp2_with fail
  refine HI.out.mono ?_
  rintro r w2 ⟨rfl, hb2⟩
  have HB2 := Lib.hid hb2
  clear hb2
  go_wp2_with fail
  go_ret
  exact ⟨rfl, ((Below.refl _ w).alloc (Nat.le_refl _) _).trans (HB2.out.mono (by simp))⟩
theorem check_none1 (m n : Int) (w : World) (hm : m < 1 ∨ 32766 < m ∨ n < 1 ∨ 65536 < n) :
    Calls Try.prog 12 #[.int .i64 m, .int .i64 n, .slice none 0 0] w fun r w' => r = .returned (.int .i64 (-1)) ∧ Below w.heap.size w w' := by
  have HNew := Lib.hid (new_none m n w hm)
  have hmf : ∀ (fn : Fn) (first cap : Array Value) (w : World), (Instr.makeFunc fn first cap).run Try.prog w = .ok (.func fn first cap) w := fun _ _ _ _ => rfl
  clear hm
  go_enter Try.func12, Try.ntmps12
  go_wp2_with fail
  refine HNew.out.mono ?_
  rintro e1 w1 ⟨rfl, rfl⟩
  go_wp2_with fail
  refine (idx_none _ _).mono ?_
  rintro r w2 ⟨rfl, rfl⟩
  go_wp2_with fail
  go_ret
  exact ⟨rfl, (Below.refl _ w).alloc (Nat.le_refl _) _⟩
/-- an automaton of the call's own -/
structure KS (w W : World) (A : Nat → Prop) (p : Pl) (s : SS) : Prop where
  sp : SpecAt W A p s
  wf : WF s
  lo : ∀ b, A b → w.heap.size ≤ b
  bl : Below w.heap.size w W
theorem KS.below {w W W1 : World} {A : Nat → Prop} {p : Pl} {s : SS} (h : KS w W A p s) (hb : Below W.heap.size W W1) : KS w W1 A p s := ⟨h.sp.below hb, h.wf, h.lo, h.bl.trans (hb.mono h.bl.size)⟩
theorem KS.alloc {w W : World} {A : Nat → Prop} {p : Pl} {s : SS} (h : KS w W A p s) (o : Obj) : KS w (W.alloc o) A p s := h.below ((Below.refl _ _).alloc (Nat.le_refl _) o)
theorem KS.run {w W W1 : World} {A : Nat → Prop} {p : Pl} {s s1 : SS} {b : Bool} {l : List Ev} {v : Ending} (h : KS w W A p s) (hr : RunPost W A p (takesS s l) v W1) (he : takesS s l = (s1, b)) : v = .returned (.bool b) ∧ ∃ A1, KS w W1 A1 p s1 ∧ Keep A W W1 ∧ (∀ k, A1 k → A k ∨ W.heap.size ≤ k) := by
  have hw := takesS_wf l h.wf
  rw [he] at hr hw
  obtain ⟨h1, A1, h2, h3, h4, h5⟩ := hr
  exact ⟨h1, A1, ⟨h2, hw, fun k hk => (h4 k hk).elim (h.lo k) (fun h6 => Nat.le_trans h.bl.size h6), h.bl.trans (h3.below h.bl.size (fun k _ hk => h.lo k hk))⟩, h3, h4⟩
theorem KS.hand {w W W1 : World} {A : Nat → Prop} {p : Pl} {s : SS} {r : Option SS} {e : Ev} {v : Ending} (h : KS w W A p s) (hr : HandPost W A p s (takeS s e) v W1) (he : takeS s e = r) : v = .returned (.bool r.isSome) ∧ ∃ A1, KS w W1 A1 p (r.getD s) ∧ Keep A W W1 ∧ (∀ k, A1 k → A k ∨ W.heap.size ≤ k) := by
  have hw : WF (r.getD s) := by
    rw [← he]
    cases ht : takeS s e with
    | none => exact h.wf
    | some s2 => exact takeS_wf h.wf ht
  rw [he] at hr
  obtain ⟨h1, A1, h2, h3, h4, h5⟩ := hr
  exact ⟨h1, A1, ⟨h2, hw, fun k hk => (h4 k hk).elim (h.lo k) (fun h6 => Nat.le_trans h.bl.size h6), h.bl.trans (h3.below h.bl.size (fun k _ hk => h.lo k hk))⟩, h3, h4⟩
/-- another automaton steps -/
theorem KS.other {w W W1 : World} {A C : Nat → Prop} {p : Pl} {s : SS} (h : KS w W A p s) (hk : Keep C W W1) (hd : ∀ k, A k → ¬ C k) (hC : ∀ k, C k → w.heap.size ≤ k) : KS w W1 A p s :=
  ⟨h.sp.keep hk hd, h.wf, h.lo, h.bl.trans (hk.below h.bl.size (fun k _ hk2 => hC k hk2))⟩
end Go.Proofs.Ytcgljmeppmdihaa
