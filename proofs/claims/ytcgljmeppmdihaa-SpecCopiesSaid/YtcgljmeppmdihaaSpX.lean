/- Law 12's works (written by tools/gen_spknown.py). -/
import Derived.Test.YtcgljmeppmdihaaSpW
namespace Go.Proofs.Ytcgljmeppmdihaa
open Go.ChangeShapes Go.WideShapes Go.ChangeAt Go.RowKit
set_option linter.unusedVariables false
set_option maxRecDepth 100000
set_option linter.unusedSimpArgs false
/-- a row of one number, laid for a call -/
theorem seen_one {W : World} {A : Nat → Prop} {p : Pl} {s : SS} {y : Int} (h : SpecAt (W.alloc (.cells #[.int .i64 y] 3)) A p s) (hwf : WF s) {b : Ob} (hb : s.O[0]? = some b) (x : Int) (hl : sortI b.line = [x]) (hy : y = x) :
    Calls Try.prog 18 #[spV p, .int .i64 b.own, .int .i64 b.dep, .slice (some ⟨W.heap.size, 0, none⟩) 1 1] (W.alloc (.cells #[.int .i64 y] 3)) fun e w' => e = .returned (.bool true) ∧ Below (W.alloc (.cells #[.int .i64 y] 3)).heap.size (W.alloc (.cells #[.int .i64 y] 3)) w' := by
  subst hy
  refine seen_yes (Aw := fun k => k = W.heap.size) h hwf hb [y] _ ⟨_, 1, rfl, fun i z hz => ?_⟩ (fun k hk => by subst hk; simp) hl
  cases i with
  | zero =>
    simp at hz
    subst hz
    exact ⟨_, rfl, rfl, (Blk.new _ _ _).cell 0 _ rfl⟩
  | succ i => simp at hz
def wkL1 : List Ev := [⟨0, 0, 0, 0, 0, 0, 0, 0⟩, ⟨1, 0, 0, 0, 0, 0, 0, 0⟩, ⟨2, 0, 0, 0, 0, 0, 0, 0⟩, ⟨0, 1, 0, 0, 0, 0, 0, 0⟩]
def wkS2 : SS := ⟨[⟨0, 0, 0, 0, 1, false, 0, 0, 0⟩, ⟨0, 0, 0, 1, 0, false, 0, 0, 0⟩], [⟨0, 1, []⟩]⟩
theorem wkS2_is : takesS (newS 2 1) wkL1 = (wkS2, true) := by kernel_rfl
theorem wkT3 : takeS wkS2 ⟨1, 1, 0, 0, 0, 0, 0, 0⟩ = none := by kernel_rfl
def wkL4 : List Ev := [⟨0, 0, 0, 1, 0, 0, 0, 0⟩, ⟨1, 0, 0, 8, 0, 4, 0, 0⟩, ⟨2, 0, 0, 0, 0, 0, 4, 0⟩]
def wkS5 : SS := ⟨[⟨0, 0, 0, 0, 1, false, 0, 0, 0⟩, ⟨0, 0, 0, 0, 0, false, 0, 0, 0⟩], [⟨(-1), 0, []⟩]⟩
theorem wkS5_is : takesS (newS 2 1) wkL4 = (wkS5, true) := by kernel_rfl
def wkL6 : List Ev := [⟨0, 0, 0, 0, 0, 0, 0, 0⟩, ⟨1, 0, 0, 0, 0, 0, 0, 0⟩, ⟨2, 0, 0, 0, 0, 0, 0, 0⟩, ⟨0, 0, 1, 0, 0, 0, 0, 0⟩, ⟨1, 0, 0, 0, 0, 0, 0, 0⟩, ⟨2, 0, 1, 0, 0, 0, 0, 0⟩, ⟨0, 0, 2, 2, 0, 0, 0, 0⟩, ⟨1, 0, 0, 2, 0, 0, 0, 0⟩, ⟨0, 1, 0, 0, 0, 0, 0, 0⟩, ⟨1, 1, 0, 0, 0, 0, 0, 0⟩]
def wkS7 : SS := ⟨[⟨2, 0, 0, 2, 2, false, 2, 0, 0⟩, ⟨0, 0, 0, 5, 0, false, 0, 0, 0⟩], [⟨1, 1, [0]⟩]⟩
theorem wkS7_is : takesS (newS 2 1) wkL6 = (wkS7, true) := by kernel_rfl
set_option maxHeartbeats 8000000 in
theorem works12_any (w : World) : Calls Try.prog 5 #[] w fun e w' => e = .returned (.bool true) ∧ Below w.heap.size w w' := by
  have HN := Lib.hid (fun W => new_some 2 1 W (by omega) (by omega))
  go_enter Try.func5, Try.ntmps5
  go_wp2_with fail
  refine (HN.out w).mono ?_
  rintro e W1 ⟨pa, Aa, rfl, hS, hA, hb⟩
  have Ka := Lib.hid (KS.mk (w := w) hS (newS_wf 2 1 (by omega) (by omega)) hA hb)
  clear hS hA hb
  go_wp2_with fail
  refine (HN.out W1).mono ?_
  rintro e W2 ⟨pb, Ab, rfl, hS, hA, hb⟩
  have Kb := Lib.hid (KS.mk (w := w) hS (newS_wf 2 1 (by omega) (by omega)) (fun k hk => Nat.le_trans Ka.out.bl.size (hA k hk)) (Ka.out.bl.trans (hb.mono Ka.out.bl.size)))
  have Dba := Lib.hid (show ∀ k, Ab k → ¬ Aa k from fun k hk ha => by have := hA k hk; have := Ka.out.sp.lt k ha; omega)
  replace Ka := Lib.hid (Ka.out.below hb)
  clear hS hA hb
  go_wp2_with fail
  refine (HN.out W2).mono ?_
  rintro e W3 ⟨pc, Ac, rfl, hS, hA, hb⟩
  have Kc := Lib.hid (KS.mk (w := w) hS (newS_wf 2 1 (by omega) (by omega)) (fun k hk => Nat.le_trans Kb.out.bl.size (hA k hk)) (Kb.out.bl.trans (hb.mono Kb.out.bl.size)))
  have Dca := Lib.hid (show ∀ k, Ac k → ¬ Aa k from fun k hk ha => by have := hA k hk; have := Ka.out.sp.lt k ha; omega)
  have Dcb := Lib.hid (show ∀ k, Ac k → ¬ Ab k from fun k hk ha => by have := hA k hk; have := Kb.out.sp.lt k ha; omega)
  replace Ka := Lib.hid (Ka.out.below hb)
  replace Kb := Lib.hid (Kb.out.below hb)
  clear hS hA hb HN
  go_wp2_with (first | (go_at_call 15; refine (lcall_any _ _ _ _ _).mono ?_; rintro e Wz ⟨rfl, hb⟩; replace Ka := Lib.hid (Ka.out.below hb); replace Kb := Lib.hid (Kb.out.below hb); replace Kc := Lib.hid (Kc.out.below hb); clear hb) | (go_at_call 16; refine (lact_any _ _ _ _).mono ?_; rintro e Wz ⟨rfl, hb⟩; replace Ka := Lib.hid (Ka.out.below hb); replace Kb := Lib.hid (Kb.out.below hb); replace Kc := Lib.hid (Kc.out.below hb); clear hb) | (go_at_call 17; refine (lback_any _ _ _ _ _).mono ?_; rintro e Wz ⟨rfl, hb⟩; replace Ka := Lib.hid (Ka.out.below hb); replace Kb := Lib.hid (Kb.out.below hb); replace Kc := Lib.hid (Kc.out.below hb); clear hb))
  refine (takes_any (Ka.out.alloc _).sp Ka.out.wf wkL1 _ 0 _ (evs_lit wkL1 (Blk.new _ _ _) rfl) (fun k => Nat.lt_irrefl _ (Ka.out.sp.lt _ k)) (.inl (by simp)) (by decide)).mono ?_
  rintro e W1 hr
  replace Ka := Lib.hid (Ka.out.alloc (.cells (wkL1.flatMap evL).toArray 37))
  replace Kb := Lib.hid (Kb.out.alloc (.cells (wkL1.flatMap evL).toArray 37))
  replace Kc := Lib.hid (Kc.out.alloc (.cells (wkL1.flatMap evL).toArray 37))
  have KBb := Lib.hid (Kb.out.sp.lt)
  have KBc := Lib.hid (Kc.out.sp.lt)
  have KX := Ka
  obtain ⟨rfl, Aa, Ka, k1, a1⟩ := KS.run Ka.out hr wkS2_is
  replace Ka := Lib.hid Ka
  clear hr
  replace Kb := Lib.hid (KS.other Kb.out k1 (Dba.out) KX.out.lo)
  replace Kc := Lib.hid (KS.other Kc.out k1 (Dca.out) KX.out.lo)
  replace Dba := Lib.hid (fun k hb ha => (a1 k ha).elim (Dba.out k hb) (fun hge => Nat.lt_irrefl _ (Nat.lt_of_lt_of_le (KBb.out k hb) hge)))
  replace Dca := Lib.hid (fun k hb ha => (a1 k ha).elim (Dca.out k hb) (fun hge => Nat.lt_irrefl _ (Nat.lt_of_lt_of_le (KBc.out k hb) hge)))
  clear k1 a1 KX KBb KBc
  go_wp2_with (first | (go_at_call 15; refine (lcall_any _ _ _ _ _).mono ?_; rintro e Wz ⟨rfl, hb⟩; replace Ka := Lib.hid (Ka.out.below hb); replace Kb := Lib.hid (Kb.out.below hb); replace Kc := Lib.hid (Kc.out.below hb); clear hb) | (go_at_call 16; refine (lact_any _ _ _ _).mono ?_; rintro e Wz ⟨rfl, hb⟩; replace Ka := Lib.hid (Ka.out.below hb); replace Kb := Lib.hid (Kb.out.below hb); replace Kc := Lib.hid (Kc.out.below hb); clear hb) | (go_at_call 17; refine (lback_any _ _ _ _ _).mono ?_; rintro e Wz ⟨rfl, hb⟩; replace Ka := Lib.hid (Ka.out.below hb); replace Kb := Lib.hid (Kb.out.below hb); replace Kc := Lib.hid (Kc.out.below hb); clear hb))
  refine (take_any Ka.out.sp Ka.out.wf ⟨1, 1, 0, 0, 0, 0, 0, 0⟩).mono ?_
  rintro e W1 hr
  have KBb := Lib.hid (Kb.out.sp.lt)
  have KBc := Lib.hid (Kc.out.sp.lt)
  have KX := Ka
  obtain ⟨rfl, Aa, Ka, k1, a1⟩ := KS.hand Ka.out hr wkT3
  replace Ka := Lib.hid Ka
  change Hid (KS _ _ _ _ wkS2) at Ka
  clear hr
  replace Kb := Lib.hid (KS.other Kb.out k1 (Dba.out) KX.out.lo)
  replace Kc := Lib.hid (KS.other Kc.out k1 (Dca.out) KX.out.lo)
  replace Dba := Lib.hid (fun k hb ha => (a1 k ha).elim (Dba.out k hb) (fun hge => Nat.lt_irrefl _ (Nat.lt_of_lt_of_le (KBb.out k hb) hge)))
  replace Dca := Lib.hid (fun k hb ha => (a1 k ha).elim (Dca.out k hb) (fun hge => Nat.lt_irrefl _ (Nat.lt_of_lt_of_le (KBc.out k hb) hge)))
  clear k1 a1 KX KBb KBc
  clear Ka Dba Dca
  go_wp2_with (first | (go_at_call 15; refine (lcall_any _ _ _ _ _).mono ?_; rintro e Wz ⟨rfl, hb⟩; replace Kb := Lib.hid (Kb.out.below hb); replace Kc := Lib.hid (Kc.out.below hb); clear hb) | (go_at_call 16; refine (lact_any _ _ _ _).mono ?_; rintro e Wz ⟨rfl, hb⟩; replace Kb := Lib.hid (Kb.out.below hb); replace Kc := Lib.hid (Kc.out.below hb); clear hb) | (go_at_call 17; refine (lback_any _ _ _ _ _).mono ?_; rintro e Wz ⟨rfl, hb⟩; replace Kb := Lib.hid (Kb.out.below hb); replace Kc := Lib.hid (Kc.out.below hb); clear hb))
  refine (takes_any (Kb.out.alloc _).sp Kb.out.wf wkL4 _ 0 _ (evs_lit wkL4 (Blk.new _ _ _) rfl) (fun k => Nat.lt_irrefl _ (Kb.out.sp.lt _ k)) (.inl (by simp)) (by decide)).mono ?_
  rintro e W1 hr
  replace Kb := Lib.hid (Kb.out.alloc (.cells (wkL4.flatMap evL).toArray 37))
  replace Kc := Lib.hid (Kc.out.alloc (.cells (wkL4.flatMap evL).toArray 37))
  have KBc := Lib.hid (Kc.out.sp.lt)
  have KX := Kb
  obtain ⟨rfl, Ab, Kb, k1, a1⟩ := KS.run Kb.out hr wkS5_is
  replace Kb := Lib.hid Kb
  clear hr
  replace Kc := Lib.hid (KS.other Kc.out k1 (Dcb.out) KX.out.lo)
  replace Dcb := Lib.hid (fun k hb ha => (a1 k ha).elim (Dcb.out k hb) (fun hge => Nat.lt_irrefl _ (Nat.lt_of_lt_of_le (KBc.out k hb) hge)))
  clear k1 a1 KX KBc
  clear Kb Dcb
  go_wp2_with (first | (go_at_call 15; refine (lcall_any _ _ _ _ _).mono ?_; rintro e Wz ⟨rfl, hb⟩; replace Kc := Lib.hid (Kc.out.below hb); clear hb) | (go_at_call 16; refine (lact_any _ _ _ _).mono ?_; rintro e Wz ⟨rfl, hb⟩; replace Kc := Lib.hid (Kc.out.below hb); clear hb) | (go_at_call 17; refine (lback_any _ _ _ _ _).mono ?_; rintro e Wz ⟨rfl, hb⟩; replace Kc := Lib.hid (Kc.out.below hb); clear hb))
  refine (takes_any (Kc.out.alloc _).sp Kc.out.wf wkL6 _ 0 _ (evs_lit wkL6 (Blk.new _ _ _) rfl) (fun k => Nat.lt_irrefl _ (Kc.out.sp.lt _ k)) (.inl (by simp)) (by decide)).mono ?_
  rintro e W1 hr
  replace Kc := Lib.hid (Kc.out.alloc (.cells (wkL6.flatMap evL).toArray 37))
  have KX := Kc
  obtain ⟨rfl, Ac, Kc, k1, a1⟩ := KS.run Kc.out hr wkS7_is
  replace Kc := Lib.hid Kc
  clear hr
  clear k1 a1 KX
  go_wp2_with (first | (go_at_call 15; refine (lcall_any _ _ _ _ _).mono ?_; rintro e Wz ⟨rfl, hb⟩; replace Kc := Lib.hid (Kc.out.below hb); clear hb) | (go_at_call 16; refine (lact_any _ _ _ _).mono ?_; rintro e Wz ⟨rfl, hb⟩; replace Kc := Lib.hid (Kc.out.below hb); clear hb) | (go_at_call 17; refine (lback_any _ _ _ _ _).mono ?_; rintro e Wz ⟨rfl, hb⟩; replace Kc := Lib.hid (Kc.out.below hb); clear hb))
  refine (seen_one (y := 0) (Kc.out.alloc _).sp Kc.out.wf (b := ⟨1, 1, [0]⟩) rfl 0 (by simp [sortI]) rfl).mono ?_
  rintro e W1 ⟨rfl, hb⟩
  replace Kc := Lib.hid (Kc.out.alloc (.cells #[.int .i64 0] 3))
  replace Kc := Lib.hid (Kc.out.below hb)
  clear hb
  go_wp2_with fail
  go_ret
  exact ⟨rfl, Kc.out.bl⟩
end Go.Proofs.Ytcgljmeppmdihaa
