/- SpecKnown (written by tools/gen_spknown.py). -/
import Derived.Test.YtjfgkdgcihcmhaaSpX
namespace Go.Proofs.Ytjfgkdgcihcmhaa
open Go.ChangeShapes Go.WideShapes Go.ChangeAt Go.RowKit
set_option linter.unusedVariables false
set_option maxRecDepth 100000
set_option linter.unusedSimpArgs false
theorem view_fld (x y : Int) (v : Value) : ∀ W, (Instr.field 40 (viewV x y v) 0).run Try.prog W = .ok (.int .i64 x) W := by
  intro W
  kernel_rfl
/-- a row of events that stands beside an automaton -/
structure KIn (W : World) (A : Nat → Prop) (B : Nat) (l : List Ev) : Prop where
  ev : EvsAt W B 0 l
  lt : B < W.heap.size
  out : ¬ A B
theorem KIn.new {W : World} {A : Nat → Prop} {p : Pl} {s : SS} (h : SpecAt W A p s) (l : List Ev) : KIn (W.alloc (.cells (l.flatMap evL).toArray 37)) A W.heap.size l :=
  ⟨evs_lit l (Blk.new _ _ _) rfl, by simp, fun k => Nat.lt_irrefl _ (h.lt _ k)⟩
theorem KIn.below {W W1 : World} {A : Nat → Prop} {B : Nat} {l : List Ev} (h : KIn W A B l) (hb : Below W.heap.size W W1) : KIn W1 A B l :=
  ⟨h.ev.keep (Keep.ofBelow (Q := fun _ => False) hb) (fun h => h), Nat.lt_of_lt_of_le h.lt hb.size, h.out⟩
theorem KIn.alloc {W : World} {A : Nat → Prop} {B : Nat} {l : List Ev} (h : KIn W A B l) (o : Obj) : KIn (W.alloc o) A B l := h.below ((Below.refl _ _).alloc (Nat.le_refl _) o)
theorem KIn.run {W W1 : World} {A A1 : Nat → Prop} {B : Nat} {l : List Ev} (h : KIn W A B l) (hk : Keep A W W1) (ha : ∀ k, A1 k → A k ∨ W.heap.size ≤ k) : KIn W1 A1 B l :=
  ⟨h.ev.keep hk h.out, Nat.lt_of_lt_of_le h.lt hk.size, fun k => (ha B k).elim h.out (fun h2 => Nat.lt_irrefl _ (Nat.lt_of_lt_of_le h.lt h2))⟩
def knS1 : SS := ⟨[⟨0, 0, 0, 0, 1, false, 0, 0, 0⟩, ⟨0, 0, 0, 0, 0, false, 0, 0, 0⟩], [⟨0, 1, []⟩]⟩
theorem knS1_is : takesS (newS 2 1) [⟨0, 0, 0, 0, 0, 0, 0, 0⟩, ⟨1, 0, 0, 0, 0, 0, 0, 0⟩, ⟨2, 0, 0, 0, 0, 0, 0, 0⟩] = (knS1, true) := by kernel_rfl
def knL2 : List Ev := [⟨0, 1, 0, 6, 0, 0, 0, 0⟩, ⟨1, 1, 0, 6, 0, 0, 0, 0⟩]
def knS3 : SS := ⟨[⟨0, 0, 0, 0, 1, true, 0, 0, 0⟩, ⟨6, 0, 0, 5, 0, false, 0, 0, 0⟩], [⟨0, 1, []⟩]⟩
theorem knS3_is : takesS knS1 knL2 = (knS3, true) := by kernel_rfl
def knS4 : SS := ⟨[⟨0, 0, 0, 0, 1, true, 0, 0, 0⟩, ⟨0, 0, 0, 0, 1, false, 0, 0, 0⟩], [⟨0, 1, []⟩]⟩
theorem knT5 : takeS knS3 ⟨2, 1, 0, 0, 0, 0, 0, 0⟩ = some knS4 := by kernel_rfl
def knL6 : List Ev := [⟨0, 0, 1, 2, 0, 0, 0, 0⟩, ⟨1, 0, 0, 7, 0, 0, 0, 0⟩]
def knS7 : SS := ⟨[⟨2, 0, 0, 5, 1, false, 0, 0, 2⟩, ⟨0, 0, 0, 0, 1, false, 0, 0, 0⟩], [⟨0, 1, []⟩]⟩
theorem knS7_is : takesS knS4 knL6 = (knS7, true) := by kernel_rfl
def knS8 : SS := ⟨[⟨0, 0, 0, 0, 2, false, 0, 0, 0⟩, ⟨0, 0, 0, 0, 1, false, 0, 0, 0⟩], [⟨0, 1, []⟩]⟩
theorem knT9 : takeS knS7 ⟨2, 0, 1, 0, 0, 0, 0, 2⟩ = some knS8 := by kernel_rfl
def knL10 : List Ev := [⟨0, 0, 2, 3, 0, 0, 0, 0⟩, ⟨1, 0, 0, 2, 0, 0, 0, 0⟩]
def knS11 : SS := ⟨[⟨3, 0, 0, 2, 2, false, 1, 0, 0⟩, ⟨0, 0, 0, 0, 1, false, 0, 0, 0⟩], [⟨(-1), 0, [0]⟩]⟩
theorem knS11_is : takesS knS8 knL10 = (knS11, true) := by kernel_rfl
theorem knT12 : takeS knS11 ⟨1, 0, 0, 4, 0, 2, 0, 0⟩ = none := by kernel_rfl
theorem knT13 : takeS knS11 ⟨1, 0, 0, 7, 0, 0, 0, 0⟩ = none := by kernel_rfl
def knL14 : List Ev := [⟨1, 0, 0, 4, 0, 1, 0, 0⟩]
def knS15 : SS := ⟨[⟨3, 0, 0, 4, 2, false, 1, 0, 1⟩, ⟨0, 0, 0, 0, 1, false, 0, 0, 0⟩], [⟨(-1), 0, []⟩]⟩
theorem knS15_is : takesS knS11 knL14 = (knS15, true) := by kernel_rfl
theorem knT16 : takeS knS15 ⟨2, 0, 2, 0, 0, 0, 0, 1⟩ = none := by kernel_rfl
def knL17 : List Ev := [⟨1, 0, 0, 5, 0, 0, 0, 0⟩, ⟨2, 0, 2, 0, 0, 0, 0, 1⟩]
def knS18 : SS := ⟨[⟨0, 0, 0, 0, 3, false, 0, 0, 0⟩, ⟨0, 0, 0, 0, 1, false, 0, 0, 0⟩], [⟨0, 1, []⟩]⟩
theorem knS18_is : takesS knS15 knL17 = (knS18, true) := by kernel_rfl
def knL19 : List Ev := [⟨0, 0, 3, 2, 0, 0, 0, 0⟩, ⟨1, 0, 0, 2, 0, 0, 0, 0⟩, ⟨0, 1, 1, 6, 0, 0, 0, 0⟩, ⟨1, 1, 0, 6, 0, 0, 0, 0⟩, ⟨2, 1, 1, 0, 0, 0, 0, 0⟩]
def knS20 : SS := ⟨[⟨2, 0, 0, 2, 3, true, 1, 0, 0⟩, ⟨0, 0, 0, 0, 2, false, 0, 0, 0⟩], [⟨(-1), 0, [0]⟩]⟩
theorem knS20_is : takesS knS18 knL19 = (knS20, true) := by kernel_rfl
theorem knT21 : takeS knS20 ⟨1, 0, 0, 4, 0, 1, 0, 0⟩ = none := by kernel_rfl
def knL22 : List Ev := [⟨1, 0, 0, 7, 0, 0, 0, 0⟩]
def knS23 : SS := ⟨[⟨2, 0, 0, 3, 3, false, 1, 0, 0⟩, ⟨0, 0, 0, 0, 2, false, 0, 0, 0⟩], [⟨(-1), 0, [0]⟩]⟩
theorem knS23_is : takesS knS20 knL22 = (knS23, true) := by kernel_rfl
theorem knT24 : takeS knS23 ⟨1, 0, 0, 4, 0, 3, 0, 0⟩ = none := by kernel_rfl
def knL25 : List Ev := [⟨1, 0, 0, 4, 0, 2, 0, 0⟩, ⟨1, 0, 0, 5, 0, 0, 0, 0⟩, ⟨2, 0, 3, 0, 0, 0, 0, 2⟩]
def knS26 : SS := ⟨[⟨0, 0, 0, 0, 4, false, 0, 0, 0⟩, ⟨0, 0, 0, 0, 2, false, 0, 0, 0⟩], [⟨0, 1, []⟩]⟩
theorem knS26_is : takesS knS23 knL25 = (knS26, true) := by kernel_rfl
def knL27 : List Ev := [⟨0, 0, 4, 99, 0, 0, 0, 0⟩, ⟨2, 0, 4, 0, 0, 0, 2, 0⟩, ⟨0, 0, 5, 6, 0, 2, 0, 0⟩, ⟨2, 0, 5, 0, 0, 0, 2, 0⟩, ⟨0, 0, 6, 8, 0, 0, 0, 0⟩, ⟨2, 0, 6, 0, 0, 0, 0, 0⟩, ⟨0, 0, 7, 8, 0, 0, 0, 0⟩, ⟨1, 0, 0, 10, 0, 0, 0, 0⟩, ⟨2, 0, 7, 0, 0, 0, 0, 0⟩, ⟨0, 0, 8, 7, 0, 0, 0, 0⟩, ⟨1, 0, 0, 9, 0, 1, 0, 0⟩, ⟨2, 0, 8, 0, 0, 0, 0, 1⟩, ⟨0, 0, 9, 0, 0, 0, 0, 0⟩, ⟨1, 0, 0, 8, 0, 5, 0, 0⟩, ⟨2, 0, 9, 0, 0, 0, 5, 0⟩]
def knS28 : SS := ⟨[⟨0, 0, 0, 0, 10, false, 0, 0, 0⟩, ⟨0, 0, 0, 0, 2, false, 0, 0, 0⟩], [⟨0, 1, []⟩]⟩
theorem knS28_is : takesS knS26 knL27 = (knS28, true) := by kernel_rfl
set_option maxHeartbeats 40000000 in
theorem known12_any (w : World) : Calls Try.prog 6 #[] w fun e w' => e = .returned (.bool true) ∧ Below w.heap.size w w' := by
  have HN := Lib.hid (fun W => new_some 2 1 W (by omega) (by omega))
  go_enter Try.func6, Try.ntmps6
  go_wp2_with fail
  refine (HN.out w).mono ?_
  rintro e W1 ⟨ps, As, rfl, hS, hA, hb⟩
  have Ks := Lib.hid (KS.mk (w := w) hS (newS_wf 2 1 (by omega) (by omega)) hA hb)
  clear hS hA hb HN
  go_wp2_with (first | (go_at_call 14; refine (lcall_any _ _ _ _ _).mono ?_; rintro e Wz ⟨rfl, hb⟩; replace Ks := Lib.hid (Ks.out.below hb); clear hb) | (go_at_call 15; refine (lact_any _ _ _ _).mono ?_; rintro e Wz ⟨rfl, hb⟩; replace Ks := Lib.hid (Ks.out.below hb); clear hb) | (go_at_call 16; refine (lback_any _ _ _ _ _).mono ?_; rintro e Wz ⟨rfl, hb⟩; replace Ks := Lib.hid (Ks.out.below hb); clear hb))
  have KI := Lib.hid (KIn.new Ks.out.sp [⟨0, 0, 0, 0, 0, 0, 0, 0⟩, ⟨1, 0, 0, 0, 0, 0, 0, 0⟩, ⟨2, 0, 0, 0, 0, 0, 0, 0⟩])
  replace Ks := Lib.hid (Ks.out.alloc (.cells (([⟨0, 0, 0, 0, 0, 0, 0, 0⟩, ⟨1, 0, 0, 0, 0, 0, 0, 0⟩, ⟨2, 0, 0, 0, 0, 0, 0, 0⟩] : List Ev).flatMap evL).toArray 37))
  refine (takes_any Ks.out.sp Ks.out.wf [⟨0, 0, 0, 0, 0, 0, 0, 0⟩, ⟨1, 0, 0, 0, 0, 0, 0, 0⟩, ⟨2, 0, 0, 0, 0, 0, 0, 0⟩] _ 0 _ KI.out.ev KI.out.out (.inl KI.out.lt) (by decide)).mono ?_
  rintro e W1 hr
  have KX := Ks
  obtain ⟨rfl, As, Ks, k1, a1⟩ := KS.run Ks.out hr knS1_is
  replace Ks := Lib.hid Ks
  clear hr
  replace KI := Lib.hid (KI.out.run k1 a1)
  clear k1 a1 KX
  go_wp2_with (first | (go_at_call 14; refine (lcall_any _ _ _ _ _).mono ?_; rintro e Wz ⟨rfl, hb⟩; replace Ks := Lib.hid (Ks.out.below hb); replace KI := Lib.hid (KI.out.below hb); clear hb) | (go_at_call 15; refine (lact_any _ _ _ _).mono ?_; rintro e Wz ⟨rfl, hb⟩; replace Ks := Lib.hid (Ks.out.below hb); replace KI := Lib.hid (KI.out.below hb); clear hb) | (go_at_call 16; refine (lback_any _ _ _ _ _).mono ?_; rintro e Wz ⟨rfl, hb⟩; replace Ks := Lib.hid (Ks.out.below hb); replace KI := Lib.hid (KI.out.below hb); clear hb))
  refine (takes_any (Ks.out.alloc _).sp Ks.out.wf knL2 _ 0 _ (evs_lit knL2 (Blk.new _ _ _) rfl) (fun k => Nat.lt_irrefl _ (Ks.out.sp.lt _ k)) (.inl (by simp)) (by decide)).mono ?_
  rintro e W1 hr
  replace Ks := Lib.hid (Ks.out.alloc (.cells (knL2.flatMap evL).toArray 37))
  replace KI := Lib.hid (KI.out.alloc (.cells (knL2.flatMap evL).toArray 37))
  have KX := Ks
  obtain ⟨rfl, As, Ks, k1, a1⟩ := KS.run Ks.out hr knS3_is
  replace Ks := Lib.hid Ks
  clear hr
  replace KI := Lib.hid (KI.out.run k1 a1)
  clear k1 a1 KX
  go_wp2_with (first | (go_at_call 14; refine (lcall_any _ _ _ _ _).mono ?_; rintro e Wz ⟨rfl, hb⟩; replace Ks := Lib.hid (Ks.out.below hb); replace KI := Lib.hid (KI.out.below hb); clear hb) | (go_at_call 15; refine (lact_any _ _ _ _).mono ?_; rintro e Wz ⟨rfl, hb⟩; replace Ks := Lib.hid (Ks.out.below hb); replace KI := Lib.hid (KI.out.below hb); clear hb) | (go_at_call 16; refine (lback_any _ _ _ _ _).mono ?_; rintro e Wz ⟨rfl, hb⟩; replace Ks := Lib.hid (Ks.out.below hb); replace KI := Lib.hid (KI.out.below hb); clear hb))
  refine (flag_yes Ks.out.sp (t := 0) (x := ⟨0, 0, 0, 0, 1, true, 0, 0, 0⟩) rfl).mono ?_
  rintro e W1 ⟨rfl, rfl⟩
  go_wp2_with (first | (go_at_call 14; refine (lcall_any _ _ _ _ _).mono ?_; rintro e Wz ⟨rfl, hb⟩; replace Ks := Lib.hid (Ks.out.below hb); replace KI := Lib.hid (KI.out.below hb); clear hb) | (go_at_call 15; refine (lact_any _ _ _ _).mono ?_; rintro e Wz ⟨rfl, hb⟩; replace Ks := Lib.hid (Ks.out.below hb); replace KI := Lib.hid (KI.out.below hb); clear hb) | (go_at_call 16; refine (lback_any _ _ _ _ _).mono ?_; rintro e Wz ⟨rfl, hb⟩; replace Ks := Lib.hid (Ks.out.below hb); replace KI := Lib.hid (KI.out.below hb); clear hb))
  refine (take_any Ks.out.sp Ks.out.wf ⟨2, 1, 0, 0, 0, 0, 0, 0⟩).mono ?_
  rintro e W1 hr
  have KX := Ks
  obtain ⟨rfl, As, Ks, k1, a1⟩ := KS.hand Ks.out hr knT5
  replace Ks := Lib.hid Ks
  change Hid (KS _ _ _ _ knS4) at Ks
  clear hr
  replace KI := Lib.hid (KI.out.run k1 a1)
  clear k1 a1 KX
  go_wp2_with (first | (go_at_call 14; refine (lcall_any _ _ _ _ _).mono ?_; rintro e Wz ⟨rfl, hb⟩; replace Ks := Lib.hid (Ks.out.below hb); replace KI := Lib.hid (KI.out.below hb); clear hb) | (go_at_call 15; refine (lact_any _ _ _ _).mono ?_; rintro e Wz ⟨rfl, hb⟩; replace Ks := Lib.hid (Ks.out.below hb); replace KI := Lib.hid (KI.out.below hb); clear hb) | (go_at_call 16; refine (lback_any _ _ _ _ _).mono ?_; rintro e Wz ⟨rfl, hb⟩; replace Ks := Lib.hid (Ks.out.below hb); replace KI := Lib.hid (KI.out.below hb); clear hb))
  refine (takes_any (Ks.out.alloc _).sp Ks.out.wf knL6 _ 0 _ (evs_lit knL6 (Blk.new _ _ _) rfl) (fun k => Nat.lt_irrefl _ (Ks.out.sp.lt _ k)) (.inl (by simp)) (by decide)).mono ?_
  rintro e W1 hr
  replace Ks := Lib.hid (Ks.out.alloc (.cells (knL6.flatMap evL).toArray 37))
  replace KI := Lib.hid (KI.out.alloc (.cells (knL6.flatMap evL).toArray 37))
  have KX := Ks
  obtain ⟨rfl, As, Ks, k1, a1⟩ := KS.run Ks.out hr knS7_is
  replace Ks := Lib.hid Ks
  clear hr
  replace KI := Lib.hid (KI.out.run k1 a1)
  clear k1 a1 KX
  go_wp2_with (first | (go_at_call 14; refine (lcall_any _ _ _ _ _).mono ?_; rintro e Wz ⟨rfl, hb⟩; replace Ks := Lib.hid (Ks.out.below hb); replace KI := Lib.hid (KI.out.below hb); clear hb) | (go_at_call 15; refine (lact_any _ _ _ _).mono ?_; rintro e Wz ⟨rfl, hb⟩; replace Ks := Lib.hid (Ks.out.below hb); replace KI := Lib.hid (KI.out.below hb); clear hb) | (go_at_call 16; refine (lback_any _ _ _ _ _).mono ?_; rintro e Wz ⟨rfl, hb⟩; replace Ks := Lib.hid (Ks.out.below hb); replace KI := Lib.hid (KI.out.below hb); clear hb))
  refine (flag_yes Ks.out.sp (t := 0) (x := ⟨2, 0, 0, 5, 1, false, 0, 0, 2⟩) rfl).mono ?_
  rintro e W1 ⟨rfl, rfl⟩
  go_wp2_with (first | (go_at_call 14; refine (lcall_any _ _ _ _ _).mono ?_; rintro e Wz ⟨rfl, hb⟩; replace Ks := Lib.hid (Ks.out.below hb); replace KI := Lib.hid (KI.out.below hb); clear hb) | (go_at_call 15; refine (lact_any _ _ _ _).mono ?_; rintro e Wz ⟨rfl, hb⟩; replace Ks := Lib.hid (Ks.out.below hb); replace KI := Lib.hid (KI.out.below hb); clear hb) | (go_at_call 16; refine (lback_any _ _ _ _ _).mono ?_; rintro e Wz ⟨rfl, hb⟩; replace Ks := Lib.hid (Ks.out.below hb); replace KI := Lib.hid (KI.out.below hb); clear hb))
  refine (take_any Ks.out.sp Ks.out.wf ⟨2, 0, 1, 0, 0, 0, 0, 2⟩).mono ?_
  rintro e W1 hr
  have KX := Ks
  obtain ⟨rfl, As, Ks, k1, a1⟩ := KS.hand Ks.out hr knT9
  replace Ks := Lib.hid Ks
  change Hid (KS _ _ _ _ knS8) at Ks
  clear hr
  replace KI := Lib.hid (KI.out.run k1 a1)
  clear k1 a1 KX
  go_wp2_with (first | (go_at_call 14; refine (lcall_any _ _ _ _ _).mono ?_; rintro e Wz ⟨rfl, hb⟩; replace Ks := Lib.hid (Ks.out.below hb); replace KI := Lib.hid (KI.out.below hb); clear hb) | (go_at_call 15; refine (lact_any _ _ _ _).mono ?_; rintro e Wz ⟨rfl, hb⟩; replace Ks := Lib.hid (Ks.out.below hb); replace KI := Lib.hid (KI.out.below hb); clear hb) | (go_at_call 16; refine (lback_any _ _ _ _ _).mono ?_; rintro e Wz ⟨rfl, hb⟩; replace Ks := Lib.hid (Ks.out.below hb); replace KI := Lib.hid (KI.out.below hb); clear hb))
  refine (seen_yes (Aw := fun _ => False) Ks.out.sp Ks.out.wf (b := ⟨0, 1, []⟩) rfl [] _ ⟨none, 0, rfl, fun i x hx => by simp at hx⟩ (fun k hk => hk.elim) (by simp [sortI])).mono ?_
  rintro e W1 ⟨rfl, hb⟩
  replace Ks := Lib.hid (Ks.out.below hb)
  replace KI := Lib.hid (KI.out.below hb)
  clear hb
  go_wp2_with (first | (go_at_call 14; refine (lcall_any _ _ _ _ _).mono ?_; rintro e Wz ⟨rfl, hb⟩; replace Ks := Lib.hid (Ks.out.below hb); replace KI := Lib.hid (KI.out.below hb); clear hb) | (go_at_call 15; refine (lact_any _ _ _ _).mono ?_; rintro e Wz ⟨rfl, hb⟩; replace Ks := Lib.hid (Ks.out.below hb); replace KI := Lib.hid (KI.out.below hb); clear hb) | (go_at_call 16; refine (lback_any _ _ _ _ _).mono ?_; rintro e Wz ⟨rfl, hb⟩; replace Ks := Lib.hid (Ks.out.below hb); replace KI := Lib.hid (KI.out.below hb); clear hb))
  refine (takes_any (Ks.out.alloc _).sp Ks.out.wf knL10 _ 0 _ (evs_lit knL10 (Blk.new _ _ _) rfl) (fun k => Nat.lt_irrefl _ (Ks.out.sp.lt _ k)) (.inl (by simp)) (by decide)).mono ?_
  rintro e W1 hr
  replace Ks := Lib.hid (Ks.out.alloc (.cells (knL10.flatMap evL).toArray 37))
  replace KI := Lib.hid (KI.out.alloc (.cells (knL10.flatMap evL).toArray 37))
  have KX := Ks
  obtain ⟨rfl, As, Ks, k1, a1⟩ := KS.run Ks.out hr knS11_is
  replace Ks := Lib.hid Ks
  clear hr
  replace KI := Lib.hid (KI.out.run k1 a1)
  clear k1 a1 KX
  go_wp2_with (first | (go_at_call 14; refine (lcall_any _ _ _ _ _).mono ?_; rintro e Wz ⟨rfl, hb⟩; replace Ks := Lib.hid (Ks.out.below hb); replace KI := Lib.hid (KI.out.below hb); clear hb) | (go_at_call 15; refine (lact_any _ _ _ _).mono ?_; rintro e Wz ⟨rfl, hb⟩; replace Ks := Lib.hid (Ks.out.below hb); replace KI := Lib.hid (KI.out.below hb); clear hb) | (go_at_call 16; refine (lback_any _ _ _ _ _).mono ?_; rintro e Wz ⟨rfl, hb⟩; replace Ks := Lib.hid (Ks.out.below hb); replace KI := Lib.hid (KI.out.below hb); clear hb))
  refine (take_any Ks.out.sp Ks.out.wf ⟨1, 0, 0, 4, 0, 2, 0, 0⟩).mono ?_
  rintro e W1 hr
  have KX := Ks
  obtain ⟨rfl, As, Ks, k1, a1⟩ := KS.hand Ks.out hr knT12
  replace Ks := Lib.hid Ks
  change Hid (KS _ _ _ _ knS11) at Ks
  clear hr
  replace KI := Lib.hid (KI.out.run k1 a1)
  clear k1 a1 KX
  go_wp2_with (first | (go_at_call 14; refine (lcall_any _ _ _ _ _).mono ?_; rintro e Wz ⟨rfl, hb⟩; replace Ks := Lib.hid (Ks.out.below hb); replace KI := Lib.hid (KI.out.below hb); clear hb) | (go_at_call 15; refine (lact_any _ _ _ _).mono ?_; rintro e Wz ⟨rfl, hb⟩; replace Ks := Lib.hid (Ks.out.below hb); replace KI := Lib.hid (KI.out.below hb); clear hb) | (go_at_call 16; refine (lback_any _ _ _ _ _).mono ?_; rintro e Wz ⟨rfl, hb⟩; replace Ks := Lib.hid (Ks.out.below hb); replace KI := Lib.hid (KI.out.below hb); clear hb))
  refine (take_any Ks.out.sp Ks.out.wf ⟨1, 0, 0, 7, 0, 0, 0, 0⟩).mono ?_
  rintro e W1 hr
  have KX := Ks
  obtain ⟨rfl, As, Ks, k1, a1⟩ := KS.hand Ks.out hr knT13
  replace Ks := Lib.hid Ks
  change Hid (KS _ _ _ _ knS11) at Ks
  clear hr
  replace KI := Lib.hid (KI.out.run k1 a1)
  clear k1 a1 KX
  go_wp2_with (first | (go_at_call 14; refine (lcall_any _ _ _ _ _).mono ?_; rintro e Wz ⟨rfl, hb⟩; replace Ks := Lib.hid (Ks.out.below hb); replace KI := Lib.hid (KI.out.below hb); clear hb) | (go_at_call 15; refine (lact_any _ _ _ _).mono ?_; rintro e Wz ⟨rfl, hb⟩; replace Ks := Lib.hid (Ks.out.below hb); replace KI := Lib.hid (KI.out.below hb); clear hb) | (go_at_call 16; refine (lback_any _ _ _ _ _).mono ?_; rintro e Wz ⟨rfl, hb⟩; replace Ks := Lib.hid (Ks.out.below hb); replace KI := Lib.hid (KI.out.below hb); clear hb))
  refine (takes_any (Ks.out.alloc _).sp Ks.out.wf knL14 _ 0 _ (evs_lit knL14 (Blk.new _ _ _) rfl) (fun k => Nat.lt_irrefl _ (Ks.out.sp.lt _ k)) (.inl (by simp)) (by decide)).mono ?_
  rintro e W1 hr
  replace Ks := Lib.hid (Ks.out.alloc (.cells (knL14.flatMap evL).toArray 37))
  replace KI := Lib.hid (KI.out.alloc (.cells (knL14.flatMap evL).toArray 37))
  have KX := Ks
  obtain ⟨rfl, As, Ks, k1, a1⟩ := KS.run Ks.out hr knS15_is
  replace Ks := Lib.hid Ks
  clear hr
  replace KI := Lib.hid (KI.out.run k1 a1)
  clear k1 a1 KX
  go_wp2_with (first | (go_at_call 14; refine (lcall_any _ _ _ _ _).mono ?_; rintro e Wz ⟨rfl, hb⟩; replace Ks := Lib.hid (Ks.out.below hb); replace KI := Lib.hid (KI.out.below hb); clear hb) | (go_at_call 15; refine (lact_any _ _ _ _).mono ?_; rintro e Wz ⟨rfl, hb⟩; replace Ks := Lib.hid (Ks.out.below hb); replace KI := Lib.hid (KI.out.below hb); clear hb) | (go_at_call 16; refine (lback_any _ _ _ _ _).mono ?_; rintro e Wz ⟨rfl, hb⟩; replace Ks := Lib.hid (Ks.out.below hb); replace KI := Lib.hid (KI.out.below hb); clear hb))
  refine (seen_yes (Aw := fun _ => False) Ks.out.sp Ks.out.wf (b := ⟨(-1), 0, []⟩) rfl [] _ ⟨none, 0, rfl, fun i x hx => by simp at hx⟩ (fun k hk => hk.elim) (by simp [sortI])).mono ?_
  rintro e W1 ⟨rfl, hb⟩
  replace Ks := Lib.hid (Ks.out.below hb)
  replace KI := Lib.hid (KI.out.below hb)
  clear hb
  go_wp2_with (first | (go_at_call 14; refine (lcall_any _ _ _ _ _).mono ?_; rintro e Wz ⟨rfl, hb⟩; replace Ks := Lib.hid (Ks.out.below hb); replace KI := Lib.hid (KI.out.below hb); clear hb) | (go_at_call 15; refine (lact_any _ _ _ _).mono ?_; rintro e Wz ⟨rfl, hb⟩; replace Ks := Lib.hid (Ks.out.below hb); replace KI := Lib.hid (KI.out.below hb); clear hb) | (go_at_call 16; refine (lback_any _ _ _ _ _).mono ?_; rintro e Wz ⟨rfl, hb⟩; replace Ks := Lib.hid (Ks.out.below hb); replace KI := Lib.hid (KI.out.below hb); clear hb))
  refine (take_any Ks.out.sp Ks.out.wf ⟨2, 0, 2, 0, 0, 0, 0, 1⟩).mono ?_
  rintro e W1 hr
  have KX := Ks
  obtain ⟨rfl, As, Ks, k1, a1⟩ := KS.hand Ks.out hr knT16
  replace Ks := Lib.hid Ks
  change Hid (KS _ _ _ _ knS15) at Ks
  clear hr
  replace KI := Lib.hid (KI.out.run k1 a1)
  clear k1 a1 KX
  go_wp2_with (first | (go_at_call 14; refine (lcall_any _ _ _ _ _).mono ?_; rintro e Wz ⟨rfl, hb⟩; replace Ks := Lib.hid (Ks.out.below hb); replace KI := Lib.hid (KI.out.below hb); clear hb) | (go_at_call 15; refine (lact_any _ _ _ _).mono ?_; rintro e Wz ⟨rfl, hb⟩; replace Ks := Lib.hid (Ks.out.below hb); replace KI := Lib.hid (KI.out.below hb); clear hb) | (go_at_call 16; refine (lback_any _ _ _ _ _).mono ?_; rintro e Wz ⟨rfl, hb⟩; replace Ks := Lib.hid (Ks.out.below hb); replace KI := Lib.hid (KI.out.below hb); clear hb))
  refine (takes_any (Ks.out.alloc _).sp Ks.out.wf knL17 _ 0 _ (evs_lit knL17 (Blk.new _ _ _) rfl) (fun k => Nat.lt_irrefl _ (Ks.out.sp.lt _ k)) (.inl (by simp)) (by decide)).mono ?_
  rintro e W1 hr
  replace Ks := Lib.hid (Ks.out.alloc (.cells (knL17.flatMap evL).toArray 37))
  replace KI := Lib.hid (KI.out.alloc (.cells (knL17.flatMap evL).toArray 37))
  have KX := Ks
  obtain ⟨rfl, As, Ks, k1, a1⟩ := KS.run Ks.out hr knS18_is
  replace Ks := Lib.hid Ks
  clear hr
  replace KI := Lib.hid (KI.out.run k1 a1)
  clear k1 a1 KX
  go_wp2_with (first | (go_at_call 14; refine (lcall_any _ _ _ _ _).mono ?_; rintro e Wz ⟨rfl, hb⟩; replace Ks := Lib.hid (Ks.out.below hb); replace KI := Lib.hid (KI.out.below hb); clear hb) | (go_at_call 15; refine (lact_any _ _ _ _).mono ?_; rintro e Wz ⟨rfl, hb⟩; replace Ks := Lib.hid (Ks.out.below hb); replace KI := Lib.hid (KI.out.below hb); clear hb) | (go_at_call 16; refine (lback_any _ _ _ _ _).mono ?_; rintro e Wz ⟨rfl, hb⟩; replace Ks := Lib.hid (Ks.out.below hb); replace KI := Lib.hid (KI.out.below hb); clear hb))
  refine (takes_any (Ks.out.alloc _).sp Ks.out.wf knL19 _ 0 _ (evs_lit knL19 (Blk.new _ _ _) rfl) (fun k => Nat.lt_irrefl _ (Ks.out.sp.lt _ k)) (.inl (by simp)) (by decide)).mono ?_
  rintro e W1 hr
  replace Ks := Lib.hid (Ks.out.alloc (.cells (knL19.flatMap evL).toArray 37))
  replace KI := Lib.hid (KI.out.alloc (.cells (knL19.flatMap evL).toArray 37))
  have KX := Ks
  obtain ⟨rfl, As, Ks, k1, a1⟩ := KS.run Ks.out hr knS20_is
  replace Ks := Lib.hid Ks
  clear hr
  replace KI := Lib.hid (KI.out.run k1 a1)
  clear k1 a1 KX
  go_wp2_with (first | (go_at_call 14; refine (lcall_any _ _ _ _ _).mono ?_; rintro e Wz ⟨rfl, hb⟩; replace Ks := Lib.hid (Ks.out.below hb); replace KI := Lib.hid (KI.out.below hb); clear hb) | (go_at_call 15; refine (lact_any _ _ _ _).mono ?_; rintro e Wz ⟨rfl, hb⟩; replace Ks := Lib.hid (Ks.out.below hb); replace KI := Lib.hid (KI.out.below hb); clear hb) | (go_at_call 16; refine (lback_any _ _ _ _ _).mono ?_; rintro e Wz ⟨rfl, hb⟩; replace Ks := Lib.hid (Ks.out.below hb); replace KI := Lib.hid (KI.out.below hb); clear hb))
  refine (take_any Ks.out.sp Ks.out.wf ⟨1, 0, 0, 4, 0, 1, 0, 0⟩).mono ?_
  rintro e W1 hr
  have KX := Ks
  obtain ⟨rfl, As, Ks, k1, a1⟩ := KS.hand Ks.out hr knT21
  replace Ks := Lib.hid Ks
  change Hid (KS _ _ _ _ knS20) at Ks
  clear hr
  replace KI := Lib.hid (KI.out.run k1 a1)
  clear k1 a1 KX
  go_wp2_with (first | (go_at_call 14; refine (lcall_any _ _ _ _ _).mono ?_; rintro e Wz ⟨rfl, hb⟩; replace Ks := Lib.hid (Ks.out.below hb); replace KI := Lib.hid (KI.out.below hb); clear hb) | (go_at_call 15; refine (lact_any _ _ _ _).mono ?_; rintro e Wz ⟨rfl, hb⟩; replace Ks := Lib.hid (Ks.out.below hb); replace KI := Lib.hid (KI.out.below hb); clear hb) | (go_at_call 16; refine (lback_any _ _ _ _ _).mono ?_; rintro e Wz ⟨rfl, hb⟩; replace Ks := Lib.hid (Ks.out.below hb); replace KI := Lib.hid (KI.out.below hb); clear hb))
  refine (takes_any (Ks.out.alloc _).sp Ks.out.wf knL22 _ 0 _ (evs_lit knL22 (Blk.new _ _ _) rfl) (fun k => Nat.lt_irrefl _ (Ks.out.sp.lt _ k)) (.inl (by simp)) (by decide)).mono ?_
  rintro e W1 hr
  replace Ks := Lib.hid (Ks.out.alloc (.cells (knL22.flatMap evL).toArray 37))
  replace KI := Lib.hid (KI.out.alloc (.cells (knL22.flatMap evL).toArray 37))
  have KX := Ks
  obtain ⟨rfl, As, Ks, k1, a1⟩ := KS.run Ks.out hr knS23_is
  replace Ks := Lib.hid Ks
  clear hr
  replace KI := Lib.hid (KI.out.run k1 a1)
  clear k1 a1 KX
  go_wp2_with (first | (go_at_call 14; refine (lcall_any _ _ _ _ _).mono ?_; rintro e Wz ⟨rfl, hb⟩; replace Ks := Lib.hid (Ks.out.below hb); replace KI := Lib.hid (KI.out.below hb); clear hb) | (go_at_call 15; refine (lact_any _ _ _ _).mono ?_; rintro e Wz ⟨rfl, hb⟩; replace Ks := Lib.hid (Ks.out.below hb); replace KI := Lib.hid (KI.out.below hb); clear hb) | (go_at_call 16; refine (lback_any _ _ _ _ _).mono ?_; rintro e Wz ⟨rfl, hb⟩; replace Ks := Lib.hid (Ks.out.below hb); replace KI := Lib.hid (KI.out.below hb); clear hb))
  refine (seen_one (y := 0) (Ks.out.alloc _).sp Ks.out.wf (b := ⟨(-1), 0, [0]⟩) rfl 0 (by simp [sortI]) rfl).mono ?_
  rintro e W1 ⟨rfl, hb⟩
  replace Ks := Lib.hid (Ks.out.alloc (.cells #[.int .i64 0] 3))
  replace KI := Lib.hid (KI.out.alloc (.cells #[.int .i64 0] 3))
  replace Ks := Lib.hid (Ks.out.below hb)
  replace KI := Lib.hid (KI.out.below hb)
  clear hb
  go_wp2_with (first | (go_at_call 14; refine (lcall_any _ _ _ _ _).mono ?_; rintro e Wz ⟨rfl, hb⟩; replace Ks := Lib.hid (Ks.out.below hb); replace KI := Lib.hid (KI.out.below hb); clear hb) | (go_at_call 15; refine (lact_any _ _ _ _).mono ?_; rintro e Wz ⟨rfl, hb⟩; replace Ks := Lib.hid (Ks.out.below hb); replace KI := Lib.hid (KI.out.below hb); clear hb) | (go_at_call 16; refine (lback_any _ _ _ _ _).mono ?_; rintro e Wz ⟨rfl, hb⟩; replace Ks := Lib.hid (Ks.out.below hb); replace KI := Lib.hid (KI.out.below hb); clear hb))
  refine (take_any Ks.out.sp Ks.out.wf ⟨1, 0, 0, 4, 0, 3, 0, 0⟩).mono ?_
  rintro e W1 hr
  have KX := Ks
  obtain ⟨rfl, As, Ks, k1, a1⟩ := KS.hand Ks.out hr knT24
  replace Ks := Lib.hid Ks
  change Hid (KS _ _ _ _ knS23) at Ks
  clear hr
  replace KI := Lib.hid (KI.out.run k1 a1)
  clear k1 a1 KX
  go_wp2_with (first | (go_at_call 14; refine (lcall_any _ _ _ _ _).mono ?_; rintro e Wz ⟨rfl, hb⟩; replace Ks := Lib.hid (Ks.out.below hb); replace KI := Lib.hid (KI.out.below hb); clear hb) | (go_at_call 15; refine (lact_any _ _ _ _).mono ?_; rintro e Wz ⟨rfl, hb⟩; replace Ks := Lib.hid (Ks.out.below hb); replace KI := Lib.hid (KI.out.below hb); clear hb) | (go_at_call 16; refine (lback_any _ _ _ _ _).mono ?_; rintro e Wz ⟨rfl, hb⟩; replace Ks := Lib.hid (Ks.out.below hb); replace KI := Lib.hid (KI.out.below hb); clear hb))
  refine (takes_any (Ks.out.alloc _).sp Ks.out.wf knL25 _ 0 _ (evs_lit knL25 (Blk.new _ _ _) rfl) (fun k => Nat.lt_irrefl _ (Ks.out.sp.lt _ k)) (.inl (by simp)) (by decide)).mono ?_
  rintro e W1 hr
  replace Ks := Lib.hid (Ks.out.alloc (.cells (knL25.flatMap evL).toArray 37))
  replace KI := Lib.hid (KI.out.alloc (.cells (knL25.flatMap evL).toArray 37))
  have KX := Ks
  obtain ⟨rfl, As, Ks, k1, a1⟩ := KS.run Ks.out hr knS26_is
  replace Ks := Lib.hid Ks
  clear hr
  replace KI := Lib.hid (KI.out.run k1 a1)
  clear k1 a1 KX
  go_wp2_with (first | (go_at_call 14; refine (lcall_any _ _ _ _ _).mono ?_; rintro e Wz ⟨rfl, hb⟩; replace Ks := Lib.hid (Ks.out.below hb); replace KI := Lib.hid (KI.out.below hb); clear hb) | (go_at_call 15; refine (lact_any _ _ _ _).mono ?_; rintro e Wz ⟨rfl, hb⟩; replace Ks := Lib.hid (Ks.out.below hb); replace KI := Lib.hid (KI.out.below hb); clear hb) | (go_at_call 16; refine (lback_any _ _ _ _ _).mono ?_; rintro e Wz ⟨rfl, hb⟩; replace Ks := Lib.hid (Ks.out.below hb); replace KI := Lib.hid (KI.out.below hb); clear hb))
  refine (takes_any (Ks.out.alloc _).sp Ks.out.wf knL27 _ 0 _ (evs_lit knL27 (Blk.new _ _ _) rfl) (fun k => Nat.lt_irrefl _ (Ks.out.sp.lt _ k)) (.inl (by simp)) (by decide)).mono ?_
  rintro e W1 hr
  replace Ks := Lib.hid (Ks.out.alloc (.cells (knL27.flatMap evL).toArray 37))
  replace KI := Lib.hid (KI.out.alloc (.cells (knL27.flatMap evL).toArray 37))
  have KX := Ks
  obtain ⟨rfl, As, Ks, k1, a1⟩ := KS.run Ks.out hr knS28_is
  replace Ks := Lib.hid Ks
  clear hr
  replace KI := Lib.hid (KI.out.run k1 a1)
  clear k1 a1 KX
  have hfl := view_fld (-1) 0
  go_wp2_with (first
    | (go_at_call 7; refine (works12_any _).mono ?_; rintro e Wz ⟨rfl, hb⟩; replace Ks := Lib.hid ((Ks.out.alloc _).below hb); replace KI := Lib.hid ((KI.out.alloc _).below hb); clear hb)
    | (go_at_call 22; refine (openq_nil _ _).mono ?_; rintro e Wz ⟨rfl, hb⟩; replace Ks := Lib.hid (Ks.out.below hb); replace KI := Lib.hid (KI.out.below hb); clear hb)
    | (go_at_call 9; refine (new_none _ _ _ (by omega)).mono ?_; rintro e Wz ⟨rfl, rfl⟩)
    | (go_at_call 14; refine (lcall_any _ _ _ _ _).mono ?_; rintro e Wz ⟨rfl, hb⟩; replace Ks := Lib.hid (Ks.out.below hb); replace KI := Lib.hid (KI.out.below hb); clear hb)
    | (go_at_call 11; refine (take_nil _ _ _ _ _ _ _ _ _).mono ?_; rintro e Wz ⟨rfl, hb⟩; replace Ks := Lib.hid (Ks.out.below hb); replace KI := Lib.hid (KI.out.below hb); clear hb)
    | (go_at_call 12; (with_reducible refine (view_nil _ _).mono ?_); rintro e Wz ⟨v, rfl, hr, hb⟩; clear hr; replace Ks := Lib.hid (Ks.out.below hb); replace KI := Lib.hid (KI.out.below hb); clear hb)
    | (go_at_call 12; (with_reducible refine (view_none Ks.out.sp 1 (.inr (by decide))).mono ?_); rintro e Wz ⟨v, rfl, hr, hb⟩; clear hr; replace Ks := Lib.hid (Ks.out.below hb); replace KI := Lib.hid (KI.out.below hb); clear hb)
    | (go_at_call 21; refine (flag_nil _ _).mono ?_; rintro e Wz ⟨rfl, rfl⟩)
    | (go_at_call 19; refine (copy_nil _).mono ?_; rintro e Wz ⟨rfl, rfl⟩)
    | (go_at_call 18; (with_reducible refine (check_none0 ⟨0, 0, 0, 0, 0, 0, 0, 0⟩ [⟨1, 0, 0, 0, 0, 0, 0, 0⟩, ⟨2, 0, 0, 0, 0, 0, 0, 0⟩] _ 0 3 3 0 0 _ (.inl (by decide)) KI.out.ev rfl).mono ?_); rintro e Wz ⟨rfl, hb⟩; replace Ks := Lib.hid (Ks.out.below hb); replace KI := Lib.hid (KI.out.below hb); clear hb)
    | (go_at_call 18; (with_reducible refine (check_none1 0 0 _ (.inl (by decide))).mono ?_); rintro e Wz ⟨rfl, hb⟩; replace Ks := Lib.hid (Ks.out.below hb); replace KI := Lib.hid (KI.out.below hb); clear hb))
  go_ret
  exact ⟨rfl, Ks.out.bl⟩
end Go.Proofs.Ytjfgkdgcihcmhaa
