/- Package spec: Take. -/
import Derived.Test.YtcgljmeppmdihaaSpO
import Derived.Test.YtcgljmeppmdihaaSpP
import Derived.Test.YtcgljmeppmdihaaSpQ
namespace Go.Proofs.Ytcgljmeppmdihaa
open Go.ChangeShapes Go.WideShapes Go.ChangeAt Go.RowKit
set_option linter.unusedVariables false
set_option maxRecDepth 100000
set_option linter.unusedSimpArgs false
set_option maxHeartbeats 4000000 in
theorem take_no {w : World} {A : Nat → Prop} {p : Pl} {s : SS} (h : SpecAt w A p s) (kind thr idx act obj oth code val : Int) (hn : thr < 0 ∨ s.T.length ≤ thr) :
    Calls Try.prog 9 #[spV p, evV ⟨kind, thr, idx, act, obj, oth, code, val⟩] w (HandPost w A p s none) := by
  have H := Lib.hid h
  have HN := Lib.hid hn
  have HF0 := Lib.hid (Fr.boxed h ⟨kind, thr, idx, act, obj, oth, code, val⟩)
  clear h hn
  go_enter Try.func9, Try.ntmps9
  go_wp2_with (go_at_call 20; ((with_reducible refine (isT_no HF0.out.sp _ HN.out).mono ?_)); rintro r w1 ⟨rfl, rfl⟩)
  go_ret
  exact HandPost.no HF0.out.sp HF0.out.kp
theorem take_nil (kind thr idx act obj oth code val : Int) (w : World) :
    Calls Try.prog 9 #[.pointer none, evV ⟨kind, thr, idx, act, obj, oth, code, val⟩] w fun r w' => r = .returned (.bool false) ∧ Below w.heap.size w w' := by
  go_enter Try.func9, Try.ntmps9
  go_wp2_with (go_at_call 20; ((with_reducible refine (isT_nil _ _).mono ?_)); rintro r w1 ⟨rfl, rfl⟩)
  go_ret
  exact ⟨rfl, (Below.refl _ _).alloc (Nat.le_refl _) _⟩
set_option maxHeartbeats 4000000 in
theorem take_kind {w : World} {A : Nat → Prop} {p : Pl} {s : SS} (h : SpecAt w A p s) {t : Nat} {x : Th} (hx : s.T[t]? = some x) (kind idx act obj oth code val : Int) (f : Nat) (R : Option SS) (hk : (kind = 0 ∧ f = 21) ∨ (kind = 1 ∧ f = 22) ∨ (kind = 2 ∧ f = 23))
    (hf : ∀ W, SpecAt W A p s → Calls Try.prog f #[spV p, evV ⟨kind, (t : Int), idx, act, obj, oth, code, val⟩] W (HandPost W A p s R)) :
    Calls Try.prog 9 #[spV p, evV ⟨kind, (t : Int), idx, act, obj, oth, code, val⟩] w (HandPost w A p s R) := by
  have H := Lib.hid h
  have hlt := thr_lt hx
  have HF0 := Lib.hid (Fr.boxed h ⟨kind, (t : Int), idx, act, obj, oth, code, val⟩)
  have HC := Lib.hid hf
  clear h hx hf
  rcases hk with ⟨rfl, rfl⟩ | ⟨rfl, rfl⟩ | ⟨rfl, rfl⟩
  all_goals
    go_enter Try.func9, Try.ntmps9
    go_wp2_with (go_at_call 20; ((with_reducible refine (isT_yes HF0.out.sp _ (by omega) (by omega)).mono ?_)); rintro r w1 ⟨rfl, rfl⟩)
    refine (HC.out _ HF0.out.sp).mono ?_
    rintro r9 w9 hp9
    have HP9 := Lib.hid (HF0.out.post hp9)
    obtain ⟨rfl, _⟩ := hp9
    go_wp2_with fail
    go_ret
    exact HP9.out
theorem take_else {w : World} {A : Nat → Prop} {p : Pl} {s : SS} (h : SpecAt w A p s) {t : Nat} {x : Th} (hx : s.T[t]? = some x) (kind idx act obj oth code val : Int) (h0 : kind ≠ 0) (h1 : kind ≠ 1) (h2 : kind ≠ 2) :
    Calls Try.prog 9 #[spV p, evV ⟨kind, (t : Int), idx, act, obj, oth, code, val⟩] w (HandPost w A p s none) := by
  have H := Lib.hid h
  have hlt := thr_lt hx
  have HF0 := Lib.hid (Fr.boxed h ⟨kind, (t : Int), idx, act, obj, oth, code, val⟩)
  have e0 : (kind == 0) = false := beq_eq_false_iff_ne.2 h0
  have e1 : (kind == 1) = false := beq_eq_false_iff_ne.2 h1
  have e2 : (kind == 2) = false := beq_eq_false_iff_ne.2 h2
  clear h hx h0 h1 h2
  go_enter Try.func9, Try.ntmps9
  go_wp2_with (go_at_call 20; ((with_reducible refine (isT_yes HF0.out.sp _ (by omega) (by omega)).mono ?_)); rintro r w1 ⟨rfl, rfl⟩)
  go_ret
  exact HandPost.no HF0.out.sp HF0.out.kp
/-- Take, of any event -/
theorem take_any {w : World} {A : Nat → Prop} {p : Pl} {s : SS} (h : SpecAt w A p s) (hwf : WF s) (e : Ev) :
    Calls Try.prog 9 #[spV p, evV e] w (HandPost w A p s (takeS s e)) := by
  rcases e with ⟨kind, thr, idx, act, obj, oth, code, val⟩
  unfold takeS
  dsimp only
  by_cases hn : thr < 0
  · rw [if_pos hn]
    exact take_no h kind thr idx act obj oth code val (.inl hn)
  rw [if_neg hn]
  obtain ⟨t, rfl⟩ : ∃ t : Nat, thr = (t : Int) := ⟨thr.toNat, by omega⟩
  rw [Int.toNat_natCast]
  cases hx : s.T[t]? with
  | none =>
    have := List.getElem?_eq_none_iff.1 hx
    exact take_no h kind _ idx act obj oth code val (.inr (by omega))
  | some x =>
    dsimp only
    by_cases h0 : kind = 0
    · subst h0
      exact take_kind h hx 0 idx act obj oth code val _ _ (.inl ⟨rfl, rfl⟩) (fun W hW => open_any hW hx 0 idx act obj oth code val)
    rw [if_neg h0]
    by_cases h1 : kind = 1
    · subst h1
      exact take_kind h hx 1 idx act obj oth code val _ _ (.inr (.inl ⟨rfl, rfl⟩)) (fun W hW => act_any hW hwf hx 1 idx act obj oth code val)
    rw [if_neg h1]
    by_cases h2 : kind = 2
    · subst h2
      exact take_kind h hx 2 idx act obj oth code val _ _ (.inr (.inr ⟨rfl, rfl⟩)) (fun W hW => close_any hW hx 2 idx act obj oth code val)
    rw [if_neg h2]
    exact take_else h hx kind idx act obj oth code val h0 h1 h2
end Go.Proofs.Ytcgljmeppmdihaa
