/- Package spec: its small functions. -/
import Derived.Test.YtcgljmeppmdihaaSpA
namespace Go.Proofs.Ytcgljmeppmdihaa
open Go.ChangeShapes Go.WideShapes Go.ChangeAt Go.RowKit
set_option linter.unusedVariables false
set_option maxRecDepth 100000
set_option linter.unusedSimpArgs false
theorem is_yes (e : Ev) (a o : Int) (w : World) (h1 : e.act = a) (h2 : e.oth = o) :
    Calls Try.prog 67 #[evV e, .int .i64 a, .int .i64 o] w fun r w' => r = .returned (.bool true) ∧ Below w.heap.size w w' := by
  rcases e with ⟨kind, thr, idx, act, obj, oth, code, val⟩
  subst h1
  subst h2
  go_enter Try.func67, Try.ntmps67
  go_wp2_with fail
  go_ret
  exact ⟨rfl, (Below.refl _ _).alloc (Nat.le_refl _) _⟩
theorem is_no (e : Ev) (a o : Int) (w : World) (h : ¬ (e.act = a ∧ e.oth = o)) :
    Calls Try.prog 67 #[evV e, .int .i64 a, .int .i64 o] w fun r w' => r = .returned (.bool false) ∧ Below w.heap.size w w' := by
  rcases e with ⟨kind, thr, idx, act, obj, oth, code, val⟩
  by_cases h1 : act = a
  · subst h1
    have h2 : (oth == o) = false := beq_eq_false_iff_ne.2 fun e => h ⟨rfl, e⟩
    clear h
    go_enter Try.func67, Try.ntmps67
    go_wp2_with fail
    go_ret
    exact ⟨rfl, (Below.refl _ _).alloc (Nat.le_refl _) _⟩
  · have h2 : (act == a) = false := beq_eq_false_iff_ne.2 h1
    clear h h1
    go_enter Try.func67, Try.ntmps67
    go_wp2_with fail
    go_ret
    exact ⟨rfl, (Below.refl _ _).alloc (Nat.le_refl _) _⟩
theorem refuses_yes (e : Ev) (o : Int) (w : World) (h1 : e.act = 8) (h2 : e.oth = o) :
    Calls Try.prog 68 #[evV e, .int .i64 o] w fun r w' => r = .returned (.bool true) ∧ Below w.heap.size w w' := by
  have H1 := Lib.hid h1
  have H2 := Lib.hid h2
  clear h1 h2
  go_enter Try.func68, Try.ntmps68
  go_wp2_with (go_at_call 67; ((with_reducible refine (is_yes e _ _ _ H1.out H2.out).mono ?_)); rintro r w1 ⟨rfl, hb⟩)
  go_ret
  exact ⟨rfl, ((Below.refl _ _).alloc (Nat.le_refl _) _).trans (hb.mono (by simp))⟩
theorem refuses_no (e : Ev) (o : Int) (w : World) (h : ¬ (e.act = 8 ∧ e.oth = o)) :
    Calls Try.prog 68 #[evV e, .int .i64 o] w fun r w' => r = .returned (.bool false) ∧ Below w.heap.size w w' := by
  have H1 := Lib.hid h
  clear h
  go_enter Try.func68, Try.ntmps68
  go_wp2_with (go_at_call 67; ((with_reducible refine (is_no e _ _ _ H1.out).mono ?_)); rintro r w1 ⟨rfl, hb⟩)
  go_ret
  exact ⟨rfl, ((Below.refl _ _).alloc (Nat.le_refl _) _).trans (hb.mono (by simp))⟩
/-- whatever such a row of numbers tells -/
theorem isT_yes {w : World} {A : Nat → Prop} {p : Pl} {s : SS} (h : SpecAt w A p s) (t : Int) (h0 : 0 ≤ t) (h1 : t < s.T.length) :
    Calls Try.prog 20 #[spV p, .int .i64 t] w fun r w' => r = .returned (.bool true) ∧ w = w' := by
  have c0 := h.c0
  clear h
  generalize s.T.length = n at *
  go_enter Try.func20, Try.ntmps20
  go_wp2_with fail
  go_ret
  exact ⟨rfl, rfl⟩
theorem isT_no {w : World} {A : Nat → Prop} {p : Pl} {s : SS} (h : SpecAt w A p s) (t : Int) (h1 : t < 0 ∨ s.T.length ≤ t) :
    Calls Try.prog 20 #[spV p, .int .i64 t] w fun r w' => r = .returned (.bool false) ∧ w = w' := by
  have c0 := h.c0
  clear h
  generalize s.T.length = n at *
  by_cases h0 : t < 0
  · have h3 : ¬ 0 ≤ t := by omega
    clear h1 h0
    go_enter Try.func20, Try.ntmps20
    go_wp2_with fail
    go_ret
    exact ⟨rfl, rfl⟩
  · have h2 : decide (t < (n : Int)) = false := decide_eq_false (by omega)
    have h3 : 0 ≤ t := by omega
    clear h1 h0
    go_enter Try.func20, Try.ntmps20
    go_wp2_with fail
    go_ret
    exact ⟨rfl, rfl⟩
theorem isT_nil (t : Int) (w : World) :
    Calls Try.prog 20 #[.pointer none, .int .i64 t] w fun r w' => r = .returned (.bool false) ∧ w = w' := by
  go_enter Try.func20, Try.ntmps20
  go_wp2_with fail
  go_ret
  exact ⟨rfl, rfl⟩
theorem isO_yes {w : World} {A : Nat → Prop} {p : Pl} {s : SS} (h : SpecAt w A p s) (t : Int) (h0 : 0 ≤ t) (h1 : t < s.O.length) :
    Calls Try.prog 24 #[spV p, .int .i64 t] w fun r w' => r = .returned (.bool true) ∧ w = w' := by
  have c0 := h.c1
  clear h
  generalize s.O.length = n at *
  go_enter Try.func24, Try.ntmps24
  go_wp2_with fail
  go_ret
  exact ⟨rfl, rfl⟩
theorem isO_no {w : World} {A : Nat → Prop} {p : Pl} {s : SS} (h : SpecAt w A p s) (t : Int) (h1 : t < 0 ∨ s.O.length ≤ t) :
    Calls Try.prog 24 #[spV p, .int .i64 t] w fun r w' => r = .returned (.bool false) ∧ w = w' := by
  have c0 := h.c1
  clear h
  generalize s.O.length = n at *
  by_cases h0 : t < 0
  · have h3 : ¬ 0 ≤ t := by omega
    clear h1 h0
    go_enter Try.func24, Try.ntmps24
    go_wp2_with fail
    go_ret
    exact ⟨rfl, rfl⟩
  · have h2 : decide (t < (n : Int)) = false := decide_eq_false (by omega)
    have h3 : 0 ≤ t := by omega
    clear h1 h0
    go_enter Try.func24, Try.ntmps24
    go_wp2_with fail
    go_ret
    exact ⟨rfl, rfl⟩
theorem isO_nil (t : Int) (w : World) :
    Calls Try.prog 24 #[.pointer none, .int .i64 t] w fun r w' => r = .returned (.bool false) ∧ w = w' := by
  go_enter Try.func24, Try.ntmps24
  go_wp2_with fail
  go_ret
  exact ⟨rfl, rfl⟩
theorem valid_yes {w : World} {A : Nat → Prop} {p : Pl} {s : SS} (h : SpecAt w A p s) (a b c : Int) (hv : validS s a b c) :
    Calls Try.prog 35 #[spV p, callV a b c] w fun r w' => r = .returned (.bool true) ∧ Below w.heap.size w w' := by
  obtain ⟨h1, h2, ⟨h3, h4⟩, h5⟩ := hv
  have H := Lib.hid h
  clear h
  by_cases h6 : a = 6
  · subst h6
    obtain ⟨h7, h8⟩ := h5.resolve_left (fun k => k rfl)
    clear h5
    go_enter Try.func35, Try.ntmps35
    go_wp2_with (first
      | (go_at_call 24; ((with_reducible refine (isO_yes (H.out.alloc _) _ h3 h4).mono ?_)); rintro r w1 ⟨rfl, rfl⟩)
      | (go_at_call 20; ((with_reducible refine (isT_yes (H.out.alloc _) _ h7 h8).mono ?_)); rintro r w1 ⟨rfl, rfl⟩))
    go_ret
    exact ⟨rfl, (Below.refl _ _).alloc (Nat.le_refl _) _⟩
  · have h7 : (a == 6) = false := beq_eq_false_iff_ne.2 h6
    have h8 : (a != 6) = true := by rw [bne, h7]; rfl
    clear h5 h6
    go_enter Try.func35, Try.ntmps35
    go_wp2_with (first
      | (go_at_call 24; ((with_reducible refine (isO_yes (H.out.alloc _) _ h3 h4).mono ?_)); rintro r w1 ⟨rfl, rfl⟩))
    go_ret
    exact ⟨rfl, (Below.refl _ _).alloc (Nat.le_refl _) _⟩
theorem valid_no {w : World} {A : Nat → Prop} {p : Pl} {s : SS} (h : SpecAt w A p s) (a b c : Int) (hv : ¬ validS s a b c) :
    Calls Try.prog 35 #[spV p, callV a b c] w fun r w' => r = .returned (.bool false) ∧ Below w.heap.size w w' := by
  have H := Lib.hid h
  clear h
  unfold validS at hv
  by_cases h1 : 0 ≤ a
  rotate_left
  · clear hv
    go_enter Try.func35, Try.ntmps35
    go_wp2_with fail
    go_ret
    exact ⟨rfl, (Below.refl _ _).alloc (Nat.le_refl _) _⟩
  by_cases h2 : a < 9
  rotate_left
  · clear hv
    go_enter Try.func35, Try.ntmps35
    go_wp2_with fail
    go_ret
    exact ⟨rfl, (Below.refl _ _).alloc (Nat.le_refl _) _⟩
  by_cases h3 : 0 ≤ b ∧ b < s.O.length
  rotate_left
  · have h4 : b < 0 ∨ (s.O.length : Int) ≤ b := by omega
    have H4 := Lib.hid h4
    clear hv h3 h4
    go_enter Try.func35, Try.ntmps35
    go_wp2_with (first
      | (go_at_call 24; ((with_reducible refine (isO_no (H.out.alloc _) _ H4.out).mono ?_)); rintro r w1 ⟨rfl, rfl⟩))
    go_ret
    exact ⟨rfl, (Below.refl _ _).alloc (Nat.le_refl _) _⟩
  obtain ⟨h3, h4⟩ := h3
  have h6 : a = 6 ∧ (c < 0 ∨ (s.T.length : Int) ≤ c) := by omega
  obtain ⟨rfl, h7⟩ := h6
  have H7 := Lib.hid h7
  clear hv h7
  go_enter Try.func35, Try.ntmps35
  go_wp2_with (first
    | (go_at_call 24; ((with_reducible refine (isO_yes (H.out.alloc _) _ h3 h4).mono ?_)); rintro r w1 ⟨rfl, rfl⟩)
    | (go_at_call 20; ((with_reducible refine (isT_no (H.out.alloc _) _ H7.out).mono ?_)); rintro r w1 ⟨rfl, rfl⟩))
  go_ret
  exact ⟨rfl, (Below.refl _ _).alloc (Nat.le_refl _) _⟩
theorem setT2 (s : SS) (t : Nat) (x y : Th) : (s.setT t x).setT t y = s.setT t y := by simp [SS.setT]
theorem setT_get {s : SS} {t : Nat} {x : Th} (y : Th) (hx : s.T[t]? = some x) : (s.setT t y).T[t]? = some y := set_same hx
/-- how a call's end lies in memory -/
theorem SpecAt.endT {w : World} {A : Nat → Prop} {p : Pl} {s : SS} (h : SpecAt w A p s) {t : Nat} {x : Th} (hx : s.T[t]? = some x) (c v : Int) :
    SpecAt (((w.setCell ⟨p.T, t * 9 + 3, none⟩ (.int .i64 5)).setCell ⟨p.T, t * 9 + 7, none⟩ (.int .i64 c)).setCell ⟨p.T, t * 9 + 7 + 1, none⟩ (.int .i64 v)) A p (s.setT t (endTh x c v)) := by
  have h1 := h.setT hx (x' := { x with pr := 5 }) 3 (.int .i64 5) (by omega) rfl
  have h2 := h1.setT (setT_get _ hx) (x' := { x with pr := 5, code := c }) 7 (.int .i64 c) (by omega) rfl
  rw [setT2] at h2
  have h3 := h2.setT (setT_get _ hx) (x' := endTh x c v) 8 (.int .i64 v) (by omega) rfl
  rw [setT2] at h3
  exact h3
/-- a call ends -/
theorem end_any {w : World} {A : Nat → Prop} {p : Pl} {s : SS} (h : SpecAt w A p s) {t : Nat} {x : Th} (hx : s.T[t]? = some x) (c v : Int) :
    Calls Try.prog 36 #[ptrV p.T (t * 9), resV c v] w fun r w' => r = .returned (.tuple #[]) ∧ SpecAt w' A p (endS s t c v) ∧ Keep A w w' := by
  have H := Lib.hid h
  have HX := Lib.hid hx
  rw [endS_at hx]
  clear h hx
  go_enter Try.func36, Try.ntmps36
  go_upto_region 1 with fail
  generalize hW : w.alloc _ = W
  have hb : Below w.heap.size w W := by rw [← hW]; go_grown
  have hS := H.out.below hb
  have hB : Blk W w.heap.size 35 #[.int .i64 c, .int .i64 v] := by rw [← hW]; exact Blk.new _ _ _
  have hT := hS.th HX.out
  have c3 := hT.pr
  have c7 := hT.code
  have c8 := hT.val
  have f3 := hS.freeT (t * 9 + 3)
  have f7 := hS.freeT (t * 9 + 7)
  have f8 := hS.freeT (t * 9 + 8)
  have b0 := hB.cell 0 _ rfl
  have b1 := hB.cell 1 _ rfl
  have HS := Lib.hid hS
  have HBe := Lib.hid hb
  clear hT hS hb hB hW
  generalize hbx : w.heap.size = bx at b0 b1 ⊢
  clear hbx
  go_region_with (fail)
  all_goals
    go_wp2_with fail
    go_end0
    have hT := HS.out.mine.2.1
    exact ⟨rfl, (HS.out.endT HX.out c v).drew, (((Keep.ofBelow HBe.out).set (fun _ => hT) _).set (fun _ => hT) _).set (fun _ => hT) _ |>.drew⟩
theorem refuse_any {w : World} {A : Nat → Prop} {p : Pl} {s : SS} (h : SpecAt w A p s) {t : Nat} {x : Th} (hx : s.T[t]? = some x) (e : Ev) :
    Calls Try.prog 69 #[ptrV p.T (t * 9), evV e] w fun r w' => r = .returned (.tuple #[]) ∧ SpecAt w' A p (endS s t e.oth 0) ∧ Keep A w w' := by
  have H := Lib.hid h
  have HX := Lib.hid hx
  clear h hx
  go_enter Try.func69, Try.ntmps69
  go_wp2_with (go_at_call 36; ((with_reducible refine (end_any (H.out.alloc _) HX.out _ _).mono ?_)); rintro r w1 ⟨rfl, h1, hk⟩)
  go_end0
  exact ⟨rfl, h1, ((Keep.refl A w).alloc _).trans hk⟩
theorem done_yes {w : World} {A : Nat → Prop} {p : Pl} {s : SS} (h : SpecAt w A p s) {t : Nat} {x : Th} (hx : s.T[t]? = some x) (hd : doneS x) :
    Calls Try.prog 38 #[ptrV p.T (t * 9)] w fun r w' => r = .returned (.bool true) ∧ w = w' := by
  have c3 := (h.th hx).pr
  have c0 := (h.th hx).op
  clear h hx
  rcases x with ⟨op, obj, arg, pr, calls, flag, dep, code, val⟩
  unfold doneS at hd
  by_cases h5 : pr = 5
  · subst h5
    clear hd
    go_enter Try.func38, Try.ntmps38
    go_wp2_with fail
    go_ret
    exact ⟨rfl, rfl⟩
  · obtain ⟨h1, h8⟩ := hd.resolve_left h5
    dsimp only at h1 h8
    subst h1
    subst h8
    clear hd h5
    go_enter Try.func38, Try.ntmps38
    go_wp2_with fail
    go_ret
    exact ⟨rfl, rfl⟩
theorem done_no {w : World} {A : Nat → Prop} {p : Pl} {s : SS} (h : SpecAt w A p s) {t : Nat} {x : Th} (hx : s.T[t]? = some x) (hd : ¬ doneS x) :
    Calls Try.prog 38 #[ptrV p.T (t * 9)] w fun r w' => r = .returned (.bool false) ∧ w = w' := by
  have c3 := (h.th hx).pr
  have c0 := (h.th hx).op
  clear h hx
  rcases x with ⟨op, obj, arg, pr, calls, flag, dep, code, val⟩
  unfold doneS at hd
  by_cases h1 : pr = 1
  · subst h1
    have h8 : (op == 8) = false := beq_eq_false_iff_ne.2 fun e => hd (.inr ⟨rfl, e⟩)
    clear hd
    go_enter Try.func38, Try.ntmps38
    go_wp2_with fail
    go_ret
    exact ⟨rfl, rfl⟩
  · have h5 : (pr == 5) = false := beq_eq_false_iff_ne.2 fun e => hd (.inl e)
    have h2 : (pr == 1) = false := beq_eq_false_iff_ne.2 h1
    clear hd h1
    go_enter Try.func38, Try.ntmps38
    go_wp2_with fail
    go_ret
    exact ⟨rfl, rfl⟩
theorem beq_dec (a b : Int) : (a == b) = decide (a = b) := by rw [Bool.eq_iff_iff, beq_iff_eq, decide_eq_true_iff]
set_option maxHeartbeats 1000000 in
theorem leaves_any {w : World} {A : Nat → Prop} {p : Pl} {s : SS} (h : SpecAt w A p s) {t : Nat} {x : Th} (hx : s.T[t]? = some x) (how : Int) :
    Calls Try.prog 82 #[ptrV p.T (t * 9), .int .i64 how] w fun r w' => r = .returned (.bool (leavesS x how)) ∧ w = w' := by
  have c3 := (h.th hx).pr
  have c0 := (h.th hx).op
  clear h hx
  rcases x with ⟨op, obj, arg, pr, calls, flag, dep, code, val⟩
  unfold leavesS
  by_cases h1 : how = 1
  · subst h1
    by_cases h2 : pr = 2
    · subst h2
      by_cases h3 : op = 3
      · subst h3
        go_enter Try.func82, Try.ntmps82
        go_wp2_with fail
        go_ret
        exact ⟨rfl, rfl⟩
      · have h4 : (op == 3) = false := beq_eq_false_iff_ne.2 h3
        rw [show (if (1 : Int) = 1 then decide ((2 : Int) = 2) && decide (op = 3) else if (1 : Int) = 2 then decide ((2 : Int) = 3) else if (1 : Int) = 3 then decide ((2 : Int) = 2) else false) = false by simp [h3]]
        clear h3
        go_enter Try.func82, Try.ntmps82
        go_wp2_with fail
        go_ret
        exact ⟨rfl, rfl⟩
    · have h4 : (pr == 2) = false := beq_eq_false_iff_ne.2 h2
      rw [show (if (1 : Int) = 1 then decide (pr = 2) && decide (op = 3) else if (1 : Int) = 2 then decide (pr = 3) else if (1 : Int) = 3 then decide (pr = 2) else false) = false by simp [h2]]
      clear h2
      go_enter Try.func82, Try.ntmps82
      go_wp2_with fail
      go_ret
      exact ⟨rfl, rfl⟩
  have g1 : (how == 1) = false := beq_eq_false_iff_ne.2 h1
  rw [if_neg h1]
  clear h1
  by_cases h1 : how = 2
  · subst h1
    rw [if_pos rfl]
    go_enter Try.func82, Try.ntmps82
    go_wp2_with fail
    go_ret
    exact ⟨by simp; exact beq_dec _ _, rfl⟩
  have g2 : (how == 2) = false := beq_eq_false_iff_ne.2 h1
  rw [if_neg h1]
  clear h1
  by_cases h1 : how = 3
  · subst h1
    rw [if_pos rfl]
    go_enter Try.func82, Try.ntmps82
    go_wp2_with fail
    go_ret
    exact ⟨by simp; exact beq_dec _ _, rfl⟩
  have g3 : (how == 3) = false := beq_eq_false_iff_ne.2 h1
  rw [if_neg h1]
  clear h1
  go_enter Try.func82, Try.ntmps82
  go_wp2_with fail
  go_ret
  exact ⟨rfl, rfl⟩
end Go.Proofs.Ytcgljmeppmdihaa
