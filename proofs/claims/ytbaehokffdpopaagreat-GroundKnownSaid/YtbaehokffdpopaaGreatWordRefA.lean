/- The document's answer for layer 2: which headers may be. -/
import Derived.Test.YtbaehokffdpopaaGreatWordE
namespace Go.Proofs.YtbaehokffdpopaaGreat
open Go.ChangeShapes Go.WideShapes Go.ChangeAt Go.RowKit
set_option linter.unusedVariables false
set_option linter.unusedSimpArgs false
open Wd
theorem from_any (n a b : Int) (w : World) : Calls Tryz.prog 181 #[.int .i64 n, .int .i64 a, .int .i64 b] w fun e w' => e = .returned (.bool (inB a n b)) ∧ w = w' := by
  by_cases h1 : a ≤ n
  · by_cases h2 : n ≤ b
    all_goals
      have h3 : inB a n b = decide (n ≤ b) := by simp [inB, h1]
      have H := Lib.hid h3
      clear h3
      go_enter Tryz.func181, Tryz.ntmps181
      go_wp2
      go_ret
      refine ⟨ret_bool ?_, rfl⟩
      rw [H.out]
      simp [h2]
  · have h3 : inB a n b = false := by simp [inB, h1]
    have H := Lib.hid h3
    clear h3
    go_enter Tryz.func181, Tryz.ntmps181
    go_wp2
    go_ret
    exact ⟨ret_bool H.out.symm, rfl⟩
theorem in_yes {a n b : Int} (h : a ≤ n ∧ n ≤ b) : inB a n b = true := by simp [inB, h.1, h.2]
theorem in_no {a n b : Int} (h : ¬ (a ≤ n ∧ n ≤ b)) : inB a n b = false := by
  rw [Bool.eq_false_iff]; intro e; simp [inB] at e; omega
/-- may this header be? -/
def okB (x : Hd) : Bool := decide (okP x)
theorem ok_yes {x : Hd} (h : okP x) : okB x = true := decide_eq_true h
theorem ok_no {x : Hd} (h : ¬ okP x) : okB x = false := decide_eq_false h
def MayPost (x : Hd) (w : World) (e : Ending) (w' : World) : Prop := e = .returned (.bool (okB x)) ∧ Below w.heap.size w w'
set_option maxRecDepth 100000 in
set_option maxHeartbeats 4000000 in
theorem may_tag (t o c m g h : Int) (w : World) (ht : ¬ (0 ≤ t ∧ t ≤ 4)) : Calls Tryz.prog 128 #[hdV ⟨t, o, c, m, g, h⟩] w (MayPost ⟨t, o, c, m, g, h⟩ w) := by
  have i0 := in_no ht
  have HV : Hid (okB ⟨t, o, c, m, g, h⟩ = false) := Lib.hid (ok_no (by intro h; unfold okP at h; dsimp only at h; omega))
  clear ht
  go_enter Tryz.func128, Tryz.ntmps128
  go_wp2_with (go_at_call 181; (with_reducible refine (from_any _ _ _ _).mono ?_); rintro e w1 ⟨rfl, rfl⟩)
  go_ret
  exact ⟨ret_bool (by rw [HV.out]), by go_grown⟩
set_option maxRecDepth 100000 in
set_option maxHeartbeats 4000000 in
theorem may_hash (t o c m g h : Int) (w : World) (ht : 0 ≤ t ∧ t ≤ 4) (hh : ¬ (0 ≤ h ∧ h ≤ 16777215)) : Calls Tryz.prog 128 #[hdV ⟨t, o, c, m, g, h⟩] w (MayPost ⟨t, o, c, m, g, h⟩ w) := by
  have i0 := in_yes ht
  have i1 := in_no hh
  have HV : Hid (okB ⟨t, o, c, m, g, h⟩ = false) := Lib.hid (ok_no (by intro h; unfold okP at h; dsimp only at h; omega))
  clear ht hh
  go_enter Tryz.func128, Tryz.ntmps128
  go_wp2_with (go_at_call 181; (with_reducible refine (from_any _ _ _ _).mono ?_); rintro e w1 ⟨rfl, rfl⟩)
  go_ret
  exact ⟨ret_bool (by rw [HV.out]), by go_grown⟩
set_option maxRecDepth 100000 in
set_option maxHeartbeats 4000000 in
theorem may_biased (o c m g h : Int) (w : World) (hh : 0 ≤ h ∧ h ≤ 16777215) : Calls Tryz.prog 128 #[hdV ⟨2, o, c, m, g, h⟩] w (MayPost ⟨2, o, c, m, g, h⟩ w) := by
  have it : inB 0 2 4 = true := rfl
  have i1 := in_yes hh
  by_cases ho : 0 ≤ o ∧ o ≤ 32765
  · have i2 := in_yes ho
    by_cases hc : 0 ≤ c ∧ c ≤ 255
    · have i3 := in_yes hc
      by_cases hm : m = 0
      · subst hm
        by_cases hg : g = 0
        · subst hg
          have HV : Hid (okB ⟨2, o, c, 0, 0, h⟩ = true) := Lib.hid (ok_yes (by refine ⟨⟨?_, ?_⟩, ⟨?_, ?_⟩, ?_, ?_, ?_, ?_, ?_⟩ <;> (dsimp only; omega)))
          clear hh ho hc
          go_enter Tryz.func128, Tryz.ntmps128
          go_wp2_with (go_at_call 181; (with_reducible refine (from_any _ _ _ _).mono ?_); rintro e w1 ⟨rfl, rfl⟩)
          go_ret
          exact ⟨ret_bool (by rw [HV.out]), by go_grown⟩
        · have bg : (g == 0) = false := by simp [hg]
          have HV : Hid (okB ⟨2, o, c, 0, g, h⟩ = false) := Lib.hid (ok_no (by intro h; unfold okP at h; dsimp only at h; omega))
          clear hh ho hc
          go_enter Tryz.func128, Tryz.ntmps128
          go_wp2_with (go_at_call 181; (with_reducible refine (from_any _ _ _ _).mono ?_); rintro e w1 ⟨rfl, rfl⟩)
          go_ret
          exact ⟨ret_bool (by rw [HV.out]), by go_grown⟩
      · have bm : (m == 0) = false := by simp [hm]
        have HV : Hid (okB ⟨2, o, c, m, g, h⟩ = false) := Lib.hid (ok_no (by intro h; unfold okP at h; dsimp only at h; omega))
        clear hh ho hc
        go_enter Tryz.func128, Tryz.ntmps128
        go_wp2_with (go_at_call 181; (with_reducible refine (from_any _ _ _ _).mono ?_); rintro e w1 ⟨rfl, rfl⟩)
        go_ret
        exact ⟨ret_bool (by rw [HV.out]), by go_grown⟩
    · have i3 := in_no hc
      have HV : Hid (okB ⟨2, o, c, m, g, h⟩ = false) := Lib.hid (ok_no (by intro h; unfold okP at h; dsimp only at h; omega))
      clear hh ho hc
      go_enter Tryz.func128, Tryz.ntmps128
      go_wp2_with (go_at_call 181; (with_reducible refine (from_any _ _ _ _).mono ?_); rintro e w1 ⟨rfl, rfl⟩)
      go_ret
      exact ⟨ret_bool (by rw [HV.out]), by go_grown⟩
  · have i2 := in_no ho
    have HV : Hid (okB ⟨2, o, c, m, g, h⟩ = false) := Lib.hid (ok_no (by intro h; unfold okP at h; dsimp only at h; omega))
    clear hh ho
    go_enter Tryz.func128, Tryz.ntmps128
    go_wp2_with (go_at_call 181; (with_reducible refine (from_any _ _ _ _).mono ?_); rintro e w1 ⟨rfl, rfl⟩)
    go_ret
    exact ⟨ret_bool (by rw [HV.out]), by go_grown⟩
set_option maxRecDepth 100000 in
set_option maxHeartbeats 4000000 in
theorem may_thin (o c m g h : Int) (w : World) (hh : 0 ≤ h ∧ h ≤ 16777215) : Calls Tryz.prog 128 #[hdV ⟨3, o, c, m, g, h⟩] w (MayPost ⟨3, o, c, m, g, h⟩ w) := by
  have it : inB 0 3 4 = true := rfl
  have i1 := in_yes hh
  by_cases ho : 0 ≤ o ∧ o ≤ 32765
  · have i2 := in_yes ho
    by_cases hc : 0 ≤ c ∧ c ≤ 255
    · have i3 := in_yes hc
      by_cases hz : c = 0
      · subst hz
        have HV : Hid (okB ⟨3, o, 0, m, g, h⟩ = false) := Lib.hid (ok_no (by intro h; unfold okP at h; dsimp only at h; omega))
        clear hh ho hc
        go_enter Tryz.func128, Tryz.ntmps128
        go_wp2_with (go_at_call 181; (with_reducible refine (from_any _ _ _ _).mono ?_); rintro e w1 ⟨rfl, rfl⟩)
        go_ret
        exact ⟨ret_bool (by rw [HV.out]), by go_grown⟩
      · have bz : (c == 0) = false := by simp [hz]
        by_cases hm : m = 0
        · subst hm
          by_cases hg : g = 0
          · subst hg
            have HV : Hid (okB ⟨3, o, c, 0, 0, h⟩ = true) := Lib.hid (ok_yes (by refine ⟨⟨?_, ?_⟩, ⟨?_, ?_⟩, ?_, ?_, ?_, ?_, ?_⟩ <;> (dsimp only; omega)))
            clear hh ho hc
            go_enter Tryz.func128, Tryz.ntmps128
            go_wp2_with (go_at_call 181; (with_reducible refine (from_any _ _ _ _).mono ?_); rintro e w1 ⟨rfl, rfl⟩)
            go_ret
            exact ⟨ret_bool (by rw [HV.out]), by go_grown⟩
          · have bg : (g == 0) = false := by simp [hg]
            have HV : Hid (okB ⟨3, o, c, 0, g, h⟩ = false) := Lib.hid (ok_no (by intro h; unfold okP at h; dsimp only at h; omega))
            clear hh ho hc
            go_enter Tryz.func128, Tryz.ntmps128
            go_wp2_with (go_at_call 181; (with_reducible refine (from_any _ _ _ _).mono ?_); rintro e w1 ⟨rfl, rfl⟩)
            go_ret
            exact ⟨ret_bool (by rw [HV.out]), by go_grown⟩
        · have bm : (m == 0) = false := by simp [hm]
          have HV : Hid (okB ⟨3, o, c, m, g, h⟩ = false) := Lib.hid (ok_no (by intro h; unfold okP at h; dsimp only at h; omega))
          clear hh ho hc
          go_enter Tryz.func128, Tryz.ntmps128
          go_wp2_with (go_at_call 181; (with_reducible refine (from_any _ _ _ _).mono ?_); rintro e w1 ⟨rfl, rfl⟩)
          go_ret
          exact ⟨ret_bool (by rw [HV.out]), by go_grown⟩
    · have i3 := in_no hc
      have HV : Hid (okB ⟨3, o, c, m, g, h⟩ = false) := Lib.hid (ok_no (by intro h; unfold okP at h; dsimp only at h; omega))
      clear hh ho hc
      go_enter Tryz.func128, Tryz.ntmps128
      go_wp2_with (go_at_call 181; (with_reducible refine (from_any _ _ _ _).mono ?_); rintro e w1 ⟨rfl, rfl⟩)
      go_ret
      exact ⟨ret_bool (by rw [HV.out]), by go_grown⟩
  · have i2 := in_no ho
    have HV : Hid (okB ⟨3, o, c, m, g, h⟩ = false) := Lib.hid (ok_no (by intro h; unfold okP at h; dsimp only at h; omega))
    clear hh ho
    go_enter Tryz.func128, Tryz.ntmps128
    go_wp2_with (go_at_call 181; (with_reducible refine (from_any _ _ _ _).mono ?_); rintro e w1 ⟨rfl, rfl⟩)
    go_ret
    exact ⟨ret_bool (by rw [HV.out]), by go_grown⟩
set_option maxRecDepth 100000 in
set_option maxHeartbeats 4000000 in
theorem may_fat (o c m g h : Int) (w : World) (hh : 0 ≤ h ∧ h ≤ 16777215) : Calls Tryz.prog 128 #[hdV ⟨4, o, c, m, g, h⟩] w (MayPost ⟨4, o, c, m, g, h⟩ w) := by
  have it : inB 0 4 4 = true := rfl
  have i1 := in_yes hh
  by_cases ho : o = 0
  · subst ho
    by_cases hc : c = 0
    · subst hc
      by_cases hm : 0 ≤ m ∧ m ≤ 4095
      · have i2 := in_yes hm
        by_cases hg : 0 ≤ g ∧ g ≤ 4095
        · have i3 := in_yes hg
          have HV : Hid (okB ⟨4, 0, 0, m, g, h⟩ = true) := Lib.hid (ok_yes (by refine ⟨⟨?_, ?_⟩, ⟨?_, ?_⟩, ?_, ?_, ?_, ?_, ?_⟩ <;> (dsimp only; omega)))
          clear hh hm hg
          go_enter Tryz.func128, Tryz.ntmps128
          go_wp2_with (go_at_call 181; (with_reducible refine (from_any _ _ _ _).mono ?_); rintro e w1 ⟨rfl, rfl⟩)
          go_ret
          exact ⟨ret_bool (by rw [HV.out]), by go_grown⟩
        · have i3 := in_no hg
          have HV : Hid (okB ⟨4, 0, 0, m, g, h⟩ = false) := Lib.hid (ok_no (by intro h; unfold okP at h; dsimp only at h; omega))
          clear hh hm hg
          go_enter Tryz.func128, Tryz.ntmps128
          go_wp2_with (go_at_call 181; (with_reducible refine (from_any _ _ _ _).mono ?_); rintro e w1 ⟨rfl, rfl⟩)
          go_ret
          exact ⟨ret_bool (by rw [HV.out]), by go_grown⟩
      · have i2 := in_no hm
        have HV : Hid (okB ⟨4, 0, 0, m, g, h⟩ = false) := Lib.hid (ok_no (by intro h; unfold okP at h; dsimp only at h; omega))
        clear hh hm
        go_enter Tryz.func128, Tryz.ntmps128
        go_wp2_with (go_at_call 181; (with_reducible refine (from_any _ _ _ _).mono ?_); rintro e w1 ⟨rfl, rfl⟩)
        go_ret
        exact ⟨ret_bool (by rw [HV.out]), by go_grown⟩
    · have bc : (c != 0) = true := by simp [hc]
      have HV : Hid (okB ⟨4, 0, c, m, g, h⟩ = false) := Lib.hid (ok_no (by intro h; unfold okP at h; dsimp only at h; omega))
      clear hh
      go_enter Tryz.func128, Tryz.ntmps128
      go_wp2_with (go_at_call 181; (with_reducible refine (from_any _ _ _ _).mono ?_); rintro e w1 ⟨rfl, rfl⟩)
      go_ret
      exact ⟨ret_bool (by rw [HV.out]), by go_grown⟩
  · have bo : (o != 0) = true := by simp [ho]
    have HV : Hid (okB ⟨4, o, c, m, g, h⟩ = false) := Lib.hid (ok_no (by intro h; unfold okP at h; dsimp only at h; omega))
    clear hh
    go_enter Tryz.func128, Tryz.ntmps128
    go_wp2_with (go_at_call 181; (with_reducible refine (from_any _ _ _ _).mono ?_); rintro e w1 ⟨rfl, rfl⟩)
    go_ret
    exact ⟨ret_bool (by rw [HV.out]), by go_grown⟩
set_option maxRecDepth 100000 in
set_option maxHeartbeats 4000000 in
theorem may_free (t o c m g h : Int) (w : World) (ht : 0 ≤ t ∧ t ≤ 4) (h2 : ¬ t = 2) (h3 : ¬ t = 3) (h4 : ¬ t = 4) (hh : 0 ≤ h ∧ h ≤ 16777215) : Calls Tryz.prog 128 #[hdV ⟨t, o, c, m, g, h⟩] w (MayPost ⟨t, o, c, m, g, h⟩ w) := by
  have it := in_yes ht
  have i1 := in_yes hh
  have b2 : (t == 2) = false := by simp [h2]
  have b3 : (t == 3) = false := by simp [h3]
  have b4 : (t == 4) = false := by simp [h4]
  by_cases ho : o = 0
  · subst ho
    by_cases hc : c = 0
    · subst hc
      by_cases hm : m = 0
      · subst hm
        by_cases hg : g = 0
        · subst hg
          have HV : Hid (okB ⟨t, 0, 0, 0, 0, h⟩ = true) := Lib.hid (ok_yes (by refine ⟨⟨?_, ?_⟩, ⟨?_, ?_⟩, ?_, ?_, ?_, ?_, ?_⟩ <;> (dsimp only; omega)))
          clear ht hh
          go_enter Tryz.func128, Tryz.ntmps128
          go_wp2_with (go_at_call 181; (with_reducible refine (from_any _ _ _ _).mono ?_); rintro e w1 ⟨rfl, rfl⟩)
          go_ret
          exact ⟨ret_bool (by rw [HV.out]), by go_grown⟩
        · have bg : (g == 0) = false := by simp [hg]
          have HV : Hid (okB ⟨t, 0, 0, 0, g, h⟩ = false) := Lib.hid (ok_no (by intro h; unfold okP at h; dsimp only at h; omega))
          clear ht hh
          go_enter Tryz.func128, Tryz.ntmps128
          go_wp2_with (go_at_call 181; (with_reducible refine (from_any _ _ _ _).mono ?_); rintro e w1 ⟨rfl, rfl⟩)
          go_ret
          exact ⟨ret_bool (by rw [HV.out]), by go_grown⟩
      · have bm : (m == 0) = false := by simp [hm]
        have HV : Hid (okB ⟨t, 0, 0, m, g, h⟩ = false) := Lib.hid (ok_no (by intro h; unfold okP at h; dsimp only at h; omega))
        clear ht hh
        go_enter Tryz.func128, Tryz.ntmps128
        go_wp2_with (go_at_call 181; (with_reducible refine (from_any _ _ _ _).mono ?_); rintro e w1 ⟨rfl, rfl⟩)
        go_ret
        exact ⟨ret_bool (by rw [HV.out]), by go_grown⟩
    · have bc : (c != 0) = true := by simp [hc]
      have HV : Hid (okB ⟨t, 0, c, m, g, h⟩ = false) := Lib.hid (ok_no (by intro h; unfold okP at h; dsimp only at h; omega))
      clear ht hh
      go_enter Tryz.func128, Tryz.ntmps128
      go_wp2_with (go_at_call 181; (with_reducible refine (from_any _ _ _ _).mono ?_); rintro e w1 ⟨rfl, rfl⟩)
      go_ret
      exact ⟨ret_bool (by rw [HV.out]), by go_grown⟩
  · have bo : (o != 0) = true := by simp [ho]
    have HV : Hid (okB ⟨t, o, c, m, g, h⟩ = false) := Lib.hid (ok_no (by intro h; unfold okP at h; dsimp only at h; omega))
    clear ht hh
    go_enter Tryz.func128, Tryz.ntmps128
    go_wp2_with (go_at_call 181; (with_reducible refine (from_any _ _ _ _).mono ?_); rintro e w1 ⟨rfl, rfl⟩)
    go_ret
    exact ⟨ret_bool (by rw [HV.out]), by go_grown⟩
theorem may_any (x : Hd) (w : World) : Calls Tryz.prog 128 #[hdV x] w (MayPost x w) := by
  obtain ⟨t, o, c, m, g, h⟩ := x
  by_cases ht : 0 ≤ t ∧ t ≤ 4
  · by_cases hh : 0 ≤ h ∧ h ≤ 16777215
    · by_cases h2 : t = 2
      · subst h2; exact may_biased o c m g h w hh
      · by_cases h3 : t = 3
        · subst h3; exact may_thin o c m g h w hh
        · by_cases h4 : t = 4
          · subst h4; exact may_fat o c m g h w hh
          · exact may_free t o c m g h w ht h2 h3 h4 hh
    · exact may_hash t o c m g h w ht hh
  · exact may_tag t o c m g h w ht
end Go.Proofs.YtbaehokffdpopaaGreat
