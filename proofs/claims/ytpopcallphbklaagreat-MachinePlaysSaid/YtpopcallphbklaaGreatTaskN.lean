
/- Package task: what is asked of a task; Run. -/
import Derived.Test.YtpopcallphbklaaGreatTaskM
namespace Go.Proofs.YtpopcallphbklaaGreat
open Go.ChangeShapes Go.WideShapes Go.ChangeAt Go.RowKit
set_option linter.unusedVariables false
set_option maxRecDepth 100000
set_option linter.unusedSimpArgs false
/-- an operation, or a parking -/
theorem TaskG.kinds {w : World} {C P t : Nat} {Q : Nat → Prop} {x : Itm} {r : List Itm} {v : Int} (h : TaskG w C P t Q (x :: r) v) :
    (x.kind < 5 ∧ ∃ b rest, Live w t (cloV 101 #[pV b]) (.pointer none) rest) ∨ ((x.kind = 5 ∨ x.kind = 6) ∧ ∃ pb rest, Live w t .nilFunc (pV pb) rest ∧ Blk w pb 148 #[pV P, .int .i64 x.at', .bool (x.kind == 6)]) := by
  obtain ⟨Q1, q1, q2, hlt, d, p, rest, gs, fs, hL, hT, hO, hc⟩ := h.view
  rcases hO with ⟨⟨b, F, caps, rfl, rfl, _, _, bc, bi, _, _, _, _, hO⟩, _⟩ | ⟨hk, rfl, rfl, pb, rfl, _, hb⟩
  · refine .inl ⟨?_, b, rest, hL⟩
    rcases hO with ⟨h, _⟩ | ⟨h, _⟩ | ⟨h, _⟩ | ⟨h, _⟩ <;> omega
  · exact .inr ⟨hk, pb, rest, hL, hb⟩
theorem op_no (C P t : Nat) (Q : Nat → Prop) (x : Itm) (r : List Itm) (v k : Int) (w : World) (h : TaskG w C P t Q (x :: r) v) (hk : x.kind < 5) (h0 : k ≠ 0) :
    Calls Tryz.prog 70 #[pV t, .int .i64 k] w fun e w' => e = .returned (.bool false) ∧ Keep (fun _ => False) w w' := by
  rcases h.kinds with ⟨_, b, rest, hL⟩ | ⟨hk2, _⟩
  · exact step_no t _ _ rest k 0 w hL (opend_do_no b k w h0)
  · omega
theorem park_no (C P R t : Nat) (cs : List Nat) (ps : List Bool) (Q : Nat → Prop) (x : Itm) (r : List Itm) (v k : Int) (b : Bool) (w : World) (h : TaskG w C P t Q (x :: r) v) (hP : PermitsAt w P R cs ps) (hk : x.kind = 5 ∨ x.kind = 6) (hx : ps[x.at']? = some b) (he : endsS b (x.kind == 6) k = false) :
    Calls Tryz.prog 70 #[pV t, .int .i64 k] w fun e w' => e = .returned (.bool false) ∧ Keep (fun _ => False) w w' := by
  rcases h.kinds with ⟨hk2, _⟩ | ⟨_, pb, rest, hL, hb⟩
  · omega
  · refine step_no t _ _ rest k 0 w hL (opend_park pb k 0 false w (fun w' => Keep (fun _ => False) w w') fun W hw => ?_)
    have kW : Keep (fun _ => False) w W := Keep.ofBelow hw
    refine (pend_no P R cs ps pb x.at' _ b k W (hb.below hw hb.lt) (hP.keep kW (fun h => h) (fun h => h) (fun _ _ h => h)) hx he).mono ?_
    rintro e w' ⟨rfl, g1⟩
    exact ⟨rfl, kW.trans g1⟩
theorem can_done (C P t : Nat) (Q : Nat → Prop) (v k : Int) (w : World) (h : TaskG w C P t Q [] v) :
    Calls Tryz.prog 40 #[pV t, .int .i64 k] w fun e w' => e = .returned (.bool false) ∧ w = w' := by
  obtain ⟨k', e, hb⟩ := h.done.resolve_left (fun h => by cases h.1)
  obtain rfl : t = k' := by simpa using e
  have HP := Lib.hid (parked_no t _ _ _ w hb)
  have HD := Lib.hid (done_yes t _ _ w hb)
  clear hb h
  go_enter Tryz.func40, Tryz.ntmps40
  go_wp2_with (first | (go_at_call 67; refine HP.out.mono ?_; rintro e w2 ⟨rfl, rfl⟩) | (go_at_call 44; refine HD.out.mono ?_; rintro e w2 ⟨rfl, rfl⟩))
  go_ret
  exact ⟨rfl, rfl⟩
theorem can_op (C P t : Nat) (Q : Nat → Prop) (x : Itm) (r : List Itm) (v k : Int) (w : World) (h : TaskG w C P t Q (x :: r) v) (hk : x.kind < 5) :
    Calls Tryz.prog 40 #[pV t, .int .i64 k] w fun e w' => e = .returned (.bool (k == 0)) ∧ w = w' := by
  rcases h.kinds with ⟨_, b, rest, hL⟩ | ⟨hk2, _⟩
  · have HP := Lib.hid (parked_no t _ _ _ w hL.blk)
    have HD := Lib.hid (live_done t _ _ _ w hL)
    clear h hL
    by_cases h0 : k = 0
    · subst h0
      go_enter Tryz.func40, Tryz.ntmps40
      go_wp2_with (first | (go_at_call 67; refine HP.out.mono ?_; rintro e w2 ⟨rfl, rfl⟩) | (go_at_call 44; refine HD.out.mono ?_; rintro e w2 ⟨rfl, rfl⟩))
      go_ret
      exact ⟨rfl, rfl⟩
    · go_enter Tryz.func40, Tryz.ntmps40
      go_wp2_with (first | (go_at_call 67; refine HP.out.mono ?_; rintro e w2 ⟨rfl, rfl⟩) | (go_at_call 44; refine HD.out.mono ?_; rintro e w2 ⟨rfl, rfl⟩))
      go_ret
      exact ⟨by simp [h0], rfl⟩
  · omega
theorem can_park (C P R t : Nat) (cs : List Nat) (ps : List Bool) (Q : Nat → Prop) (x : Itm) (r : List Itm) (v k : Int) (b : Bool) (w : World) (h : TaskG w C P t Q (x :: r) v) (hP : PermitsAt w P R cs ps) (hk : x.kind = 5 ∨ x.kind = 6) (hx : ps[x.at']? = some b) :
    Calls Tryz.prog 40 #[pV t, .int .i64 k] w fun e w' => e = .returned (.bool (endsS b (x.kind == 6) k)) ∧ Keep (fun _ => False) w w' := by
  rcases h.kinds with ⟨hk2, _⟩ | ⟨_, pb, rest, hL, hb⟩
  · omega
  · have HP := Lib.hid (parked_yes t pb _ _ _ w hL.blk)
    have HE := Lib.hid (ends_any P R cs ps pb x.at' _ b k w hb hP hx)
    have c1 : w.cell? ⟨t, 1, none⟩ = some (pV pb) := hL.blk.cell 1 _ rfl
    generalize endsS b (x.kind == 6) k = res at *
    clear h hL hP hx hb
    go_enter Tryz.func40, Tryz.ntmps40
    go_wp2_with (first | (go_at_call 67; refine HP.out.mono ?_; rintro e w2 ⟨rfl, rfl⟩) | (go_at_call 74; refine HE.out.mono ?_; rintro e w2 ⟨rfl, hk2⟩))
    go_ret
    exact ⟨rfl, hk2⟩
theorem isdone_any (C P t : Nat) (Q : Nat → Prop) (r : List Itm) (v : Int) (w : World) (h : TaskG w C P t Q r v) :
    Calls Tryz.prog 44 #[pV t] w fun e w' => e = .returned (.bool r.isEmpty) ∧ w = w' := by
  cases r with
  | nil => exact doneV_done _ v w h.done
  | cons x r =>
    rcases h.kinds with ⟨_, b, rest, hL⟩ | ⟨_, pb, rest, hL, _⟩
    · exact live_done t _ _ _ w hL
    · exact live_done t _ _ _ w hL
theorem isvalue_any (C P t : Nat) (Q : Nat → Prop) (r : List Itm) (v : Int) (w : World) (h : TaskG w C P t Q r v) :
    Calls Tryz.prog 98 #[pV t] w fun e w' => e = .returned (.int .i64 (valueS r v)) ∧ w = w' := by
  cases r with
  | nil => exact doneV_value _ v w h.done
  | cons x r =>
    rcases h.kinds with ⟨_, b, rest, hL⟩ | ⟨_, pb, rest, hL, _⟩
    · exact value_any t _ _ _ 0 w hL.blk
    · exact value_any t _ _ _ 0 w hL.blk
theorem isparked_any (C P t : Nat) (Q : Nat → Prop) (r : List Itm) (v : Int) (w : World) (h : TaskG w C P t Q r v) :
    Calls Tryz.prog 67 #[pV t] w fun e w' => e = .returned (.bool (parkedS r)) ∧ w = w' := by
  cases r with
  | nil =>
    obtain ⟨k', e, hb⟩ := h.done.resolve_left (fun h => by cases h.1)
    obtain rfl : t = k' := by simpa using e
    exact parked_no t _ _ _ w hb
  | cons x r =>
    rcases h.kinds with ⟨hk, b, rest, hL⟩ | ⟨hk, pb, rest, hL, _⟩
    · have e : parkedS (x :: r) = false := by simp [parkedS]; omega
      rw [e]; exact parked_no t _ _ _ w hL.blk
    · have e : parkedS (x :: r) = true := by simp [parkedS]; omega
      rw [e]; exact parked_yes t pb _ _ _ w hL.blk
/- Run, of a task that neither parks nor spins -/
end Go.Proofs.YtpopcallphbklaaGreat
