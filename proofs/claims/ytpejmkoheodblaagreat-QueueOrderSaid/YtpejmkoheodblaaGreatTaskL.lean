/- Package task: a step. -/
import Derived.Test.YtpejmkoheodblaaGreatTaskK
import Derived.Test.YtpejmkoheodblaaGreatPermD
namespace Go.Proofs.YtpejmkoheodblaaGreat
open Go.ChangeShapes Go.WideShapes Go.ChangeAt Go.RowKit
set_option linter.unusedVariables false
set_option maxRecDepth 100000
set_option linter.unusedSimpArgs false
/-- does a step of this kind end a parking? -/
def endsS (b timed : Bool) (k : Int) : Bool := if k = 0 then b else if k = 1 then timed else k == 2
theorem ends_any (P S : Nat) (cs : List Nat) (ps : List Bool) (pb i : Nat) (timed b : Bool) (k : Int) (w : World) (h : Blk w pb 138 #[pV P, .int .i64 i, .bool timed]) (hP : PermitsAt w P S cs ps) (hb : ps[i]? = some b) :
    Calls Tryz.prog 126 #[pV pb, .int .i64 k] w fun e w' => e = .returned (.bool (endsS b timed k)) ∧ Keep (fun _ => False) w w' := by
  have c0 : w.cell? ⟨pb, 0, none⟩ = some (pV P) := h.cell 0 _ rfl
  have c1 : w.cell? ⟨pb, 1, none⟩ = some (.int .i64 i) := h.cell 1 _ rfl
  have c2 : w.cell? ⟨pb, 2, none⟩ = some (.bool timed) := h.cell 2 _ rfl
  have HH := Lib.hid fun W (hk : Keep (fun _ => False) w W) => has_any P S cs ps i b W (hP.keep hk (fun h => h) (fun h => h) (fun _ _ h => h)) hb
  clear hP h hb
  by_cases h0 : k = 0
  · subst h0
    go_enter Tryz.func126, Tryz.ntmps126
    go_upto_region 3 with fail
    go_quiet (first | (go_at_call 137; exact Calls.quiet_of_same ((HH.out _ ((Keep.refl _ _).drewN _)).mono (by rintro e w1 ⟨rfl, rfl⟩; exact ⟨rfl, rfl⟩))))
    go_wp2
    go_ret
    exact ⟨rfl, (Keep.refl _ _).drewN _⟩
  · by_cases h1 : k = 1
    · subst h1
      go_enter Tryz.func126, Tryz.ntmps126
      go_wp2
      go_ret
      exact ⟨rfl, Keep.refl _ _⟩
    · go_enter Tryz.func126, Tryz.ntmps126
      go_wp2
      · go_ret
        exact ⟨by simp_all [endsS], Keep.refl _ _⟩
/-- a step by which nothing ends -/
theorem pend_no (P S : Nat) (cs : List Nat) (ps : List Bool) (pb i : Nat) (timed b : Bool) (k : Int) (w : World) (h : Blk w pb 138 #[pV P, .int .i64 i, .bool timed]) (hP : PermitsAt w P S cs ps) (hb : ps[i]? = some b) (hk : endsS b timed k = false) :
    Calls Tryz.prog 101 #[pV pb, .int .i64 k] w fun e w' => e = .returned (.tuple #[.int .i64 0, .bool false]) ∧ Keep (fun _ => False) w w' := by
  have c0 : w.cell? ⟨pb, 0, none⟩ = some (pV P) := h.cell 0 _ rfl
  have c1 : w.cell? ⟨pb, 1, none⟩ = some (.int .i64 i) := h.cell 1 _ rfl
  by_cases h0 : k = 0
  · subst h0
    obtain rfl : b = false := by simpa [endsS] using hk
    have HH := Lib.hid fun W (hk : Keep (fun _ => False) w W) => take_empty P S cs ps i W (hP.keep hk (fun h => h) (fun h => h) (fun _ _ h => h)) hb
    clear hP h hb hk
    go_enter Tryz.func101, Tryz.ntmps101
    go_upto_region 2 with fail
    go_quiet (first | (go_at_call 125; exact Calls.quiet_of_same ((HH.out _ ((Keep.refl _ _).drewN _)).mono (by rintro e w1 ⟨rfl, rfl⟩; exact ⟨rfl, rfl⟩))))
    go_wp2
    refine bodyPost_ret (v := .tuple #[.int .i64 0, .bool false]) (by simp [results, Tryz.results101, go_sem]) rfl ?_
    exact ⟨rfl, (Keep.refl _ _).drewN _⟩
  · have HH := Lib.hid (ends_any P S cs ps pb i timed b k w h hP hb)
    rw [hk] at HH
    clear hP h hb hk
    go_enter Tryz.func101, Tryz.ntmps101
    go_wp2_with (go_at_call 126; refine HH.out.mono ?_; rintro e w2 ⟨rfl, hk2⟩)
    refine bodyPost_ret (v := .tuple #[.int .i64 0, .bool false]) (by simp [results, Tryz.results101, go_sem]) rfl ?_
    exact ⟨rfl, hk2⟩
/-- by time, or without a reason -/
theorem pend_kind (P S : Nat) (cs : List Nat) (ps : List Bool) (pb i : Nat) (timed b : Bool) (k : Int) (w : World) (h : Blk w pb 138 #[pV P, .int .i64 i, .bool timed]) (hP : PermitsAt w P S cs ps) (hb : ps[i]? = some b) (hk : endsS b timed k = true) (h0 : k ≠ 0) :
    Calls Tryz.prog 101 #[pV pb, .int .i64 k] w fun e w' => e = .returned (.tuple #[.int .i64 k, .bool true]) ∧ Keep (fun _ => False) w w' := by
  have HH := Lib.hid (ends_any P S cs ps pb i timed b k w h hP hb)
  rw [hk] at HH
  have hk12 : k = 1 ∨ k = 2 := by
    by_cases h1 : k = 1
    · exact .inl h1
    · right; simpa [endsS, h0, h1] using hk
  clear hP h hb hk
  rcases hk12 with rfl | rfl
  · go_enter Tryz.func101, Tryz.ntmps101
    go_wp2_with (go_at_call 126; refine HH.out.mono ?_; rintro e w2 ⟨rfl, hk2⟩)
    refine bodyPost_ret (v := .tuple #[.int .i64 1, .bool true]) (by simp [results, Tryz.results101, go_sem]) rfl ?_
    exact ⟨rfl, hk2⟩
  · go_enter Tryz.func101, Tryz.ntmps101
    go_wp2_with (go_at_call 126; refine HH.out.mono ?_; rintro e w2 ⟨rfl, hk2⟩)
    refine bodyPost_ret (v := .tuple #[.int .i64 2, .bool true]) (by simp [results, Tryz.results101, go_sem]) rfl ?_
    exact ⟨rfl, hk2⟩
theorem PermitsAt.notin {w : World} {P S : Nat} {cs : List Nat} {ps : List Bool} (hP : PermitsAt w P S cs ps) {b : Nat} {t : TypeId} {xs : Array Value} (hb : Blk w b t xs) : ¬ b ∈ cs := fun hx => by
  obtain ⟨i, hi⟩ := List.mem_iff_getElem?.1 hx
  have hlt := (List.getElem?_eq_some_iff.1 hi).1
  exact (hP.chan i _ (ps[i]'(by rw [← hP.len]; exact hlt)) hi (by simp)).apart hb rfl
/-- by a permit -/
theorem pend_take (P S : Nat) (cs : List Nat) (ps : List Bool) (pb i : Nat) (timed : Bool) (w : World) (h : Blk w pb 138 #[pV P, .int .i64 i, .bool timed]) (hP : PermitsAt w P S cs ps) (hb : ps[i]? = some true) :
    Calls Tryz.prog 101 #[pV pb, .int .i64 0] w fun e w' => e = .returned (.tuple #[.int .i64 0, .bool true]) ∧ PermitsAt w' P S cs (ps.set i false) ∧ Keep (fun b => b ∈ cs) w w' := by
  have c0 : w.cell? ⟨pb, 0, none⟩ = some (pV P) := h.cell 0 _ rfl
  have c1 : w.cell? ⟨pb, 1, none⟩ = some (.int .i64 i) := h.cell 1 _ rfl
  have hni := hP.notin h
  have HH := Lib.hid (take_any P S cs ps i true w.drew (hP.keep ((Keep.refl (fun _ => False) w).drew) (fun h => h) (fun h => h) (fun _ _ h => h)) hb)
  have SK := Lib.hid (show ∀ W, Keep (fun b => b ∈ cs) w W → W.cell? ⟨pb, 0, none⟩ = some (pV P) ∧ W.cell? ⟨pb, 1, none⟩ = some (.int .i64 i) from fun W hk => ⟨cell_keep6 c0 hk hni, cell_keep6 c1 hk hni⟩)
  have k0 : Keep (fun b => b ∈ cs) w w.drew := (Keep.refl _ _).drew
  clear hP h hb hni c0 c1
  go_enter Tryz.func101, Tryz.ntmps101
  go_upto_region 2 with fail
  go_region_held3 (fun W => W.cell? ⟨pb, 0, none⟩ = some (pV P) ∧ W.cell? ⟨pb, 1, none⟩ = some (.int .i64 i)) (exact SK.out _ (by assumption)) (first | (go_at_call 125; refine HH.out.mono ?_; rintro e w2 ⟨rfl, hP2, hk2⟩; replace k0 := k0.trans hk2))
  go_wp2
  refine bodyPost_ret (v := .tuple #[.int .i64 0, .bool true]) (by simp [results, Tryz.results101, go_sem]) rfl ?_
  exact ⟨rfl, hP2, k0⟩
/- the operation at hand -/
theorem opend_park (pb : Nat) (k v : Int) (b : Bool) (w : World) (R : World → Prop) (H : ∀ W, Below w.heap.size w W → Calls Tryz.prog 101 #[pV pb, .int .i64 k] W fun e w' => e = .returned (.tuple #[.int .i64 v, .bool b]) ∧ R w') :
    Calls Tryz.prog 67 #[.agg #[.nilFunc, pV pb], .int .i64 k] w fun e w' => e = .returned (.tuple #[.int .i64 v, .bool b]) ∧ R w' := by
  have HH := Lib.hid H
  clear H
  go_enter Tryz.func67, Tryz.ntmps67
  go_upto_region 1 with fail
  generalize hW : (w.alloc _) = W
  have bW : Below w.heap.size w W := by rw [← hW]; go_grown
  have q0 : Blk W w.heap.size 93 #[.nilFunc, pV pb] := by rw [← hW]; exact Blk.new w _ _
  clear hW
  have c1 : W.cell? ⟨w.heap.size, 1, none⟩ = some (pV pb) := q0.cell 1 _ rfl
  have H2 := Lib.hid (HH.out W bW)
  go_wp2_with (go_at_call 101; refine H2.out.mono ?_; rintro e w2 ⟨rfl, hR⟩)
  refine bodyPost_ret (v := .tuple #[.int .i64 v, .bool b]) (by simp [results, Tryz.results67, go_sem]) rfl ?_
  exact ⟨rfl, hR⟩
theorem call_one1 : ∀ (W : World) (args : Array Value), (callFunc 129 args).run Tryz.prog W = .ok (.enter 129 args) W := by
  intro W args
  go_simp
theorem opend_do (b : Nat) (w : World) (R : Int → World → Prop) (H : ∀ W, Below w.heap.size w W → Calls Tryz.prog 129 #[pV b] W fun e w' => ∃ v, e = .returned (.int .i64 v) ∧ R v w') :
    Calls Tryz.prog 67 #[.agg #[cloV 129 #[pV b], .pointer none], .int .i64 0] w fun e w' => ∃ v, e = .returned (.tuple #[.int .i64 v, .bool true]) ∧ R v w' := by
  have HH := Lib.hid H
  clear H
  go_enter Tryz.func67, Tryz.ntmps67
  go_upto_region 1 with fail
  generalize hW : (w.alloc _) = W
  have bW : Below w.heap.size w W := by rw [← hW]; go_grown
  have q0 : Blk W w.heap.size 93 #[cloV 129 #[pV b], .pointer none] := by rw [← hW]; exact Blk.new w _ _
  clear hW
  have c0 : W.cell? ⟨w.heap.size, 0, none⟩ = some (cloV 129 #[pV b]) := q0.cell 0 _ rfl
  have c1 : W.cell? ⟨w.heap.size, 1, none⟩ = some (.pointer none) := q0.cell 1 _ rfl
  have H2 := Lib.hid (HH.out W bW)
  go_wp2_with (go_at_call 129; refine H2.out.mono ?_; rintro e w2 ⟨v, rfl, hR⟩)
  refine bodyPost_ret (v := .tuple #[.int .i64 v, .bool true]) (by simp [results, Tryz.results67, go_sem]) rfl ?_
  exact ⟨v, rfl, hR⟩
theorem opend_do_no (b : Nat) (k : Int) (w : World) (hk : k ≠ 0) :
    Calls Tryz.prog 67 #[.agg #[cloV 129 #[pV b], .pointer none], .int .i64 k] w fun e w' => e = .returned (.tuple #[.int .i64 0, .bool false]) ∧ Keep (fun _ => False) w w' := by
  go_enter Tryz.func67, Tryz.ntmps67
  go_upto_region 1 with fail
  generalize hW : (w.alloc _) = W
  have bW : Below w.heap.size w W := by rw [← hW]; go_grown
  have q0 : Blk W w.heap.size 93 #[cloV 129 #[pV b], .pointer none] := by rw [← hW]; exact Blk.new w _ _
  clear hW
  have c1 : W.cell? ⟨w.heap.size, 1, none⟩ = some (.pointer none) := q0.cell 1 _ rfl
  go_wp2
  refine bodyPost_ret (v := .tuple #[.int .i64 0, .bool false]) (by simp [results, Tryz.results67, go_sem]) rfl ?_
  exact ⟨rfl, Keep.ofBelow bW⟩
/- a step -/
theorem step_done (t : Option Addr) (v k : Int) (w : World) (h : DoneV w t v) : Calls Tryz.prog 36 #[.pointer t, .int .i64 k] w fun e w' => e = .returned (.bool false) ∧ w = w' := by
  have HD := Lib.hid (doneV_done t v w h)
  clear h
  go_enter Tryz.func36, Tryz.ntmps36
  go_wp2_with (go_at_call 37; refine HD.out.mono ?_; rintro e w2 ⟨rfl, rfl⟩)
  go_ret
  exact ⟨rfl, rfl⟩
theorem step_no (t : Nat) (d p r : Value) (k v : Int) (w : World) (h : Live w t d p r) (H : Calls Tryz.prog 67 #[.agg #[d, p], .int .i64 k] w fun e w' => e = .returned (.tuple #[.int .i64 v, .bool false]) ∧ Keep (fun _ => False) w w') :
    Calls Tryz.prog 36 #[pV t, .int .i64 k] w fun e w' => e = .returned (.bool false) ∧ Keep (fun _ => False) w w' := by
  have HD := Lib.hid (live_done t d p r w h)
  have HH := Lib.hid H
  have c0 : w.cell? ⟨t, 0, none⟩ = some d := h.blk.cell 0 _ rfl
  have c1 : w.cell? ⟨t, 1, none⟩ = some p := h.blk.cell 1 _ rfl
  clear h H
  go_enter Tryz.func36, Tryz.ntmps36
  go_wp2_with (first | (go_at_call 37; refine HD.out.mono ?_; rintro e w2 ⟨rfl, rfl⟩) | (go_at_call 67; refine HH.out.mono ?_; rintro e w3 ⟨rfl, hk⟩))
  go_ret
  exact ⟨rfl, hk⟩
theorem step_yes (t : Nat) (d p r : Value) (k : Int) (w : World) (R : Int → World → Prop) (R' : World → Prop) (h : Live w t d p r) (H : Calls Tryz.prog 67 #[.agg #[d, p], .int .i64 k] w fun e w' => ∃ v, e = .returned (.tuple #[.int .i64 v, .bool true]) ∧ R v w')
    (HG : ∀ v w2 w3 n, R v w2 → w2.heap.size ≤ n → DoneV w3 (some ⟨n, 0, none⟩) v → Below w2.heap.size w2 w3 → Calls Tryz.prog 68 #[pV t, pV n] w3 fun e w' => e = .returned (.tuple #[]) ∧ R' w') :
    Calls Tryz.prog 36 #[pV t, .int .i64 k] w fun e w' => e = .returned (.bool true) ∧ R' w' := by
  have HD := Lib.hid (live_done t d p r w h)
  have HH := Lib.hid H
  have HN := Lib.hid HG
  have c0 : w.cell? ⟨t, 0, none⟩ = some d := h.blk.cell 0 _ rfl
  have c1 : w.cell? ⟨t, 1, none⟩ = some p := h.blk.cell 1 _ rfl
  clear h H HG
  go_enter Tryz.func36, Tryz.ntmps36
  go_wp2_with (first | (go_at_call 37; refine HD.out.mono ?_; rintro e w2 ⟨rfl, rfl⟩) | (go_at_call 67; refine HH.out.mono ?_; rintro e w3 ⟨v, rfl, hR⟩; clear c0 c1) | (go_at_call 53; refine (ready_any _ _).mono ?_; rintro e w4 ⟨n, rfl, h1, h2, h3⟩; have H5 := Lib.hid (HN.out v w3 w4 n hR h1 (.inr ⟨n, rfl, h2⟩) h3)) | (go_at_call 68; refine H5.out.mono ?_; rintro e w6 ⟨rfl, hR6⟩))
  go_ret
  exact ⟨rfl, hR6⟩
end Go.Proofs.YtpejmkoheodblaaGreat
