/- Package task: a step. -/
import Derived.Test.YtmknnjjmmfbppaaGreatMgBegAY
import Derived.Test.YtmknnjjmmfbppaaGreatMgBegAZ
namespace Go.Proofs.YtmknnjjmmfbppaaGreat
open Go.ChangeShapes Go.WideShapes Go.ChangeAt Go.RowKit
set_option linter.unusedVariables false
set_option maxRecDepth 100000
set_option linter.unusedSimpArgs false
/-- does a step of this kind end a parking? -/
def endsS (b timed : Bool) (k : Int) : Bool := if k = 0 then b else if k = 1 then timed else k == 2
theorem ends_any (P S : Nat) (cs : List Nat) (ps : List Bool) (pb i : Nat) (timed b : Bool) (k : Int) (w : World) (h : Blk w pb 255 #[pV P, .int .i64 i, .bool timed]) (hP : PermitsAt w P S cs ps) (hb : ps[i]? = some b) :
    Calls Tryz.prog 214 #[pV pb, .int .i64 k] w fun e w' => e = .returned (.bool (endsS b timed k)) ∧ Keep (fun _ => False) w w' := by
  have c0 : w.cell? ⟨pb, 0, none⟩ = some (pV P) := h.cell 0 _ rfl
  have c1 : w.cell? ⟨pb, 1, none⟩ = some (.int .i64 i) := h.cell 1 _ rfl
  have c2 : w.cell? ⟨pb, 2, none⟩ = some (.bool timed) := h.cell 2 _ rfl
  have HH := Lib.hid fun W (hk : Keep (fun _ => False) w W) => has_any P S cs ps i b W (hP.keep hk (fun h => h) (fun h => h) (fun _ _ h => h)) hb
  clear hP h hb
  by_cases h0 : k = 0
  · subst h0
    go_enter Tryz.func214, Tryz.ntmps214
    go_upto_region 3 with fail
    go_quiet (first | (go_at_call 268; exact Calls.quiet_of_same ((HH.out _ ((Keep.refl _ _).drewN _)).mono (by rintro e w1 ⟨rfl, rfl⟩; exact ⟨rfl, rfl⟩))))
    go_wp2
    go_ret
    exact ⟨rfl, (Keep.refl _ _).drewN _⟩
  · by_cases h1 : k = 1
    · subst h1
      go_enter Tryz.func214, Tryz.ntmps214
      go_wp2
      go_ret
      exact ⟨rfl, Keep.refl _ _⟩
    · go_enter Tryz.func214, Tryz.ntmps214
      go_wp2
      · go_ret
        exact ⟨by simp_all [endsS], Keep.refl _ _⟩
/-- a step by which nothing ends -/
theorem pend_no (P S : Nat) (cs : List Nat) (ps : List Bool) (pb i : Nat) (timed b : Bool) (k : Int) (w : World) (h : Blk w pb 255 #[pV P, .int .i64 i, .bool timed]) (hP : PermitsAt w P S cs ps) (hb : ps[i]? = some b) (hk : endsS b timed k = false) :
    Calls Tryz.prog 159 #[pV pb, .int .i64 k] w fun e w' => e = .returned (.tuple #[.int .i64 0, .bool false]) ∧ Keep (fun _ => False) w w' := by
  have c0 : w.cell? ⟨pb, 0, none⟩ = some (pV P) := h.cell 0 _ rfl
  have c1 : w.cell? ⟨pb, 1, none⟩ = some (.int .i64 i) := h.cell 1 _ rfl
  by_cases h0 : k = 0
  · subst h0
    obtain rfl : b = false := by simpa [endsS] using hk
    have HH := Lib.hid fun W (hk : Keep (fun _ => False) w W) => take_empty P S cs ps i W (hP.keep hk (fun h => h) (fun h => h) (fun _ _ h => h)) hb
    clear hP h hb hk
    go_enter Tryz.func159, Tryz.ntmps159
    go_upto_region 2 with fail
    go_quiet (first | (go_at_call 213; exact Calls.quiet_of_same ((HH.out _ ((Keep.refl _ _).drewN _)).mono (by rintro e w1 ⟨rfl, rfl⟩; exact ⟨rfl, rfl⟩))))
    go_wp2
    refine bodyPost_ret (v := .tuple #[.int .i64 0, .bool false]) (by simp [results, Tryz.results159, go_sem]) rfl ?_
    exact ⟨rfl, (Keep.refl _ _).drewN _⟩
  · have HH := Lib.hid (ends_any P S cs ps pb i timed b k w h hP hb)
    rw [hk] at HH
    clear hP h hb hk
    go_enter Tryz.func159, Tryz.ntmps159
    go_wp2_with (go_at_call 214; refine HH.out.mono ?_; rintro e w2 ⟨rfl, hk2⟩)
    refine bodyPost_ret (v := .tuple #[.int .i64 0, .bool false]) (by simp [results, Tryz.results159, go_sem]) rfl ?_
    exact ⟨rfl, hk2⟩
/-- by time, or without a reason -/
theorem pend_kind (P S : Nat) (cs : List Nat) (ps : List Bool) (pb i : Nat) (timed b : Bool) (k : Int) (w : World) (h : Blk w pb 255 #[pV P, .int .i64 i, .bool timed]) (hP : PermitsAt w P S cs ps) (hb : ps[i]? = some b) (hk : endsS b timed k = true) (h0 : k ≠ 0) :
    Calls Tryz.prog 159 #[pV pb, .int .i64 k] w fun e w' => e = .returned (.tuple #[.int .i64 k, .bool true]) ∧ Keep (fun _ => False) w w' := by
  have HH := Lib.hid (ends_any P S cs ps pb i timed b k w h hP hb)
  rw [hk] at HH
  have hk12 : k = 1 ∨ k = 2 := by
    by_cases h1 : k = 1
    · exact .inl h1
    · right; simpa [endsS, h0, h1] using hk
  clear hP h hb hk
  rcases hk12 with rfl | rfl
  · go_enter Tryz.func159, Tryz.ntmps159
    go_wp2_with (go_at_call 214; refine HH.out.mono ?_; rintro e w2 ⟨rfl, hk2⟩)
    refine bodyPost_ret (v := .tuple #[.int .i64 1, .bool true]) (by simp [results, Tryz.results159, go_sem]) rfl ?_
    exact ⟨rfl, hk2⟩
  · go_enter Tryz.func159, Tryz.ntmps159
    go_wp2_with (go_at_call 214; refine HH.out.mono ?_; rintro e w2 ⟨rfl, hk2⟩)
    refine bodyPost_ret (v := .tuple #[.int .i64 2, .bool true]) (by simp [results, Tryz.results159, go_sem]) rfl ?_
    exact ⟨rfl, hk2⟩
theorem PermitsAt.notin {w : World} {P S : Nat} {cs : List Nat} {ps : List Bool} (hP : PermitsAt w P S cs ps) {b : Nat} {t : TypeId} {xs : Array Value} (hb : Blk w b t xs) : ¬ b ∈ cs := fun hx => by
  obtain ⟨i, hi⟩ := List.mem_iff_getElem?.1 hx
  have hlt := (List.getElem?_eq_some_iff.1 hi).1
  exact (hP.chan i _ (ps[i]'(by rw [← hP.len]; exact hlt)) hi (by simp)).apart hb rfl
/-- by a permit -/
theorem pend_take (P S : Nat) (cs : List Nat) (ps : List Bool) (pb i : Nat) (timed : Bool) (w : World) (h : Blk w pb 255 #[pV P, .int .i64 i, .bool timed]) (hP : PermitsAt w P S cs ps) (hb : ps[i]? = some true) :
    Calls Tryz.prog 159 #[pV pb, .int .i64 0] w fun e w' => e = .returned (.tuple #[.int .i64 0, .bool true]) ∧ PermitsAt w' P S cs (ps.set i false) ∧ Keep (fun b => b ∈ cs) w w' := by
  have c0 : w.cell? ⟨pb, 0, none⟩ = some (pV P) := h.cell 0 _ rfl
  have c1 : w.cell? ⟨pb, 1, none⟩ = some (.int .i64 i) := h.cell 1 _ rfl
  have hni := hP.notin h
  have HH := Lib.hid (take_any P S cs ps i true w.drew (hP.keep ((Keep.refl (fun _ => False) w).drew) (fun h => h) (fun h => h) (fun _ _ h => h)) hb)
  have SK := Lib.hid (show ∀ W, Keep (fun b => b ∈ cs) w W → W.cell? ⟨pb, 0, none⟩ = some (pV P) ∧ W.cell? ⟨pb, 1, none⟩ = some (.int .i64 i) from fun W hk => ⟨cell_keep6 c0 hk hni, cell_keep6 c1 hk hni⟩)
  have k0 : Keep (fun b => b ∈ cs) w w.drew := (Keep.refl _ _).drew
  clear hP h hb hni c0 c1
  go_enter Tryz.func159, Tryz.ntmps159
  go_upto_region 2 with fail
  go_region_held3 (fun W => W.cell? ⟨pb, 0, none⟩ = some (pV P) ∧ W.cell? ⟨pb, 1, none⟩ = some (.int .i64 i)) (exact SK.out _ (by assumption)) (first | (go_at_call 213; refine HH.out.mono ?_; rintro e w2 ⟨rfl, hP2, hk2⟩; replace k0 := k0.trans hk2))
  go_wp2
  refine bodyPost_ret (v := .tuple #[.int .i64 0, .bool true]) (by simp [results, Tryz.results159, go_sem]) rfl ?_
  exact ⟨rfl, hP2, k0⟩
/- the operation at hand -/
theorem opend_park (pb : Nat) (k v : Int) (b : Bool) (w : World) (R : World → Prop) (H : ∀ W, Below w.heap.size w W → Calls Tryz.prog 159 #[pV pb, .int .i64 k] W fun e w' => e = .returned (.tuple #[.int .i64 v, .bool b]) ∧ R w') :
    Calls Tryz.prog 86 #[.agg #[.nilFunc, pV pb], .int .i64 k] w fun e w' => e = .returned (.tuple #[.int .i64 v, .bool b]) ∧ R w' := by
  have HH := Lib.hid H
  clear H
  go_enter Tryz.func86, Tryz.ntmps86
  go_upto_region 1 with fail
  generalize hW : (w.alloc _) = W
  have bW : Below w.heap.size w W := by rw [← hW]; go_grown
  have q0 : Blk W w.heap.size 131 #[.nilFunc, pV pb] := by rw [← hW]; exact Blk.new w _ _
  clear hW
  have c1 : W.cell? ⟨w.heap.size, 1, none⟩ = some (pV pb) := q0.cell 1 _ rfl
  have H2 := Lib.hid (HH.out W bW)
  go_wp2_with (go_at_call 159; refine H2.out.mono ?_; rintro e w2 ⟨rfl, hR⟩)
  refine bodyPost_ret (v := .tuple #[.int .i64 v, .bool b]) (by simp [results, Tryz.results86, go_sem]) rfl ?_
  exact ⟨rfl, hR⟩
theorem call_one1 : ∀ (W : World) (args : Array Value), (callFunc 280 args).run Tryz.prog W = .ok (.enter 280 args) W := by
  intro W args
  go_simp
theorem opend_do (b : Nat) (w : World) (R : Int → World → Prop) (H : ∀ W, Below w.heap.size w W → Calls Tryz.prog 280 #[pV b] W fun e w' => ∃ v, e = .returned (.int .i64 v) ∧ R v w') :
    Calls Tryz.prog 86 #[.agg #[cloV 280 #[pV b], .pointer none], .int .i64 0] w fun e w' => ∃ v, e = .returned (.tuple #[.int .i64 v, .bool true]) ∧ R v w' := by
  have HH := Lib.hid H
  clear H
  go_enter Tryz.func86, Tryz.ntmps86
  go_upto_region 1 with fail
  generalize hW : (w.alloc _) = W
  have bW : Below w.heap.size w W := by rw [← hW]; go_grown
  have q0 : Blk W w.heap.size 131 #[cloV 280 #[pV b], .pointer none] := by rw [← hW]; exact Blk.new w _ _
  clear hW
  have c0 : W.cell? ⟨w.heap.size, 0, none⟩ = some (cloV 280 #[pV b]) := q0.cell 0 _ rfl
  have c1 : W.cell? ⟨w.heap.size, 1, none⟩ = some (.pointer none) := q0.cell 1 _ rfl
  have H2 := Lib.hid (HH.out W bW)
  go_wp2_with (go_at_call 280; refine H2.out.mono ?_; rintro e w2 ⟨v, rfl, hR⟩)
  refine bodyPost_ret (v := .tuple #[.int .i64 v, .bool true]) (by simp [results, Tryz.results86, go_sem]) rfl ?_
  exact ⟨v, rfl, hR⟩
theorem opend_do_no (b : Nat) (k : Int) (w : World) (hk : k ≠ 0) :
    Calls Tryz.prog 86 #[.agg #[cloV 280 #[pV b], .pointer none], .int .i64 k] w fun e w' => e = .returned (.tuple #[.int .i64 0, .bool false]) ∧ Keep (fun _ => False) w w' := by
  go_enter Tryz.func86, Tryz.ntmps86
  go_upto_region 1 with fail
  generalize hW : (w.alloc _) = W
  have bW : Below w.heap.size w W := by rw [← hW]; go_grown
  have q0 : Blk W w.heap.size 131 #[cloV 280 #[pV b], .pointer none] := by rw [← hW]; exact Blk.new w _ _
  clear hW
  have c1 : W.cell? ⟨w.heap.size, 1, none⟩ = some (.pointer none) := q0.cell 1 _ rfl
  go_wp2
  refine bodyPost_ret (v := .tuple #[.int .i64 0, .bool false]) (by simp [results, Tryz.results86, go_sem]) rfl ?_
  exact ⟨rfl, Keep.ofBelow bW⟩
/- a step -/
theorem step_done (t : Option Addr) (v k : Int) (w : World) (h : DoneV w t v) : Calls Tryz.prog 32 #[.pointer t, .int .i64 k] w fun e w' => e = .returned (.bool false) ∧ w = w' := by
  have HD := Lib.hid (doneV_done t v w h)
  clear h
  go_enter Tryz.func32, Tryz.ntmps32
  go_wp2_with (go_at_call 38; refine HD.out.mono ?_; rintro e w2 ⟨rfl, rfl⟩)
  go_ret
  exact ⟨rfl, rfl⟩
theorem step_no (t : Nat) (d p r : Value) (k v : Int) (w : World) (h : Live w t d p r) (H : Calls Tryz.prog 86 #[.agg #[d, p], .int .i64 k] w fun e w' => e = .returned (.tuple #[.int .i64 v, .bool false]) ∧ Keep (fun _ => False) w w') :
    Calls Tryz.prog 32 #[pV t, .int .i64 k] w fun e w' => e = .returned (.bool false) ∧ Keep (fun _ => False) w w' := by
  have HD := Lib.hid (live_done t d p r w h)
  have HH := Lib.hid H
  have c0 : w.cell? ⟨t, 0, none⟩ = some d := h.blk.cell 0 _ rfl
  have c1 : w.cell? ⟨t, 1, none⟩ = some p := h.blk.cell 1 _ rfl
  clear h H
  go_enter Tryz.func32, Tryz.ntmps32
  go_wp2_with (first | (go_at_call 38; refine HD.out.mono ?_; rintro e w2 ⟨rfl, rfl⟩) | (go_at_call 86; refine HH.out.mono ?_; rintro e w3 ⟨rfl, hk⟩))
  go_ret
  exact ⟨rfl, hk⟩
theorem step_yes (t : Nat) (d p r : Value) (k : Int) (w : World) (R : Int → World → Prop) (R' : World → Prop) (h : Live w t d p r) (H : Calls Tryz.prog 86 #[.agg #[d, p], .int .i64 k] w fun e w' => ∃ v, e = .returned (.tuple #[.int .i64 v, .bool true]) ∧ R v w')
    (HG : ∀ v w2 w3 n, R v w2 → w2.heap.size ≤ n → DoneV w3 (some ⟨n, 0, none⟩) v → Below w2.heap.size w2 w3 → Calls Tryz.prog 87 #[pV t, pV n] w3 fun e w' => e = .returned (.tuple #[]) ∧ R' w') :
    Calls Tryz.prog 32 #[pV t, .int .i64 k] w fun e w' => e = .returned (.bool true) ∧ R' w' := by
  have HD := Lib.hid (live_done t d p r w h)
  have HH := Lib.hid H
  have HN := Lib.hid HG
  have c0 : w.cell? ⟨t, 0, none⟩ = some d := h.blk.cell 0 _ rfl
  have c1 : w.cell? ⟨t, 1, none⟩ = some p := h.blk.cell 1 _ rfl
  clear h H HG
  go_enter Tryz.func32, Tryz.ntmps32
  go_wp2_with (first | (go_at_call 38; refine HD.out.mono ?_; rintro e w2 ⟨rfl, rfl⟩) | (go_at_call 86; refine HH.out.mono ?_; rintro e w3 ⟨v, rfl, hR⟩; clear c0 c1) | (go_at_call 88; refine (ready_any _ _).mono ?_; rintro e w4 ⟨n, rfl, h1, h2, h3⟩; have H5 := Lib.hid (HN.out v w3 w4 n hR h1 (.inr ⟨n, rfl, h2⟩) h3)) | (go_at_call 87; refine H5.out.mono ?_; rintro e w6 ⟨rfl, hR6⟩))
  go_ret
  exact ⟨rfl, hR6⟩
end Go.Proofs.YtmknnjjmmfbppaaGreat
/- Package task: a task that belongs to a caller: its steps. -/
namespace Go.Proofs.YtmknnjjmmfbppaaGreat
open Go.ChangeShapes Go.WideShapes Go.ChangeAt Go.RowKit
set_option linter.unusedVariables false
set_option maxRecDepth 100000
set_option linter.unusedSimpArgs false
/-- a task at block t, of the blocks of which Q is said; what is left of it; its value when nothing is -/
def TaskG (w : World) (C P : Nat) (t : Nat) (Q : Nat → Prop) (r : List Itm) (v : Int) : Prop :=
  ∃ Q1 : Nat → Prop, TaskC w C P Q1 t r v ∧ ¬ Q1 t ∧ (∀ b, Q1 b ∨ b = t → Q b) ∧ ∀ b, Q b → b < w.heap.size
theorem TaskG.keep {w w1 : World} {C P t : Nat} {Q : Nat → Prop} {r : List Itm} {v : Int} {F : Nat → Prop} (h : TaskG w C P t Q r v) (hk : Keep F w w1) (hn : ∀ b, Q b → ¬ F b) : TaskG w1 C P t Q r v := by
  obtain ⟨Q1, h1, h2, h3, h4⟩ := h
  exact ⟨Q1, h1.keep hk (fun b hb => hn b (h3 b (.inl hb))) (hn t (h3 t (.inr rfl))) (fun _ _ h => h), h2, h3, fun b hb => Nat.lt_of_lt_of_le (h4 b hb) hk.size⟩
theorem TaskG.lt {w : World} {C P t : Nat} {Q : Nat → Prop} {r : List Itm} {v : Int} (h : TaskG w C P t Q r v) : ∀ b, Q b → b < w.heap.size := by
  obtain ⟨Q1, h1, h2, h3, h4⟩ := h
  exact h4
theorem TaskG.own {w : World} {C P t : Nat} {Q : Nat → Prop} {r : List Itm} {v : Int} (h : TaskG w C P t Q r v) : Q t := by
  obtain ⟨Q1, h1, h2, h3, h4⟩ := h
  exact h3 t (.inr rfl)
theorem TaskG.fresh {w : World} {C P t : Nat} {Q : Nat → Prop} {r : List Itm} {v : Int} (h : TaskG w C P t Q r v) : Fresh r := by
  obtain ⟨Q1, h1, h2, h3, h4⟩ := h
  exact TaskIn.fresh h1
/-- of a new one -/
theorem Made6.taskG {w w' : World} {C P t : Nat} {Q : Nat → Prop} {r : List Itm} {v : Int} (h : Made6 w C P Q r v t w') (hq : Q t) : TaskG w' C P t (fun b => Q b ∧ b < w'.heap.size) r v :=
  ⟨fun b => (Q b ∧ b ≠ t) ∧ b < w'.heap.size, TaskC.keep (F := fun _ => False) h.2.1 (Keep.refl _ _) (fun _ _ h => h) (fun h => h) (fun b hb hq => ⟨hq, hb⟩), fun h => h.1.2 rfl,
    fun b hb => by
      rcases hb with hb | rfl
      · exact ⟨hb.1.1, hb.2⟩
      · exact ⟨hq, h.2.1.lt⟩, fun b hb => hb.2⟩
/-- what was made, behind a step -/
theorem TaskG.from {w w' : World} {C P t : Nat} {Q Q1 : Nat → Prop} {r : List Itm} {v : Int} (ht : t < w.heap.size) (hw : w.heap.size ≤ w'.heap.size) (h1 : ∀ b, Q1 b ∨ b = t → Q b) (h2 : ¬ Q1 t) (h : TaskC w' C P (fun b => Q1 b ∨ w.heap.size ≤ b) t r v) :
    ∃ Q', TaskG w' C P t Q' r v ∧ ∀ b, Q' b → Q b ∨ w.heap.size ≤ b :=
  ⟨fun b => (Q b ∨ w.heap.size ≤ b) ∧ b < w'.heap.size, ⟨fun b => (Q1 b ∨ w.heap.size ≤ b) ∧ b < w'.heap.size, TaskC.keep (F := fun _ => False) h (Keep.refl _ _) (fun _ _ h => h) (fun h => h) (fun b hb hq => ⟨hq, hb⟩),
    fun hh => by rcases hh.1 with hh | hh
                 · exact h2 hh
                 · omega,
    fun b hb => by
      rcases hb with ⟨hb | hb, hlt⟩ | rfl
      · exact ⟨.inl (h1 b (.inl hb)), hlt⟩
      · exact ⟨.inr hb, hlt⟩
      · exact ⟨.inl (h1 b (.inr rfl)), by omega⟩, fun b hb => hb.2⟩, fun b hb => hb.1⟩
theorem TaskG.view {w : World} {C P t : Nat} {Q : Nat → Prop} {x : Itm} {r : List Itm} {v : Int} (h : TaskG w C P t Q (x :: r) v) :
    ∃ Q1 : Nat → Prop, ¬ Q1 t ∧ (∀ b, Q1 b ∨ b = t → Q b) ∧ t < w.heap.size ∧ ∃ d p rest gs fs, Live w t d p rest ∧ TreeO w Q1 rest (gs ++ fs) ∧ OpAt w C P Q1 x d p gs ∧ Conts (Cont w C P Q1) fs r := by
  obtain ⟨Q1, h1, h2, h3, h4⟩ := h
  refine ⟨Q1, h2, h3, h4 t (h3 t (.inr rfl)), ?_⟩
  rcases h1.view with ⟨e, _⟩ | ⟨x', r', d, p, rest, gs, fs, e, g1, g2, g3, g4⟩
  · cases e
  · obtain ⟨rfl, rfl⟩ := List.cons.inj e
    exact ⟨d, p, rest, gs, fs, g1, g2, g3, g4⟩
theorem TaskG.done {w : World} {C P t : Nat} {Q : Nat → Prop} {v : Int} (h : TaskG w C P t Q [] v) : DoneV w (some ⟨t, 0, none⟩) v := by
  obtain ⟨Q1, h1, h2, h3, h4⟩ := h
  rcases h1.view with ⟨_, h⟩ | ⟨x', r', d, p, rest, gs, fs, e, _⟩
  · exact h
  · cases e
theorem oper_spin {m : List Int} {x : Itm} (h : x.kind = 4) : ((operS m x).2.2 = true ∧ (operS m x).2.1 = 1) ∨ ((operS m x).2.2 = false ∧ (operS m x).2.1 = 0) := by
  unfold operS
  cases m[x.at']? with
  | none => right; simp [h]
  | some c =>
    by_cases hc : c = x.a
    · left; simp [h, hc]
    · right; simp [h, hc]
theorem oper_else {m : List Int} {x : Itm} (h : x.kind < 4) : (operS m x).2.2 = true := by
  unfold operS
  cases m[x.at']? with
  | none => have : x.kind ≠ 4 := by omega
            simp [this]
  | some c =>
    have : x.kind ≠ 4 := by omega
    dsimp only
    split
    · rfl
    · split
      · split
        · rfl
        · have : x.kind = 2 := by omega
          simp [this]
      · split <;> rfl
/-- a step that does an operation -/
theorem op_yes (C P S t : Nat) (Q : Nat → Prop) (x : Itm) (r : List Itm) (v : Int) (m : List Int) (n : Int) (w : World) (h : TaskG w C P t Q (x :: r) v) (hC : CellsAt w C S m n) (hk : x.kind < 5) (hQ : ∀ b, Q b → b ≠ C ∧ b ≠ S) (hn : 0 ≤ n ∧ n ≤ 2000000) :
    Calls Tryz.prog 32 #[pV t, .int .i64 0] w fun e w' => e = .returned (.bool true) ∧ (∃ Q', TaskG w' C P t Q' (if (operS m x).2.2 then onS r (operS m x).2.1 else (x :: r, v)).1 (if (operS m x).2.2 then onS r (operS m x).2.1 else (x :: r, v)).2 ∧ ∀ b, Q' b → Q b ∨ w.heap.size ≤ b) ∧
      CellsAt w' C S (operS m x).1 (n + countS m x) ∧ Keep (fun b => b = t ∨ ofCells C S b) w w' := by
  obtain ⟨Q1, q1, q2, hlt, d, p, rest, gs, fs, hL, hT, hO, hc⟩ := h.view
  have hcq : ∀ b, Q1 b → ¬ ofCells C S b := fun b hb hf => by
    have := hQ b (q2 b (.inl hb))
    rcases hf with hf | hf
    · exact this.1 hf
    · exact this.2 hf
  have htc : ¬ ofCells C S t := fun hf => by
    have := hQ t (q2 t (.inr rfl))
    rcases hf with hf | hf
    · exact this.1 hf
    · exact this.2 hf
  obtain ⟨⟨b, F, caps, rfl, rfl, b1, b2, b3⟩, hO2⟩ : (∃ b F caps, d = cloV 280 #[pV b] ∧ p = .pointer none ∧ Q1 b ∧ Blk w b _ #[cloV F caps] ∧ CloAt w C Q1 x F caps) ∧ ((x.kind ≠ 4 ∧ gs = []) ∨ (x.kind = 4 ∧ ∃ k3 k2, gs = [k3, k2] ∧ Link3 w Q1 k3 ∧ Link2 w C Q1 x k2)) := by
    rcases hO with hO | ⟨hO, _⟩
    · exact hO
    · omega
  obtain ⟨RV, hRV⟩ : ∃ RV, (if (operS m x).2.2 then onS r (operS m x).2.1 else (x :: r, v)) = RV := ⟨_, rfl⟩
  rw [hRV]
  refine step_yes t _ _ rest 0 w (fun v' w2 => v' = (operS m x).2.1 ∧ CellsAt w2 C S (operS m x).1 (n + countS m x) ∧ Keep (ofCells C S) w w2)
    (fun w' => (∃ Q', TaskG w' C P t Q' RV.1 RV.2 ∧ ∀ b, Q' b → Q b ∨ w.heap.size ≤ b) ∧ CellsAt w' C S (operS m x).1 (n + countS m x) ∧ Keep (fun b => b = t ∨ ofCells C S b) w w') hL ?_ ?_
  · refine opend_do b w _ fun W hb => ?_
    have kW : Keep (fun _ => False) w W := Keep.ofBelow hb
    refine (do6_any C S Q1 m n x b F caps W (b2.below hb b2.lt) (b3.keep kW (fun _ _ h => h) (fun _ _ h => h)) (hC.keep kW (fun h => h) (fun h => h)) hn.1 (by omega)).mono ?_
    rintro e w' ⟨v', rfl, e1, e2, e3⟩
    exact ⟨v', rfl, e1, e2, (Keep.ofBelow hb).trans e3⟩
  · rintro v' w2 w3 k ⟨rfl, hC2, hk2⟩ g1 g2 g3
    have k3 : Keep (ofCells C S) w w3 := hk2.trans (Keep.ofBelow g3)
    have s2 := hk2.size
    have hq : ∀ b, b < w.heap.size → Q1 b → (Q1 b ∨ w.heap.size ≤ b) := fun b _ h => .inl h
    have hc3 : Conts (Cont w3 C P (fun b => Q1 b ∨ w.heap.size ≤ b)) fs r := hc.keep k3 hcq hq
    have hT3 : TreeO w3 (fun b => Q1 b ∨ w.heap.size ≤ b) rest (gs ++ fs) := (hT.keep k3 hcq).mono (fun b _ h => .inl h)
    have hJ : Jot C P (fun b => Q1 b ∨ w.heap.size ≤ b) t RV.1 RV.2 w3 (some ⟨k, 0, none⟩) (gs ++ fs) := by
      rcases hO2 with ⟨h4, rfl⟩ | ⟨h4, k3', k2', rfl, l3, l2⟩
      · rw [oper_else (by omega), if_pos rfl] at hRV
        exact .inl ⟨k, [], _, r, rfl, by omega, done_task g2, hc3, fun _ => hRV, fun h => absurd rfl h⟩
      · refine .inr (.inr ⟨k, _, x, k3', k2', fs, r, rfl, by omega, rfl, g2, h4, l3.keep k3 hcq hq, l2.keep k3 hcq hq, hc3, fun hv => ?_, fun hv => ?_⟩)
        · rcases oper_spin (m := m) h4 with ⟨e1, e2⟩ | ⟨e1, e2⟩
          · rw [e2] at hv; cases hv
          · rw [e1, if_neg (by simp)] at hRV
            rw [← hRV]
        · rcases oper_spin (m := m) h4 with ⟨e1, e2⟩ | ⟨e1, e2⟩
          · rw [e1, if_pos rfl] at hRV
            exact ⟨by rw [e2]; decide, hRV⟩
          · exact absurd e2 hv
    refine (goon_task C P (fun b => Q1 b ∨ w.heap.size ≤ b) t k RV.1 RV.2 _ _ rest (gs ++ fs) w3 (hL.blk.keep k3 htc) hT3 (fun j hj => .inr (by have := k3.size; omega)) (fun hh => hh.elim q1 (fun h => by omega)) hJ).mono ?_
    rintro e w' ⟨rfl, k4, hT4⟩
    have k5 : Keep (fun b => b = t ∨ ofCells C S b) w w' := (k3.mono (fun _ _ h => .inr h)).trans (k4.mono (fun _ _ h => .inl h))
    refine ⟨rfl, TaskG.from hlt k5.size q2 q1 hT4, ?_, k5⟩
    have hC3 := hC2.keep (Keep.ofBelow (Q := fun _ => False) g3) (fun h => h) (fun h => h)
    exact hC3.keep k4 (fun e => htc (.inl e.symm)) (fun e => htc (.inr e.symm))
/-- a step that ends a parking -/
theorem park_yes (C P R t : Nat) (cs : List Nat) (ps : List Bool) (Q : Nat → Prop) (x : Itm) (r : List Itm) (v k : Int) (b : Bool) (w : World) (h : TaskG w C P t Q (x :: r) v) (hP : PermitsAt w P R cs ps) (hk : x.kind = 5 ∨ x.kind = 6) (hx : ps[x.at']? = some b) (he : endsS b (x.kind == 6) k = true) (hQ : ∀ b, Q b → b ∉ cs) :
    Calls Tryz.prog 32 #[pV t, .int .i64 k] w fun e w' => e = .returned (.bool true) ∧ (∃ Q', TaskG w' C P t Q' (onS r k).1 (onS r k).2 ∧ ∀ b, Q' b → Q b ∨ w.heap.size ≤ b) ∧
      PermitsAt w' P R cs (if k = 0 then ps.set x.at' false else ps) ∧ Keep (fun b => b = t ∨ b ∈ cs) w w' := by
  obtain ⟨Q1, q1, q2, hlt, d, p, rest, gs, fs, hL, hT, hO, hc⟩ := h.view
  have hcq : ∀ b, Q1 b → ¬ (b ∈ cs) := fun b hb => hQ b (q2 b (.inl hb))
  have htc : ¬ (t ∈ cs) := hQ t (q2 t (.inr rfl))
  obtain ⟨rfl, rfl, pb, rfl, p1, p2⟩ : d = .nilFunc ∧ gs = [] ∧ ∃ pb, p = pV pb ∧ Q1 pb ∧ Blk w pb _ #[pV P, .int .i64 x.at', .bool (x.kind == 6)] := by
    rcases hO with ⟨⟨b, F, caps, _, _, _, _, bc, bi, _, _, _, _, hO⟩, _⟩ | hO
    · rcases hO with ⟨h, _⟩ | ⟨h, _⟩ | ⟨h, _⟩ | ⟨h, _⟩ <;> omega
    · exact ⟨hO.2.1, hO.2.2.1, hO.2.2.2⟩
  refine step_yes t _ _ rest k w (fun v' w2 => v' = k ∧ PermitsAt w2 P R cs (if k = 0 then ps.set x.at' false else ps) ∧ Keep (fun b => b ∈ cs) w w2)
    (fun w' => (∃ Q', TaskG w' C P t Q' (onS r k).1 (onS r k).2 ∧ ∀ b, Q' b → Q b ∨ w.heap.size ≤ b) ∧ PermitsAt w' P R cs (if k = 0 then ps.set x.at' false else ps) ∧ Keep (fun b => b = t ∨ b ∈ cs) w w') hL ?_ ?_
  · refine (opend_park pb k k true w (fun w2 => PermitsAt w2 P R cs (if k = 0 then ps.set x.at' false else ps) ∧ Keep (fun b => b ∈ cs) w w2) fun W hb => ?_).mono ?_
    · have kW : Keep (fun _ => False) w W := Keep.ofBelow hb
      have hPW := hP.keep kW (fun h => h) (fun h => h) (fun _ _ h => h)
      by_cases h0 : k = 0
      · subst h0
        obtain rfl : b = true := by simpa [endsS] using he
        refine (pend_take P R cs ps pb x.at' _ W (p2.below hb p2.lt) hPW hx).mono ?_
        rintro e w' ⟨rfl, g1, g2⟩
        exact ⟨rfl, by simpa using g1, (Keep.ofBelow hb).trans g2⟩
      · refine (pend_kind P R cs ps pb x.at' _ b k W (p2.below hb p2.lt) hPW hx he h0).mono ?_
        rintro e w' ⟨rfl, g1⟩
        exact ⟨rfl, by rw [if_neg h0]; exact hPW.keep g1 (fun h => h) (fun h => h) (fun _ _ h => h), (Keep.ofBelow hb).trans (g1.mono (fun _ _ h => h.elim))⟩
    · rintro e w' ⟨rfl, g1, g2⟩
      exact ⟨k, rfl, rfl, g1, g2⟩
  · rintro v' w2 w3 n ⟨rfl, hP2, hk2⟩ g1 g2 g3
    have k3 : Keep (fun b => b ∈ cs) w w3 := hk2.trans (Keep.ofBelow g3)
    have s2 := hk2.size
    have hq : ∀ b, b < w.heap.size → Q1 b → (Q1 b ∨ w.heap.size ≤ b) := fun b _ h => .inl h
    have hc3 : Conts (Cont w3 C P (fun b => Q1 b ∨ w.heap.size ≤ b)) fs r := hc.keep k3 hcq hq
    have hT3 : TreeO w3 (fun b => Q1 b ∨ w.heap.size ≤ b) rest ([] ++ fs) := (hT.keep k3 hcq).mono (fun b _ h => .inl h)
    have hJ : Jot C P (fun b => Q1 b ∨ w.heap.size ≤ b) t (onS r v').1 (onS r v').2 w3 (some ⟨n, 0, none⟩) ([] ++ fs) :=
      .inl ⟨n, [], _, r, rfl, by omega, done_task g2, hc3, fun _ => rfl, fun h => absurd rfl h⟩
    refine (goon_task C P (fun b => Q1 b ∨ w.heap.size ≤ b) t n (onS r v').1 (onS r v').2 _ _ rest ([] ++ fs) w3 (hL.blk.keep k3 htc) hT3 (fun j hj => .inr (by have := k3.size; omega)) (fun hh => hh.elim q1 (fun h => by omega)) hJ).mono ?_
    rintro e w' ⟨rfl, k4, hT4⟩
    have k5 : Keep (fun b => b = t ∨ b ∈ cs) w w' := (k3.mono (fun _ _ h => .inr h)).trans (k4.mono (fun _ _ h => .inl h))
    refine ⟨rfl, TaskG.from hlt k5.size q2 q1 hT4, ?_, k5⟩
    have hP3 := hP2.keep (Keep.ofBelow (Q := fun _ => False) g3) (fun h => h) (fun h => h) (fun _ _ h => h)
    exact hP3.keep k4 (hP.own.apart hL.blk (by decide)) (hP.row.apart hL.blk (by decide)) (fun c hc e => htc (e ▸ hc))
end Go.Proofs.YtmknnjjmmfbppaaGreat
