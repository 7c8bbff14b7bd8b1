/- Package task: a step. -/
import Derived.Test.YtldofbkjjmnooaaGreatMgQTLF
import Derived.Test.YtldofbkjjmnooaaGreatMgQTLE
namespace Go.Proofs.YtldofbkjjmnooaaGreat
open Go.ChangeShapes Go.WideShapes Go.ChangeAt Go.RowKit
set_option linter.unusedVariables false
set_option maxRecDepth 100000
set_option linter.unusedSimpArgs false
/-- does a step of this kind end a parking? -/
def endsS (b timed : Bool) (k : Int) : Bool := if k = 0 then b else if k = 1 then timed else k == 2
theorem ends_any (P S : Nat) (cs : List Nat) (ps : List Bool) (pb i : Nat) (timed b : Bool) (k : Int) (w : World) (h : Blk w pb 265 #[pV P, .int .i64 i, .bool timed]) (hP : PermitsAt w P S cs ps) (hb : ps[i]? = some b) :
    Calls Tryz.prog 142 #[pV pb, .int .i64 k] w fun e w' => e = .returned (.bool (endsS b timed k)) ∧ Keep (fun _ => False) w w' := by
  have c0 : w.cell? ⟨pb, 0, none⟩ = some (pV P) := h.cell 0 _ rfl
  have c1 : w.cell? ⟨pb, 1, none⟩ = some (.int .i64 i) := h.cell 1 _ rfl
  have c2 : w.cell? ⟨pb, 2, none⟩ = some (.bool timed) := h.cell 2 _ rfl
  have HH := Lib.hid fun W (hk : Keep (fun _ => False) w W) => has_any P S cs ps i b W (hP.keep hk (fun h => h) (fun h => h) (fun _ _ h => h)) hb
  clear hP h hb
  by_cases h0 : k = 0
  · subst h0
    go_enter Tryz.func142, Tryz.ntmps142
    go_upto_region 3 with fail
    go_quiet (first | (go_at_call 61; exact Calls.quiet_of_same ((HH.out _ ((Keep.refl _ _).drewN _)).mono (by rintro e w1 ⟨rfl, rfl⟩; exact ⟨rfl, rfl⟩))))
    go_wp2
    go_ret
    exact ⟨rfl, (Keep.refl _ _).drewN _⟩
  · by_cases h1 : k = 1
    · subst h1
      go_enter Tryz.func142, Tryz.ntmps142
      go_wp2
      go_ret
      exact ⟨rfl, Keep.refl _ _⟩
    · go_enter Tryz.func142, Tryz.ntmps142
      go_wp2
      · go_ret
        exact ⟨by simp_all [endsS], Keep.refl _ _⟩
/-- a step by which nothing ends -/
theorem pend_no (P S : Nat) (cs : List Nat) (ps : List Bool) (pb i : Nat) (timed b : Bool) (k : Int) (w : World) (h : Blk w pb 265 #[pV P, .int .i64 i, .bool timed]) (hP : PermitsAt w P S cs ps) (hb : ps[i]? = some b) (hk : endsS b timed k = false) :
    Calls Tryz.prog 199 #[pV pb, .int .i64 k] w fun e w' => e = .returned (.tuple #[.int .i64 0, .bool false]) ∧ Keep (fun _ => False) w w' := by
  have c0 : w.cell? ⟨pb, 0, none⟩ = some (pV P) := h.cell 0 _ rfl
  have c1 : w.cell? ⟨pb, 1, none⟩ = some (.int .i64 i) := h.cell 1 _ rfl
  by_cases h0 : k = 0
  · subst h0
    obtain rfl : b = false := by simpa [endsS] using hk
    have HH := Lib.hid fun W (hk : Keep (fun _ => False) w W) => take_empty P S cs ps i W (hP.keep hk (fun h => h) (fun h => h) (fun _ _ h => h)) hb
    clear hP h hb hk
    go_enter Tryz.func199, Tryz.ntmps199
    go_upto_region 2 with fail
    go_quiet (first | (go_at_call 279; exact Calls.quiet_of_same ((HH.out _ ((Keep.refl _ _).drewN _)).mono (by rintro e w1 ⟨rfl, rfl⟩; exact ⟨rfl, rfl⟩))))
    go_wp2
    refine bodyPost_ret (v := .tuple #[.int .i64 0, .bool false]) (by simp [results, Tryz.results199, go_sem]) rfl ?_
    exact ⟨rfl, (Keep.refl _ _).drewN _⟩
  · have HH := Lib.hid (ends_any P S cs ps pb i timed b k w h hP hb)
    rw [hk] at HH
    clear hP h hb hk
    go_enter Tryz.func199, Tryz.ntmps199
    go_wp2_with (go_at_call 142; refine HH.out.mono ?_; rintro e w2 ⟨rfl, hk2⟩)
    refine bodyPost_ret (v := .tuple #[.int .i64 0, .bool false]) (by simp [results, Tryz.results199, go_sem]) rfl ?_
    exact ⟨rfl, hk2⟩
/-- by time, or without a reason -/
theorem pend_kind (P S : Nat) (cs : List Nat) (ps : List Bool) (pb i : Nat) (timed b : Bool) (k : Int) (w : World) (h : Blk w pb 265 #[pV P, .int .i64 i, .bool timed]) (hP : PermitsAt w P S cs ps) (hb : ps[i]? = some b) (hk : endsS b timed k = true) (h0 : k ≠ 0) :
    Calls Tryz.prog 199 #[pV pb, .int .i64 k] w fun e w' => e = .returned (.tuple #[.int .i64 k, .bool true]) ∧ Keep (fun _ => False) w w' := by
  have HH := Lib.hid (ends_any P S cs ps pb i timed b k w h hP hb)
  rw [hk] at HH
  have hk12 : k = 1 ∨ k = 2 := by
    by_cases h1 : k = 1
    · exact .inl h1
    · right; simpa [endsS, h0, h1] using hk
  clear hP h hb hk
  rcases hk12 with rfl | rfl
  · go_enter Tryz.func199, Tryz.ntmps199
    go_wp2_with (go_at_call 142; refine HH.out.mono ?_; rintro e w2 ⟨rfl, hk2⟩)
    refine bodyPost_ret (v := .tuple #[.int .i64 1, .bool true]) (by simp [results, Tryz.results199, go_sem]) rfl ?_
    exact ⟨rfl, hk2⟩
  · go_enter Tryz.func199, Tryz.ntmps199
    go_wp2_with (go_at_call 142; refine HH.out.mono ?_; rintro e w2 ⟨rfl, hk2⟩)
    refine bodyPost_ret (v := .tuple #[.int .i64 2, .bool true]) (by simp [results, Tryz.results199, go_sem]) rfl ?_
    exact ⟨rfl, hk2⟩
theorem PermitsAt.notin {w : World} {P S : Nat} {cs : List Nat} {ps : List Bool} (hP : PermitsAt w P S cs ps) {b : Nat} {t : TypeId} {xs : Array Value} (hb : Blk w b t xs) : ¬ b ∈ cs := fun hx => by
  obtain ⟨i, hi⟩ := List.mem_iff_getElem?.1 hx
  have hlt := (List.getElem?_eq_some_iff.1 hi).1
  exact (hP.chan i _ (ps[i]'(by rw [← hP.len]; exact hlt)) hi (by simp)).apart hb rfl
/-- by a permit -/
theorem pend_take (P S : Nat) (cs : List Nat) (ps : List Bool) (pb i : Nat) (timed : Bool) (w : World) (h : Blk w pb 265 #[pV P, .int .i64 i, .bool timed]) (hP : PermitsAt w P S cs ps) (hb : ps[i]? = some true) :
    Calls Tryz.prog 199 #[pV pb, .int .i64 0] w fun e w' => e = .returned (.tuple #[.int .i64 0, .bool true]) ∧ PermitsAt w' P S cs (ps.set i false) ∧ Keep (fun b => b ∈ cs) w w' := by
  have c0 : w.cell? ⟨pb, 0, none⟩ = some (pV P) := h.cell 0 _ rfl
  have c1 : w.cell? ⟨pb, 1, none⟩ = some (.int .i64 i) := h.cell 1 _ rfl
  have hni := hP.notin h
  have HH := Lib.hid (take_any P S cs ps i true w.drew (hP.keep ((Keep.refl (fun _ => False) w).drew) (fun h => h) (fun h => h) (fun _ _ h => h)) hb)
  have SK := Lib.hid (show ∀ W, Keep (fun b => b ∈ cs) w W → W.cell? ⟨pb, 0, none⟩ = some (pV P) ∧ W.cell? ⟨pb, 1, none⟩ = some (.int .i64 i) from fun W hk => ⟨cell_keep6 c0 hk hni, cell_keep6 c1 hk hni⟩)
  have k0 : Keep (fun b => b ∈ cs) w w.drew := (Keep.refl _ _).drew
  clear hP h hb hni c0 c1
  go_enter Tryz.func199, Tryz.ntmps199
  go_upto_region 2 with fail
  go_region_held3 (fun W => W.cell? ⟨pb, 0, none⟩ = some (pV P) ∧ W.cell? ⟨pb, 1, none⟩ = some (.int .i64 i)) (exact SK.out _ (by assumption)) (first | (go_at_call 279; refine HH.out.mono ?_; rintro e w2 ⟨rfl, hP2, hk2⟩; replace k0 := k0.trans hk2))
  go_wp2
  refine bodyPost_ret (v := .tuple #[.int .i64 0, .bool true]) (by simp [results, Tryz.results199, go_sem]) rfl ?_
  exact ⟨rfl, hP2, k0⟩
/- the operation at hand -/
theorem opend_park (pb : Nat) (k v : Int) (b : Bool) (w : World) (R : World → Prop) (H : ∀ W, Below w.heap.size w W → Calls Tryz.prog 199 #[pV pb, .int .i64 k] W fun e w' => e = .returned (.tuple #[.int .i64 v, .bool b]) ∧ R w') :
    Calls Tryz.prog 118 #[.agg #[.nilFunc, pV pb], .int .i64 k] w fun e w' => e = .returned (.tuple #[.int .i64 v, .bool b]) ∧ R w' := by
  have HH := Lib.hid H
  clear H
  go_enter Tryz.func118, Tryz.ntmps118
  go_upto_region 1 with fail
  generalize hW : (w.alloc _) = W
  have bW : Below w.heap.size w W := by rw [← hW]; go_grown
  have q0 : Blk W w.heap.size 158 #[.nilFunc, pV pb] := by rw [← hW]; exact Blk.new w _ _
  clear hW
  have c1 : W.cell? ⟨w.heap.size, 1, none⟩ = some (pV pb) := q0.cell 1 _ rfl
  have H2 := Lib.hid (HH.out W bW)
  go_wp2_with (go_at_call 199; refine H2.out.mono ?_; rintro e w2 ⟨rfl, hR⟩)
  refine bodyPost_ret (v := .tuple #[.int .i64 v, .bool b]) (by simp [results, Tryz.results118, go_sem]) rfl ?_
  exact ⟨rfl, hR⟩
theorem call_one1 : ∀ (W : World) (args : Array Value), (callFunc 260 args).run Tryz.prog W = .ok (.enter 260 args) W := by
  intro W args
  go_simp
theorem opend_do (b : Nat) (w : World) (R : Int → World → Prop) (H : ∀ W, Below w.heap.size w W → Calls Tryz.prog 260 #[pV b] W fun e w' => ∃ v, e = .returned (.int .i64 v) ∧ R v w') :
    Calls Tryz.prog 118 #[.agg #[cloV 260 #[pV b], .pointer none], .int .i64 0] w fun e w' => ∃ v, e = .returned (.tuple #[.int .i64 v, .bool true]) ∧ R v w' := by
  have HH := Lib.hid H
  clear H
  go_enter Tryz.func118, Tryz.ntmps118
  go_upto_region 1 with fail
  generalize hW : (w.alloc _) = W
  have bW : Below w.heap.size w W := by rw [← hW]; go_grown
  have q0 : Blk W w.heap.size 158 #[cloV 260 #[pV b], .pointer none] := by rw [← hW]; exact Blk.new w _ _
  clear hW
  have c0 : W.cell? ⟨w.heap.size, 0, none⟩ = some (cloV 260 #[pV b]) := q0.cell 0 _ rfl
  have c1 : W.cell? ⟨w.heap.size, 1, none⟩ = some (.pointer none) := q0.cell 1 _ rfl
  have H2 := Lib.hid (HH.out W bW)
  go_wp2_with (go_at_call 260; refine H2.out.mono ?_; rintro e w2 ⟨v, rfl, hR⟩)
  refine bodyPost_ret (v := .tuple #[.int .i64 v, .bool true]) (by simp [results, Tryz.results118, go_sem]) rfl ?_
  exact ⟨v, rfl, hR⟩
theorem opend_do_no (b : Nat) (k : Int) (w : World) (hk : k ≠ 0) :
    Calls Tryz.prog 118 #[.agg #[cloV 260 #[pV b], .pointer none], .int .i64 k] w fun e w' => e = .returned (.tuple #[.int .i64 0, .bool false]) ∧ Keep (fun _ => False) w w' := by
  go_enter Tryz.func118, Tryz.ntmps118
  go_upto_region 1 with fail
  generalize hW : (w.alloc _) = W
  have bW : Below w.heap.size w W := by rw [← hW]; go_grown
  have q0 : Blk W w.heap.size 158 #[cloV 260 #[pV b], .pointer none] := by rw [← hW]; exact Blk.new w _ _
  clear hW
  have c1 : W.cell? ⟨w.heap.size, 1, none⟩ = some (.pointer none) := q0.cell 1 _ rfl
  go_wp2
  refine bodyPost_ret (v := .tuple #[.int .i64 0, .bool false]) (by simp [results, Tryz.results118, go_sem]) rfl ?_
  exact ⟨rfl, Keep.ofBelow bW⟩
/- a step -/
theorem step_done (t : Option Addr) (v k : Int) (w : World) (h : DoneV w t v) : Calls Tryz.prog 37 #[.pointer t, .int .i64 k] w fun e w' => e = .returned (.bool false) ∧ w = w' := by
  have HD := Lib.hid (doneV_done t v w h)
  clear h
  go_enter Tryz.func37, Tryz.ntmps37
  go_wp2_with (go_at_call 38; refine HD.out.mono ?_; rintro e w2 ⟨rfl, rfl⟩)
  go_ret
  exact ⟨rfl, rfl⟩
theorem step_no (t : Nat) (d p r : Value) (k v : Int) (w : World) (h : Live w t d p r) (H : Calls Tryz.prog 118 #[.agg #[d, p], .int .i64 k] w fun e w' => e = .returned (.tuple #[.int .i64 v, .bool false]) ∧ Keep (fun _ => False) w w') :
    Calls Tryz.prog 37 #[pV t, .int .i64 k] w fun e w' => e = .returned (.bool false) ∧ Keep (fun _ => False) w w' := by
  have HD := Lib.hid (live_done t d p r w h)
  have HH := Lib.hid H
  have c0 : w.cell? ⟨t, 0, none⟩ = some d := h.blk.cell 0 _ rfl
  have c1 : w.cell? ⟨t, 1, none⟩ = some p := h.blk.cell 1 _ rfl
  clear h H
  go_enter Tryz.func37, Tryz.ntmps37
  go_wp2_with (first | (go_at_call 38; refine HD.out.mono ?_; rintro e w2 ⟨rfl, rfl⟩) | (go_at_call 118; refine HH.out.mono ?_; rintro e w3 ⟨rfl, hk⟩))
  go_ret
  exact ⟨rfl, hk⟩
theorem step_yes (t : Nat) (d p r : Value) (k : Int) (w : World) (R : Int → World → Prop) (R' : World → Prop) (h : Live w t d p r) (H : Calls Tryz.prog 118 #[.agg #[d, p], .int .i64 k] w fun e w' => ∃ v, e = .returned (.tuple #[.int .i64 v, .bool true]) ∧ R v w')
    (HG : ∀ v w2 w3 n, R v w2 → w2.heap.size ≤ n → DoneV w3 (some ⟨n, 0, none⟩) v → Below w2.heap.size w2 w3 → Calls Tryz.prog 119 #[pV t, pV n] w3 fun e w' => e = .returned (.tuple #[]) ∧ R' w') :
    Calls Tryz.prog 37 #[pV t, .int .i64 k] w fun e w' => e = .returned (.bool true) ∧ R' w' := by
  have HD := Lib.hid (live_done t d p r w h)
  have HH := Lib.hid H
  have HN := Lib.hid HG
  have c0 : w.cell? ⟨t, 0, none⟩ = some d := h.blk.cell 0 _ rfl
  have c1 : w.cell? ⟨t, 1, none⟩ = some p := h.blk.cell 1 _ rfl
  clear h H HG
  go_enter Tryz.func37, Tryz.ntmps37
  go_wp2_with (first | (go_at_call 38; refine HD.out.mono ?_; rintro e w2 ⟨rfl, rfl⟩) | (go_at_call 118; refine HH.out.mono ?_; rintro e w3 ⟨v, rfl, hR⟩; clear c0 c1) | (go_at_call 102; refine (ready_any _ _).mono ?_; rintro e w4 ⟨n, rfl, h1, h2, h3⟩; have H5 := Lib.hid (HN.out v w3 w4 n hR h1 (.inr ⟨n, rfl, h2⟩) h3)) | (go_at_call 119; refine H5.out.mono ?_; rintro e w6 ⟨rfl, hR6⟩))
  go_ret
  exact ⟨rfl, hR6⟩
end Go.Proofs.YtldofbkjjmnooaaGreat
/- Package task: a task that belongs to a caller: its steps. -/
namespace Go.Proofs.YtldofbkjjmnooaaGreat
open Go.ChangeShapes Go.WideShapes Go.ChangeAt Go.RowKit
set_option linter.unusedVariables false
set_option maxRecDepth 100000
set_option linter.unusedSimpArgs false
/-- a task at block t, of the blocks of which Q is said; what is left of it; its value when nothing is -/
def TaskG (w : World) (C P : Nat) (t : Nat) (Q : Nat → Prop) (r : List Itm) (v : Int) : Prop :=
  ∃ Q1 : Nat → Prop, TaskC w C P Q1 t r v ∧ ¬ Q1 t ∧ (∀ b, Q1 b ∨ b = t → Q b) ∧ ∀ b, Q b → b < w.heap.size
theorem TaskG.keep {w w1 : World} {C P t : Nat} {Q : Nat → Prop} {r : List Itm} {v : Int} {F : Nat → Prop} (h : TaskG w C P t Q r v) (hk : Keep F w w1) (hn : ∀ b, Q b → ¬ F b) : TaskG w1 C P t Q r v := by
  obtain ⟨Q1, h1, h2, h3, h4⟩ := h
  exact ⟨Q1, h1.keep hk (fun b hb => hn b (h3 b (.inl hb))) (hn t (h3 t (.inr rfl))) (fun _ _ h => h), h2, h3, fun b hb => Nat.lt_of_lt_of_le (h4 b hb) hk.size⟩
theorem TaskG.lt {w : World} {C P t : Nat} {Q : Nat → Prop} {r : List Itm} {v : Int} (h : TaskG w C P t Q r v) : ∀ b, Q b → b < w.heap.size := by
  obtain ⟨Q1, h1, h2, h3, h4⟩ := h
  exact h4
theorem TaskG.own {w : World} {C P t : Nat} {Q : Nat → Prop} {r : List Itm} {v : Int} (h : TaskG w C P t Q r v) : Q t := by
  obtain ⟨Q1, h1, h2, h3, h4⟩ := h
  exact h3 t (.inr rfl)
theorem TaskG.fresh {w : World} {C P t : Nat} {Q : Nat → Prop} {r : List Itm} {v : Int} (h : TaskG w C P t Q r v) : Fresh r := by
  obtain ⟨Q1, h1, h2, h3, h4⟩ := h
  exact TaskIn.fresh h1
/-- of a new one -/
theorem Made6.taskG {w w' : World} {C P t : Nat} {Q : Nat → Prop} {r : List Itm} {v : Int} (h : Made6 w C P Q r v t w') (hq : Q t) : TaskG w' C P t (fun b => Q b ∧ b < w'.heap.size) r v :=
  ⟨fun b => (Q b ∧ b ≠ t) ∧ b < w'.heap.size, TaskC.keep (F := fun _ => False) h.2.1 (Keep.refl _ _) (fun _ _ h => h) (fun h => h) (fun b hb hq => ⟨hq, hb⟩), fun h => h.1.2 rfl,
    fun b hb => by
      rcases hb with hb | rfl
      · exact ⟨hb.1.1, hb.2⟩
      · exact ⟨hq, h.2.1.lt⟩, fun b hb => hb.2⟩
/-- what was made, behind a step -/
theorem TaskG.from {w w' : World} {C P t : Nat} {Q Q1 : Nat → Prop} {r : List Itm} {v : Int} (ht : t < w.heap.size) (hw : w.heap.size ≤ w'.heap.size) (h1 : ∀ b, Q1 b ∨ b = t → Q b) (h2 : ¬ Q1 t) (h : TaskC w' C P (fun b => Q1 b ∨ w.heap.size ≤ b) t r v) :
    ∃ Q', TaskG w' C P t Q' r v ∧ ∀ b, Q' b → Q b ∨ w.heap.size ≤ b :=
  ⟨fun b => (Q b ∨ w.heap.size ≤ b) ∧ b < w'.heap.size, ⟨fun b => (Q1 b ∨ w.heap.size ≤ b) ∧ b < w'.heap.size, TaskC.keep (F := fun _ => False) h (Keep.refl _ _) (fun _ _ h => h) (fun h => h) (fun b hb hq => ⟨hq, hb⟩),
    fun hh => by rcases hh.1 with hh | hh
                 · exact h2 hh
                 · omega,
    fun b hb => by
      rcases hb with ⟨hb | hb, hlt⟩ | rfl
      · exact ⟨.inl (h1 b (.inl hb)), hlt⟩
      · exact ⟨.inr hb, hlt⟩
      · exact ⟨.inl (h1 b (.inr rfl)), by omega⟩, fun b hb => hb.2⟩, fun b hb => hb.1⟩
theorem TaskG.view {w : World} {C P t : Nat} {Q : Nat → Prop} {x : Itm} {r : List Itm} {v : Int} (h : TaskG w C P t Q (x :: r) v) :
    ∃ Q1 : Nat → Prop, ¬ Q1 t ∧ (∀ b, Q1 b ∨ b = t → Q b) ∧ t < w.heap.size ∧ ∃ d p rest gs fs, Live w t d p rest ∧ TreeO w Q1 rest (gs ++ fs) ∧ OpAt w C P Q1 x d p gs ∧ Conts (Cont w C P Q1) fs r := by
  obtain ⟨Q1, h1, h2, h3, h4⟩ := h
  refine ⟨Q1, h2, h3, h4 t (h3 t (.inr rfl)), ?_⟩
  rcases h1.view with ⟨e, _⟩ | ⟨x', r', d, p, rest, gs, fs, e, g1, g2, g3, g4⟩
  · cases e
  · obtain ⟨rfl, rfl⟩ := List.cons.inj e
    exact ⟨d, p, rest, gs, fs, g1, g2, g3, g4⟩
theorem TaskG.done {w : World} {C P t : Nat} {Q : Nat → Prop} {v : Int} (h : TaskG w C P t Q [] v) : DoneV w (some ⟨t, 0, none⟩) v := by
  obtain ⟨Q1, h1, h2, h3, h4⟩ := h
  rcases h1.view with ⟨_, h⟩ | ⟨x', r', d, p, rest, gs, fs, e, _⟩
  · exact h
  · cases e
theorem oper_spin {m : List Int} {x : Itm} (h : x.kind = 4) : ((operS m x).2.2 = true ∧ (operS m x).2.1 = 1) ∨ ((operS m x).2.2 = false ∧ (operS m x).2.1 = 0) := by
  unfold operS
  cases m[x.at']? with
  | none => right; simp [h]
  | some c =>
    by_cases hc : c = x.a
    · left; simp [h, hc]
    · right; simp [h, hc]
theorem oper_else {m : List Int} {x : Itm} (h : x.kind < 4) : (operS m x).2.2 = true := by
  unfold operS
  cases m[x.at']? with
  | none => have : x.kind ≠ 4 := by omega
            simp [this]
  | some c =>
    have : x.kind ≠ 4 := by omega
    dsimp only
    split
    · rfl
    · split
      · split
        · rfl
        · have : x.kind = 2 := by omega
          simp [this]
      · split <;> rfl
/-- a step that does an operation -/
theorem op_yes (C P S t : Nat) (Q : Nat → Prop) (x : Itm) (r : List Itm) (v : Int) (m : List Int) (n : Int) (w : World) (h : TaskG w C P t Q (x :: r) v) (hC : CellsAt w C S m n) (hk : x.kind < 5) (hQ : ∀ b, Q b → b ≠ C ∧ b ≠ S) (hn : 0 ≤ n ∧ n ≤ 2000000) :
    Calls Tryz.prog 37 #[pV t, .int .i64 0] w fun e w' => e = .returned (.bool true) ∧ (∃ Q', TaskG w' C P t Q' (if (operS m x).2.2 then onS r (operS m x).2.1 else (x :: r, v)).1 (if (operS m x).2.2 then onS r (operS m x).2.1 else (x :: r, v)).2 ∧ ∀ b, Q' b → Q b ∨ w.heap.size ≤ b) ∧
      CellsAt w' C S (operS m x).1 (n + countS m x) ∧ Keep (fun b => b = t ∨ ofCells C S b) w w' := by
  obtain ⟨Q1, q1, q2, hlt, d, p, rest, gs, fs, hL, hT, hO, hc⟩ := h.view
  have hcq : ∀ b, Q1 b → ¬ ofCells C S b := fun b hb hf => by
    have := hQ b (q2 b (.inl hb))
    rcases hf with hf | hf
    · exact this.1 hf
    · exact this.2 hf
  have htc : ¬ ofCells C S t := fun hf => by
    have := hQ t (q2 t (.inr rfl))
    rcases hf with hf | hf
    · exact this.1 hf
    · exact this.2 hf
  obtain ⟨⟨b, F, caps, rfl, rfl, b1, b2, b3⟩, hO2⟩ : (∃ b F caps, d = cloV 260 #[pV b] ∧ p = .pointer none ∧ Q1 b ∧ Blk w b _ #[cloV F caps] ∧ CloAt w C Q1 x F caps) ∧ ((x.kind ≠ 4 ∧ gs = []) ∨ (x.kind = 4 ∧ ∃ k3 k2, gs = [k3, k2] ∧ Link3 w Q1 k3 ∧ Link2 w C Q1 x k2)) := by
    rcases hO with hO | ⟨hO, _⟩
    · exact hO
    · omega
  obtain ⟨RV, hRV⟩ : ∃ RV, (if (operS m x).2.2 then onS r (operS m x).2.1 else (x :: r, v)) = RV := ⟨_, rfl⟩
  rw [hRV]
  refine step_yes t _ _ rest 0 w (fun v' w2 => v' = (operS m x).2.1 ∧ CellsAt w2 C S (operS m x).1 (n + countS m x) ∧ Keep (ofCells C S) w w2)
    (fun w' => (∃ Q', TaskG w' C P t Q' RV.1 RV.2 ∧ ∀ b, Q' b → Q b ∨ w.heap.size ≤ b) ∧ CellsAt w' C S (operS m x).1 (n + countS m x) ∧ Keep (fun b => b = t ∨ ofCells C S b) w w') hL ?_ ?_
  · refine opend_do b w _ fun W hb => ?_
    have kW : Keep (fun _ => False) w W := Keep.ofBelow hb
    refine (do6_any C S Q1 m n x b F caps W (b2.below hb b2.lt) (b3.keep kW (fun _ _ h => h) (fun _ _ h => h)) (hC.keep kW (fun h => h) (fun h => h)) hn.1 (by omega)).mono ?_
    rintro e w' ⟨v', rfl, e1, e2, e3⟩
    exact ⟨v', rfl, e1, e2, (Keep.ofBelow hb).trans e3⟩
  · rintro v' w2 w3 k ⟨rfl, hC2, hk2⟩ g1 g2 g3
    have k3 : Keep (ofCells C S) w w3 := hk2.trans (Keep.ofBelow g3)
    have s2 := hk2.size
    have hq : ∀ b, b < w.heap.size → Q1 b → (Q1 b ∨ w.heap.size ≤ b) := fun b _ h => .inl h
    have hc3 : Conts (Cont w3 C P (fun b => Q1 b ∨ w.heap.size ≤ b)) fs r := hc.keep k3 hcq hq
    have hT3 : TreeO w3 (fun b => Q1 b ∨ w.heap.size ≤ b) rest (gs ++ fs) := (hT.keep k3 hcq).mono (fun b _ h => .inl h)
    have hJ : Jot C P (fun b => Q1 b ∨ w.heap.size ≤ b) t RV.1 RV.2 w3 (some ⟨k, 0, none⟩) (gs ++ fs) := by
      rcases hO2 with ⟨h4, rfl⟩ | ⟨h4, k3', k2', rfl, l3, l2⟩
      · rw [oper_else (by omega), if_pos rfl] at hRV
        exact .inl ⟨k, [], _, r, rfl, by omega, done_task g2, hc3, fun _ => hRV, fun h => absurd rfl h⟩
      · refine .inr (.inr ⟨k, _, x, k3', k2', fs, r, rfl, by omega, rfl, g2, h4, l3.keep k3 hcq hq, l2.keep k3 hcq hq, hc3, fun hv => ?_, fun hv => ?_⟩)
        · rcases oper_spin (m := m) h4 with ⟨e1, e2⟩ | ⟨e1, e2⟩
          · rw [e2] at hv; cases hv
          · rw [e1, if_neg (by simp)] at hRV
            rw [← hRV]
        · rcases oper_spin (m := m) h4 with ⟨e1, e2⟩ | ⟨e1, e2⟩
          · rw [e1, if_pos rfl] at hRV
            exact ⟨by rw [e2]; decide, hRV⟩
          · exact absurd e2 hv
    refine (goon_task C P (fun b => Q1 b ∨ w.heap.size ≤ b) t k RV.1 RV.2 _ _ rest (gs ++ fs) w3 (hL.blk.keep k3 htc) hT3 (fun j hj => .inr (by have := k3.size; omega)) (fun hh => hh.elim q1 (fun h => by omega)) hJ).mono ?_
    rintro e w' ⟨rfl, k4, hT4⟩
    have k5 : Keep (fun b => b = t ∨ ofCells C S b) w w' := (k3.mono (fun _ _ h => .inr h)).trans (k4.mono (fun _ _ h => .inl h))
    refine ⟨rfl, TaskG.from hlt k5.size q2 q1 hT4, ?_, k5⟩
    have hC3 := hC2.keep (Keep.ofBelow (Q := fun _ => False) g3) (fun h => h) (fun h => h)
    exact hC3.keep k4 (fun e => htc (.inl e.symm)) (fun e => htc (.inr e.symm))
/-- a step that ends a parking -/
theorem park_yes (C P R t : Nat) (cs : List Nat) (ps : List Bool) (Q : Nat → Prop) (x : Itm) (r : List Itm) (v k : Int) (b : Bool) (w : World) (h : TaskG w C P t Q (x :: r) v) (hP : PermitsAt w P R cs ps) (hk : x.kind = 5 ∨ x.kind = 6) (hx : ps[x.at']? = some b) (he : endsS b (x.kind == 6) k = true) (hQ : ∀ b, Q b → b ∉ cs) :
    Calls Tryz.prog 37 #[pV t, .int .i64 k] w fun e w' => e = .returned (.bool true) ∧ (∃ Q', TaskG w' C P t Q' (onS r k).1 (onS r k).2 ∧ ∀ b, Q' b → Q b ∨ w.heap.size ≤ b) ∧
      PermitsAt w' P R cs (if k = 0 then ps.set x.at' false else ps) ∧ Keep (fun b => b = t ∨ b ∈ cs) w w' := by
  obtain ⟨Q1, q1, q2, hlt, d, p, rest, gs, fs, hL, hT, hO, hc⟩ := h.view
  have hcq : ∀ b, Q1 b → ¬ (b ∈ cs) := fun b hb => hQ b (q2 b (.inl hb))
  have htc : ¬ (t ∈ cs) := hQ t (q2 t (.inr rfl))
  obtain ⟨rfl, rfl, pb, rfl, p1, p2⟩ : d = .nilFunc ∧ gs = [] ∧ ∃ pb, p = pV pb ∧ Q1 pb ∧ Blk w pb _ #[pV P, .int .i64 x.at', .bool (x.kind == 6)] := by
    rcases hO with ⟨⟨b, F, caps, _, _, _, _, bc, bi, _, _, _, _, hO⟩, _⟩ | hO
    · rcases hO with ⟨h, _⟩ | ⟨h, _⟩ | ⟨h, _⟩ | ⟨h, _⟩ <;> omega
    · exact ⟨hO.2.1, hO.2.2.1, hO.2.2.2⟩
  refine step_yes t _ _ rest k w (fun v' w2 => v' = k ∧ PermitsAt w2 P R cs (if k = 0 then ps.set x.at' false else ps) ∧ Keep (fun b => b ∈ cs) w w2)
    (fun w' => (∃ Q', TaskG w' C P t Q' (onS r k).1 (onS r k).2 ∧ ∀ b, Q' b → Q b ∨ w.heap.size ≤ b) ∧ PermitsAt w' P R cs (if k = 0 then ps.set x.at' false else ps) ∧ Keep (fun b => b = t ∨ b ∈ cs) w w') hL ?_ ?_
  · refine (opend_park pb k k true w (fun w2 => PermitsAt w2 P R cs (if k = 0 then ps.set x.at' false else ps) ∧ Keep (fun b => b ∈ cs) w w2) fun W hb => ?_).mono ?_
    · have kW : Keep (fun _ => False) w W := Keep.ofBelow hb
      have hPW := hP.keep kW (fun h => h) (fun h => h) (fun _ _ h => h)
      by_cases h0 : k = 0
      · subst h0
        obtain rfl : b = true := by simpa [endsS] using he
        refine (pend_take P R cs ps pb x.at' _ W (p2.below hb p2.lt) hPW hx).mono ?_
        rintro e w' ⟨rfl, g1, g2⟩
        exact ⟨rfl, by simpa using g1, (Keep.ofBelow hb).trans g2⟩
      · refine (pend_kind P R cs ps pb x.at' _ b k W (p2.below hb p2.lt) hPW hx he h0).mono ?_
        rintro e w' ⟨rfl, g1⟩
        exact ⟨rfl, by rw [if_neg h0]; exact hPW.keep g1 (fun h => h) (fun h => h) (fun _ _ h => h), (Keep.ofBelow hb).trans (g1.mono (fun _ _ h => h.elim))⟩
    · rintro e w' ⟨rfl, g1, g2⟩
      exact ⟨k, rfl, rfl, g1, g2⟩
  · rintro v' w2 w3 n ⟨rfl, hP2, hk2⟩ g1 g2 g3
    have k3 : Keep (fun b => b ∈ cs) w w3 := hk2.trans (Keep.ofBelow g3)
    have s2 := hk2.size
    have hq : ∀ b, b < w.heap.size → Q1 b → (Q1 b ∨ w.heap.size ≤ b) := fun b _ h => .inl h
    have hc3 : Conts (Cont w3 C P (fun b => Q1 b ∨ w.heap.size ≤ b)) fs r := hc.keep k3 hcq hq
    have hT3 : TreeO w3 (fun b => Q1 b ∨ w.heap.size ≤ b) rest ([] ++ fs) := (hT.keep k3 hcq).mono (fun b _ h => .inl h)
    have hJ : Jot C P (fun b => Q1 b ∨ w.heap.size ≤ b) t (onS r v').1 (onS r v').2 w3 (some ⟨n, 0, none⟩) ([] ++ fs) :=
      .inl ⟨n, [], _, r, rfl, by omega, done_task g2, hc3, fun _ => rfl, fun h => absurd rfl h⟩
    refine (goon_task C P (fun b => Q1 b ∨ w.heap.size ≤ b) t n (onS r v').1 (onS r v').2 _ _ rest ([] ++ fs) w3 (hL.blk.keep k3 htc) hT3 (fun j hj => .inr (by have := k3.size; omega)) (fun hh => hh.elim q1 (fun h => by omega)) hJ).mono ?_
    rintro e w' ⟨rfl, k4, hT4⟩
    have k5 : Keep (fun b => b = t ∨ b ∈ cs) w w' := (k3.mono (fun _ _ h => .inr h)).trans (k4.mono (fun _ _ h => .inl h))
    refine ⟨rfl, TaskG.from hlt k5.size q2 q1 hT4, ?_, k5⟩
    have hP3 := hP2.keep (Keep.ofBelow (Q := fun _ => False) g3) (fun h => h) (fun h => h) (fun _ _ h => h)
    exact hP3.keep k4 (hP.own.apart hL.blk (by decide)) (hP.row.apart hL.blk (by decide)) (fun c hc e => htc (e ▸ hc))
end Go.Proofs.YtldofbkjjmnooaaGreat
/- Package task: goOn, Then and Step of tasks by what they may yet do. -/
namespace Go.Proofs.YtldofbkjjmnooaaGreat
open Go.ChangeShapes Go.WideShapes Go.ChangeAt Go.RowKit
set_option linter.unusedVariables false
set_option maxRecDepth 100000
set_option linter.unusedSimpArgs false
/-- what is to come of a task at hand and of what follows it -/
def JotT {A : Type} (O : Ops A) (Q : Nat → Prop) (t : Nat) (R : Tre A) (a : World) (n : Option Addr) (fs : List Nat) : Prop :=
  ∃ T, TaskF O a Q n T ∧ InQ (fun k => k ≠ t) n ∧ Behind (ContT O a Q) fs T R
theorem goon_tree {A : Type} (O : Ops A) (t : Nat) (n : Option Addr) (d0 p0 r0 : Value) (fs : List Nat) (Q : Nat → Prop) (R : Tre A) (w : World) (ht : Blk w t 161 #[d0, p0, r0, .int .i64 0]) (hr : TreeO w Q r0 fs) (hQ : ∀ k, w.heap.size ≤ k → Q k) (hQt : ¬ Q t) (hJ : JotT O Q t R w n fs) :
    Calls Tryz.prog 119 #[pV t, .pointer n] w fun e w' => e = .returned (.tuple #[]) ∧ Keep (fun k => k = t) w w' ∧ TaskF O w' Q (some ⟨t, 0, none⟩) R := by
  have hlt := ht.lt
  have hd : ∀ b, Q b → ¬ (b = t) := fun b hb e => hQt (e ▸ hb)
  refine (goon_ptr t n d0 p0 r0 0 fs Q (JotT O Q t R) w ht hr hQ hQt hJ ?_ ?_ ?_).mono ?_
  · rintro a b n fs hs ⟨T, h1, h2, h3⟩ hk
    exact ⟨T, h1.keep hk hd (fun k e => h2 k e) (fun _ _ h => h), h2, h3.keep hk hd (fun _ _ h => h)⟩
  · rintro a n fs ⟨T, h1, h2, h3⟩
    refine ⟨fun e => h2 t e rfl, ?_⟩
    rcases h1 with ⟨v, e, h⟩ | ⟨x, g, k, d, p, rest, gs, e, rfl, g1, g2, g3, g4⟩
    · exact .inl ⟨v, h⟩
    · exact .inr ⟨k, d, p, rest, gs, rfl, g1, g2⟩
  · rintro a n f fs v hs ⟨T, h1, h2, k, κ, h3, rfl, h5⟩ hv
    obtain ⟨v', rfl, hv'⟩ : ∃ v', T = retT v' ∧ DoneV a n v' := by
      rcases h1 with ⟨v', e, h⟩ | ⟨x, g, k, d, p, rest, gs, e, rfl, g1, g2, g3, g4⟩
      · exact ⟨v', e, h⟩
      · exact (hv.live g1).elim
    obtain rfl := hv.val hv'
    refine (h3.unfold.2.2 v' a (Keep.refl _ a)).mono ?_
    rintro e b ⟨n', rfl, hb, hT, hn⟩
    have hqq : ∀ j, (Q j ∧ j < a.heap.size) ∨ a.heap.size ≤ j → Q j := fun j hj => hj.elim (fun h => h.1) (fun h => hQ j (by omega))
    refine ⟨n', rfl, ⟨k v', hT.keep (fun f k h => h.keep (Keep.refl (fun _ => False) b) (fun _ _ h => h) (fun j _ h => hqq j h)) (Keep.refl (fun _ => False) b) (fun _ _ h => h) (fun _ _ h => h) (fun j _ h => hqq j h), fun j e e2 => hQt (e2 ▸ hqq j (hn j e)), ?_⟩, hb⟩
    rw [bindT_ret]
    exact (h5 v').keep (Keep.ofBelow (Q := fun _ => False) hb) (fun _ _ h => h) (fun _ _ h => h)
  · rintro e w' ⟨rfl, hk, n', fs', ⟨T, h1, h2, h3⟩, hp⟩
    refine ⟨rfl, hk, ?_⟩
    rcases hp with ⟨rfl, v, hv, hB⟩ | ⟨k1, d, p, r, g1, j, rfl, hL, hT, hT2, hB⟩
    · obtain rfl : R = T := h3
      obtain ⟨v', rfl, hv'⟩ : ∃ v', R = retT v' ∧ DoneV w' n' v' := by
        rcases h1 with ⟨v', e, h⟩ | ⟨x, g, k, d, p, rest, gs, e, rfl, g1, g2, g3, g4⟩
        · exact ⟨v', e, h⟩
        · exact (hv.live g1).elim
      obtain rfl := hv.val hv'
      exact .inl ⟨v', rfl, .inr ⟨t, rfl, hB⟩⟩
    · rcases h1 with ⟨v', e, h⟩ | ⟨x, g, k, d', p', rest, gs, rfl, e, q1, q2, q3, q4⟩
      · exact (h.live hL).elim
      · obtain rfl : k1 = k := by simpa using e
        obtain ⟨rfl, rfl, rfl⟩ := hL.unique q1
        obtain rfl := hT.unique q2
        obtain ⟨g', rfl, h5⟩ := Behind.op q4 h3
        exact .inr ⟨x, g', t, _, _, j, g1 ++ fs', rfl, rfl, ⟨hB, hL.op⟩, hT2, q3, h5⟩
/-- Then: of any task, and of a closure whose box is told of -/
theorem thenT_any {A : Type} (O : Ops A) (n : Option Addr) (F : Nat) (caps : Array Value) (T : Tre A) (k : Int → Tre A) (Q : Nat → Prop) (w : World) (hT : TaskF O w Q n T) (hn : ∀ j, n = some ⟨j, 0, none⟩ → j < w.heap.size) (hQ : ∀ k, w.heap.size ≤ k → Q k)
    (hk : ∀ w1 (Q1 : Nat → Prop) f, Below w.heap.size w w1 → Blk w1 f 89 #[cloV F caps] → w.heap.size ≤ f → Q1 f → (∀ b, b < w.heap.size → Q b → Q1 b) → ContT O w1 Q1 f k) :
    Calls Tryz.prog 137 #[.pointer n, cloV F caps] w fun e w' => ∃ t, e = .returned (pV t) ∧ w.heap.size ≤ t ∧ TaskF O w' (fun b => Q b ∧ b ≠ t) (some ⟨t, 0, none⟩) (bindT k T) ∧ Below w.heap.size w w' := by
  have hmf : ∀ (fn : Fn) (first cap : Array Value) (w : World), (Instr.makeFunc fn first cap).run Tryz.prog w = .ok (.func fn first cap) w := fun _ _ _ _ => rfl
  have HQ := Lib.hid hQ
  have HT := Lib.hid hT
  have HK := Lib.hid hk
  have HN := Lib.hid hn
  clear hQ hT hk hn
  go_enter Tryz.func137, Tryz.ntmps137
  go_upto_region 1 with fail
  generalize hW : (w.alloc _) = W
  have bW : Below w.heap.size w W := by rw [← hW]; go_grown
  have q0 : Blk W w.heap.size 89 #[cloV F caps] := by rw [← hW]; exact Blk.new w _ _
  clear hW
  go_upto_region 2 with (go_at_call 220; refine (only_any _ _ _).mono ?_; rintro e w2 ⟨lp, rfl, l1, l2, l3⟩)
  have hs2 := l3.size
  have hsW := bW.size
  generalize hW3 : (w2.alloc _) = W3
  have b3 : Below W.heap.size W W3 := by rw [← hW3]; exact l3.alloc (by omega) _
  have s3 : W3.heap.size = w2.heap.size + 1 := by rw [← hW3]; simp
  have qt : Blk W3 w2.heap.size 161 #[.nilFunc, .pointer none, pV lp, .int .i64 0] := by rw [← hW3]; exact Blk.new w2 _ _
  have ql : Blk W3 lp 305 #[.pointer none, .pointer none, cloV 221 #[pV w.heap.size]] := by rw [← hW3]; exact l2.alloc _
  have hlp := l2.lt
  clear hW3
  have bw3 : Below w.heap.size w W3 := bW.trans (b3.mono hsW)
  have qf := q0.below b3 q0.lt
  have kk : Keep (fun _ => False) w W3 := Keep.ofBelow bw3
  have hqf := q0.lt
  have T3 : TaskF O W3 (fun b => Q b ∧ b ≠ w2.heap.size) n T := HT.out.keep kk (fun _ _ h => h) (fun _ _ h => h) (fun b hb h => ⟨h, by omega⟩)
  have C3 : ContT O W3 (fun b => Q b ∧ b ≠ w2.heap.size) w.heap.size k := HK.out W3 _ _ bw3 qf (Nat.le_refl _) ⟨HQ.out _ (Nat.le_refl _), by omega⟩ (fun b hb h => ⟨h, by omega⟩)
  have HG := Lib.hid (goon_tree O w2.heap.size n .nilFunc (.pointer none) (pV lp) [w.heap.size] (fun b => Q b ∧ b ≠ w2.heap.size) (bindT k T) W3
    qt (.inr ⟨0, lp, rfl, .leaf lp _ ⟨HQ.out _ (by omega), by omega⟩ ql⟩) (fun j hj => ⟨HQ.out _ (by omega), by omega⟩) (fun h => h.2 rfl)
    ⟨T, T3, fun j e => by have := HN.out j e; omega, k, k, C3, rfl, fun v => rfl⟩)
  clear qt ql qf
  go_wp2_with (go_at_call 119; refine HG.out.mono ?_; rintro e w4 ⟨rfl, k4, hT4⟩)
  go_ret
  have b4 : Below w.heap.size w w4 := bw3.trans (k4.below bw3.size (fun i _ h => by omega))
  exact ⟨w2.heap.size, rfl, by omega, hT4, b4⟩
end Go.Proofs.YtldofbkjjmnooaaGreat
/- Package task: tasks of items are tasks by what they may yet do; a task of a caller's own, its steps. -/
namespace Go.Proofs.YtldofbkjjmnooaaGreat
open Go.ChangeShapes Go.WideShapes Go.ChangeAt Go.RowKit
set_option linter.unusedVariables false
set_option maxRecDepth 100000
set_option linter.unusedSimpArgs false
/-- operations on cells, and parkings -/
def cellOps (C P : Nat) : Ops Itm where
  is := fun w Q x d p => (∃ b F caps, d = cloV 260 #[pV b] ∧ p = .pointer none ∧ Q b ∧ Blk w b 28 #[cloV F caps] ∧ CloAt w C Q x F caps) ∨ ((x.kind = 5 ∨ x.kind = 6) ∧ d = .nilFunc ∧ ∃ pb, p = pV pb ∧ Q pb ∧ Blk w pb 265 #[pV P, .int .i64 x.at', .bool (x.kind == 6)]) ∨ (x.kind = 8 ∧ p = .pointer none ∧ ∃ F caps, d = cloV F caps)
  keep := fun {w w1 Q Q' F x d p} h hk hd hq => by
    rcases h with ⟨b, G, caps, e1, e2, h1, h2, h3⟩ | ⟨e1, e2, pb, e4, h1, h2⟩ | h
    · exact .inl ⟨b, G, caps, e1, e2, hq _ h2.lt h1, h2.keep hk (hd _ h1), h3.keep hk hd hq⟩
    · exact .inr (.inl ⟨e1, e2, pb, e4, hq _ h2.lt h1, h2.keep hk (hd _ h1)⟩)
    · exact .inr (.inr h)
  op := fun {w Q x d p} h => by
    rcases h with ⟨b, G, caps, e1, e2, h1, h2, h3⟩ | ⟨e1, e2, pb, e4, h1, h2⟩ | ⟨_, e2, G, caps, e1⟩
    · exact .inl ⟨_, _, e1, e2⟩
    · exact .inr ⟨_, e2, e4⟩
    · exact .inl ⟨_, _, e1, e2⟩
/-- continuations of tasks of items -/
def K0 (C P : Nat) (w : World) (Q : Nat → Prop) (f : Nat) (k : Int → Tre Itm) : Prop :=
  (∃ s, Cont w C P Q f s ∧ k = itmT s) ∨ (∃ x, x.kind = 4 ∧ Link2 w C Q x f ∧ k = loopK x) ∨ (Link3 w Q f ∧ k = spinK)
theorem conts_behind {C P : Nat} {w : World} {Q : Nat → Prop} : ∀ (fs : List Nat) (r : List Itm), Conts (Cont w C P Q) fs r → ∀ s u, Behind (K0 C P w Q) fs (itmT s u) (itmT (s ++ r) u)
  | [], r, e, s, u => by
    simp only [Conts] at e
    subst e
    rw [List.append_nil]
    exact rfl
  | f :: fs, r, ⟨s1, r2, h1, h2, e⟩, s, u => by
    subst e
    exact ⟨itmT s1, itmT (s1 ++ r2), .inl ⟨s1, h1, rfl⟩, itmT_append _ _ _, fun v => conts_behind fs r2 h2 s1 v⟩
theorem task_tree {C P : Nat} {w : World} {Q : Nat → Prop} {t : Nat} {r : List Itm} {v : Int} (h : TaskC w C P Q t r v) : TaskT (cellOps C P) (K0 C P w Q) w Q (some ⟨t, 0, none⟩) (itmT r v) := by
  rcases h.view with ⟨rfl, hd⟩ | ⟨x, r', d, p, rest, gs, fs, rfl, hL, hT, hO, hC⟩
  · exact .inl ⟨v, rfl, hd⟩
  · have h7 := hO.kind
    have hb := conts_behind fs r' hC
    rcases hO with ⟨hO, ⟨h4, rfl⟩ | ⟨h4, k3, k2, rfl, l3, l2⟩⟩ | ⟨h5, rfl, rfl, hO⟩
    · refine .inr ⟨x, itmT r', t, d, p, rest, fs, ?_, rfl, hL, hT, .inl hO, fun u => hb [] u⟩
      simp only [itmT]
      rw [if_neg (by omega), if_neg h4]
    · refine .inr ⟨x, fun u => bindT (itmT r') (bindT (loopK x) (spinK u)), t, d, p, rest, _, ?_, rfl, hL, hT, .inl hO, fun u => ?_⟩
      · simp only [itmT]
        rw [if_neg (by omega), if_pos h4, spinT_eq2, bindT_op]
      · refine ⟨spinK, fun u => bindT (itmT r') (bindT (loopK x) (spinK u)), .inr (.inr ⟨l3, rfl⟩), by rw [bindT_ret], fun u => ⟨loopK x, fun u => bindT (itmT r') (loopK x u), .inr (.inl ⟨x, h4, l2, rfl⟩), by exact bindT_assoc _ _ _, fun u => ?_⟩⟩
        show Behind (K0 C P w Q) fs (loopK x u) (bindT (itmT r') (loopK x u))
        unfold loopK
        by_cases hu : u = -2147483648
        · rw [if_pos hu]
          have e1 : itmT [x] 0 = spinT x := by
            simp only [itmT]
            rw [if_neg (by omega), if_pos h4]
            exact spin_end x
          have := hb [x] 0
          rwa [itmT_append, e1] at this
        · rw [if_neg hu, bindT_ret]
          exact hb [] u
    · refine .inr ⟨x, itmT r', t, _, p, rest, fs, ?_, rfl, hL, hT, .inr (.inl ⟨h5, rfl, hO⟩), fun u => hb [] u⟩
      simp only [itmT]
      rw [if_neg (by omega), if_neg (by omega)]
theorem k0_step (C P : Nat) (w : World) (Q : Nat → Prop) (f : Nat) (k : Int → Tre Itm) (h : K0 C P w Q f k) : ContS (cellOps C P) (K0 C P) w Q f k := by
  have hd : ∀ b, Q b → ¬ ¬ Q b := fun b h hn => hn h
  rcases h with ⟨s, hc, rfl⟩ | ⟨x, h4, l2, rfl⟩ | ⟨l3, rfl⟩
  · obtain ⟨h1, bl, B, o, cap, L, h2, _⟩ := hc.unfold
    refine ⟨h1, h2.lt, fun v w1 hw => ?_⟩
    refine (cont_call C P (fun b => (Q b ∧ b < w.heap.size) ∨ w1.heap.size ≤ b) f s v w1 (hc.keep hw hd (fun b hb h => .inl ⟨h, hb⟩)) (fun k hk => .inr hk)).mono ?_
    rintro e w2 ⟨t, rfl, hM⟩
    have := task_tree hM.task
    rw [itmT_on] at this
    refine ⟨some ⟨t, 0, none⟩, rfl, hM.2.2, this, fun j e => ?_⟩
    injection e with e
    injection e with e
    exact .inr (e ▸ hM.1)
  · obtain ⟨q1, bb, body, q2, q3, q4, q5⟩ := l2
    refine ⟨q1, q2.lt, fun v w1 hw => ?_⟩
    refine then1P_any f 274 #[pV bb] v w1 _ (q2.keep hw (fun h => h q1)) call_loop1 fun w2 hb => ?_
    have hsz := hb.size
    have hw2 : Keep (fun b => ¬ Q b) w w2 := hw.step (Q' := fun _ => False) (Keep.ofBelow hb) (fun _ _ h => h.elim)
    refine (loop1_any C P (fun b => (Q b ∧ b < w.heap.size) ∨ w1.heap.size ≤ b) x bb body v w2 h4 (q4.keep hw2 (fun h => h q3)) (q5.keep hw2 hd (fun b hb h => .inl ⟨h, hb⟩)) (fun k hk => .inr (by omega))).mono ?_
    have hn : ∀ t, w2.heap.size ≤ t → InQ (fun b => (Q b ∧ b < w.heap.size) ∨ w1.heap.size ≤ b) (some ⟨t, 0, none⟩) := fun t ht j e => by
      injection e with e
      injection e with e
      exact .inr (by omega)
    unfold loopK
    rintro e w3 ⟨t, rfl, ⟨rfl, hM⟩ | ⟨hv, hM⟩⟩
    · have := task_tree hM.task
      simp only [itmT] at this
      rw [if_neg (by omega), if_pos h4, show (fun v => retT v : Int → Tre Itm) = retT from rfl, spin_end] at this
      exact ⟨some ⟨t, 0, none⟩, rfl, hb.trans (hM.2.2.mono hsz), by rw [if_pos rfl]; exact this, hn t hM.1⟩
    · exact ⟨some ⟨t, 0, none⟩, rfl, hb.trans (hM.2.2.mono hsz), by rw [if_neg hv]; exact task_tree hM.task, hn t hM.1⟩
  · obtain ⟨q1, q2⟩ := l3
    refine ⟨q1, q2.lt, fun v w1 hw => ?_⟩
    refine then1P_any f 218 #[] v w1 _ (q2.keep hw (fun h => h q1)) call_spin11 fun w2 hb => ?_
    have hsz := hb.size
    refine (spin11_any v w2).mono ?_
    rintro e w3 ⟨t, rfl, g1, g2, g3⟩
    refine ⟨some ⟨t, 0, none⟩, rfl, hb.trans (g3.mono hsz), .inl ⟨_, ?_, g2⟩, fun j e => ?_⟩
    · unfold spinK
      split <;> rfl
    · injection e with e
      injection e with e
      exact .inr (by omega)
theorem TaskC.tree {C P : Nat} {w : World} {Q : Nat → Prop} {t : Nat} {r : List Itm} {v : Int} (h : TaskC w C P Q t r v) : TaskF (cellOps C P) w Q (some ⟨t, 0, none⟩) (itmT r v) :=
  TaskT.keep (task_tree h) (fun f k h => ⟨K0 C P, k0_step C P, h⟩) (Keep.refl (fun _ => False) w) (fun _ _ h => h) (fun _ _ h => h) (fun _ _ h => h)
/-- a task of a caller's own, at block t, of the blocks of which Q is said -/
def TkT {A : Type} (O : Ops A) (w : World) (t : Nat) (Q : Nat → Prop) (T : Tre A) : Prop :=
  ∃ Q1 : Nat → Prop, TaskF O w Q1 (some ⟨t, 0, none⟩) T ∧ ¬ Q1 t ∧ (∀ b, Q1 b ∨ b = t → Q b) ∧ ∀ b, Q b → b < w.heap.size
theorem TkT.keep {A : Type} {O : Ops A} {w w1 : World} {t : Nat} {Q F : Nat → Prop} {T : Tre A} (h : TkT O w t Q T) (hk : Keep F w w1) (hn : ∀ b, Q b → ¬ F b) : TkT O w1 t Q T := by
  obtain ⟨Q1, h1, h2, h3, h4⟩ := h
  exact ⟨Q1, TaskF.keep h1 hk (fun b hb => hn b (h3 b (.inl hb))) (fun k e => by injection e with e; injection e with e; exact e ▸ hn t (h3 t (.inr rfl))) (fun _ _ h => h), h2, h3, fun b hb => Nat.lt_of_lt_of_le (h4 b hb) hk.size⟩
theorem TkT.still {A : Type} {O : Ops A} {w w1 : World} {t : Nat} {Q : Nat → Prop} {T : Tre A} (h : TkT O w t Q T) (hk : Keep (fun _ => False) w w1) : TkT O w1 t Q T := h.keep hk (fun _ _ h => h)
theorem TkT.lt {A : Type} {O : Ops A} {w : World} {t : Nat} {Q : Nat → Prop} {T : Tre A} (h : TkT O w t Q T) : ∀ b, Q b → b < w.heap.size := by
  obtain ⟨Q1, h1, h2, h3, h4⟩ := h
  exact h4
theorem TkT.own {A : Type} {O : Ops A} {w : World} {t : Nat} {Q : Nat → Prop} {T : Tre A} (h : TkT O w t Q T) : Q t := by
  obtain ⟨Q1, h1, h2, h3, h4⟩ := h
  exact h3 t (.inr rfl)
/-- a new one -/
theorem TkT.new {A : Type} {O : Ops A} {w' : World} {t : Nat} {Q : Nat → Prop} {T : Tre A} (h : TaskF O w' (fun b => Q b ∧ b ≠ t) (some ⟨t, 0, none⟩) T) (hq : Q t) : TkT O w' t (fun b => Q b ∧ b < w'.heap.size) T :=
  ⟨fun b => (Q b ∧ b ≠ t) ∧ b < w'.heap.size, TaskF.keep h (Keep.refl (fun _ => False) w') (fun _ _ h => h) (fun _ _ h => h) (fun b hb h => ⟨h, hb⟩), fun h => h.1.2 rfl, fun b hb => by
    rcases hb with hb | rfl
    · exact ⟨hb.1.1, hb.2⟩
    · exact ⟨hq, TaskT.lt h⟩, fun b hb => hb.2⟩
theorem Made6.tkT {w w' : World} {C P : Nat} {Q : Nat → Prop} {r : List Itm} {v : Int} {t : Nat} (h : Made6 w C P Q r v t w') (hq : Q t) : TkT (cellOps C P) w' t (fun b => Q b ∧ b < w'.heap.size) (itmT r v) := TkT.new (TaskC.tree h.2.1) hq
theorem TkT.from {A : Type} {O : Ops A} {w w' : World} {t : Nat} {Q Q1 : Nat → Prop} {T : Tre A} (ht : t < w.heap.size) (hw : w.heap.size ≤ w'.heap.size) (h1 : ∀ b, Q1 b ∨ b = t → Q b) (h2 : ¬ Q1 t) (h : TaskF O w' (fun b => Q1 b ∨ w.heap.size ≤ b) (some ⟨t, 0, none⟩) T) :
    ∃ Q', TkT O w' t Q' T ∧ ∀ b, Q' b → Q b ∨ w.heap.size ≤ b :=
  ⟨fun b => (Q b ∨ w.heap.size ≤ b) ∧ b < w'.heap.size, ⟨fun b => (Q1 b ∨ w.heap.size ≤ b) ∧ b < w'.heap.size, TaskF.keep h (Keep.refl (fun _ => False) w') (fun _ _ h => h) (fun _ _ h => h) (fun b hb hq => ⟨hq, hb⟩),
    fun hh => by rcases hh.1 with hh | hh
                 · exact h2 hh
                 · omega,
    fun b hb => by
      rcases hb with ⟨hb | hb, hlt⟩ | rfl
      · exact ⟨.inl (h1 b (.inl hb)), hlt⟩
      · exact ⟨.inr hb, hlt⟩
      · exact ⟨.inl (h1 b (.inr rfl)), by omega⟩, fun b hb => hb.2⟩, fun b hb => hb.1⟩
theorem TkT.done {A : Type} {O : Ops A} {w : World} {t : Nat} {Q : Nat → Prop} {v : Int} (h : TkT O w t Q (retT v)) : DoneV w (some ⟨t, 0, none⟩) v := by
  obtain ⟨Q1, h1, h2, h3, h4⟩ := h
  rcases h1 with ⟨u, e, h⟩ | ⟨x, κ, k, d, p, rest, fs, e, _⟩
  · rw [retT_inj e]; exact h
  · exact (ret_op e).elim
theorem TkT.live {A : Type} {O : Ops A} {w : World} {t : Nat} {Q : Nat → Prop} {x : A} {κ : Int → Tre A} (h : TkT O w t Q (opT x κ)) :
    ∃ Q1 : Nat → Prop, ¬ Q1 t ∧ (∀ b, Q1 b ∨ b = t → Q b) ∧ t < w.heap.size ∧ ∃ d p rest fs, Live w t d p rest ∧ TreeO w Q1 rest fs ∧ O.is w Q1 x d p ∧ ∀ v, Behind (ContT O w Q1) fs (retT v) (κ v) := by
  obtain ⟨Q1, h1, h2, h3, h4⟩ := h
  refine ⟨Q1, h2, h3, h4 t (h3 t (.inr rfl)), ?_⟩
  rcases h1 with ⟨u, e, h⟩ | ⟨x', κ', k, d, p, rest, fs, e, e2, g1, g2, g3, g4⟩
  · exact (ret_op e.symm).elim
  · obtain ⟨rfl, rfl⟩ := opT_inj e
    injection e2 with e2
    injection e2 with e2
    subst e2
    exact ⟨d, p, rest, fs, g1, g2, g3, g4⟩
theorem tdoneT_ret {A : Type} {O : Ops A} (t : Nat) (Q : Nat → Prop) (v : Int) (w : World) (h : TkT O w t Q (retT v)) : Calls Tryz.prog 38 #[pV t] w fun e w' => e = .returned (.bool true) ∧ w = w' := doneV_done _ v w h.done
theorem tdoneT_op {A : Type} {O : Ops A} (t : Nat) (Q : Nat → Prop) (x : A) (κ : Int → Tre A) (w : World) (h : TkT O w t Q (opT x κ)) : Calls Tryz.prog 38 #[pV t] w fun e w' => e = .returned (.bool false) ∧ w = w' := by
  obtain ⟨_, _, _, _, d, p, rest, fs, hL, _⟩ := h.live
  exact live_done t d p rest w hL
theorem tvalueT_ret {A : Type} {O : Ops A} (t : Nat) (Q : Nat → Prop) (v : Int) (w : World) (h : TkT O w t Q (retT v)) : Calls Tryz.prog 27 #[pV t] w fun e w' => e = .returned (.int .i64 v) ∧ w = w' := doneV_value _ v w h.done
theorem tvalueT_op {A : Type} {O : Ops A} (t : Nat) (Q : Nat → Prop) (x : A) (κ : Int → Tre A) (w : World) (h : TkT O w t Q (opT x κ)) : Calls Tryz.prog 27 #[pV t] w fun e w' => e = .returned (.int .i64 0) ∧ w = w' := by
  obtain ⟨_, _, _, _, d, p, rest, fs, hL, _⟩ := h.live
  exact value_any t _ _ _ 0 w hL.blk
theorem tstepT_ret {A : Type} {O : Ops A} (t : Nat) (Q : Nat → Prop) (v k : Int) (w : World) (h : TkT O w t Q (retT v)) : Calls Tryz.prog 37 #[pV t, .int .i64 k] w fun e w' => e = .returned (.bool false) ∧ w = w' := step_done _ v k w h.done
/-- a step that does an operation on cells -/
theorem tstepT_op (C P S t : Nat) (Q : Nat → Prop) (x : Itm) (κ : Int → Tre Itm) (m : List Int) (n : Int) (w : World) (h : TkT (cellOps C P) w t Q (opT x κ)) (hC : CellsAt w C S m n) (hk : x.kind < 5) (hQ : ∀ b, Q b → b ≠ C ∧ b ≠ S) (hn : 0 ≤ n ∧ n ≤ 2000000) :
    Calls Tryz.prog 37 #[pV t, .int .i64 0] w fun e w' => e = .returned (.bool true) ∧ (∃ Q', TkT (cellOps C P) w' t Q' (κ (operS m x).2.1) ∧ ∀ b, Q' b → Q b ∨ w.heap.size ≤ b) ∧
      CellsAt w' C S (operS m x).1 (n + countS m x) ∧ Keep (fun b => b = t ∨ ofCells C S b) w w' := by
  obtain ⟨Q1, q1, q2, hlt, d, p, rest, fs, hL, hT, hO, hc⟩ := h.live
  have hcq : ∀ b, Q1 b → ¬ ofCells C S b := fun b hb hf => by
    have := hQ b (q2 b (.inl hb))
    rcases hf with hf | hf
    · exact this.1 hf
    · exact this.2 hf
  have htc : ¬ ofCells C S t := fun hf => by
    have := hQ t (q2 t (.inr rfl))
    rcases hf with hf | hf
    · exact this.1 hf
    · exact this.2 hf
  obtain ⟨b, F, caps, rfl, rfl, b1, b2, b3⟩ : ∃ b F caps, d = cloV 260 #[pV b] ∧ p = .pointer none ∧ Q1 b ∧ Blk w b _ #[cloV F caps] ∧ CloAt w C Q1 x F caps := by
    rcases hO with hO | ⟨hO, _⟩ | ⟨hO, _⟩
    · exact hO
    · omega
    · omega
  refine step_yes t _ _ rest 0 w (fun v' w2 => v' = (operS m x).2.1 ∧ CellsAt w2 C S (operS m x).1 (n + countS m x) ∧ Keep (ofCells C S) w w2)
    (fun w' => (∃ Q', TkT (cellOps C P) w' t Q' (κ (operS m x).2.1) ∧ ∀ b, Q' b → Q b ∨ w.heap.size ≤ b) ∧ CellsAt w' C S (operS m x).1 (n + countS m x) ∧ Keep (fun b => b = t ∨ ofCells C S b) w w') hL ?_ ?_
  · refine opend_do b w _ fun W hb => ?_
    have kW : Keep (fun _ => False) w W := Keep.ofBelow hb
    refine (do6_any C S Q1 m n x b F caps W (b2.below hb b2.lt) (b3.keep kW (fun _ _ h => h) (fun _ _ h => h)) (hC.keep kW (fun h => h) (fun h => h)) hn.1 (by omega)).mono ?_
    rintro e w' ⟨v', rfl, e1, e2, e3⟩
    exact ⟨v', rfl, e1, e2, (Keep.ofBelow hb).trans e3⟩
  · rintro v' w2 w3 k ⟨rfl, hC2, hk2⟩ g1 g2 g3
    have k3 : Keep (ofCells C S) w w3 := hk2.trans (Keep.ofBelow g3)
    have s2 := hk2.size
    have hT3 : TreeO w3 (fun b => Q1 b ∨ w.heap.size ≤ b) rest fs := (hT.keep k3 hcq).mono (fun b _ h => .inl h)
    have hJ : JotT (cellOps C P) (fun b => Q1 b ∨ w.heap.size ≤ b) t (κ (operS m x).2.1) w3 (some ⟨k, 0, none⟩) fs :=
      ⟨_, .inl ⟨_, rfl, g2⟩, fun j e => by injection e with e; injection e with e; omega, (hc _).keep k3 hcq (fun b _ h => .inl h)⟩
    refine (goon_tree (cellOps C P) t _ _ _ rest fs (fun b => Q1 b ∨ w.heap.size ≤ b) _ w3 (hL.blk.keep k3 htc) hT3 (fun j hj => .inr (by have := k3.size; omega)) (fun hh => hh.elim q1 (fun h => by omega)) hJ).mono ?_
    rintro e w' ⟨rfl, k4, hT4⟩
    have k5 : Keep (fun b => b = t ∨ ofCells C S b) w w' := (k3.mono (fun _ _ h => .inr h)).trans (k4.mono (fun _ _ h => .inl h))
    refine ⟨rfl, TkT.from hlt k5.size q2 q1 hT4, ?_, k5⟩
    have hC3 := hC2.keep (Keep.ofBelow (Q := fun _ => False) g3) (fun h => h) (fun h => h)
    exact hC3.keep k4 (fun e => htc (.inl e.symm)) (fun e => htc (.inr e.symm))
end Go.Proofs.YtldofbkjjmnooaaGreat
/- Package task: Seq, of tasks by what they may yet do. -/
namespace Go.Proofs.YtldofbkjjmnooaaGreat
open Go.ChangeShapes Go.WideShapes Go.ChangeAt Go.RowKit
set_option linter.unusedVariables false
set_option maxRecDepth 100000
set_option linter.unusedSimpArgs false
/-- one behind the other, with the last one's value -/
def seqT {A : Type} : List (Tre A) → Tre A
  | [] => retT 0
  | [T] => bindT retT T
  | T :: U :: r => bindT (fun _ => seqT (U :: r)) T
theorem seqT_skip {A : Type} (v : Int) (U : Tre A) (r : List (Tre A)) : seqT (retT v :: U :: r) = seqT (U :: r) := by simp only [seqT, bindT_ret]
/-- a new task -/
def MadeQ {A : Type} (O : Ops A) (w : World) (Q : Nat → Prop) (T : Tre A) (t : Nat) (w' : World) : Prop := w.heap.size ≤ t ∧ TaskF O w' (fun b => Q b ∧ b ≠ t) (some ⟨t, 0, none⟩) T ∧ Below w.heap.size w w'
theorem Made6.madeQ {w w' : World} {C P : Nat} {Q : Nat → Prop} {r : List Itm} {v : Int} {t : Nat} (h : Made6 w C P Q r v t w') : MadeQ (cellOps C P) w Q (itmT r v) t w' := ⟨h.1, TaskC.tree h.2.1, h.2.2⟩
theorem MadeQ.of {A : Type} {O : Ops A} {w w1 w' : World} {Q : Nat → Prop} {T : Tre A} {t : Nat} (h : MadeQ O w1 Q T t w') (hb : Below w.heap.size w w1) : MadeQ O w Q T t w' := ⟨Nat.le_trans hb.size h.1, h.2.1, hb.trans (h.2.2.mono hb.size)⟩
theorem MadeQ.task {A : Type} {O : Ops A} {w w' : World} {Q : Nat → Prop} {T : Tre A} {t : Nat} (h : MadeQ O w Q T t w') : TaskF O w' Q (some ⟨t, 0, none⟩) T :=
  TaskF.keep h.2.1 (Keep.refl (fun _ => False) w') (fun _ _ h => h) (fun _ _ h => h) (fun b _ h => h.1)
theorem TaskF.at {A : Type} {O : Ops A} {w w1 : World} {Q : Nat → Prop} {n : Option Addr} {T : Tre A} (h : TaskF O w Q n T) (hb : Below w.heap.size w w1) : TaskF O w1 Q n T :=
  TaskF.keep h (Keep.ofBelow (Q := fun _ => False) hb) (fun _ _ h => h) (fun _ _ h => h) (fun b _ h => h)
theorem MadeQ.lt {A : Type} {O : Ops A} {w w' : World} {Q : Nat → Prop} {T : Tre A} {t : Nat} (h : MadeQ O w Q T t w') : t < w'.heap.size := TaskT.lt h.2.1
theorem MadeQ.mono {A : Type} {O : Ops A} {w w' : World} {Q Q' : Nat → Prop} {T : Tre A} {t : Nat} (h : MadeQ O w Q T t w') (hq : ∀ b, b < w'.heap.size → Q b → Q' b) : MadeQ O w Q' T t w' :=
  ⟨h.1, TaskF.keep h.2.1 (Keep.refl (fun _ => False) w') (fun _ _ h => h) (fun _ _ h => h) (fun b hb h => ⟨hq b hb h.1, h.2⟩), h.2.2⟩
/-- a row of tasks -/
def RowT {A : Type} (O : Ops A) (w : World) (Q : Nat → Prop) (B o : Nat) (L : List (Option Addr × Tre A)) : Prop :=
  ∀ (i : Nat) x, L[i]? = some x → w.cell? ⟨B, o + i, none⟩ = some (.pointer x.1) ∧ TaskF O w Q x.1 x.2 ∧ InQ (fun k => k < w.heap.size) x.1
theorem RowT.tail {A : Type} {O : Ops A} {w : World} {Q : Nat → Prop} {B o : Nat} {x : Option Addr × Tre A} {M : List (Option Addr × Tre A)} (h : RowT O w Q B o (x :: M)) : RowT O w Q B (o + 1) M :=
  fun i y hy => by have := h (i + 1) y (by simpa using hy); rwa [show o + (i + 1) = o + 1 + i by omega] at this
theorem RowT.keep {A : Type} {O : Ops A} {w w1 : World} {Q Q' F : Nat → Prop} {B o : Nat} {L : List (Option Addr × Tre A)} (h : RowT O w Q B o L) (hk : Keep F w w1) (hd : ∀ b, Q b → ¬ F b) (hB : ¬ F B) (hn : ∀ (i : Nat) x, L[i]? = some x → InQ (fun k => ¬ F k) x.1) (hq : ∀ b, b < w.heap.size → Q b → Q' b) : RowT O w1 Q' B o L := fun i x hx => by
  obtain ⟨h1, h2, h3⟩ := h i x hx
  exact ⟨cell_keep6 h1 hk hB, TaskF.keep h2 hk hd (hn i x hx) hq, fun k e => Nat.lt_of_lt_of_le (h3 k e) hk.size⟩
theorem RowT.at {A : Type} {O : Ops A} {w w1 : World} {Q : Nat → Prop} {B o : Nat} {L : List (Option Addr × Tre A)} (h : RowT O w Q B o L) (hb : Below w.heap.size w w1) : RowT O w1 Q B o L :=
  h.keep (Keep.ofBelow (Q := fun _ => False) hb) (fun _ _ h => h) (fun h => h) (fun _ _ _ _ _ h => h) (fun _ _ h => h)
theorem TaskF.either {A : Type} {O : Ops A} {w : World} {Q : Nat → Prop} {n : Option Addr} {T : Tre A} (h : TaskF O w Q n T) : (∃ v, T = retT v ∧ DoneV w n v) ∨ ∃ k d p r, n = some ⟨k, 0, none⟩ ∧ Live w k d p r := by
  rcases h with ⟨v, e, h⟩ | ⟨x, κ, k, d, p, rest, fs, e, rfl, h1, h2, h3, h4⟩
  · exact .inl ⟨v, e, h⟩
  · exact .inr ⟨k, d, p, rest, rfl, h1⟩
/-- what is said of inOrder for shorter lists -/
def OrdT {A : Type} (O : Ops A) (k : Nat) : Prop := ∀ (L : List (Option Addr × Tre A)) (Q : Nat → Prop) (a : Option Addr) (cap : Nat) (w : World), L.length ≤ k → (L ≠ [] → ∃ B o, a = some ⟨B, o, none⟩ ∧ Q B ∧ RowT O w Q B o L ∧ ∀ (i : Nat) x, L[i]? = some x → InQ Q x.1) → L.length ≤ 1000 → L.length ≤ cap → cap ≤ maxLen → (∀ k, w.heap.size ≤ k → Q k) →
  Calls Tryz.prog 224 #[.slice a L.length cap] w fun e w' => ∃ t, e = .returned (pV t) ∧ MadeQ O w Q (seqT (L.map (·.2))) t w'
theorem order1T {A : Type} (O : Ops A) (k : Nat) (hO : OrdT O k) (Q : Nat → Prop) (L : List (Option Addr × Tre A)) (bl B o cap : Nat) (v : Int) (w : World) (hL : L ≠ []) (hk : L.length ≤ k) (hb : Blk w bl 54 #[.slice (some ⟨B, o, none⟩) (L.length + 1) cap])
    (hB : Q B) (hR : RowT O w Q B (o + 1) L) (hI : ∀ (i : Nat) x, L[i]? = some x → InQ Q x.1) (hn : L.length ≤ 1000) (hc : L.length + 1 ≤ cap) (hm : cap ≤ maxLen) (hQ : ∀ k, w.heap.size ≤ k → Q k) :
    Calls Tryz.prog 291 #[.int .i64 v, pV bl] w fun e w' => ∃ t, e = .returned (pV t) ∧ MadeQ O w Q (seqT (L.map (·.2))) t w' := by
  have c0 : w.cell? ⟨bl, 0, none⟩ = some (.slice (some ⟨B, o, none⟩) (L.length + 1) cap) := hb.cell 0 _ rfl
  have h1 : 1 ≤ L.length := by
    cases L with
    | nil => exact absurd rfl hL
    | cons x L => simp
  have hsl := slice_from B o (L.length + 1) cap (by omega) (by omega)
  have HH := Lib.hid (hO L Q (some ⟨B, o + 1, none⟩) (cap - 1) w hk (fun _ => ⟨B, o + 1, rfl, hB, hR, hI⟩) hn (by omega) (by omega) hQ)
  clear hR hB hQ hm hc hb hI hO
  simp only [Nat.add_sub_cancel] at hsl
  generalize L.length = n at *
  go_enter Tryz.func291, Tryz.ntmps291
  go_wp2_with (go_at_call 224; refine HH.out.mono ?_; rintro e w2 ⟨t, rfl, h2⟩)
  go_ret
  exact ⟨t, rfl, h2⟩
set_option maxHeartbeats 1000000 in
theorem inOrderT {A : Type} (O : Ops A) : ∀ k, OrdT O k := by
  intro k
  induction k with
  | zero =>
    intro L Q a cap w hk ha hn hc hm hQ
    obtain rfl : L = [] := List.length_eq_zero_iff.1 (by omega)
    go_enter Tryz.func224, Tryz.ntmps224
    go_upto_region 1 with fail
    generalize hW : (w.alloc _) = W
    have bW : Below w.heap.size w W := by rw [← hW]; go_grown
    have q0 : Blk W w.heap.size 54 #[.slice a 0 cap] := by rw [← hW]; exact Blk.new w _ _
    clear hW
    have c0 : W.cell? ⟨w.heap.size, 0, none⟩ = some (.slice a 0 cap) := q0.cell 0 _ rfl
    have sW := bW.size
    clear q0
    go_loopg [3] 0 (fun k _ wr => k = 0 ∧ wr = W)
    case atStart => exact ⟨rfl, rfl⟩
    case round =>
      obtain ⟨_, rfl⟩ := hrel
      go_wp2_with (go_at_call 102; refine (ready_any _ _).mono ?_; rintro e w2 ⟨t, rfl, h1, h2, h3⟩)
      go_ret
      exact ⟨t, rfl, by omega, .inl ⟨0, rfl, .inr ⟨t, rfl, h2⟩⟩, bW.trans (h3.mono sW)⟩
  | succ k ih =>
    intro L Q a cap w hk ha hn hc hm hQ
    have hmf : ∀ (fn : Fn) (first cap : Array Value) (w : World), (Instr.makeFunc fn first cap).run Tryz.prog w = .ok (.func fn first cap) w := fun _ _ _ _ => rfl
    have HQ := Lib.hid hQ
    have HA := Lib.hid ha
    have HM := Lib.hid hm
    have IH := Lib.hid ih
    have HK := Lib.hid hk
    clear hQ ha hm ih hk
    go_enter Tryz.func224, Tryz.ntmps224
    go_upto_region 1 with fail
    generalize hW : (w.alloc _) = W
    have bW : Below w.heap.size w W := by rw [← hW]; go_grown
    have q0 : Blk W w.heap.size 54 #[.slice a L.length cap] := by rw [← hW]; exact Blk.new w _ _
    clear hW
    have hl0 := q0.lt
    have hsl := slice_from
    go_loopg [3] L.length (fun k _ wr => ∃ M a' cap', k = M.length ∧ Blk wr w.heap.size 54 #[.slice a' M.length cap'] ∧ Hid (M ≠ [] → ∃ B o, a' = some ⟨B, o, none⟩ ∧ Q B ∧ RowT O w Q B o M ∧ ∀ (i : Nat) x, M[i]? = some x → InQ Q x.1) ∧ M.length ≤ cap' ∧ Hid (cap' ≤ maxLen) ∧ M.length ≤ 1000 ∧ Hid (M.length ≤ L.length) ∧ Hid (seqT (M.map (·.2)) = seqT (L.map (·.2))) ∧ Below w.heap.size w wr)
    case atStart => exact ⟨L, a, cap, rfl, q0, Lib.hid HA.out, hc, HM, hn, Lib.hid (Nat.le_refl _), Lib.hid rfl, bW⟩
    case round =>
      clear q0 HA HM hc hn hl0
      obtain ⟨M, a', cap', hk, hB, hA, hc, hm, hn, hML, hR, hW⟩ := hrel
      have hsz := hW.size
      have z0 := hB.free 0
      have HB := Lib.hid hB
      have kk : Keep (fun _ => False) w wr := Keep.ofBelow hW
      match M, hk, hB, hA, hc, hm, hn, hML, hR, HB with
      | [], hk, hB, hA, hc, hm, hn, hML, hR, HB =>
        have c0 : wr.cell? ⟨w.heap.size, 0, none⟩ = some (.slice a' 0 cap') := hB.cell 0 _ rfl
        clear hB z0
        go_wp2_with (go_at_call 102; refine (ready_any _ _).mono ?_; rintro e w2 ⟨t, rfl, h1, h2, h3⟩)
        go_ret
        refine ⟨t, rfl, ?_⟩
        rw [← hR.out]
        exact ⟨by omega, .inl ⟨0, rfl, .inr ⟨t, rfl, h2⟩⟩, hW.trans (h3.mono hsz)⟩
      | [x], hk, hB, hA, hc, hm, hn, hML, hR, HB =>
        obtain ⟨B, o, rfl, hQB, hrow, hiq⟩ := hA.out (by simp)
        have c0 : wr.cell? ⟨w.heap.size, 0, none⟩ = some (.slice (some ⟨B, o, none⟩) 1 cap') := hB.cell 0 _ rfl
        have e0 : wr.cell? ⟨B, o, none⟩ = some (.pointer x.1) := by have := (hrow 0 x rfl).1; exact cell_keep6 this kk (fun h => h)
        obtain ⟨_, hT, hlt⟩ := hrow 0 x rfl
        have hTH := Lib.hid (thenT_any O x.1 291 #[pV w.heap.size] x.2 retT Q wr (hT.at hW) (fun j e => Nat.lt_of_lt_of_le (hlt j e) hsz) (fun k hk => HQ.out k (by omega)) (by
          intro w3 Q1 f hb hf hlo hqf hqq
          refine contT_of O w3 Q1 f 291 _ _ hqf hf call_order1 fun v w4 hw => ?_
          have hbk : Blk w4 w.heap.size 54 #[.slice (some ⟨B, o, none⟩) 1 cap'] := (HB.out.below hb HB.out.lt).keep hw (fun h => h (hqq _ HB.out.lt (HQ.out _ (Nat.le_refl _))))
          refine (order1_last w.heap.size _ cap' v w4 hbk).mono ?_
          rintro e w5 ⟨t, rfl, h1, h2, h3⟩
          exact ⟨some ⟨t, 0, none⟩, rfl, h3, .inl ⟨v, rfl, h2⟩, fun j e => by injection e with e; injection e with e; exact .inr (by omega)⟩))
        have hei := Lib.hid (hT.at hW).either
        clear hB hrow hA hT z0
        have hD : Hid (∃ b, Calls Tryz.prog 38 #[.pointer x.1] wr fun e w' => e = .returned (.bool b) ∧ wr = w') := Lib.hid (by
          rcases hei.out with ⟨v, _, hd⟩ | ⟨k, d, p, r, e, hL⟩
          · exact ⟨true, doneV_done _ v wr hd⟩
          · rw [e]; exact ⟨false, live_done k d p r wr hL⟩)
        obtain ⟨b0, hD⟩ := hD.out
        have HD := Lib.hid hD
        clear hD
        go_wp2_with (first | (go_at_call 38; refine HD.out.mono ?_; rintro e w3 ⟨rfl, rfl⟩) | (go_at_call 137; refine hTH.out.mono ?_; rintro e w2 ⟨t, rfl, h1, h2, h3⟩))
        go_ret
        refine ⟨t, rfl, ?_⟩
        rw [← hR.out]
        exact ⟨by omega, h2, hW.trans (h3.mono hsz)⟩
      | x :: y :: M, hk, hB, hA, hc, hm, hn, hML, hR, HB =>
        obtain ⟨B, o, rfl, hQB, hrow, hiq⟩ := hA.out (by simp)
        have c0 : wr.cell? ⟨w.heap.size, 0, none⟩ = some (.slice (some ⟨B, o, none⟩) (M.length + 1 + 1) cap') := hB.cell 0 _ rfl
        have e0 : wr.cell? ⟨B, o, none⟩ = some (.pointer x.1) := by have := (hrow 0 x rfl).1; exact cell_keep6 this kk (fun h => h)
        obtain ⟨_, hT, hlt⟩ := hrow 0 x rfl
        have hRow := Lib.hid hrow
        have hIq := Lib.hid hiq
        clear hB hrow hA hiq
        simp only [List.length_cons] at hc hn
        have hsl2 := hsl B o (M.length + 1 + 1) cap' (by omega) (by omega)
        rcases (hT.at hW).either with ⟨v, ev, hd⟩ | ⟨k0, d0, p0, r0, hx1, hL⟩
        · have hD := Lib.hid (doneV_done x.1 v wr hd)
          have HE := Lib.hid ev
          clear hd hsl hT ev
          go_wp2_with (go_at_call 38; refine hD.out.mono ?_; rintro e w3 ⟨rfl, rfl⟩)
          go_roundg (M.length + 1)
          case measure => simp only [List.length_cons] at hk; omega
          case rel =>
            refine ⟨y :: M, some ⟨B, o + 1, none⟩, cap' - 1, rfl, ?_, Lib.hid (fun _ => ⟨B, o + 1, rfl, hQB, hRow.out.tail, fun i z hz => hIq.out (i + 1) z (by simpa using hz)⟩), by simp only [List.length_cons]; omega, Lib.hid (by have := hm.out; omega), by simp only [List.length_cons]; omega, Lib.hid (by have := hML.out; simp only [List.length_cons] at this ⊢; omega), Lib.hid (by rw [← hR.out]; simp only [List.map_cons]; rw [HE.out, seqT_skip]), hW.setCell (p := ⟨w.heap.size, 0, none⟩) (Nat.le_refl _) _⟩
            have := HB.out.set 0 (.slice (some ⟨B, o + 1, none⟩) (M.length + 1) (cap' - 1))
            exact this
        · clear z0 hsl hsl2
          have hBlt := cell_lt6 (hRow.out 0 x rfl).1
          have hTH := Lib.hid (thenT_any O x.1 291 #[pV w.heap.size] x.2 (fun _ => seqT ((y :: M).map (·.2))) Q wr (hT.at hW) (fun j e => Nat.lt_of_lt_of_le (hlt j e) hsz) (fun k hk => HQ.out k (by omega)) (by
            intro w3 Q1 f hb hf hlo hqf hqq
            have hq0 : ∀ b, b < w.heap.size → Q b → Q1 b := fun b hb h => hqq b (by omega) h
            refine contT_of O w3 Q1 f 291 _ _ hqf hf call_order1 fun v w4 hw => ?_
            have hbk : Blk w4 w.heap.size 54 #[.slice (some ⟨B, o, none⟩) ((y :: M).length + 1) cap'] := (HB.out.below hb HB.out.lt).keep hw (fun h => h (hqq _ HB.out.lt (HQ.out _ (Nat.le_refl _))))
            have s3 := hb.size
            have k04 : Keep (fun b => ¬ (Q b ∧ b < w.heap.size)) w w4 := (kk.mono (fun _ _ h => h.elim)).step (((Keep.ofBelow (Q := fun _ => False) hb).mono (Q' := fun b => ¬ Q1 b) (fun _ _ h => h.elim)).trans hw) (fun i hi h hh => h (hq0 i hi hh.1))
            have hRT : RowT O w (fun b => Q b ∧ b < w.heap.size) B (o + 1) (y :: M) := hRow.out.tail.keep (Keep.refl (fun _ => False) w) (fun _ _ h => h) (fun h => h) (fun _ _ _ _ _ h => h) (fun b hb h => ⟨h, hb⟩)
            refine (order1T O k IH.out (fun b => (Q1 b ∧ b < w3.heap.size) ∨ w4.heap.size ≤ b) (y :: M) w.heap.size B o cap' v w4 (by simp) (by have h1 := hML.out; have h2 := HK.out; simp only [List.length_cons] at h1 h2 ⊢; omega) hbk (.inl ⟨hq0 B hBlt hQB, by omega⟩) (hRT.keep k04 (fun b h hn => hn h) (fun h => h ⟨hQB, hBlt⟩) (fun i z hz j e h => h ⟨hIq.out (i + 1) z (by simpa using hz) j e, (hRow.out (i + 1) z (by simpa using hz)).2.2 j e⟩) (fun b hb h => .inl ⟨hq0 b hb h.1, by omega⟩)) (fun i z hz j e => .inl ⟨hq0 j ((hRow.out (i + 1) z (by simpa using hz)).2.2 j e) (hIq.out (i + 1) z (by simpa using hz) j e), by have := (hRow.out (i + 1) z (by simpa using hz)).2.2 j e; omega⟩) (by simp only [List.length_cons]; omega) (by simp only [List.length_cons]; omega) hm.out (fun k hk => .inr hk)).mono ?_
            rintro e w5 ⟨t, rfl, hM⟩
            exact ⟨some ⟨t, 0, none⟩, rfl, hM.2.2, hM.task, fun j e => by injection e with e; injection e with e; rw [← e]; exact .inr hM.1⟩))
          have hx2 : Value.pointer x.1 = pV k0 := by rw [hx1]
          have hD := Lib.hid (live_done k0 d0 p0 r0 wr hL)
          rw [hx2] at hTH e0
          clear hL hT hx1 hx2
          go_wp2_with (first | (go_at_call 38; refine hD.out.mono ?_; rintro e w3 ⟨rfl, rfl⟩) | (go_at_call 137; refine hTH.out.mono ?_; rintro e w2 ⟨t, rfl, h1, h2, h3⟩))
          go_ret
          refine ⟨t, rfl, ?_⟩
          rw [← hR.out]
          exact ⟨by omega, h2, hW.trans (h3.mono hsz)⟩
/-- the tasks of a row, one behind the other -/
theorem seqT_any {A : Type} (O : Ops A) (Q : Nat → Prop) (L : List (Option Addr × Tre A)) (B o cap : Nat) (w : World) (hne : L ≠ []) (hl : L.length ≤ 1000) (hR : RowT O w Q B o L) (hI : ∀ (i : Nat) x, L[i]? = some x → InQ Q x.1) (hQ : ∀ k, w.heap.size ≤ k → Q k) :
    Calls Tryz.prog 138 #[.slice (some ⟨B, o, none⟩) L.length cap] w fun e w' => ∃ t, e = .returned (pV t) ∧ MadeQ O w Q (seqT (L.map (·.2))) t w' := by
  have HC := Lib.hid (clone_any (L.map (·.1)) B o cap w (by simpa using hne) (by simpa using hl) (fun i x hx => by
    rw [List.getElem?_map] at hx
    obtain ⟨y, hy, rfl⟩ := Option.map_eq_some_iff.1 hx
    exact (hR i y hy).1))
  have HI := Lib.hid fun W g c2 (hb : Below w.heap.size w W) (hg : w.heap.size ≤ g) (hc : L.length ≤ c2) (hm : c2 ≤ maxLen) (hcl : ∀ i x, (L.map (·.1))[i]? = some x → W.cell? ⟨g, i, none⟩ = some (.pointer x)) =>
    inOrderT O L.length L Q (some ⟨g, 0, none⟩) c2 W (Nat.le_refl _) (fun _ => ⟨g, 0, rfl, hQ g hg, fun i x hx => ⟨by rw [Nat.zero_add]; exact hcl i x.1 (by rw [List.getElem?_map, hx]; rfl), (hR i x hx).2.1.at hb, fun k e => Nat.lt_of_lt_of_le ((hR i x hx).2.2 k e) hb.size⟩, hI⟩) hl hc hm (fun k hk => hQ k (Nat.le_trans hb.size hk))
  rw [List.length_map] at HC
  clear hR hQ hI
  go_enter Tryz.func138, Tryz.ntmps138
  go_wp2_with (first | (go_at_call 225; refine HC.out.mono ?_; rintro e w2 ⟨g, c2, rfl, h1, h2, h3, h4, _, h5⟩; have H2 := Lib.hid (HI.out w2 g c2 h5 h1 h2 h3 h4)) | (go_at_call 224; refine H2.out.mono ?_; rintro e w3 ⟨t, rfl, h6⟩))
  go_ret
  exact ⟨t, rfl, h6.of h5⟩
/-- .. of a list that is written out -/
theorem seqT_two {A : Type} (O : Ops A) (Q : Nat → Prop) (T1 T2 : Tre A) (t1 t2 : Nat) (w : World) (h1 : TaskF O w Q (some ⟨t1, 0, none⟩) T1) (h2 : TaskF O w Q (some ⟨t2, 0, none⟩) T2) (q1 : Q t1) (q2 : Q t2) (hQ : ∀ k, w.heap.size ≤ k → Q k) :
    Calls Tryz.prog 138 #[.slice (some ⟨w.heap.size, 0, none⟩) 2 2] (w.alloc (.cells #[pV t1, pV t2] 40)) fun e w' => ∃ t, e = .returned (pV t) ∧ MadeQ O w Q (seqT [T1, T2]) t w' := by
  have hB := Blk.new w 40 #[pV t1, pV t2]
  have hb : Below w.heap.size w (w.alloc (.cells #[pV t1, pV t2] 40)) := (Below.refl _ w).alloc (Nat.le_refl _) _
  have l1 := TaskT.lt h1
  have l2 := TaskT.lt h2
  have hi : ∀ (P : Nat → Prop), P t1 → P t2 → ∀ (i : Nat) (x : Option Addr × Tre A), [((some ⟨t1, 0, none⟩ : Option Addr), T1), (some ⟨t2, 0, none⟩, T2)][i]? = some x → InQ P x.1 := fun P p1 p2 i x hx k e => by
    match i, hx with
    | 0, hx => simp at hx; subst hx; simp at e; exact e ▸ p1
    | 1, hx => simp at hx; subst hx; simp at e; exact e ▸ p2
    | (i + 2), hx => simp at hx
  refine (seqT_any O Q [((some ⟨t1, 0, none⟩ : Option Addr), T1), (some ⟨t2, 0, none⟩, T2)] w.heap.size 0 2 _ (by simp) (by simp) (fun i x hx => ?_) (hi Q q1 q2) (fun k hk => hQ k (by rw [World.size_alloc] at hk; omega))).mono ?_
  · refine ⟨?_, ?_, fun k e => Nat.lt_of_lt_of_le (hi (fun k => k < w.heap.size) l1 l2 i x hx k e) hb.size⟩
    · match i, hx with
      | 0, hx => simp at hx; subst hx; exact hB.cell 0 _ rfl
      | 1, hx => simp at hx; subst hx; exact hB.cell 1 _ rfl
      | (i + 2), hx => simp at hx
    · match i, hx with
      | 0, hx => simp at hx; subst hx; exact h1.at hb
      | 1, hx => simp at hx; subst hx; exact h2.at hb
      | (i + 2), hx => simp at hx
  · rintro e w' ⟨t, rfl, h⟩
    exact ⟨t, rfl, h.of hb⟩
theorem seqT_four {A : Type} (O : Ops A) (Q : Nat → Prop) (T1 T2 T3 T4 : Tre A) (t1 t2 t3 t4 : Nat) (w : World) (h1 : TaskF O w Q (some ⟨t1, 0, none⟩) T1) (h2 : TaskF O w Q (some ⟨t2, 0, none⟩) T2) (h3 : TaskF O w Q (some ⟨t3, 0, none⟩) T3) (h4 : TaskF O w Q (some ⟨t4, 0, none⟩) T4) (q1 : Q t1) (q2 : Q t2) (q3 : Q t3) (q4 : Q t4) (hQ : ∀ k, w.heap.size ≤ k → Q k) :
    Calls Tryz.prog 138 #[.slice (some ⟨w.heap.size, 0, none⟩) 4 4] (w.alloc (.cells #[pV t1, pV t2, pV t3, pV t4] 40)) fun e w' => ∃ t, e = .returned (pV t) ∧ MadeQ O w Q (seqT [T1, T2, T3, T4]) t w' := by
  have hB := Blk.new w 40 #[pV t1, pV t2, pV t3, pV t4]
  have hb : Below w.heap.size w (w.alloc (.cells #[pV t1, pV t2, pV t3, pV t4] 40)) := (Below.refl _ w).alloc (Nat.le_refl _) _
  have l1 := TaskT.lt h1
  have l2 := TaskT.lt h2
  have l3 := TaskT.lt h3
  have l4 := TaskT.lt h4
  have hi : ∀ (P : Nat → Prop), P t1 → P t2 → P t3 → P t4 → ∀ (i : Nat) (x : Option Addr × Tre A), [((some ⟨t1, 0, none⟩ : Option Addr), T1), (some ⟨t2, 0, none⟩, T2), (some ⟨t3, 0, none⟩, T3), (some ⟨t4, 0, none⟩, T4)][i]? = some x → InQ P x.1 := fun P p1 p2 p3 p4 i x hx k e => by
    match i, hx with
    | 0, hx => simp at hx; subst hx; simp at e; exact e ▸ p1
    | 1, hx => simp at hx; subst hx; simp at e; exact e ▸ p2
    | 2, hx => simp at hx; subst hx; simp at e; exact e ▸ p3
    | 3, hx => simp at hx; subst hx; simp at e; exact e ▸ p4
    | (i + 4), hx => simp at hx
  refine (seqT_any O Q [((some ⟨t1, 0, none⟩ : Option Addr), T1), (some ⟨t2, 0, none⟩, T2), (some ⟨t3, 0, none⟩, T3), (some ⟨t4, 0, none⟩, T4)] w.heap.size 0 4 _ (by simp) (by simp) (fun i x hx => ?_) (hi Q q1 q2 q3 q4) (fun k hk => hQ k (by rw [World.size_alloc] at hk; omega))).mono ?_
  · refine ⟨?_, ?_, fun k e => Nat.lt_of_lt_of_le (hi (fun k => k < w.heap.size) l1 l2 l3 l4 i x hx k e) hb.size⟩
    · match i, hx with
      | 0, hx => simp at hx; subst hx; exact hB.cell 0 _ rfl
      | 1, hx => simp at hx; subst hx; exact hB.cell 1 _ rfl
      | 2, hx => simp at hx; subst hx; exact hB.cell 2 _ rfl
      | 3, hx => simp at hx; subst hx; exact hB.cell 3 _ rfl
      | (i + 4), hx => simp at hx
    · match i, hx with
      | 0, hx => simp at hx; subst hx; exact h1.at hb
      | 1, hx => simp at hx; subst hx; exact h2.at hb
      | 2, hx => simp at hx; subst hx; exact h3.at hb
      | 3, hx => simp at hx; subst hx; exact h4.at hb
      | (i + 4), hx => simp at hx
  · rintro e w' ⟨t, rfl, h⟩
    exact ⟨t, rfl, h.of hb⟩
end Go.Proofs.YtldofbkjjmnooaaGreat
