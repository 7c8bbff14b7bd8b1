/- Layer 10's laws: their own functions, over four queues in cells. -/
import Derived.Test.YtlmjlnlnbjfhnaaGreatQuSt
namespace Go.Proofs.YtlmjlnlnbjfhnaaGreat
open Go.ChangeShapes Go.WideShapes Go.ChangeAt Go.RowKit
set_option linter.unusedVariables false
set_option maxRecDepth 100000
set_option linter.unusedSimpArgs false
set_option maxHeartbeats 1000000 in
theorem qendsM_any (C P S t : Nat) (Q : Nat → Prop) (T : Tre Itm) (L most : Nat) (m m' : List Int) (v n : Int) (w : World) (hG : Goes m T L m' v) (hL : L ≤ most) (hm : most ≤ 1000)
    (h : TkM (cellOps C P) w t Q T) (hC : CellsAt w C S m n) (hQ : ∀ b, Q b → b ≠ C ∧ b ≠ S) (hn : 0 ≤ n ∧ n ≤ 1000000) {mI : Int} (hI : mI = most) :
    Calls Tryz.prog 21 #[pV t, .int .i64 mI] w fun e w' => e = .returned (.int .i64 L) ∧ (∃ Q', TkM (cellOps C P) w' t Q' (retT v) ∧ ∀ b, Q' b → Q b ∨ w.heap.size ≤ b) ∧ CellsAt w' C S m' (n + L) ∧ Keep (fun b => Q b ∨ ofCells C S b) w w' := by
  subst hI
  have H := Lib.hid h
  have HG := Lib.hid hG
  have HC := Lib.hid hC
  have HQ := Lib.hid hQ
  have HL := Lib.hid hL
  have hCl := hC.own.lt
  have hSl := hC.row.lt
  clear h hG hC hQ hL
  go_enter Tryz.func21, Tryz.ntmps21
  go_wp2_with fail
  go_loopw [5] (fun v5 wr => ∃ (I : Nat) (m1 : List Int) (T1 : Tre Itm) (Q1 : Nat → Prop) (j : Nat), I + j = L ∧ v5 = .int .i64 (I : Int) ∧ Goes m1 T1 j m' v ∧ TkM (cellOps C P) wr t Q1 T1 ∧ (∀ b, Q1 b → Q b ∨ w.heap.size ≤ b) ∧ CellsAt wr C S m1 (n + I) ∧ Keep (fun b => Q b ∨ ofCells C S b) w wr)
    (fun v5 _ => L - (intOf v5).toNat)
  case atStart => exact ⟨0, m, T, Q, L, by omega, rfl, HG.out, H.out, fun _ h => .inl h, by simpa using HC.out, Keep.refl _ _⟩
  case round =>
    obtain ⟨I, m1, T1, Q1, j, hIj, rfl, hG, hT, hq, hC, hk⟩ := hrel
    have hLm := HL.out
    have hsz := hk.size
    have hQ1 : ∀ b, Q1 b → b ≠ C ∧ b ≠ S := fun b hb => by
      rcases hq b hb with h | h
      · exact HQ.out b h
      · omega
    rcases hG.cases' with ⟨rfl, rfl, rfl⟩ | ⟨x, κ, j, rfl, rfl, e1, e2, e3⟩
    · obtain rfl : I = L := by omega
      have hD := Lib.hid (tdoneM_ret t Q1 v wr hT)
      have HX := Lib.hid (And.intro (⟨Q1, hT, hq⟩ : ∃ Q', TkM (cellOps C P) wr t Q' (retT v) ∧ ∀ b, Q' b → Q b ∨ w.heap.size ≤ b) (And.intro hC hk))
      clear hG hT hq hC hk hQ1 H HG HC HQ HL
      go_wp2_with (go_at_call 31; (with_reducible refine hD.out.mono ?_); rintro e w2 ⟨rfl, rfl⟩)
      go_ret
      exact ⟨rfl, HX.out⟩
    · have hD := Lib.hid (tdoneM_op t Q1 x κ wr hT)
      have hS := Lib.hid (tstepM_op C P S t Q1 x κ m1 (n + I) wr hT hC e1 hQ1 ⟨by omega, by omega⟩)
      have HX := Lib.hid (And.intro e2 (And.intro e3 (And.intro hq (And.intro hk hsz))))
      have h4 : ¬ ((most : Int) ≤ (I : Int)) := by omega
      have h5 : (I : Int) < (most : Int) := by omega
      clear hG hT hq hC hk hQ1 e1 e2 e3
      go_wp2_with (first
        | (go_at_call 31; (with_reducible refine hD.out.mono ?_); rintro e w2 ⟨rfl, rfl⟩)
        | (go_at_call 46; (with_reducible refine hS.out.mono ?_); rintro e w3 ⟨rfl, ⟨Q3, g1, g2⟩, g3, g4⟩))
      obtain ⟨e2, e3, hq, hk, _⟩ := HX.out
      rw [e2] at g3
      have s4 := g4.size
      go_roundw
      case rel =>
        refine ⟨I + 1, _, _, Q3, j, by omega, by go_num, e3, g1, fun b hb => ?_, by rw [Int.natCast_add, ← Int.add_assoc]; exact g3, hk.step g4 fun b hlt hb => ?_⟩
        · rcases g2 b hb with h | h
          · exact hq b h
          · exact .inr (by omega)
        · rcases hb with hb | hb
          · exact .inl ((hq b hb).resolve_right (by omega))
          · exact .inr hb
      case measure => simp [intOf]; omega
theorem here_any (w : World) : Calls Tryz.prog 7 #[] w fun e w' => e = .returned (mapV hereM) ∧ Below w.heap.size w w' := by
  go_enter Tryz.func7, Tryz.ntmps7
  go_wp2
  exact bodyPost_ret (v := mapV hereM) (results_cell_row rfl _ _ w.heap.size 24 #[.int .i64 8, .int .i64 1, .int .i64 2] (0, 0) _ rfl (Blk.new w 24 _) Tryz.underlying24 rfl (by kernel_rfl)) rfl ⟨rfl, by go_grown⟩
theorem monitor_any (k : Int) (w : World) (h : 0 ≤ k ∧ k ≤ 10) : Calls Tryz.prog 52 #[mapV hereM, .int .i64 k] w fun e w' => e = .returned (.int .i64 (51 + 8 * k)) ∧ Below w.heap.size w w' := by
  rw [show mapV hereM = .agg #[.int .i64 8, .int .i64 1, .int .i64 2] from rfl]
  go_enter Tryz.func52, Tryz.ntmps52
  go_wp2
  go_ret
  exact ⟨rfl, by go_grown⟩
theorem entry_any (k : Int) (w : World) (h : 0 ≤ k ∧ k ≤ 10) : Calls Tryz.prog 34 #[mapV hereM, .int .i64 k] w fun e w' => e = .returned (.int .i64 (51 + 8 * k + 2)) ∧ Below w.heap.size w w' := by
  have HT := Lib.hid fun W => monitor_any k W h
  go_enter Tryz.func34, Tryz.ntmps34
  go_wp2_with (go_at_call 52; refine (HT.out _).mono ?_; rintro e w2 ⟨rfl, b2⟩)
  go_ret
  exact ⟨rfl, ((Below.refl _ w).alloc (Nat.le_refl _) _).trans (b2.mono (by simp))⟩
theorem wait_any (k : Int) (w : World) (h : 0 ≤ k ∧ k ≤ 10) : Calls Tryz.prog 35 #[mapV hereM, .int .i64 k] w fun e w' => e = .returned (.int .i64 (51 + 8 * k + 4)) ∧ Below w.heap.size w w' := by
  have HT := Lib.hid fun W => monitor_any k W h
  go_enter Tryz.func35, Tryz.ntmps35
  go_wp2_with (go_at_call 52; refine (HT.out _).mono ?_; rintro e w2 ⟨rfl, b2⟩)
  go_ret
  exact ⟨rfl, ((Below.refl _ w).alloc (Nat.le_refl _) _).trans (b2.mono (by simp))⟩
theorem place_any (k : Nat) (w : World) (h : k < 4) {kI : Int} (hk : kI = k) : Calls Tryz.prog 11 #[.int .i64 kI] w fun e w' => e = .returned (.int .i64 (placeN k : Int)) ∧ Below w.heap.size w w' := by
  subst hk
  have HE0 := Lib.hid fun W => entry_any 0 W (by decide)
  have HE1 := Lib.hid fun W => entry_any 1 W (by decide)
  have HW0 := Lib.hid fun W => wait_any 0 W (by decide)
  have HW1 := Lib.hid fun W => wait_any 1 W (by decide)
  have hc : k = 0 ∨ k = 1 ∨ k = 2 ∨ k = 3 := by omega
  clear h
  rcases hc with rfl | rfl | rfl | rfl
  · rw [show ((0 : Nat) : Int) = 0 from rfl, show ((placeN 0 : Nat) : Int) = 51 + 8 * 0 + 2 from rfl]
    go_enter Tryz.func11, Tryz.ntmps11
    go_wp2_with (first | (go_at_call 7; refine (here_any _).mono ?_; rintro e w2 ⟨rfl, b2⟩) | (go_at_call 34; refine (HE0.out _).mono ?_; rintro e w3 ⟨rfl, b3⟩))
    go_ret
    exact ⟨rfl, b2.trans (b3.mono b2.size)⟩
  · rw [show ((1 : Nat) : Int) = 1 from rfl, show ((placeN 1 : Nat) : Int) = 51 + 8 * 0 + 4 from rfl]
    go_enter Tryz.func11, Tryz.ntmps11
    go_wp2_with (first | (go_at_call 7; refine (here_any _).mono ?_; rintro e w2 ⟨rfl, b2⟩) | (go_at_call 35; refine (HW0.out _).mono ?_; rintro e w3 ⟨rfl, b3⟩))
    go_ret
    exact ⟨rfl, b2.trans (b3.mono b2.size)⟩
  · rw [show ((2 : Nat) : Int) = 2 from rfl, show ((placeN 2 : Nat) : Int) = 51 + 8 * 1 + 2 from rfl]
    go_enter Tryz.func11, Tryz.ntmps11
    go_wp2_with (first | (go_at_call 7; refine (here_any _).mono ?_; rintro e w2 ⟨rfl, b2⟩) | (go_at_call 34; refine (HE1.out _).mono ?_; rintro e w3 ⟨rfl, b3⟩))
    go_ret
    exact ⟨rfl, b2.trans (b3.mono b2.size)⟩
  · rw [show ((3 : Nat) : Int) = 3 from rfl, show ((placeN 3 : Nat) : Int) = 51 + 8 * 1 + 4 from rfl]
    go_enter Tryz.func11, Tryz.ntmps11
    go_wp2_with (first | (go_at_call 7; refine (here_any _).mono ?_; rintro e w2 ⟨rfl, b2⟩) | (go_at_call 35; refine (HW1.out _).mono ?_; rintro e w3 ⟨rfl, b3⟩))
    go_ret
    exact ⟨rfl, b2.trans (b3.mono b2.size)⟩
/-- the laws' cells, with four queues -/
structure WQ (w : World) (C S : Nat) (mm : List Int) (n : Int) (L : Nat → List Int) : Prop where
  cells : CellsAt w C S mm n
  qs : QS mm L
theorem WQ.keep {w w1 : World} {C S : Nat} {mm : List Int} {n : Int} {L : Nat → List Int} {F : Nat → Prop} (h : WQ w C S mm n L) (hk : Keep F w w1) (h1 : ¬ F C) (h2 : ¬ F S) : WQ w1 C S mm n L := ⟨h.cells.keep hk h1 h2, h.qs⟩
theorem WQ.below {w w1 : World} {C S : Nat} {mm : List Int} {n : Int} {L : Nat → List Int} (h : WQ w C S mm n L) (hb : Below w.heap.size w w1) : WQ w1 C S mm n L := h.keep (F := fun _ => False) (Keep.ofBelow hb) (fun h => h) (fun h => h)
theorem fit_place (k : Nat) {N : Nat} (h : N = 67) : fitS hereM (N : Int) (placeN k : Int) = true := by
  subst h
  rcases place_cases k with e | e | e | e <;> rw [e] <;> decide
theorem qpush_any {w : World} {C S : Nat} {mm : List Int} {n : Int} {L : Nat → List Int} (h : WQ w C S mm n L) (k : Nat) (t : Int) (ht : 0 ≤ t ∧ t < 8) :
    Calls Tryz.prog 15 #[cellsV C, mapV hereM, .int .i64 (placeN k : Int), .int .i64 t] w fun e w' => ∃ t', e = .returned (pV t') ∧ MadeM (cellOps C 0) w (fun b => w.heap.size ≤ b) (pushT hereM (placeN k) t) t' w' := by
  have hl := h.qs.len
  refine push_yes C 0 (placeN k) hereM mm.length t (fun b => w.heap.size ≤ b) w here_ok ht (by have := place_cases k; omega) (fun W hW => len_any C S mm n W (h.cells.keep (Keep.ofBelow (Q := fun _ => False) hW) (fun h => h) (fun h => h))) (fun W B hB hc => ?_) (fun _ h => h)
  have := qright_one hereM mm.length (placeN k) t B W here_ok ⟨by omega, by omega⟩ ht hB hc
  rw [fit_place k hl] at this
  exact this
theorem qrem_any {w : World} {C S : Nat} {mm : List Int} {n : Int} {L : Nat → List Int} (h : WQ w C S mm n L) (k : Nat) (t : Int) (ht : 0 ≤ t ∧ t < 8) :
    Calls Tryz.prog 19 #[cellsV C, mapV hereM, .int .i64 (placeN k : Int), .int .i64 t] w fun e w' => ∃ t', e = .returned (pV t') ∧ MadeM (cellOps C 0) w (fun b => w.heap.size ≤ b) (remT hereM (placeN k) t (-1) []) t' w' := by
  have hl := h.qs.len
  refine rem_yes C 0 (placeN k) hereM mm.length t (fun b => w.heap.size ≤ b) w here_ok ht (by have := place_cases k; omega) (fun W hW => len_any C S mm n W (h.cells.keep (Keep.ofBelow (Q := fun _ => False) hW) (fun h => h) (fun h => h))) (fun W B hB hc => ?_) (fun _ h => h)
  have := qright_one hereM mm.length (placeN k) t B W here_ok ⟨by omega, by omega⟩ ht hB hc
  rw [fit_place k hl] at this
  exact this
theorem qpop_any {w : World} {C S : Nat} {mm : List Int} {n : Int} {L : Nat → List Int} (h : WQ w C S mm n L) (k : Nat) :
    Calls Tryz.prog 17 #[cellsV C, mapV hereM, .int .i64 (placeN k : Int)] w fun e w' => ∃ t', e = .returned (pV t') ∧ MadeM (cellOps C 0) w (fun b => w.heap.size ≤ b) (popT hereM (placeN k)) t' w' := by
  have hl := h.qs.len
  refine pop_yes C 0 (placeN k) hereM mm.length (fun b => w.heap.size ≤ b) w here_ok (by have := place_cases k; omega) (fun W hW => len_any C S mm n W (h.cells.keep (Keep.ofBelow (Q := fun _ => False) hW) (fun h => h) (fun h => h))) (fun W => ?_) (fun _ h => h)
  have := qright_none hereM mm.length (placeN k) W here_ok ⟨by omega, by omega⟩
  rw [fit_place k hl] at this
  exact this
theorem qlook_any {w : World} {C S : Nat} {mm : List Int} {n : Int} {L : Nat → List Int} (h : WQ w C S mm n L) (k : Nat) (hk : k < 4) :
    Calls Tryz.prog 24 #[cellsV C, mapV hereM, .int .i64 (placeN k : Int)] w fun e w' => ∃ v, e = .returned v ∧ RowN w' (fun b => w.heap.size ≤ b) v (L k) ∧ Below w.heap.size w w' :=
  look_yes C S (placeN k) hereM mm (L k) n w here_ok h.cells (h.qs.chain hk) (fit_place k h.qs.len) (by have := place_cases k; omega) (by intro e; have := h.qs.len; rw [e] at this; simp at this)
/-- a new task, to its end -/
theorem qrun_any {w w1 : World} {C S t' : Nat} {mm mm' : List Int} {n v : Int} {L : Nat → List Int} {T : Tre Itm} (h : WQ w C S mm n L) (hM : MadeM (cellOps C 0) w (fun b => w.heap.size ≤ b) T t' w1) {c most : Nat} (hG : Goes mm T c mm' v) (hc : c ≤ most) (hm : most ≤ 1000) (hn : 0 ≤ n ∧ n ≤ 1000000) {mI : Int} (hI : mI = most) :
    Calls Tryz.prog 21 #[pV t', .int .i64 mI] w1 fun e w' => e = .returned (.int .i64 c) ∧ (∃ Q', TkM (cellOps C 0) w' t' Q' (retT v) ∧ ∀ b, Q' b → w.heap.size ≤ b) ∧ CellsAt w' C S mm' (n + c) ∧ Keep (fun b => w.heap.size ≤ b ∨ ofCells C S b) w1 w' := by
  obtain ⟨M, hJ⟩ := hM.2.1
  have hT : TkM (cellOps C 0) w1 t' (fun b => w.heap.size ≤ b ∧ b < w1.heap.size) T := TkM.new hJ hM.1
  have hC := h.cells.keep (Keep.ofBelow (Q := fun _ => False) hM.2.2) (fun h => h) (fun h => h)
  have l1 := h.cells.own.lt
  have l2 := h.cells.row.lt
  refine (qendsM_any C 0 S t' _ T c most mm mm' v n w1 hG hc hm hT hC (fun b hb => by omega) hn hI).mono ?_
  rintro e w' ⟨rfl, ⟨Q', h1, h2⟩, h3, h4⟩
  have s := hM.2.2.size
  refine ⟨rfl, ⟨Q', h1, fun b hb => ?_⟩, h3, h4.mono fun b _ hb => hb.imp (fun h => h.1) id⟩
  rcases h2 b hb with h | h <;> omega
theorem lawpush {w : World} {C S : Nat} {mm : List Int} {n : Int} {L : Nat → List Int} (h : WQ w C S mm n L) (k : Nat) (hk : k < 4) (t : Int) (ht : 0 ≤ t ∧ t < 8) (hn : ∀ j, j < 4 → t ∉ L j) (h0 : 0 ≤ n ∧ n ≤ 100000) :
    Calls Tryz.prog 26 #[cellsV C, mapV hereM, .int .i64 (placeN k : Int), .int .i64 t] w fun e w' => e = .returned (.int .i64 0) ∧ (∃ mm' n', WQ w' C S mm' n' (updL L k (L k ++ [t])) ∧ n ≤ n' ∧ n' ≤ n + 50) ∧ Keep (ofCells C S) w w' := by
  obtain ⟨c, mm', hc, G, hq, _⟩ := h.qs.push hk ht hn
  have hb0 : Below w.heap.size w (w.alloc (.cells #[.int .i64 (hereM.t : Int), .int .i64 (hereM.o : Int), .int .i64 (hereM.n : Int)] 24)) := (Below.refl _ w).alloc (Nat.le_refl _) _
  have HP := Lib.hid (qpush_any (h.below hb0) k t ht)
  have HE := Lib.hid fun w1 t' (hM : MadeM (cellOps C 0) _ _ _ t' w1) => qrun_any (h.below hb0) hM G (Nat.le_trans hc (by omega : 5 ≤ 50)) (by omega) ⟨h0.1, by omega⟩ (mI := 50) rfl
  have HQ := Lib.hid hq
  clear h hq G hn ht
  go_enter Tryz.func26, Tryz.ntmps26
  go_wp2_with (first
    | (go_at_call 15; (with_reducible refine HP.out.mono ?_); rintro e w1 ⟨t', rfl, hM⟩; have HE2 := Lib.hid (HE.out w1 t' hM))
    | (go_at_call 21; (with_reducible refine HE2.out.mono ?_); rintro e w2 ⟨rfl, ⟨Q', g1, g2⟩, g3, g4⟩; have HV := Lib.hid (tvalueM_ret t' Q' 0 w2 g1))
    | (go_at_call 22; (with_reducible refine HV.out.mono ?_); rintro e w3 ⟨rfl, rfl⟩))
  go_ret
  refine ⟨rfl, ⟨mm', n + c, ⟨g3, HQ.out⟩, by omega, by omega⟩, ?_⟩
  have k1 : Keep (ofCells C S) w w1 := (Keep.ofBelow hb0).trans (Keep.ofBelow hM.2.2)
  exact k1.step g4 fun i hi hh => hh.elim (fun hh => by rw [World.size_alloc] at hh; omega) id
theorem lawrem {w : World} {C S : Nat} {mm : List Int} {n : Int} {L : Nat → List Int} (h : WQ w C S mm n L) (k : Nat) (hk : k < 4) (t : Int) (ht : 0 ≤ t ∧ t < 8) (h0 : 0 ≤ n ∧ n ≤ 100000) :
    Calls Tryz.prog 27 #[cellsV C, mapV hereM, .int .i64 (placeN k : Int), .int .i64 t] w fun e w' => e = .returned (.int .i64 (if t ∈ L k then 1 else 0)) ∧ (∃ mm' n', WQ w' C S mm' n' (updL L k ((L k).filter (· ≠ t))) ∧ n ≤ n' ∧ n' ≤ n + 50) ∧ Keep (ofCells C S) w w' := by
  obtain ⟨c, mm', hc, G, hq, _⟩ := h.qs.rem hk ht
  have hlen : (L k).length ≤ 8 := nodup_len0 (k := 8) (h.qs.thr k hk).1 (h.qs.thr k hk).2
  have hb0 : Below w.heap.size w (w.alloc (.cells #[.int .i64 (hereM.t : Int), .int .i64 (hereM.o : Int), .int .i64 (hereM.n : Int)] 24)) := (Below.refl _ w).alloc (Nat.le_refl _) _
  have HP := Lib.hid (qrem_any (h.below hb0) k t ht)
  have HE := Lib.hid fun w1 t' (hM : MadeM (cellOps C 0) _ _ _ t' w1) => qrun_any (h.below hb0) hM G (show c ≤ 50 by omega) (by omega) ⟨h0.1, by omega⟩ (mI := 50) rfl
  have HQ := Lib.hid hq
  have hc2 : c ≤ 50 := by omega
  generalize (if t ∈ L k then (1 : Int) else 0) = rv at *
  clear h hq G ht hlen hc
  go_enter Tryz.func27, Tryz.ntmps27
  go_wp2_with (first
    | (go_at_call 19; (with_reducible refine HP.out.mono ?_); rintro e w1 ⟨t', rfl, hM⟩; have HE2 := Lib.hid (HE.out w1 t' hM))
    | (go_at_call 21; (with_reducible refine HE2.out.mono ?_); rintro e w2 ⟨rfl, ⟨Q', g1, g2⟩, g3, g4⟩; have HV := Lib.hid (tvalueM_ret t' Q' rv w2 g1))
    | (go_at_call 22; (with_reducible refine HV.out.mono ?_); rintro e w3 ⟨rfl, rfl⟩))
  go_ret
  refine ⟨rfl, ⟨mm', n + c, ⟨g3, HQ.out⟩, by omega, by omega⟩, ?_⟩
  have k1 : Keep (ofCells C S) w w1 := (Keep.ofBelow hb0).trans (Keep.ofBelow hM.2.2)
  exact k1.step g4 fun i hi hh => hh.elim (fun hh => by rw [World.size_alloc] at hh; omega) id
theorem lawpop {w : World} {C S : Nat} {mm : List Int} {n : Int} {L : Nat → List Int} (h : WQ w C S mm n L) (k : Nat) (hk : k < 4) (h0 : 0 ≤ n ∧ n ≤ 100000) :
    Calls Tryz.prog 28 #[cellsV C, mapV hereM, .int .i64 (placeN k : Int)] w fun e w' => e = .returned (.int .i64 (if L k = [] then -1 else (L k).headD 0)) ∧ (∃ mm' n', WQ w' C S mm' n' (updL L k (L k).tail) ∧ n ≤ n' ∧ n' ≤ n + 50) ∧ Keep (ofCells C S) w w' := by
  obtain ⟨c, mm', hc, G, hq, _⟩ := h.qs.pop hk
  have hb0 : Below w.heap.size w (w.alloc (.cells #[.int .i64 (hereM.t : Int), .int .i64 (hereM.o : Int), .int .i64 (hereM.n : Int)] 24)) := (Below.refl _ w).alloc (Nat.le_refl _) _
  have HP := Lib.hid (qpop_any (h.below hb0) k)
  have HE := Lib.hid fun w1 t' (hM : MadeM (cellOps C 0) _ _ _ t' w1) => qrun_any (h.below hb0) hM G (Nat.le_trans hc (by omega : 4 ≤ 50)) (by omega) ⟨h0.1, by omega⟩ (mI := 50) rfl
  have HQ := Lib.hid hq
  generalize (if L k = [] then (-1 : Int) else (L k).headD 0) = rv at *
  clear h hq G
  go_enter Tryz.func28, Tryz.ntmps28
  go_wp2_with (first
    | (go_at_call 17; (with_reducible refine HP.out.mono ?_); rintro e w1 ⟨t', rfl, hM⟩; have HE2 := Lib.hid (HE.out w1 t' hM))
    | (go_at_call 21; (with_reducible refine HE2.out.mono ?_); rintro e w2 ⟨rfl, ⟨Q', g1, g2⟩, g3, g4⟩; have HV := Lib.hid (tvalueM_ret t' Q' rv w2 g1))
    | (go_at_call 22; (with_reducible refine HV.out.mono ?_); rintro e w3 ⟨rfl, rfl⟩))
  go_ret
  refine ⟨rfl, ⟨mm', n + c, ⟨g3, HQ.out⟩, by omega, by omega⟩, ?_⟩
  have k1 : Keep (ofCells C S) w w1 := (Keep.ofBelow hb0).trans (Keep.ofBelow hM.2.2)
  exact k1.step g4 fun i hi hh => hh.elim (fun hh => by rw [World.size_alloc] at hh; omega) id
end Go.Proofs.YtlmjlnlnbjfhnaaGreat
