/- Package task: Run, of a task that neither parks nor spins. -/
import Derived.Test.YtmkgbbbhmbejnaaTaskN
namespace Go.Proofs.Ytmkgbbbhmbejnaa
open Go.ChangeShapes Go.WideShapes Go.ChangeAt Go.RowKit
set_option linter.unusedVariables false
set_option maxRecDepth 100000
set_option linter.unusedSimpArgs false
theorem run_gen (C P S t : Nat) (Q : Nat → Prop) (r : List Itm) (v : Int) (m : List Int) (n : Int) (w : World) (h : TaskG w C P t Q r v) (hC : CellsAt w C S m n) (hQ : ∀ b, Q b → b ≠ C ∧ b ≠ S) (h4 : m.length = 4) (hr : ∀ x ∈ r, Plain6 x) (hn : 0 ≤ n ∧ n + r.length ≤ 2000000) :
    Calls Try.prog 31 #[pV t] w fun e w' => e = .returned (.int .i64 (runS m r v).2) ∧ (∃ Q', TaskG w' C P t Q' [] (runS m r v).2 ∧ ∀ b, Q' b → Q b ∨ w.heap.size ≤ b) ∧ CellsAt w' C S (runS m r v).1 (n + opsS r) ∧ Keep (fun b => b = t ∨ ofCells C S b) w w' := by
  have HH := Lib.hid h
  have HC := Lib.hid hC
  have HQ := Lib.hid hQ
  have HP := Lib.hid hr
  have hcl := hC.own.lt
  have hsl := hC.row.lt
  obtain ⟨R, hR⟩ : ∃ R, runS m r v = R := ⟨_, rfl⟩
  obtain ⟨N, hN⟩ : ∃ N : Int, n + opsS r = N := ⟨_, rfl⟩
  obtain ⟨B, hB⟩ : ∃ B : Int, n + r.length = B := ⟨_, rfl⟩
  rw [hR, hN]
  have HR := Lib.hid hR
  have HN := Lib.hid hN
  have hB2 : B ≤ 2000000 := by omega
  have hn0 := hn.1
  have H4 := Lib.hid h4
  clear h hC hQ hr hR hN hn h4
  go_enter Try.func31, Try.ntmps31
  go_wp2_with fail
  go_loopg [3] r.length (fun k _ wr => ∃ r1 v1 m1 n1 Q1, k = r1.length ∧ TaskG wr C P t Q1 r1 v1 ∧ Hid (∀ b, Q1 b → Q b ∨ w.heap.size ≤ b) ∧ CellsAt wr C S m1 n1 ∧ Hid (m1.length = 4) ∧ Hid (runS m1 r1 v1 = R) ∧ Hid (n1 + opsS r1 = N) ∧ Hid (∀ x ∈ r1, Plain6 x) ∧ 0 ≤ n1 ∧ n1 + r1.length ≤ B ∧ Keep (fun b => b = t ∨ ofCells C S b) w wr)
  case atStart => exact ⟨r, v, m, n, Q, rfl, HH.out, Lib.hid (fun b hb => .inl hb), HC.out, H4, HR, HN, HP, hn0, by omega, Keep.refl _ _⟩
  case round =>
    obtain ⟨r1, v1, m1, n1, Q1, hk, h1, h2, h3, h4, h5, h6, h7, h8, h9, h10⟩ := hrel
    have hsz := h10.size
    cases r1 with
    | nil =>
      have S0 := Lib.hid (step_done (some ⟨t, 0, none⟩) v1 0 wr h1.done)
      have S1 := Lib.hid (step_done (some ⟨t, 0, none⟩) v1 1 wr h1.done)
      have SA := Lib.hid (await_done C P t Q1 v1 wr h1)
      have HT := Lib.hid h1
      have HC1 := Lib.hid h3
      clear h1 h3
      go_wp2_with (first
        | (go_at_call 27; (with_reducible refine S0.out.mono ?_); rintro e w2 ⟨rfl, rfl⟩)
        | (go_at_call 27; (with_reducible refine S1.out.mono ?_); rintro e w2 ⟨rfl, rfl⟩)
        | (go_at_call 64; refine SA.out.mono ?_; rintro e w3 ⟨rfl, ka⟩; have SV := Lib.hid (isvalue_any C P t Q1 [] v1 w3 (HT.out.keep ka (fun _ _ h => h))))
        | (go_at_call 32; refine SV.out.mono ?_; rintro e w4 ⟨rfl, rfl⟩))
      go_ret
      have e5 : runS m1 [] v1 = R := h5.out
      have e6 : n1 + ((opsS [] : Nat) : Int) = N := h6.out
      simp only [runS] at e5
      subst e5
      refine ⟨rfl, ⟨Q1, HT.out.keep ka (fun _ _ h => h), h2.out⟩, ?_, h10.trans (ka.mono (fun _ _ h => h.elim))⟩
      have := HC1.out.keep ka (fun h => h) (fun h => h)
      rw [← e6]
      simpa [opsS] using this
    | cons x r2 =>
      have hpl : Plain6 x := h7.out x (by simp)
      have h7x : x.kind ≠ 7 := by
        rcases h1.kinds with ⟨hk, _⟩ | ⟨hk, _⟩
        · omega
        · omega
      have hk5 : x.kind < 5 := by
        rcases h1.kinds with ⟨hk, _⟩ | ⟨hk, _⟩
        · exact hk
        · rcases hk with hk | hk
          · exact absurd hk hpl.2.1
          · exact absurd hk hpl.2.2.1
      have hov := operS_over hpl h4.out
      obtain ⟨s1, s2, s3, s4, s5, s6⟩ := stepS_plain (ps := []) (r := r2) (v := v1) hpl h4.out h7x
      simp only [List.length_cons] at h9 hk
      have hcnt : countS m1 x = 1 := by
        have := hpl.2.2.2
        simp [countS, h4.out, this]
      have S0 := Lib.hid (op_yes C P S t Q1 x r2 v1 m1 n1 wr h1 h3 hk5 (fun b hb => by
        rcases h2.out b hb with hb | hb
        · exact HQ.out b hb
        · exact ⟨by omega, by omega⟩) ⟨h8, by omega⟩)
      rw [hov, if_pos rfl, hcnt] at S0
      have HS5 := Lib.hid s5
      have HS6 := Lib.hid s6
      have HF := Lib.hid (operS_size m1 x)
      have hsuf := Lib.hid (onS_suffix r2 (operS m1 x).2.1)
      have hron := Lib.hid (runS_on r2 (operS m1 x).1 (operS m1 x).2.1)
      clear h1 h3 s1 s2 s3 s4 s5 s6 hov hcnt hpl h7x hk5
      go_wp2_with (go_at_call 27; refine S0.out.mono ?_; rintro e w2 ⟨rfl, ⟨Q2, t2, t3⟩, c2, k2⟩)
      go_roundg (onS r2 (operS m1 x).2.1).1.length
      case measure => have := hsuf.out.length_le; omega
      case rel =>
        have hle := hsuf.out.length_le
        refine ⟨_, _, _, n1 + 1, Q2, rfl, t2, Lib.hid (fun b hb => ?_), c2, Lib.hid (by rw [HF.out]; exact h4.out), Lib.hid ?_, Lib.hid ?_, Lib.hid (fun y hy => h7.out y (List.mem_cons_of_mem _ (hsuf.out.subset hy))), by omega, by omega, h10.trans k2⟩
        · rcases t3 b hb with hb | hb
          · exact h2.out b hb
          · right; omega
        · rw [hron.out.1, ← HS5.out]; exact h5.out
        · rw [hron.out.2, ← h6.out, HS6.out]; push_cast; omega
end Go.Proofs.Ytmkgbbbhmbejnaa
