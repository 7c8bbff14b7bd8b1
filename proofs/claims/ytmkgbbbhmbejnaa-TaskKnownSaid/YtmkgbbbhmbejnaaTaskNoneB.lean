/- Layer 6's law: nones; Run of parkings; tasks that are none. -/
import Derived.Test.YtmkgbbbhmbejnaaTaskNone
namespace Go.Proofs.Ytmkgbbbhmbejnaa
open Go.ChangeShapes Go.WideShapes Go.ChangeAt Go.RowKit
set_option linter.unusedVariables false
set_option maxRecDepth 100000
set_option linter.unusedSimpArgs false
theorem one_nil_step (t b : Nat) (w : World) (hL : Live w t (cloV 105 #[pV b]) (.pointer none) (.pointer none)) (hb : Blk w b 61 #[.nilFunc]) :
    Calls Try.prog 27 #[pV t, .int .i64 0] w fun e w' => e = .returned (.bool true) ∧ DoneV w' (some ⟨t, 0, none⟩) 0 ∧ Keep (fun k => k = t) w w' := by
  have hlt := hL.blk.lt
  refine step_yes t _ _ _ 0 w (fun v w2 => v = 0 ∧ Below w.heap.size w w2) (fun w' => DoneV w' (some ⟨t, 0, none⟩) 0 ∧ Keep (fun k => k = t) w w') hL ?_ ?_
  · refine opend_do b w _ fun W hw => ?_
    refine (one1_none b W (hb.below hw hb.lt)).mono ?_
    rintro e w' ⟨rfl, rfl⟩
    exact ⟨0, rfl, rfl, hw⟩
  · rintro v w2 w3 k ⟨rfl, h2⟩ g1 g2 g3
    have s2 := h2.size
    have h3 : Below w.heap.size w w3 := h2.trans (g3.mono s2)
    refine (goon_task 0 0 (fun b => w.heap.size ≤ b) t k [] 0 _ _ _ [] w3 (hL.blk.below h3 hlt) (.inl ⟨rfl, rfl⟩) (fun j hj => by have := h3.size; omega) (by omega) (.inl ⟨k, [], 0, [], rfl, by omega, done_task g2, rfl, fun _ => rfl, fun h => absurd rfl h⟩)).mono ?_
    rintro e w' ⟨rfl, k4, hT⟩
    refine ⟨rfl, ?_, (Keep.ofBelow h3).trans k4⟩
    rcases hT.view with ⟨_, h⟩ | ⟨x', r', d, p, rest, gs, fs, e, _⟩
    · exact h
    · cases e
theorem then_nil_step (C S t b F f : Nat) (caps : Array Value) (j : Value) (Q : Nat → Prop) (x : Itm) (m : List Int) (n : Int) (w : World) (hL : Live w t (cloV 105 #[pV b]) (.pointer none) j) (hb : Blk w b 61 #[cloV F caps]) (hc : CloAt w C Q x F caps)
    (hT : TreeO w Q j [f]) (hf : Blk w f 84 #[.nilFunc]) (hQt : ¬ Q t) (hft : f ≠ t) (hq : ∀ b, Q b → b ≠ C ∧ b ≠ S) (hfc : f ≠ C ∧ f ≠ S) (htc : t ≠ C ∧ t ≠ S) (hC : CellsAt w C S m n) (h0 : 0 ≤ n) (h1 : n < 9223372036854775807) :
    Calls Try.prog 27 #[pV t, .int .i64 0] w fun e w' => e = .returned (.bool true) ∧ DoneV w' (some ⟨t, 0, none⟩) 0 ∧ CellsAt w' C S (operS m x).1 (n + countS m x) ∧ Keep (fun k => k = t ∨ ofCells C S k) w w' := by
  have hlt := hL.blk.lt
  refine step_yes t _ _ _ 0 w (fun v w2 => CellsAt w2 C S (operS m x).1 (n + countS m x) ∧ Keep (ofCells C S) w w2) (fun w' => DoneV w' (some ⟨t, 0, none⟩) 0 ∧ CellsAt w' C S (operS m x).1 (n + countS m x) ∧ Keep (fun k => k = t ∨ ofCells C S k) w w') hL ?_ ?_
  · refine opend_do b w _ fun W hw => ?_
    have kW : Keep (fun _ => False) w W := Keep.ofBelow hw
    refine (do6_any C S Q m n x b F caps W (hb.below hw hb.lt) (hc.keep kW (fun _ _ h => h) (fun _ _ h => h)) (hC.keep kW (fun h => h) (fun h => h)) h0 h1).mono ?_
    rintro e w' ⟨v, rfl, _, g2, g3⟩
    exact ⟨v, rfl, g2, (Keep.ofBelow hw).trans g3⟩
  · rintro v w2 w3 k ⟨hC2, hk2⟩ g1 g2 g3
    have k3 : Keep (ofCells C S) w w3 := hk2.trans (Keep.ofBelow g3)
    have s2 := hk2.size
    have s3 := k3.size
    have ht3 : ¬ ofCells C S t := fun h => h.elim htc.1 htc.2
    have hT3 : TreeO w3 (fun b => Q b ∨ w.heap.size ≤ b) j [f] := (hT.keep k3 (fun b hb e => by
      rcases e with e | e
      · exact (hq b hb).1 e
      · exact (hq b hb).2 e)).mono (fun b _ h => .inl h)
    have hf3 : Blk w3 f 84 #[.nilFunc] := hf.keep k3 (fun h => h.elim hfc.1 hfc.2)
    refine (goon_opt t (some ⟨k, 0, none⟩) _ _ j 0 [f] (fun b => Q b ∨ w.heap.size ≤ b)
      (fun a n' fs => n' ≠ some ⟨t, 0, none⟩ ∧ Blk a f 84 #[.nilFunc] ∧ ((fs = [f] ∧ DoneV a n' v) ∨ (fs = [] ∧ DoneV a n' 0))) w3
      (hL.blk.keep k3 ht3) hT3 (fun i hi => .inr (by omega)) (fun h => h.elim hQt (fun h => by omega))
      ⟨fun e => by injection e with e; injection e with e; omega, hf3, .inl ⟨rfl, g2⟩⟩
      (fun a b n' fs _ h hk => ⟨h.1, h.2.1.keep hk (by omega), h.2.2.imp (fun g => ⟨g.1, g.2.keep hk (fun i ei hi => h.1 (by rw [ei, hi]))⟩) (fun g => ⟨g.1, g.2.keep hk (fun i ei hi => h.1 (by rw [ei, hi]))⟩)⟩)
      (fun a n' fs h => ⟨h.1, .inl (by rcases h.2.2 with g | g <;> exact ⟨_, g.2⟩)⟩)
      (fun a n' f' fs v' _ h hd => by
        rcases h.2.2 with ⟨e, _⟩ | ⟨e, _⟩
        · simp only [List.cons.injEq] at e
          obtain ⟨rfl, rfl⟩ := e
          refine (then1_none f' v' a h.2.1).mono ?_
          rintro e b ⟨rfl, hb⟩
          exact ⟨none, rfl, ⟨fun e => (by cases e), h.2.1.below hb h.2.1.lt, .inr ⟨rfl, .inl ⟨rfl, rfl⟩⟩⟩, hb⟩
        · cases e)).mono ?_
    rintro e w' ⟨rfl, k4, n', fs, ⟨j1, j2, j3⟩, hp⟩
    have k5 : Keep (fun b => b = t ∨ ofCells C S b) w w' := (k3.mono (fun _ _ h => .inr h)).trans (k4.mono (fun _ _ h => .inl h))
    refine ⟨rfl, ?_, ?_, k5⟩
    · rcases hp with ⟨rfl, v4, hd, hB⟩ | ⟨k1, d, p, r, gs, j', rfl, hl, _⟩
      · rcases j3 with ⟨e, _⟩ | ⟨_, g⟩
        · cases e
        · rw [g.val hd] at hB
          exact .inr ⟨t, rfl, hB⟩
      · rcases j3 with g | g
        · exact (g.2.live hl).elim
        · exact (g.2.live hl).elim
    · have hC3 := hC2.keep (Keep.ofBelow (Q := fun _ => False) g3) (fun h => h) (fun h => h)
      exact hC3.keep k4 (fun e => htc.1 e.symm) (fun e => htc.2 e.symm)
theorem can_nil (k : Int) (w : World) : Calls Try.prog 38 #[.pointer none, .int .i64 k] w fun e w' => e = .returned (.bool false) ∧ w = w' := by
  go_enter Try.func38, Try.ntmps38
  go_wp2_with (first | (go_at_call 30; refine (parked_nil _).mono ?_; rintro e w2 ⟨rfl, rfl⟩) | (go_at_call 29; refine (done_nil _).mono ?_; rintro e w2 ⟨rfl, rfl⟩))
  go_ret
  exact ⟨rfl, rfl⟩
theorem await_nil (w : World) : Calls Try.prog 64 #[.pointer none] w fun e w' => e = .returned (.bool false) ∧ Keep (fun _ => False) w w' := by
  have HP := Lib.hid fun n => parked_nil (w.drewN n)
  go_enter Try.func64, Try.ntmps64
  go_upto_region 1 with fail
  go_quiet (first | (go_at_call 30; exact Calls.quiet_of_same ((HP.out _).mono (by rintro e w1 ⟨rfl, rfl⟩; exact ⟨rfl, rfl⟩))))
  go_wp2
  go_ret
  exact ⟨rfl, (Keep.refl _ _).drewN _⟩
theorem run_nil (w : World) : Calls Try.prog 31 #[.pointer none] w fun e w' => e = .returned (.int .i64 0) ∧ Keep (fun _ => False) w w' := by
  have S0 := Lib.hid (step_done none 0 0 w (.inl ⟨rfl, rfl⟩))
  have S1 := Lib.hid (step_done none 0 1 w (.inl ⟨rfl, rfl⟩))
  have SA := Lib.hid (await_nil w)
  go_enter Try.func31, Try.ntmps31
  go_wp2_with fail
  go_loopg [3] 0 (fun k _ wr => k = 0 ∧ wr = w)
  case atStart => exact ⟨rfl, rfl⟩
  case round =>
    obtain ⟨rfl, rfl⟩ := hrel
    go_wp2_with (first
      | (go_at_call 27; (with_reducible refine S0.out.mono ?_); rintro e w2 ⟨rfl, rfl⟩)
      | (go_at_call 27; (with_reducible refine S1.out.mono ?_); rintro e w2 ⟨rfl, rfl⟩)
      | (go_at_call 64; refine SA.out.mono ?_; rintro e w3 ⟨rfl, ka⟩)
      | (go_at_call 32; refine (value_nil _).mono ?_; rintro e w4 ⟨rfl, rfl⟩))
    go_ret
    exact ⟨rfl, ka⟩
/-- Run, driven: so many steps are to come, each by PickStep, or by PickTime where that doesn't go -/
theorem run_drive (C P t : Nat) (V : Int) (N : Nat) (J : Nat → World → Prop) (w : World) (hw : J N w)
    (hs : ∀ k a, J (k + 1) a → (Calls Try.prog 27 #[pV t, .int .i64 0] a fun e b => e = .returned (.bool true) ∧ J k b) ∨
      ∃ M : World → Prop, (Calls Try.prog 27 #[pV t, .int .i64 0] a fun e b => e = .returned (.bool false) ∧ M b) ∧ ∀ b, M b → Calls Try.prog 27 #[pV t, .int .i64 1] b fun e b' => e = .returned (.bool true) ∧ J k b')
    (h0 : ∀ a, J 0 a → ∃ Q, TaskG a C P t Q [] V) (hk : ∀ a b, J 0 a → Keep (fun _ => False) a b → J 0 b) :
    Calls Try.prog 31 #[pV t] w fun e w' => e = .returned (.int .i64 V) ∧ J 0 w' := by
  have HS := Lib.hid hs
  have H0 := Lib.hid h0
  have HK := Lib.hid hk
  have HW := Lib.hid hw
  clear hs h0 hk hw
  go_enter Try.func31, Try.ntmps31
  go_wp2_with fail
  go_loopg [3] N (fun k _ wr => Hid (J k wr))
  case atStart => exact HW
  case round =>
    clear HW
    have HJ : Hid (J gk wr) := hrel
    clear hrel
    rcases gk with _ | k
    · obtain ⟨Q, hT⟩ := H0.out wr HJ.out
      have S0 := Lib.hid (step_done (some ⟨t, 0, none⟩) V 0 wr hT.done)
      have S1 := Lib.hid (step_done (some ⟨t, 0, none⟩) V 1 wr hT.done)
      have SA := Lib.hid (await_done C P t Q V wr hT)
      have HT := Lib.hid hT
      clear hT
      go_wp2_with (first
        | (go_at_call 27; (with_reducible refine S0.out.mono ?_); rintro e w2 ⟨rfl, rfl⟩)
        | (go_at_call 27; (with_reducible refine S1.out.mono ?_); rintro e w2 ⟨rfl, rfl⟩)
        | (go_at_call 64; refine SA.out.mono ?_; rintro e w3 ⟨rfl, ka⟩; have SV := Lib.hid (isvalue_any C P t Q [] V w3 (HT.out.keep ka (fun _ _ h => h))); rw [show valueS [] V = V from rfl] at SV)
        | (go_at_call 32; refine SV.out.mono ?_; rintro e w4 ⟨rfl, rfl⟩))
      go_ret
      exact ⟨rfl, HK.out _ _ HJ.out ka⟩
    · rcases HS.out k wr HJ.out with hs | ⟨M, hs, hm⟩
      · have S0 := Lib.hid hs
        clear hs
        go_wp2_with (go_at_call 27; refine S0.out.mono ?_; rintro e w2 ⟨rfl, hj⟩)
        go_roundg k
        case measure => omega
        case rel => exact Lib.hid hj
      · have S0 := Lib.hid hs
        have HM := Lib.hid hm
        clear hs hm
        go_wp2_with (first
          | (go_at_call 27; (with_reducible refine S0.out.mono ?_); rintro e w2 ⟨rfl, hm2⟩; have S1 := Lib.hid (HM.out w2 hm2); clear hm2)
          | (go_at_call 27; (with_reducible refine S1.out.mono ?_); rintro e w3 ⟨rfl, hj⟩))
        go_roundg k
        case measure => omega
        case rel => exact Lib.hid hj
end Go.Proofs.Ytmkgbbbhmbejnaa
