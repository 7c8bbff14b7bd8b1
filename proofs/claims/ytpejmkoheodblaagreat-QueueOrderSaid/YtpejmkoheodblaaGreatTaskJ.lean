/- Package task: Spin, Loop. -/
import Derived.Test.YtpejmkoheodblaaGreatTaskI
namespace Go.Proofs.YtpejmkoheodblaaGreat
open Go.ChangeShapes Go.WideShapes Go.ChangeAt Go.RowKit
set_option linter.unusedVariables false
set_option maxRecDepth 100000
set_option linter.unusedSimpArgs false
theorem call_spin1 : ∀ (W : World) (args : Array Value), (callFunc 147 args).run Tryz.prog W = .ok (.enter 147 args) W := by
  intro W args
  go_simp
theorem call_spin11 : ∀ (W : World) (args : Array Value), (callFunc 148 args).run Tryz.prog W = .ok (.enter 148 args) W := by
  intro W args
  go_simp
theorem call_loop1 : ∀ (W : World) (args : Array Value), (callFunc 120 args).run Tryz.prog W = .ok (.enter 120 args) W := by
  intro W args
  go_simp
theorem spin11_any (v : Int) (w : World) :
    Calls Tryz.prog 148 #[.int .i64 v] w fun e w' => ∃ t, e = .returned (pV t) ∧ w.heap.size ≤ t ∧ DoneV w' (some ⟨t, 0, none⟩) (if v = 0 then -2147483648 else v) ∧ Below w.heap.size w w' := by
  by_cases h : v = 0
  · subst h
    go_enter Tryz.func148, Tryz.ntmps148
    go_wp2_with (first | (go_at_call 111; refine (truth_any _ _).mono ?_; rintro e w3 ⟨rfl, rfl⟩) | (go_at_call 53; refine (ready_any _ _).mono ?_; rintro e w2 ⟨t, rfl, h1, h2, h3⟩))
    go_ret
    exact ⟨t, rfl, h1, .inr ⟨t, rfl, by simpa using h2⟩, h3⟩
  · go_enter Tryz.func148, Tryz.ntmps148
    go_wp2_with (first | (go_at_call 111; refine (truth_any _ _).mono ?_; rintro e w3 ⟨rfl, rfl⟩) | (go_at_call 53; refine (ready_any _ _).mono ?_; rintro e w2 ⟨t, rfl, h1, h2, h3⟩))
    go_ret
    exact ⟨t, rfl, h1, .inr ⟨t, rfl, by simpa [h] using h2⟩, h3⟩
/-- a try of a spin, and what asks whether it went -/
def SpinMid (w : World) (C : Nat) (Q : Nat → Prop) (x : Itm) (t : Nat) : Prop :=
  ∃ b F caps j k3, Live w t (cloV 129 #[pV b]) (.pointer none) j ∧ Q b ∧ Blk w b 28 #[cloV F caps] ∧ CloAt w C Q x F caps ∧ TreeO w Q j [k3] ∧ Link3 w Q k3
theorem spin1_any (C : Nat) (Q : Nat → Prop) (x : Itm) (bc bi bo bn : Nat) (w : World) (hk : x.kind = 4) (hc : Blk w bc 26 #[cellsV C]) (hi : Blk w bi 3 #[.int .i64 x.at']) (ho : Blk w bo 47 #[.int .u64 x.a]) (hn : Blk w bn 47 #[.int .u64 x.b])
    (hQ : ∀ k, w.heap.size ≤ k → Q k) :
    Calls Tryz.prog 147 #[pV bc, pV bi, pV bo, pV bn] w fun e w' => ∃ t, e = .returned (pV t) ∧ w.heap.size ≤ t ∧ SpinMid w' C Q x t ∧ Below w.heap.size w w' := by
  have c0 : w.cell? ⟨bc, 0, none⟩ = some (cellsV C) := hc.cell 0 _ rfl
  have c1 : w.cell? ⟨bi, 0, none⟩ = some (.int .i64 x.at') := hi.cell 0 _ rfl
  have c2 : w.cell? ⟨bo, 0, none⟩ = some (.int .u64 x.a) := ho.cell 0 _ rfl
  have c3 : w.cell? ⟨bn, 0, none⟩ = some (.int .u64 x.b) := hn.cell 0 _ rfl
  have HS := Lib.hid (tSwap_raw C Q x w (.inr hk) hQ)
  have HQ := Lib.hid hQ
  clear hQ hc hi ho hn
  go_enter Tryz.func147, Tryz.ntmps147
  go_wp2_with (first
    | (go_at_call 144; refine HS.out.mono ?_; rintro e w2 ⟨t, b, F, caps, rfl, h1, h2, h3, h4, h5, h6⟩; have s2 := h6.size; have HT := Lib.hid (then_raw t 148 #[] _ _ _ [] Q w2 ⟨h4, .inl ⟨_, _, rfl, rfl⟩⟩ (.inl ⟨rfl, rfl⟩) (fun k hk => HQ.out k (by omega))))
    | (go_at_call 81; refine HT.out.mono ?_; rintro e w3 ⟨t2, f, j, rfl, g1, g2, g3, g4, g5, gft, g6⟩))
  go_ret
  have k2 : Keep (fun _ => False) w2 w3 := Keep.ofBelow g6
  exact ⟨t2, rfl, by omega, ⟨b, F, caps, j, f, g4, HQ.out b h2, h3.keep k2 (fun h => h), h5.keep k2 (fun _ _ h => h) (fun _ _ h => h), g5.mono (fun _ _ h => h.1), HQ.out f (by omega), g3⟩, h6.trans (g6.mono s2)⟩
theorem loop_any (C P : Nat) (Q : Nat → Prop) (x : Itm) (body : Value) (w : World) (hk : x.kind = 4) (hb : SpinB w C Q x body) (hQ : ∀ k, w.heap.size ≤ k → Q k) :
    Calls Tryz.prog 88 #[body] w fun e w' => ∃ t, e = .returned (pV t) ∧ Made6 w C P Q [x] 0 t w' := by
  have hmf : ∀ (fn : Fn) (first cap : Array Value) (w : World), (Instr.makeFunc fn first cap).run Tryz.prog w = .ok (.func fn first cap) w := fun _ _ _ _ => rfl
  have HB := Lib.hid hb
  have HQ := Lib.hid hQ
  obtain ⟨bc, bi, bo, bn, rfl, q1, q2, q3, q4, b1, b2, b3, b4⟩ := hb
  have HA := Lib.hid fun W (hb : Below w.heap.size w W) => answerT_any 147 #[pV bc, pV bi, pV bo, pV bn] W (fun t w' => W.heap.size ≤ t ∧ SpinMid w' C Q x t ∧ Below W.heap.size W w') call_spin1 (spin1_any C Q x bc bi bo bn W hk (b1.below hb b1.lt) (b2.below hb b2.lt) (b3.below hb b3.lt) (b4.below hb b4.lt) (fun k hk => hQ k (Nat.le_trans hb.size hk)))
  clear hQ b1 b2 b3 b4 q1 q2 q3 q4
  go_enter Tryz.func88, Tryz.ntmps88
  go_upto_region 1 with fail
  generalize hW : (w.alloc _) = W
  have bW : Below w.heap.size w W := by rw [← hW]; go_grown
  have q0 : Blk W w.heap.size 90 #[cloV 147 #[pV bc, pV bi, pV bo, pV bn]] := by rw [← hW]; exact Blk.new w _ _
  clear hW
  have c0 : W.cell? ⟨w.heap.size, 0, none⟩ = some (cloV 147 #[pV bc, pV bi, pV bo, pV bn]) := q0.cell 0 _ rfl
  have sW := bW.size
  have HA2 := Lib.hid (HA.out W bW)
  clear HA
  go_upto_region 2 with (go_at_call 114; refine HA2.out.mono ?_; rintro e w2 ⟨t, rfl, h1, h2, h3⟩)
  obtain ⟨b, F, caps, j, k3, l1, l2, l3, l4, l5, l6⟩ := h2
  have s2 := h3.size
  have HD := Lib.hid (live_done t _ _ j w2 l1)
  have HT := Lib.hid (then_raw t 120 #[pV w.heap.size] _ _ j [k3] Q w2 l1 l5 (fun k hk => HQ.out k (by omega)))
  have Q0 := q0.below h3 q0.lt
  clear c0
  go_wp2_with (first | (go_at_call 37; refine HD.out.mono ?_; rintro e w3 ⟨rfl, rfl⟩) | (go_at_call 81; refine HT.out.mono ?_; rintro e w3 ⟨t2, f, j2, rfl, g1, g2, g3, g4, g5, gft, g6⟩))
  go_ret
  have k2 : Keep (fun _ => False) w2 w3 := Keep.ofBelow g6
  have bw2 : Below w.heap.size w w2 := bW.trans (h3.mono sW)
  have bw3 : Below w.heap.size w w3 := bw2.trans (g6.mono (by omega))
  have hb2 := l3.lt
  refine ⟨t2, rfl, by omega, ⟨_, _, j2, 0, g4.blk, rfl, [k3, f], [], by simpa using g5, .inl ⟨⟨b, F, caps, rfl, rfl, ⟨l2, by omega⟩, l3.keep k2 (fun h => h), l4.keep k2 (fun _ _ h => h) (fun b hb h => ⟨h, by omega⟩)⟩, .inr ⟨hk, k3, f, rfl, l6.keep k2 (fun _ _ h => h) (fun b hb h => ⟨h, by omega⟩), ⟨HQ.out f (by omega), gft⟩, w.heap.size, _, g3, ⟨HQ.out _ (Nat.le_refl _), by have := Q0.lt; omega⟩, Q0.below g6 Q0.lt, ?_⟩⟩, rfl⟩, bw3⟩
  exact HB.out.keep (Keep.ofBelow (Q := fun _ => False) bw3) (fun _ _ h => h) (fun b hb h => ⟨h, by omega⟩)
theorem loop1_any (C P : Nat) (Q : Nat → Prop) (x : Itm) (bb : Nat) (body : Value) (v : Int) (w : World) (hk : x.kind = 4) (hq : Blk w bb 90 #[body]) (hb : SpinB w C Q x body) (hQ : ∀ k, w.heap.size ≤ k → Q k) :
    Calls Tryz.prog 120 #[.int .i64 v, pV bb] w fun e w' => ∃ t, e = .returned (pV t) ∧ ((v = -2147483648 ∧ Made6 w C P Q [x] 0 t w') ∨ (v ≠ -2147483648 ∧ Made6 w C P Q [] v t w')) := by
  have c0 : w.cell? ⟨bb, 0, none⟩ = some body := hq.cell 0 _ rfl
  have HL := Lib.hid (loop_any C P Q x body w hk hb hQ)
  clear hq hQ
  obtain ⟨bc, bi, bo, bn, rfl, _⟩ := hb
  by_cases h : v = -2147483648
  · subst h
    go_enter Tryz.func120, Tryz.ntmps120
    go_wp2_with (go_at_call 88; refine HL.out.mono ?_; rintro e w2 ⟨t, rfl, h1⟩)
    go_ret
    exact ⟨t, rfl, .inl ⟨by first | trivial | rfl, h1⟩⟩
  · go_enter Tryz.func120, Tryz.ntmps120
    go_wp2_with (go_at_call 53; refine (tready_any C P Q _ _).mono ?_; rintro e w2 ⟨t, rfl, h1⟩)
    go_ret
    exact ⟨t, rfl, .inr ⟨h, h1⟩⟩
theorem tspin_any (C P : Nat) (Q : Nat → Prop) (x : Itm) (w : World) (hk : x.kind = 4) (hQ : ∀ k, w.heap.size ≤ k → Q k) :
    Calls Tryz.prog 142 #[cellsV C, .int .i64 x.at', .int .u64 x.a, .int .u64 x.b] w fun e w' => ∃ t, e = .returned (pV t) ∧ Made6 w C P Q [x] 0 t w' := by
  have hmf : ∀ (fn : Fn) (first cap : Array Value) (w : World), (Instr.makeFunc fn first cap).run Tryz.prog w = .ok (.func fn first cap) w := fun _ _ _ _ => rfl
  have HQ := Lib.hid hQ
  clear hQ
  go_enter Tryz.func142, Tryz.ntmps142
  go_upto_region 1 with fail
  generalize hW : (((w.alloc _).alloc _).alloc _).alloc _ = W
  have bW : Below w.heap.size w W := by rw [← hW]; go_grown
  have sW : W.heap.size = w.heap.size + 4 := by rw [← hW]; simp
  have q0 : Blk W w.heap.size 26 #[cellsV C] := by rw [← hW]; have h := Blk.new (w) 26 #[cellsV C]; (try simp only [World.size_alloc] at h); exact (((h.alloc _).alloc _).alloc _)
  have q1 : Blk W (w.heap.size + 1) 3 #[.int .i64 x.at'] := by rw [← hW]; have h := Blk.new ((w).alloc (.cells #[cellsV C] 26)) 3 #[.int .i64 x.at']; (try simp only [World.size_alloc] at h); exact ((h.alloc _).alloc _)
  have q2 : Blk W (w.heap.size + 2) 47 #[.int .u64 x.a] := by rw [← hW]; have h := Blk.new (((w).alloc (.cells #[cellsV C] 26)).alloc (.cells #[.int .i64 x.at'] 3)) 47 #[.int .u64 x.a]; (try simp only [World.size_alloc] at h); exact (h.alloc _)
  have q3 : Blk W (w.heap.size + 3) 47 #[.int .u64 x.b] := by rw [← hW]; have h := Blk.new ((((w).alloc (.cells #[cellsV C] 26)).alloc (.cells #[.int .i64 x.at'] 3)).alloc (.cells #[.int .u64 x.a] 47)) 47 #[.int .u64 x.b]; (try simp only [World.size_alloc] at h); exact h
  clear hW
  have HL := Lib.hid (loop_any C P Q x _ W hk ⟨w.heap.size, w.heap.size + 1, w.heap.size + 2, w.heap.size + 3, rfl, HQ.out _ (by omega), HQ.out _ (by omega), HQ.out _ (by omega), HQ.out _ (by omega), q0, q1, q2, q3⟩ (fun k hk => HQ.out k (by omega)))
  go_wp2_with (go_at_call 88; refine HL.out.mono ?_; rintro e w1 ⟨t, rfl, h1, h2, h3⟩)
  go_ret
  exact ⟨t, rfl, by omega, h2, bW.trans (h3.mono bW.size)⟩
end Go.Proofs.YtpejmkoheodblaaGreat
