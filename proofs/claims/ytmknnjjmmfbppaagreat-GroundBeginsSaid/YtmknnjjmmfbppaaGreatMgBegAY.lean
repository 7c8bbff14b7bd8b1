/- Package task: Spin, Loop. -/
import Derived.Test.YtmknnjjmmfbppaaGreatMgBegAX
namespace Go.Proofs.YtmknnjjmmfbppaaGreat
open Go.ChangeShapes Go.WideShapes Go.ChangeAt Go.RowKit
set_option linter.unusedVariables false
set_option maxRecDepth 100000
set_option linter.unusedSimpArgs false
theorem call_spin1 : ∀ (W : World) (args : Array Value), (callFunc 255 args).run Tryz.prog W = .ok (.enter 255 args) W := by
  intro W args
  go_simp
theorem call_spin11 : ∀ (W : World) (args : Array Value), (callFunc 257 args).run Tryz.prog W = .ok (.enter 257 args) W := by
  intro W args
  go_simp
theorem call_loop1 : ∀ (W : World) (args : Array Value), (callFunc 133 args).run Tryz.prog W = .ok (.enter 133 args) W := by
  intro W args
  go_simp
theorem spin11_any (v : Int) (w : World) :
    Calls Tryz.prog 257 #[.int .i64 v] w fun e w' => ∃ t, e = .returned (pV t) ∧ w.heap.size ≤ t ∧ DoneV w' (some ⟨t, 0, none⟩) (if v = 0 then -2147483648 else v) ∧ Below w.heap.size w w' := by
  by_cases h : v = 0
  · subst h
    go_enter Tryz.func257, Tryz.ntmps257
    go_wp2_with (first | (go_at_call 254; refine (truth_any _ _).mono ?_; rintro e w3 ⟨rfl, rfl⟩) | (go_at_call 88; refine (ready_any _ _).mono ?_; rintro e w2 ⟨t, rfl, h1, h2, h3⟩))
    go_ret
    exact ⟨t, rfl, h1, .inr ⟨t, rfl, by simpa using h2⟩, h3⟩
  · go_enter Tryz.func257, Tryz.ntmps257
    go_wp2_with (first | (go_at_call 254; refine (truth_any _ _).mono ?_; rintro e w3 ⟨rfl, rfl⟩) | (go_at_call 88; refine (ready_any _ _).mono ?_; rintro e w2 ⟨t, rfl, h1, h2, h3⟩))
    go_ret
    exact ⟨t, rfl, h1, .inr ⟨t, rfl, by simpa [h] using h2⟩, h3⟩
/-- a try of a spin, and what asks whether it went -/
def SpinMid (w : World) (C : Nat) (Q : Nat → Prop) (x : Itm) (t : Nat) : Prop :=
  ∃ b F caps j k3, Live w t (cloV 280 #[pV b]) (.pointer none) j ∧ Q b ∧ Blk w b 52 #[cloV F caps] ∧ CloAt w C Q x F caps ∧ TreeO w Q j [k3] ∧ Link3 w Q k3
theorem spin1_any (C : Nat) (Q : Nat → Prop) (x : Itm) (bc bi bo bn : Nat) (w : World) (hk : x.kind = 4) (hc : Blk w bc 36 #[cellsV C]) (hi : Blk w bi 3 #[.int .i64 x.at']) (ho : Blk w bo 55 #[.int .u64 x.a]) (hn : Blk w bn 55 #[.int .u64 x.b])
    (hQ : ∀ k, w.heap.size ≤ k → Q k) :
    Calls Tryz.prog 255 #[pV bc, pV bi, pV bo, pV bn] w fun e w' => ∃ t, e = .returned (pV t) ∧ w.heap.size ≤ t ∧ SpinMid w' C Q x t ∧ Below w.heap.size w w' := by
  have c0 : w.cell? ⟨bc, 0, none⟩ = some (cellsV C) := hc.cell 0 _ rfl
  have c1 : w.cell? ⟨bi, 0, none⟩ = some (.int .i64 x.at') := hi.cell 0 _ rfl
  have c2 : w.cell? ⟨bo, 0, none⟩ = some (.int .u64 x.a) := ho.cell 0 _ rfl
  have c3 : w.cell? ⟨bn, 0, none⟩ = some (.int .u64 x.b) := hn.cell 0 _ rfl
  have HS := Lib.hid (tSwap_raw C Q x w (.inr hk) hQ)
  have HQ := Lib.hid hQ
  clear hQ hc hi ho hn
  go_enter Tryz.func255, Tryz.ntmps255
  go_wp2_with (first
    | (go_at_call 256; refine HS.out.mono ?_; rintro e w2 ⟨t, b, F, caps, rfl, h1, h2, h3, h4, h5, h6⟩; have s2 := h6.size; have HT := Lib.hid (then_raw t 257 #[] _ _ _ [] Q w2 ⟨h4, .inl ⟨_, _, rfl, rfl⟩⟩ (.inl ⟨rfl, rfl⟩) (fun k hk => HQ.out k (by omega))))
    | (go_at_call 79; refine HT.out.mono ?_; rintro e w3 ⟨t2, f, j, rfl, g1, g2, g3, g4, g5, gft, g6⟩))
  go_ret
  have k2 : Keep (fun _ => False) w2 w3 := Keep.ofBelow g6
  exact ⟨t2, rfl, by omega, ⟨b, F, caps, j, f, g4, HQ.out b h2, h3.keep k2 (fun h => h), h5.keep k2 (fun _ _ h => h) (fun _ _ h => h), g5.mono (fun _ _ h => h.1), HQ.out f (by omega), g3⟩, h6.trans (g6.mono s2)⟩
theorem loop_any (C P : Nat) (Q : Nat → Prop) (x : Itm) (body : Value) (w : World) (hk : x.kind = 4) (hb : SpinB w C Q x body) (hQ : ∀ k, w.heap.size ≤ k → Q k) :
    Calls Tryz.prog 77 #[body] w fun e w' => ∃ t, e = .returned (pV t) ∧ Made6 w C P Q [x] 0 t w' := by
  have hmf : ∀ (fn : Fn) (first cap : Array Value) (w : World), (Instr.makeFunc fn first cap).run Tryz.prog w = .ok (.func fn first cap) w := fun _ _ _ _ => rfl
  have HB := Lib.hid hb
  have HQ := Lib.hid hQ
  obtain ⟨bc, bi, bo, bn, rfl, q1, q2, q3, q4, b1, b2, b3, b4⟩ := hb
  have HA := Lib.hid fun W (hb : Below w.heap.size w W) => answerT_any 255 #[pV bc, pV bi, pV bo, pV bn] W (fun t w' => W.heap.size ≤ t ∧ SpinMid w' C Q x t ∧ Below W.heap.size W w') call_spin1 (spin1_any C Q x bc bi bo bn W hk (b1.below hb b1.lt) (b2.below hb b2.lt) (b3.below hb b3.lt) (b4.below hb b4.lt) (fun k hk => hQ k (Nat.le_trans hb.size hk)))
  clear hQ b1 b2 b3 b4 q1 q2 q3 q4
  go_enter Tryz.func77, Tryz.ntmps77
  go_upto_region 1 with fail
  generalize hW : (w.alloc _) = W
  have bW : Below w.heap.size w W := by rw [← hW]; go_grown
  have q0 : Blk W w.heap.size 150 #[cloV 255 #[pV bc, pV bi, pV bo, pV bn]] := by rw [← hW]; exact Blk.new w _ _
  clear hW
  have c0 : W.cell? ⟨w.heap.size, 0, none⟩ = some (cloV 255 #[pV bc, pV bi, pV bo, pV bn]) := q0.cell 0 _ rfl
  have sW := bW.size
  have HA2 := Lib.hid (HA.out W bW)
  clear HA
  go_upto_region 2 with (go_at_call 132; refine HA2.out.mono ?_; rintro e w2 ⟨t, rfl, h1, h2, h3⟩)
  obtain ⟨b, F, caps, j, k3, l1, l2, l3, l4, l5, l6⟩ := h2
  have s2 := h3.size
  have HD := Lib.hid (live_done t _ _ j w2 l1)
  have HT := Lib.hid (then_raw t 133 #[pV w.heap.size] _ _ j [k3] Q w2 l1 l5 (fun k hk => HQ.out k (by omega)))
  have Q0 := q0.below h3 q0.lt
  clear c0
  go_wp2_with (first | (go_at_call 38; refine HD.out.mono ?_; rintro e w3 ⟨rfl, rfl⟩) | (go_at_call 79; refine HT.out.mono ?_; rintro e w3 ⟨t2, f, j2, rfl, g1, g2, g3, g4, g5, gft, g6⟩))
  go_ret
  have k2 : Keep (fun _ => False) w2 w3 := Keep.ofBelow g6
  have bw2 : Below w.heap.size w w2 := bW.trans (h3.mono sW)
  have bw3 : Below w.heap.size w w3 := bw2.trans (g6.mono (by omega))
  have hb2 := l3.lt
  refine ⟨t2, rfl, by omega, ⟨_, _, j2, 0, g4.blk, rfl, [k3, f], [], by simpa using g5, .inl ⟨⟨b, F, caps, rfl, rfl, ⟨l2, by omega⟩, l3.keep k2 (fun h => h), l4.keep k2 (fun _ _ h => h) (fun b hb h => ⟨h, by omega⟩)⟩, .inr ⟨hk, k3, f, rfl, l6.keep k2 (fun _ _ h => h) (fun b hb h => ⟨h, by omega⟩), ⟨HQ.out f (by omega), gft⟩, w.heap.size, _, g3, ⟨HQ.out _ (Nat.le_refl _), by have := Q0.lt; omega⟩, Q0.below g6 Q0.lt, ?_⟩⟩, rfl⟩, bw3⟩
  exact HB.out.keep (Keep.ofBelow (Q := fun _ => False) bw3) (fun _ _ h => h) (fun b hb h => ⟨h, by omega⟩)
theorem loop1_any (C P : Nat) (Q : Nat → Prop) (x : Itm) (bb : Nat) (body : Value) (v : Int) (w : World) (hk : x.kind = 4) (hq : Blk w bb 150 #[body]) (hb : SpinB w C Q x body) (hQ : ∀ k, w.heap.size ≤ k → Q k) :
    Calls Tryz.prog 133 #[.int .i64 v, pV bb] w fun e w' => ∃ t, e = .returned (pV t) ∧ ((v = -2147483648 ∧ Made6 w C P Q [x] 0 t w') ∨ (v ≠ -2147483648 ∧ Made6 w C P Q [] v t w')) := by
  have c0 : w.cell? ⟨bb, 0, none⟩ = some body := hq.cell 0 _ rfl
  have HL := Lib.hid (loop_any C P Q x body w hk hb hQ)
  clear hq hQ
  obtain ⟨bc, bi, bo, bn, rfl, _⟩ := hb
  by_cases h : v = -2147483648
  · subst h
    go_enter Tryz.func133, Tryz.ntmps133
    go_wp2_with (go_at_call 77; refine HL.out.mono ?_; rintro e w2 ⟨t, rfl, h1⟩)
    go_ret
    exact ⟨t, rfl, .inl ⟨by first | trivial | rfl, h1⟩⟩
  · go_enter Tryz.func133, Tryz.ntmps133
    go_wp2_with (go_at_call 88; refine (tready_any C P Q _ _).mono ?_; rintro e w2 ⟨t, rfl, h1⟩)
    go_ret
    exact ⟨t, rfl, .inr ⟨h, h1⟩⟩
theorem tspin_any (C P : Nat) (Q : Nat → Prop) (x : Itm) (w : World) (hk : x.kind = 4) (hQ : ∀ k, w.heap.size ≤ k → Q k) :
    Calls Tryz.prog 199 #[cellsV C, .int .i64 x.at', .int .u64 x.a, .int .u64 x.b] w fun e w' => ∃ t, e = .returned (pV t) ∧ Made6 w C P Q [x] 0 t w' := by
  have hmf : ∀ (fn : Fn) (first cap : Array Value) (w : World), (Instr.makeFunc fn first cap).run Tryz.prog w = .ok (.func fn first cap) w := fun _ _ _ _ => rfl
  have HQ := Lib.hid hQ
  clear hQ
  go_enter Tryz.func199, Tryz.ntmps199
  go_upto_region 1 with fail
  generalize hW : (((w.alloc _).alloc _).alloc _).alloc _ = W
  have bW : Below w.heap.size w W := by rw [← hW]; go_grown
  have sW : W.heap.size = w.heap.size + 4 := by rw [← hW]; simp
  have q0 : Blk W w.heap.size 36 #[cellsV C] := by rw [← hW]; have h := Blk.new (w) 36 #[cellsV C]; (try simp only [World.size_alloc] at h); exact (((h.alloc _).alloc _).alloc _)
  have q1 : Blk W (w.heap.size + 1) 3 #[.int .i64 x.at'] := by rw [← hW]; have h := Blk.new ((w).alloc (.cells #[cellsV C] 36)) 3 #[.int .i64 x.at']; (try simp only [World.size_alloc] at h); exact ((h.alloc _).alloc _)
  have q2 : Blk W (w.heap.size + 2) 55 #[.int .u64 x.a] := by rw [← hW]; have h := Blk.new (((w).alloc (.cells #[cellsV C] 36)).alloc (.cells #[.int .i64 x.at'] 3)) 55 #[.int .u64 x.a]; (try simp only [World.size_alloc] at h); exact (h.alloc _)
  have q3 : Blk W (w.heap.size + 3) 55 #[.int .u64 x.b] := by rw [← hW]; have h := Blk.new ((((w).alloc (.cells #[cellsV C] 36)).alloc (.cells #[.int .i64 x.at'] 3)).alloc (.cells #[.int .u64 x.a] 55)) 55 #[.int .u64 x.b]; (try simp only [World.size_alloc] at h); exact h
  clear hW
  have HL := Lib.hid (loop_any C P Q x _ W hk ⟨w.heap.size, w.heap.size + 1, w.heap.size + 2, w.heap.size + 3, rfl, HQ.out _ (by omega), HQ.out _ (by omega), HQ.out _ (by omega), HQ.out _ (by omega), q0, q1, q2, q3⟩ (fun k hk => HQ.out k (by omega)))
  go_wp2_with (go_at_call 77; refine HL.out.mono ?_; rintro e w1 ⟨t, rfl, h1, h2, h3⟩)
  go_ret
  exact ⟨t, rfl, by omega, h2, bW.trans (h3.mono bW.size)⟩
end Go.Proofs.YtmknnjjmmfbppaaGreat
/- Package task: going on behind a step. -/
namespace Go.Proofs.YtmknnjjmmfbppaaGreat
open Go.ChangeShapes Go.WideShapes Go.ChangeAt Go.RowKit
set_option linter.unusedVariables false
set_option maxRecDepth 100000
set_option linter.unusedSimpArgs false
theorem DoneV.val {w : World} {n : Option Addr} {v v' : Int} (h : DoneV w n v) (h' : DoneV w n v') : v' = v := by
  rcases h with ⟨e1, e2⟩ | ⟨k1, e1, e2⟩
  · rcases h' with ⟨e3, e4⟩ | ⟨k3, e3, e4⟩
    · rw [e4, e2]
    · rw [e1] at e3; cases e3
  · rcases h' with ⟨e3, e4⟩ | ⟨k3, e3, e4⟩
    · rw [e1] at e3; cases e3
    · rw [e1] at e3; obtain rfl : k1 = k3 := by simpa using e3
      have e := (show w.heap[k1]? = _ from e4).symm.trans e2
      simpa using e
/-- between a step's operation and its end: the task at hand, what follows, and what is to come of both -/
def Jot (C P : Nat) (Q : Nat → Prop) (t : Nat) (R : List Itm) (V : Int) (a : World) (n : Option Addr) (fs : List Nat) : Prop :=
  (∃ k r v r', n = some ⟨k, 0, none⟩ ∧ k ≠ t ∧ TaskC a C P Q k r v ∧ Conts (Cont a C P Q) fs r' ∧ (r = [] → onS r' v = (R, V)) ∧ (r ≠ [] → R = r ++ r')) ∨
  (∃ k v x k2 gs r', n = some ⟨k, 0, none⟩ ∧ k ≠ t ∧ fs = k2 :: gs ∧ DoneV a n v ∧ x.kind = 4 ∧ Link2 a C Q x k2 ∧ Conts (Cont a C P Q) gs r' ∧ (v = -2147483648 → R = x :: r') ∧ (v ≠ -2147483648 → onS r' v = (R, V))) ∨
  (∃ k v x k3 k2 gs r', n = some ⟨k, 0, none⟩ ∧ k ≠ t ∧ fs = k3 :: k2 :: gs ∧ DoneV a n v ∧ x.kind = 4 ∧ Link3 a Q k3 ∧ Link2 a C Q x k2 ∧ Conts (Cont a C P Q) gs r' ∧ (v = 0 → R = x :: r') ∧ (v ≠ 0 → v ≠ -2147483648 ∧ onS r' v = (R, V)))
theorem Jot.keep {C P : Nat} {Q : Nat → Prop} {t : Nat} {R : List Itm} {V : Int} {a b : World} {n : Option Addr} {fs : List Nat} (h : Jot C P Q t R V a n fs) (hk : Keep (fun k => k = t) a b) (hQt : ¬ Q t) : Jot C P Q t R V b n fs := by
  have hd : ∀ b, Q b → ¬ (b = t) := fun b hb e => hQt (e ▸ hb)
  have hq : ∀ b, b < a.heap.size → Q b → Q b := fun _ _ h => h
  rcases h with ⟨k, r, v, r', e, h1, h2, h3, h4⟩ | ⟨k, v, x, k2, gs, r', e, h1, h2, h3, h4, h5, h6, h7⟩ | ⟨k, v, x, k3, k2, gs, r', e, h1, h2, h3, h4, h5, h6, h7, h8⟩
  · exact .inl ⟨k, r, v, r', e, h1, h2.keep hk hd h1 hq, h3.keep hk hd hq, h4⟩
  · exact .inr (.inl ⟨k, v, x, k2, gs, r', e, h1, h2, h3.keep hk (fun j ej => by rw [e] at ej; injection ej with ej; injection ej with ej; omega), h4, h5.keep hk hd hq, h6.keep hk hd hq, h7⟩)
  · exact .inr (.inr ⟨k, v, x, k3, k2, gs, r', e, h1, h2, h3.keep hk (fun j ej => by rw [e] at ej; injection ej with ej; injection ej with ej; omega), h4, h5.keep hk hd hq, h6.keep hk hd hq, h7.keep hk hd hq, h8⟩)
theorem done_task {C P : Nat} {Q : Nat → Prop} {k : Nat} {v : Int} {w : World} (h : DoneV w (some ⟨k, 0, none⟩) v) : TaskC w C P Q k [] v := by
  obtain ⟨k', e, h⟩ := h.resolve_left (fun h => by cases h.1)
  obtain rfl : k = k' := by simpa using e
  exact ⟨_, _, _, _, h, rfl, rfl, rfl, rfl⟩
/-- what is called next leaves as much -/
theorem Jot.next {C P : Nat} {Q : Nat → Prop} {t : Nat} {R : List Itm} {V : Int} {a : World} {n : Option Addr} {f : Nat} {fs : List Nat} {v : Int} (h : Jot C P Q t R V a n (f :: fs)) (hd : DoneV a n v) (ht : t < a.heap.size) (hQ : ∀ k, a.heap.size ≤ k → Q k) :
    Calls Tryz.prog 135 #[.int .i64 v, pV f] a fun e b => ∃ k, e = .returned (pV k) ∧ Jot C P Q t R V b (some ⟨k, 0, none⟩) fs ∧ Below a.heap.size a b := by
  rcases h with ⟨k, r, v', r', rfl, h1, h2, h3, h4, h5⟩ | ⟨k, v', x, k2, gs, r', e, h1, h2, h3, h4, h5, h6, h7, h8⟩ | ⟨k, v', x, k3, k2, gs, r', e, h1, h2, h3, h4, h5, h6, h7, h8, h9⟩
  · obtain ⟨s, r2, hc, hcs, rfl⟩ := h3
    have hr : r = [] ∧ v' = v := by
      rcases h2.view with ⟨rfl, hd'⟩ | ⟨x, r', d, p, rest, gs, fs, rfl, hL, _⟩
      · exact ⟨rfl, hd.val hd'⟩
      · exact (hd.live hL).elim
    obtain ⟨rfl, rfl⟩ := hr
    refine (cont_call C P Q f s v' a hc hQ).mono ?_
    rintro e b ⟨k', rfl, hM⟩
    have g2 := hM.task
    obtain ⟨g1, _, g3⟩ := hM
    have hk : Keep (fun _ => False) a b := Keep.ofBelow g3
    refine ⟨k', rfl, .inl ⟨k', _, _, r2, rfl, by omega, g2, hcs.keep hk (fun _ _ h => h) (fun _ _ h => h), fun he => ?_, fun he => ?_⟩, g3⟩
    · have := h4 rfl
      rwa [onS_append, if_pos he] at this
    · have := h4 rfl
      rw [onS_append, if_neg he] at this
      exact (congrArg Prod.fst this).symm
  · obtain rfl : v' = v := hd.val h3
    simp only [List.cons.injEq] at h2
    obtain ⟨rfl, rfl⟩ := h2
    obtain ⟨q1, bb, body, q2, q3, q4, q5⟩ := h5
    refine (then1_any f 133 #[pV bb] v' a (fun k b => Below a.heap.size a b ∧ a.heap.size ≤ k ∧ ((v' = -2147483648 ∧ TaskC b C P Q k [x] 0) ∨ (v' ≠ -2147483648 ∧ TaskC b C P Q k [] v'))) q2 call_loop1 fun w1 hb => ?_).mono ?_
    · have hsz := hb.size
      refine (loop1_any C P Q x bb body v' w1 h4 (q4.below hb q4.lt) (q5.keep (Keep.ofBelow (Q := fun _ => False) hb) (fun _ _ h => h) (fun _ _ h => h)) (fun k hk => hQ k (by omega))).mono ?_
      rintro e w2 ⟨k', rfl, ⟨e1, hM⟩ | ⟨e1, hM⟩⟩
      · exact ⟨k', rfl, hb.trans (hM.2.2.mono hsz), Nat.le_trans hsz hM.1, .inl ⟨e1, hM.task⟩⟩
      · exact ⟨k', rfl, hb.trans (hM.2.2.mono hsz), Nat.le_trans hsz hM.1, .inr ⟨e1, hM.task⟩⟩
    · rintro e b ⟨k', rfl, g1, g2, ⟨e1, g3⟩ | ⟨e1, g3⟩⟩
      · refine ⟨k', rfl, .inl ⟨k', [x], 0, r', rfl, by omega, g3, h6.keep (Keep.ofBelow (Q := fun _ => False) g1) (fun _ _ h => h) (fun _ _ h => h), fun he => (by cases he), fun _ => h7 e1⟩, g1⟩
      · refine ⟨k', rfl, .inl ⟨k', [], v', r', rfl, by omega, g3, h6.keep (Keep.ofBelow (Q := fun _ => False) g1) (fun _ _ h => h) (fun _ _ h => h), fun _ => h8 e1, fun he => absurd rfl he⟩, g1⟩
  · obtain rfl : v' = v := hd.val h3
    simp only [List.cons.injEq] at h2
    obtain ⟨rfl, rfl⟩ := h2
    obtain ⟨q1, q2⟩ := h5
    refine (then1_any f 257 #[] v' a (fun k b => Below a.heap.size a b ∧ a.heap.size ≤ k ∧ DoneV b (some ⟨k, 0, none⟩) (if v' = 0 then -2147483648 else v')) q2 call_spin11 fun w1 hb => ?_).mono ?_
    · have hsz := hb.size
      refine (spin11_any v' w1).mono ?_
      rintro e w2 ⟨k', rfl, g1, g2, g3⟩
      exact ⟨k', rfl, hb.trans (g3.mono hsz), by omega, g2⟩
    · rintro e b ⟨k', rfl, g1, g2, g3⟩
      refine ⟨k', rfl, .inr (.inl ⟨k', _, x, k2, gs, r', rfl, by omega, rfl, g3, h4, h6.keep (Keep.ofBelow (Q := fun _ => False) g1) (fun _ _ h => h) (fun _ _ h => h), h7.keep (Keep.ofBelow (Q := fun _ => False) g1) (fun _ _ h => h) (fun _ _ h => h), fun he => ?_, fun he => ?_⟩), g1⟩
      · by_cases hv : v' = 0
        · exact h8 hv
        · rw [if_neg hv] at he
          exact absurd he (h9 hv).1
      · by_cases hv : v' = 0
        · rw [if_pos hv] at he; exact absurd rfl he
        · rw [if_neg hv]; exact (h9 hv).2
theorem Jot.view {C P : Nat} {Q : Nat → Prop} {t : Nat} {R : List Itm} {V : Int} {a : World} {n : Option Addr} {fs : List Nat} (h : Jot C P Q t R V a n fs) :
    n ≠ some ⟨t, 0, none⟩ ∧ ((∃ v, DoneV a n v) ∨ ∃ k d p r gs, n = some ⟨k, 0, none⟩ ∧ Live a k d p r ∧ TreeO a Q r gs) := by
  rcases h with ⟨k, r, v', r', rfl, h1, h2, h3, h4, h5⟩ | ⟨k, v', x, k2, gs, r', rfl, h1, h2, h3, h4, h5, h6, h7, h8⟩ | ⟨k, v', x, k3, k2, gs, r', rfl, h1, h2, h3, h4, h5, h6, h7, h8, h9⟩
  · refine ⟨fun e => by injection e with e; injection e with e; exact h1 e, ?_⟩
    rcases h2.view with ⟨rfl, hd'⟩ | ⟨x, r', d, p, rest, gs, fs, rfl, hL, hT, _⟩
    · exact .inl ⟨_, hd'⟩
    · exact .inr ⟨k, d, p, rest, gs ++ fs, rfl, hL, hT⟩
  · exact ⟨fun e => by injection e with e; injection e with e; exact h1 e, .inl ⟨_, h3⟩⟩
  · exact ⟨fun e => by injection e with e; injection e with e; exact h1 e, .inl ⟨_, h3⟩⟩
theorem goon_task (C P : Nat) (Q : Nat → Prop) (t k : Nat) (R : List Itm) (V : Int) (d0 p0 r0 : Value) (fs : List Nat) (w : World) (ht : Blk w t 134 #[d0, p0, r0, .int .i64 0]) (hr : TreeO w Q r0 fs) (hQ : ∀ k, w.heap.size ≤ k → Q k) (hQt : ¬ Q t)
    (hJ : Jot C P Q t R V w (some ⟨k, 0, none⟩) fs) :
    Calls Tryz.prog 87 #[pV t, pV k] w fun e w' => e = .returned (.tuple #[]) ∧ Keep (fun k => k = t) w w' ∧ TaskC w' C P Q t R V := by
  have hlt := ht.lt
  refine (goon_gen t (some ⟨k, 0, none⟩) d0 p0 r0 0 fs Q (Jot C P Q t R V) w ht hr hQ hQt hJ (fun a b n fs _ h hk => h.keep hk hQt) (fun a n fs h => h.view) (fun a n f fs v ha h hd => h.next hd (by omega) (fun k hk => hQ k (by omega)))).mono ?_
  rintro e w' ⟨rfl, hk, n, gs, hj, hp⟩
  refine ⟨rfl, hk, ?_⟩
  rcases hp with ⟨rfl, v, hd, hB⟩ | ⟨k1, d, p, r, g1, j, rfl, hL, hT, hT2, hB⟩
  · rcases hj with ⟨k, r, v', r', rfl, h1, h2, h3, h4, h5⟩ | ⟨_, _, _, _, _, _, _, _, h2, _⟩ | ⟨_, _, _, _, _, _, _, _, _, h2, _⟩
    · rcases h2.view with ⟨rfl, hd'⟩ | ⟨x, r', d, p, rest, gs, fs, rfl, hL, hT, _⟩
      · obtain rfl := hd.val hd'
        have e := h4 rfl
        simp only [Conts] at h3
        subst h3
        simp only [onS, Prod.mk.injEq] at e
        obtain ⟨rfl, rfl⟩ := e
        exact ⟨_, _, _, _, hB, rfl, rfl, rfl, rfl⟩
      · exact (hd.live hL).elim
    · cases h2
    · cases h2
  · rcases hj with ⟨k, r', v', r2, e, h1, h2, h3, h4, h5⟩ | ⟨_, _, _, _, _, _, _, _, _, hd, _⟩ | ⟨_, _, _, _, _, _, _, _, _, _, hd, _⟩
    · obtain rfl : k1 = k := by simpa using e
      rcases h2.view with ⟨rfl, hd'⟩ | ⟨x, r3, d', p', rest, gs', fs', rfl, hL', hT', hO, hC⟩
      · exact (hd'.live hL).elim
      · obtain ⟨rfl, rfl, rfl⟩ := hL.unique hL'
        obtain rfl := hT.unique hT'
        rw [h5 (by simp)]
        exact ⟨_, _, j, 0, hB, rfl, gs', fs' ++ gs, by rw [← List.append_assoc]; exact hT2, hO, Conts.append _ _ _ _ hC h3⟩
    · exact (hd.live hL).elim
    · exact (hd.live hL).elim
end Go.Proofs.YtmknnjjmmfbppaaGreat
