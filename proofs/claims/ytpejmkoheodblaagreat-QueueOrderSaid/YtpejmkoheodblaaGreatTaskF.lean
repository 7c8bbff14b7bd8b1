/- Package task: tasks of one operation, made. -/
import Derived.Test.YtpejmkoheodblaaGreatTaskE
namespace Go.Proofs.YtpejmkoheodblaaGreat
open Go.ChangeShapes Go.WideShapes Go.ChangeAt Go.RowKit
set_option linter.unusedVariables false
set_option maxRecDepth 100000
set_option linter.unusedSimpArgs false
/-- a new task -/
def Made6 (w : World) (C P : Nat) (Q : Nat → Prop) (r : List Itm) (v : Int) (t : Nat) (w' : World) : Prop := w.heap.size ≤ t ∧ TaskC w' C P (fun b => Q b ∧ b ≠ t) t r v ∧ Below w.heap.size w w'
theorem Made6.task {w w' : World} {C P : Nat} {Q : Nat → Prop} {r : List Itm} {v : Int} {t : Nat} (h : Made6 w C P Q r v t w') : TaskC w' C P Q t r v :=
  h.2.1.keep (F := fun _ => False) (Keep.refl _ _) (fun _ _ h => h) (fun h => h) (fun b _ h => h.1)
theorem Blk.ne6 {w : World} {a b : Nat} {t u : TypeId} {xs ys : Array Value} (h1 : Blk w a t xs) (h2 : Blk w b u ys) (ht : t ≠ u) : a ≠ b := by
  rintro rfl
  have h3 : w.heap[a]? = some (.cells ys u (0, 0)) := h2
  rw [show w.heap[a]? = _ from h1] at h3
  have := Option.some.inj h3
  simp at this
  exact ht this.2
theorem op_task {w : World} {C P : Nat} {Q : Nat → Prop} {x : Itm} {t b F : Nat} {caps : Array Value} (ht : Blk w t 96 #[cloV 129 #[pV b], .pointer none, .pointer none, .int .i64 0]) (hb : Blk w b 28 #[cloV F caps]) (hq : Q b) (hc : CloAt w C Q x F caps) (h4 : x.kind ≠ 4) : TaskC w C P (fun b => Q b ∧ b ≠ t) t [x] 0 := by
  refine ⟨_, _, _, _, ht, rfl, [], [], .inl ⟨rfl, rfl⟩, .inl ⟨⟨b, F, caps, rfl, rfl, ⟨hq, hb.ne6 ht (by decide)⟩, hb, ?_⟩, .inl ⟨h4, rfl⟩⟩, rfl⟩
  obtain ⟨bc, bi, h1, h2, h3, h4, h⟩ := hc
  refine ⟨bc, bi, ⟨h1, h3.ne6 ht (by decide)⟩, ⟨h2, h4.ne6 ht (by decide)⟩, h3, h4, ?_⟩
  rcases h with h | ⟨a, b, bv, c, d, e⟩ | ⟨a, b, bo, bn, c, d, e, f, g⟩ | ⟨a, b, bv, c, d, e⟩
  · exact .inl h
  · exact .inr (.inl ⟨a, b, bv, c, ⟨d, e.ne6 ht (by decide)⟩, e⟩)
  · exact .inr (.inr (.inl ⟨a, b, bo, bn, c, ⟨d, f.ne6 ht (by decide)⟩, ⟨e, g.ne6 ht (by decide)⟩, f, g⟩))
  · exact .inr (.inr (.inr ⟨a, b, bv, c, ⟨d, e.ne6 ht (by decide)⟩, e⟩))
theorem tready_any (C P : Nat) (Q : Nat → Prop) (v : Int) (w : World) : Calls Tryz.prog 53 #[.int .i64 v] w fun e w' => ∃ t, e = .returned (pV t) ∧ Made6 w C P Q [] v t w' := by
  refine (ready_any v w).mono ?_
  rintro e w' ⟨t, rfl, h1, h2, h3⟩
  exact ⟨t, rfl, h1, ⟨_, _, _, _, h2, rfl, rfl, rfl, rfl⟩, h3⟩
theorem tLoad_raw (C : Nat) (Q : Nat → Prop) (x : Itm) (w : World) (hk : x.kind = 0) (hQ : ∀ k, w.heap.size ≤ k → Q k) :
    Calls Tryz.prog 95 #[cellsV C, .int .i64 x.at'] w fun e w' => ∃ t b F caps, e = .returned (pV t) ∧ w.heap.size ≤ t ∧ w.heap.size ≤ b ∧ Blk w' b 28 #[cloV F caps] ∧ Blk w' t 96 #[cloV 129 #[pV b], .pointer none, .pointer none, .int .i64 0] ∧ CloAt w' C Q x F caps ∧ Below w.heap.size w w' := by
  have hmf : ∀ (fn : Fn) (first cap : Array Value) (w : World), (Instr.makeFunc fn first cap).run Tryz.prog w = .ok (.func fn first cap) w := fun _ _ _ _ => rfl
  have HQ := Lib.hid hQ
  have HK := Lib.hid hk
  clear hQ hk
  go_enter Tryz.func95, Tryz.ntmps95
  go_upto_region 1 with fail
  generalize hW : (w.alloc _).alloc _ = W
  have bW : Below w.heap.size w W := by rw [← hW]; go_grown
  have sW : W.heap.size = w.heap.size + 2 := by rw [← hW]; simp
  have q0 : Blk W w.heap.size 26 #[cellsV C] := by rw [← hW]; have h := Blk.new (w) 26 #[cellsV C]; (try simp only [World.size_alloc] at h); exact (h.alloc _)
  have q1 : Blk W (w.heap.size + 1) 3 #[.int .i64 x.at'] := by rw [← hW]; have h := Blk.new ((w).alloc (.cells #[cellsV C] 26)) 3 #[.int .i64 x.at']; (try simp only [World.size_alloc] at h); exact h
  clear hW
  have HO := Lib.hid (one_any 122 #[pV w.heap.size, pV (w.heap.size + 1)] W)
  go_wp2_with (go_at_call 109; refine HO.out.mono ?_; rintro e w1 ⟨t, b, rfl, h1, h2, h3, h4, h5⟩)
  go_ret
  refine ⟨t, b, _, _, rfl, by omega, by omega, h3, h4, ?_, bW.trans (h5.mono bW.size)⟩
  refine ⟨w.heap.size, w.heap.size + 1, HQ.out _ (by omega), HQ.out _ (by omega), q0.below h5 q0.lt, q1.below h5 q1.lt, ?_⟩
  exact .inl ⟨HK.out, rfl, rfl⟩
theorem tLoad_any (C P : Nat) (Q : Nat → Prop) (x : Itm) (w : World) (hk : x.kind = 0) (hQ : ∀ k, w.heap.size ≤ k → Q k) :
    Calls Tryz.prog 95 #[cellsV C, .int .i64 x.at'] w fun e w' => ∃ t, e = .returned (pV t) ∧ Made6 w C P Q [x] 0 t w' := by
  refine (tLoad_raw C Q x w hk hQ).mono ?_
  rintro e w' ⟨t, b, F, caps, rfl, h1, h2, h3, h4, h5, h6⟩
  exact ⟨t, rfl, h1, op_task h4 h3 (hQ b h2) h5 (by omega), h6⟩
theorem tStore_raw (C : Nat) (Q : Nat → Prop) (x : Itm) (w : World) (hk : x.kind = 1) (hQ : ∀ k, w.heap.size ≤ k → Q k) :
    Calls Tryz.prog 79 #[cellsV C, .int .i64 x.at', .int .u64 x.a] w fun e w' => ∃ t b F caps, e = .returned (pV t) ∧ w.heap.size ≤ t ∧ w.heap.size ≤ b ∧ Blk w' b 28 #[cloV F caps] ∧ Blk w' t 96 #[cloV 129 #[pV b], .pointer none, .pointer none, .int .i64 0] ∧ CloAt w' C Q x F caps ∧ Below w.heap.size w w' := by
  have hmf : ∀ (fn : Fn) (first cap : Array Value) (w : World), (Instr.makeFunc fn first cap).run Tryz.prog w = .ok (.func fn first cap) w := fun _ _ _ _ => rfl
  have HQ := Lib.hid hQ
  have HK := Lib.hid hk
  clear hQ hk
  go_enter Tryz.func79, Tryz.ntmps79
  go_upto_region 1 with fail
  generalize hW : ((w.alloc _).alloc _).alloc _ = W
  have bW : Below w.heap.size w W := by rw [← hW]; go_grown
  have sW : W.heap.size = w.heap.size + 3 := by rw [← hW]; simp
  have q0 : Blk W w.heap.size 26 #[cellsV C] := by rw [← hW]; have h := Blk.new (w) 26 #[cellsV C]; (try simp only [World.size_alloc] at h); exact ((h.alloc _).alloc _)
  have q1 : Blk W (w.heap.size + 1) 3 #[.int .i64 x.at'] := by rw [← hW]; have h := Blk.new ((w).alloc (.cells #[cellsV C] 26)) 3 #[.int .i64 x.at']; (try simp only [World.size_alloc] at h); exact (h.alloc _)
  have q2 : Blk W (w.heap.size + 2) 47 #[.int .u64 x.a] := by rw [← hW]; have h := Blk.new (((w).alloc (.cells #[cellsV C] 26)).alloc (.cells #[.int .i64 x.at'] 3)) 47 #[.int .u64 x.a]; (try simp only [World.size_alloc] at h); exact h
  clear hW
  have HO := Lib.hid (one_any 110 #[pV w.heap.size, pV (w.heap.size + 1), pV (w.heap.size + 2)] W)
  go_wp2_with (go_at_call 109; refine HO.out.mono ?_; rintro e w1 ⟨t, b, rfl, h1, h2, h3, h4, h5⟩)
  go_ret
  refine ⟨t, b, _, _, rfl, by omega, by omega, h3, h4, ?_, bW.trans (h5.mono bW.size)⟩
  refine ⟨w.heap.size, w.heap.size + 1, HQ.out _ (by omega), HQ.out _ (by omega), q0.below h5 q0.lt, q1.below h5 q1.lt, ?_⟩
  exact .inr (.inl ⟨HK.out, rfl, w.heap.size + 2, rfl, HQ.out _ (by omega), q2.below h5 q2.lt⟩)
theorem tStore_any (C P : Nat) (Q : Nat → Prop) (x : Itm) (w : World) (hk : x.kind = 1) (hQ : ∀ k, w.heap.size ≤ k → Q k) :
    Calls Tryz.prog 79 #[cellsV C, .int .i64 x.at', .int .u64 x.a] w fun e w' => ∃ t, e = .returned (pV t) ∧ Made6 w C P Q [x] 0 t w' := by
  refine (tStore_raw C Q x w hk hQ).mono ?_
  rintro e w' ⟨t, b, F, caps, rfl, h1, h2, h3, h4, h5, h6⟩
  exact ⟨t, rfl, h1, op_task h4 h3 (hQ b h2) h5 (by omega), h6⟩
theorem tSwap_raw (C : Nat) (Q : Nat → Prop) (x : Itm) (w : World) (hk : x.kind = 2 ∨ x.kind = 4) (hQ : ∀ k, w.heap.size ≤ k → Q k) :
    Calls Tryz.prog 144 #[cellsV C, .int .i64 x.at', .int .u64 x.a, .int .u64 x.b] w fun e w' => ∃ t b F caps, e = .returned (pV t) ∧ w.heap.size ≤ t ∧ w.heap.size ≤ b ∧ Blk w' b 28 #[cloV F caps] ∧ Blk w' t 96 #[cloV 129 #[pV b], .pointer none, .pointer none, .int .i64 0] ∧ CloAt w' C Q x F caps ∧ Below w.heap.size w w' := by
  have hmf : ∀ (fn : Fn) (first cap : Array Value) (w : World), (Instr.makeFunc fn first cap).run Tryz.prog w = .ok (.func fn first cap) w := fun _ _ _ _ => rfl
  have HQ := Lib.hid hQ
  have HK := Lib.hid hk
  clear hQ hk
  go_enter Tryz.func144, Tryz.ntmps144
  go_upto_region 1 with fail
  generalize hW : (((w.alloc _).alloc _).alloc _).alloc _ = W
  have bW : Below w.heap.size w W := by rw [← hW]; go_grown
  have sW : W.heap.size = w.heap.size + 4 := by rw [← hW]; simp
  have q0 : Blk W w.heap.size 26 #[cellsV C] := by rw [← hW]; have h := Blk.new (w) 26 #[cellsV C]; (try simp only [World.size_alloc] at h); exact (((h.alloc _).alloc _).alloc _)
  have q1 : Blk W (w.heap.size + 1) 3 #[.int .i64 x.at'] := by rw [← hW]; have h := Blk.new ((w).alloc (.cells #[cellsV C] 26)) 3 #[.int .i64 x.at']; (try simp only [World.size_alloc] at h); exact ((h.alloc _).alloc _)
  have q2 : Blk W (w.heap.size + 2) 47 #[.int .u64 x.a] := by rw [← hW]; have h := Blk.new (((w).alloc (.cells #[cellsV C] 26)).alloc (.cells #[.int .i64 x.at'] 3)) 47 #[.int .u64 x.a]; (try simp only [World.size_alloc] at h); exact (h.alloc _)
  have q3 : Blk W (w.heap.size + 3) 47 #[.int .u64 x.b] := by rw [← hW]; have h := Blk.new ((((w).alloc (.cells #[cellsV C] 26)).alloc (.cells #[.int .i64 x.at'] 3)).alloc (.cells #[.int .u64 x.a] 47)) 47 #[.int .u64 x.b]; (try simp only [World.size_alloc] at h); exact h
  clear hW
  have HO := Lib.hid (one_any 149 #[pV w.heap.size, pV (w.heap.size + 1), pV (w.heap.size + 2), pV (w.heap.size + 3)] W)
  go_wp2_with (go_at_call 109; refine HO.out.mono ?_; rintro e w1 ⟨t, b, rfl, h1, h2, h3, h4, h5⟩)
  go_ret
  refine ⟨t, b, _, _, rfl, by omega, by omega, h3, h4, ?_, bW.trans (h5.mono bW.size)⟩
  refine ⟨w.heap.size, w.heap.size + 1, HQ.out _ (by omega), HQ.out _ (by omega), q0.below h5 q0.lt, q1.below h5 q1.lt, ?_⟩
  exact .inr (.inr (.inl ⟨HK.out, rfl, w.heap.size + 2, w.heap.size + 3, rfl, HQ.out _ (by omega), HQ.out _ (by omega), q2.below h5 q2.lt, q3.below h5 q3.lt⟩))
theorem tSwap_any (C P : Nat) (Q : Nat → Prop) (x : Itm) (w : World) (hk : x.kind = 2) (hQ : ∀ k, w.heap.size ≤ k → Q k) :
    Calls Tryz.prog 144 #[cellsV C, .int .i64 x.at', .int .u64 x.a, .int .u64 x.b] w fun e w' => ∃ t, e = .returned (pV t) ∧ Made6 w C P Q [x] 0 t w' := by
  refine (tSwap_raw C Q x w (.inl hk) hQ).mono ?_
  rintro e w' ⟨t, b, F, caps, rfl, h1, h2, h3, h4, h5, h6⟩
  exact ⟨t, rfl, h1, op_task h4 h3 (hQ b h2) h5 (by omega), h6⟩
end Go.Proofs.YtpejmkoheodblaaGreat
