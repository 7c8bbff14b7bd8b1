/- Package task: tasks of one operation, made. -/
import Derived.Test.YtmknnjjmmfbppaaGreatMgBegAV
namespace Go.Proofs.YtmknnjjmmfbppaaGreat
open Go.ChangeShapes Go.WideShapes Go.ChangeAt Go.RowKit
set_option linter.unusedVariables false
set_option maxRecDepth 100000
set_option linter.unusedSimpArgs false
/-- a new task -/
def Made6 (w : World) (C P : Nat) (Q : Nat → Prop) (r : List Itm) (v : Int) (t : Nat) (w' : World) : Prop := w.heap.size ≤ t ∧ TaskC w' C P (fun b => Q b ∧ b ≠ t) t r v ∧ Below w.heap.size w w'
theorem Made6.task {w w' : World} {C P : Nat} {Q : Nat → Prop} {r : List Itm} {v : Int} {t : Nat} (h : Made6 w C P Q r v t w') : TaskC w' C P Q t r v :=
  h.2.1.keep (F := fun _ => False) (Keep.refl _ _) (fun _ _ h => h) (fun h => h) (fun b _ h => h.1)
theorem Blk.ne6 {w : World} {a b : Nat} {t u : TypeId} {xs ys : Array Value} (h1 : Blk w a t xs) (h2 : Blk w b u ys) (ht : t ≠ u) : a ≠ b := by
  rintro rfl
  have h3 : w.heap[a]? = some (.cells ys u (0, 0)) := h2
  rw [show w.heap[a]? = _ from h1] at h3
  have := Option.some.inj h3
  simp at this
  exact ht this.2
theorem op_task {w : World} {C P : Nat} {Q : Nat → Prop} {x : Itm} {t b F : Nat} {caps : Array Value} (ht : Blk w t 134 #[cloV 280 #[pV b], .pointer none, .pointer none, .int .i64 0]) (hb : Blk w b 52 #[cloV F caps]) (hq : Q b) (hc : CloAt w C Q x F caps) (h4 : x.kind ≠ 4) : TaskC w C P (fun b => Q b ∧ b ≠ t) t [x] 0 := by
  refine ⟨_, _, _, _, ht, rfl, [], [], .inl ⟨rfl, rfl⟩, .inl ⟨⟨b, F, caps, rfl, rfl, ⟨hq, hb.ne6 ht (by decide)⟩, hb, ?_⟩, .inl ⟨h4, rfl⟩⟩, rfl⟩
  obtain ⟨bc, bi, h1, h2, h3, h4, h⟩ := hc
  refine ⟨bc, bi, ⟨h1, h3.ne6 ht (by decide)⟩, ⟨h2, h4.ne6 ht (by decide)⟩, h3, h4, ?_⟩
  rcases h with h | ⟨a, b, bv, c, d, e⟩ | ⟨a, b, bo, bn, c, d, e, f, g⟩ | ⟨a, b, bv, c, d, e⟩
  · exact .inl h
  · exact .inr (.inl ⟨a, b, bv, c, ⟨d, e.ne6 ht (by decide)⟩, e⟩)
  · exact .inr (.inr (.inl ⟨a, b, bo, bn, c, ⟨d, f.ne6 ht (by decide)⟩, ⟨e, g.ne6 ht (by decide)⟩, f, g⟩))
  · exact .inr (.inr (.inr ⟨a, b, bv, c, ⟨d, e.ne6 ht (by decide)⟩, e⟩))
theorem tready_any (C P : Nat) (Q : Nat → Prop) (v : Int) (w : World) : Calls Tryz.prog 88 #[.int .i64 v] w fun e w' => ∃ t, e = .returned (pV t) ∧ Made6 w C P Q [] v t w' := by
  refine (ready_any v w).mono ?_
  rintro e w' ⟨t, rfl, h1, h2, h3⟩
  exact ⟨t, rfl, h1, ⟨_, _, _, _, h2, rfl, rfl, rfl, rfl⟩, h3⟩
theorem tpark_any (C P : Nat) (Q : Nat → Prop) (x : Itm) (w : World) (hk : x.kind = 5 ∨ x.kind = 6) (hQ : ∀ k, w.heap.size ≤ k → Q k) :
    Calls Tryz.prog 140 #[permitsV P, .int .i64 x.at', .bool (x.kind == 6)] w fun e w' => ∃ t, e = .returned (pV t) ∧ Made6 w C P Q [x] 0 t w' := by
  refine (park_any P x.at' (x.kind == 6) w).mono ?_
  rintro e w' ⟨t, k, rfl, h1, h2, h3, h4, h5⟩
  exact ⟨t, rfl, h1, ⟨_, _, _, _, h4, rfl, [], [], .inl ⟨rfl, rfl⟩, .inr ⟨hk, rfl, rfl, k, rfl, ⟨hQ k h2, h3.ne6 h4 (by decide)⟩, h3⟩, rfl⟩, h5⟩
theorem tLoad_raw (C : Nat) (Q : Nat → Prop) (x : Itm) (w : World) (hk : x.kind = 0) (hQ : ∀ k, w.heap.size ≤ k → Q k) :
    Calls Tryz.prog 242 #[cellsV C, .int .i64 x.at'] w fun e w' => ∃ t b F caps, e = .returned (pV t) ∧ w.heap.size ≤ t ∧ w.heap.size ≤ b ∧ Blk w' b 52 #[cloV F caps] ∧ Blk w' t 134 #[cloV 280 #[pV b], .pointer none, .pointer none, .int .i64 0] ∧ CloAt w' C Q x F caps ∧ Below w.heap.size w w' := by
  have hmf : ∀ (fn : Fn) (first cap : Array Value) (w : World), (Instr.makeFunc fn first cap).run Tryz.prog w = .ok (.func fn first cap) w := fun _ _ _ _ => rfl
  have HQ := Lib.hid hQ
  have HK := Lib.hid hk
  clear hQ hk
  go_enter Tryz.func242, Tryz.ntmps242
  go_upto_region 1 with fail
  generalize hW : (w.alloc _).alloc _ = W
  have bW : Below w.heap.size w W := by rw [← hW]; go_grown
  have sW : W.heap.size = w.heap.size + 2 := by rw [← hW]; simp
  have q0 : Blk W w.heap.size 36 #[cellsV C] := by rw [← hW]; have h := Blk.new (w) 36 #[cellsV C]; (try simp only [World.size_alloc] at h); exact (h.alloc _)
  have q1 : Blk W (w.heap.size + 1) 3 #[.int .i64 x.at'] := by rw [← hW]; have h := Blk.new ((w).alloc (.cells #[cellsV C] 36)) 3 #[.int .i64 x.at']; (try simp only [World.size_alloc] at h); exact h
  clear hW
  have HO := Lib.hid (one_any 282 #[pV w.heap.size, pV (w.heap.size + 1)] W)
  go_wp2_with (go_at_call 238; refine HO.out.mono ?_; rintro e w1 ⟨t, b, rfl, h1, h2, h3, h4, h5⟩)
  go_ret
  refine ⟨t, b, _, _, rfl, by omega, by omega, h3, h4, ?_, bW.trans (h5.mono bW.size)⟩
  refine ⟨w.heap.size, w.heap.size + 1, HQ.out _ (by omega), HQ.out _ (by omega), q0.below h5 q0.lt, q1.below h5 q1.lt, ?_⟩
  exact .inl ⟨HK.out, rfl, rfl⟩
theorem tLoad_any (C P : Nat) (Q : Nat → Prop) (x : Itm) (w : World) (hk : x.kind = 0) (hQ : ∀ k, w.heap.size ≤ k → Q k) :
    Calls Tryz.prog 242 #[cellsV C, .int .i64 x.at'] w fun e w' => ∃ t, e = .returned (pV t) ∧ Made6 w C P Q [x] 0 t w' := by
  refine (tLoad_raw C Q x w hk hQ).mono ?_
  rintro e w' ⟨t, b, F, caps, rfl, h1, h2, h3, h4, h5, h6⟩
  exact ⟨t, rfl, h1, op_task h4 h3 (hQ b h2) h5 (by omega), h6⟩
theorem tStore_raw (C : Nat) (Q : Nat → Prop) (x : Itm) (w : World) (hk : x.kind = 1) (hQ : ∀ k, w.heap.size ≤ k → Q k) :
    Calls Tryz.prog 198 #[cellsV C, .int .i64 x.at', .int .u64 x.a] w fun e w' => ∃ t b F caps, e = .returned (pV t) ∧ w.heap.size ≤ t ∧ w.heap.size ≤ b ∧ Blk w' b 52 #[cloV F caps] ∧ Blk w' t 134 #[cloV 280 #[pV b], .pointer none, .pointer none, .int .i64 0] ∧ CloAt w' C Q x F caps ∧ Below w.heap.size w w' := by
  have hmf : ∀ (fn : Fn) (first cap : Array Value) (w : World), (Instr.makeFunc fn first cap).run Tryz.prog w = .ok (.func fn first cap) w := fun _ _ _ _ => rfl
  have HQ := Lib.hid hQ
  have HK := Lib.hid hk
  clear hQ hk
  go_enter Tryz.func198, Tryz.ntmps198
  go_upto_region 1 with fail
  generalize hW : ((w.alloc _).alloc _).alloc _ = W
  have bW : Below w.heap.size w W := by rw [← hW]; go_grown
  have sW : W.heap.size = w.heap.size + 3 := by rw [← hW]; simp
  have q0 : Blk W w.heap.size 36 #[cellsV C] := by rw [← hW]; have h := Blk.new (w) 36 #[cellsV C]; (try simp only [World.size_alloc] at h); exact ((h.alloc _).alloc _)
  have q1 : Blk W (w.heap.size + 1) 3 #[.int .i64 x.at'] := by rw [← hW]; have h := Blk.new ((w).alloc (.cells #[cellsV C] 36)) 3 #[.int .i64 x.at']; (try simp only [World.size_alloc] at h); exact (h.alloc _)
  have q2 : Blk W (w.heap.size + 2) 55 #[.int .u64 x.a] := by rw [← hW]; have h := Blk.new (((w).alloc (.cells #[cellsV C] 36)).alloc (.cells #[.int .i64 x.at'] 3)) 55 #[.int .u64 x.a]; (try simp only [World.size_alloc] at h); exact h
  clear hW
  have HO := Lib.hid (one_any 253 #[pV w.heap.size, pV (w.heap.size + 1), pV (w.heap.size + 2)] W)
  go_wp2_with (go_at_call 238; refine HO.out.mono ?_; rintro e w1 ⟨t, b, rfl, h1, h2, h3, h4, h5⟩)
  go_ret
  refine ⟨t, b, _, _, rfl, by omega, by omega, h3, h4, ?_, bW.trans (h5.mono bW.size)⟩
  refine ⟨w.heap.size, w.heap.size + 1, HQ.out _ (by omega), HQ.out _ (by omega), q0.below h5 q0.lt, q1.below h5 q1.lt, ?_⟩
  exact .inr (.inl ⟨HK.out, rfl, w.heap.size + 2, rfl, HQ.out _ (by omega), q2.below h5 q2.lt⟩)
theorem tStore_any (C P : Nat) (Q : Nat → Prop) (x : Itm) (w : World) (hk : x.kind = 1) (hQ : ∀ k, w.heap.size ≤ k → Q k) :
    Calls Tryz.prog 198 #[cellsV C, .int .i64 x.at', .int .u64 x.a] w fun e w' => ∃ t, e = .returned (pV t) ∧ Made6 w C P Q [x] 0 t w' := by
  refine (tStore_raw C Q x w hk hQ).mono ?_
  rintro e w' ⟨t, b, F, caps, rfl, h1, h2, h3, h4, h5, h6⟩
  exact ⟨t, rfl, h1, op_task h4 h3 (hQ b h2) h5 (by omega), h6⟩
theorem tSwap_raw (C : Nat) (Q : Nat → Prop) (x : Itm) (w : World) (hk : x.kind = 2 ∨ x.kind = 4) (hQ : ∀ k, w.heap.size ≤ k → Q k) :
    Calls Tryz.prog 256 #[cellsV C, .int .i64 x.at', .int .u64 x.a, .int .u64 x.b] w fun e w' => ∃ t b F caps, e = .returned (pV t) ∧ w.heap.size ≤ t ∧ w.heap.size ≤ b ∧ Blk w' b 52 #[cloV F caps] ∧ Blk w' t 134 #[cloV 280 #[pV b], .pointer none, .pointer none, .int .i64 0] ∧ CloAt w' C Q x F caps ∧ Below w.heap.size w w' := by
  have hmf : ∀ (fn : Fn) (first cap : Array Value) (w : World), (Instr.makeFunc fn first cap).run Tryz.prog w = .ok (.func fn first cap) w := fun _ _ _ _ => rfl
  have HQ := Lib.hid hQ
  have HK := Lib.hid hk
  clear hQ hk
  go_enter Tryz.func256, Tryz.ntmps256
  go_upto_region 1 with fail
  generalize hW : (((w.alloc _).alloc _).alloc _).alloc _ = W
  have bW : Below w.heap.size w W := by rw [← hW]; go_grown
  have sW : W.heap.size = w.heap.size + 4 := by rw [← hW]; simp
  have q0 : Blk W w.heap.size 36 #[cellsV C] := by rw [← hW]; have h := Blk.new (w) 36 #[cellsV C]; (try simp only [World.size_alloc] at h); exact (((h.alloc _).alloc _).alloc _)
  have q1 : Blk W (w.heap.size + 1) 3 #[.int .i64 x.at'] := by rw [← hW]; have h := Blk.new ((w).alloc (.cells #[cellsV C] 36)) 3 #[.int .i64 x.at']; (try simp only [World.size_alloc] at h); exact ((h.alloc _).alloc _)
  have q2 : Blk W (w.heap.size + 2) 55 #[.int .u64 x.a] := by rw [← hW]; have h := Blk.new (((w).alloc (.cells #[cellsV C] 36)).alloc (.cells #[.int .i64 x.at'] 3)) 55 #[.int .u64 x.a]; (try simp only [World.size_alloc] at h); exact (h.alloc _)
  have q3 : Blk W (w.heap.size + 3) 55 #[.int .u64 x.b] := by rw [← hW]; have h := Blk.new ((((w).alloc (.cells #[cellsV C] 36)).alloc (.cells #[.int .i64 x.at'] 3)).alloc (.cells #[.int .u64 x.a] 55)) 55 #[.int .u64 x.b]; (try simp only [World.size_alloc] at h); exact h
  clear hW
  have HO := Lib.hid (one_any 286 #[pV w.heap.size, pV (w.heap.size + 1), pV (w.heap.size + 2), pV (w.heap.size + 3)] W)
  go_wp2_with (go_at_call 238; refine HO.out.mono ?_; rintro e w1 ⟨t, b, rfl, h1, h2, h3, h4, h5⟩)
  go_ret
  refine ⟨t, b, _, _, rfl, by omega, by omega, h3, h4, ?_, bW.trans (h5.mono bW.size)⟩
  refine ⟨w.heap.size, w.heap.size + 1, HQ.out _ (by omega), HQ.out _ (by omega), q0.below h5 q0.lt, q1.below h5 q1.lt, ?_⟩
  exact .inr (.inr (.inl ⟨HK.out, rfl, w.heap.size + 2, w.heap.size + 3, rfl, HQ.out _ (by omega), HQ.out _ (by omega), q2.below h5 q2.lt, q3.below h5 q3.lt⟩))
theorem tSwap_any (C P : Nat) (Q : Nat → Prop) (x : Itm) (w : World) (hk : x.kind = 2) (hQ : ∀ k, w.heap.size ≤ k → Q k) :
    Calls Tryz.prog 256 #[cellsV C, .int .i64 x.at', .int .u64 x.a, .int .u64 x.b] w fun e w' => ∃ t, e = .returned (pV t) ∧ Made6 w C P Q [x] 0 t w' := by
  refine (tSwap_raw C Q x w (.inl hk) hQ).mono ?_
  rintro e w' ⟨t, b, F, caps, rfl, h1, h2, h3, h4, h5, h6⟩
  exact ⟨t, rfl, h1, op_task h4 h3 (hQ b h2) h5 (by omega), h6⟩
end Go.Proofs.YtmknnjjmmfbppaaGreat
/- Package task: Then. -/
namespace Go.Proofs.YtmknnjjmmfbppaaGreat
open Go.ChangeShapes Go.WideShapes Go.ChangeAt Go.RowKit
set_option linter.unusedVariables false
set_option maxRecDepth 100000
set_option linter.unusedSimpArgs false
theorem Live.unique {w : World} {k : Nat} {d p r d' p' r' : Value} (h : Live w k d p r) (h' : Live w k d' p' r') : d' = d ∧ p' = p ∧ r' = r := by
  have e := (show w.heap[k]? = _ from h.blk).symm.trans h'.blk
  simp at e
  exact ⟨e.1.symm, e.2.1.symm, e.2.2.symm⟩
theorem DoneV.live {w : World} {k : Nat} {v : Int} {d p r : Value} (h : DoneV w (some ⟨k, 0, none⟩) v) (h' : Live w k d p r) : False := by
  rcases h with ⟨h, _⟩ | ⟨k', e, h⟩
  · cases h
  · obtain rfl : k = k' := by simpa using e
    have e := (show w.heap[k]? = _ from h).symm.trans h'.blk
    simp at e
    rcases h'.op with ⟨F, caps, rfl, _⟩ | ⟨q, rfl, rfl⟩
    · simp [cloV] at e
    · simp [pV] at e
theorem call_then11 : ∀ (W : World) (args : Array Value), (callFunc 136 args).run Tryz.prog W = .ok (.enter 136 args) W := by
  intro W args
  go_simp
theorem call_order1 : ∀ (W : World) (args : Array Value), (callFunc 252 args).run Tryz.prog W = .ok (.enter 252 args) W := by
  intro W args
  go_simp
theorem then11_any (f bv G : Nat) (caps : Array Value) (v : Int) (w : World) (R : Nat → World → Prop) (hf : Blk w f 157 #[cloV G caps]) (hv : Blk w bv 3 #[.int .i64 v])
    (hcall : ∀ (W : World) (args : Array Value), (callFunc G args).run Tryz.prog W = .ok (.enter G args) W)
    (hG : Calls Tryz.prog G (#[.int .i64 v] ++ caps) w fun e w' => ∃ t, e = .returned (pV t) ∧ R t w') :
    Calls Tryz.prog 136 #[pV f, pV bv] w fun e w' => ∃ t, e = .returned (pV t) ∧ R t w' := by
  have c0 : w.cell? ⟨f, 0, none⟩ = some (cloV G caps) := hf.cell 0 _ rfl
  have c1 : w.cell? ⟨bv, 0, none⟩ = some (.int .i64 v) := hv.cell 0 _ rfl
  have HG := Lib.hid hG
  clear hG hf hv
  go_enter Tryz.func136, Tryz.ntmps136
  go_wp2_with fail
  refine HG.out.mono ?_
  rintro e w2 ⟨t, rfl, hR⟩
  go_wp2_with fail
  go_ret
  exact ⟨t, rfl, hR⟩
theorem then1_any (f G : Nat) (caps : Array Value) (v : Int) (w : World) (R : Nat → World → Prop) (hf : Blk w f 157 #[cloV G caps])
    (hcall : ∀ (W : World) (args : Array Value), (callFunc G args).run Tryz.prog W = .ok (.enter G args) W)
    (hG : ∀ w1, Below w.heap.size w w1 → Calls Tryz.prog G (#[.int .i64 v] ++ caps) w1 fun e w' => ∃ t, e = .returned (pV t) ∧ R t w') :
    Calls Tryz.prog 135 #[.int .i64 v, pV f] w fun e w' => ∃ t, e = .returned (pV t) ∧ R t w' := by
  have hmf : ∀ (fn : Fn) (first cap : Array Value) (w : World), (Instr.makeFunc fn first cap).run Tryz.prog w = .ok (.func fn first cap) w := fun _ _ _ _ => rfl
  have HH := Lib.hid fun W hb hv => answerT_any 136 #[pV f, pV w.heap.size] W R call_then11 (then11_any f w.heap.size G caps v W R (hf.below hb hf.lt) hv hcall (hG W hb))
  clear hG hf hcall
  go_enter Tryz.func135, Tryz.ntmps135
  go_upto_region 1 with fail
  generalize hW : (w.alloc _) = W
  have bW : Below w.heap.size w W := by rw [← hW]; go_grown
  have q0 : Blk W w.heap.size 3 #[.int .i64 v] := by rw [← hW]; exact Blk.new w _ _
  clear hW
  have HA := Lib.hid (HH.out W bW q0)
  go_wp2_with (go_at_call 132; refine HA.out.mono ?_; rintro e w2 ⟨t, rfl, hR⟩)
  go_ret
  exact ⟨t, rfl, hR⟩
/-- a task that needs a step, and something behind it -/
theorem then_raw (k F : Nat) (caps : Array Value) (d p r : Value) (gs : List Nat) (Q : Nat → Prop) (w : World) (hL : Live w k d p r) (hT : TreeO w Q r gs) (hQ : ∀ k, w.heap.size ≤ k → Q k) :
    Calls Tryz.prog 79 #[pV k, cloV F caps] w fun e w' => ∃ t f j, e = .returned (pV t) ∧ w.heap.size ≤ t ∧ w.heap.size ≤ f ∧ Blk w' f 157 #[cloV F caps] ∧ Live w' t d p j ∧ TreeO w' (fun b => Q b ∧ b ≠ t) j (gs ++ [f]) ∧ f ≠ t ∧ Below w.heap.size w w' := by
  have hmf : ∀ (fn : Fn) (first cap : Array Value) (w : World), (Instr.makeFunc fn first cap).run Tryz.prog w = .ok (.func fn first cap) w := fun _ _ _ _ => rfl
  have HQ := Lib.hid hQ
  have HL := Lib.hid hL
  have HT := Lib.hid hT
  clear hQ hL hT
  go_enter Tryz.func79, Tryz.ntmps79
  go_upto_region 1 with fail
  generalize hW : (w.alloc _) = W
  have bW : Below w.heap.size w W := by rw [← hW]; go_grown
  have q0 : Blk W w.heap.size 157 #[cloV F caps] := by rw [← hW]; exact Blk.new w _ _
  clear hW
  go_upto_region 2 with (go_at_call 134; refine (only_any _ _ _).mono ?_; rintro e w2 ⟨lp, rfl, l1, l2, l3⟩)
  have hk := HL.out.blk.lt
  have hs2 := l3.size
  have hsW := bW.size
  generalize hW3 : (w2.alloc _) = W3
  have b3 : Below W.heap.size W W3 := by rw [← hW3]; exact l3.alloc (by omega) _
  have s3 : W3.heap.size = w2.heap.size + 1 := by rw [← hW3]; simp
  have qt : Blk W3 w2.heap.size 134 #[.nilFunc, .pointer none, pV lp, .int .i64 0] := by rw [← hW3]; exact Blk.new w2 _ _
  have ql : Blk W3 lp 249 #[.pointer none, .pointer none, cloV 135 #[pV w.heap.size]] := by rw [← hW3]; exact l2.alloc _
  have hlp := l2.lt
  clear hW3
  have bw3 : Below w.heap.size w W3 := bW.trans (b3.mono hsW)
  have qf := q0.below b3 q0.lt
  have kk : Keep (fun _ => False) w W3 := Keep.ofBelow bw3
  have L3 : Live W3 k d p r := HL.out.keep kk (fun h => h)
  have T3 : TreeO W3 (fun b => Q b ∧ b ≠ w2.heap.size) r gs := (HT.out.mono (Q' := fun b => Q b ∧ b ≠ w2.heap.size) fun b hb hq => ⟨hq, by omega⟩).keep kk (fun _ _ h => h)
  have hqf := q0.lt
  have HG := Lib.hid (goon_gen w2.heap.size (some ⟨k, 0, none⟩) .nilFunc (.pointer none) (pV lp) 0 [w.heap.size] (fun b => Q b ∧ b ≠ w2.heap.size) (fun a n fs => n = some ⟨k, 0, none⟩ ∧ fs = [w.heap.size] ∧ Live a k d p r ∧ TreeO a (fun b => Q b ∧ b ≠ w2.heap.size) r gs) W3
    qt (.inr ⟨0, lp, rfl, .leaf lp _ ⟨HQ.out _ (by omega), by omega⟩ ql⟩) (fun j hj => ⟨HQ.out _ (by omega), by omega⟩) (fun h => h.2 rfl) ⟨rfl, rfl, L3, T3⟩
    (fun a b n fs _ h hk2 => ⟨h.1, h.2.1, h.2.2.1.keep hk2 (by omega), h.2.2.2.keep hk2 (fun b hb => hb.2)⟩)
    (fun a n fs h => ⟨by rw [h.1]; intro e; injection e with e1; injection e1 with e2; omega, .inr ⟨k, d, p, r, gs, h.1, h.2.2.1, h.2.2.2⟩⟩)
    (fun a n f fs v _ h hd => by rw [h.1] at hd; exact (hd.live h.2.2.1).elim))
  clear qt ql qf
  go_wp2_with (go_at_call 87; refine HG.out.mono ?_; rintro e w4 ⟨rfl, k4, n4, fs4, ⟨rfl, rfl, L4, T4⟩, hpost⟩)
  go_ret
  rcases hpost with ⟨e, _⟩ | ⟨k5, d5, p5, r5, g5, j, e5, L5, T5, T6, B6⟩
  · cases e
  · obtain rfl : k = k5 := by simpa using e5
    obtain ⟨rfl, rfl, rfl⟩ := L4.unique L5
    obtain rfl := T4.unique T5
    have b4 : Below w.heap.size w w4 := bw3.trans (k4.below bw3.size (fun i _ h => by omega))
    refine ⟨w2.heap.size, w.heap.size, j, rfl, by omega, Nat.le_refl _, ?_, ⟨B6, L5.op⟩, T6, by omega, b4⟩
    exact (q0.below b3 q0.lt).keep k4 (by omega)
/-- a task that is done, and a last one of a list behind it -/
theorem order1_last (bl : Nat) (a : Option Addr) (cap : Nat) (v : Int) (w : World) (hb : Blk w bl 250 #[.slice a 1 cap]) :
    Calls Tryz.prog 252 #[.int .i64 v, pV bl] w fun e w' => ∃ t, e = .returned (pV t) ∧ w.heap.size ≤ t ∧ DoneV w' (some ⟨t, 0, none⟩) v ∧ Below w.heap.size w w' := by
  have c0 : w.cell? ⟨bl, 0, none⟩ = some (.slice a 1 cap) := hb.cell 0 _ rfl
  clear hb
  go_enter Tryz.func252, Tryz.ntmps252
  go_wp2_with (go_at_call 88; refine (ready_any _ _).mono ?_; rintro e w2 ⟨t, rfl, h1, h2, h3⟩)
  go_ret
  exact ⟨t, rfl, h1, .inr ⟨t, rfl, h2⟩, h3⟩
theorem then_last (n : Option Addr) (v : Int) (bl : Nat) (a : Option Addr) (cap : Nat) (Q : Nat → Prop) (w : World) (hn : DoneV w n v) (hb : Blk w bl 250 #[.slice a 1 cap]) (hQ : ∀ k, w.heap.size ≤ k → Q k) :
    Calls Tryz.prog 79 #[.pointer n, cloV 252 #[pV bl]] w fun e w' => ∃ t, e = .returned (pV t) ∧ w.heap.size ≤ t ∧ DoneV w' (some ⟨t, 0, none⟩) v ∧ Below w.heap.size w w' := by
  have hmf : ∀ (fn : Fn) (first cap : Array Value) (w : World), (Instr.makeFunc fn first cap).run Tryz.prog w = .ok (.func fn first cap) w := fun _ _ _ _ => rfl
  have HQ := Lib.hid hQ
  have HN := Lib.hid hn
  have HB := Lib.hid hb
  clear hQ hn hb
  go_enter Tryz.func79, Tryz.ntmps79
  go_upto_region 1 with fail
  generalize hW : (w.alloc _) = W
  have bW : Below w.heap.size w W := by rw [← hW]; go_grown
  have q0 : Blk W w.heap.size 157 #[cloV 252 #[pV bl]] := by rw [← hW]; exact Blk.new w _ _
  clear hW
  go_upto_region 2 with (go_at_call 134; refine (only_any _ _ _).mono ?_; rintro e w2 ⟨lp, rfl, l1, l2, l3⟩)
  have hk : ∀ k, n = some ⟨k, 0, none⟩ → k < w.heap.size := fun k e => by
    rcases HN.out with ⟨h, _⟩ | ⟨k', e', h⟩
    · rw [h] at e; cases e
    · rw [e'] at e; obtain rfl : k' = k := by simpa using e
      exact h.lt
  have hbl := HB.out.lt
  have hs2 := l3.size
  have hsW := bW.size
  generalize hW3 : (w2.alloc _) = W3
  have b3 : Below W.heap.size W W3 := by rw [← hW3]; exact l3.alloc (by omega) _
  have s3 : W3.heap.size = w2.heap.size + 1 := by rw [← hW3]; simp
  have qt : Blk W3 w2.heap.size 134 #[.nilFunc, .pointer none, pV lp, .int .i64 0] := by rw [← hW3]; exact Blk.new w2 _ _
  have ql : Blk W3 lp 249 #[.pointer none, .pointer none, cloV 135 #[pV w.heap.size]] := by rw [← hW3]; exact l2.alloc _
  have hlp := l2.lt
  clear hW3
  have bw3 : Below w.heap.size w W3 := bW.trans (b3.mono hsW)
  have qf := q0.below b3 q0.lt
  have kk : Keep (fun _ => False) w W3 := Keep.ofBelow bw3
  have hqf := q0.lt
  have HG := Lib.hid (goon_gen w2.heap.size n .nilFunc (.pointer none) (pV lp) 0 [w.heap.size] (fun b => Q b ∧ b ≠ w2.heap.size)
    (fun a' n' fs => DoneV a' n' v ∧ n' ≠ some ⟨w2.heap.size, 0, none⟩ ∧ Blk a' w.heap.size 157 #[cloV 252 #[pV bl]] ∧ Blk a' bl 250 #[.slice a 1 cap] ∧ (fs = [] ∨ fs = [w.heap.size])) W3
    qt (.inr ⟨0, lp, rfl, .leaf lp _ ⟨HQ.out _ (by omega), by omega⟩ ql⟩) (fun j hj => ⟨HQ.out _ (by omega), by omega⟩) (fun h => h.2 rfl)
    ⟨HN.out.keep kk (fun _ _ h => h), fun e => by have := hk _ e; omega, qf, HB.out.keep kk (fun h => h), .inr rfl⟩
    (fun a b n fs _ h hk2 => ⟨h.1.keep hk2 (fun k e hk3 => h.2.1 (by rw [e, hk3])), h.2.1, h.2.2.1.keep hk2 (by omega), h.2.2.2.1.keep hk2 (by omega), h.2.2.2.2⟩)
    (fun a n fs h => ⟨h.2.1, .inl ⟨v, h.1⟩⟩)
    (fun b n f fs v' hsz h hd => by
      have hv : v' = v := by
        rcases h.1 with ⟨e1, e2⟩ | ⟨k1, e1, e2⟩
        · rcases hd with ⟨e3, e4⟩ | ⟨k3, e3, e4⟩
          · rw [e4, e2]
          · rw [e1] at e3; cases e3
        · rcases hd with ⟨e3, e4⟩ | ⟨k3, e3, e4⟩
          · rw [e1] at e3; cases e3
          · rw [e1] at e3; obtain rfl : k1 = k3 := by simpa using e3
            have e := (show b.heap[k1]? = _ from e4).symm.trans e2
            simpa using e
      subst hv
      obtain ⟨h1, h2, h3, h4, h5⟩ := h
      rcases h5 with h5 | h5
      · cases h5
      · simp only [List.cons.injEq] at h5
        obtain ⟨rfl, rfl⟩ := h5
        refine (then1_any _ 252 #[pV bl] v' b (fun t w' => b.heap.size ≤ t ∧ DoneV w' (some ⟨t, 0, none⟩) v' ∧ Below b.heap.size b w') h3 call_order1 fun w1 hb1 => ?_).mono ?_
        · refine (order1_last bl a cap v' w1 (h4.below hb1 h4.lt)).mono ?_
          rintro e w' ⟨t, rfl, g1, g2, g3⟩
          have := hb1.size
          exact ⟨t, rfl, by omega, g2, hb1.trans (g3.mono this)⟩
        · rintro e w' ⟨t, rfl, g1, g2, g3⟩
          refine ⟨t, rfl, ⟨g2, fun e => ?_, h3.below g3 h3.lt, h4.below g3 h4.lt, .inl rfl⟩, g3⟩
          have : t = w2.heap.size := by injection e with e1; injection e1
          omega))
  clear qt ql qf
  go_wp2_with (go_at_call 87; refine HG.out.mono ?_; rintro e w4 ⟨rfl, k4, n4, fs4, hJ4, hpost⟩)
  go_ret
  have b4 : Below w.heap.size w w4 := bw3.trans (k4.below bw3.size (fun i _ h => by omega))
  rcases hpost with ⟨rfl, v4, hd4, B4⟩ | ⟨k5, d5, p5, r5, g5, j, rfl, L5, T5, T6, B6⟩
  · have hv : v4 = v := by
      rcases hJ4.1 with ⟨e1, e2⟩ | ⟨k1, e1, e2⟩
      · rcases hd4 with ⟨e3, e4⟩ | ⟨k3, e3, e4⟩
        · rw [e4, e2]
        · rw [e1] at e3; cases e3
      · rcases hd4 with ⟨e3, e4⟩ | ⟨k3, e3, e4⟩
        · rw [e1] at e3; cases e3
        · rw [e1] at e3; obtain rfl : k1 = k3 := by simpa using e3
          have e := (show w4.heap[k1]? = _ from e4).symm.trans e2
          simpa using e
    subst hv
    exact ⟨w2.heap.size, rfl, by omega, .inr ⟨_, rfl, B4⟩, b4⟩
  · exact (hJ4.1.live L5).elim
end Go.Proofs.YtmknnjjmmfbppaaGreat
