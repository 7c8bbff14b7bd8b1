/- Package task: operations on cells, done. -/
import Derived.Test.YtldofbkjjmnooaaGreatMgGSlD
namespace Go.Proofs.YtldofbkjjmnooaaGreat
open Go.ChangeShapes Go.WideShapes Go.ChangeAt Go.RowKit
set_option linter.unusedVariables false
set_option maxRecDepth 100000
set_option linter.unusedSimpArgs false
/-- what an operation leaves -/
def DoneOp (C S : Nat) (m : List Int) (n : Int) (x : Itm) (w : World) (v : Int) (w' : World) : Prop :=
  v = (operS m x).2.1 ∧ CellsAt w' C S (operS m x).1 (n + countS m x) ∧ Keep (ofCells C S) w w'
theorem clo_load (C S : Nat) (Q : Nat → Prop) (m : List Int) (n : Int) (x : Itm) (bc bi : Nat) (w : World) (hk : x.kind = 0) (hc : Blk w bc 26 #[cellsV C]) (hi : Blk w bi 3 #[.int .i64 x.at'])
    (hC : CellsAt w C S m n) (h0 : 0 ≤ n) (h1 : n < 9223372036854775807) :
    Calls Tryz.prog 277 #[pV bc, pV bi] w fun e w' => ∃ v, e = .returned (.int .i64 v) ∧ DoneOp C S m n x w v w' := by
  have c0 : w.cell? ⟨bc, 0, none⟩ = some (cellsV C) := hc.cell 0 _ rfl
  have c1 : w.cell? ⟨bi, 0, none⟩ = some (.int .i64 x.at') := hi.cell 0 _ rfl
  cases hx : m[x.at']? with
  | some c =>
    have HL := Lib.hid (load_yes C S m n x.at' c w hC hx h0 h1)
    have HX := Lib.hid hx
    have hlt : x.at' < m.length := (List.getElem?_eq_some_iff.1 hx).1
    have HE := Lib.hid hlt
    clear hC hx h1 hlt hc hi
    go_enter Tryz.func277, Tryz.ntmps277
    go_wp2_with (go_at_call 86; refine HL.out.mono ?_; rintro e w2 ⟨rfl, hC2, hk2⟩)
    go_ret
    refine ⟨_, rfl, ?_, ?_, hk2⟩
    · simp [operS, HX.out, hk, wrap64]
    · have := HE.out
      simpa [operS, HX.out, hk, countS, this] using hC2
  | none =>
    have hge : m.length ≤ x.at' := List.getElem?_eq_none_iff.1 hx
    have HL := Lib.hid (load_no C S m n x.at' w hC (.inr (by omega)))
    have HX := Lib.hid hx
    have HC := Lib.hid hC
    have HE := Lib.hid hge
    clear hC hx h1 hge hc hi
    go_enter Tryz.func277, Tryz.ntmps277
    go_wp2_with (go_at_call 86; refine HL.out.mono ?_; rintro e w2 ⟨rfl, hk2⟩)
    go_ret
    have hge := HE.out
    refine ⟨_, rfl, ?_, ?_, Keep.ofBelow hk2⟩
    · simp [operS, HX.out, hk, wrap64]
    · have h3 := HC.out.keep (Keep.ofBelow (Q := fun _ => False) hk2) (fun h => h) (fun h => h)
      have e1 : (operS m x).1 = m := by simp [operS, HX.out]
      have e2 : countS m x = 0 := by simp [countS]; omega
      rw [e1, e2]; simpa using h3
theorem clo_store (C S : Nat) (Q : Nat → Prop) (m : List Int) (n : Int) (x : Itm) (bc bi bv : Nat) (w : World) (hk : x.kind = 1) (hc : Blk w bc 26 #[cellsV C]) (hi : Blk w bi 3 #[.int .i64 x.at']) (hv : Blk w bv 47 #[.int .u64 x.a])
    (hC : CellsAt w C S m n) (h0 : 0 ≤ n) (h1 : n < 9223372036854775807) :
    Calls Tryz.prog 269 #[pV bc, pV bi, pV bv] w fun e w' => ∃ v, e = .returned (.int .i64 v) ∧ DoneOp C S m n x w v w' := by
  have c0 : w.cell? ⟨bc, 0, none⟩ = some (cellsV C) := hc.cell 0 _ rfl
  have c1 : w.cell? ⟨bi, 0, none⟩ = some (.int .i64 x.at') := hi.cell 0 _ rfl
  have c2 : w.cell? ⟨bv, 0, none⟩ = some (.int .u64 x.a) := hv.cell 0 _ rfl
  cases hx : m[x.at']? with
  | some c =>
    have HL := Lib.hid (store_yes C S m n x.at' c x.a w hC hx h0 h1)
    have HX := Lib.hid hx
    have HE := Lib.hid (List.getElem?_eq_some_iff.1 hx).1
    clear hC hx h1 hc hi hv
    go_enter Tryz.func269, Tryz.ntmps269
    go_wp2_with (first | (go_at_call 59; refine HL.out.mono ?_; rintro e w2 ⟨rfl, hC2, hk2⟩) | (go_at_call 219; refine (truth_any _ _).mono ?_; rintro e w3 ⟨rfl, rfl⟩))
    go_ret
    refine ⟨_, rfl, ?_, ?_, hk2⟩
    · simp [operS, HX.out, hk]
    · have := HE.out
      simpa [operS, HX.out, hk, countS, this] using hC2
  | none =>
    have hge : m.length ≤ x.at' := List.getElem?_eq_none_iff.1 hx
    have HL := Lib.hid (store_no C S m n x.at' x.a w hC (.inr (by omega)))
    have HX := Lib.hid hx
    have HC := Lib.hid hC
    have HE := Lib.hid hge
    clear hC hx h1 hge hc hi hv
    go_enter Tryz.func269, Tryz.ntmps269
    go_wp2_with (first | (go_at_call 59; refine HL.out.mono ?_; rintro e w2 ⟨rfl, hk2⟩) | (go_at_call 219; refine (truth_any _ _).mono ?_; rintro e w3 ⟨rfl, rfl⟩))
    go_ret
    have hge := HE.out
    refine ⟨_, rfl, ?_, ?_, Keep.ofBelow hk2⟩
    · simp [operS, HX.out, hk]
    · have h3 := HC.out.keep (Keep.ofBelow (Q := fun _ => False) hk2) (fun h => h) (fun h => h)
      have e1 : (operS m x).1 = m := by simp [operS, HX.out]
      have e2 : countS m x = 0 := by simp [countS]; omega
      rw [e1, e2]; simpa using h3
theorem clo_swap (C S : Nat) (Q : Nat → Prop) (m : List Int) (n : Int) (x : Itm) (bc bi bo bn : Nat) (w : World) (hk : x.kind = 2 ∨ x.kind = 4) (hc : Blk w bc 26 #[cellsV C]) (hi : Blk w bi 3 #[.int .i64 x.at']) (hv : Blk w bo 47 #[.int .u64 x.a]) (hv2 : Blk w bn 47 #[.int .u64 x.b])
    (hC : CellsAt w C S m n) (h0 : 0 ≤ n) (h1 : n < 9223372036854775807) :
    Calls Tryz.prog 288 #[pV bc, pV bi, pV bo, pV bn] w fun e w' => ∃ v, e = .returned (.int .i64 v) ∧ DoneOp C S m n x w v w' := by
  have c0 : w.cell? ⟨bc, 0, none⟩ = some (cellsV C) := hc.cell 0 _ rfl
  have c1 : w.cell? ⟨bi, 0, none⟩ = some (.int .i64 x.at') := hi.cell 0 _ rfl
  have c2 : w.cell? ⟨bo, 0, none⟩ = some (.int .u64 x.a) := hv.cell 0 _ rfl
  have c3 : w.cell? ⟨bn, 0, none⟩ = some (.int .u64 x.b) := hv2.cell 0 _ rfl
  have HK := Lib.hid hk
  have e13 : x.kind ≠ 1 ∧ x.kind ≠ 3 := by omega
  cases hx : m[x.at']? with
  | some c =>
    have HX := Lib.hid hx
    have HE := Lib.hid (List.getElem?_eq_some_iff.1 hx).1
    by_cases hca : c = x.a
    · have HL := Lib.hid (swap_yes C S m n x.at' x.a x.b w hC (by rw [hx, hca]) h0 h1)
      have HA := Lib.hid hca
      have HN := Lib.hid e13
      clear hC hx h1 hc hi hv hv2 hca hk e13
      go_enter Tryz.func288, Tryz.ntmps288
      go_wp2_with (first | (go_at_call 289; refine HL.out.mono ?_; rintro e w2 ⟨rfl, hC2, hk2⟩) | (go_at_call 219; refine (truth_any _ _).mono ?_; rintro e w3 ⟨rfl, rfl⟩))
      go_ret
      refine ⟨_, rfl, ?_, ?_, hk2⟩
      · simp [operS, HX.out, HK.out, HN.out, HA.out]
      · rw [show (operS m x).1 = m.set x.at' x.b by simp [operS, HX.out, HK.out, HN.out, HA.out], show countS m x = 1 by simp [countS, HE.out]]; exact hC2
    · have HL := Lib.hid (swap_other C S m n x.at' c x.a x.b w hC hx hca h0 h1)
      have HA := Lib.hid hca
      have HN := Lib.hid e13
      clear hC hx h1 hc hi hv hv2 hca hk e13
      go_enter Tryz.func288, Tryz.ntmps288
      go_wp2_with (first | (go_at_call 289; refine HL.out.mono ?_; rintro e w2 ⟨rfl, hC2, hk2⟩) | (go_at_call 219; refine (truth_any _ _).mono ?_; rintro e w3 ⟨rfl, rfl⟩))
      go_ret
      refine ⟨_, rfl, ?_, ?_, hk2⟩
      · simp [operS, HX.out, HK.out, HN.out, HA.out]
      · rw [show (operS m x).1 = m by simp [operS, HX.out, HK.out, HN.out, HA.out], show countS m x = 1 by simp [countS, HE.out]]; exact hC2
  | none =>
    have hge : m.length ≤ x.at' := List.getElem?_eq_none_iff.1 hx
    have HL := Lib.hid (swap_no C S m n x.at' x.a x.b w hC (.inr (by omega)))
    have HX := Lib.hid hx
    have HC := Lib.hid hC
    have HE := Lib.hid hge
    clear hC hx h1 hge hc hi hv hv2 hk e13
    go_enter Tryz.func288, Tryz.ntmps288
    go_wp2_with (first | (go_at_call 289; refine HL.out.mono ?_; rintro e w2 ⟨rfl, hk2⟩) | (go_at_call 219; refine (truth_any _ _).mono ?_; rintro e w3 ⟨rfl, rfl⟩))
    go_ret
    have hge := HE.out
    refine ⟨_, rfl, ?_, ?_, Keep.ofBelow hk2⟩
    · simp [operS, HX.out]
    · have h3 := HC.out.keep (Keep.ofBelow (Q := fun _ => False) hk2) (fun h => h) (fun h => h)
      have e1 : (operS m x).1 = m := by simp [operS, HX.out]
      have e2 : countS m x = 0 := by simp [countS]; omega
      rw [e1, e2]; simpa using h3
theorem call_load1 : ∀ (W : World) (args : Array Value), (callFunc 277 args).run Tryz.prog W = .ok (.enter 277 args) W := by
  intro W args
  go_simp
theorem call_store1 : ∀ (W : World) (args : Array Value), (callFunc 269 args).run Tryz.prog W = .ok (.enter 269 args) W := by
  intro W args
  go_simp
theorem call_swap1 : ∀ (W : World) (args : Array Value), (callFunc 288 args).run Tryz.prog W = .ok (.enter 288 args) W := by
  intro W args
  go_simp
/-- what a task's 'do' does -/
theorem do6_any (C S : Nat) (Q : Nat → Prop) (m : List Int) (n : Int) (x : Itm) (b F : Nat) (caps : Array Value) (w : World) (hb : Blk w b 28 #[cloV F caps]) (hx : CloAt w C Q x F caps)
    (hC : CellsAt w C S m n) (h0 : 0 ≤ n) (h1 : n < 9223372036854775807) :
    Calls Tryz.prog 260 #[pV b] w fun e w' => ∃ v, e = .returned (.int .i64 v) ∧ DoneOp C S m n x w v w' := by
  have c0 : w.cell? ⟨b, 0, none⟩ = some (cloV F caps) := hb.cell 0 _ rfl
  have HH : Hid (Calls Tryz.prog 261 #[cloV F caps] w fun e w' => ∃ v, e = .returned (.int .i64 v) ∧ DoneOp C S m n x w v w') := by
    refine Lib.hid ?_
    obtain ⟨bc, bi, _, _, hc, hi, ⟨hk, rfl, rfl⟩ | ⟨hk, rfl, bv, rfl, _, hv⟩ | ⟨hk, rfl, bo, bn, rfl, _, _, hv, hv2⟩ | ⟨hk, hno, bv, rfl, _, hv⟩⟩ := hx
    · exact answerI_any _ _ w (DoneOp C S m n x w) call_load1 (clo_load C S Q m n x bc bi w hk hc hi hC h0 h1)
    · exact answerI_any _ _ w (DoneOp C S m n x w) call_store1 (clo_store C S Q m n x bc bi bv w hk hc hi hv hC h0 h1)
    · exact answerI_any _ _ w (DoneOp C S m n x w) call_swap1 (clo_swap C S Q m n x bc bi bo bn w hk hc hi hv hv2 hC h0 h1)
    · exact hno.elim
  clear hx hC h1 hb
  go_enter Tryz.func260, Tryz.ntmps260
  go_wp2_with (go_at_call 261; refine HH.out.mono ?_; rintro e w2 ⟨v, rfl, hp⟩)
  go_ret
  exact ⟨v, rfl, hp⟩
end Go.Proofs.YtldofbkjjmnooaaGreat
/- Package task: tasks of one operation, made. -/
namespace Go.Proofs.YtldofbkjjmnooaaGreat
open Go.ChangeShapes Go.WideShapes Go.ChangeAt Go.RowKit
set_option linter.unusedVariables false
set_option maxRecDepth 100000
set_option linter.unusedSimpArgs false
/-- a new task -/
def Made6 (w : World) (C P : Nat) (Q : Nat → Prop) (r : List Itm) (v : Int) (t : Nat) (w' : World) : Prop := w.heap.size ≤ t ∧ TaskC w' C P (fun b => Q b ∧ b ≠ t) t r v ∧ Below w.heap.size w w'
theorem Made6.task {w w' : World} {C P : Nat} {Q : Nat → Prop} {r : List Itm} {v : Int} {t : Nat} (h : Made6 w C P Q r v t w') : TaskC w' C P Q t r v :=
  h.2.1.keep (F := fun _ => False) (Keep.refl _ _) (fun _ _ h => h) (fun h => h) (fun b _ h => h.1)
theorem Blk.ne6 {w : World} {a b : Nat} {t u : TypeId} {xs ys : Array Value} (h1 : Blk w a t xs) (h2 : Blk w b u ys) (ht : t ≠ u) : a ≠ b := by
  rintro rfl
  have h3 : w.heap[a]? = some (.cells ys u (0, 0)) := h2
  rw [show w.heap[a]? = _ from h1] at h3
  have := Option.some.inj h3
  simp at this
  exact ht this.2
theorem op_task {w : World} {C P : Nat} {Q : Nat → Prop} {x : Itm} {t b F : Nat} {caps : Array Value} (ht : Blk w t 161 #[cloV 260 #[pV b], .pointer none, .pointer none, .int .i64 0]) (hb : Blk w b 28 #[cloV F caps]) (hq : Q b) (hc : CloAt w C Q x F caps) (h4 : x.kind ≠ 4) : TaskC w C P (fun b => Q b ∧ b ≠ t) t [x] 0 := by
  refine ⟨_, _, _, _, ht, rfl, [], [], .inl ⟨rfl, rfl⟩, .inl ⟨⟨b, F, caps, rfl, rfl, ⟨hq, hb.ne6 ht (by decide)⟩, hb, ?_⟩, .inl ⟨h4, rfl⟩⟩, rfl⟩
  obtain ⟨bc, bi, h1, h2, h3, h4, h⟩ := hc
  refine ⟨bc, bi, ⟨h1, h3.ne6 ht (by decide)⟩, ⟨h2, h4.ne6 ht (by decide)⟩, h3, h4, ?_⟩
  rcases h with h | ⟨a, b, bv, c, d, e⟩ | ⟨a, b, bo, bn, c, d, e, f, g⟩ | ⟨a, b, bv, c, d, e⟩
  · exact .inl h
  · exact .inr (.inl ⟨a, b, bv, c, ⟨d, e.ne6 ht (by decide)⟩, e⟩)
  · exact .inr (.inr (.inl ⟨a, b, bo, bn, c, ⟨d, f.ne6 ht (by decide)⟩, ⟨e, g.ne6 ht (by decide)⟩, f, g⟩))
  · exact .inr (.inr (.inr ⟨a, b, bv, c, ⟨d, e.ne6 ht (by decide)⟩, e⟩))
theorem tready_any (C P : Nat) (Q : Nat → Prop) (v : Int) (w : World) : Calls Tryz.prog 102 #[.int .i64 v] w fun e w' => ∃ t, e = .returned (pV t) ∧ Made6 w C P Q [] v t w' := by
  refine (ready_any v w).mono ?_
  rintro e w' ⟨t, rfl, h1, h2, h3⟩
  exact ⟨t, rfl, h1, ⟨_, _, _, _, h2, rfl, rfl, rfl, rfl⟩, h3⟩
theorem tpark_any (C P : Nat) (Q : Nat → Prop) (x : Itm) (w : World) (hk : x.kind = 5 ∨ x.kind = 6) (hQ : ∀ k, w.heap.size ≤ k → Q k) :
    Calls Tryz.prog 140 #[permitsV P, .int .i64 x.at', .bool (x.kind == 6)] w fun e w' => ∃ t, e = .returned (pV t) ∧ Made6 w C P Q [x] 0 t w' := by
  refine (park_any P x.at' (x.kind == 6) w).mono ?_
  rintro e w' ⟨t, k, rfl, h1, h2, h3, h4, h5⟩
  exact ⟨t, rfl, h1, ⟨_, _, _, _, h4, rfl, [], [], .inl ⟨rfl, rfl⟩, .inr ⟨hk, rfl, rfl, k, rfl, ⟨hQ k h2, h3.ne6 h4 (by decide)⟩, h3⟩, rfl⟩, h5⟩
theorem tLoad_raw (C : Nat) (Q : Nat → Prop) (x : Itm) (w : World) (hk : x.kind = 0) (hQ : ∀ k, w.heap.size ≤ k → Q k) :
    Calls Tryz.prog 193 #[cellsV C, .int .i64 x.at'] w fun e w' => ∃ t b F caps, e = .returned (pV t) ∧ w.heap.size ≤ t ∧ w.heap.size ≤ b ∧ Blk w' b 28 #[cloV F caps] ∧ Blk w' t 161 #[cloV 260 #[pV b], .pointer none, .pointer none, .int .i64 0] ∧ CloAt w' C Q x F caps ∧ Below w.heap.size w w' := by
  have hmf : ∀ (fn : Fn) (first cap : Array Value) (w : World), (Instr.makeFunc fn first cap).run Tryz.prog w = .ok (.func fn first cap) w := fun _ _ _ _ => rfl
  have HQ := Lib.hid hQ
  have HK := Lib.hid hk
  clear hQ hk
  go_enter Tryz.func193, Tryz.ntmps193
  go_upto_region 1 with fail
  generalize hW : (w.alloc _).alloc _ = W
  have bW : Below w.heap.size w W := by rw [← hW]; go_grown
  have sW : W.heap.size = w.heap.size + 2 := by rw [← hW]; simp
  have q0 : Blk W w.heap.size 26 #[cellsV C] := by rw [← hW]; have h := Blk.new (w) 26 #[cellsV C]; (try simp only [World.size_alloc] at h); exact (h.alloc _)
  have q1 : Blk W (w.heap.size + 1) 3 #[.int .i64 x.at'] := by rw [← hW]; have h := Blk.new ((w).alloc (.cells #[cellsV C] 26)) 3 #[.int .i64 x.at']; (try simp only [World.size_alloc] at h); exact h
  clear hW
  have HO := Lib.hid (one_any 277 #[pV w.heap.size, pV (w.heap.size + 1)] W)
  go_wp2_with (go_at_call 167; refine HO.out.mono ?_; rintro e w1 ⟨t, b, rfl, h1, h2, h3, h4, h5⟩)
  go_ret
  refine ⟨t, b, _, _, rfl, by omega, by omega, h3, h4, ?_, bW.trans (h5.mono bW.size)⟩
  refine ⟨w.heap.size, w.heap.size + 1, HQ.out _ (by omega), HQ.out _ (by omega), q0.below h5 q0.lt, q1.below h5 q1.lt, ?_⟩
  exact .inl ⟨HK.out, rfl, rfl⟩
theorem tLoad_any (C P : Nat) (Q : Nat → Prop) (x : Itm) (w : World) (hk : x.kind = 0) (hQ : ∀ k, w.heap.size ≤ k → Q k) :
    Calls Tryz.prog 193 #[cellsV C, .int .i64 x.at'] w fun e w' => ∃ t, e = .returned (pV t) ∧ Made6 w C P Q [x] 0 t w' := by
  refine (tLoad_raw C Q x w hk hQ).mono ?_
  rintro e w' ⟨t, b, F, caps, rfl, h1, h2, h3, h4, h5, h6⟩
  exact ⟨t, rfl, h1, op_task h4 h3 (hQ b h2) h5 (by omega), h6⟩
theorem tStore_raw (C : Nat) (Q : Nat → Prop) (x : Itm) (w : World) (hk : x.kind = 1) (hQ : ∀ k, w.heap.size ≤ k → Q k) :
    Calls Tryz.prog 178 #[cellsV C, .int .i64 x.at', .int .u64 x.a] w fun e w' => ∃ t b F caps, e = .returned (pV t) ∧ w.heap.size ≤ t ∧ w.heap.size ≤ b ∧ Blk w' b 28 #[cloV F caps] ∧ Blk w' t 161 #[cloV 260 #[pV b], .pointer none, .pointer none, .int .i64 0] ∧ CloAt w' C Q x F caps ∧ Below w.heap.size w w' := by
  have hmf : ∀ (fn : Fn) (first cap : Array Value) (w : World), (Instr.makeFunc fn first cap).run Tryz.prog w = .ok (.func fn first cap) w := fun _ _ _ _ => rfl
  have HQ := Lib.hid hQ
  have HK := Lib.hid hk
  clear hQ hk
  go_enter Tryz.func178, Tryz.ntmps178
  go_upto_region 1 with fail
  generalize hW : ((w.alloc _).alloc _).alloc _ = W
  have bW : Below w.heap.size w W := by rw [← hW]; go_grown
  have sW : W.heap.size = w.heap.size + 3 := by rw [← hW]; simp
  have q0 : Blk W w.heap.size 26 #[cellsV C] := by rw [← hW]; have h := Blk.new (w) 26 #[cellsV C]; (try simp only [World.size_alloc] at h); exact ((h.alloc _).alloc _)
  have q1 : Blk W (w.heap.size + 1) 3 #[.int .i64 x.at'] := by rw [← hW]; have h := Blk.new ((w).alloc (.cells #[cellsV C] 26)) 3 #[.int .i64 x.at']; (try simp only [World.size_alloc] at h); exact (h.alloc _)
  have q2 : Blk W (w.heap.size + 2) 47 #[.int .u64 x.a] := by rw [← hW]; have h := Blk.new (((w).alloc (.cells #[cellsV C] 26)).alloc (.cells #[.int .i64 x.at'] 3)) 47 #[.int .u64 x.a]; (try simp only [World.size_alloc] at h); exact h
  clear hW
  have HO := Lib.hid (one_any 269 #[pV w.heap.size, pV (w.heap.size + 1), pV (w.heap.size + 2)] W)
  go_wp2_with (go_at_call 167; refine HO.out.mono ?_; rintro e w1 ⟨t, b, rfl, h1, h2, h3, h4, h5⟩)
  go_ret
  refine ⟨t, b, _, _, rfl, by omega, by omega, h3, h4, ?_, bW.trans (h5.mono bW.size)⟩
  refine ⟨w.heap.size, w.heap.size + 1, HQ.out _ (by omega), HQ.out _ (by omega), q0.below h5 q0.lt, q1.below h5 q1.lt, ?_⟩
  exact .inr (.inl ⟨HK.out, rfl, w.heap.size + 2, rfl, HQ.out _ (by omega), q2.below h5 q2.lt⟩)
theorem tStore_any (C P : Nat) (Q : Nat → Prop) (x : Itm) (w : World) (hk : x.kind = 1) (hQ : ∀ k, w.heap.size ≤ k → Q k) :
    Calls Tryz.prog 178 #[cellsV C, .int .i64 x.at', .int .u64 x.a] w fun e w' => ∃ t, e = .returned (pV t) ∧ Made6 w C P Q [x] 0 t w' := by
  refine (tStore_raw C Q x w hk hQ).mono ?_
  rintro e w' ⟨t, b, F, caps, rfl, h1, h2, h3, h4, h5, h6⟩
  exact ⟨t, rfl, h1, op_task h4 h3 (hQ b h2) h5 (by omega), h6⟩
theorem tSwap_raw (C : Nat) (Q : Nat → Prop) (x : Itm) (w : World) (hk : x.kind = 2 ∨ x.kind = 4) (hQ : ∀ k, w.heap.size ≤ k → Q k) :
    Calls Tryz.prog 217 #[cellsV C, .int .i64 x.at', .int .u64 x.a, .int .u64 x.b] w fun e w' => ∃ t b F caps, e = .returned (pV t) ∧ w.heap.size ≤ t ∧ w.heap.size ≤ b ∧ Blk w' b 28 #[cloV F caps] ∧ Blk w' t 161 #[cloV 260 #[pV b], .pointer none, .pointer none, .int .i64 0] ∧ CloAt w' C Q x F caps ∧ Below w.heap.size w w' := by
  have hmf : ∀ (fn : Fn) (first cap : Array Value) (w : World), (Instr.makeFunc fn first cap).run Tryz.prog w = .ok (.func fn first cap) w := fun _ _ _ _ => rfl
  have HQ := Lib.hid hQ
  have HK := Lib.hid hk
  clear hQ hk
  go_enter Tryz.func217, Tryz.ntmps217
  go_upto_region 1 with fail
  generalize hW : (((w.alloc _).alloc _).alloc _).alloc _ = W
  have bW : Below w.heap.size w W := by rw [← hW]; go_grown
  have sW : W.heap.size = w.heap.size + 4 := by rw [← hW]; simp
  have q0 : Blk W w.heap.size 26 #[cellsV C] := by rw [← hW]; have h := Blk.new (w) 26 #[cellsV C]; (try simp only [World.size_alloc] at h); exact (((h.alloc _).alloc _).alloc _)
  have q1 : Blk W (w.heap.size + 1) 3 #[.int .i64 x.at'] := by rw [← hW]; have h := Blk.new ((w).alloc (.cells #[cellsV C] 26)) 3 #[.int .i64 x.at']; (try simp only [World.size_alloc] at h); exact ((h.alloc _).alloc _)
  have q2 : Blk W (w.heap.size + 2) 47 #[.int .u64 x.a] := by rw [← hW]; have h := Blk.new (((w).alloc (.cells #[cellsV C] 26)).alloc (.cells #[.int .i64 x.at'] 3)) 47 #[.int .u64 x.a]; (try simp only [World.size_alloc] at h); exact (h.alloc _)
  have q3 : Blk W (w.heap.size + 3) 47 #[.int .u64 x.b] := by rw [← hW]; have h := Blk.new ((((w).alloc (.cells #[cellsV C] 26)).alloc (.cells #[.int .i64 x.at'] 3)).alloc (.cells #[.int .u64 x.a] 47)) 47 #[.int .u64 x.b]; (try simp only [World.size_alloc] at h); exact h
  clear hW
  have HO := Lib.hid (one_any 288 #[pV w.heap.size, pV (w.heap.size + 1), pV (w.heap.size + 2), pV (w.heap.size + 3)] W)
  go_wp2_with (go_at_call 167; refine HO.out.mono ?_; rintro e w1 ⟨t, b, rfl, h1, h2, h3, h4, h5⟩)
  go_ret
  refine ⟨t, b, _, _, rfl, by omega, by omega, h3, h4, ?_, bW.trans (h5.mono bW.size)⟩
  refine ⟨w.heap.size, w.heap.size + 1, HQ.out _ (by omega), HQ.out _ (by omega), q0.below h5 q0.lt, q1.below h5 q1.lt, ?_⟩
  exact .inr (.inr (.inl ⟨HK.out, rfl, w.heap.size + 2, w.heap.size + 3, rfl, HQ.out _ (by omega), HQ.out _ (by omega), q2.below h5 q2.lt, q3.below h5 q3.lt⟩))
theorem tSwap_any (C P : Nat) (Q : Nat → Prop) (x : Itm) (w : World) (hk : x.kind = 2) (hQ : ∀ k, w.heap.size ≤ k → Q k) :
    Calls Tryz.prog 217 #[cellsV C, .int .i64 x.at', .int .u64 x.a, .int .u64 x.b] w fun e w' => ∃ t, e = .returned (pV t) ∧ Made6 w C P Q [x] 0 t w' := by
  refine (tSwap_raw C Q x w (.inl hk) hQ).mono ?_
  rintro e w' ⟨t, b, F, caps, rfl, h1, h2, h3, h4, h5, h6⟩
  exact ⟨t, rfl, h1, op_task h4 h3 (hQ b h2) h5 (by omega), h6⟩
end Go.Proofs.YtldofbkjjmnooaaGreat
/- Package task: Then. -/
namespace Go.Proofs.YtldofbkjjmnooaaGreat
open Go.ChangeShapes Go.WideShapes Go.ChangeAt Go.RowKit
set_option linter.unusedVariables false
set_option maxRecDepth 100000
set_option linter.unusedSimpArgs false
theorem Live.unique {w : World} {k : Nat} {d p r d' p' r' : Value} (h : Live w k d p r) (h' : Live w k d' p' r') : d' = d ∧ p' = p ∧ r' = r := by
  have e := (show w.heap[k]? = _ from h.blk).symm.trans h'.blk
  simp at e
  exact ⟨e.1.symm, e.2.1.symm, e.2.2.symm⟩
theorem DoneV.live {w : World} {k : Nat} {v : Int} {d p r : Value} (h : DoneV w (some ⟨k, 0, none⟩) v) (h' : Live w k d p r) : False := by
  rcases h with ⟨h, _⟩ | ⟨k', e, h⟩
  · cases h
  · obtain rfl : k = k' := by simpa using e
    have e := (show w.heap[k]? = _ from h).symm.trans h'.blk
    simp at e
    rcases h'.op with ⟨F, caps, rfl, _⟩ | ⟨q, rfl, rfl⟩
    · simp [cloV] at e
    · simp [pV] at e
theorem call_then11 : ∀ (W : World) (args : Array Value), (callFunc 223 args).run Tryz.prog W = .ok (.enter 223 args) W := by
  intro W args
  go_simp
theorem call_order1 : ∀ (W : World) (args : Array Value), (callFunc 291 args).run Tryz.prog W = .ok (.enter 291 args) W := by
  intro W args
  go_simp
theorem then11_any (f bv G : Nat) (caps : Array Value) (v : Int) (w : World) (R : Nat → World → Prop) (hf : Blk w f 89 #[cloV G caps]) (hv : Blk w bv 3 #[.int .i64 v])
    (hcall : ∀ (W : World) (args : Array Value), (callFunc G args).run Tryz.prog W = .ok (.enter G args) W)
    (hG : Calls Tryz.prog G (#[.int .i64 v] ++ caps) w fun e w' => ∃ t, e = .returned (pV t) ∧ R t w') :
    Calls Tryz.prog 223 #[pV f, pV bv] w fun e w' => ∃ t, e = .returned (pV t) ∧ R t w' := by
  have c0 : w.cell? ⟨f, 0, none⟩ = some (cloV G caps) := hf.cell 0 _ rfl
  have c1 : w.cell? ⟨bv, 0, none⟩ = some (.int .i64 v) := hv.cell 0 _ rfl
  have HG := Lib.hid hG
  clear hG hf hv
  go_enter Tryz.func223, Tryz.ntmps223
  go_wp2_with fail
  refine HG.out.mono ?_
  rintro e w2 ⟨t, rfl, hR⟩
  go_wp2_with fail
  go_ret
  exact ⟨t, rfl, hR⟩
theorem then1_any (f G : Nat) (caps : Array Value) (v : Int) (w : World) (R : Nat → World → Prop) (hf : Blk w f 89 #[cloV G caps])
    (hcall : ∀ (W : World) (args : Array Value), (callFunc G args).run Tryz.prog W = .ok (.enter G args) W)
    (hG : ∀ w1, Below w.heap.size w w1 → Calls Tryz.prog G (#[.int .i64 v] ++ caps) w1 fun e w' => ∃ t, e = .returned (pV t) ∧ R t w') :
    Calls Tryz.prog 221 #[.int .i64 v, pV f] w fun e w' => ∃ t, e = .returned (pV t) ∧ R t w' := by
  have hmf : ∀ (fn : Fn) (first cap : Array Value) (w : World), (Instr.makeFunc fn first cap).run Tryz.prog w = .ok (.func fn first cap) w := fun _ _ _ _ => rfl
  have HH := Lib.hid fun W hb hv => answerT_any 223 #[pV f, pV w.heap.size] W R call_then11 (then11_any f w.heap.size G caps v W R (hf.below hb hf.lt) hv hcall (hG W hb))
  clear hG hf hcall
  go_enter Tryz.func221, Tryz.ntmps221
  go_upto_region 1 with fail
  generalize hW : (w.alloc _) = W
  have bW : Below w.heap.size w W := by rw [← hW]; go_grown
  have q0 : Blk W w.heap.size 3 #[.int .i64 v] := by rw [← hW]; exact Blk.new w _ _
  clear hW
  have HA := Lib.hid (HH.out W bW q0)
  go_wp2_with (go_at_call 222; refine HA.out.mono ?_; rintro e w2 ⟨t, rfl, hR⟩)
  go_ret
  exact ⟨t, rfl, hR⟩
/-- a task that needs a step, and something behind it -/
theorem then_raw (k F : Nat) (caps : Array Value) (d p r : Value) (gs : List Nat) (Q : Nat → Prop) (w : World) (hL : Live w k d p r) (hT : TreeO w Q r gs) (hQ : ∀ k, w.heap.size ≤ k → Q k) :
    Calls Tryz.prog 137 #[pV k, cloV F caps] w fun e w' => ∃ t f j, e = .returned (pV t) ∧ w.heap.size ≤ t ∧ w.heap.size ≤ f ∧ Blk w' f 89 #[cloV F caps] ∧ Live w' t d p j ∧ TreeO w' (fun b => Q b ∧ b ≠ t) j (gs ++ [f]) ∧ f ≠ t ∧ Below w.heap.size w w' := by
  have hmf : ∀ (fn : Fn) (first cap : Array Value) (w : World), (Instr.makeFunc fn first cap).run Tryz.prog w = .ok (.func fn first cap) w := fun _ _ _ _ => rfl
  have HQ := Lib.hid hQ
  have HL := Lib.hid hL
  have HT := Lib.hid hT
  clear hQ hL hT
  go_enter Tryz.func137, Tryz.ntmps137
  go_upto_region 1 with fail
  generalize hW : (w.alloc _) = W
  have bW : Below w.heap.size w W := by rw [← hW]; go_grown
  have q0 : Blk W w.heap.size 89 #[cloV F caps] := by rw [← hW]; exact Blk.new w _ _
  clear hW
  go_upto_region 2 with (go_at_call 220; refine (only_any _ _ _).mono ?_; rintro e w2 ⟨lp, rfl, l1, l2, l3⟩)
  have hk := HL.out.blk.lt
  have hs2 := l3.size
  have hsW := bW.size
  generalize hW3 : (w2.alloc _) = W3
  have b3 : Below W.heap.size W W3 := by rw [← hW3]; exact l3.alloc (by omega) _
  have s3 : W3.heap.size = w2.heap.size + 1 := by rw [← hW3]; simp
  have qt : Blk W3 w2.heap.size 161 #[.nilFunc, .pointer none, pV lp, .int .i64 0] := by rw [← hW3]; exact Blk.new w2 _ _
  have ql : Blk W3 lp 305 #[.pointer none, .pointer none, cloV 221 #[pV w.heap.size]] := by rw [← hW3]; exact l2.alloc _
  have hlp := l2.lt
  clear hW3
  have bw3 : Below w.heap.size w W3 := bW.trans (b3.mono hsW)
  have qf := q0.below b3 q0.lt
  have kk : Keep (fun _ => False) w W3 := Keep.ofBelow bw3
  have L3 : Live W3 k d p r := HL.out.keep kk (fun h => h)
  have T3 : TreeO W3 (fun b => Q b ∧ b ≠ w2.heap.size) r gs := (HT.out.mono (Q' := fun b => Q b ∧ b ≠ w2.heap.size) fun b hb hq => ⟨hq, by omega⟩).keep kk (fun _ _ h => h)
  have hqf := q0.lt
  have HG := Lib.hid (goon_gen w2.heap.size (some ⟨k, 0, none⟩) .nilFunc (.pointer none) (pV lp) 0 [w.heap.size] (fun b => Q b ∧ b ≠ w2.heap.size) (fun a n fs => n = some ⟨k, 0, none⟩ ∧ fs = [w.heap.size] ∧ Live a k d p r ∧ TreeO a (fun b => Q b ∧ b ≠ w2.heap.size) r gs) W3
    qt (.inr ⟨0, lp, rfl, .leaf lp _ ⟨HQ.out _ (by omega), by omega⟩ ql⟩) (fun j hj => ⟨HQ.out _ (by omega), by omega⟩) (fun h => h.2 rfl) ⟨rfl, rfl, L3, T3⟩
    (fun a b n fs _ h hk2 => ⟨h.1, h.2.1, h.2.2.1.keep hk2 (by omega), h.2.2.2.keep hk2 (fun b hb => hb.2)⟩)
    (fun a n fs h => ⟨by rw [h.1]; intro e; injection e with e1; injection e1 with e2; omega, .inr ⟨k, d, p, r, gs, h.1, h.2.2.1, h.2.2.2⟩⟩)
    (fun a n f fs v _ h hd => by rw [h.1] at hd; exact (hd.live h.2.2.1).elim))
  clear qt ql qf
  go_wp2_with (go_at_call 119; refine HG.out.mono ?_; rintro e w4 ⟨rfl, k4, n4, fs4, ⟨rfl, rfl, L4, T4⟩, hpost⟩)
  go_ret
  rcases hpost with ⟨e, _⟩ | ⟨k5, d5, p5, r5, g5, j, e5, L5, T5, T6, B6⟩
  · cases e
  · obtain rfl : k = k5 := by simpa using e5
    obtain ⟨rfl, rfl, rfl⟩ := L4.unique L5
    obtain rfl := T4.unique T5
    have b4 : Below w.heap.size w w4 := bw3.trans (k4.below bw3.size (fun i _ h => by omega))
    refine ⟨w2.heap.size, w.heap.size, j, rfl, by omega, Nat.le_refl _, ?_, ⟨B6, L5.op⟩, T6, by omega, b4⟩
    exact (q0.below b3 q0.lt).keep k4 (by omega)
/-- a task that is done, and a last one of a list behind it -/
theorem order1_last (bl : Nat) (a : Option Addr) (cap : Nat) (v : Int) (w : World) (hb : Blk w bl 54 #[.slice a 1 cap]) :
    Calls Tryz.prog 291 #[.int .i64 v, pV bl] w fun e w' => ∃ t, e = .returned (pV t) ∧ w.heap.size ≤ t ∧ DoneV w' (some ⟨t, 0, none⟩) v ∧ Below w.heap.size w w' := by
  have c0 : w.cell? ⟨bl, 0, none⟩ = some (.slice a 1 cap) := hb.cell 0 _ rfl
  clear hb
  go_enter Tryz.func291, Tryz.ntmps291
  go_wp2_with (go_at_call 102; refine (ready_any _ _).mono ?_; rintro e w2 ⟨t, rfl, h1, h2, h3⟩)
  go_ret
  exact ⟨t, rfl, h1, .inr ⟨t, rfl, h2⟩, h3⟩
theorem then_last (n : Option Addr) (v : Int) (bl : Nat) (a : Option Addr) (cap : Nat) (Q : Nat → Prop) (w : World) (hn : DoneV w n v) (hb : Blk w bl 54 #[.slice a 1 cap]) (hQ : ∀ k, w.heap.size ≤ k → Q k) :
    Calls Tryz.prog 137 #[.pointer n, cloV 291 #[pV bl]] w fun e w' => ∃ t, e = .returned (pV t) ∧ w.heap.size ≤ t ∧ DoneV w' (some ⟨t, 0, none⟩) v ∧ Below w.heap.size w w' := by
  have hmf : ∀ (fn : Fn) (first cap : Array Value) (w : World), (Instr.makeFunc fn first cap).run Tryz.prog w = .ok (.func fn first cap) w := fun _ _ _ _ => rfl
  have HQ := Lib.hid hQ
  have HN := Lib.hid hn
  have HB := Lib.hid hb
  clear hQ hn hb
  go_enter Tryz.func137, Tryz.ntmps137
  go_upto_region 1 with fail
  generalize hW : (w.alloc _) = W
  have bW : Below w.heap.size w W := by rw [← hW]; go_grown
  have q0 : Blk W w.heap.size 89 #[cloV 291 #[pV bl]] := by rw [← hW]; exact Blk.new w _ _
  clear hW
  go_upto_region 2 with (go_at_call 220; refine (only_any _ _ _).mono ?_; rintro e w2 ⟨lp, rfl, l1, l2, l3⟩)
  have hk : ∀ k, n = some ⟨k, 0, none⟩ → k < w.heap.size := fun k e => by
    rcases HN.out with ⟨h, _⟩ | ⟨k', e', h⟩
    · rw [h] at e; cases e
    · rw [e'] at e; obtain rfl : k' = k := by simpa using e
      exact h.lt
  have hbl := HB.out.lt
  have hs2 := l3.size
  have hsW := bW.size
  generalize hW3 : (w2.alloc _) = W3
  have b3 : Below W.heap.size W W3 := by rw [← hW3]; exact l3.alloc (by omega) _
  have s3 : W3.heap.size = w2.heap.size + 1 := by rw [← hW3]; simp
  have qt : Blk W3 w2.heap.size 161 #[.nilFunc, .pointer none, pV lp, .int .i64 0] := by rw [← hW3]; exact Blk.new w2 _ _
  have ql : Blk W3 lp 305 #[.pointer none, .pointer none, cloV 221 #[pV w.heap.size]] := by rw [← hW3]; exact l2.alloc _
  have hlp := l2.lt
  clear hW3
  have bw3 : Below w.heap.size w W3 := bW.trans (b3.mono hsW)
  have qf := q0.below b3 q0.lt
  have kk : Keep (fun _ => False) w W3 := Keep.ofBelow bw3
  have hqf := q0.lt
  have HG := Lib.hid (goon_gen w2.heap.size n .nilFunc (.pointer none) (pV lp) 0 [w.heap.size] (fun b => Q b ∧ b ≠ w2.heap.size)
    (fun a' n' fs => DoneV a' n' v ∧ n' ≠ some ⟨w2.heap.size, 0, none⟩ ∧ Blk a' w.heap.size 89 #[cloV 291 #[pV bl]] ∧ Blk a' bl 54 #[.slice a 1 cap] ∧ (fs = [] ∨ fs = [w.heap.size])) W3
    qt (.inr ⟨0, lp, rfl, .leaf lp _ ⟨HQ.out _ (by omega), by omega⟩ ql⟩) (fun j hj => ⟨HQ.out _ (by omega), by omega⟩) (fun h => h.2 rfl)
    ⟨HN.out.keep kk (fun _ _ h => h), fun e => by have := hk _ e; omega, qf, HB.out.keep kk (fun h => h), .inr rfl⟩
    (fun a b n fs _ h hk2 => ⟨h.1.keep hk2 (fun k e hk3 => h.2.1 (by rw [e, hk3])), h.2.1, h.2.2.1.keep hk2 (by omega), h.2.2.2.1.keep hk2 (by omega), h.2.2.2.2⟩)
    (fun a n fs h => ⟨h.2.1, .inl ⟨v, h.1⟩⟩)
    (fun b n f fs v' hsz h hd => by
      have hv : v' = v := by
        rcases h.1 with ⟨e1, e2⟩ | ⟨k1, e1, e2⟩
        · rcases hd with ⟨e3, e4⟩ | ⟨k3, e3, e4⟩
          · rw [e4, e2]
          · rw [e1] at e3; cases e3
        · rcases hd with ⟨e3, e4⟩ | ⟨k3, e3, e4⟩
          · rw [e1] at e3; cases e3
          · rw [e1] at e3; obtain rfl : k1 = k3 := by simpa using e3
            have e := (show b.heap[k1]? = _ from e4).symm.trans e2
            simpa using e
      subst hv
      obtain ⟨h1, h2, h3, h4, h5⟩ := h
      rcases h5 with h5 | h5
      · cases h5
      · simp only [List.cons.injEq] at h5
        obtain ⟨rfl, rfl⟩ := h5
        refine (then1_any _ 291 #[pV bl] v' b (fun t w' => b.heap.size ≤ t ∧ DoneV w' (some ⟨t, 0, none⟩) v' ∧ Below b.heap.size b w') h3 call_order1 fun w1 hb1 => ?_).mono ?_
        · refine (order1_last bl a cap v' w1 (h4.below hb1 h4.lt)).mono ?_
          rintro e w' ⟨t, rfl, g1, g2, g3⟩
          have := hb1.size
          exact ⟨t, rfl, by omega, g2, hb1.trans (g3.mono this)⟩
        · rintro e w' ⟨t, rfl, g1, g2, g3⟩
          refine ⟨t, rfl, ⟨g2, fun e => ?_, h3.below g3 h3.lt, h4.below g3 h4.lt, .inl rfl⟩, g3⟩
          have : t = w2.heap.size := by injection e with e1; injection e1
          omega))
  clear qt ql qf
  go_wp2_with (go_at_call 119; refine HG.out.mono ?_; rintro e w4 ⟨rfl, k4, n4, fs4, hJ4, hpost⟩)
  go_ret
  have b4 : Below w.heap.size w w4 := bw3.trans (k4.below bw3.size (fun i _ h => by omega))
  rcases hpost with ⟨rfl, v4, hd4, B4⟩ | ⟨k5, d5, p5, r5, g5, j, rfl, L5, T5, T6, B6⟩
  · have hv : v4 = v := by
      rcases hJ4.1 with ⟨e1, e2⟩ | ⟨k1, e1, e2⟩
      · rcases hd4 with ⟨e3, e4⟩ | ⟨k3, e3, e4⟩
        · rw [e4, e2]
        · rw [e1] at e3; cases e3
      · rcases hd4 with ⟨e3, e4⟩ | ⟨k3, e3, e4⟩
        · rw [e1] at e3; cases e3
        · rw [e1] at e3; obtain rfl : k1 = k3 := by simpa using e3
          have e := (show w4.heap[k1]? = _ from e4).symm.trans e2
          simpa using e
    subst hv
    exact ⟨w2.heap.size, rfl, by omega, .inr ⟨_, rfl, B4⟩, b4⟩
  · exact (hJ4.1.live L5).elim
end Go.Proofs.YtldofbkjjmnooaaGreat
/- Package task: inOrder. -/
namespace Go.Proofs.YtldofbkjjmnooaaGreat
open Go.ChangeShapes Go.WideShapes Go.ChangeAt Go.RowKit
set_option linter.unusedVariables false
set_option maxRecDepth 100000
set_option linter.unusedSimpArgs false
/-- what the tasks of a list are together -/
def Res6 (L : List (Option Addr × List Itm)) (r : List Itm) (v : Int) : Prop := (L = [] ∧ r = [] ∧ v = 0) ∨ (L ≠ [] ∧ Equiv6 (flat L) r v)
theorem flat_cons (x : Option Addr × List Itm) (L : List (Option Addr × List Itm)) : flat (x :: L) = x.2 ++ flat L := by simp [flat]
/-- the first one is done, and there are others -/
theorem Res6.skip {x y : Option Addr × List Itm} {L : List (Option Addr × List Itm)} {r : List Itm} {u v : Int} (hx : Equiv6 x.2 [] u) (h : Res6 (y :: L) r v) : Res6 (x :: y :: L) r v := by
  rcases h with ⟨h, _⟩ | ⟨_, h⟩
  · cases h
  · refine .inr ⟨by simp, h.fresh, fun z => ?_⟩
    rw [flat_cons, onS_append, if_pos (hx.on z).1]
    exact h.on _
/-- the first one needs a step -/
theorem Res6.stop {x : Option Addr × List Itm} {L : List (Option Addr × List Itm)} {y : Itm} {r : List Itm} {u v : Int} (hx : Equiv6 x.2 (y :: r) u) : Res6 (x :: L) (y :: (r ++ flat L)) v := by
  refine .inr ⟨by simp, Fresh.append (s := flat L) hx.fresh (by simp), fun z => ?_⟩
  rw [flat_cons, onS_append, (hx.on z).1]
  simp
theorem Res6.one {x : Option Addr × List Itm} {u : Int} (hx : Equiv6 x.2 [] u) : Res6 [x] [] u := by
  refine .inr ⟨by simp, hx.fresh, fun z => ?_⟩
  rw [flat_cons]
  simpa [flat] using hx.on z
theorem Elem.view {w : World} {C P : Nat} {Q : Nat → Prop} {u : Option Addr} {s : List Itm} (h : Elem (Cont w C P Q) w C P Q u s) :
    (∃ v, DoneV w u v ∧ Equiv6 s [] v) ∨ ∃ k y r d p rest gs fs v, u = some ⟨k, 0, none⟩ ∧ Live w k d p rest ∧ TreeO w Q rest (gs ++ fs) ∧ OpAt w C P Q y d p gs ∧ Conts (Cont w C P Q) fs r ∧ Equiv6 s (y :: r) v := by
  rcases h with ⟨rfl, h⟩ | ⟨t, r, v, rfl, h1, h2, h3⟩
  · exact .inl ⟨0, .inl ⟨rfl, rfl⟩, h⟩
  · rcases TaskC.view h2 with ⟨rfl, hd⟩ | ⟨y, r', d, p, rest, gs, fs, rfl, a, b, c, d⟩
    · exact .inl ⟨v, hd, h3⟩
    · exact .inr ⟨t, y, r', _, _, _, gs, fs, v, rfl, a, b, c, d, h3⟩
theorem order_cont {w : World} {C P : Nat} {Q : Nat → Prop} {f bl B o cap : Nat} {M : List (Option Addr × List Itm)} (h1 : Blk w f 89 #[cloV 291 #[pV bl]]) (h2 : Q f) (h3 : Q bl) (h4 : Blk w bl 54 #[.slice (some ⟨B, o, none⟩) (M.length + 1) cap]) (h5 : M ≠ [] → Q B)
    (h6 : M.length < 1000) (h7 : M.length + 1 ≤ cap) (h8 : cap ≤ maxLen) (h9 : RowAt (Cont w C P Q) w C P Q B (o + 1) M) : Cont w C P Q f (flat M) :=
  Cont.fold ⟨h2, bl, B, o, cap, M, h1, h3, h4, h5, h6, h7, h8, h9, rfl⟩
theorem then_task {w : World} {C P : Nat} {Q : Nat → Prop} {t f : Nat} {d p j : Value} {gs fs : List Nat} {x : Itm} {r s : List Itm} {v : Int} (h1 : Live w t d p j) (h2 : TreeO w Q j ((gs ++ fs) ++ [f])) (h3 : OpAt w C P Q x d p gs) (h4 : Conts (Cont w C P Q) fs r) (h5 : Cont w C P Q f s) : TaskC w C P Q t (x :: (r ++ s)) v :=
  ⟨d, p, j, 0, h1.blk, rfl, gs, fs ++ [f], by rw [← List.append_assoc]; exact h2, h3, Conts.append fs [f] r s h4 ⟨s, [], h5, rfl, by simp⟩⟩
theorem Conts.keep {w w1 : World} {C P : Nat} {Q Q' F : Nat → Prop} {fs : List Nat} {r : List Itm} (h : Conts (Cont w C P Q) fs r) (hk : Keep F w w1) (hd : ∀ b, Q b → ¬ F b) (hq : ∀ b, b < w.heap.size → Q b → Q' b) : Conts (Cont w1 C P Q') fs r := h.mono (fun f s h => h.keep hk hd hq) _ _
/-- the row behind its first -/
theorem RowAt.tail {K : Nat → List Itm → Prop} {w : World} {C P : Nat} {Q : Nat → Prop} {B o : Nat} {x : Option Addr × List Itm} {M : List (Option Addr × List Itm)} (h : RowAt K w C P Q B o (x :: M)) : RowAt K w C P Q B (o + 1) M :=
  fun i y hy => by have := h (i + 1) y (by simpa using hy); rwa [show o + (i + 1) = o + 1 + i by omega] at this
theorem cell_lt6 {w : World} {B o : Nat} {v : Value} (h : w.cell? ⟨B, o, none⟩ = some v) : B < w.heap.size := by
  unfold World.cell? at h
  cases hb : w.heap[B]? with
  | none => simp [hb] at h
  | some y => exact (Array.getElem?_eq_some_iff.1 hb).1
theorem slice_from (B o n cap : Nat) (h1 : 1 ≤ n) (h2 : 2 ≤ cap) (W : World) :
    (Instr.slice 54 (.slice (some ⟨B, o, none⟩) n cap) (some (.int .i64 1)) none none).run Tryz.prog W = .ok (.slice (some ⟨B, o + 1, none⟩) (n - 1) (cap - 1)) W := by
  rw [run_slice_l _ 54 _ _ _ (by kernel_rfl) .i64 1 (by omega) (by omega)]
  have hs : (sizeOf (Tryz.prog.elem 54)).run Tryz.prog W = .ok 1 W := by kernel_rfl
  rw [hs]
  have : ¬ cap = 1 := by omega
  simp [Result.andThen, sliced, this, Addr.add]
def rowSl (a : Option Addr) (n cap : Nat) : Value := .slice a n cap
set_option maxHeartbeats 1000000 in
theorem inOrder_any (C P : Nat) (Q : Nat → Prop) (L : List (Option Addr × List Itm)) (a : Option Addr) (cap : Nat) (w : World)
    (ha : L ≠ [] → ∃ B o, a = some ⟨B, o, none⟩ ∧ Q B ∧ RowAt (Cont w C P Q) w C P Q B o L) (hn : L.length ≤ 1000) (hc : L.length ≤ cap) (hm : cap ≤ maxLen) (hQ : ∀ k, w.heap.size ≤ k → Q k) :
    Calls Tryz.prog 224 #[.slice a L.length cap] w fun e w' => ∃ t r v, e = .returned (pV t) ∧ Made6 w C P Q r v t w' ∧ Res6 L r v := by
  have hmf : ∀ (fn : Fn) (first cap : Array Value) (w : World), (Instr.makeFunc fn first cap).run Tryz.prog w = .ok (.func fn first cap) w := fun _ _ _ _ => rfl
  have HQ := Lib.hid hQ
  have HA := Lib.hid ha
  have HM := Lib.hid hm
  clear hQ ha hm
  go_enter Tryz.func224, Tryz.ntmps224
  go_upto_region 1 with fail
  generalize hW : (w.alloc _) = W
  have bW : Below w.heap.size w W := by rw [← hW]; go_grown
  have q0 : Blk W w.heap.size 54 #[.slice a L.length cap] := by rw [← hW]; exact Blk.new w _ _
  clear hW
  have hl0 := q0.lt
  have hsl := slice_from
  go_loopg [3] L.length (fun k _ wr => ∃ M a' cap', k = M.length ∧ Blk wr w.heap.size 54 #[.slice a' M.length cap'] ∧ Hid (M ≠ [] → ∃ B o, a' = some ⟨B, o, none⟩ ∧ Q B ∧ RowAt (Cont w C P Q) w C P Q B o M) ∧ M.length ≤ cap' ∧ Hid (cap' ≤ maxLen) ∧ M.length ≤ 1000 ∧ Hid (∀ r v, Res6 M r v → Res6 L r v) ∧ Below w.heap.size w wr)
  case atStart => exact ⟨L, a, cap, rfl, q0, Lib.hid HA.out, hc, HM, hn, Lib.hid (fun r v h => h), bW⟩
  case round =>
    clear q0 HA HM hc hn hl0
    obtain ⟨M, a', cap', hk, hB, hA, hc, hm, hn, hR, hW⟩ := hrel
    have hsz := hW.size
    have z0 := hB.free 0
    have HB := Lib.hid hB
    have kk : Keep (fun _ => False) w wr := Keep.ofBelow hW
    match M, hk, hB, hA, hc, hm, hn, hR, HB with
    | [], hk, hB, hA, hc, hm, hn, hR, HB =>
      have c0 : wr.cell? ⟨w.heap.size, 0, none⟩ = some (.slice a' 0 cap') := hB.cell 0 _ rfl
      clear hB z0
      go_wp2_with (go_at_call 102; refine (tready_any C P Q _ _).mono ?_; rintro e w2 ⟨t, rfl, h1, h2, h3⟩)
      go_ret
      exact ⟨t, [], 0, rfl, ⟨by omega, h2, hW.trans (h3.mono hsz)⟩, hR.out _ _ (.inl ⟨rfl, rfl, rfl⟩)⟩
    | [x], hk, hB, hA, hc, hm, hn, hR, HB =>
      obtain ⟨B, o, rfl, hQB, hrow⟩ := hA.out (by simp)
      have c0 : wr.cell? ⟨w.heap.size, 0, none⟩ = some (.slice (some ⟨B, o, none⟩) 1 cap') := hB.cell 0 _ rfl
      have e0 : wr.cell? ⟨B, o, none⟩ = some (.pointer x.1) := by have := (hrow 0 x rfl).1; exact cell_keep6 this kk (fun h => h)
      have e0' := (hrow 0 x rfl).1
      have hE := (hrow 0 x rfl).2
      have hRow := Lib.hid hrow
      clear hB hrow hA
      rcases hE.view with ⟨v, hd, hE⟩ | hE
      · have hTH := Lib.hid (then_last x.1 v w.heap.size (some ⟨B, o, none⟩) cap' Q wr (hd.keep kk (fun _ _ h => h)) HB.out (fun k hk => HQ.out k (by omega)))
        have HE := Lib.hid hE
        clear hE hd z0
        go_wp2_with (go_at_call 137; refine hTH.out.mono ?_; rintro e w2 ⟨t, rfl, h1, h2, h3⟩)
        go_ret
        obtain ⟨k, e, h2⟩ := h2.resolve_left (fun h => by cases h.1)
        obtain rfl : t = k := by simpa using e
        exact ⟨t, [], v, rfl, ⟨by omega, ⟨_, _, _, _, h2, rfl, rfl, rfl, rfl⟩, hW.trans (h3.mono hsz)⟩, hR.out _ _ (Res6.one HE.out)⟩
      · clear z0
        obtain ⟨k0, y0, r0, d0, p0, rest0, gs0, fs0, v0, hx1, hL, hT, hO, hC0, hE⟩ := hE
        have hx2 : Value.pointer x.1 = pV k0 := by rw [hx1]
        rw [hx2] at e0
        have hTH := Lib.hid (then_raw k0 291 #[pV w.heap.size] d0 p0 rest0 (gs0 ++ fs0) Q wr (hL.keep kk (fun h => h)) (hT.keep kk (fun _ _ h => h)) (fun k hk => HQ.out k (by omega)))
        have hD := Lib.hid (live_done k0 d0 p0 rest0 wr (hL.keep kk (fun h => h)))
        have HO := Lib.hid hO
        have HC0 := Lib.hid hC0
        have HE := Lib.hid hE
        clear hL hT hO hC0 hE hx1 hx2
        go_wp2_with (first | (go_at_call 38; refine hD.out.mono ?_; rintro e w3 ⟨rfl, rfl⟩) | (go_at_call 137; refine hTH.out.mono ?_; rintro e w2 ⟨t, f, j, rfl, h1, h2, h3, h4, h5, hft, h6⟩))
        go_ret
        have k2 : Keep (fun _ => False) w w2 := Keep.ofBelow (hW.trans (h6.mono hsz))
        have hBlt := cell_lt6 e0'
        have hB2 := HB.out.below h6 HB.out.lt
        refine ⟨t, _, 0, rfl, ⟨by omega, then_task h4 h5 (HO.out.keep k2 (fun _ _ h => h) (fun b hb h => ⟨h, by omega⟩)) (HC0.out.keep k2 (fun _ _ h => h) (fun b hb h => ⟨h, by omega⟩)) (order_cont (M := []) h3 ⟨HQ.out _ (by omega), hft⟩ ⟨HQ.out _ (Nat.le_refl _), by have := HB.out.lt; omega⟩ hB2 (fun _ => ⟨hQB, by omega⟩) (by simp only [List.length_cons, List.length_nil] at hn ⊢; omega) (by simpa using hc) hm.out ?_), hW.trans (h6.mono hsz)⟩, hR.out _ _ (Res6.stop HE.out)⟩
        exact (hRow.out.tail).keep (fun f s h => h.keep k2 (fun _ _ h => h) (fun b hb h => ⟨h, by omega⟩)) k2 (fun _ _ h => h) (fun h => h) (fun b hb h => ⟨h, by omega⟩)
    | x :: y :: M, hk, hB, hA, hc, hm, hn, hR, HB =>
      obtain ⟨B, o, rfl, hQB, hrow⟩ := hA.out (by simp)
      have c0 : wr.cell? ⟨w.heap.size, 0, none⟩ = some (.slice (some ⟨B, o, none⟩) (M.length + 1 + 1) cap') := hB.cell 0 _ rfl
      have e0 : wr.cell? ⟨B, o, none⟩ = some (.pointer x.1) := by have := (hrow 0 x rfl).1; exact cell_keep6 this kk (fun h => h)
      have e0' := (hrow 0 x rfl).1
      have hE := (hrow 0 x rfl).2
      have hRow := Lib.hid hrow
      clear hB hrow hA
      simp only [List.length_cons] at hc hn
      have hsl2 := hsl B o (M.length + 1 + 1) cap' (by omega) (by omega)
      rcases hE.view with ⟨v, hd, hE⟩ | hE
      · have hD := Lib.hid (doneV_done x.1 v wr (hd.keep kk (fun _ _ h => h)))
        have HE := Lib.hid hE
        clear hE hd hsl
        go_wp2_with (go_at_call 38; refine hD.out.mono ?_; rintro e w3 ⟨rfl, rfl⟩)
        go_roundg (M.length + 1)
        case measure => simp only [List.length_cons] at hk; omega
        case rel =>
          refine ⟨y :: M, some ⟨B, o + 1, none⟩, cap' - 1, rfl, ?_, Lib.hid (fun _ => ⟨B, o + 1, rfl, hQB, hRow.out.tail⟩), by simp only [List.length_cons]; omega, Lib.hid (by have := hm.out; omega), by simp only [List.length_cons]; omega, Lib.hid (fun r v h => hR.out r v (Res6.skip HE.out h)), hW.setCell (p := ⟨w.heap.size, 0, none⟩) (Nat.le_refl _) _⟩
          have := HB.out.set 0 (.slice (some ⟨B, o + 1, none⟩) (M.length + 1) (cap' - 1))
          exact this
      · clear z0 hsl hsl2
        obtain ⟨k0, y0, r0, d0, p0, rest0, gs0, fs0, v0, hx1, hL, hT, hO, hC0, hE⟩ := hE
        have hx2 : Value.pointer x.1 = pV k0 := by rw [hx1]
        rw [hx2] at e0
        have hTH := Lib.hid (then_raw k0 291 #[pV w.heap.size] d0 p0 rest0 (gs0 ++ fs0) Q wr (hL.keep kk (fun h => h)) (hT.keep kk (fun _ _ h => h)) (fun k hk => HQ.out k (by omega)))
        have hD := Lib.hid (live_done k0 d0 p0 rest0 wr (hL.keep kk (fun h => h)))
        have HO := Lib.hid hO
        have HC0 := Lib.hid hC0
        have HE := Lib.hid hE
        clear hL hT hO hC0 hE hx1 hx2
        go_wp2_with (first | (go_at_call 38; refine hD.out.mono ?_; rintro e w3 ⟨rfl, rfl⟩) | (go_at_call 137; refine hTH.out.mono ?_; rintro e w2 ⟨t, f, j, rfl, h1, h2, h3, h4, h5, hft, h6⟩))
        go_ret
        have k2 : Keep (fun _ => False) w w2 := Keep.ofBelow (hW.trans (h6.mono hsz))
        have hBlt := cell_lt6 e0'
        have hB2 := HB.out.below h6 HB.out.lt
        refine ⟨t, _, 0, rfl, ⟨by omega, then_task h4 h5 (HO.out.keep k2 (fun _ _ h => h) (fun b hb h => ⟨h, by omega⟩)) (HC0.out.keep k2 (fun _ _ h => h) (fun b hb h => ⟨h, by omega⟩)) (order_cont (M := y :: M) h3 ⟨HQ.out _ (by omega), hft⟩ ⟨HQ.out _ (Nat.le_refl _), by have := HB.out.lt; omega⟩ hB2 (fun _ => ⟨hQB, by omega⟩) (by simp only [List.length_cons, List.length_nil] at hn ⊢; omega) (by simpa using hc) hm.out ?_), hW.trans (h6.mono hsz)⟩, hR.out _ _ (Res6.stop HE.out)⟩
        exact (hRow.out.tail).keep (fun f s h => h.keep k2 (fun _ _ h => h) (fun b hb h => ⟨h, by omega⟩)) k2 (fun _ _ h => h) (fun h => h) (fun b hb h => ⟨h, by omega⟩)
end Go.Proofs.YtldofbkjjmnooaaGreat
