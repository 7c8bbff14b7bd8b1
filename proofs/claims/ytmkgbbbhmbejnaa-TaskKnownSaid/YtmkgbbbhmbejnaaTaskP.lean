/- Layer 6's law: one: the task of an item. -/
import Derived.Test.YtmkgbbbhmbejnaaTaskO
namespace Go.Proofs.Ytmkgbbbhmbejnaa
open Go.ChangeShapes Go.WideShapes Go.ChangeAt Go.RowKit
set_option linter.unusedVariables false
set_option maxRecDepth 100000
set_option linter.unusedSimpArgs false
theorem equiv_one {x : Itm} (h : x.kind ≠ 7) : Equiv6 [x] [x] 0 := ⟨by simpa [Fresh] using h, fun y => ⟨by simp [onS, h], fun e => by cases e⟩⟩
theorem equiv_ready {x : Itm} (h : x.kind = 7) : Equiv6 [x] [] x.a := ⟨by simp [Fresh], fun y => ⟨by simp [onS, h], fun _ => by simp [onS, h]⟩⟩
theorem one_k0 (C P : Nat) (Q : Nat → Prop) (x : Itm) (w : World) (hk : x.kind = 0) (hr : 0 ≤ x.a ∧ x.a ≤ 9223372036854775807 ∨ x.kind ≠ 7) (hQ : ∀ k, w.heap.size ≤ k → Q k) :
    Calls Try.prog 54 #[cellsV C, permitsV P, .agg #[.int .i64 0, .int .i64 x.at', .int .u64 x.a, .int .u64 x.b]] w fun e w' => ∃ t r v, e = .returned (pV t) ∧ Made6 w C P Q r v t w' ∧ Equiv6 [x] r v := by
  have HQ := Lib.hid hQ
  have HF := Lib.hid fun W (hb : Below w.heap.size w W) => tLoad_any C P Q x W (by simp [hk]) (fun j hj => hQ j (Nat.le_trans hb.size hj))
  clear hQ hr
  go_enter Try.func54, Try.ntmps54
  go_upto_region 1 with fail
  generalize hW : (w.alloc _) = W
  have bW : Below w.heap.size w W := by rw [← hW]; go_grown
  have q0 : Blk W w.heap.size 72 #[.int .i64 0, .int .i64 x.at', .int .u64 x.a, .int .u64 x.b] := by rw [← hW]; exact Blk.new w _ _
  clear hW
  have sW := bW.size
  have c0 : W.cell? ⟨w.heap.size, 0, none⟩ = some (.int .i64 0) := q0.cell 0 _ rfl
  have c1 : W.cell? ⟨w.heap.size, 1, none⟩ = some (.int .i64 x.at') := q0.cell 1 _ rfl
  have c2 : W.cell? ⟨w.heap.size, 2, none⟩ = some (.int .u64 x.a) := q0.cell 2 _ rfl
  have c3 : W.cell? ⟨w.heap.size, 3, none⟩ = some (.int .u64 x.b) := q0.cell 3 _ rfl
  have HF2 := Lib.hid (HF.out W bW)
  go_wp2_with (go_at_call 44; refine HF2.out.mono ?_; rintro e w2 ⟨t, rfl, h1, h2, h3⟩)
  go_ret
  exact ⟨t, [x], 0, rfl, ⟨by omega, h2, bW.trans (h3.mono sW)⟩, equiv_one (by omega)⟩
theorem one_k1 (C P : Nat) (Q : Nat → Prop) (x : Itm) (w : World) (hk : x.kind = 1) (hr : 0 ≤ x.a ∧ x.a ≤ 9223372036854775807 ∨ x.kind ≠ 7) (hQ : ∀ k, w.heap.size ≤ k → Q k) :
    Calls Try.prog 54 #[cellsV C, permitsV P, .agg #[.int .i64 1, .int .i64 x.at', .int .u64 x.a, .int .u64 x.b]] w fun e w' => ∃ t r v, e = .returned (pV t) ∧ Made6 w C P Q r v t w' ∧ Equiv6 [x] r v := by
  have HQ := Lib.hid hQ
  have HF := Lib.hid fun W (hb : Below w.heap.size w W) => tStore_any C P Q x W (by simp [hk]) (fun j hj => hQ j (Nat.le_trans hb.size hj))
  clear hQ hr
  go_enter Try.func54, Try.ntmps54
  go_upto_region 1 with fail
  generalize hW : (w.alloc _) = W
  have bW : Below w.heap.size w W := by rw [← hW]; go_grown
  have q0 : Blk W w.heap.size 72 #[.int .i64 1, .int .i64 x.at', .int .u64 x.a, .int .u64 x.b] := by rw [← hW]; exact Blk.new w _ _
  clear hW
  have sW := bW.size
  have c0 : W.cell? ⟨w.heap.size, 0, none⟩ = some (.int .i64 1) := q0.cell 0 _ rfl
  have c1 : W.cell? ⟨w.heap.size, 1, none⟩ = some (.int .i64 x.at') := q0.cell 1 _ rfl
  have c2 : W.cell? ⟨w.heap.size, 2, none⟩ = some (.int .u64 x.a) := q0.cell 2 _ rfl
  have c3 : W.cell? ⟨w.heap.size, 3, none⟩ = some (.int .u64 x.b) := q0.cell 3 _ rfl
  have HF2 := Lib.hid (HF.out W bW)
  go_wp2_with (go_at_call 45; refine HF2.out.mono ?_; rintro e w2 ⟨t, rfl, h1, h2, h3⟩)
  go_ret
  exact ⟨t, [x], 0, rfl, ⟨by omega, h2, bW.trans (h3.mono sW)⟩, equiv_one (by omega)⟩
theorem one_k2 (C P : Nat) (Q : Nat → Prop) (x : Itm) (w : World) (hk : x.kind = 2) (hr : 0 ≤ x.a ∧ x.a ≤ 9223372036854775807 ∨ x.kind ≠ 7) (hQ : ∀ k, w.heap.size ≤ k → Q k) :
    Calls Try.prog 54 #[cellsV C, permitsV P, .agg #[.int .i64 2, .int .i64 x.at', .int .u64 x.a, .int .u64 x.b]] w fun e w' => ∃ t r v, e = .returned (pV t) ∧ Made6 w C P Q r v t w' ∧ Equiv6 [x] r v := by
  have HQ := Lib.hid hQ
  have HF := Lib.hid fun W (hb : Below w.heap.size w W) => tSwap_any C P Q x W (by simp [hk]) (fun j hj => hQ j (Nat.le_trans hb.size hj))
  clear hQ hr
  go_enter Try.func54, Try.ntmps54
  go_upto_region 1 with fail
  generalize hW : (w.alloc _) = W
  have bW : Below w.heap.size w W := by rw [← hW]; go_grown
  have q0 : Blk W w.heap.size 72 #[.int .i64 2, .int .i64 x.at', .int .u64 x.a, .int .u64 x.b] := by rw [← hW]; exact Blk.new w _ _
  clear hW
  have sW := bW.size
  have c0 : W.cell? ⟨w.heap.size, 0, none⟩ = some (.int .i64 2) := q0.cell 0 _ rfl
  have c1 : W.cell? ⟨w.heap.size, 1, none⟩ = some (.int .i64 x.at') := q0.cell 1 _ rfl
  have c2 : W.cell? ⟨w.heap.size, 2, none⟩ = some (.int .u64 x.a) := q0.cell 2 _ rfl
  have c3 : W.cell? ⟨w.heap.size, 3, none⟩ = some (.int .u64 x.b) := q0.cell 3 _ rfl
  have HF2 := Lib.hid (HF.out W bW)
  go_wp2_with (go_at_call 46; refine HF2.out.mono ?_; rintro e w2 ⟨t, rfl, h1, h2, h3⟩)
  go_ret
  exact ⟨t, [x], 0, rfl, ⟨by omega, h2, bW.trans (h3.mono sW)⟩, equiv_one (by omega)⟩
theorem one_k3 (C P : Nat) (Q : Nat → Prop) (x : Itm) (w : World) (hk : x.kind = 3) (hr : 0 ≤ x.a ∧ x.a ≤ 9223372036854775807 ∨ x.kind ≠ 7) (hQ : ∀ k, w.heap.size ≤ k → Q k) :
    Calls Try.prog 54 #[cellsV C, permitsV P, .agg #[.int .i64 3, .int .i64 x.at', .int .u64 x.a, .int .u64 x.b]] w fun e w' => ∃ t r v, e = .returned (pV t) ∧ Made6 w C P Q r v t w' ∧ Equiv6 [x] r v := by
  have HQ := Lib.hid hQ
  have HF := Lib.hid fun W (hb : Below w.heap.size w W) => tAdd_any C P Q x W (by simp [hk]) (fun j hj => hQ j (Nat.le_trans hb.size hj))
  clear hQ hr
  go_enter Try.func54, Try.ntmps54
  go_upto_region 1 with fail
  generalize hW : (w.alloc _) = W
  have bW : Below w.heap.size w W := by rw [← hW]; go_grown
  have q0 : Blk W w.heap.size 72 #[.int .i64 3, .int .i64 x.at', .int .u64 x.a, .int .u64 x.b] := by rw [← hW]; exact Blk.new w _ _
  clear hW
  have sW := bW.size
  have c0 : W.cell? ⟨w.heap.size, 0, none⟩ = some (.int .i64 3) := q0.cell 0 _ rfl
  have c1 : W.cell? ⟨w.heap.size, 1, none⟩ = some (.int .i64 x.at') := q0.cell 1 _ rfl
  have c2 : W.cell? ⟨w.heap.size, 2, none⟩ = some (.int .u64 x.a) := q0.cell 2 _ rfl
  have c3 : W.cell? ⟨w.heap.size, 3, none⟩ = some (.int .u64 x.b) := q0.cell 3 _ rfl
  have HF2 := Lib.hid (HF.out W bW)
  go_wp2_with (go_at_call 47; refine HF2.out.mono ?_; rintro e w2 ⟨t, rfl, h1, h2, h3⟩)
  go_ret
  exact ⟨t, [x], 0, rfl, ⟨by omega, h2, bW.trans (h3.mono sW)⟩, equiv_one (by omega)⟩
theorem one_k4 (C P : Nat) (Q : Nat → Prop) (x : Itm) (w : World) (hk : x.kind = 4) (hr : 0 ≤ x.a ∧ x.a ≤ 9223372036854775807 ∨ x.kind ≠ 7) (hQ : ∀ k, w.heap.size ≤ k → Q k) :
    Calls Try.prog 54 #[cellsV C, permitsV P, .agg #[.int .i64 4, .int .i64 x.at', .int .u64 x.a, .int .u64 x.b]] w fun e w' => ∃ t r v, e = .returned (pV t) ∧ Made6 w C P Q r v t w' ∧ Equiv6 [x] r v := by
  have HQ := Lib.hid hQ
  have HF := Lib.hid fun W (hb : Below w.heap.size w W) => tspin_any C P Q x W hk (fun j hj => hQ j (Nat.le_trans hb.size hj))
  clear hQ hr
  go_enter Try.func54, Try.ntmps54
  go_upto_region 1 with fail
  generalize hW : (w.alloc _) = W
  have bW : Below w.heap.size w W := by rw [← hW]; go_grown
  have q0 : Blk W w.heap.size 72 #[.int .i64 4, .int .i64 x.at', .int .u64 x.a, .int .u64 x.b] := by rw [← hW]; exact Blk.new w _ _
  clear hW
  have sW := bW.size
  have c0 : W.cell? ⟨w.heap.size, 0, none⟩ = some (.int .i64 4) := q0.cell 0 _ rfl
  have c1 : W.cell? ⟨w.heap.size, 1, none⟩ = some (.int .i64 x.at') := q0.cell 1 _ rfl
  have c2 : W.cell? ⟨w.heap.size, 2, none⟩ = some (.int .u64 x.a) := q0.cell 2 _ rfl
  have c3 : W.cell? ⟨w.heap.size, 3, none⟩ = some (.int .u64 x.b) := q0.cell 3 _ rfl
  have HF2 := Lib.hid (HF.out W bW)
  go_wp2_with (go_at_call 37; refine HF2.out.mono ?_; rintro e w2 ⟨t, rfl, h1, h2, h3⟩)
  go_ret
  exact ⟨t, [x], 0, rfl, ⟨by omega, h2, bW.trans (h3.mono sW)⟩, equiv_one (by omega)⟩
theorem one_k5 (C P : Nat) (Q : Nat → Prop) (x : Itm) (w : World) (hk : x.kind = 5) (hr : 0 ≤ x.a ∧ x.a ≤ 9223372036854775807 ∨ x.kind ≠ 7) (hQ : ∀ k, w.heap.size ≤ k → Q k) :
    Calls Try.prog 54 #[cellsV C, permitsV P, .agg #[.int .i64 5, .int .i64 x.at', .int .u64 x.a, .int .u64 x.b]] w fun e w' => ∃ t r v, e = .returned (pV t) ∧ Made6 w C P Q r v t w' ∧ Equiv6 [x] r v := by
  have HQ := Lib.hid hQ
  have HF := Lib.hid fun W (hb : Below w.heap.size w W) => tpark_any C P Q x W (.inl hk) (fun j hj => hQ j (Nat.le_trans hb.size hj))
  rw [show (x.kind == 6) = false by rw [hk]; rfl] at HF
  clear hQ hr
  go_enter Try.func54, Try.ntmps54
  go_upto_region 1 with fail
  generalize hW : (w.alloc _) = W
  have bW : Below w.heap.size w W := by rw [← hW]; go_grown
  have q0 : Blk W w.heap.size 72 #[.int .i64 5, .int .i64 x.at', .int .u64 x.a, .int .u64 x.b] := by rw [← hW]; exact Blk.new w _ _
  clear hW
  have sW := bW.size
  have c0 : W.cell? ⟨w.heap.size, 0, none⟩ = some (.int .i64 5) := q0.cell 0 _ rfl
  have c1 : W.cell? ⟨w.heap.size, 1, none⟩ = some (.int .i64 x.at') := q0.cell 1 _ rfl
  have c2 : W.cell? ⟨w.heap.size, 2, none⟩ = some (.int .u64 x.a) := q0.cell 2 _ rfl
  have c3 : W.cell? ⟨w.heap.size, 3, none⟩ = some (.int .u64 x.b) := q0.cell 3 _ rfl
  have HF2 := Lib.hid (HF.out W bW)
  go_wp2_with (go_at_call 41; refine HF2.out.mono ?_; rintro e w2 ⟨t, rfl, h1, h2, h3⟩)
  go_ret
  exact ⟨t, [x], 0, rfl, ⟨by omega, h2, bW.trans (h3.mono sW)⟩, equiv_one (by omega)⟩
theorem one_k6 (C P : Nat) (Q : Nat → Prop) (x : Itm) (w : World) (hk : x.kind = 6) (hr : 0 ≤ x.a ∧ x.a ≤ 9223372036854775807 ∨ x.kind ≠ 7) (hQ : ∀ k, w.heap.size ≤ k → Q k) :
    Calls Try.prog 54 #[cellsV C, permitsV P, .agg #[.int .i64 6, .int .i64 x.at', .int .u64 x.a, .int .u64 x.b]] w fun e w' => ∃ t r v, e = .returned (pV t) ∧ Made6 w C P Q r v t w' ∧ Equiv6 [x] r v := by
  have HQ := Lib.hid hQ
  have HF := Lib.hid fun W (hb : Below w.heap.size w W) => tpark_any C P Q x W (.inr hk) (fun j hj => hQ j (Nat.le_trans hb.size hj))
  rw [show (x.kind == 6) = true by rw [hk]; rfl] at HF
  clear hQ hr
  go_enter Try.func54, Try.ntmps54
  go_upto_region 1 with fail
  generalize hW : (w.alloc _) = W
  have bW : Below w.heap.size w W := by rw [← hW]; go_grown
  have q0 : Blk W w.heap.size 72 #[.int .i64 6, .int .i64 x.at', .int .u64 x.a, .int .u64 x.b] := by rw [← hW]; exact Blk.new w _ _
  clear hW
  have sW := bW.size
  have c0 : W.cell? ⟨w.heap.size, 0, none⟩ = some (.int .i64 6) := q0.cell 0 _ rfl
  have c1 : W.cell? ⟨w.heap.size, 1, none⟩ = some (.int .i64 x.at') := q0.cell 1 _ rfl
  have c2 : W.cell? ⟨w.heap.size, 2, none⟩ = some (.int .u64 x.a) := q0.cell 2 _ rfl
  have c3 : W.cell? ⟨w.heap.size, 3, none⟩ = some (.int .u64 x.b) := q0.cell 3 _ rfl
  have HF2 := Lib.hid (HF.out W bW)
  go_wp2_with (go_at_call 41; refine HF2.out.mono ?_; rintro e w2 ⟨t, rfl, h1, h2, h3⟩)
  go_ret
  exact ⟨t, [x], 0, rfl, ⟨by omega, h2, bW.trans (h3.mono sW)⟩, equiv_one (by omega)⟩
theorem one_k7 (C P : Nat) (Q : Nat → Prop) (x : Itm) (w : World) (hk : x.kind = 7) (hr : 0 ≤ x.a ∧ x.a ≤ 9223372036854775807 ∨ x.kind ≠ 7) (hQ : ∀ k, w.heap.size ≤ k → Q k) :
    Calls Try.prog 54 #[cellsV C, permitsV P, .agg #[.int .i64 7, .int .i64 x.at', .int .u64 x.a, .int .u64 x.b]] w fun e w' => ∃ t r v, e = .returned (pV t) ∧ Made6 w C P Q r v t w' ∧ Equiv6 [x] r v := by
  have HQ := Lib.hid hQ
  have hwr : IntKind.i64.wrap x.a = x.a := by
    rcases hr with hr | hr
    · obtain ⟨h1, h2⟩ := hr
      rw [IntKind.wrap_i64]; omega
    · exact absurd hk hr
  clear hQ hr
  go_enter Try.func54, Try.ntmps54
  go_upto_region 1 with fail
  generalize hW : (w.alloc _) = W
  have bW : Below w.heap.size w W := by rw [← hW]; go_grown
  have q0 : Blk W w.heap.size 72 #[.int .i64 7, .int .i64 x.at', .int .u64 x.a, .int .u64 x.b] := by rw [← hW]; exact Blk.new w _ _
  clear hW
  have sW := bW.size
  have c0 : W.cell? ⟨w.heap.size, 0, none⟩ = some (.int .i64 7) := q0.cell 0 _ rfl
  have c1 : W.cell? ⟨w.heap.size, 1, none⟩ = some (.int .i64 x.at') := q0.cell 1 _ rfl
  have c2 : W.cell? ⟨w.heap.size, 2, none⟩ = some (.int .u64 x.a) := q0.cell 2 _ rfl
  have c3 : W.cell? ⟨w.heap.size, 3, none⟩ = some (.int .u64 x.b) := q0.cell 3 _ rfl
  go_wp2_with (go_at_call 42; refine (tready_any C P Q _ _).mono ?_; rintro e w2 ⟨t, rfl, h1, h2, h3⟩)
  go_ret
  refine ⟨t, [], x.a, rfl, ⟨by omega, ?_, bW.trans (h3.mono sW)⟩, equiv_ready hk⟩
  first | exact h2 | (rw [hwr] at h2; exact h2)
theorem one6_any (C P : Nat) (Q : Nat → Prop) (x : Itm) (w : World) (hx : x.ok) (hQ : ∀ k, w.heap.size ≤ k → Q k) :
    Calls Try.prog 54 #[cellsV C, permitsV P, .agg #[.int .i64 x.kind, .int .i64 x.at', .int .u64 x.a, .int .u64 x.b]] w fun e w' => ∃ t r v, e = .returned (pV t) ∧ Made6 w C P Q r v t w' ∧ Equiv6 [x] r v := by
  have hk := hx.kind
  have hr : 0 ≤ x.a ∧ x.a ≤ 9223372036854775807 ∨ x.kind ≠ 7 := by
    by_cases h : x.kind = 7
    · exact .inl ⟨hx.a.1, hx.ready h⟩
    · exact .inr h
  have hc : x.kind = 0 ∨ x.kind = 1 ∨ x.kind = 2 ∨ x.kind = 3 ∨ x.kind = 4 ∨ x.kind = 5 ∨ x.kind = 6 ∨ x.kind = 7 := by omega
  rcases hc with h | h | h | h | h | h | h | h
  · have := one_k0 C P Q x w h hr hQ
    rw [show ((x.kind : Nat) : Int) = 0 by rw [h]; rfl]
    exact this
  · have := one_k1 C P Q x w h hr hQ
    rw [show ((x.kind : Nat) : Int) = 1 by rw [h]; rfl]
    exact this
  · have := one_k2 C P Q x w h hr hQ
    rw [show ((x.kind : Nat) : Int) = 2 by rw [h]; rfl]
    exact this
  · have := one_k3 C P Q x w h hr hQ
    rw [show ((x.kind : Nat) : Int) = 3 by rw [h]; rfl]
    exact this
  · have := one_k4 C P Q x w h hr hQ
    rw [show ((x.kind : Nat) : Int) = 4 by rw [h]; rfl]
    exact this
  · have := one_k5 C P Q x w h hr hQ
    rw [show ((x.kind : Nat) : Int) = 5 by rw [h]; rfl]
    exact this
  · have := one_k6 C P Q x w h hr hQ
    rw [show ((x.kind : Nat) : Int) = 6 by rw [h]; rfl]
    exact this
  · have := one_k7 C P Q x w h hr hQ
    rw [show ((x.kind : Nat) : Int) = 7 by rw [h]; rfl]
    exact this
end Go.Proofs.Ytmkgbbbhmbejnaa
