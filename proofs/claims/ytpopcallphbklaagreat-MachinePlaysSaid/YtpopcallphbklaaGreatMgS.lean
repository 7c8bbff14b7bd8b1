/- Layer 8's law: one: the task of an item. -/
import Derived.Test.YtpopcallphbklaaGreatTaskN
import Derived.Laws.AppendOwnNone
import Derived.Test.YtpopcallphbklaaGreatMgT
import Derived.Test.YtpopcallphbklaaGreatMacN
namespace Go.Proofs.YtpopcallphbklaaGreat
open Go.ChangeShapes Go.WideShapes Go.ChangeAt Go.RowKit
set_option linter.unusedVariables false
set_option maxRecDepth 100000
set_option linter.unusedSimpArgs false
theorem equiv_one {x : Itm} (h : x.kind ≠ 7) : Equiv6 [x] [x] 0 := ⟨by simpa [Fresh] using h, fun y => ⟨by simp [onS, h], fun e => by cases e⟩⟩
theorem equiv_ready {x : Itm} (h : x.kind = 7) : Equiv6 [x] [] x.a := ⟨by simp [Fresh], fun y => ⟨by simp [onS, h], fun _ => by simp [onS, h]⟩⟩
theorem one_k0 (C P : Nat) (Q : Nat → Prop) (x : Itm) (w : World) (hk : x.kind = 0) (hr : 0 ≤ x.a ∧ x.a ≤ 9223372036854775807 ∨ x.kind ≠ 7) (hQ : ∀ k, w.heap.size ≤ k → Q k) :
    Calls Tryz.prog 24 #[cellsV C, permitsV P, .agg #[.int .i64 0, .int .i64 x.at', .int .u64 x.a, .int .u64 x.b]] w fun e w' => ∃ t r v, e = .returned (pV t) ∧ Made6 w C P Q r v t w' ∧ Equiv6 [x] r v := by
  have HQ := Lib.hid hQ
  have HF := Lib.hid fun W (hb : Below w.heap.size w W) => tLoad_any C P Q x W (by simp [hk]) (fun j hj => hQ j (Nat.le_trans hb.size hj))
  clear hQ hr
  go_enter Tryz.func24, Tryz.ntmps24
  go_upto_region 1 with fail
  generalize hW : (w.alloc _) = W
  have bW : Below w.heap.size w W := by rw [← hW]; go_grown
  have q0 : Blk W w.heap.size 69 #[.int .i64 0, .int .i64 x.at', .int .u64 x.a, .int .u64 x.b] := by rw [← hW]; exact Blk.new w _ _
  clear hW
  have sW := bW.size
  have c0 : W.cell? ⟨w.heap.size, 0, none⟩ = some (.int .i64 0) := q0.cell 0 _ rfl
  have c1 : W.cell? ⟨w.heap.size, 1, none⟩ = some (.int .i64 x.at') := q0.cell 1 _ rfl
  have c2 : W.cell? ⟨w.heap.size, 2, none⟩ = some (.int .u64 x.a) := q0.cell 2 _ rfl
  have c3 : W.cell? ⟨w.heap.size, 3, none⟩ = some (.int .u64 x.b) := q0.cell 3 _ rfl
  have HF2 := Lib.hid (HF.out W bW)
  go_wp2_with (go_at_call 54; refine HF2.out.mono ?_; rintro e w2 ⟨t, rfl, h1, h2, h3⟩)
  go_ret
  exact ⟨t, [x], 0, rfl, ⟨by omega, h2, bW.trans (h3.mono sW)⟩, equiv_one (by omega)⟩
theorem one_k1 (C P : Nat) (Q : Nat → Prop) (x : Itm) (w : World) (hk : x.kind = 1) (hr : 0 ≤ x.a ∧ x.a ≤ 9223372036854775807 ∨ x.kind ≠ 7) (hQ : ∀ k, w.heap.size ≤ k → Q k) :
    Calls Tryz.prog 24 #[cellsV C, permitsV P, .agg #[.int .i64 1, .int .i64 x.at', .int .u64 x.a, .int .u64 x.b]] w fun e w' => ∃ t r v, e = .returned (pV t) ∧ Made6 w C P Q r v t w' ∧ Equiv6 [x] r v := by
  have HQ := Lib.hid hQ
  have HF := Lib.hid fun W (hb : Below w.heap.size w W) => tStore_any C P Q x W (by simp [hk]) (fun j hj => hQ j (Nat.le_trans hb.size hj))
  clear hQ hr
  go_enter Tryz.func24, Tryz.ntmps24
  go_upto_region 1 with fail
  generalize hW : (w.alloc _) = W
  have bW : Below w.heap.size w W := by rw [← hW]; go_grown
  have q0 : Blk W w.heap.size 69 #[.int .i64 1, .int .i64 x.at', .int .u64 x.a, .int .u64 x.b] := by rw [← hW]; exact Blk.new w _ _
  clear hW
  have sW := bW.size
  have c0 : W.cell? ⟨w.heap.size, 0, none⟩ = some (.int .i64 1) := q0.cell 0 _ rfl
  have c1 : W.cell? ⟨w.heap.size, 1, none⟩ = some (.int .i64 x.at') := q0.cell 1 _ rfl
  have c2 : W.cell? ⟨w.heap.size, 2, none⟩ = some (.int .u64 x.a) := q0.cell 2 _ rfl
  have c3 : W.cell? ⟨w.heap.size, 3, none⟩ = some (.int .u64 x.b) := q0.cell 3 _ rfl
  have HF2 := Lib.hid (HF.out W bW)
  go_wp2_with (go_at_call 55; refine HF2.out.mono ?_; rintro e w2 ⟨t, rfl, h1, h2, h3⟩)
  go_ret
  exact ⟨t, [x], 0, rfl, ⟨by omega, h2, bW.trans (h3.mono sW)⟩, equiv_one (by omega)⟩
theorem one_k2 (C P : Nat) (Q : Nat → Prop) (x : Itm) (w : World) (hk : x.kind = 2) (hr : 0 ≤ x.a ∧ x.a ≤ 9223372036854775807 ∨ x.kind ≠ 7) (hQ : ∀ k, w.heap.size ≤ k → Q k) :
    Calls Tryz.prog 24 #[cellsV C, permitsV P, .agg #[.int .i64 2, .int .i64 x.at', .int .u64 x.a, .int .u64 x.b]] w fun e w' => ∃ t r v, e = .returned (pV t) ∧ Made6 w C P Q r v t w' ∧ Equiv6 [x] r v := by
  have HQ := Lib.hid hQ
  have HF := Lib.hid fun W (hb : Below w.heap.size w W) => tSwap_any C P Q x W (by simp [hk]) (fun j hj => hQ j (Nat.le_trans hb.size hj))
  clear hQ hr
  go_enter Tryz.func24, Tryz.ntmps24
  go_upto_region 1 with fail
  generalize hW : (w.alloc _) = W
  have bW : Below w.heap.size w W := by rw [← hW]; go_grown
  have q0 : Blk W w.heap.size 69 #[.int .i64 2, .int .i64 x.at', .int .u64 x.a, .int .u64 x.b] := by rw [← hW]; exact Blk.new w _ _
  clear hW
  have sW := bW.size
  have c0 : W.cell? ⟨w.heap.size, 0, none⟩ = some (.int .i64 2) := q0.cell 0 _ rfl
  have c1 : W.cell? ⟨w.heap.size, 1, none⟩ = some (.int .i64 x.at') := q0.cell 1 _ rfl
  have c2 : W.cell? ⟨w.heap.size, 2, none⟩ = some (.int .u64 x.a) := q0.cell 2 _ rfl
  have c3 : W.cell? ⟨w.heap.size, 3, none⟩ = some (.int .u64 x.b) := q0.cell 3 _ rfl
  have HF2 := Lib.hid (HF.out W bW)
  go_wp2_with (go_at_call 56; refine HF2.out.mono ?_; rintro e w2 ⟨t, rfl, h1, h2, h3⟩)
  go_ret
  exact ⟨t, [x], 0, rfl, ⟨by omega, h2, bW.trans (h3.mono sW)⟩, equiv_one (by omega)⟩
theorem one_k3 (C P : Nat) (Q : Nat → Prop) (x : Itm) (w : World) (hk : x.kind = 3) (hr : 0 ≤ x.a ∧ x.a ≤ 9223372036854775807 ∨ x.kind ≠ 7) (hQ : ∀ k, w.heap.size ≤ k → Q k) :
    Calls Tryz.prog 24 #[cellsV C, permitsV P, .agg #[.int .i64 3, .int .i64 x.at', .int .u64 x.a, .int .u64 x.b]] w fun e w' => ∃ t r v, e = .returned (pV t) ∧ Made6 w C P Q r v t w' ∧ Equiv6 [x] r v := by
  have HQ := Lib.hid hQ
  have HF := Lib.hid fun W (hb : Below w.heap.size w W) => tAdd_any C P Q x W (by simp [hk]) (fun j hj => hQ j (Nat.le_trans hb.size hj))
  clear hQ hr
  go_enter Tryz.func24, Tryz.ntmps24
  go_upto_region 1 with fail
  generalize hW : (w.alloc _) = W
  have bW : Below w.heap.size w W := by rw [← hW]; go_grown
  have q0 : Blk W w.heap.size 69 #[.int .i64 3, .int .i64 x.at', .int .u64 x.a, .int .u64 x.b] := by rw [← hW]; exact Blk.new w _ _
  clear hW
  have sW := bW.size
  have c0 : W.cell? ⟨w.heap.size, 0, none⟩ = some (.int .i64 3) := q0.cell 0 _ rfl
  have c1 : W.cell? ⟨w.heap.size, 1, none⟩ = some (.int .i64 x.at') := q0.cell 1 _ rfl
  have c2 : W.cell? ⟨w.heap.size, 2, none⟩ = some (.int .u64 x.a) := q0.cell 2 _ rfl
  have c3 : W.cell? ⟨w.heap.size, 3, none⟩ = some (.int .u64 x.b) := q0.cell 3 _ rfl
  have HF2 := Lib.hid (HF.out W bW)
  go_wp2_with (go_at_call 57; refine HF2.out.mono ?_; rintro e w2 ⟨t, rfl, h1, h2, h3⟩)
  go_ret
  exact ⟨t, [x], 0, rfl, ⟨by omega, h2, bW.trans (h3.mono sW)⟩, equiv_one (by omega)⟩
theorem one_k4 (C P : Nat) (Q : Nat → Prop) (x : Itm) (w : World) (hk : x.kind = 4) (hr : 0 ≤ x.a ∧ x.a ≤ 9223372036854775807 ∨ x.kind ≠ 7) (hQ : ∀ k, w.heap.size ≤ k → Q k) :
    Calls Tryz.prog 24 #[cellsV C, permitsV P, .agg #[.int .i64 4, .int .i64 x.at', .int .u64 x.a, .int .u64 x.b]] w fun e w' => ∃ t r v, e = .returned (pV t) ∧ Made6 w C P Q r v t w' ∧ Equiv6 [x] r v := by
  have HQ := Lib.hid hQ
  have HF := Lib.hid fun W (hb : Below w.heap.size w W) => tspin_any C P Q x W hk (fun j hj => hQ j (Nat.le_trans hb.size hj))
  clear hQ hr
  go_enter Tryz.func24, Tryz.ntmps24
  go_upto_region 1 with fail
  generalize hW : (w.alloc _) = W
  have bW : Below w.heap.size w W := by rw [← hW]; go_grown
  have q0 : Blk W w.heap.size 69 #[.int .i64 4, .int .i64 x.at', .int .u64 x.a, .int .u64 x.b] := by rw [← hW]; exact Blk.new w _ _
  clear hW
  have sW := bW.size
  have c0 : W.cell? ⟨w.heap.size, 0, none⟩ = some (.int .i64 4) := q0.cell 0 _ rfl
  have c1 : W.cell? ⟨w.heap.size, 1, none⟩ = some (.int .i64 x.at') := q0.cell 1 _ rfl
  have c2 : W.cell? ⟨w.heap.size, 2, none⟩ = some (.int .u64 x.a) := q0.cell 2 _ rfl
  have c3 : W.cell? ⟨w.heap.size, 3, none⟩ = some (.int .u64 x.b) := q0.cell 3 _ rfl
  have HF2 := Lib.hid (HF.out W bW)
  go_wp2_with (go_at_call 58; refine HF2.out.mono ?_; rintro e w2 ⟨t, rfl, h1, h2, h3⟩)
  go_ret
  exact ⟨t, [x], 0, rfl, ⟨by omega, h2, bW.trans (h3.mono sW)⟩, equiv_one (by omega)⟩
theorem one_k5 (C P : Nat) (Q : Nat → Prop) (x : Itm) (w : World) (hk : x.kind = 5) (hr : 0 ≤ x.a ∧ x.a ≤ 9223372036854775807 ∨ x.kind ≠ 7) (hQ : ∀ k, w.heap.size ≤ k → Q k) :
    Calls Tryz.prog 24 #[cellsV C, permitsV P, .agg #[.int .i64 5, .int .i64 x.at', .int .u64 x.a, .int .u64 x.b]] w fun e w' => ∃ t r v, e = .returned (pV t) ∧ Made6 w C P Q r v t w' ∧ Equiv6 [x] r v := by
  have HQ := Lib.hid hQ
  have HF := Lib.hid fun W (hb : Below w.heap.size w W) => tpark_any C P Q x W (.inl hk) (fun j hj => hQ j (Nat.le_trans hb.size hj))
  rw [show (x.kind == 6) = false by rw [hk]; rfl] at HF
  clear hQ hr
  go_enter Tryz.func24, Tryz.ntmps24
  go_upto_region 1 with fail
  generalize hW : (w.alloc _) = W
  have bW : Below w.heap.size w W := by rw [← hW]; go_grown
  have q0 : Blk W w.heap.size 69 #[.int .i64 5, .int .i64 x.at', .int .u64 x.a, .int .u64 x.b] := by rw [← hW]; exact Blk.new w _ _
  clear hW
  have sW := bW.size
  have c0 : W.cell? ⟨w.heap.size, 0, none⟩ = some (.int .i64 5) := q0.cell 0 _ rfl
  have c1 : W.cell? ⟨w.heap.size, 1, none⟩ = some (.int .i64 x.at') := q0.cell 1 _ rfl
  have c2 : W.cell? ⟨w.heap.size, 2, none⟩ = some (.int .u64 x.a) := q0.cell 2 _ rfl
  have c3 : W.cell? ⟨w.heap.size, 3, none⟩ = some (.int .u64 x.b) := q0.cell 3 _ rfl
  have HF2 := Lib.hid (HF.out W bW)
  go_wp2_with (go_at_call 59; refine HF2.out.mono ?_; rintro e w2 ⟨t, rfl, h1, h2, h3⟩)
  go_ret
  exact ⟨t, [x], 0, rfl, ⟨by omega, h2, bW.trans (h3.mono sW)⟩, equiv_one (by omega)⟩
theorem one_k6 (C P : Nat) (Q : Nat → Prop) (x : Itm) (w : World) (hk : x.kind = 6) (hr : 0 ≤ x.a ∧ x.a ≤ 9223372036854775807 ∨ x.kind ≠ 7) (hQ : ∀ k, w.heap.size ≤ k → Q k) :
    Calls Tryz.prog 24 #[cellsV C, permitsV P, .agg #[.int .i64 6, .int .i64 x.at', .int .u64 x.a, .int .u64 x.b]] w fun e w' => ∃ t r v, e = .returned (pV t) ∧ Made6 w C P Q r v t w' ∧ Equiv6 [x] r v := by
  have HQ := Lib.hid hQ
  have HF := Lib.hid fun W (hb : Below w.heap.size w W) => tpark_any C P Q x W (.inr hk) (fun j hj => hQ j (Nat.le_trans hb.size hj))
  rw [show (x.kind == 6) = true by rw [hk]; rfl] at HF
  clear hQ hr
  go_enter Tryz.func24, Tryz.ntmps24
  go_upto_region 1 with fail
  generalize hW : (w.alloc _) = W
  have bW : Below w.heap.size w W := by rw [← hW]; go_grown
  have q0 : Blk W w.heap.size 69 #[.int .i64 6, .int .i64 x.at', .int .u64 x.a, .int .u64 x.b] := by rw [← hW]; exact Blk.new w _ _
  clear hW
  have sW := bW.size
  have c0 : W.cell? ⟨w.heap.size, 0, none⟩ = some (.int .i64 6) := q0.cell 0 _ rfl
  have c1 : W.cell? ⟨w.heap.size, 1, none⟩ = some (.int .i64 x.at') := q0.cell 1 _ rfl
  have c2 : W.cell? ⟨w.heap.size, 2, none⟩ = some (.int .u64 x.a) := q0.cell 2 _ rfl
  have c3 : W.cell? ⟨w.heap.size, 3, none⟩ = some (.int .u64 x.b) := q0.cell 3 _ rfl
  have HF2 := Lib.hid (HF.out W bW)
  go_wp2_with (go_at_call 59; refine HF2.out.mono ?_; rintro e w2 ⟨t, rfl, h1, h2, h3⟩)
  go_ret
  exact ⟨t, [x], 0, rfl, ⟨by omega, h2, bW.trans (h3.mono sW)⟩, equiv_one (by omega)⟩
theorem one_k7 (C P : Nat) (Q : Nat → Prop) (x : Itm) (w : World) (hk : x.kind = 7) (hr : 0 ≤ x.a ∧ x.a ≤ 9223372036854775807 ∨ x.kind ≠ 7) (hQ : ∀ k, w.heap.size ≤ k → Q k) :
    Calls Tryz.prog 24 #[cellsV C, permitsV P, .agg #[.int .i64 7, .int .i64 x.at', .int .u64 x.a, .int .u64 x.b]] w fun e w' => ∃ t r v, e = .returned (pV t) ∧ Made6 w C P Q r v t w' ∧ Equiv6 [x] r v := by
  have HQ := Lib.hid hQ
  have hwr : IntKind.i64.wrap x.a = x.a := by
    rcases hr with hr | hr
    · obtain ⟨h1, h2⟩ := hr
      rw [IntKind.wrap_i64]; omega
    · exact absurd hk hr
  clear hQ hr
  go_enter Tryz.func24, Tryz.ntmps24
  go_upto_region 1 with fail
  generalize hW : (w.alloc _) = W
  have bW : Below w.heap.size w W := by rw [← hW]; go_grown
  have q0 : Blk W w.heap.size 69 #[.int .i64 7, .int .i64 x.at', .int .u64 x.a, .int .u64 x.b] := by rw [← hW]; exact Blk.new w _ _
  clear hW
  have sW := bW.size
  have c0 : W.cell? ⟨w.heap.size, 0, none⟩ = some (.int .i64 7) := q0.cell 0 _ rfl
  have c1 : W.cell? ⟨w.heap.size, 1, none⟩ = some (.int .i64 x.at') := q0.cell 1 _ rfl
  have c2 : W.cell? ⟨w.heap.size, 2, none⟩ = some (.int .u64 x.a) := q0.cell 2 _ rfl
  have c3 : W.cell? ⟨w.heap.size, 3, none⟩ = some (.int .u64 x.b) := q0.cell 3 _ rfl
  go_wp2_with (go_at_call 60; refine (tready_any C P Q _ _).mono ?_; rintro e w2 ⟨t, rfl, h1, h2, h3⟩)
  go_ret
  refine ⟨t, [], x.a, rfl, ⟨by omega, ?_, bW.trans (h3.mono sW)⟩, equiv_ready hk⟩
  first | exact h2 | (rw [hwr] at h2; exact h2)
theorem one6_any (C P : Nat) (Q : Nat → Prop) (x : Itm) (w : World) (hx : x.ok) (hQ : ∀ k, w.heap.size ≤ k → Q k) :
    Calls Tryz.prog 24 #[cellsV C, permitsV P, .agg #[.int .i64 x.kind, .int .i64 x.at', .int .u64 x.a, .int .u64 x.b]] w fun e w' => ∃ t r v, e = .returned (pV t) ∧ Made6 w C P Q r v t w' ∧ Equiv6 [x] r v := by
  have hk := hx.kind
  have hr : 0 ≤ x.a ∧ x.a ≤ 9223372036854775807 ∨ x.kind ≠ 7 := by
    by_cases h : x.kind = 7
    · exact .inl ⟨hx.a.1, hx.ready h⟩
    · exact .inr h
  have hc : x.kind = 0 ∨ x.kind = 1 ∨ x.kind = 2 ∨ x.kind = 3 ∨ x.kind = 4 ∨ x.kind = 5 ∨ x.kind = 6 ∨ x.kind = 7 := by omega
  rcases hc with h | h | h | h | h | h | h | h
  · have := one_k0 C P Q x w h hr hQ
    rw [show ((x.kind : Nat) : Int) = 0 by rw [h]; rfl]
    exact this
  · have := one_k1 C P Q x w h hr hQ
    rw [show ((x.kind : Nat) : Int) = 1 by rw [h]; rfl]
    exact this
  · have := one_k2 C P Q x w h hr hQ
    rw [show ((x.kind : Nat) : Int) = 2 by rw [h]; rfl]
    exact this
  · have := one_k3 C P Q x w h hr hQ
    rw [show ((x.kind : Nat) : Int) = 3 by rw [h]; rfl]
    exact this
  · have := one_k4 C P Q x w h hr hQ
    rw [show ((x.kind : Nat) : Int) = 4 by rw [h]; rfl]
    exact this
  · have := one_k5 C P Q x w h hr hQ
    rw [show ((x.kind : Nat) : Int) = 5 by rw [h]; rfl]
    exact this
  · have := one_k6 C P Q x w h hr hQ
    rw [show ((x.kind : Nat) : Int) = 6 by rw [h]; rfl]
    exact this
  · have := one_k7 C P Q x w h hr hQ
    rw [show ((x.kind : Nat) : Int) = 7 by rw [h]; rfl]
    exact this
end Go.Proofs.YtpopcallphbklaaGreat
/- Layer 8's law: the task of items. -/
namespace Go.Proofs.YtpopcallphbklaaGreat
open Go.ChangeShapes Go.WideShapes Go.ChangeAt Go.RowKit
set_option linter.unusedVariables false
set_option maxRecDepth 100000
set_option linter.unusedSimpArgs false
theorem own_keep6 {w w' : World} {B size n : Nat} {e : TypeId} {v : Value} {xs : List Value} {F : Nat → Prop} (h : w.ownsRow B e size v n xs) (hk : Keep F w w') (hQ : ∀ g, v.ownBlock = some g → ¬ F g) : w'.ownsRow B e size v n xs := by
  refine ⟨h.1, ?_⟩
  rcases h.2 with h | ⟨g, cap, cur, hv, hg, hh, r⟩
  · exact .inl h
  · exact .inr ⟨g, cap, cur, hv, hg, (hk.block g (Array.getElem?_eq_some_iff.1 hh).1 (hQ g (by rw [hv]; rfl))).trans hh, r⟩
theorem own_lt6 {w : World} {B size n : Nat} {e : TypeId} {v : Value} {xs : List Value} (h : w.ownsRow B e size v n xs) {g : Nat} (hg : v.ownBlock = some g) : B ≤ g ∧ g < w.heap.size := by
  rcases h.2 with ⟨hv, _⟩ | ⟨g', cap, cur, hv, hb, hh, _⟩
  · rw [hv] at hg; cases hg
  · rw [hv] at hg
    obtain rfl : g' = g := by simpa [Value.ownBlock] using hg
    exact ⟨hb, (Array.getElem?_eq_some_iff.1 hh).1⟩
theorem grown_keep6 {w w2 : World} {r : Option Nat} {o : Obj} (hg : (w.alloc o).grownBy w2 r) : Keep (fun b => r = some b) w w2 :=
  ⟨hg.1, hg.2, hg.3, Nat.le_trans (by simp) hg.4, fun k hk hn => (hg.5 k (by simp; omega) (fun e => hn e.symm)).trans (Below.heap_alloc w o k hk)⟩
def ptrs (L : List (Option Addr × List Itm)) : List Value := L.map fun y => Value.pointer y.1
def ElemsAt (w : World) (C P : Nat) (Q : Nat → Prop) (L : List (Option Addr × List Itm)) : Prop := ∀ y ∈ L, Elem (Cont w C P Q) w C P Q y.1 y.2
theorem ElemsAt.keep {w w1 : World} {C P : Nat} {Q Q' F : Nat → Prop} {L : List (Option Addr × List Itm)} (h : ElemsAt w C P Q L) (hk : Keep F w w1) (hd : ∀ b, Q b → ¬ F b) (hq : ∀ b, b < w.heap.size → Q b → Q' b) : ElemsAt w1 C P Q' L :=
  fun y hy => (h y hy).keep (fun f s h => h.keep hk hd hq) hk hd hq
/-- behind so many items: what the two rows have -/
structure AInv (w0 wr : World) (C P : Nat) (l : List Itm) (k : Nat) (vo vp : Value) (O L : List (Option Addr × List Itm)) (Q : Nat → Prop) : Prop where
  o : wr.ownsRow w0.heap.size 66 1 vo O.length (ptrs O)
  p : wr.ownsRow w0.heap.size 66 1 vp L.length (ptrs L)
  o0 : O = [] → vo = .slice none 0 0
  p0 : L = [] → vp = .slice none 0 0
  fl : flat O ++ flat L = l.take k
  eo : ElemsAt wr C P Q O
  ep : ElemsAt wr C P Q L
  low : ∀ b, Q b → w0.heap.size ≤ b
  qo : ∀ g, vo.ownBlock = some g → ¬ Q g
  qp : ∀ g, vp.ownBlock = some g → ¬ Q g
  ne : ∀ g, vo.ownBlock = some g → vp.ownBlock ≠ some g
  below : Below w0.heap.size w0 wr
  fo : O.length ≤ k
  fp : L.length ≤ k
/-- of what new things are made, ahead of world w2 -/
def Qn (Q : Nat → Prop) (wr : World) : Nat → Prop := fun b => (Q b ∧ b < wr.heap.size) ∨ wr.heap.size ≤ b
theorem flat_append (A B : List (Option Addr × List Itm)) : flat (A ++ B) = flat A ++ flat B := by simp [flat]
theorem flat_one (a : Option Addr) (s : List Itm) : flat [(a, s)] = s := by simp [flat]
/-- an item's task goes to the part -/
theorem AInv.push {w0 wr w2 w5 : World} {C P : Nat} {l : List Itm} {k : Nat} {vo vp : Value} {O L : List (Option Addr × List Itm)} {Q : Nat → Prop} {x : Itm} {r : List Itm} {v : Int} {t g cap : Nat} {o : Obj}
    (h : AInv w0 wr C P l k vo vp O L Q) (hx : l[k]? = some x) (hM : Made6 wr C P (Qn Q wr) r v t w2) (hE : Equiv6 [x] r v)
    (h5 : w5.ownsRow w0.heap.size 66 1 (.slice (some ⟨g, 0, none⟩) (L.length + 1) cap) (L.length + 1) (ptrs L ++ [pV t])) (hgr : (w2.alloc o).grownBy w5 vp.ownBlock) (hg : vp.ownBlock = some g ∨ (w2.alloc o).heap.size ≤ g) :
    AInv w0 w5 C P l (k + 1) vo (.slice (some ⟨g, 0, none⟩) (L.length + 1) cap) O (L ++ [(some ⟨t, 0, none⟩, [x])]) (fun b => Qn Q wr b ∧ b < w2.heap.size) := by
  have hsr := h.below.size
  have hs2 := hM.2.2.size
  have kM : Keep (fun _ => False) wr w2 := Keep.ofBelow hM.2.2
  have k5 := grown_keep6 hgr
  have hq : ∀ b, b < wr.heap.size → Q b → (Qn Q wr b ∧ b < w2.heap.size) := fun b hb h => ⟨.inl ⟨h, hb⟩, by omega⟩
  have hown : ∀ b, Qn Q wr b ∧ b < w2.heap.size → ¬ vp.ownBlock = some b := fun b hb e => by
    have := (own_lt6 h.p e).2
    rcases hb.1 with hb | hb
    · exact h.qp b e hb.1
    · omega
  rw [World.size_alloc] at hg
  refine ⟨own_keep6 (own_keep6 h.o kM (fun _ _ h => h)) k5 (fun j hj => h.ne j hj), by simpa [ptrs] using h5, h.o0, fun e => by simp at e, ?_, (h.eo.keep kM (fun _ _ h => h) hq).keep k5 hown (fun _ _ h => h), ?_, fun b hb => ?_, fun j hj hb => ?_, fun j hj hb => ?_, fun j hj hj2 => ?_, ?_, by have := h.fo; omega, by have := h.fp; simp; omega⟩
  · rw [flat_append, flat_one, take_at hx, ← List.append_assoc, h.fl]
  · intro y hy
    rw [List.mem_append] at hy
    rcases hy with hy | hy
    · exact ((h.ep.keep kM (fun _ _ h => h) hq).keep k5 hown (fun _ _ h => h)) y hy
    · obtain rfl := List.mem_singleton.1 hy
      have e1 : ElemsAt w2 C P (fun b => Qn Q wr b ∧ b < w2.heap.size) [(some ⟨t, 0, none⟩, [x])] := fun z hz => by
        obtain rfl := List.mem_singleton.1 hz
        exact .inr ⟨t, r, v, rfl, ⟨.inr hM.1, hM.2.1.lt⟩, TaskC.keep (F := fun _ => False) hM.task (Keep.refl _ _) (fun _ _ h => h) (fun h => h) (fun b hb h => ⟨h, hb⟩), hE⟩
      exact (e1.keep k5 hown (fun _ _ h => h)) _ (by simp)
  · rcases hb.1 with hb | hb
    · exact h.low b hb.1
    · omega
  · have := own_lt6 h.o hj
    rcases hb.1 with hb | hb
    · exact h.qo j hj hb.1
    · omega
  · obtain rfl : g = j := by simpa [Value.ownBlock] using hj
    rcases hg with hg | hg
    · exact hown g hb hg
    · omega
  · obtain rfl : g = j := by simpa [Value.ownBlock] using hj2
    have := own_lt6 h.o hj
    rcases hg with hg | hg
    · exact h.ne g hj hg
    · omega
  · exact (h.below.trans (hM.2.2.mono hsr)).trans (k5.below (by omega) (fun i _ e => (own_lt6 h.p e).1))
/-- a part's task goes to the tasks -/
theorem AInv.chunk {w0 wr w2 w5 : World} {C P : Nat} {l : List Itm} {k : Nat} {vo vp : Value} {O L : List (Option Addr × List Itm)} {Q : Nat → Prop} {r : List Itm} {v : Int} {t g cap : Nat} {o : Obj}
    (h : AInv w0 wr C P l k vo vp O L Q) (hL : L ≠ []) (hk : O.length + 1 ≤ k) (hM : Made6 wr C P (Qn Q wr) r v t w2) (hE : Res6 L r v)
    (h5 : w5.ownsRow w0.heap.size 66 1 (.slice (some ⟨g, 0, none⟩) (O.length + 1) cap) (O.length + 1) (ptrs O ++ [pV t])) (hgr : (w2.alloc o).grownBy w5 vo.ownBlock) (hg : vo.ownBlock = some g ∨ (w2.alloc o).heap.size ≤ g) :
    AInv w0 w5 C P l k (.slice (some ⟨g, 0, none⟩) (O.length + 1) cap) (.slice none 0 0) (O ++ [(some ⟨t, 0, none⟩, flat L)]) [] (fun b => Qn Q wr b ∧ b < w2.heap.size) := by
  have hsr := h.below.size
  have hs2 := hM.2.2.size
  have kM : Keep (fun _ => False) wr w2 := Keep.ofBelow hM.2.2
  have k5 := grown_keep6 hgr
  have hq : ∀ b, b < wr.heap.size → Q b → (Qn Q wr b ∧ b < w2.heap.size) := fun b hb h => ⟨.inl ⟨h, hb⟩, by omega⟩
  have hown : ∀ b, Qn Q wr b ∧ b < w2.heap.size → ¬ vo.ownBlock = some b := fun b hb e => by
    have := (own_lt6 h.o e).2
    rcases hb.1 with hb | hb
    · exact h.qo b e hb.1
    · omega
  rw [World.size_alloc] at hg
  refine ⟨by simpa [ptrs] using h5, by simpa [ptrs] using World.ownsRow_nil w5 w0.heap.size 66 1, fun e => by simp at e, fun _ => rfl, ?_, ?_, fun y hy => by simp at hy, fun b hb => ?_, fun j hj hb => ?_, fun j hj => by simp [Value.ownBlock] at hj, fun j _ => by simp [Value.ownBlock], ?_, by simpa using hk, by simp⟩
  · rw [flat_append, flat_one]
    have := h.fl
    simpa [Go.Proofs.YtpopcallphbklaaGreat.flat] using this
  · intro y hy
    rw [List.mem_append] at hy
    rcases hy with hy | hy
    · exact ((h.eo.keep kM (fun _ _ h => h) hq).keep k5 hown (fun _ _ h => h)) y hy
    · obtain rfl := List.mem_singleton.1 hy
      have e1 : ElemsAt w2 C P (fun b => Qn Q wr b ∧ b < w2.heap.size) [(some ⟨t, 0, none⟩, flat L)] := fun z hz => by
        obtain rfl := List.mem_singleton.1 hz
        rcases hE with ⟨hE, _⟩ | ⟨_, hE⟩
        · exact absurd hE hL
        · exact .inr ⟨t, r, v, rfl, ⟨.inr hM.1, hM.2.1.lt⟩, TaskC.keep (F := fun _ => False) hM.task (Keep.refl _ _) (fun _ _ h => h) (fun h => h) (fun b hb h => ⟨h, hb⟩), hE⟩
      exact (e1.keep k5 hown (fun _ _ h => h)) _ (by simp)
  · rcases hb.1 with hb | hb
    · exact h.low b hb.1
    · omega
  · obtain rfl : g = j := by simpa [Value.ownBlock] using hj
    rcases hg with hg | hg
    · exact hown g hb hg
    · omega
  · exact (h.below.trans (hM.2.2.mono hsr)).trans (k5.below (by omega) (fun i _ e => (own_lt6 h.o e).1))
theorem rowAt_of {wr : World} {C P B g cap : Nat} {Q : Nat → Prop} {L : List (Option Addr × List Itm)} (hr : wr.ownsRow B 66 1 (.slice (some ⟨g, 0, none⟩) L.length cap) L.length (ptrs L)) (he : ElemsAt wr C P Q L) : RowAt (Cont wr C P Q) wr C P Q g 0 L := fun i y hy => by
  refine ⟨?_, he y (List.mem_of_getElem? hy)⟩
  have := hr.cells (g := g) rfl i (.pointer y.1) (by rw [ptrs, List.getElem?_map, hy]; rfl)
  rwa [addr_add] at this
/-- what Seq of all makes -/
theorem all_end {w w5 w' : World} {C P : Nat} {l : List Itm} {O L : List (Option Addr × List Itm)} {Q : Nat → Prop} {r : List Itm} {v : Int} {t : Nat} (hf : flat O ++ flat L = l) (hlow : ∀ b, Q b → w.heap.size ≤ b) (hb : Below w.heap.size w w5) (hM : Made6 w5 C P (Qn Q w5) r v t w') (hE : Res6 (O ++ L) r v) :
    Made6 w C P (fun b => w.heap.size ≤ b) (onS l 0).1 (onS l 0).2 t w' := by
  have hs := hb.size
  refine ⟨by have := hM.1; omega, ?_, hb.trans (hM.2.2.mono hs)⟩
  have h0 : TaskC w' C P (fun b => w.heap.size ≤ b ∧ b ≠ t) t r v := hM.2.1.keep (F := fun _ => False) (Keep.refl _ _) (fun _ _ h => h) (fun h => h) (fun b _ h => ⟨by
    rcases h.1 with h | h
    · exact hlow b h.1
    · omega, h.2⟩)
  rcases hE with ⟨e, rfl, rfl⟩ | ⟨_, hE⟩
  · obtain ⟨rfl, rfl⟩ := List.append_eq_nil_iff.1 e
    simp [flat] at hf
    subst hf
    exact h0
  · rw [flat_append, hf] at hE
    rw [(hE.on 0).1]
    exact TaskIn.value h0 _ (fun h => (hE.on 0).2 h)
end Go.Proofs.YtpopcallphbklaaGreat
/- A machine of the program's and one of the document's, side by side. -/
namespace Go.Proofs.YtpopcallphbklaaGreat
open Go.ChangeShapes Go.WideShapes Go.ChangeAt Go.RowKit
set_option linter.unusedVariables false
set_option maxRecDepth 100000
set_option linter.unusedSimpArgs false
/-- the blocks that stay: of cells, permits and machine; of the document's world and machine -/
structure PIds where
  C : Nat
  S : Nat
  P : Nat
  R : Nat
  cs : List Nat
  M : Nat
  D : Nat
  W : Nat
  V : Nat
  G : Nat
def PIds.fx (c : PIds) (b : Nat) : Prop := b = c.C ∨ b = c.S ∨ b = c.P ∨ b = c.R ∨ b ∈ c.cs
def PIds.dx (c : PIds) (b : Nat) : Prop := b = c.D ∨ b = c.W ∨ b = c.V
/-- both, of the blocks of which A is said: the program's state s, the document's q -/
structure Play (w : World) (c : PIds) (A : Nat → Prop) (s q : St) : Prop where
  it : ∃ U V L, MachS w c.C c.S c.P c.R c.cs c.M U s ∧ RMach w c.G V L ∧ L.map RTh.x = q.ts ∧ (∀ b, U b → A b ∧ ¬ V b ∧ ¬ c.dx b) ∧ ∀ b, V b → A b ∧ ¬ c.fx b ∧ ¬ c.dx b
  perm : PermitsAt w c.P c.R c.cs s.ps
  world : RWorld w c.D c.W c.V q.m q.ps q.n
  ok : AllOk q.ps q.ts
  fd : ∀ b, c.fx b → A b ∧ ¬ c.dx b
  dd : ∀ b, c.dx b → A b
  lt : ∀ b, A b → b < w.heap.size
theorem Play.keep {w w1 : World} {c : PIds} {A F : Nat → Prop} {s q : St} (h : Play w c A s q) (hk : Keep F w w1) (hF : ∀ b, A b → ¬ F b) : Play w1 c A s q := by
  obtain ⟨U, V, L, h1, h2, h3, h4, h5⟩ := h.it
  have nf : ∀ b, c.fx b → ¬ F b := fun b hb => hF b (h.fd b hb).1
  have nd : ∀ b, c.dx b → ¬ F b := fun b hb => hF b (h.dd b hb)
  have a1 := nf c.C (.inl rfl)
  have a2 := nf c.S (.inr (.inl rfl))
  have a3 := nf c.P (.inr (.inr (.inl rfl)))
  have a4 := nf c.R (.inr (.inr (.inr (.inl rfl))))
  have a5 : ∀ x ∈ c.cs, ¬ F x := fun x hx => nf x (.inr (.inr (.inr (.inr hx))))
  exact ⟨⟨U, V, L, h1.keep hk (fun b hb => hF b (h4 b hb).1) a1 a2 a3 a4 a5, h2.keep hk (fun b hb => hF b (h5 b hb).1), h3, h4, h5⟩, h.perm.keep hk a3 a4 a5, h.world.keep hk (nd _ (.inl rfl)) (nd _ (.inr (.inl rfl))) (nd _ (.inr (.inr rfl))), h.ok, h.fd, h.dd, fun b hb => Nat.lt_of_lt_of_le (h.lt b hb) hk.size⟩
theorem Play.still {w w1 : World} {c : PIds} {A : Nat → Prop} {s q : St} (h : Play w c A s q) (hk : Keep (fun _ => False) w w1) : Play w1 c A s q := h.keep hk (fun _ _ h => h)
theorem Play.below {w w1 : World} {c : PIds} {A : Nat → Prop} {s q : St} (h : Play w c A s q) (hb : Below w.heap.size w w1) : Play w1 c A s q := h.still (Keep.ofBelow hb)
/-- the same, of more blocks -/
theorem Play.more {w : World} {c : PIds} {A A' : Nat → Prop} {s q : St} (h : Play w c A s q) (hA : ∀ b, A b → A' b) (hl : ∀ b, A' b → b < w.heap.size) : Play w c A' s q := by
  obtain ⟨U, V, L, h1, h2, h3, h4, h5⟩ := h.it
  exact ⟨⟨U, V, L, h1, h2, h3, fun b hb => ⟨hA b (h4 b hb).1, (h4 b hb).2⟩, fun b hb => ⟨hA b (h5 b hb).1, (h5 b hb).2⟩⟩, h.perm, h.world, h.ok, fun b hb => ⟨hA b (h.fd b hb).1, (h.fd b hb).2⟩, fun b hb => hA b (h.dd b hb), hl⟩
/-- what is made of a draft -/
def drawnT (n : Nat) (row : List (List Raw)) : List Tsk := (row.take 5).map fun R => onS (fewS n R) 0
def drawnX (n : Nat) (N : List (List (List Raw))) : List Thr := N.map fun row => goS (drawnT n row) []
abbrev threadsOf (N : List (List (List Raw))) : Nat := max 1 (min N.length 6)
def startS (f : List Int) (n : Nat) (N : List (List (List Raw))) (k : Int) : St := ⟨f, List.replicate n false, drawnX n N, k⟩
/-- a draft that came in -/
def DraftAt (w : World) (n0 : Nat) (a : Option Addr) (N : List (List (List Raw))) : Prop :=
  ∀ (t : Nat) row, N[t]? = some row → ∃ b o, a = some ⟨b, o, none⟩ ∧ b < n0 ∧ ∃ a' c', w.cell? ⟨b, o + t, none⟩ = some (.slice a' row.length c') ∧
    ∀ (k : Nat) R, row[k]? = some R → R.length ≤ 9223372036854775807 ∧ ∃ b' o', a' = some ⟨b', o', none⟩ ∧ b' < n0 ∧ ∃ a'' c'', w.cell? ⟨b', o' + k, none⟩ = some (.slice a'' R.length c'') ∧ RawsAt w n0 a'' R
theorem DraftAt.below {w w1 : World} {n0 : Nat} {a : Option Addr} {N : List (List (List Raw))} (h : DraftAt w n0 a N) (hb : Below n0 w w1) : DraftAt w1 n0 a N := fun t row ht => by
  obtain ⟨b, o, e, hl, a', c', h1, h2⟩ := h t row ht
  refine ⟨b, o, e, hl, a', c', (hb.cell (p := ⟨b, _, none⟩) hl).trans h1, fun k R hk => ?_⟩
  obtain ⟨h3, b', o', e', hl', a'', c'', h4, h5⟩ := h2 k R hk
  exact ⟨h3, b', o', e', hl', a'', c'', (hb.cell (p := ⟨b', _, none⟩) hl').trans h4, h5.below hb⟩
end Go.Proofs.YtpopcallphbklaaGreat
/- Layer 8's law: made: the tasks of a thread, of the program's and of the document's, while they are made. -/
namespace Go.Proofs.YtpopcallphbklaaGreat
open Go.ChangeShapes Go.WideShapes Go.ChangeAt Go.RowKit
set_option linter.unusedVariables false
set_option maxRecDepth 100000
set_option linter.unusedSimpArgs false
/-- a slice of the program's tasks, of the blocks of which X is said -/
structure PIn (w0 wr : World) (C P : Nat) (v : Value) (TK : List Tk) (X : Nat → Prop) : Prop where
  tks : TksAt wr C P TK
  row : wr.ownsRow w0.heap.size 66 1 v TK.length (TK.map fun k => pV k.t)
  own : ∀ g, v.ownBlock = some g → X g ∧ ∀ j ∈ TK, ¬ j.Q g
  q : ∀ j ∈ TK, ∀ b, j.Q b → X b
  rng : ∀ b, X b → w0.heap.size ≤ b ∧ b < wr.heap.size
  nil : TK = [] → v = .slice none 0 0
  le : w0.heap.size ≤ wr.heap.size
theorem PIn.first (w : World) (C P : Nat) : PIn w w C P (.slice none 0 0) [] (fun _ => False) :=
  ⟨⟨fun k h => by simp at h, List.Pairwise.nil⟩, World.ownsRow_nil _ _ _ _, fun g h => by simp [Value.ownBlock] at h, fun j h => by simp at h, fun b h => h.elim, fun _ => rfl, Nat.le_refl _⟩
theorem PIn.keep {w0 wr w1 : World} {C P : Nat} {v : Value} {TK : List Tk} {X F : Nat → Prop} (h : PIn w0 wr C P v TK X) (hk : Keep F wr w1) (hF : ∀ b, X b → ¬ F b) : PIn w0 w1 C P v TK X :=
  ⟨h.tks.keep hk (fun k hk' b hb => hF b (h.q k hk' b hb)), row_ownkeep h.row hk (fun g hg => hF g (h.own g hg).1), h.own, h.q, fun b hb => ⟨(h.rng b hb).1, Nat.lt_of_lt_of_le (h.rng b hb).2 hk.size⟩, h.nil, Nat.le_trans h.le hk.size⟩
theorem PIn.next {w0 w2 w6 w8 : World} {C P g cap t : Nat} {v : Value} {TK : List Tk} {X : Nat → Prop} {r : List Itm} {x : Int} {o : Obj} (h : PIn w0 w2 C P v TK X) (hM : Made6 w2 C P (fun b => w2.heap.size ≤ b) r x t w6)
    (hr : w8.ownsRow w0.heap.size 66 1 (.slice (some ⟨g, 0, none⟩) (TK.length + 1) cap) (TK.length + 1) (TK.map (fun k => pV k.t) ++ [pV t])) (hgr : (w6.alloc o).grownBy w8 v.ownBlock) (hg : v.ownBlock = some g ∨ w6.heap.size + 1 ≤ g) :
    PIn w0 w8 C P (.slice (some ⟨g, 0, none⟩) (TK.length + 1) cap) (TK ++ [⟨t, fun b => w2.heap.size ≤ b ∧ b < w6.heap.size, (r, x)⟩]) (fun b => (X b ∨ (w2.heap.size ≤ b ∧ b < w6.heap.size)) ∨ b = g) := by
  have hT := hM.tk hM.1
  have k6 : Keep (fun _ => False) w2 w6 := Keep.ofBelow hM.2.2
  have k8 := grown_keep hgr
  have s6 := k6.size
  have s8 := k8.size
  have h6 := h.keep k6 (fun _ _ h => h)
  have hle := h.le
  obtain ⟨gl, gc, gk⟩ := row_lt hr (g := g) rfl
  have nX : ∀ b, w2.heap.size ≤ b → ¬ X b := fun b hb hx => by have := (h.rng b hx).2; omega
  have nQ : ∀ j ∈ TK, ¬ j.Q g := fun j hj hq => by
    rcases hg with e | e
    · exact (h.own g e).2 j hj hq
    · have := (h.rng g (h.q j hj g hq)).2; omega
  have nN : ¬ (w2.heap.size ≤ g ∧ g < w6.heap.size) := fun hb => by
    rcases hg with e | e
    · exact nX g hb.1 (h.own g e).1
    · omega
  have vQ : ∀ b, v.ownBlock = some b → ¬ (w2.heap.size ≤ b ∧ b < w6.heap.size) := fun b e hb => nX b hb.1 (h.own b e).1
  refine ⟨⟨fun k hk => ?_, ?_⟩, by simpa using hr, fun g' e => ?_, fun j hj b hb => ?_, fun b hb => ?_, fun e => by simp at e, by omega⟩
  · rcases List.mem_append.1 hk with hk | hk
    · exact (h6.tks.1 k hk).keep k8 (fun b hb e => (h.own b e).2 k hk hb)
    · obtain rfl := List.mem_singleton.1 hk
      exact TaskG.keep hT k8 (fun b hb e => vQ b e hb)
  · rw [List.pairwise_append]
    refine ⟨h.tks.2, List.pairwise_singleton _ _, fun a ha b hb z hz hz2 => ?_⟩
    obtain rfl := List.mem_singleton.1 hb
    exact nX z hz2.1 (h.q a ha z hz)
  · obtain rfl := own_some e
    refine ⟨.inr rfl, fun j hj => ?_⟩
    rcases List.mem_append.1 hj with hj | hj
    · exact nQ j hj
    · obtain rfl := List.mem_singleton.1 hj
      exact nN
  · rcases List.mem_append.1 hj with hj | hj
    · exact .inl (.inl (h.q j hj b hb))
    · obtain rfl := List.mem_singleton.1 hj
      exact .inl (.inr hb)
  · rcases hb with (hb | hb) | rfl
    · have := h.rng b hb; omega
    · omega
    · refine ⟨?_, gl⟩
      rcases hg with e | e
      · exact (h.rng _ (h.own _ e).1).1
      · omega
theorem PIn.gives {w0 wr : World} {C P : Nat} {v : Value} {TK : List Tk} {X : Nat → Prop} (h : PIn w0 wr C P v TK X) : Gives wr C P X v TK := by
  refine ⟨?_, h.tks, h.q, fun b hb => (h.rng b hb).2⟩
  by_cases hT : TK = []
  · exact .inl ⟨hT, h.nil hT⟩
  · rcases h.row.2 with ⟨rfl, h0⟩ | ⟨g, cap, cur, rfl, hb, hh, hnc, hcm, _⟩
    · exact absurd (List.eq_nil_of_length_eq_zero h0) hT
    · refine .inr ⟨hT, g, 0, cap, rfl, fun i k hi => ?_⟩
      have := h.row.cells (g := g) rfl i (pV k.t) (by rw [List.getElem?_map, hi]; rfl)
      rwa [addr_add] at this
/-- a slice of the document's tasks -/
structure RIn (w0 wr : World) (v : Value) (K : List RTk) (X : Nat → Prop) : Prop where
  tk : ∀ k ∈ K, RTask wr k.T k.I k.l k.r k.x ∧ X k.T ∧ (k.l ≠ [] → X k.I ∧ ∃ cur, Blk wr k.I 69 cur)
  apart : K.Pairwise (fun k j => k.T ≠ j.T)
  row : wr.ownsRow w0.heap.size 71 1 v K.length (K.map fun k => ptrV k.T)
  own : ∀ g, v.ownBlock = some g → X g
  rng : ∀ b, X b → w0.heap.size ≤ b ∧ b < wr.heap.size
  nil : K = [] → v = .slice none 0 0
  le : w0.heap.size ≤ wr.heap.size
theorem RIn.first (w : World) : RIn w w (.slice none 0 0) [] (fun _ => False) :=
  ⟨fun k h => by simp at h, List.Pairwise.nil, World.ownsRow_nil _ _ _ _, fun g h => by simp [Value.ownBlock] at h, fun b h => h.elim, fun _ => rfl, Nat.le_refl _⟩
theorem rtk_keep {w w1 : World} {F X : Nat → Prop} {k : RTk} (h : RTask w k.T k.I k.l k.r k.x ∧ X k.T ∧ (k.l ≠ [] → X k.I ∧ ∃ cur, Blk w k.I 69 cur)) (hk : Keep F w w1) (hT : ¬ F k.T) (hI : k.l ≠ [] → ¬ F k.I) :
    RTask w1 k.T k.I k.l k.r k.x ∧ X k.T ∧ (k.l ≠ [] → X k.I ∧ ∃ cur, Blk w1 k.I 69 cur) := by
  obtain ⟨a, b, c⟩ := h
  exact ⟨a.keepE hk hT hI, b, fun hl => ⟨(c hl).1, (c hl).2.choose, (c hl).2.choose_spec.keep hk (hI hl)⟩⟩
theorem RIn.keep {w0 wr w1 : World} {v : Value} {K : List RTk} {X F : Nat → Prop} (h : RIn w0 wr v K X) (hk : Keep F wr w1) (hF : ∀ b, X b → ¬ F b) : RIn w0 w1 v K X :=
  ⟨fun k hk' => rtk_keep (h.tk k hk') hk (hF _ (h.tk k hk').2.1) (fun hl => hF _ ((h.tk k hk').2.2 hl).1), h.apart, row_ownkeep h.row hk (fun g hg => hF g (h.own g hg)), h.own, fun b hb => ⟨(h.rng b hb).1, Nat.lt_of_lt_of_le (h.rng b hb).2 hk.size⟩, h.nil, Nat.le_trans h.le hk.size⟩
theorem RIn.next {w0 w8 w9 wb : World} {T I g cap : Nat} {v : Value} {K : List RTk} {X : Nat → Prop} {l r : List Itm} {x : Int} {o : Obj} (h : RIn w0 w8 v K X) (hT : RTask w9 w8.heap.size I l r x) (h9 : Below w8.heap.size w8 w9) (hI : l ≠ [] → w0.heap.size ≤ I ∧ I < w8.heap.size ∧ ∃ cur, Blk w8 I 69 cur)
    (hr : wb.ownsRow w0.heap.size 71 1 (.slice (some ⟨g, 0, none⟩) (K.length + 1) cap) (K.length + 1) (K.map (fun k => ptrV k.T) ++ [ptrV w8.heap.size])) (hgr : (w9.alloc o).grownBy wb v.ownBlock) (hg : v.ownBlock = some g ∨ w9.heap.size + 1 ≤ g) :
    RIn w0 wb (.slice (some ⟨g, 0, none⟩) (K.length + 1) cap) (K ++ [⟨w8.heap.size, I, l, r, x⟩]) (fun b => ((X b ∨ b = w8.heap.size) ∨ (l ≠ [] ∧ b = I)) ∨ b = g) := by
  have k9 : Keep (fun _ => False) w8 w9 := Keep.ofBelow h9
  have kb := grown_keep hgr
  have s9 := k9.size
  have sb := kb.size
  have hle := h.le
  have hn9 := h.keep k9 (fun _ _ h => h)
  obtain ⟨gl, gc, gk⟩ := row_lt hr (g := g) rfl
  have hTl : w8.heap.size < w9.heap.size := by obtain ⟨_, b, _⟩ := hT.own; exact b.lt
  have nT : ∀ {T' : Nat} {cs : Array Value}, Blk w9 T' 127 cs → ¬ v.ownBlock = some T' := fun hb e => by obtain ⟨_, cur, hc⟩ := row_lt hn9.row e; exact hc.apart hb (by decide) rfl
  have nI : ∀ {T' : Nat} {cs : Array Value}, Blk w9 T' 69 cs → ¬ v.ownBlock = some T' := fun hb e => by obtain ⟨_, cur, hc⟩ := row_lt hn9.row e; exact hc.apart hb (by decide) rfl
  refine ⟨fun k hk => ?_, ?_, by simpa using hr, fun g' e => .inr (own_some e).symm, fun b hb => ?_, fun e => by simp at e, by omega⟩
  · rcases List.mem_append.1 hk with hk | hk
    · obtain ⟨a1, a2, a3⟩ := hn9.tk k hk
      obtain ⟨vv, hb, _⟩ := a1.own
      have := rtk_keep ⟨a1, a2, a3⟩ kb (nT hb) (fun hl => by obtain ⟨_, cur, hc⟩ := a3 hl; exact nI hc)
      exact ⟨this.1, .inl (.inl (.inl this.2.1)), fun hl => ⟨.inl (.inl (.inl (this.2.2 hl).1)), (this.2.2 hl).2⟩⟩
    · obtain rfl := List.mem_singleton.1 hk
      obtain ⟨vv, hb, _⟩ := hT.own
      have := rtk_keep (k := ⟨w8.heap.size, I, l, r, x⟩) (X := fun _ => True) ⟨hT, trivial, fun hl => ⟨trivial, by obtain ⟨_, _, cur, hc⟩ := hI hl; exact ⟨cur, hc.keep k9 (fun h => h)⟩⟩⟩ kb (nT hb) (fun hl => by obtain ⟨_, _, cur, hc⟩ := hI hl; exact nI (hc.keep k9 (fun h => h)))
      exact ⟨this.1, .inl (.inl (.inr rfl)), fun hl => ⟨.inl (.inr ⟨hl, rfl⟩), (this.2.2 hl).2⟩⟩
  · rw [List.pairwise_append]
    refine ⟨h.apart, List.pairwise_singleton _ _, fun a ha b hb => ?_⟩
    obtain rfl := List.mem_singleton.1 hb
    have := (h.rng _ (h.tk a ha).2.1).2
    show a.T ≠ w8.heap.size
    omega
  · rcases hb with ((hb | rfl) | ⟨hl, rfl⟩) | rfl
    · have := h.rng b hb; omega
    · omega
    · have := hI hl; omega
    · refine ⟨?_, gl⟩
      rcases hg with e | e
      · exact (h.rng _ (h.own _ e)).1
      · omega
theorem RIn.gives {w0 wr : World} {v : Value} {K : List RTk} {X : Nat → Prop} (h : RIn w0 wr v K X) (hf : K.length ≤ 5) : RGives wr X v K := by
  refine ⟨?_, h.tk, h.apart, fun b hb => (h.rng b hb).2, hf⟩
  rcases h.row.2 with ⟨rfl, h0⟩ | ⟨g, cap, cur, rfl, hb, hh, hnc, hcm, _⟩
  · have : K = [] := List.eq_nil_of_length_eq_zero h0
    subst this
    exact ⟨0, ⟨⟨none, 0, rfl, fun h => absurd h (by simp)⟩, fun i k hk => by simp at hk⟩, fun h => absurd rfl h⟩
  · refine ⟨g, ⟨⟨_, cap, rfl, fun _ => rfl⟩, fun i k hi => ?_⟩, fun _ => ⟨h.own g rfl, cur, hh⟩⟩
    have := h.row.cells (g := g) rfl i (ptrV k.T) (by rw [List.getElem?_map, hi]; rfl)
    rwa [addr_add, Nat.zero_add] at this
/-- a thread of each -/
theorem play_add {w : World} {c : PIds} {A X : Nat → Prop} {s q : St} {TK : List Tk} {v : Value} (h : Play w c A s q) (hG : Gives w c.C c.P X v TK) (hX : ∀ b, X b → ¬ A b) (hok : ∀ k ∈ TK, ParkOk s.ps k.x.1) (hf : s.ts.length + 1 ≤ 1000) (ht : TK.length ≤ 1000) :
    Calls Tryz.prog 27 #[pV c.M, v] w fun e w' => e = .returned (.int .i64 s.ts.length) ∧ (∃ A', Play w' c A' ⟨s.m, s.ps, s.ts ++ [goS (TK.map Tk.x) []], s.n⟩ q ∧ ∀ b, A' b → A b ∨ X b ∨ w.heap.size ≤ b) ∧ Keep (fun b => A b ∨ X b) w w' := by
  obtain ⟨U, V, L, h1, h2, h3, h4, h5⟩ := h.it
  have fx : ∀ b, c.fx b → A b := fun b hb => (h.fd b hb).1
  refine (madd_all c.C c.S c.P c.R c.M c.cs U X s TK v w h1 hG (fun b hb => ⟨fun hu => hX b hb (h4 b hu).1, fun e => hX b hb (fx b (.inl e)), fun e => hX b hb (fx b (.inr (.inl e))), fun e => hX b hb (fx b (.inr (.inr (.inl e)))), fun e => hX b hb (fx b (.inr (.inr (.inr (.inl e))))), fun e => hX b hb (fx b (.inr (.inr (.inr (.inr e)))))⟩) hok (.inr h.perm) hf ht).mono ?_
  rintro e w' ⟨rfl, ⟨U', g1, g2⟩, k⟩
  have hs := k.size
  have hXl : ∀ b, X b → b < w.heap.size := hG.lt
  have nf : ∀ b, c.fx b → ¬ (U b ∨ X b) := fun b hb e => e.elim (fun e => by
    have := h1.apart b e
    rcases hb with hb | hb | hb | hb | hb
    · exact this.1 hb
    · exact this.2.1 hb
    · exact this.2.2.1 hb
    · exact this.2.2.2.1 hb
    · exact this.2.2.2.2 hb) (fun e => hX b e (fx b hb))
  have nd : ∀ b, c.dx b → ¬ (U b ∨ X b) := fun b hb e => e.elim (fun e => (h4 b e).2.2 hb) (fun e => hX b e (h.dd b hb))
  have nV : ∀ b, V b → ¬ (U b ∨ X b) := fun b hb e => e.elim (fun e => (h4 b e).2.1 hb) (fun e => hX b e (h5 b hb).1)
  have hlt := h.lt
  have hU'l := g1.lt
  refine ⟨rfl, ⟨fun b => (A b ∨ X b ∨ w.heap.size ≤ b) ∧ b < w'.heap.size, ⟨⟨U', V, L, g1, h2.keep k nV, h3, fun b hb => ⟨⟨(g2 b hb).imp (fun e => (h4 b e).1) id, hU'l b hb⟩, fun hv => ?_, fun hd => ?_⟩, fun b hb => ⟨⟨.inl (h5 b hb).1, by have := hlt b (h5 b hb).1; omega⟩, (h5 b hb).2⟩⟩,
    h.perm.keep k (nf _ (.inr (.inr (.inl rfl)))) (nf _ (.inr (.inr (.inr (.inl rfl))))) (fun x hx => nf x (.inr (.inr (.inr (.inr hx))))), h.world.keep k (nd _ (.inl rfl)) (nd _ (.inr (.inl rfl))) (nd _ (.inr (.inr rfl))), h.ok, fun b hb => ⟨⟨.inl (h.fd b hb).1, by have := hlt b (h.fd b hb).1; omega⟩, (h.fd b hb).2⟩, fun b hb => ⟨.inl (h.dd b hb), by have := hlt b (h.dd b hb); omega⟩, fun b hb => hb.2⟩, fun b hb => hb.1⟩, k.mono (fun b _ e => e.imp (fun e => (h4 b e).1) id)⟩
  · rcases g2 b hb with e | e | e
    · exact (h4 b e).2.1 hv
    · exact hX b e (h5 b hv).1
    · have := hlt b (h5 b hv).1; omega
  · rcases g2 b hb with e | e | e
    · exact (h4 b e).2.2 hd
    · exact hX b e (h.dd b hd)
    · have := hlt b (h.dd b hd); omega
theorem play_radd {w : World} {c : PIds} {A X : Nat → Prop} {s q : St} {K : List RTk} {v : Value} (h : Play w c A s q) (hG : RGives w X v K) (hX : ∀ b, X b → ¬ A b) (hok : ∀ k ∈ K, ParkOk q.ps k.r) (hf : q.ts.length + 1 ≤ 6) :
    Calls Tryz.prog 28 #[ptrV c.G, v] w fun e w' => e = .returned (.tuple #[]) ∧ (∃ A', Play w' c A' s ⟨q.m, q.ps, q.ts ++ [endOf K 0], q.n⟩ ∧ ∀ b, A' b → A b ∨ X b ∨ w.heap.size ≤ b) ∧ Keep (fun b => A b ∨ X b) w w' := by
  obtain ⟨U, V, L, h1, h2, h3, h4, h5⟩ := h.it
  have hLl : L.length = q.ts.length := by rw [← h3]; simp
  refine (radd_any c.G V X L K v w h2 hG (fun b hb hv => hX b hb (h5 b hv).1) (by omega)).mono ?_
  rintro e w' ⟨rfl, ⟨k, V', g1, g2, g3⟩, kk⟩
  have hs := kk.size
  have hXl : ∀ b, X b → b < w.heap.size := hG.lt
  have nf : ∀ b, c.fx b → ¬ (V b ∨ X b) := fun b hb e => e.elim (fun e => (h5 b e).2.1 hb) (fun e => hX b e (h.fd b hb).1)
  have nd : ∀ b, c.dx b → ¬ (V b ∨ X b) := fun b hb e => e.elim (fun e => (h5 b e).2.2 hb) (fun e => hX b e (h.dd b hb))
  have nU : ∀ b, U b → ¬ (V b ∨ X b) := fun b hb e => e.elim (fun e => (h4 b hb).2.1 e) (fun e => hX b e (h4 b hb).1)
  have hlt := h.lt
  have hV'l := g1.lt
  have a5 : ∀ x ∈ c.cs, ¬ (V x ∨ X x) := fun x hx => nf x (.inr (.inr (.inr (.inr hx))))
  refine ⟨rfl, ⟨fun b => (A b ∨ X b ∨ w.heap.size ≤ b) ∧ b < w'.heap.size, ⟨⟨U, V', L ++ [k], h1.keep kk nU (nf _ (.inl rfl)) (nf _ (.inr (.inl rfl))) (nf _ (.inr (.inr (.inl rfl)))) (nf _ (.inr (.inr (.inr (.inl rfl))))) a5, g1, by simp [h3, g2], fun b hb => ⟨⟨.inl (h4 b hb).1, by have := hlt b (h4 b hb).1; omega⟩, fun hv => ?_, (h4 b hb).2.2⟩, fun b hb => ⟨⟨(g3 b hb).imp (fun e => (h5 b e).1) id, hV'l b hb⟩, fun hd => ?_, fun hd => ?_⟩⟩,
    h.perm.keep kk (nf _ (.inr (.inr (.inl rfl)))) (nf _ (.inr (.inr (.inr (.inl rfl))))) a5, h.world.keep kk (nd _ (.inl rfl)) (nd _ (.inr (.inl rfl))) (nd _ (.inr (.inr rfl))), ?_, fun b hb => ⟨⟨.inl (h.fd b hb).1, by have := hlt b (h.fd b hb).1; omega⟩, (h.fd b hb).2⟩, fun b hb => ⟨.inl (h.dd b hb), by have := hlt b (h.dd b hb); omega⟩, fun b hb => hb.2⟩, fun b hb => hb.1⟩, kk.mono (fun b _ e => e.imp (fun e => (h5 b e).1) id)⟩
  · rcases g3 b hv with e | e | e
    · exact (h4 b hb).2.1 e
    · exact hX b e (h4 b hb).1
    · have := hlt b (h4 b hb).1; omega
  · rcases g3 b hb with e | e | e
    · exact (h5 b e).2.1 hd
    · exact hX b e (h.fd b hd).1
    · have := hlt b (h.fd b hd).1; omega
  · rcases g3 b hb with e | e | e
    · exact (h5 b e).2.2 hd
    · exact hX b e (h.dd b hd)
    · have := hlt b (h.dd b hd); omega
  · intro x hx t ht
    rcases List.mem_append.1 hx with hx | hx
    · exact h.ok x hx t ht
    · obtain rfl := List.mem_singleton.1 hx
      have := goS_mem _ _ t ht
      unfold thrOf at this
      simp only [List.drop_zero] at this
      obtain ⟨k, hk, rfl⟩ := List.mem_map.1 this
      exact hok k hk
end Go.Proofs.YtpopcallphbklaaGreat
/- Layer 8's law: made: Seq of the tasks of items; what is drawn parks where permits are. -/
namespace Go.Proofs.YtpopcallphbklaaGreat
open Go.ChangeShapes Go.WideShapes Go.ChangeAt Go.RowKit
set_option linter.unusedVariables false
set_option maxRecDepth 100000
set_option linter.unusedSimpArgs false
theorem ainv_first (w : World) (C P : Nat) (l : List Itm) : AInv w w C P l 0 (.slice none 0 0) (.slice none 0 0) [] [] (fun _ => False) :=
  ⟨World.ownsRow_nil w _ _ 1, World.ownsRow_nil w _ _ 1, fun _ => rfl, fun _ => rfl, by simp [flat], fun y hy => by simp at hy, fun y hy => by simp at hy, fun b h => h.elim, fun _ _ h => h, fun _ _ h => h, fun g h => by simp [Value.ownBlock] at h, Below.refl _ _, by simp, by simp⟩
theorem seq_of (w0 wr : World) (C P : Nat) (l : List Itm) (v : Value) (L : List (Option Addr × List Itm)) (Q : Nat → Prop) (h : AInv w0 wr C P l l.length (.slice none 0 0) v [] L Q) (hl : l.length ≤ 1000) :
    Calls Tryz.prog 25 #[v] wr fun e w' => ∃ t, e = .returned (pV t) ∧ Made6 w0 C P (fun b => w0.heap.size ≤ b) (onS l 0).1 (onS l 0).2 t w' := by
  have hfl : flat ([] : List (Option Addr × List Itm)) ++ flat L = l := by rw [h.fl, List.take_length]
  have hfp := h.fp
  by_cases hLe : L = []
  · obtain rfl := h.p0 hLe
    refine (seq_none C P (Qn Q wr) wr).mono ?_
    rintro e w' ⟨t, rfl, hM⟩
    exact ⟨t, rfl, all_end hfl h.low h.below hM (.inl ⟨by simpa using hLe, rfl, rfl⟩)⟩
  · obtain ⟨g, c, rfl⟩ : ∃ g c, v = .slice (some ⟨g, 0, none⟩) L.length c := by
      rcases h.p.2 with ⟨_, h⟩ | ⟨g, c, _, h, _⟩
      · exact absurd (List.eq_nil_of_length_eq_zero h) hLe
      · exact ⟨g, c, h⟩
    refine (seq_any C P (Qn Q wr) L g 0 c wr hLe (by omega) (rowAt_of h.p (h.ep.keep (F := fun _ => False) (Keep.refl _ _) (fun _ _ h => h) (fun b hb h => .inl ⟨h, hb⟩))) (fun j hj => .inr hj)).mono ?_
    rintro e w' ⟨t, r, v, rfl, hM, hR⟩
    exact ⟨t, rfl, all_end hfl h.low h.below hM (by simpa using hR)⟩
/-- the first k tasks of a row -/
def drawnK (n : Nat) (row : List (List Raw)) (k : Nat) : List Tsk := (row.take k).map fun R => onS (fewS n R) 0
theorem drawnK_next {n k : Nat} {row : List (List Raw)} {R : List Raw} (h : row[k]? = some R) : drawnK n row (k + 1) = drawnK n row k ++ [onS (fewS n R) 0] := by
  unfold drawnK
  rw [List.take_add_one, h]; simp
theorem drawnK_end {n k : Nat} {row : List (List Raw)} (h : k ≤ row.length) (h5 : k ≤ 5) (he : k = row.length ∨ k = 5) : drawnK n row k = drawnT n row := by
  unfold drawnK drawnT
  rcases he with rfl | rfl
  · rw [List.take_of_length_le (Nat.le_refl _), List.take_of_length_le h5]
  · rfl
theorem drawnK_park {n k : Nat} {row : List (List Raw)} (hn : 1 ≤ n) : ∀ t ∈ drawnK n row k, ParkOk (List.replicate n false) t.1 := by
  intro t ht x hx hk
  obtain ⟨R, _, rfl⟩ := List.mem_map.1 ht
  have := (onS_suffix _ _).subset hx
  obtain ⟨r, _, rfl⟩ := List.mem_map.1 this
  rw [List.length_replicate]
  exact cutItm_park hn hk
theorem drawnX_next {n t : Nat} {N : List (List (List Raw))} {row : List (List Raw)} (h : N[t]? = some row) : drawnX n (N.take (t + 1)) = drawnX n (N.take t) ++ [goS (drawnT n row) []] := by
  unfold drawnX
  rw [List.take_add_one, h]; simp
theorem drawnX_len {n t : Nat} {N : List (List (List Raw))} (h : t ≤ N.length) : (drawnX n (N.take t)).length = t := by
  unfold drawnX
  simp
  omega
theorem endOf_zero {n : Nat} {K : List RTk} {row : List (List Raw)} (h : K.map RTk.tsk = drawnT n row) : endOf K 0 = goS (drawnT n row) [] := by
  unfold endOf thrOf
  simp [h]
theorem idx_sss (len c B o i : Nat) (h : i < len) : ∀ W, (Instr.indexAt 23 (.slice (some ⟨B, o, none⟩) len c) (.int .i64 (i : Int))).run Tryz.prog W = .ok (.pointer (some ⟨B, o + i, none⟩)) W := by
  intro W
  go_simp
theorem idx_ss (len c B o i : Nat) (h : i < len) : ∀ W, (Instr.indexAt 63 (.slice (some ⟨B, o, none⟩) len c) (.int .i64 (i : Int))).run Tryz.prog W = .ok (.pointer (some ⟨B, o + i, none⟩)) W := by
  intro W
  go_simp
/-- the program's task is appended, the document's is not yet -/
structure Mid (wt w8 : World) (C P : Nat) (v v' : Value) (TK : List Tk) (K : List RTk) (X Y : Nat → Prop) (I : Nat) (iv : Value) (l : List Itm) : Prop where
  p : PIn wt w8 C P v TK X
  r : RIn wt w8 v' K Y
  xy : ∀ b, X b → ¬ Y b
  it : ItemsAt w8 I iv l
  il : I < w8.heap.size
  lo : l ≠ [] → wt.heap.size ≤ I ∧ (∃ cur, Blk w8 I 69 cur) ∧ ¬ X I
theorem mid_of {wt wk w4 w6 w8 : World} {C P I t g cap : Nat} {v v' iv : Value} {TK : List Tk} {K : List RTk} {X Y : Nat → Prop} {l r : List Itm} {x : Int} {o : Obj} (hP : PIn wt wk C P v TK X) (hR : RIn wt wk v' K Y) (hXY : ∀ b, X b → ¬ Y b)
    (hb4 : Below wk.heap.size wk w4) (hI : ItemsAt w4 I iv l) (hIl : I < w4.heap.size) (hIlo : 0 < l.length → wk.heap.size ≤ I ∧ ∃ cur, Blk w4 I 69 cur) (hM : Made6 w4 C P (fun b => w4.heap.size ≤ b) r x t w6)
    (hr : w8.ownsRow wt.heap.size 66 1 (.slice (some ⟨g, 0, none⟩) (TK.length + 1) cap) (TK.length + 1) (TK.map (fun k => pV k.t) ++ [pV t])) (hgr : (w6.alloc o).grownBy w8 v.ownBlock) (hg : v.ownBlock = some g ∨ w6.heap.size + 1 ≤ g) :
    Mid wt w8 C P (.slice (some ⟨g, 0, none⟩) (TK.length + 1) cap) v' (TK ++ [⟨t, fun b => w4.heap.size ≤ b ∧ b < w6.heap.size, (r, x)⟩]) K (fun b => (X b ∨ (w4.heap.size ≤ b ∧ b < w6.heap.size)) ∨ b = g) Y I iv l := by
  have k4 : Keep (fun _ => False) wk w4 := Keep.ofBelow hb4
  have k6 : Keep (fun _ => False) w4 w6 := Keep.ofBelow hM.2.2
  have k8 := grown_keep hgr
  have s4 := k4.size
  have s6 := k6.size
  have s8 := k8.size
  have hle := hP.le
  have hP4 := hP.keep k4 (fun _ _ h => h)
  have hX : ∀ b, X b → b < wk.heap.size := fun b hb => (hP.rng b hb).2
  have hY : ∀ b, Y b → b < wk.heap.size := fun b hb => (hR.rng b hb).2
  have nI : l ≠ [] → ¬ v.ownBlock = some I := fun hl e => by
    have := hIlo (List.length_pos_iff.2 hl)
    have := hX I (hP.own I e).1
    omega
  have kI : ItemsAt w8 I iv l := by
    by_cases hl : l = []
    · subst hl
      exact ⟨hI.is, fun i x hx => by simp at hx, hI.ok, hI.few⟩
    · exact (hI.keep k6 (fun h => h)).keep k8 (nI hl)
  refine ⟨hP4.next hM hr hgr hg, ((hR.keep k4 (fun _ _ h => h)).keep k6 (fun _ _ h => h)).keep k8 (fun b hb e => hXY b (hP.own b e).1 hb), fun b hb hy => ?_, kI, by omega, fun hl => ⟨?_, ?_, fun hx => ?_⟩⟩
  · have := hY b hy
    rcases hb with (hb | hb) | rfl
    · exact hXY b hb hy
    · omega
    · rcases hg with e | e
      · exact hXY _ (hP.own _ e).1 hy
      · omega
  · have := hIlo (List.length_pos_iff.2 hl)
    omega
  · obtain ⟨_, cur, hc⟩ := hIlo (List.length_pos_iff.2 hl)
    exact ⟨cur, (hc.keep k6 (fun h => h)).keep k8 (nI hl)⟩
  · have := hIlo (List.length_pos_iff.2 hl)
    rcases hx with (hx | hx) | hx
    · have := hX I hx; omega
    · omega
    · rcases hg with e | e
      · have := hX g (hP.own g e).1; omega
      · omega
theorem mid_end {wt w8 w9 wb : World} {C P I g cap : Nat} {v v' iv : Value} {TK : List Tk} {K : List RTk} {X Y : Nat → Prop} {l r : List Itm} {x : Int} {o : Obj} (h : Mid wt w8 C P v v' TK K X Y I iv l) (hT : RTask w9 w8.heap.size I l r x) (h9 : Below w8.heap.size w8 w9)
    (hr : wb.ownsRow wt.heap.size 71 1 (.slice (some ⟨g, 0, none⟩) (K.length + 1) cap) (K.length + 1) (K.map (fun k => ptrV k.T) ++ [ptrV w8.heap.size])) (hgr : (w9.alloc o).grownBy wb v'.ownBlock) (hg : v'.ownBlock = some g ∨ w9.heap.size + 1 ≤ g) :
    PIn wt wb C P v TK X ∧ (∃ Y', RIn wt wb (.slice (some ⟨g, 0, none⟩) (K.length + 1) cap) (K ++ [⟨w8.heap.size, I, l, r, x⟩]) Y' ∧ ∀ b, X b → ¬ Y' b) ∧ Below wt.heap.size w8 wb := by
  have k9 : Keep (fun _ => False) w8 w9 := Keep.ofBelow h9
  have kb := grown_keep hgr
  have s9 := k9.size
  have hX : ∀ b, X b → b < w8.heap.size := fun b hb => (h.p.rng b hb).2
  have hY : ∀ b, Y b → b < w8.heap.size := fun b hb => (h.r.rng b hb).2
  refine ⟨(h.p.keep k9 (fun _ _ h => h)).keep kb (fun b hb e => h.xy b hb (h.r.own b e)), ⟨_, RIn.next (T := 0) h.r hT h9 (fun hl => ⟨(h.lo hl).1, h.il, (h.lo hl).2.1⟩) hr hgr hg, fun b hb hy => ?_⟩, ?_⟩
  · have := hX b hb
    rcases hy with ((hy | rfl) | ⟨hl, rfl⟩) | rfl
    · exact h.xy b hb hy
    · omega
    · exact (h.lo hl).2.2 hb
    · rcases hg with e | e
      · exact h.xy _ hb (h.r.own _ e)
      · omega
  · have hle := h.r.le
    exact (h9.mono hle).trans (kb.below (by omega) (fun i _ e => (h.r.rng i (h.r.own i e)).1))
theorem mid_below {wt wk w4 w6 w8 : World} {C P t : Nat} {v : Value} {TK : List Tk} {X : Nat → Prop} {r : List Itm} {x : Int} {o : Obj} (hP : PIn wt wk C P v TK X) (hb : Below wt.heap.size wt wk) (hb4 : Below wk.heap.size wk w4) (hM : Made6 w4 C P (fun b => w4.heap.size ≤ b) r x t w6) (hgr : (w6.alloc o).grownBy w8 v.ownBlock) : Below wt.heap.size wt w8 := by
  have kb := grown_keep hgr
  have s4 := hb4.size
  have s6 := hM.2.2.size
  have hle := hP.le
  exact ((hb.trans (hb4.mono hle)).trans (hM.2.2.mono (by omega))).trans (kb.below (by omega) (fun i _ e => (hP.rng i (hP.own i e).1).1))
end Go.Proofs.YtpopcallphbklaaGreat
