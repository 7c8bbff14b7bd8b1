/- Layer 6's law: TaskSteps. -/
import Derived.Test.YtmkgbbbhmbejnaaTaskTrio
import Derived.Test.YtmkgbbbhmbejnaaAppend
import Derived.Test.YtmkgbbbhmbejnaaTaskPlays
import Derived.Test.YtmkgbbbhmbejnaaTaskHas
namespace Go.Proofs.Ytmkgbbbhmbejnaa
open Go.ChangeShapes Go.WideShapes Go.ChangeAt Go.RowKit
set_option linter.unusedVariables false
set_option maxRecDepth 100000
set_option linter.unusedSimpArgs false
set_option maxHeartbeats 8000000 in
theorem steps_law (f0 f1 f2 f3 p : Int) (b0 b1 b2 : Bool) (a0 a1 a2 : Option Addr) (l0 l1 l2 c0 c1 c2 : Nat) (w : World) (hf : (0 ≤ f0 ∧ f0 ≤ 65535) ∧ (0 ≤ f1 ∧ f1 ≤ 65535) ∧ (0 ≤ f2 ∧ f2 ≤ 65535) ∧ (0 ≤ f3 ∧ f3 ≤ 65535)) (hp : 0 ≤ p ∧ p ≤ 255)
    (hl0 : l0 ≤ 9223372036854775807) (h0 : RawAt w w.heap.size a0 l0) :
    Calls Try.prog 5 #[.agg #[.int .u16 f0, .int .u16 f1, .int .u16 f2, .int .u16 f3, .bool b0, .bool b1, .bool b2, .slice a0 l0 c0, .slice a1 l1 c1, .slice a2 l2 c2, .int .u8 p]] w fun e w' => e = .returned (.bool true) ∧ Below w.heap.size w w' := by
  obtain ⟨i0, hi, hz0, hz1, hz2⟩ := info_parts item_info
  have HW := Lib.hid fun W => world_any f0 f1 f2 f3 b0 b1 b2 W hf
  have HWk := Lib.hid fun W => works6_any W
  have hX : Blk (w.alloc (.cells #[.int .u16 f0, .int .u16 f1, .int .u16 f2, .int .u16 f3, .bool b0, .bool b1, .bool b2, .slice a0 l0 c0, .slice a1 l1 c1, .slice a2 l2 c2, .int .u8 p] 46)) w.heap.size 46 #[.int .u16 f0, .int .u16 f1, .int .u16 f2, .int .u16 f3, .bool b0, .bool b1, .bool b2, .slice a0 l0 c0, .slice a1 l1 c1, .slice a2 l2 c2, .int .u8 p] := Blk.new _ _ _
  have hB0 : Below w.heap.size w (w.alloc (.cells #[.int .u16 f0, .int .u16 f1, .int .u16 f2, .int .u16 f3, .bool b0, .bool b1, .bool b2, .slice a0 l0 c0, .slice a1 l1 c1, .slice a2 l2 c2, .int .u8 p] 46)) := (Below.refl _ w).alloc (Nat.le_refl _) _
  have hsz : (w.alloc (.cells #[.int .u16 f0, .int .u16 f1, .int .u16 f2, .int .u16 f3, .bool b0, .bool b1, .bool b2, .slice a0 l0 c0, .slice a1 l1 c1, .slice a2 l2 c2, .int .u8 p] 46)).heap.size = w.heap.size + 1 := by simp
  go_enter Try.func5, Try.ntmps5
  go_upto_region 1 with fail
  generalize w.alloc (.cells #[.int .u16 f0, .int .u16 f1, .int .u16 f2, .int .u16 f3, .bool b0, .bool b1, .bool b2, .slice a0 l0 c0, .slice a1 l1 c1, .slice a2 l2 c2, .int .u8 p] 46) = W0 at *
  go_upto_region 4 with (go_at_call 20; refine (HWk.out _).mono ?_; rintro e w2 ⟨rfl, kb2⟩)
  have hX2 := hX.below kb2 (by omega)
  have hB2 := hB0.trans (kb2.mono (by omega))
  have x7 : w2.cell? ⟨w.heap.size, 7, none⟩ = some (.slice a0 l0 c0) := hX2.cell 7 _ rfl
  have hF := Lib.hid (few_any a0 l0 c0 hl0 w2 ((h0.below hB2).mono hB2.size) (by have := hX2.lt; omega))
  go_upto_region 5 with (go_at_call 21; refine hF.out.mono ?_; rintro e w3 ⟨v4, rfl, ⟨I, its, hI, hIl, hIb⟩, kb3⟩)
  clear hF x7 HWk
  obtain ⟨ia, icap, rfl, his⟩ := hI.is
  have X3 := hX2.below kb3 hX2.lt
  have B3 := hB2.trans (kb3.mono hB2.size)
  have hfew := hI.few
  go_wp2
  go_loopw [3, 5] (fun v i wr => ∃ l : List Itm, l.length ≤ its.length ∧ (∀ x ∈ l, x.ok ∧ Plain6 x) ∧ i = .int .i64 l.length ∧ wr.ownsRow w3.heap.size 72 4 v l.length (itmCells l) ∧ Below w3.heap.size w3 wr) (fun _ i wr => its.length - (intOf i).toNat)
  case atStart => exact ⟨[], by simp, by simp, rfl, World.ownsRow_nil _ _ _ _, Below.refl _ _⟩
  case round =>
    obtain ⟨l, hl, hok, rfl, hrow, hB⟩ := hrel
    have hh := hB.size
    by_cases hlt : l.length < its.length
    · obtain ⟨y, hy⟩ : ∃ y, its[l.length]? = some y := ⟨its[l.length]'hlt, by simp⟩
      obtain rfl := his (by omega)
      obtain ⟨q0, q1, q2, q3⟩ := hI.cell _ _ hy
      have hyo := hI.ok y (List.mem_of_getElem? hy)
      replace q0 := (hB.cell (p := ⟨I, l.length * 4, none⟩) hIl).trans q0
      replace q1 := (hB.cell (p := ⟨I, l.length * 4 + 1, none⟩) hIl).trans q1
      replace q2 := (hB.cell (p := ⟨I, l.length * 4 + 2, none⟩) hIl).trans q2
      replace q3 := (hB.cell (p := ⟨I, l.length * 4 + 3, none⟩) hIl).trans q3
      have HOK := Lib.hid hok
      have HYO := Lib.hid hyo
      have ii : 0 ≤ (l.length : Int) ∧ (l.length : Int) < its.length := by omega
      clear hok hyo hy hX hX2 hI
      go_upto_region 9 with fail
      have hX0 : Blk (wr.alloc (.cells #[.int .i64 y.kind, .int .i64 y.at', .int .u64 y.a, .int .u64 y.b] 72)) wr.heap.size 72 #[.int .i64 y.kind, .int .i64 y.at', .int .u64 y.a, .int .u64 y.b] := Blk.new _ _ _
      have k0 : Keep (fun _ => False) wr (wr.alloc (.cells #[.int .i64 y.kind, .int .i64 y.at', .int .u64 y.a, .int .u64 y.b] 72)) := (Keep.refl _ _).alloc _
      clear q0 q1 q2 q3
      generalize wr.alloc (.cells #[.int .i64 y.kind, .int .i64 y.at', .int .u64 y.a, .int .u64 y.b] 72) = W0' at *
      obtain ⟨xb, hxb⟩ : ∃ xb, wr.heap.size = xb := ⟨_, rfl⟩
      rw [hxb] at hX0
      simp only [hxb]
      obtain ⟨t, ht, ht4⟩ := rem_small y.at' 4 (by omega) (by omega)
      have ek : (IntKind.u64.wrap (y.at' : Int)).tmod ((4 : Nat) : Int) = (IntKind.u64.wrap (y.at' : Int)).tmod 4 := rfl
      rw [ek] at ht
      clear ek
      have x0 : W0'.cell? ⟨xb, 0, none⟩ = some (.int .i64 y.kind) := hX0.cell 0 _ rfl
      have z0 := hX0.free 0
      by_cases h456 : y.kind = 4 ∨ y.kind = 5 ∨ y.kind = 6
      · have g456 : (y.kind : Int) = 4 ∨ (y.kind : Int) = 5 ∨ (y.kind : Int) = 6 := by omega
        rcases g456 with g | g | g
        all_goals
          rw [g] at x0
          go_upto_region 11 with fail
          have HX1 := Lib.hid (hX0.set 0 (.int .i64 2))
          simp only [List.setIfInBounds_toArray, List.set_cons_zero] at HX1
          replace k0 := k0.set (p := ⟨xb, 0, none⟩) (fun h => absurd h (by rw [hxb]; exact Nat.lt_irrefl _)) (.int .i64 2)
          clear x0 z0 hX0
          generalize W0'.setCell ⟨xb, 0, none⟩ (.int .i64 2) = W1 at *
          have x1 : W1.cell? ⟨xb, 1, none⟩ = some (.int .i64 y.at') := HX1.out.cell 1 _ rfl
          have z1 := HX1.out.free 1
          go_upto_region 12 with fail
          simp only [ht]
          have HX := Lib.hid (HX1.out.set 1 (.int .i64 t))
          simp only [List.setIfInBounds_toArray, List.set_cons_zero, List.set_cons_succ] at HX
          replace k0 := k0.set (p := ⟨xb, 1, none⟩) (fun h => absurd h (by rw [hxb]; exact Nat.lt_irrefl _)) (.int .i64 t)
          clear x1 z1 HX1
          generalize W1.setCell ⟨xb, 1, none⟩ (.int .i64 t) = W2 at *
          have x0 : W2.cell? ⟨xb, 0, none⟩ = some (.int .i64 2) := HX.out.cell 0 _ rfl
          have x1 : W2.cell? ⟨xb, 1, none⟩ = some (.int .i64 t) := HX.out.cell 1 _ rfl
          have x2 : W2.cell? ⟨xb, 2, none⟩ = some (.int .u64 y.a) := HX.out.cell 2 _ rfl
          have x3 : W2.cell? ⟨xb, 3, none⟩ = some (.int .u64 y.b) := HX.out.cell 3 _ rfl
          have hrow4 := ownsRow_keep hrow k0
          have B4 := hB.trans (k0.below hh (fun _ _ h => h.elim))
          have hh4 := B4.size
          clear HX hrow k0 hB
          go_wp2_with (at_builtin; refine wpList_append_own _ rfl _ _ 43 rfl w3.heap.size 72 i0 (.agg #[.int .i64 0, .int .i64 0, .int .u64 0, .int .u64 0]) 4 32 Try.underlying43 hi hz0 hz1 hz2 rfl (by decide) _ _ _ rfl (hrow4.alloc _) ⟨W2.heap.size, 0, none⟩ 1 1 [.int .i64 2, .int .i64 t, .int .u64 y.a, .int .u64 y.b] rfl rfl (cells4_new _ _ _ _ _ _) (by simp [Value.oneCell']) (by unfold maxLen; omega) (by omega) (by simp; omega) ?_; intro v' w6 hown' hgrow _; have hgb := grown_below hgrow hrow4 hh4)
          go_roundw
          case rel =>
            refine ⟨l ++ [⟨2, t, y.a, y.b⟩], by simp; omega, ?_, by simp, ?_, B4.trans hgb⟩
            · intro x hx
              rcases List.mem_append.1 hx with hx | hx
              · exact HOK.out x hx
              · obtain rfl := List.mem_singleton.1 hx
                exact ⟨⟨show (2 : Nat) < 8 by decide, show t ≤ 9223372036854775807 by omega, fun h => by rcases h with h | h <;> simp at h, HYO.out.a, HYO.out.b, fun h => by simp at h⟩, by show (2 : Nat) ≠ 4; decide, by show (2 : Nat) ≠ 5; decide, by show (2 : Nat) ≠ 6; decide, ht4⟩
            · rw [List.length_append, itmCells_snoc]; exact hown'
          case measure => simp [intOf]; omega
      · have g4 : ¬ (y.kind : Int) = 4 := by omega
        have g5 : ¬ (y.kind : Int) = 5 := by omega
        have g6 : ¬ (y.kind : Int) = 6 := by omega
        have x1 : W0'.cell? ⟨xb, 1, none⟩ = some (.int .i64 y.at') := hX0.cell 1 _ rfl
        have z1 := hX0.free 1
        go_upto_region 12 with fail
        simp only [ht]
        have HX := Lib.hid (hX0.set 1 (.int .i64 t))
        simp only [List.setIfInBounds_toArray, List.set_cons_zero, List.set_cons_succ] at HX
        replace k0 := k0.set (p := ⟨xb, 1, none⟩) (fun h => absurd h (by rw [hxb]; exact Nat.lt_irrefl _)) (.int .i64 t)
        clear x0 z0 x1 z1 hX0
        generalize W0'.setCell ⟨xb, 1, none⟩ (.int .i64 t) = W2 at *
        have x0 : W2.cell? ⟨xb, 0, none⟩ = some (.int .i64 y.kind) := HX.out.cell 0 _ rfl
        have x1 : W2.cell? ⟨xb, 1, none⟩ = some (.int .i64 t) := HX.out.cell 1 _ rfl
        have x2 : W2.cell? ⟨xb, 2, none⟩ = some (.int .u64 y.a) := HX.out.cell 2 _ rfl
        have x3 : W2.cell? ⟨xb, 3, none⟩ = some (.int .u64 y.b) := HX.out.cell 3 _ rfl
        have hrow4 := ownsRow_keep hrow k0
        have B4 := hB.trans (k0.below hh (fun _ _ h => h.elim))
        have hh4 := B4.size
        clear HX hrow k0 hB
        go_wp2_with (at_builtin; refine wpList_append_own _ rfl _ _ 43 rfl w3.heap.size 72 i0 (.agg #[.int .i64 0, .int .i64 0, .int .u64 0, .int .u64 0]) 4 32 Try.underlying43 hi hz0 hz1 hz2 rfl (by decide) _ _ _ rfl (hrow4.alloc _) ⟨W2.heap.size, 0, none⟩ 1 1 [.int .i64 y.kind, .int .i64 t, .int .u64 y.a, .int .u64 y.b] rfl rfl (cells4_new _ _ _ _ _ _) (by simp [Value.oneCell']) (by unfold maxLen; omega) (by omega) (by simp; omega) ?_; intro v' w6 hown' hgrow _; have hgb := grown_below hgrow hrow4 hh4)
        go_roundw
        case rel =>
          refine ⟨l ++ [⟨y.kind, t, y.a, y.b⟩], by simp; omega, ?_, by simp, ?_, B4.trans hgb⟩
          · intro x hx
            rcases List.mem_append.1 hx with hx | hx
            · exact HOK.out x hx
            · obtain rfl := List.mem_singleton.1 hx
              exact ⟨⟨HYO.out.kind, show t ≤ 9223372036854775807 by omega, fun h => absurd (show y.kind = 4 ∨ y.kind = 5 ∨ y.kind = 6 from .inr h) h456, HYO.out.a, HYO.out.b, HYO.out.ready⟩, fun h => h456 (.inl h), fun h => h456 (.inr (.inl h)), fun h => h456 (.inr (.inr h)), ht4⟩
          · rw [List.length_append, itmCells_snoc]; exact hown'
        case measure => simp [intOf]; omega
    · have hll : l.length = its.length := by omega
      obtain ⟨I2, hI2, hI2l, hI2b⟩ := itemsAt_of_row hrow (fun x hx => (hok x hx).1) (by omega) hh (by have := X3.lt; omega)
      obtain ⟨ua, uc, rfl, hua⟩ := hI2.is
      have X5 := X3.below hB X3.lt
      have hX5 := X5.lt
      have HW1 := Lib.hid (HW.out wr)
      have y0 : wr.cell? ⟨w.heap.size, 0, none⟩ = some (.int .u16 f0) := X5.cell 0 _ rfl
      have y1 : wr.cell? ⟨w.heap.size, 1, none⟩ = some (.int .u16 f1) := X5.cell 1 _ rfl
      have y2 : wr.cell? ⟨w.heap.size, 2, none⟩ = some (.int .u16 f2) := X5.cell 2 _ rfl
      have y3 : wr.cell? ⟨w.heap.size, 3, none⟩ = some (.int .u16 f3) := X5.cell 3 _ rfl
      have y4 : wr.cell? ⟨w.heap.size, 4, none⟩ = some (.bool b0) := X5.cell 4 _ rfl
      have y5 : wr.cell? ⟨w.heap.size, 5, none⟩ = some (.bool b1) := X5.cell 5 _ rfl
      have y6 : wr.cell? ⟨w.heap.size, 6, none⟩ = some (.bool b2) := X5.cell 6 _ rfl
      have hge : ¬ ((l.length : Int) < its.length) := by omega
      have hl30 : l.length ≤ 30 := by omega
      have HLL := Lib.hid hll
      have HOK := Lib.hid hok
      have HBB := Lib.hid (B3.trans (hB.mono B3.size))
      clear hll hlt hok hI hrow X3 hX hX2 his B3 hB0 hB2 hB hsz kb2 kb3
      go_upto_region 14 with (go_at_call 19; refine HW1.out.mono ?_; rintro e w5 ⟨c1', rfl, hS1, kb5, hid1⟩)
      clear y0 y1 y2 y3 y4 y5 y6 HW1
      have X6 := X5.below kb5 hX5
      have y0 : w5.cell? ⟨w.heap.size, 0, none⟩ = some (.int .u16 f0) := X6.cell 0 _ rfl
      have y1 : w5.cell? ⟨w.heap.size, 1, none⟩ = some (.int .u16 f1) := X6.cell 1 _ rfl
      have y2 : w5.cell? ⟨w.heap.size, 2, none⟩ = some (.int .u16 f2) := X6.cell 2 _ rfl
      have y3 : w5.cell? ⟨w.heap.size, 3, none⟩ = some (.int .u16 f3) := X6.cell 3 _ rfl
      have y4 : w5.cell? ⟨w.heap.size, 4, none⟩ = some (.bool b0) := X6.cell 4 _ rfl
      have y5 : w5.cell? ⟨w.heap.size, 5, none⟩ = some (.bool b1) := X6.cell 5 _ rfl
      have y6 : w5.cell? ⟨w.heap.size, 6, none⟩ = some (.bool b2) := X6.cell 6 _ rfl
      have HW2 := Lib.hid (HW.out w5)
      go_upto_region 15 with (go_at_call 19; refine HW2.out.mono ?_; rintro e w6 ⟨c2', rfl, hS2, kb6, hid2⟩)
      clear y0 y1 y2 y3 y4 y5 y6 HW2
      have X7 := X6.below kb6 X6.lt
      have yp : w6.cell? ⟨w.heap.size, 10, none⟩ = some (.int .u8 p) := X7.cell 10 _ rfl
      obtain ⟨M, hM⟩ : ∃ M, [f0, f1, f2, f3] = M := ⟨_, rfl⟩
      obtain ⟨H, hH⟩ : ∃ H, [b0, b1, b2] = H := ⟨_, rfl⟩
      rw [hM, hH] at hS1 hS2
      have hS16 := hS1.still (Keep.ofBelow kb6)
      have hI6 := (hI2.keep (Keep.ofBelow (Q := fun _ => False) kb5) (fun h => h)).keep (Keep.ofBelow (Q := fun _ => False) kb6) (fun h => h)
      have pm : 0 ≤ p % 5 ∧ p % 5 < 5 := by omega
      obtain ⟨r, v, hrv⟩ : ∃ r v, onS l 0 = (r, v) := ⟨_, _, rfl⟩
      have HA1 := Lib.hid (all_tasks c1' I2 (.slice ua l.length uc) l (1 + p % 5) M H 4 w6 hI6 hS16.cells hS16.perms ⟨by omega, by omega⟩)
      have HA2 := Lib.hid fun W (hk : Keep (fun _ => False) w6 W) => all_tasks c2' I2 (.slice ua l.length uc) l 30 M H 4 W (hI6.keep hk (fun h => h)) (hS2.cells.keep hk (fun h => h) (fun h => h)) (hS2.perms.keep hk (fun h => h) (fun h => h) (fun _ _ h => h)) ⟨by omega, by omega⟩
      rw [hrv] at HA1 HA2
      have HPM := Lib.hid pm
      clear pm hM hH HW
      go_upto_region 18 with (first
        | (go_at_call 22; (with_reducible refine HA1.out.mono ?_); rintro e w7 ⟨s, Q1, rfl, hT1, hQ1, kb7⟩)
        | (go_at_call 22; (with_reducible refine (HA2.out _ (Keep.ofBelow kb7)).mono ?_); rintro e w8 ⟨t, Q2, rfl, hT2, hQ2, kb8⟩))
      obtain ⟨nw, hnw⟩ : ∃ nw, wr.heap.size = nw := ⟨_, rfl⟩
      have bw := HBB.out.size
      have hsuf : r <:+ l := by have := onS_suffix l 0; rw [hrv] at this; exact this
      have hplain : ∀ x ∈ r, Plain6 x := fun x hx => (HOK.out x (hsuf.subset hx)).2
      have hrun := runS_on l M 0
      rw [hrv] at hrun
      obtain ⟨hrun1, hops⟩ := hrun
      dsimp only at hrun1 hops
      have hfr : Fresh r := by have := onS_fresh l 0; rw [hrv] at this; exact this
      have hS26 := hS2
      have b7 := kb7.size
      have b8 := kb8.size
      have k78 := Keep.ofBelow (Q := fun _ => False) kb8
      have k68 := (Keep.ofBelow (Q := fun _ => False) kb7).trans k78
      have S1 := hS16.still k68
      have S2 := hS2.still k68
      have T1 := hT1.keep k78 (fun _ _ h => h)
      have I8 := hI6.keep k68 (fun h => h)
      have l1 := fun b hb => hS1.lt b hb
      have l2 := fun b hb => hS2.lt b hb
      have t1 := hT1.lt
      have t2 := hT2.lt
      have HB8 := Lib.hid ((((HBB.out.trans (kb5.mono (by have := HBB.out.size; omega))).trans (kb6.mono (by have := HBB.out.size; have := kb5.size; omega))).trans (kb7.mono (by have := HBB.out.size; have := kb5.size; have := kb6.size; omega))).trans (kb8.mono (by have := HBB.out.size; have := kb5.size; have := kb6.size; omega)))
      have b5 := kb5.size
      have b6 := kb6.size
      have bB := HBB.out.size
      rw [hnw] at hid1 b5 bB bw
      clear HA1 HA2 hI6 hI2 hS2 hS16 hT1 X5 X6 X7 yp kb5 kb6 kb7 kb8
      go_wp2
      go_loopw [15, 16] (fun n i wr => ∃ j : Nat, j ≤ l.length ∧ i = .int .i64 j ∧ n = .int .i64 (opsS (l.take j)) ∧ Keep (fun _ => False) w8 wr) (fun _ i wr => l.length - (intOf i).toNat)
      case atStart => exact ⟨0, by omega, rfl, rfl, Keep.refl _ _⟩
      case round =>
        obtain ⟨j, hj, rfl, rfl, kj⟩ := hrel
        by_cases hlt : j < l.length
        · obtain ⟨y, hy⟩ : ∃ y, l[j]? = some y := ⟨l[j]'hlt, by simp⟩
          obtain rfl := hua (by omega)
          have q0 := cell_keep (I8.cell j y hy).1 kj (fun h => h)
          have ij : 0 ≤ (j : Int) ∧ (j : Int) < l.length := by omega
          have hyk := (HOK.out y (List.mem_of_getElem? hy)).1.kind
          have ole : opsS (l.take j) ≤ 30 := by
            have : opsS (l.take j) ≤ (l.take j).length := List.length_filter_le _ _
            rw [List.length_take] at this
            omega
          have hstep : opsS (l.take (j + 1)) = opsS (l.take j) + (if y.kind = 7 then 0 else 1) := by
            rw [take_at hy]
            by_cases h : y.kind = 7 <;> simp [opsS, h]
          by_cases h7 : y.kind = 7
          · have g7 : (y.kind : Int) = 7 := by omega
            rw [g7] at q0
            rw [if_pos h7] at hstep
            have HST := Lib.hid hstep
            clear hstep hy
            go_wp2
            go_roundw
            case rel => exact ⟨j + 1, by omega, by go_num, by rw [HST.out]; rfl, kj⟩
            case measure => simp [intOf]; omega
          · have g7 : ¬ (y.kind : Int) = 7 := by omega
            rw [if_neg h7] at hstep
            have HST := Lib.hid hstep
            clear hstep hy
            go_wp2
            go_roundw
            case rel => exact ⟨j + 1, by omega, by go_num, by rw [HST.out]; go_num, kj⟩
            case measure => simp [intOf]; omega
        · obtain rfl : j = l.length := by omega
          rw [List.take_length]
          have S1j := S1.still kj
          have T1j := T1.keep kj (fun _ _ h => h)
          obtain ⟨F, hFd⟩ : ∃ F : Nat → Prop, F = fun b => (nw ≤ b ∧ b < w5.heap.size) ∨ (w6.heap.size ≤ b ∧ b < w7.heap.size) ∨ w8.heap.size ≤ b := ⟨_, rfl⟩
          have i1 : ∀ b, (b = c1'.C ∨ b = c1'.S ∨ b = c1'.P ∨ b = c1'.R ∨ b ∈ c1'.cs ∨ b = c1'.D ∨ b = c1'.W ∨ b = c1'.V) → nw ≤ b ∧ b < w5.heap.size := fun b hb => ⟨hid1 b hb, l1 b hb⟩
          have F0 : Keep F w8 wr := ⟨kj.os, kj.tape, kj.output, kj.size, fun b hb _ => kj.block b hb (fun h => h)⟩
          have HFR := Lib.hid hrun1
          have HOP := Lib.hid hops
          go_wp2
          go_loopw [17] (fun i wz => ∃ (j : Nat) (m : List Int) (r' : List Itm) (v' : Int) (Q : Nat → Prop), j ≤ opsS l ∧ i = .int .i64 j ∧ m.length = 4 ∧ CellsAt wz c1'.C c1'.S m (4 + j) ∧ PermitsAt wz c1'.P c1'.R c1'.cs H ∧ TaskAt wz c1' s Q r' v' ∧ (∀ x ∈ r', Plain6 x) ∧ opsS r' = opsS l - j ∧ runS m r' v' = runS M r v ∧ (∀ b, Q b → (w6.heap.size ≤ b ∧ b < w7.heap.size) ∨ w8.heap.size ≤ b) ∧ Keep F w8 wz) (fun i wz => opsS l - (intOf i).toNat)
          case atStart => exact ⟨0, M, r, v, Q1, by omega, rfl, S1.ref.few.1, S1j.cells, S1j.perms, T1j, hplain, by omega, rfl, fun b hb => .inl ⟨hQ1 b hb, t1 b hb⟩, F0⟩
          case round =>
            obtain ⟨j2, m, r', v', Q, hj2, rfl, hm4, hC, hP, hT, hpl, hop, hrn, hQ, hKF⟩ := hrel
            by_cases hlt2 : j2 < opsS l
            · have hne : ∃ x r2, r' = x :: r2 := by
                cases r' with
                | nil => rw [show opsS ([] : List Itm) = 0 from rfl] at hop; omega
                | cons x r2 => exact ⟨x, r2, rfl⟩
              obtain ⟨x, r2, rfl⟩ := hne
              have h7 : x.kind ≠ 7 := hT.fresh x (by simp)
              have hpx := hpl x (by simp)
              obtain ⟨g1, g2, g3, g4, g5, g6⟩ := stepS_plain (ps := H) (r := r2) (v := v') hpx hm4 h7
              have ho30 : opsS l ≤ 30 := by
                have : opsS l ≤ l.length := List.length_filter_le _ _
                omega
              have A1 := Lib.hid fun W (hk : Keep (fun _ => False) wr W) => tdone_any c1' s Q (x :: r2) v' W (hT.keep hk (fun _ _ h => h))
              have A2 := Lib.hid fun W (hk : Keep (fun _ => False) wr W) => tparked_any c1' s Q (x :: r2) v' W (hT.keep hk (fun _ _ h => h))
              have A3 := Lib.hid fun W (hk : Keep (fun _ => False) wr W) => tstep_yes c1' s Q (x :: r2) v' m H 0 (4 + j2) W (hT.keep hk (fun _ _ h => h)) (hC.keep hk (fun h => h) (fun h => h)) (hP.keep hk (fun h => h) (fun h => h) (fun _ _ h => h))
                (fun b hb => by
                  have hb1 := hQ b hb
                  have no : ∀ b', (b' = c1'.C ∨ b' = c1'.S ∨ b' = c1'.P ∨ b' = c1'.R ∨ b' ∈ c1'.cs ∨ b' = c1'.D ∨ b' = c1'.W ∨ b' = c1'.V) → b ≠ b' := fun b' h e => by have := i1 b' h; omega
                  exact ⟨no _ (.inl rfl), no _ (.inr (.inl rfl)), no _ (.inr (.inr (.inl rfl))), no _ (.inr (.inr (.inr (.inl rfl)))), fun h => no b (.inr (.inr (.inr (.inr (.inl h))))) rfl⟩) hm4 S1.ref.few.2 g1 (by omega)
              simp only [List.isEmpty_cons] at A1
              rw [g2] at A2
              simp only [g3, g4] at A3
              have A4 := Lib.hid (steps_any c1'.C c1'.S m (4 + j2) wr hC)
              have k0 : Keep (fun _ => False) wr wr := Keep.refl _ _
              have hjz : (j2 : Int) < opsS l := by omega
              clear hC hP g1 g2 g3 g4
              go_wp2_with (first
                | (go_at_call 29; refine (A1.out _ (by assumption)).mono ?_; rintro e w2 ⟨rfl, k1⟩; replace k0 := k0.trans k1)
                | (go_at_call 30; refine (A2.out _ (by assumption)).mono ?_; rintro e w2 ⟨rfl, k1⟩; replace k0 := k0.trans k1)
                | (go_at_call 27; refine (A3.out _ (by assumption)).mono ?_; rintro e wb ⟨rfl, ⟨Q', hT', hQ'⟩, hC', hP', kS⟩)
                | (go_at_call 25; (with_reducible refine A4.out.mono ?_); rintro e w2 ⟨rfl, rfl⟩)
                | (go_at_call 25; refine (steps_any c1'.C c1'.S _ _ _ hC').mono ?_; rintro e w2 ⟨rfl, rfl⟩))
              go_roundw
              case rel =>
                have kF : Keep F wr wb := ((k0.mono (Q' := OfStep c1' Q) (fun _ _ h => h.elim)).trans kS).mono (fun b _ hb => by
                  rw [hFd]
                  rcases hb with hb | (rfl | rfl) | hb
                  · rcases hQ b hb with h | h
                    · exact .inr (.inl h)
                    · exact .inr (.inr h)
                  · exact .inl (i1 _ (.inl rfl))
                  · exact .inl (i1 _ (.inr (.inl rfl)))
                  · exact .inl (i1 _ (.inr (.inr (.inr (.inr (.inl hb)))))))
                have hk8 := hKF.size
                have hkS := k0.size
                have hfr2 := onS_suffix r2 (operS m x).2.1
                have hro := runS_on r2 (operS m x).1 (operS m x).2.1
                refine ⟨j2 + 1, _, _, _, Q', by omega, by go_num, ?_, by rw [Int.natCast_add, Int.natCast_one, ← Int.add_assoc]; exact hC', hP', hT', fun y hy => hpl y (List.mem_cons_of_mem _ (hfr2.subset hy)), ?_, ?_, fun b hb => ?_, hKF.trans kF⟩
                · rw [operS_size]; exact hm4
                · rw [hro.2]; omega
                · rw [hro.1, ← g5]; exact hrn
                · rcases hQ' b hb with h | h
                  · exact hQ b h
                  · right; omega
              case measure => simp [intOf]; omega
            · have hnil : r' = [] := by
                cases hr' : r' with
                | nil => rfl
                | cons x r2 =>
                  subst hr'
                  have h7 : x.kind ≠ 7 := hT.fresh x (by simp)
                  have : opsS (x :: r2) = opsS r2 + 1 := by simp [opsS, h7]
                  omega
              subst hnil
              have hmv : (m, v') = runS M r v := hrn
              have nF : ∀ b, w5.heap.size ≤ b ∧ b < w6.heap.size → ¬ F b := by
                rw [hFd]; intro b hb h; rcases h with h | h | h <;> omega
              have i2 : ∀ b, (b = c2'.C ∨ b = c2'.S ∨ b = c2'.P ∨ b = c2'.R ∨ b ∈ c2'.cs ∨ b = c2'.D ∨ b = c2'.W ∨ b = c2'.V) → w5.heap.size ≤ b ∧ b < w6.heap.size := fun b hb => ⟨hid2 b hb, l2 b hb⟩
              have S2r := S2.keep hKF (nF _ (i2 _ (.inl rfl))) (nF _ (i2 _ (.inr (.inl rfl)))) (nF _ (i2 _ (.inr (.inr (.inl rfl))))) (nF _ (i2 _ (.inr (.inr (.inr (.inl rfl)))))) (fun x hx => nF _ (i2 _ (.inr (.inr (.inr (.inr (.inl hx))))))) (nF _ (i2 _ (.inr (.inr (.inr (.inr (.inr (.inl rfl)))))))) (nF _ (i2 _ (.inr (.inr (.inr (.inr (.inr (.inr (.inl rfl))))))))) (nF _ (i2 _ (.inr (.inr (.inr (.inr (.inr (.inr (.inr rfl)))))))))
              have TT2 : TaskAt wr c2' t Q2 r v := hT2.keep hKF (fun b hb hF => by
                rw [hFd] at hF
                have h1 := hQ2 b hb
                have h2 := t2 b hb
                rcases hF with h | h | h <;> omega)
              have CS := Lib.hid (steps_any c2'.C c2'.S M 4 wr S2r.cells)
              have RUN := Lib.hid (trun_any c2' t Q2 r v M H 4 wr TT2 S2r.cells S2r.perms (fun b hb => by
                have hb1 := hQ2 b hb
                have no : ∀ b', (b' = c2'.C ∨ b' = c2'.S ∨ b' = c2'.P ∨ b' = c2'.R ∨ b' ∈ c2'.cs ∨ b' = c2'.D ∨ b' = c2'.W ∨ b' = c2'.V) → b ≠ b' := fun b' h e => by have := i2 b' h; omega
                exact ⟨no _ (.inl rfl), no _ (.inr (.inl rfl)), no _ (.inr (.inr (.inl rfl))), no _ (.inr (.inr (.inr (.inl rfl)))), fun h => no b (.inr (.inr (.inr (.inr (.inl h))))) rfl⟩) S1.ref.few.1 hplain (by omega))
              rw [← hmv, HOP.out] at RUN
              dsimp only at RUN
              have ej : (j2 : Int) = opsS l := by omega
              have ho30 : opsS l ≤ 30 := by
                have : opsS l ≤ l.length := List.length_filter_le _ _
                omega
              have hKS := hKF.size
              have HKF := Lib.hid hKF
              have S1H := S1.ref.few.2
              clear hKF hS1 hid1 hid2 hS26 S1 S2 T1 T1j S1j S2r TT2 hrn I8 F0
              go_upto_region 32 with (first
                | (go_at_call 25; (with_reducible refine CS.out.mono ?_); rintro e w9 ⟨rfl, rfl⟩)
                | (go_at_call 31; refine RUN.out.mono ?_; rintro e w9 ⟨rfl, ⟨Q2', hT9, hQ9⟩, hC9, hP9, k9⟩))
              have nO1 : ∀ b, (nw ≤ b ∧ b < w5.heap.size) → ¬ OfStep c2' Q2 b := by
                intro b hb h
                rcases h with h | (rfl | rfl) | h
                · have := hQ2 b h; omega
                · have := i2 _ (.inl rfl); omega
                · have := i2 _ (.inr (.inl rfl)); omega
                · have := i2 _ (.inr (.inr (.inr (.inr (.inl h))))); omega
              have nO2 : ∀ b, Q b → ¬ OfStep c2' Q2 b := by
                intro b hb0 h
                have hb := hQ b hb0
                have hlt9 := hT.lt b hb0
                rcases h with h | (rfl | rfl) | h
                · have := hQ2 b h; have := t2 b h; omega
                · have := i2 _ (.inl rfl); omega
                · have := i2 _ (.inr (.inl rfl)); omega
                · have := i2 _ (.inr (.inr (.inr (.inr (.inl h))))); omega
              have T1r := hT.keep k9 nO2
              have C1r := hC.keep k9 (nO1 _ (i1 _ (.inl rfl))) (nO1 _ (i1 _ (.inr (.inl rfl))))
              have P1r := hP.keep k9 (nO1 _ (i1 _ (.inr (.inr (.inl rfl))))) (nO1 _ (i1 _ (.inr (.inr (.inr (.inl rfl)))))) (fun x hx => nO1 _ (i1 _ (.inr (.inr (.inr (.inr (.inl hx)))))))
              have A1 := Lib.hid fun W (hk : Keep (fun _ => False) w9 W) => tdone_any c1' s Q [] v' W (T1r.keep hk (fun _ _ h => h))
              have A2 := Lib.hid fun W (hk : Keep (fun _ => False) w9 W) => tdone_any c2' t Q2' [] v' W (hT9.keep hk (fun _ _ h => h))
              have A3 := Lib.hid fun W (hk : Keep (fun _ => False) w9 W) => tstep_no c1' s Q [] v' H 0 W (T1r.keep hk (fun _ _ h => h)) (P1r.keep hk (fun h => h) (fun h => h) (fun _ _ h => h)) S1H rfl
              have A4 := Lib.hid fun W (hk : Keep (fun _ => False) w9 W) => tvalue_any c1' s Q [] v' W (T1r.keep hk (fun _ _ h => h))
              have A5 := Lib.hid fun W (hk : Keep (fun _ => False) w9 W) => steps_any c2'.C c2'.S m (4 + (opsS l : Int)) W (hC9.keep hk (fun h => h) (fun h => h))
              have A6 := Lib.hid fun W (hk : Keep (fun _ => False) w9 W) => all_any c2'.C c2'.S m (4 + (opsS l : Int)) W (hC9.keep hk (fun h => h) (fun h => h))
              have A7 := Lib.hid fun B u W (hk : Keep (fun _ => False) w9 W) hr => has6_any c1'.C c1'.S B m (4 + (j2 : Int)) u W (C1r.keep hk (fun h => h) (fun h => h)) (by omega) hr
              simp only [List.isEmpty_nil] at A1 A2
              simp only [show valueS [] v' = v' from rfl] at A4
              have k0 : Keep (fun _ => False) w9 w9 := Keep.refl _ _
              have K9 := Lib.hid k9
              clear hC hP hT T1r C1r P1r hT9 hC9 hP9 hQ9 nO1 nO2 k9
              go_wp2_with (first
                | (go_at_call 29; (with_reducible refine (A1.out _ (by assumption)).mono ?_); rintro e wa ⟨rfl, k1⟩; replace k0 := k0.trans k1)
                | (go_at_call 29; (with_reducible refine (A2.out _ (by assumption)).mono ?_); rintro e wa ⟨rfl, k1⟩; replace k0 := k0.trans k1)
                | (go_at_call 27; refine (A3.out _ (by assumption)).mono ?_; rintro e wa ⟨rfl, k1⟩; replace k0 := k0.trans k1)
                | (go_at_call 32; refine (A4.out _ (by assumption)).mono ?_; rintro e wa ⟨rfl, k1⟩; replace k0 := k0.trans k1)
                | (go_at_call 25; refine (A5.out _ (by assumption)).mono ?_; rintro e wa ⟨rfl, rfl⟩)
                | (go_at_call 34; refine (A6.out _ (by assumption)).mono ?_; rintro e wa ⟨uu, rfl, kA, hrow⟩; replace k0 := k0.trans (Keep.ofBelow (Q := fun _ => False) kA))
                | (go_at_call 33; refine (A7.out _ _ _ (by assumption) (by assumption)).mono ?_; rintro e wa ⟨rfl, k1⟩; replace k0 := k0.trans k1))
              go_ret
              have n8 := HB8.out.size
              have c1 : Below w.heap.size w8 wr := HKF.out.below (by omega) (fun b _ h => by rw [hFd] at h; rcases h with h | h | h <;> omega)
              have c2 : Below w.heap.size wr w9 := K9.out.below (by omega) (fun b _ h => by
                rcases h with h | (rfl | rfl) | h
                · have := hQ2 b h; omega
                · have := i2 _ (.inl rfl); omega
                · have := i2 _ (.inr (.inl rfl)); omega
                · have := i2 _ (.inr (.inr (.inr (.inr (.inl h))))); omega)
              have s9 := c2.size
              have c3 : Below w.heap.size w9 wa := k0.below (by omega) (fun _ _ h => h.elim)
              exact ⟨rfl, ((HB8.out.trans c1).trans c2).trans c3⟩
end Go.Proofs.Ytmkgbbbhmbejnaa
