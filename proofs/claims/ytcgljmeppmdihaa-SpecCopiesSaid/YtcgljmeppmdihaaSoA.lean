/- Law 12's drafts: size, walk. -/
import Derived.Test.YtcgljmeppmdihaaRsQ
namespace Go.Proofs.Ytcgljmeppmdihaa
open Go.ChangeShapes Go.WideShapes Go.ChangeAt Go.RowKit
set_option linter.unusedVariables false
set_option maxRecDepth 100000
set_option linter.unusedSimpArgs false
set_option maxHeartbeats 4000000 in
theorem size_any (a b : Nat) (ha : a ≤ 255) (hb : b ≤ 255) (v : Value) (w : World) :
    Calls Try.prog 6 #[.agg #[.int .u8 (a : Int), .int .u8 (b : Int), v]] w fun e w' => e = .returned (.tuple #[.int .i64 ((1 + a % 4 : Nat) : Int), .int .i64 ((1 + b % 3 : Nat) : Int)]) ∧ Below w.heap.size w w' := by
  obtain ⟨x, hx⟩ : ∃ x, x = a % 4 := ⟨_, rfl⟩
  obtain ⟨y, hy⟩ : ∃ y, y = b % 3 := ⟨_, rfl⟩
  have ea : ((a : Int)).tmod 4 = (x : Int) := by rw [hx]; rfl
  have eb : ((b : Int)).tmod 3 = (y : Int) := by rw [hy]; rfl
  have hx4 : x < 4 := by omega
  have hy3 : y < 3 := by omega
  rw [← hx, ← hy]
  have ea1 : IntKind.i64.wrap (x : Int) = (x : Int) := IntWalk.i64_in _ ⟨by omega, by omega⟩
  have eb1 : IntKind.i64.wrap (y : Int) = (y : Int) := IntWalk.i64_in _ ⟨by omega, by omega⟩
  have ea2 : IntKind.i64.wrap (1 + (x : Int)) = 1 + (x : Int) := IntWalk.i64_in _ ⟨by omega, by omega⟩
  have eb2 : IntKind.i64.wrap (1 + (y : Int)) = 1 + (y : Int) := IntWalk.i64_in _ ⟨by omega, by omega⟩
  clear hx hy ha hb
  have HB := Lib.hid (show Below w.heap.size w (w.alloc (.cells #[.int .u8 (a : Int), .int .u8 (b : Int), v] 24)) from (Below.refl _ _).alloc (Nat.le_refl _) _)
  go_enter Try.func6, Try.ntmps6
  go_upto_region 1 with fail
  have d0 := (Blk.new w 24 #[.int .u8 (a : Int), .int .u8 (b : Int), v]).cell 0 _ rfl
  have d1 := (Blk.new w 24 #[.int .u8 (a : Int), .int .u8 (b : Int), v]).cell 1 _ rfl
  generalize hW : w.alloc _ = W at *
  clear hW
  go_quiet (fail)
  go_wp2_with fail
  go_ret2
  exact ⟨by simp, HB.out.trans ⟨rfl, rfl, rfl, Nat.le_refl _, fun _ _ => rfl⟩⟩
theorem cut_u8 (a : Option Addr) (k c h : Nat) (hk : h ≤ k) (hc : k ≤ c) : ∃ a2 : Option Addr, (∀ W, (Instr.slice 22 (.slice a k c) none (some (.int .i64 (h : Int))) none).run Try.prog W = .ok (.slice a2 h c) W) ∧ ∀ B o, a = some ⟨B, o, none⟩ → a2 = some ⟨B, o, none⟩ := by
  refine ⟨if c = 0 then a else a.map (·.add (0 * 1)), fun W => ?_, fun B o e => ?_⟩
  · rw [run_slice_h _ 22 _ _ _ (by kernel_rfl) .i64 h (by omega) (by omega)]
    have hs : (sizeOf (Try.prog.elem 22)).run Try.prog W = .ok 1 W := by kernel_rfl
    rw [hs]
    simp only [Result.andThen, sliced, Int.toNat_natCast, Nat.sub_zero]
  · subst e
    split
    · rfl
    · simp [Addr.add]
theorem BytesIn.cut {w : World} {a a2 : Option Addr} {k h : Nat} (hb : BytesIn w a k) (hk : h ≤ k) (ha : ∀ B o, a = some ⟨B, o, none⟩ → a2 = some ⟨B, o, none⟩) : BytesIn w a2 h := by
  intro i hi
  obtain ⟨B, o, b, h1, h2⟩ := hb i (by omega)
  exact ⟨B, o, b, ha B o h1, h2⟩
/-- a draft's events: an own row that the document's automaton takes -/
theorem walk_any (a b : Nat) (ha : a ≤ 255) (hb : b ≤ 255) (s : Option Addr) (k c : Nat) (hk : k ≤ c) (hc : c ≤ 9223372036854775807) (w : World) (hB : BytesIn w s k) :
    Calls Try.prog 8 #[.agg #[.int .u8 (a : Int), .int .u8 (b : Int), .slice s k c]] w (WalkPost w (1 + a % 4) (1 + b % 3)) := by
  have HSz := Lib.hid (size_any a b ha hb (.slice s k c))
  obtain ⟨h, hh⟩ : ∃ h, h = min k 600 := ⟨_, rfl⟩
  obtain ⟨s2, hs2, hs3⟩ := cut_u8 s k c h (by omega) hk
  have HWk := Lib.hid fun W (hW : Below w.heap.size w W) => rwalk_any (1 + a % 4) (1 + b % 3) (by omega) (by omega) s2 h c (by omega) W ((hB.below hW).cut (by omega) hs3)
  have hd3 : Hid ((Try.prog.info? 24).map (·.size) = some 3) := Lib.hid (by kernel_rfl)
  have HB0 := Lib.hid ((Below.refl w.heap.size w).alloc (Nat.le_refl _) (.cells #[.int .u8 (a : Int), .int .u8 (b : Int), .slice s k c] 24))
  have HQ0 := Lib.hid (Blk.new w 24 #[.int .u8 (a : Int), .int .u8 (b : Int), .slice s k c])
  generalize 1 + a % 4 = m at HSz HWk ⊢
  generalize 1 + b % 3 = n at HSz HWk ⊢
  clear hB hk ha hb hc hs3
  go_enter Try.func8, Try.ntmps8
  go_upto_region 1 with fail
  generalize hW : w.alloc _ = W at HB0 HQ0 ⊢
  obtain ⟨bx, hbx⟩ : ∃ bx, bx = w.heap.size := ⟨_, rfl⟩
  have hbl : Hid (bx < W.heap.size) := Lib.hid (by rw [hbx]; exact HQ0.out.lt)
  rw [← hbx] at HQ0 ⊢
  clear hW hbx
  go_upto_region 2 with (first
    | (refine wpList_load_row rfl 24 _ rfl bx rfl 24 #[.int .u8 (a : Int), .int .u8 (b : Int), .slice s k c] (0, 0) _ HQ0.out Try.underlying24 rfl hd3.out ?_)
    | (go_at_call 6; (with_reducible refine (HSz.out W).mono ?_); rintro e1 w1 ⟨rfl, hb1⟩))
  have HQ1 := Lib.hid (HQ0.out.below hb1 hbl.out)
  have HB1 := Lib.hid (HB0.out.trans (hb1.mono HB0.out.size))
  clear hb1
  have d2 := HQ1.out.cell 2 _ rfl
  by_cases h6 : k ≤ 600
  · obtain rfl : h = k := by omega
    have h6I : (h : Int) ≤ 600 := by omega
    clear hh
    go_upto_region 3 with (go_at_call 19; (with_reducible refine (HWk.out _ HB1.out).mono ?_); rintro e2 w2 ⟨v2, l2, r2, rfl, h2, h3, h4, h5⟩)
    go_ret
    exact ⟨_, l2, r2, rfl, wrow_lower h2 HB1.out.size, h3, h4, HB1.out.trans (h5.mono HB1.out.size)⟩
  · obtain rfl : h = 600 := by omega
    have h6I : ¬ (k : Int) ≤ 600 := by omega
    have hs6 : ∀ W, (Instr.slice 22 (.slice s k c) none (some (.int .i64 600)) none).run Try.prog W = .ok (.slice s2 600 c) W := hs2
    clear hh hs2
    go_upto_region 3 with (go_at_call 19; (with_reducible refine (HWk.out _ HB1.out).mono ?_); rintro e2 w2 ⟨v2, l2, r2, rfl, h2, h3, h4, h5⟩)
    go_ret
    exact ⟨_, l2, r2, rfl, wrow_lower h2 HB1.out.size, h3, h4, HB1.out.trans (h5.mono HB1.out.size)⟩
end Go.Proofs.Ytcgljmeppmdihaa
