/- FieldWhole returns true: a word is put together by what its fields have, in whichever order. -/
import Derived.Test.YtdfnldgjgaieeaaFieldG
import Derived.Deep.RegionHeld3
import Derived.WalkLawsBesides
namespace Go.Proofs.Ytdfnldgjgaieeaa
open Go.ChangeShapes Go.WideShapes Go.ChangeAt Go.RowKit Go.Shelf
set_option linter.unusedVariables false
namespace Whole
/-- the bits that are put together behind j rounds -/
def region (ks : List Nat) (back : Bool) (j t : Nat) : Bool := if back then decide (atF ks (ks.length - j) ≤ t) else decide (t < atF ks j)
def Good (ks : List Nat) (back : Bool) (x j A : Nat) : Prop := A < 18446744073709551616 ∧ ∀ t, t < 64 → A.testBit t = (region ks back j t && x.testBit t)
theorem good_start (ks : List Nat) (hs : ks.sum = 64) (back : Bool) (x : Nat) : Good ks back x 0 0 := by
  refine ⟨by decide, fun t ht => ?_⟩
  rw [Nat.zero_testBit]
  cases back
  · simp [region, atF]
  · have : ¬ atF ks ks.length ≤ t := by rw [atF_all, hs]; omega
    simp [region, this]
theorem good_step (ks : List Nat) (hs : ks.sum = 64) (back : Bool) (x j A k : Nat) (h : Good ks back x j A) (hj : j < ks.length) (hk : k = if back then ks.length - 1 - j else j) :
    Good ks back x (j + 1) (BitNat.put (atF ks k) (ks.getD k 0) A (BitNat.get (atF ks k) (ks.getD k 0) x)) := by
  have hkl : k < ks.length := by cases back <;> simp at hk <;> omega
  have ha := atF_succ ks k hkl
  have hb := atF_le ks (k + 1) (by omega)
  have h64 : atF ks k + ks.getD k 0 ≤ 64 := by omega
  have hg := BitNat.get_lt (atF ks k) (ks.getD k 0) x
  refine ⟨BitNat.put_lt _ _ _ _ h64 h.1 hg, fun t ht => ?_⟩
  rw [BitNat.put_bit _ _ _ _ _ h64 h.1 hg, h.2 t ht]
  cases back
  · simp at hk
    subst hk
    by_cases hc : atF ks k ≤ t ∧ t < atF ks k + ks.getD k 0
    · rw [if_pos hc, BitNat.get_bit]
      have e : atF ks k + (t - atF ks k) = t := by omega
      have e1 : t - atF ks k < ks.getD k 0 := by omega
      have e2 : t < atF ks (k + 1) := by omega
      simp only [region, e, e1, e2]; simp
    · rw [if_neg hc]
      have e2 : (t < atF ks (k + 1)) ↔ (t < atF ks k) := by omega
      simp [region, e2]
  · simp at hk
    have e3 : ks.length - j = k + 1 := by omega
    have e4 : ks.length - (j + 1) = k := by omega
    by_cases hc : atF ks k ≤ t ∧ t < atF ks k + ks.getD k 0
    · rw [if_pos hc, BitNat.get_bit]
      have e : atF ks k + (t - atF ks k) = t := by omega
      have e1 : t - atF ks k < ks.getD k 0 := by omega
      have e2 : atF ks k ≤ t := hc.1
      simp only [region, e, e1, e2, e4]; simp
    · rw [if_neg hc]
      have e2 : (atF ks (k + 1) ≤ t) ↔ (atF ks k ≤ t) := by omega
      simp [region, e2, e3, e4]
theorem good_end (ks : List Nat) (hs : ks.sum = 64) (back : Bool) (x A : Nat) (hx : x < 18446744073709551616) (h : Good ks back x ks.length A) : A = x := by
  apply Nat.eq_of_testBit_eq
  intro t
  by_cases ht : t < 64
  · rw [h.2 t ht]
    cases back
    · have e : t < atF ks ks.length := by rw [atF_all, hs]; exact ht
      simp [region, e]
    · simp [region, atF]
  · rw [BitNat.bit_high A t 64 (by have := h.1; omega) (by omega), BitNat.bit_high x t 64 (by omega) (by omega)]
theorem vint {k : IntKind} {a b : Int} (h : a = b) : Value.int k a = Value.int k b := by rw [h]
set_option maxRecDepth 100000 in
set_option maxHeartbeats 4000000 in
theorem whole_any (a : Option Addr) (len cap : Nat) (zs : List Int) (hlen : len ≤ 9223372036854775807) (x : Nat) (hx : x < 18446744073709551616) (back : Bool) (w : World) (hz : NumsIn .u8 w a len zs) :
    Calls Try.prog 6 #[.slice a len cap, .int .u64 x, .bool back] w fun e w' => e = .returned (.bool true) ∧ Below w.heap.size w w' := by
  obtain ⟨i0, hi, hz0, hz1, hz2⟩ := info_parts infoInt
  have HZ := Lib.hid hz
  clear hz
  go_enter Try.func6, Try.ntmps6
  go_wp2_with fail
  refine (works_any _).mono ?_
  rintro e w1 ⟨rfl, hb1⟩
  go_wp2_with fail
  go_loopw [7, 8, 9] (fun v left i wr => ∃ ks : List Nat, Made w w1.heap.size ks v wr ∧ left = .int .i64 ((64 - ks.sum : Nat) : Int) ∧ i = .int .i64 (ks.length : Int))
    (fun _ left _ _ => (intOf left).toNat)
  case atStart => exact ⟨[], ⟨by simp, by simp, World.ownsRow_nil _ _ _ _, hb1, hb1.size, Nat.le_refl _⟩, rfl, rfl⟩
  case round =>
    obtain ⟨ks, M, rfl, rfl⟩ := hrel
    have hge := sum_ge ks M.pos
    have hsum := M.sum
    have hrow := M.row
    have hh := M.hhi
    by_cases h0 : ks.sum < 64
    · generalize hL : 64 - ks.sum = L at *
      have HL := Lib.hid hL
      clear hL
      have hL1 : 1 ≤ L := by have := HL.out; omega
      have hL2 : L ≤ 64 := by have := HL.out; omega
      by_cases h1 : ks.length < len ∧ ks.length < 40
      · obtain ⟨h2, h3⟩ := h1
        obtain ⟨b, off, ea, hb, hc, hwf⟩ := HZ.out ks.length h2
        obtain ⟨z0, z1⟩ := wf_u8 hwf
        subst ea
        have hc2 : wr.cell? ⟨b, off + ks.length, none⟩ = some (.int .u8 (zs.getD ks.length 0)) := (M.base.cell (p := ⟨b, off + ks.length, none⟩) hb).trans hc
        generalize zs.getD ks.length 0 = z at *
        clear hc HZ hwf
        by_cases h4 : 1 + z % 30 < (L : Int)
        · obtain ⟨n, hn⟩ : ∃ n : Nat, (n : Int) = 1 + z % 30 := ⟨(1 + z % 30).toNat, by omega⟩
          have HN := Lib.hid hn
          clear hn
          go_wp2_with (at_builtin; refine wpList_append_own _ rfl _ _ 40 rfl w1.heap.size 3 i0 (.int .i64 0) 1 8 Try.underlying40 hi hz0 hz1 hz2 rfl (by decide) _ _ _ rfl (hrow.alloc _) ⟨wr.heap.size, 0, none⟩ 1 1 [.int .i64 (1 + z % 30)] rfl rfl (cell_one_new _ _ _) (by simp [Value.oneCell']) (by unfold maxLen; omega) (by omega) (by simp; omega) ?_; intro v' w2 hown' hgrow _)
          go_roundw
          case rel => exact ⟨ks ++ [n], M.step n (by have := HN.out; omega) (by have := HN.out; have := HL.out; omega) _ (by rw [HN.out]; exact hown') hgrow, vint (by have := HN.out; have := HL.out; simp only [List.sum_append, List.sum_cons, List.sum_nil]; omega), vint (by simp)⟩
          case measure => simp [intOf]; omega
        · go_wp2_with (at_builtin; refine wpList_append_own _ rfl _ _ 40 rfl w1.heap.size 3 i0 (.int .i64 0) 1 8 Try.underlying40 hi hz0 hz1 hz2 rfl (by decide) _ _ _ rfl (hrow.alloc _) ⟨wr.heap.size, 0, none⟩ 1 1 [.int .i64 (L : Int)] rfl rfl (cell_one_new _ _ _) (by simp [Value.oneCell']) (by unfold maxLen; omega) (by omega) (by simp; omega) ?_; intro v' w2 hown' hgrow _)
          go_roundw
          case rel => exact ⟨ks ++ [L], M.step L (by omega) (by have := HL.out; omega) _ hown' hgrow, vint (by have := HL.out; simp only [List.sum_append, List.sum_cons, List.sum_nil]; omega), vint (by simp)⟩
          case measure => simp [intOf]; omega
      · clear HZ
        by_cases h2 : ks.length < len
        · have h3 : decide ((ks.length : Int) < 40) = false := by simp; omega
          clear h1
          go_wp2_with (at_builtin; refine wpList_append_own _ rfl _ _ 40 rfl w1.heap.size 3 i0 (.int .i64 0) 1 8 Try.underlying40 hi hz0 hz1 hz2 rfl (by decide) _ _ _ rfl (hrow.alloc _) ⟨wr.heap.size, 0, none⟩ 1 1 [.int .i64 (L : Int)] rfl rfl (cell_one_new _ _ _) (by simp [Value.oneCell']) (by unfold maxLen; omega) (by omega) (by simp; omega) ?_; intro v' w2 hown' hgrow _)
          go_roundw
          case rel => exact ⟨ks ++ [L], M.step L (by omega) (by have := HL.out; omega) _ hown' hgrow, vint (by have := HL.out; simp only [List.sum_append, List.sum_cons, List.sum_nil]; omega), vint (by simp)⟩
          case measure => simp [intOf]; omega
        · have h3 : decide ((ks.length : Int) < (len : Int)) = false := by simp; omega
          clear h1
          go_wp2_with (at_builtin; refine wpList_append_own _ rfl _ _ 40 rfl w1.heap.size 3 i0 (.int .i64 0) 1 8 Try.underlying40 hi hz0 hz1 hz2 rfl (by decide) _ _ _ rfl (hrow.alloc _) ⟨wr.heap.size, 0, none⟩ 1 1 [.int .i64 (L : Int)] rfl rfl (cell_one_new _ _ _) (by simp [Value.oneCell']) (by unfold maxLen; omega) (by omega) (by simp; omega) ?_; intro v' w2 hown' hgrow _)
          go_roundw
          case rel => exact ⟨ks ++ [L], M.step L (by omega) (by have := HL.out; omega) _ hown' hgrow, vint (by have := HL.out; simp only [List.sum_append, List.sum_cons, List.sum_nil]; omega), vint (by simp)⟩
          case measure => simp [intOf]; omega
    · have hs : ks.sum = 64 := by omega
      have hl0 : 0 < ks.length := by
        cases ks with
        | nil => simp at hs
        | cons k ks => simp
      have hl1 : ks.length ≤ 64 := by omega
      have g0 : 64 - ks.sum = 0 := by omega
      have HS := Lib.hid hs
      have L := lay_yes u7 (row_oneCell M.row) (toI ks) (by rw [toI_length]; omega) wr (intsAt_of_row (by rw [toI_length]; exact M.row)) (by rw [show (0 : Int) = ((0 : Nat) : Int) from rfl, laidW_row ks 0 (by omega)]; exact rowF_may ks 0 (by omega) M.pos)
      rw [show (0 : Int) = ((0 : Nat) : Int) from rfl, laidW_row ks 0 (by omega)] at L
      obtain ⟨va, vc, rfl⟩ : ∃ va vc, u7 = .slice va ks.length vc := by
        rcases M.row.2 with ⟨e, hn⟩ | ⟨g, cp, cur, e, _⟩
        · omega
        · exact ⟨_, _, e⟩
      have HL := Lib.hid L
      have Hg := Lib.hid g0
      clear L hs hrow hsum h0 HZ g0
      rw [Hg.out]
      go_wp2_with fail
      refine HL.out.mono ?_
      rintro e w2 ⟨u, rfl, hb2, hF⟩
      obtain ⟨b, F⟩ := fRow_of _ _ _ _ hF
      obtain ⟨fa, fc, rfl, hfa⟩ := F.val
      obtain rfl := hfa hl0
      have B2 := M.base.trans (hb2.mono M.base.size)
      clear hF hb2
      go_wp2_with fail
      have hpos := M.pos
      have HP := Lib.hid hpos
      clear hpos M hfa
      go_loopw [12, 13] (fun all i wz => ∃ j A : Nat, j ≤ ks.length ∧ i = .int .i64 (j : Int) ∧ all = .int .u64 (A : Int) ∧ Good ks back x j A ∧ FRow wz wr.heap.size b (.slice (some ⟨b, 0, none⟩) ks.length fc) ks ∧ Below w.heap.size w wz)
        (fun all i wz => ks.length - (intOf i).toNat)
      case atStart => exact ⟨0, 0, by omega, rfl, rfl, good_start ks HS.out back x, F, B2⟩
      case round =>
        obtain ⟨j, A, hj, rfl, rfl, G, F2, B2w⟩ := hrel
        clear F B2
        by_cases hlt : j < ks.length
        · obtain ⟨K, hK⟩ : ∃ K, K = if back then ks.length - 1 - j else j := ⟨_, rfl⟩
          have hKl : K < ks.length := by cases back <;> simp at hK <;> omega
          obtain ⟨r0, r1⟩ := F2.cell K hKl
          have hk1 : 1 ≤ ks.getD K 0 := by
            have e : ks.getD K 0 = ks[K] := by simp [List.getD_eq_getElem?_getD, hKl]
            rw [e]; exact HP.out _ (List.getElem_mem hKl)
          have hk2 : atF ks K + ks.getD K 0 ≤ 64 := by
            have h1 := atF_succ ks K hKl
            have h2 := atF_le ks (K + 1) (by omega)
            have h3 := HS.out
            omega
          have G2 := good_step ks HS.out back x j A K G hlt hK
          have hA := G.1
          have hv := BitNat.get_lt (atF ks K) (ks.getD K 0) x
          have O1 := fun W => of_yes (atF ks K) (ks.getD K 0) x W hk1 hk2 hx
          have O2 := fun W => put_yes (atF ks K) (ks.getD K 0) A (BitNat.get (atF ks K) (ks.getD K 0) x) W hk1 hk2 hA hv
          generalize BitNat.put (atF ks K) (ks.getD K 0) A (BitNat.get (atF ks K) (ks.getD K 0) x) = A2 at *
          generalize BitNat.get (atF ks K) (ks.getD K 0) x = v at *
          have hlo := (F2.lo (by omega)).2
          generalize hat : atF ks K = a0 at *
          generalize hkk : ks.getD K 0 = k0 at *
          have HO1 := Lib.hid O1
          have HO2 := Lib.hid O2
          have HG2 := Lib.hid G2
          have HG := Lib.hid G
          have Hat := Lib.hid hat
          have Hkk := Lib.hid hkk
          clear O1 O2 G G2 hat hkk hv hA
          cases back
          · simp at hK
            subst hK
            go_wp2_with fail
            go_region_held3 (fun w' => w'.cell? ⟨b, K * 2, none⟩ = some (.int .i64 (a0 : Int)) ∧ w'.cell? ⟨b, K * 2 + 1, none⟩ = some (.int .i64 (k0 : Int))) (first | exact ⟨r0, r1⟩ | go_keep) (first
              | (go_at_call 12; refine (HO1.out _).mono ?_; rintro e w3 ⟨rfl, hb⟩; replace F2 := F2.drew.below hb; replace B2w := B2w.drew.trans (hb.mono B2w.size); clear r0 r1 hb; obtain ⟨r0, r1⟩ := F2.cell K hKl; rw [Hat.out] at r0; rw [Hkk.out] at r1)
              | (go_at_call 9; refine (HO2.out _).mono ?_; rintro e w3 ⟨rfl, hb⟩; replace F2 := F2.below hb; replace B2w := B2w.trans (hb.mono B2w.size); clear r0 r1 hb; obtain ⟨r0, r1⟩ := F2.cell K hKl; rw [Hat.out] at r0; rw [Hkk.out] at r1))
            go_wp2
            go_roundw
            case rel => exact ⟨K + 1, A2, by omega, by go_num, rfl, HG2.out, F2, B2w⟩
            case measure => simp [intOf]; omega
          · simp at hK
            have hKI : ((ks.length : Int) - 1 - (j : Int)) = (K : Int) := by omega
            have HK := Lib.hid hK
            clear hK
            go_wp2_with fail
            go_region_held3 (fun w' => w'.cell? ⟨b, K * 2, none⟩ = some (.int .i64 (a0 : Int)) ∧ w'.cell? ⟨b, K * 2 + 1, none⟩ = some (.int .i64 (k0 : Int))) (first | exact ⟨r0, r1⟩ | go_keep) (first
              | (go_at_call 12; refine (HO1.out _).mono ?_; rintro e w3 ⟨rfl, hb⟩; replace F2 := F2.drew.below hb; replace B2w := B2w.drew.trans (hb.mono B2w.size); clear r0 r1 hb; obtain ⟨r0, r1⟩ := F2.cell K hKl; rw [Hat.out] at r0; rw [Hkk.out] at r1)
              | (go_at_call 9; refine (HO2.out _).mono ?_; rintro e w3 ⟨rfl, hb⟩; replace F2 := F2.below hb; replace B2w := B2w.trans (hb.mono B2w.size); clear r0 r1 hb; obtain ⟨r0, r1⟩ := F2.cell K hKl; rw [Hat.out] at r0; rw [Hkk.out] at r1))
            go_wp2
            go_roundw
            case rel => exact ⟨j + 1, A2, by omega, by go_num, rfl, HG2.out, F2, B2w⟩
            case measure => simp [intOf]; omega
        · obtain rfl : j = ks.length := by omega
          obtain rfl := good_end ks HS.out back x A hx G
          clear G
          go_wp2
          go_ret
          exact ⟨rfl, B2w⟩
end Whole
end Go.Proofs.Ytdfnldgjgaieeaa
