/- FieldTells returns true: what a field tells, and puts, is as the document says. -/
import Derived.Test.YtdfnldgjgaieeaaFieldRef
import Derived.Test.YtdfnldgjgaieeaaFieldG
import Derived.Deep.RegionHeld3
namespace Go.Proofs.Ytdfnldgjgaieeaa
open Go.ChangeShapes Go.WideShapes Go.ChangeAt Go.RowKit Go.Shelf
set_option linter.unusedVariables false
namespace Tells
def little (a : Int) : Int := wrap64 ((IntKind.u64.wrap a).tmod 66)
theorem little_range (a : Int) : 0 ≤ little a ∧ little a ≤ 65 := by
  have h1 := IntKind.wrap_u64 a
  have h2 : 0 ≤ IntKind.u64.wrap a := by rw [h1]; omega
  have h3 : (IntKind.u64.wrap a).tmod 66 = IntKind.u64.wrap a % 66 := Int.tmod_eq_emod_of_nonneg h2
  unfold little
  rw [h3]
  have h4 : 0 ≤ IntKind.u64.wrap a % 66 ∧ IntKind.u64.wrap a % 66 < 66 := by omega
  rw [IntWalk.wrap64_in _ ⟨by omega, by omega⟩]
  omega
/-- the words, boxed -/
structure Words (B x0 x1 : Nat) (w : World) : Prop where
  c0 : w.cell? ⟨B, 0, none⟩ = some (.int .u64 (x0 : Int))
  c1 : w.cell? ⟨B, 1, none⟩ = some (.int .u64 (x1 : Int))
  lt : B < w.heap.size
theorem Words.below {B x0 x1 : Nat} {w w1 : World} (h : Words B x0 x1 w) (hb : Below w.heap.size w w1) : Words B x0 x1 w1 :=
  ⟨(hb.cell (p := ⟨B, 0, none⟩) h.lt).trans h.c0, (hb.cell (p := ⟨B, 1, none⟩) h.lt).trans h.c1, Nat.lt_of_lt_of_le h.lt hb.size⟩
theorem boxDrew {B : Nat} {a k : Int} {w : World} (h : Box B a k w) : Box B a k w.drew := ⟨h.c0, h.c1⟩
theorem Words.drew {B x0 x1 : Nat} {w : World} (h : Words B x0 x1 w) : Words B x0 x1 w.drew := ⟨h.c0, h.c1, h.lt⟩
theorem and_low (v k : Nat) (hv : v < 18446744073709551616) (hk : k ≤ 64) : bits .and .u64 (v : Int) ((2^k - 1 : Nat) : Int) = ((v % 2^k : Nat) : Int) := by
  have h1 : (2:Nat)^k ≤ 2^64 := Nat.pow_le_pow_right (by decide) hk
  have h2 : (2:Nat)^64 = 18446744073709551616 := by decide
  have h3 := Nat.two_pow_pos k
  rw [u64_and_nat v (2^k - 1) hv (by omega), Nat.and_two_pow_sub_one_eq_mod]
set_option maxRecDepth 100000 in
set_option maxHeartbeats 8000000 in
theorem tells_any (a k : Int) (ha : -9223372036854775808 ≤ a) (ha2 : a ≤ 9223372036854775807) (hk : -9223372036854775808 ≤ k) (hk2 : k ≤ 9223372036854775807) (x0 x1 : Nat) (h0 : x0 < 18446744073709551616) (h1 : x1 < 18446744073709551616) (w : World) :
    Calls Try.prog 3 #[.int .i64 a, .int .i64 k, .agg #[.int .u64 x0, .int .u64 x1]] w fun e w' => e = .returned (.bool true) ∧ Below w.heap.size w w' := by
  go_enter Try.func3, Try.ntmps3
  go_wp2_with fail
  generalize hsa : wrap64 ((IntKind.u64.wrap a).tmod 66) = sa at *
  generalize hsk : wrap64 ((IntKind.u64.wrap k).tmod 66) = sk at *
  have ra : 0 ≤ sa ∧ sa ≤ 65 := by rw [← hsa]; exact little_range a
  have rk : 0 ≤ sk ∧ sk ≤ 65 := by rw [← hsk]; exact little_range k
  generalize (IntKind.u64.wrap a).tmod 66 = ta at *
  generalize (IntKind.u64.wrap k).tmod 66 = tk at *
  clear hsa hsk
  have W0 : Words w.heap.size x0 x1 (w.alloc (.cells #[.int .u64 x0, .int .u64 x1] 23)) := ⟨by simp, by simp, by simp⟩
  have B0 := (Below.refl w.heap.size w).alloc (Nat.le_refl _) (.cells #[.int .u64 x0, .int .u64 x1] 23)
  go_loopw [30] (fun i wz => ∃ r : Nat, r ≤ 2 ∧ i = .int .i64 (r : Int) ∧ Words w.heap.size x0 x1 wz ∧ Below w.heap.size w wz) (fun i _ => 2 - (intOf i).toNat)
  case atStart => exact ⟨0, by omega, rfl, W0, B0⟩
  case round =>
    obtain ⟨r, hr, rfl, Wz, Bz⟩ := hrel
    clear W0 B0
    by_cases hr2 : r < 2
    · obtain ⟨A, K, hidx, g1, g2, g3, g4⟩ : ∃ A K : Int, (∀ W : World, (Instr.index 27 (.agg #[.int .i64 a, .int .i64 k, .int .i64 sa, .int .i64 sk]) (.int .i64 (r : Int))).run Try.prog W = .ok (.agg #[.int .i64 A, .int .i64 K]) W) ∧ -9223372036854775808 ≤ A ∧ A ≤ 9223372036854775807 ∧ -9223372036854775808 ≤ K ∧ K ≤ 9223372036854775807 := by
        have : r = 0 ∨ r = 1 := by omega
        rcases this with rfl | rfl
        · exact ⟨a, k, fun W => by kernel_rfl, ha, ha2, hk, hk2⟩
        · exact ⟨sa, sk, fun W => by kernel_rfl, by omega, by omega, by omega, by omega⟩
      clear ha ha2 hk hk2 ra rk
      have W1 : Words w.heap.size x0 x1 (wr.alloc (.cells #[.int .i64 A, .int .i64 K] 25)) := Wz.below ((Below.refl _ wr).alloc (Nat.le_refl _) _)
      have B1 := Bz.alloc Bz.size (.cells #[.int .i64 A, .int .i64 K] 25)
      have F1 := box_new wr A K 25
      have hz1 : wr.heap.size < (wr.alloc (.cells #[.int .i64 A, .int .i64 K] 25)).heap.size := by simp
      by_cases hval : 0 ≤ A ∧ 1 ≤ K ∧ A + K ≤ 64
      · obtain ⟨v1, v2, v3⟩ := hval
        obtain ⟨A, rfl⟩ := Int.eq_ofNat_of_zero_le v1
        obtain ⟨K, rfl⟩ := Int.eq_ofNat_of_zero_le (show 0 ≤ K by omega)
        have q1 : 1 ≤ K := by omega
        have q2 : A + K ≤ 64 := by omega
        clear v1 v2 v3 g1 g2 g3 g4
        have hland := and_low x1 K h1 (by omega)
        have hx3 : ((x1 : Int) % 3) = ((x1 % 3 : Nat) : Int) := rfl
        have hx4 : ((x1 : Int).tmod 3) = ((x1 % 3 : Nat) : Int) := rfl
        have hlx : x1 % 3 < 18446744073709551616 := by omega
        have hla : x1 % 2 ^ K < 18446744073709551616 := Nat.lt_of_le_of_lt (Nat.mod_le _ _) h1
        have M1 := fun W => most_yes A K W q1 q2
        have M2 := fun W => refMost_any K W (by omega)
        have M3 := fun W => of_yes A K x0 W q1 q2 h0
        have M4 := fun W => refOf_any A K x0 W q2 h0
        have M5 := fun W => may_yes A K W q1 q2
        generalize BitNat.get A K x0 = gx at *
        generalize (2 ^ K - 1 : Nat) = mm at *
        generalize x1 % 2 ^ K = xa at *
        generalize x1 % 3 = xm at *
        have N1 := Lib.hid M1
        have N2 := Lib.hid M2
        have N3 := Lib.hid M3
        have N4 := Lib.hid M4
        have N5 := Lib.hid M5
        clear M1 M2 M3 M4 M5
        obtain ⟨c0, c1, cl⟩ := id W1
        obtain ⟨f0, f1⟩ := id F1
        go_wp2_with fail
        refine (refMay_yes A K _ q1 q2).mono ?_
        rintro e w2 ⟨rfl, rfl⟩
        go_wp2_with fail
        go_region_held3 (fun w' => w'.cell? ⟨wr.heap.size, 0, none⟩ = some (.int .i64 (A : Int)) ∧ w'.cell? ⟨wr.heap.size, 1, none⟩ = some (.int .i64 (K : Int)) ∧ w'.cell? ⟨w.heap.size, 0, none⟩ = some (.int .u64 (x0 : Int)) ∧ w'.cell? ⟨w.heap.size, 1, none⟩ = some (.int .u64 (x1 : Int))) (first | exact ⟨f0, f1, c0, c1⟩ | go_keep) (first
          | (go_at_call 11; refine (N1.out _).mono ?_; rintro e w2 ⟨rfl, hb⟩; replace W1 := (W1.drew).below hb; replace F1 := (boxDrew F1).below hb hz1; replace B1 := B1.drew.trans (hb.mono B1.size); replace hz1 := Nat.lt_of_lt_of_le hz1 hb.size; clear c0 c1 cl f0 f1 hb; obtain ⟨c0, c1, cl⟩ := id W1; obtain ⟨f0, f1⟩ := id F1))
        go_wp2_with fail
        obtain ⟨wo, rfl⟩ : ∃ wo : World, wo = wr := ⟨_, rfl⟩
        go_loopw [84] (fun i wz => ∃ t : Nat, t ≤ 3 ∧ i = .int .i64 (t : Int) ∧ Words w.heap.size x0 x1 wz ∧ Box wo.heap.size A K wz ∧ Below w.heap.size w wz ∧ wo.heap.size < wz.heap.size) (fun i _ => 3 - (intOf i).toNat)
        case atStart => exact ⟨0, by omega, rfl, W1, F1, B1, hz1⟩
        case round =>
          clear W1 F1 B1 hz1 c0 c1 cl f0 f1 Wz Bz
          obtain ⟨t, ht, rfl, W1, F1, B1, hz1⟩ := hrel
          obtain ⟨c0, c1, cl⟩ := id W1
          obtain ⟨f0, f1⟩ := id F1
          by_cases ht3 : t < 3
          · obtain ⟨v, hidx3, hv⟩ : ∃ v : Nat, (∀ W : World, (Instr.index 35 (.agg #[.int .u64 (x1 : Int), .int .u64 (xa : Int), .int .u64 (xm : Int)]) (.int .i64 (t : Int))).run Try.prog W = .ok (.int .u64 (v : Int)) W) ∧ v < 18446744073709551616 := by
              have : t = 0 ∨ t = 1 ∨ t = 2 := by omega
              rcases this with rfl | rfl | rfl
              · exact ⟨x1, fun W => by kernel_rfl, h1⟩
              · exact ⟨xa, fun W => by kernel_rfl, hla⟩
              · exact ⟨xm, fun W => by kernel_rfl, hlx⟩
            clear hland hx3 hx4
            by_cases hvk : v < 2 ^ K
            · have HK := Lib.hid hvk
              clear hvk
              have P1 := fun W => put_yes A K x0 v W q1 q2 h0 HK.out
              have P2 := fun W => refPut_any A K x0 v W q1 q2 h0 HK.out
              generalize BitNat.put A K x0 v = pp at *
              have R1 := Lib.hid P1
              have R2 := Lib.hid P2
              clear P1 P2
              go_wp2_with fail
              refine (R1.out _).mono ?_
              rintro e w2 ⟨rfl, hb⟩
              replace W1 := (W1).below hb
              replace F1 := (F1).below hb hz1
              replace B1 := B1.trans (hb.mono B1.size)
              replace hz1 := Nat.lt_of_lt_of_le hz1 hb.size
              clear c0 c1 cl f0 f1 hb
              obtain ⟨c0, c1, cl⟩ := id W1
              obtain ⟨f0, f1⟩ := id F1
              go_wp2_with fail
              refine (R2.out _).mono ?_
              rintro e w2 ⟨rfl, rfl⟩
              go_wp2_with fail
              go_roundw
              case rel => exact ⟨t + 1, by omega, by go_num, W1, F1, B1, hz1⟩
              case measure => simp [intOf]; omega
            · have HK := Lib.hid hvk
              clear hvk
              go_wp2_with fail
              refine (put_big A K x0 v _ q1 q2 HK.out).mono ?_
              rintro e w2 ⟨rfl, hb⟩
              replace W1 := (W1).below hb
              replace F1 := (F1).below hb hz1
              replace B1 := B1.trans (hb.mono B1.size)
              replace hz1 := Nat.lt_of_lt_of_le hz1 hb.size
              clear c0 c1 cl f0 f1 hb
              obtain ⟨c0, c1, cl⟩ := id W1
              obtain ⟨f0, f1⟩ := id F1
              go_wp2_with fail
              refine (refPut_big A K x0 v _ (by omega) HK.out).mono ?_
              rintro e w2 ⟨rfl, rfl⟩
              go_wp2_with fail
              go_roundw
              case rel => exact ⟨t + 1, by omega, by go_num, W1, F1, B1, hz1⟩
              case measure => simp [intOf]; omega
          · go_wp2_with fail
            go_region_held3 (fun w' => w'.cell? ⟨wo.heap.size, 0, none⟩ = some (.int .i64 (A : Int)) ∧ w'.cell? ⟨wo.heap.size, 1, none⟩ = some (.int .i64 (K : Int)) ∧ w'.cell? ⟨w.heap.size, 0, none⟩ = some (.int .u64 (x0 : Int)) ∧ w'.cell? ⟨w.heap.size, 1, none⟩ = some (.int .u64 (x1 : Int))) (first | exact ⟨f0, f1, c0, c1⟩ | go_keep) (first
              | (go_at_call 10; refine (N5.out _).mono ?_; rintro e w2 ⟨rfl, hb⟩; replace W1 := (W1.drew).below hb; replace F1 := (boxDrew F1).below hb hz1; replace B1 := B1.drew.trans (hb.mono B1.size); replace hz1 := Nat.lt_of_lt_of_le hz1 hb.size; clear c0 c1 cl f0 f1 hb; obtain ⟨c0, c1, cl⟩ := id W1; obtain ⟨f0, f1⟩ := id F1)
              | (go_at_call 11; refine (N1.out _).mono ?_; rintro e w2 ⟨rfl, hb⟩; replace W1 := (W1).below hb; replace F1 := (F1).below hb hz1; replace B1 := B1.trans (hb.mono B1.size); replace hz1 := Nat.lt_of_lt_of_le hz1 hb.size; clear c0 c1 cl f0 f1 hb; obtain ⟨c0, c1, cl⟩ := id W1; obtain ⟨f0, f1⟩ := id F1)
              | (go_at_call 15; refine (N2.out _).mono ?_; rintro e w2 ⟨rfl, rfl⟩)
              | (go_at_call 12; refine (N3.out _).mono ?_; rintro e w2 ⟨rfl, hb⟩; replace W1 := (W1).below hb; replace F1 := (F1).below hb hz1; replace B1 := B1.trans (hb.mono B1.size); replace hz1 := Nat.lt_of_lt_of_le hz1 hb.size; clear c0 c1 cl f0 f1 hb; obtain ⟨c0, c1, cl⟩ := id W1; obtain ⟨f0, f1⟩ := id F1)
              | (go_at_call 16; refine (N4.out _).mono ?_; rintro e w2 ⟨rfl, rfl⟩))
            go_wp2_with fail
            go_roundw
            case rel => exact ⟨r + 1, by omega, by go_num, W1, B1⟩
            case measure => simp [intOf]; omega
      · have HV := Lib.hid hval
        clear hval
        obtain ⟨c0, c1, cl⟩ := id W1
        obtain ⟨f0, f1⟩ := id F1
        go_wp2_with fail
        refine (refMay_no A K _ g1 g2 g4 HV.out).mono ?_
        rintro e w2 ⟨rfl, rfl⟩
        go_wp2_with fail
        refine (put_no A K (x0 : Int) 0 _ g1 g2 g4 HV.out).mono ?_
        rintro e w2 ⟨rfl, hb⟩
        replace W1 := W1.below hb
        replace F1 := F1.below hb hz1
        replace B1 := B1.trans (hb.mono B1.size)
        replace hz1 := Nat.lt_of_lt_of_le hz1 hb.size
        clear c0 c1 cl f0 f1 hb
        obtain ⟨c0, c1, cl⟩ := id W1
        obtain ⟨f0, f1⟩ := id F1
        go_wp2_with fail
        refine (may_no A K _ g1 g2 g4 HV.out).mono ?_
        rintro e w2 ⟨rfl, hb⟩
        replace W1 := W1.below hb
        replace F1 := F1.below hb hz1
        replace B1 := B1.trans (hb.mono B1.size)
        replace hz1 := Nat.lt_of_lt_of_le hz1 hb.size
        clear c0 c1 cl f0 f1 hb
        obtain ⟨c0, c1, cl⟩ := id W1
        obtain ⟨f0, f1⟩ := id F1
        go_wp2_with fail
        refine (most_no A K _ g1 g2 g4 HV.out).mono ?_
        rintro e w2 ⟨rfl, hb⟩
        replace W1 := W1.below hb
        replace F1 := F1.below hb hz1
        replace B1 := B1.trans (hb.mono B1.size)
        replace hz1 := Nat.lt_of_lt_of_le hz1 hb.size
        clear c0 c1 cl f0 f1 hb
        obtain ⟨c0, c1, cl⟩ := id W1
        obtain ⟨f0, f1⟩ := id F1
        go_wp2_with fail
        refine (of_no A K (x0 : Int) _ g1 g2 g4 HV.out).mono ?_
        rintro e w2 ⟨rfl, hb⟩
        replace W1 := W1.below hb
        replace F1 := F1.below hb hz1
        replace B1 := B1.trans (hb.mono B1.size)
        replace hz1 := Nat.lt_of_lt_of_le hz1 hb.size
        clear c0 c1 cl f0 f1 hb
        obtain ⟨c0, c1, cl⟩ := id W1
        obtain ⟨f0, f1⟩ := id F1
        go_wp2_with fail
        refine (apart_no1 A K A K _ g1 g2 g4 HV.out).mono ?_
        rintro e w2 ⟨rfl, hb⟩
        replace W1 := W1.below hb
        replace F1 := F1.below hb hz1
        replace B1 := B1.trans (hb.mono B1.size)
        replace hz1 := Nat.lt_of_lt_of_le hz1 hb.size
        clear c0 c1 cl f0 f1 hb
        obtain ⟨c0, c1, cl⟩ := id W1
        obtain ⟨f0, f1⟩ := id F1
        go_wp2_with fail
        refine (apart_no1 A K 0 1 _ g1 g2 g4 HV.out).mono ?_
        rintro e w2 ⟨rfl, hb⟩
        replace W1 := W1.below hb
        replace F1 := F1.below hb hz1
        replace B1 := B1.trans (hb.mono B1.size)
        replace hz1 := Nat.lt_of_lt_of_le hz1 hb.size
        clear c0 c1 cl f0 f1 hb
        obtain ⟨c0, c1, cl⟩ := id W1
        obtain ⟨f0, f1⟩ := id F1
        go_wp2_with fail
        go_roundw
        case rel => exact ⟨r + 1, by omega, by go_num, W1, B1⟩
        case measure => simp [intOf]; omega
    · obtain rfl : r = 2 := by omega
      go_wp2_with fail
      refine (works_any _).mono ?_
      rintro e w3 ⟨rfl, hb3⟩
      go_wp2_with fail
      go_ret
      exact ⟨rfl, Bz.trans (hb3.mono Bz.size)⟩
end Tells
end Go.Proofs.Ytdfnldgjgaieeaa
