/- FieldKeeps returns true: what is put in is had; fields that are apart keep what they have. -/
import Derived.Test.YtdfnldgjgaieeaaFieldG
import Derived.Deep.RegionHeld3
import Derived.Deep.QuietTactic
import Derived.BigQuiet
import Derived.WalkLawsBesides
namespace Go.Proofs.Ytdfnldgjgaieeaa
open Go.ChangeShapes Go.WideShapes Go.ChangeAt Go.RowKit Go.Shelf
set_option linter.unusedVariables false
namespace Keeps
theorem vint {k : IntKind} {a b : Int} (h : a = b) : Value.int k a = Value.int k b := by rw [h]
theorem frow_drewN {w : World} {lo b : Nat} {u : Value} {ks : List Nat} (h : FRow w lo b u ks) (n : Nat) : FRow (w.drewN n) lo b u ks := ⟨h.val, h.lo, h.cell⟩
theorem below_drewN' {B : Nat} {a w : World} (h : Below B a w) (n : Nat) : Below B a (w.drewN n) := ⟨h.os, h.tape, h.output, h.size, h.block⟩
theorem and_low (v k : Nat) (hv : v < 18446744073709551616) (hk : k ≤ 64) : bits .and .u64 (v : Int) ((2^k - 1 : Nat) : Int) = ((v % 2^k : Nat) : Int) := by
  have h1 : (2:Nat)^k ≤ 2^64 := Nat.pow_le_pow_right (by decide) hk
  have h2 : (2:Nat)^64 = 18446744073709551616 := by decide
  have h3 := Nat.two_pow_pos k
  rw [u64_and_nat v (2^k - 1) hv (by omega), Nat.and_two_pow_sub_one_eq_mod]
set_option maxRecDepth 100000 in
set_option maxHeartbeats 8000000 in
theorem keeps_any (a : Option Addr) (len cap : Nat) (zs : List Int) (hlen : len ≤ 9223372036854775807) (x : Nat) (hx : x < 18446744073709551616) (va : Option Addr) (vlen vcap : Nat) (vs : List Int) (hvlen : vlen ≤ 9223372036854775807) (w : World) (hz : NumsIn .u8 w a len zs) (hv : NumsIn .u64 w va vlen vs) :
    Calls Try.prog 5 #[.slice a len cap, .int .u64 x, .slice va vlen vcap] w fun e w' => e = .returned (.bool true) ∧ Below w.heap.size w w' := by
  obtain ⟨i0, hi, hz0, hz1, hz2⟩ := info_parts infoInt
  have HZ := Lib.hid hz
  have HV := Lib.hid hv
  clear hz hv
  go_enter Try.func5, Try.ntmps5
  go_wp2_with fail
  refine (works_any _).mono ?_
  rintro e w1 ⟨rfl, hb1⟩
  go_wp2_with fail
  go_loopw [7, 8, 9] (fun v left i wr => ∃ ks : List Nat, Made w w1.heap.size ks v wr ∧ left = .int .i64 ((64 - ks.sum : Nat) : Int) ∧ i = .int .i64 (ks.length : Int))
    (fun _ left _ _ => (intOf left).toNat)
  case atStart => exact ⟨[], ⟨by simp, by simp, World.ownsRow_nil _ _ _ _, hb1, hb1.size, Nat.le_refl _⟩, rfl, rfl⟩
  case round =>
    obtain ⟨ks, M, rfl, rfl⟩ := hrel
    have hge := sum_ge ks M.pos
    have hsum := M.sum
    have hrow := M.row
    have hh := M.hhi
    by_cases hcond : ks.length < len ∧ ks.length < 10 ∧ ks.sum < 64
    · obtain ⟨h2, h3, h0⟩ := hcond
      generalize hL : 64 - ks.sum = L at *
      have HL := Lib.hid hL
      clear hL
      have hL1 : 1 ≤ L := by have := HL.out; omega
      have hL2 : L ≤ 64 := by have := HL.out; omega
      obtain ⟨b, off, ea, hb, hc, hwf⟩ := HZ.out ks.length h2
      obtain ⟨z0, z1⟩ := wf_u8 hwf
      subst ea
      have hc2 : wr.cell? ⟨b, off + ks.length, none⟩ = some (.int .u8 (zs.getD ks.length 0)) := (M.base.cell (p := ⟨b, off + ks.length, none⟩) hb).trans hc
      generalize zs.getD ks.length 0 = z at *
      clear hc HZ hwf
      by_cases h4 : 1 + z % 20 < (L : Int)
      · obtain ⟨n, hn⟩ : ∃ n : Nat, (n : Int) = 1 + z % 20 := ⟨(1 + z % 20).toNat, by omega⟩
        have HN := Lib.hid hn
        clear hn
        go_wp2_with (at_builtin; refine wpList_append_own _ rfl _ _ 40 rfl w1.heap.size 3 i0 (.int .i64 0) 1 8 Try.underlying40 hi hz0 hz1 hz2 rfl (by decide) _ _ _ rfl (hrow.alloc _) ⟨wr.heap.size, 0, none⟩ 1 1 [.int .i64 (1 + z % 20)] rfl rfl (cell_one_new _ _ _) (by simp [Value.oneCell']) (by unfold maxLen; omega) (by omega) (by simp; omega) ?_; intro v' w2 hown' hgrow _)
        go_roundw
        case rel => exact ⟨ks ++ [n], M.step n (by have := HN.out; omega) (by have := HN.out; have := HL.out; omega) _ (by rw [HN.out]; exact hown') hgrow, vint (by have := HN.out; have := HL.out; simp only [List.sum_append, List.sum_cons, List.sum_nil]; omega), vint (by simp)⟩
        case measure => simp [intOf]; omega
      · go_wp2_with (at_builtin; refine wpList_append_own _ rfl _ _ 40 rfl w1.heap.size 3 i0 (.int .i64 0) 1 8 Try.underlying40 hi hz0 hz1 hz2 rfl (by decide) _ _ _ rfl (hrow.alloc _) ⟨wr.heap.size, 0, none⟩ 1 1 [.int .i64 (L : Int)] rfl rfl (cell_one_new _ _ _) (by simp [Value.oneCell']) (by unfold maxLen; omega) (by omega) (by simp; omega) ?_; intro v' w2 hown' hgrow _)
        go_roundw
        case rel => exact ⟨ks ++ [L], M.step L (by omega) (by have := HL.out; omega) _ hown' hgrow, vint (by have := HL.out; simp only [List.sum_append, List.sum_cons, List.sum_nil]; omega), vint (by simp)⟩
        case measure => simp [intOf]; omega
    · have hs : ks.sum ≤ 64 := by omega
      have hl1 : ks.length ≤ 64 := by omega
      have HS := Lib.hid hs
      have L := lay_yes u7 (row_oneCell M.row) (toI ks) (by rw [toI_length]; omega) wr (intsAt_of_row (by rw [toI_length]; exact M.row)) (by rw [show (0 : Int) = ((0 : Nat) : Int) from rfl, laidW_row ks 0 (by omega)]; exact rowF_may ks 0 (by omega) M.pos)
      rw [show (0 : Int) = ((0 : Nat) : Int) from rfl, laidW_row ks 0 (by omega)] at L
      obtain ⟨la, lc, rfl⟩ : ∃ la lc, u7 = .slice la ks.length lc := by
        rcases M.row.2 with ⟨e, hn⟩ | ⟨g, cp, cur, e, _⟩
        · exact ⟨none, 0, by rw [e, hn]⟩
        · exact ⟨_, _, e⟩
      have HL := Lib.hid L
      generalize hleft : 64 - ks.sum = left at *
      have Hleft := Lib.hid hleft
      clear L hs hrow HZ hleft
      have hgd : (len ≤ ks.length) ∨ (ks.length < len ∧ 10 ≤ ks.length) ∨ (ks.length < len ∧ ks.length < 10 ∧ left = 0) := by
        have := Hleft.out
        by_cases q1 : ks.length < len
        · by_cases q2 : ks.length < 10
          · exact .inr (.inr ⟨q1, q2, by omega⟩)
          · exact .inr (.inl ⟨q1, by omega⟩)
        · exact .inl (by omega)
      clear hcond
      rcases hgd with e1 | ⟨e1, e2⟩ | ⟨e1, e2, rfl⟩
      all_goals
        go_wp2_with fail
        refine HL.out.mono ?_
        rintro e w2 ⟨u, rfl, hb2, hF⟩
        obtain ⟨b, F⟩ := fRow_of _ _ _ _ hF
        obtain ⟨fa, fc, rfl, hfa⟩ := F.val
        replace F : FRow w2 0 b (.slice fa ks.length fc) ks := ⟨F.val, fun h => ⟨Nat.zero_le _, (F.lo h).2⟩, F.cell⟩
        have B2 := M.base.trans (hb2.mono M.base.size)
        have hpos := M.pos
        have HP := Lib.hid hpos
        clear hF hb2 hpos M hsum hge
        go_wp2_with fail
        go_loopw [1, 12] (fun cur i wz => ∃ j X : Nat, j ≤ ks.length ∧ i = .int .i64 (j : Int) ∧ cur = .int .u64 (X : Int) ∧ X < 18446744073709551616 ∧ FRow wz 0 b (.slice fa ks.length fc) ks ∧ Below w.heap.size w wz)
          (fun cur i wz => ks.length - (intOf i).toNat)
        case atStart => exact ⟨0, x, by omega, rfl, rfl, hx, F, B2⟩
        case round =>
          obtain ⟨j, X, hj, rfl, rfl, hX, F2, B2w⟩ := hrel
          clear F B2
          by_cases hlt : j < ks.length
          · by_cases hv0 : 0 < vlen
            · obtain ⟨r0, r1⟩ := F2.cell j hlt
              obtain rfl := hfa (by omega)
              have hk1 : 1 ≤ ks.getD j 0 := by
                have e : ks.getD j 0 = ks[j] := by simp [List.getD_eq_getElem?_getD, hlt]
                rw [e]; exact HP.out _ (List.getElem_mem hlt)
              have hk2 : atF ks j + ks.getD j 0 ≤ 64 := by
                have h1 := atF_succ ks j hlt
                have h2 := atF_le ks (j + 1) (by omega)
                have h3 := HS.out
                omega
              have hq : j % vlen < vlen := Nat.mod_lt _ hv0
              have hqi : ((j : Int) % (vlen : Int)) = ((j % vlen : Nat) : Int) := rfl
              have hqt : ((j : Int).tmod (vlen : Int)) = ((j % vlen : Nat) : Int) := rfl
              obtain ⟨vb, voff, rfl, hvb, hvc, hvw⟩ := HV.out (j % vlen) hq
              obtain ⟨v0, v1⟩ := wf_u64 hvw
              obtain ⟨V, hV⟩ := Int.eq_ofNat_of_zero_le v0
              rw [hV] at hvc
              replace hvc := (B2w.cell (p := ⟨vb, voff + j % vlen, none⟩) hvb).trans hvc
              have hVl : V < 18446744073709551616 := by omega
              generalize j % vlen = q at *
              have hland := and_low V (ks.getD j 0) hVl (by omega)
              have hxl : V % 2 ^ ks.getD j 0 < 2 ^ ks.getD j 0 := Nat.mod_lt _ (Nat.two_pow_pos _)
              have O0 := fun W => most_yes (atF ks j) (ks.getD j 0) W hk1 hk2
              generalize (2 ^ ks.getD j 0 - 1 : Nat) = ml at *
              have Hxl := Lib.hid hxl
              clear hxl
              generalize V % 2 ^ ks.getD j 0 = v at *
              have hP := BitNat.put_lt (atF ks j) (ks.getD j 0) X v hk2 hX Hxl.out
              have hgx := BitNat.get_lt (atF ks j) (ks.getD j 0) X
              have hgp := BitNat.get_put (atF ks j) (ks.getD j 0) X v hk2 hX Hxl.out
              have hbk := BitNat.put_back (atF ks j) (ks.getD j 0) X v hk2 hX Hxl.out
              have O1 := fun W => put_yes (atF ks j) (ks.getD j 0) X v W hk1 hk2 hX Hxl.out
              have O2 := fun W => of_yes (atF ks j) (ks.getD j 0) (BitNat.put (atF ks j) (ks.getD j 0) X v) W hk1 hk2 hP
              rw [hgp] at O2
              have O3 := fun W => of_yes (atF ks j) (ks.getD j 0) X W hk1 hk2 hX
              have O4 := fun W => put_yes (atF ks j) (ks.getD j 0) (BitNat.put (atF ks j) (ks.getD j 0) X v) (BitNat.get (atF ks j) (ks.getD j 0) X) W hk1 hk2 hP hgx
              rw [hbk] at O4
              have hpair : ∀ k, k < ks.length → k ≠ j → ∃ g : Nat, (∀ W, Calls Try.prog 12 #[fld (atF ks k) (ks.getD k 0), .int .u64 (BitNat.put (atF ks j) (ks.getD j 0) X v : Nat)] W fun e w' => e = .returned (.int .u64 (g : Int)) ∧ Below W.heap.size W w') ∧ (∀ W, Calls Try.prog 12 #[fld (atF ks k) (ks.getD k 0), .int .u64 X] W fun e w' => e = .returned (.int .u64 (g : Int)) ∧ Below W.heap.size W w') := by
                intro k hk hkj
                have hm1 : 1 ≤ ks.getD k 0 := by
                  have e : ks.getD k 0 = ks[k] := by simp [List.getD_eq_getElem?_getD, hk]
                  rw [e]; exact HP.out _ (List.getElem_mem hk)
                have hm2 : atF ks k + ks.getD k 0 ≤ 64 := by
                  have h1 := atF_succ ks k hk
                  have h2 := atF_le ks (k + 1) (by omega)
                  have h3 := HS.out
                  omega
                have hap : atF ks j + ks.getD j 0 ≤ atF ks k ∨ atF ks k + ks.getD k 0 ≤ atF ks j := by
                  rcases Nat.lt_or_ge k j with h | h
                  · right
                    have h1 := atF_succ ks k hk
                    have h2 := atF_mono ks (k + 1) j (by omega) (by omega)
                    omega
                  · left
                    have h1 := atF_succ ks j hlt
                    have h2 := atF_mono ks (j + 1) k (by omega) (by omega)
                    omega
                refine ⟨BitNat.get (atF ks k) (ks.getD k 0) X, fun W => ?_, fun W => of_yes (atF ks k) (ks.getD k 0) X W hm1 hm2 hX⟩
                have := of_yes (atF ks k) (ks.getD k 0) (BitNat.put (atF ks j) (ks.getD j 0) X v) W hm1 hm2 hP
                rw [BitNat.get_put_apart (atF ks j) (ks.getD j 0) (atF ks k) (ks.getD k 0) X v hk2 hX Hxl.out hap] at this
                exact this
              generalize BitNat.put (atF ks j) (ks.getD j 0) X v = P at *
              generalize BitNat.get (atF ks j) (ks.getD j 0) X = gx at *
              generalize hat : atF ks j = a0 at *
              generalize hkk : ks.getD j 0 = k0 at *
              have Hat := Lib.hid hat
              have Hkk := Lib.hid hkk
              have HPR := Lib.hid hpair
              have H0 := Lib.hid O0
              have H1 := Lib.hid O1
              have H2 := Lib.hid O2
              have H3 := Lib.hid O3
              have H4 := Lib.hid O4
              have HPL := Lib.hid hP
              clear hat hkk hpair O0 O1 O2 O3 O4 hgp hbk hgx hP hX HV hV hvw v0 v1 hVl hfa hvlen
              have hvlen2 : (1 : Int) ≤ (vlen : Int) := by omega
              have hvz : ¬ vlen = 0 := by omega
              go_wp2_with fail
              go_region_held3 (fun w' => w'.cell? ⟨vb, voff + q, none⟩ = some (.int .u64 (V : Int)) ∧ w'.cell? ⟨b, j * 2, none⟩ = some (.int .i64 (a0 : Int)) ∧ w'.cell? ⟨b, j * 2 + 1, none⟩ = some (.int .i64 (k0 : Int))) (first | exact ⟨hvc, r0, r1⟩ | go_keep) (first
                | (go_at_call 11; refine (H0.out _).mono ?_; rintro e w3 ⟨rfl, hb⟩; replace hvc := (hb.cell (p := ⟨vb, voff + q, none⟩) (Nat.lt_of_lt_of_le hvb B2w.size)).trans hvc; replace F2 := F2.drew.below hb; replace B2w := B2w.drew.trans (hb.mono B2w.size); clear r0 r1 hb; obtain ⟨r0, r1⟩ := F2.cell j hlt; rw [Hat.out] at r0; rw [Hkk.out] at r1))
              go_wp2_with fail
              refine (H1.out _).mono ?_
              rintro e w4 ⟨rfl, hb⟩
              replace F2 := F2.below hb
              replace B2w := B2w.trans (hb.mono B2w.size)
              clear r0 r1 hb
              obtain ⟨r0, r1⟩ := F2.cell j hlt
              rw [Hat.out] at r0
              rw [Hkk.out] at r1
              go_wp2_with fail
              refine (H2.out _).mono ?_
              rintro e w5 ⟨rfl, hb⟩
              replace F2 := F2.below hb
              replace B2w := B2w.trans (hb.mono B2w.size)
              clear r0 r1 hb
              obtain ⟨r0, r1⟩ := F2.cell j hlt
              rw [Hat.out] at r0
              rw [Hkk.out] at r1
              clear hvc
              go_wp2_with fail
              go_loopw [16] (fun i wz => ∃ k : Nat, k ≤ ks.length ∧ i = .int .i64 (k : Int) ∧ FRow wz 0 b (.slice (some ⟨b, 0, none⟩) ks.length fc) ks ∧ Below w.heap.size w wz)
                (fun i wz => ks.length - (intOf i).toNat)
              case atStart => exact ⟨0, by omega, rfl, F2, B2w⟩
              case round =>
                obtain ⟨k, hk, rfl, F3, B3⟩ := hrel
                clear F2 B2w r0 r1
                have F2 := F3
                have B2w := B3
                clear F3 B3
                by_cases hkl : k < ks.length
                · by_cases hkj : k = j
                  · have hne : ((k : Int) != (j : Int)) = false := by rw [hkj]; simp
                    have hne2 : (k != j) = false := by rw [hkj]; simp
                    have HKJ := Lib.hid hkj
                    clear hkj
                    go_wp2_with fail
                    go_quiet (fail)
                    go_wp2
                    go_roundw
                    case rel => exact ⟨k + 1, by omega, by go_num, frow_drewN F2 nq, below_drewN' B2w nq⟩
                    case measure => simp [intOf]; omega
                  · obtain ⟨g, G1, G2⟩ := HPR.out k hkl hkj
                    obtain ⟨r0, r1⟩ := F2.cell k hkl
                    have hne : ((k : Int) != (j : Int)) = true := by rw [bne_iff_ne]; omega
                    have hne2 : (k != j) = true := by rw [bne_iff_ne]; omega
                    generalize hak : atF ks k = ak at *
                    generalize hkc : ks.getD k 0 = kc at *
                    have Hak := Lib.hid hak
                    have Hkc := Lib.hid hkc
                    have HG1 := Lib.hid G1
                    have HG2 := Lib.hid G2
                    clear hak hkc G1 G2 hkj
                    go_wp2_with fail
                    go_region_held3 (fun w' => w'.cell? ⟨b, k * 2, none⟩ = some (.int .i64 (ak : Int)) ∧ w'.cell? ⟨b, k * 2 + 1, none⟩ = some (.int .i64 (kc : Int))) (first | exact ⟨r0, r1⟩ | go_keep) (first
                      | (go_at_call 12; (with_reducible refine (HG1.out _).mono ?_); rintro e w6 ⟨rfl, hb⟩; replace F2 := F2.drew.below hb; replace B2w := B2w.drew.trans (hb.mono B2w.size); clear r0 r1 hb; obtain ⟨r0, r1⟩ := F2.cell k hkl; rw [Hak.out] at r0; rw [Hkc.out] at r1)
                      | (go_at_call 12; (with_reducible refine (HG2.out _).mono ?_); rintro e w6 ⟨rfl, hb⟩; replace F2 := F2.below hb; replace B2w := B2w.trans (hb.mono B2w.size); clear r0 r1 hb; obtain ⟨r0, r1⟩ := F2.cell k hkl; rw [Hak.out] at r0; rw [Hkc.out] at r1))
                    go_wp2
                    go_roundw
                    case rel => exact ⟨k + 1, by omega, by go_num, F2, B2w⟩
                    case measure => simp [intOf]; omega
                · obtain ⟨r0, r1⟩ := F2.cell j hlt
                  rw [Hat.out] at r0
                  rw [Hkk.out] at r1
                  go_wp2_with fail
                  go_region_held3 (fun w' => w'.cell? ⟨b, j * 2, none⟩ = some (.int .i64 (a0 : Int)) ∧ w'.cell? ⟨b, j * 2 + 1, none⟩ = some (.int .i64 (k0 : Int))) (first | exact ⟨r0, r1⟩ | go_keep) (first
                    | (go_at_call 12; refine (H3.out _).mono ?_; rintro e w6 ⟨rfl, hb⟩; replace F2 := F2.drew.below hb; replace B2w := B2w.drew.trans (hb.mono B2w.size); clear r0 r1 hb; obtain ⟨r0, r1⟩ := F2.cell j hlt; rw [Hat.out] at r0; rw [Hkk.out] at r1)
                    | (go_at_call 9; refine (H4.out _).mono ?_; rintro e w6 ⟨rfl, hb⟩; replace F2 := F2.below hb; replace B2w := B2w.trans (hb.mono B2w.size); clear r0 r1 hb; obtain ⟨r0, r1⟩ := F2.cell j hlt; rw [Hat.out] at r0; rw [Hkk.out] at r1))
                  go_wp2
                  go_roundw
                  case rel => exact ⟨j + 1, P, by omega, by go_num, rfl, HPL.out, F2, B2w⟩
                  case measure => simp [intOf]; omega
            · obtain rfl : vlen = 0 := by omega
              clear hvlen hv0
              go_wp2
              go_ret
              exact ⟨rfl, B2w⟩
          · obtain rfl : j = ks.length := by omega
            go_wp2
            all_goals go_ret
            all_goals exact ⟨rfl, B2w⟩
end Keeps
end Go.Proofs.Ytdfnldgjgaieeaa
