/- ScriptFair returns true. -/
import Derived.Test.YtjoflgcggdfomaaGreatDoorScFairLaw
import Derived.Deep.QuietTactic
import Derived.BigQuiet
namespace Go.Proofs.YtjoflgcggdfomaaGreatDoor
open Go.ChangeShapes Go.WideShapes Go.ChangeAt Go.RowKit Go.Maps
set_option linter.unusedVariables false
set_option maxRecDepth 100000
set_option linter.unusedSimpArgs false
theorem decode_cut (s : ByteArray) (m : Nat) (hm : m ≤ 100) (w : World) :
    Calls Tryz.prog 9 #[.string (s.extract 0 m)] w fun e w' => ∃ (a : Option Addr) (n c : Nat) (L : List Pk), n ≤ 100 ∧ e = .returned (.slice a n c) ∧ Below w.heap.size w w' ∧ L.length = n ∧ n ≤ c ∧ w'.ownsRow w.heap.size 45 2 (.slice a n c) n (pkCells L) := by
  have hz : (s.extract 0 m).size ≤ 100 := by rw [ByteArray.size_extract]; omega
  refine (decode_any _ w (by omega)).mono ?_
  rintro e w' ⟨v, rfl, hb, ho⟩
  obtain ⟨a, c, rfl, hc, _⟩ := id (PicksAt.own ho)
  exact ⟨a, _, c, _, by rw [decodeL_len]; exact hz, rfl, hb, rfl, hc, ho⟩
theorem wrap_ad (A D : Nat) (h : A + D ≤ 1000) : wrap64 ((A : Int) + (D : Int)) = ((A + D : Nat) : Int) := by
  rw [IntWalk.wrap64_in _ ⟨by omega, by omega⟩]; omega
set_option maxHeartbeats 4000000 in
theorem fair_law (s : ByteArray) (n0 n1 n2 n3 : Int) (w : World) (ht : TieW w) (x00 : 0 ≤ n0) (x01 : n0 ≤ 255) (x10 : 0 ≤ n1) (x11 : n1 ≤ 255) (x20 : 0 ≤ n2) (x21 : n2 ≤ 255) (x30 : 0 ≤ n3) (x31 : n3 ≤ 255) :
    Calls Tryz.prog 6 #[.string s, .agg #[.int .u8 n0, .int .u8 n1, .int .u8 n2, .int .u8 n3]] w fun e w' => e = .returned (.bool true) ∧ Below w.heap.size w w' := by
  have z0 : Below w.heap.size w (w.alloc (.cells #[.int .u8 n0, .int .u8 n1, .int .u8 n2, .int .u8 n3] 47)) := (Below.refl _ w).alloc (Nat.le_refl _) _
  have HW := Lib.hid (works_any _ (ht.on z0))
  have HD := Lib.hid (fun (m : Nat) (hm : m ≤ 100) (w1 : World) => decode_cut s m hm w1)
  have HX : Hid (Blk (w.alloc (.cells #[.int .u8 n0, .int .u8 n1, .int .u8 n2, .int .u8 n3] 47)) w.heap.size 47 #[.int .u8 n0, .int .u8 n1, .int .u8 n2, .int .u8 n3]) := Lib.hid (Blk.new w _ _)
  have Z0 := Lib.hid z0
  clear z0 ht
  go_enter Tryz.func6, Tryz.ntmps6
  go_upto_region 4 with (first
    | (go_at_call 12; refine HW.out.mono ?_; rintro e w1 ⟨rfl, b1⟩)
    | (go_at_call 9; refine (HD.out _ (by omega) w1).mono ?_; rintro e w2 ⟨a, n, c, L0, hn, rfl, b2, hL0, hc, ho⟩))
  rw [World.size_alloc] at b1
  have s1 := b1.size
  rw [World.size_alloc] at s1
  have BX : Blk w2 w.heap.size 47 #[.int .u8 n0, .int .u8 n1, .int .u8 n2, .int .u8 n3] := (HX.out.below b1 (by omega)).below b2 (by omega)
  have Z2 : Below w.heap.size w w2 := Z0.out.trans ((b1.mono (by omega)).trans (b2.mono (by omega)))
  have s2 := b2.size
  clear b1 b2 HW HD Z0 HX
  go_upto_region 5 with fail
  go_loopw [6] (fun i wr => ∃ (k : Nat) (L : List Pk), k ≤ n ∧ i = .int .i64 (k : Int) ∧ L.length = n ∧ wr.ownsRow w1.heap.size 45 2 (.slice a n c) n (pkCells L) ∧ Below w.heap.size w wr ∧ Blk wr w.heap.size 47 #[.int .u8 n0, .int .u8 n1, .int .u8 n2, .int .u8 n3])
    (fun i _ => n - (intOf i).toNat)
  case atStart => exact ⟨0, L0, by omega, rfl, hL0, ho, Z2, BX⟩
  case round =>
    obtain ⟨k, L, hk, rfl, hL, hrow, hb, hbox⟩ := hrel
    by_cases hlt : k < n
    · obtain ⟨g, hg, hgB⟩ : ∃ g, a = some ⟨g, 0, none⟩ ∧ w1.heap.size ≤ g := by
        rcases hrow.2 with ⟨h, h0⟩ | ⟨g', cap', cur, h, hgb, _⟩
        · omega
        · simp at h; exact ⟨g', h.1, hgb⟩
      obtain ⟨p, hp⟩ : ∃ p, L[k]? = some p := ⟨_, List.getElem?_eq_getElem (by omega)⟩
      subst hg
      obtain ⟨e0, e1⟩ := pkCells_at L k p hp
      have c0 := hrow.cellAt (k * 2) (by omega)
      have f0 := hrow.frozenAt (k * 2)
      rw [e0] at c0
      have HR := Lib.hid hrow
      have HP := Lib.hid hp
      have HB := Lib.hid hbox
      clear e0 e1 hrow hp hbox
      go_wp2
      go_roundw
      case rel => 
        refine ⟨k + 1, L.set k (p.1.tmod 3, p.2), by omega, by go_num, by simp [hL], ?_, ?_, ?_⟩
        · rw [← pkCells_set L k p _ HP.out]
          exact (HR.out.stored (k * 2) _).1
        · exact hb.setCell (p := ⟨g, k * 2, none⟩) (by simp; omega) _
        · exact (Below.heap_setCell _ _ _ _ (by simp; omega)).trans HB.out
      case measure => simp [intOf]; omega
    · have hke : k = n := by omega
      subst hke
      subst hL
      have HO := Lib.hid (PicksAt.own hrow)
      have g0 := hbox.cell 0 _ rfl
      have g1 := hbox.cell 1 _ rfl
      have HB := Lib.hid hbox
      clear hrow hbox
      go_upto_region 8 with fail
      go_quiet (fail)
      go_upto_region 9 with fail
      generalize hW : wr.drewN nq = x0
      have hb0 : Below w.heap.size w x0 := by rw [← hW]; exact bdrewN hb nq
      have hp0 : PicksAt x0 x0.heap.size (.slice a L.length c) L := by rw [← hW]; exact HO.out
      have BX0 : Blk x0 w.heap.size 47 #[.int .u8 n0, .int .u8 n1, .int .u8 n2, .int .u8 n3] := by rw [← hW]; exact HB.out.drewN nq
      clear hW hb HO HB g0 g1 BX Z2 ho
      generalize hT : 1 + n0 % 3 = t
      have t1 : 1 ≤ t := by omega
      have t3 : t ≤ 3 := by omega
      generalize hK : 1 + n1 % 12 = K'
      obtain ⟨K, rfl⟩ := Int.eq_ofNat_of_zero_le (show 0 ≤ K' by omega)
      have k1 : 1 ≤ K := by omega
      have k12 : K ≤ 12 := by omega
      have Z0 := hb0.size
      have q0 := BX0.lt
      have HB0 := Lib.hid hb0
      have HX0 := Lib.hid BX0
      clear hT hK hb0 BX0
      by_cases hF : FairP L t K
      · have HF1 := Lib.hid (fair_p (.slice a L.length c) L t K K rfl true x0 hp0 (by omega) t1 (by omega) k1 (by omega) ⟨fun _ => hF, fun _ => rfl⟩)
        have HF2 := Lib.hid (fun x hp => fair_p (.slice a L.length c) L t (K + 1) ((K : Int) + 1) rfl true x hp (by omega) t1 (by omega) (by omega) (by omega) ⟨fun _ => hF.more, fun _ => rfl⟩)
        have HF3 := Lib.hid (fun x hp => fair_p (.slice a L.length c) L 1 K K rfl true x hp (by omega) (by omega) (by omega) k1 (by omega) ⟨fun _ => hF.fewer (Int.le_refl _) t1, fun _ => rfl⟩)
        have HP0 := Lib.hid hp0
        clear hp0
        go_upto_region 11 with (go_at_call 13; refine HF1.out.mono ?_; rintro e x1 ⟨rfl, b1⟩)
        have g2 := (HX0.out.below b1 q0).cell 2 _ rfl
        have g3 := (HX0.out.below b1 q0).cell 3 _ rfl
        go_upto_region 12 with fail
        generalize hA : n2 % ((L.length : Int) + 1) = A'
        obtain ⟨A, rfl⟩ := Int.eq_ofNat_of_zero_le (show 0 ≤ A' by rw [← hA]; exact Int.emod_nonneg _ (by omega))
        have hAl : (A : Int) ≤ L.length := by have := Int.emod_lt_of_pos n2 (show 0 < (L.length : Int) + 1 by omega); omega
        clear hA g2
        have hAp : 0 < (L.length : Int) - (A : Int) + 1 := by omega
        go_upto_region 13 with fail
        generalize hD : n3 % ((L.length : Int) - (A : Int) + 1) = D'
        obtain ⟨D, rfl⟩ := Int.eq_ofNat_of_zero_le (show 0 ≤ D' by rw [← hD]; exact Int.emod_nonneg _ (by omega))
        have hDl : (A : Int) + (D : Int) ≤ L.length := by have := Int.emod_lt_of_pos n3 hAp; omega
        have hAE : A ≤ A + D := by omega
        have hEl : A + D ≤ L.length := by omega
        have hE : wrap64 ((A : Int) + (D : Int)) = ((A + D : Nat) : Int) := wrap_ad A D (by omega)
        rw [hE]
        clear hD g3 hAp hE
        obtain ⟨E, hE⟩ : ∃ E, E = A + D := ⟨_, rfl⟩
        rw [← hE] at hAE hEl ⊢
        clear hE hDl
        have HF4 := Lib.hid (fun v x hp => fair_p v ((L.drop A).take (E - A)) t K K rfl true x hp (by rw [List.length_take, List.length_drop]; omega) t1 (by omega) k1 (by omega) ⟨fun _ => FairP.part hF A (E - A), fun _ => rfl⟩)
        have HP1 := Lib.hid (fun (x : World) (bx : Below x0.heap.size x0 x) => (HP0.out.below bx).mono bx.size)
        have HP2 := Lib.hid (fun (x : World) (bx : Below x0.heap.size x0 x) => ((HP0.out.below bx).mono bx.size).cutOf A (E - A) (by omega))
        clear hF
        go_wp2_with (first
          | (go_at_call 13; (with_reducible refine (HF2.out x1 (HP1.out x1 b1)).mono ?_); rintro e x2 ⟨rfl, b2⟩; have c2 := b1.trans (b2.mono b1.size))
          | (go_at_call 13; (with_reducible refine (HF3.out x2 (HP1.out x2 c2)).mono ?_); rintro e x3 ⟨rfl, b3⟩; have c3 := c2.trans (b3.mono c2.size))
          | (go_at_call 13; (refine (HF4.out _ x3 (HP2.out x3 c3)).mono ?_); rintro e x4 ⟨rfl, b4⟩; have c4 := c3.trans (b4.mono c3.size)))
        all_goals
          go_ret
          exact ⟨rfl, HB0.out.trans (c4.mono Z0)⟩
      · have HF1 := Lib.hid (fair_p (.slice a L.length c) L t K K rfl false x0 hp0 (by omega) t1 (by omega) k1 (by omega) ⟨fun h => (by cases h), fun h => absurd h hF⟩)
        have HF2 := Lib.hid (fun x1 (b1 : Below x0.heap.size x0 x1) => fair_p (.slice a L.length c) L (t + 1) K K rfl false x1 ((hp0.below b1).mono b1.size) (by omega) (by omega) (by omega) k1 (by omega) ⟨fun h => (by cases h), fun h => absurd (h.fewer t1 (by omega)) hF⟩)
        clear hF hp0
        go_wp2_with (first
          | (go_at_call 13; (with_reducible refine HF1.out.mono ?_); rintro e x1 ⟨rfl, b1⟩)
          | (go_at_call 13; (with_reducible refine (HF2.out x1 b1).mono ?_); rintro e x2 ⟨rfl, b2⟩))
        go_ret
        exact ⟨rfl, HB0.out.trans ((b1.mono Z0).trans (b2.mono (Nat.le_trans Z0 b1.size)))⟩
end Go.Proofs.YtjoflgcggdfomaaGreatDoor
