/- ScriptFills returns true. -/
import Derived.Test.YtjoflgcggdfomaaGreatDoorScFillLaw
import Derived.Test.YtjoflgcggdfomaaGreatDoorScFair
namespace Go.Proofs.YtjoflgcggdfomaaGreatDoor
open Go.ChangeShapes Go.WideShapes Go.ChangeAt Go.RowKit Go.Maps
set_option linter.unusedVariables false
set_option maxRecDepth 100000
set_option linter.unusedSimpArgs false
theorem fair_q (v : Value) (l : List Pk) (t K : Nat) (K' : Int) (e2 : K' = (K : Int)) (w : World) (hv : PicksAt w w.heap.size v l) (hl : l.length ≤ 100000) (ht1 : 1 ≤ t) (ht2 : t ≤ 1000) (hk1 : 1 ≤ K) (hk2 : K ≤ 1000) (hb : FairP l t K) :
    Calls Tryz.prog 13 #[v, .int .i64 (t : Int), .int .i64 K'] w fun e w' => e = .returned (.bool true) ∧ Below w.heap.size w w' := by
  subst e2
  refine (fair_yes v l t K w hv hl (by omega) (by omega) hk1 (by omega)).mono ?_
  rintro e w' ⟨h1, b', h2, h3⟩
  exact ⟨by rw [h2, h3.2 hb], h1⟩
theorem fill_q (v : Value) (l : List Pk) (t m : Nat) (w : World) (hv : PicksAt w w.heap.size v l) (hl : l.length ≤ 1000) (ht1 : 1 ≤ t) (ht2 : t ≤ 1000) (hm1 : 1 ≤ m) (hm2 : m ≤ 100000) :
    Calls Tryz.prog 15 #[v, .int .i64 (t : Int), .int .i64 ((m : Int) + (t : Int))] w fun e w' => ∃ (a : Option Addr) (n c : Nat) (f : List Pk), Hid (f = fillL m t l) ∧ Hid (n = f.length) ∧ e = .returned (.slice a n c) ∧ Below w.heap.size w w' ∧ PicksAt w' w'.heap.size (.slice a n c) f := by
  refine (fill_any v l t m w hv hl ht1 ht2 hm1 hm2).mono ?_
  rintro e w' ⟨v', rfl, hb, ho⟩
  obtain ⟨a, c, rfl, hc, _⟩ := id (PicksAt.own ho)
  exact ⟨a, _, c, _, Lib.hid rfl, Lib.hid rfl, rfl, hb, PicksAt.own ho⟩
theorem size_fact (n t m fl : Nat) (hn : n ≤ 100) (ht : t ≤ 9) (hf : fl = n + t * (n / m + 1)) : ∃ r D : Nat, r ≤ 100 ∧ D ≤ 909 ∧ (n : Int).tdiv (m : Int) = (r : Int) ∧ (n : Int) / (m : Int) = (r : Int) ∧ wrap64 ((t : Int) * (1 + (r : Int))) = (D : Int) ∧ (n : Int) + (D : Int) = (fl : Int) := by
  have h1 : n / m ≤ n := Nat.div_le_self n m
  have h2 : t * (n / m + 1) ≤ 9 * 101 := Nat.mul_le_mul ht (by omega)
  refine ⟨n / m, t * (n / m + 1), by omega, by omega, ?_, (Int.natCast_ediv n m).symm, ?_, by rw [hf, Int.natCast_add]⟩
  · rw [Int.tdiv_eq_ediv_of_nonneg (Int.natCast_nonneg n)]; exact (Int.natCast_ediv n m).symm
  · have e : (t : Int) * (1 + ((n / m : Nat) : Int)) = ((t * (n / m + 1) : Nat) : Int) := by
      rw [Int.natCast_mul, Int.natCast_add, Int.natCast_one, Int.add_comm 1]
    rw [e]
    exact wrap_small _ (by omega) (by omega)
theorem pk_ne (a b : Int) : ∀ W, (binOp .neq 45 (.agg #[.int .i64 a, .int .i64 b]) (.agg #[.int .i64 a, .int .i64 b])).run Tryz.prog W = .ok (.bool false) W := by
  intro W
  go_simp
theorem idx_add (len c B o I U : Nat) (h : I + U < len) : ∀ W, (Instr.indexAt 22 (.slice (some ⟨B, o, none⟩) len c) (.int .i64 ((I : Int) + (U : Int)))).run Tryz.prog W = .ok (.pointer (some ⟨B, o + (I + U) * 2, none⟩)) W := by
  intro W
  rw [show (I : Int) + (U : Int) = ((I + U : Nat) : Int) by omega]
  exact idx_nat len c B o (I + U) h W
set_option maxHeartbeats 4000000 in
theorem fills_law (s : ByteArray) (x y : Int) (w : World) (ht : TieW w) (x00 : 0 ≤ x) (x01 : x ≤ 255) (x10 : 0 ≤ y) (x11 : y ≤ 255) :
    Calls Tryz.prog 5 #[.string s, .int .u8 x, .int .u8 y] w fun e w' => e = .returned (.bool true) ∧ Below w.heap.size w w' := by
  have HW := Lib.hid (works_any w ht)
  have HD := Lib.hid (fun (m : Nat) (hm : m ≤ 100) (w1 : World) => decode_cut s m hm w1)
  clear ht
  go_enter Tryz.func5, Tryz.ntmps5
  go_upto_region 5 with (first
    | (go_at_call 12; refine HW.out.mono ?_; rintro e w1 ⟨rfl, b1⟩)
    | (go_at_call 9; refine (HD.out _ (by omega) w1).mono ?_; rintro e w2 ⟨a, n, c, L, hn, rfl, b2, hL, hc, ho⟩))
  have Z2 := b1.trans (b2.mono b1.size)
  subst hL
  have HO := Lib.hid (PicksAt.own ho)
  clear b1 b2 HW HD ho
  generalize hT : 1 + x % 9 = T'
  obtain ⟨T, rfl⟩ := Int.eq_ofNat_of_zero_le (show 0 ≤ T' by omega)
  have t1 : 1 ≤ T := by omega
  have t9 : T ≤ 9 := by omega
  clear hT x00 x01
  go_upto_region 6 with fail
  generalize hM : y % 12 = M'
  obtain ⟨M0, rfl⟩ := Int.eq_ofNat_of_zero_le (show 0 ≤ M' by omega)
  have m12 : M0 < 12 := by omega
  rw [show (T : Int) + 1 + (M0 : Int) = ((M0 + 1 : Nat) : Int) + (T : Int) by omega]
  clear hM x10 x11
  obtain ⟨m, hm⟩ : ∃ m, m = M0 + 1 := ⟨_, rfl⟩
  rw [← hm]
  have m1 : 1 ≤ m := by omega
  have m2 : m ≤ 12 := by omega
  clear hm m12
  go_upto_region 7 with (go_at_call 15; refine (fill_q _ L T m _ HO.out (by omega) t1 (by omega) m1 (by omega)).mono ?_; rintro e w3 ⟨fa, fl, fc, f, hf, hfl, rfl, b3, hp⟩)
  have e1 : fl = L.length + T * (L.length / m + 1) := by rw [hfl.out, hf.out, fillL_len]
  have hm0 : ¬ ((m : Int) = 0) := by omega
  have hfb : f.length ≤ 100000 := by rw [← hfl.out, e1]; exact Nat.le_trans (Nat.add_le_add hn (Nat.mul_le_mul t9 (Nat.add_le_add_right (Nat.le_trans (Nat.div_le_self _ _) hn) 1))) (by decide)
  have HF := Lib.hid (fair_q (.slice fa fl fc) f T (m + T) ((m : Int) + (T : Int)) (by omega) w3 hp hfb t1 (by omega) (by omega) (by omega) (by rw [hf.out]; exact fill_fair m T L m1 t1))
  have Z3 := Z2.trans (b3.mono Z2.size)
  have HL := Lib.hid (fun (w' : World) (b : Below w3.heap.size w3 w') => ((HO.out.below b3).mono b3.size).below b)
  have HP := Lib.hid hp
  have HE := Lib.hid (show fl = (fillL m T L).length by rw [hfl.out, hf.out])
  obtain ⟨r, D, s1, s2, s3, s4, s5, s6⟩ := size_fact L.length T m fl hn t9 e1
  have hfb2 : fl ≤ 100000 := by rw [hfl.out]; exact hfb
  clear b3 hp Z2 e1 hfb
  go_upto_region 9 with (go_at_call 13; refine HF.out.mono ?_; rintro e w4 ⟨rfl, b4⟩)
  clear s1 s2 s3 s4 s5 s6 hm0
  have Z4 : Below w3.heap.size w3 w4 := b4
  have Z5 : Below w.heap.size w w4 := Z3.trans (b4.mono Z3.size)
  have hlen := HE.out
  have hff := hf
  clear b4 HF Z3
  go_upto_region 11 with fail
  go_loopw [11, 12, 13] (fun va vn vi wr => ∃ A N I : Nat, va = .int .i64 (A : Int) ∧ vn = .int .i64 (N : Int) ∧ vi = .int .i64 (I : Int) ∧ Below w3.heap.size w3 wr ∧ Below w.heap.size w wr ∧ Hid (Mid m T L A N I ∨ (A = L.length ∧ I = fl)))
    (fun va vn vi _ => fl - (intOf vi).toNat)
  case atStart => exact ⟨0, 0, 0, rfl, rfl, rfl, Z4, Z5, Lib.hid (Or.inl ⟨by omega, by omega, 0, by omega, by omega⟩)⟩
  case round =>
    obtain ⟨A, N, I, rfl, rfl, rfl, hb3, hb, hM⟩ := hrel
    rcases hM.out with hMid | ⟨rfl, hI⟩
    · have HPw := Lib.hid ((HP.out.below hb3).mono hb3.size)
      have HLw := Lib.hid (HL.out wr hb3)
      clear hlen
      by_cases hr : N = m ∨ A = L.length
      · obtain ⟨r1, r2, r3, r4⟩ := hMid.round t1 m1 hr
        rw [← HE.out] at r2 r3 r4
        have R1 := Lib.hid r1
        have R4 := Lib.hid r4
        have HM := Lib.hid hMid
        clear r1 r4 hMid hM
        have hcase : (N = m ∧ ¬ ((A : Int) = (L.length : Int))) ∨ (N = m ∧ A = L.length) ∨ (¬ ((N : Int) = (m : Int)) ∧ A = L.length) := by omega
        clear hr
        rcases hcase with ⟨rfl, hA⟩ | ⟨rfl, rfl⟩ | ⟨hN, rfl⟩
        · go_upto_region 14 with fail
          go_loopw [14] (fun vu wr2 => ∃ U : Nat, U ≤ T ∧ vu = .int .i64 (U : Int) ∧ wr = wr2)
            (fun vu _ => T - (intOf vu).toNat)
          case atStart => exact ⟨0, by omega, rfl, rfl⟩
          case round =>
            obtain ⟨U, hU, rfl, rfl⟩ := hrel
            by_cases hlt : U < T
            · have hfi := R1.out U hlt
              rw [← hf.out] at hfi
              obtain ⟨_, _, e, _, hpp⟩ := HPw.out
              obtain ⟨rfl, h2, rfl⟩ : fa = _ ∧ fl = _ ∧ fc = _ := by simpa using e
              obtain ⟨B, o, rfl, hB1, hB2, c0, c1⟩ := hpp (I + U) _ hfi
              rw [← Nat.add_assoc] at c1
              have hix := idx_add fl fc B o I U (by omega)
              have hne := pk_ne (U : Int) 0
              have hge : ¬ (fl : Int) ≤ (I : Int) + (U : Int) := by omega
              clear hpp e h2 hfi
              go_wp2
              go_roundw
              case rel => exact ⟨U + 1, by omega, by go_num, by first | rfl | trivial⟩
              case measure => simp [intOf]; omega
            · have hUe : U = T := by omega
              subst hUe
              have hlt : True := trivial
              have HQ : Hid (Mid N U L A 0 (I + U)) := Lib.hid (by
                rcases R4.out with ⟨q1, _⟩ | ⟨q1, _⟩
                · exact q1
                · omega)
              go_wp2
              go_roundw
              case rel => exact ⟨A, 0, I + U, by first | rfl | trivial, by first | rfl | trivial, by go_num, hb3, hb, Lib.hid (Or.inl HQ.out)⟩
              case measure => simp [intOf]; omega
        · go_upto_region 14 with fail
          go_loopw [14] (fun vu wr2 => ∃ U : Nat, U ≤ T ∧ vu = .int .i64 (U : Int) ∧ wr = wr2)
            (fun vu _ => T - (intOf vu).toNat)
          case atStart => exact ⟨0, by omega, rfl, rfl⟩
          case round =>
            obtain ⟨U, hU, rfl, rfl⟩ := hrel
            by_cases hlt : U < T
            · have hfi := R1.out U hlt
              rw [← hf.out] at hfi
              obtain ⟨_, _, e, _, hpp⟩ := HPw.out
              obtain ⟨rfl, h2, rfl⟩ : fa = _ ∧ fl = _ ∧ fc = _ := by simpa using e
              obtain ⟨B, o, rfl, hB1, hB2, c0, c1⟩ := hpp (I + U) _ hfi
              rw [← Nat.add_assoc] at c1
              have hix := idx_add fl fc B o I U (by omega)
              have hne := pk_ne (U : Int) 0
              have hge : ¬ (fl : Int) ≤ (I : Int) + (U : Int) := by omega
              clear hpp e h2 hfi
              go_wp2
              go_roundw
              case rel => exact ⟨U + 1, by omega, by go_num, by first | rfl | trivial⟩
              case measure => simp [intOf]; omega
            · have hUe : U = T := by omega
              subst hUe
              have hlt : True := trivial
              rcases R4.out with ⟨q1, q2⟩ | ⟨_, q2⟩
              · obtain ⟨h1, h2⟩ := q2 (by first | trivial | rfl)
                have hmod : (L.length : Int) % (N : Int) = 0 := by rw [← Int.natCast_emod, h1]; rfl
                have hmod2 : (L.length : Int).tmod (N : Int) = 0 := by rw [Int.tmod_eq_emod_of_nonneg (Int.natCast_nonneg _)]; exact hmod
                have hlt2 : (I : Int) + (U : Int) < fl := by omega
                have hsub : (fl : Int) - ((I : Int) + (U : Int)) = (U : Int) := by omega
                have HQ := Lib.hid q1
                clear q1 q2 h1 h2
                go_wp2
                go_roundw
                case rel => exact ⟨L.length, 0, I + U, by first | rfl | trivial, by first | rfl | trivial, by go_num, hb3, hb, Lib.hid (Or.inl HQ.out)⟩
                case measure => simp [intOf]; omega
              · have hlt2 : ¬ ((I : Int) + (U : Int) < fl) := by omega
                have HQ := Lib.hid q2
                clear q2
                go_wp2
                go_roundw
                case rel => exact ⟨L.length, 0, I + U, by first | rfl | trivial, by first | rfl | trivial, by go_num, hb3, hb, Lib.hid (Or.inr ⟨rfl, HQ.out⟩)⟩
                case measure => simp [intOf]; omega
        · go_upto_region 14 with fail
          go_loopw [14] (fun vu wr2 => ∃ U : Nat, U ≤ T ∧ vu = .int .i64 (U : Int) ∧ wr = wr2)
            (fun vu _ => T - (intOf vu).toNat)
          case atStart => exact ⟨0, by omega, rfl, rfl⟩
          case round =>
            obtain ⟨U, hU, rfl, rfl⟩ := hrel
            by_cases hlt : U < T
            · have hfi := R1.out U hlt
              rw [← hf.out] at hfi
              obtain ⟨_, _, e, _, hpp⟩ := HPw.out
              obtain ⟨rfl, h2, rfl⟩ : fa = _ ∧ fl = _ ∧ fc = _ := by simpa using e
              obtain ⟨B, o, rfl, hB1, hB2, c0, c1⟩ := hpp (I + U) _ hfi
              rw [← Nat.add_assoc] at c1
              have hix := idx_add fl fc B o I U (by omega)
              have hne := pk_ne (U : Int) 0
              have hge : ¬ (fl : Int) ≤ (I : Int) + (U : Int) := by omega
              clear hpp e h2 hfi
              go_wp2
              go_roundw
              case rel => exact ⟨U + 1, by omega, by go_num, by first | rfl | trivial⟩
              case measure => simp [intOf]; omega
            · have hUe : U = T := by omega
              subst hUe
              have hlt : True := trivial
              rcases R4.out with ⟨q1, q2⟩ | ⟨_, q2⟩
              · obtain ⟨h1, h2⟩ := q2 (by first | trivial | rfl)
                have hmod : (L.length : Int) % (m : Int) = 0 := by rw [← Int.natCast_emod, h1]; rfl
                have hmod2 : (L.length : Int).tmod (m : Int) = 0 := by rw [Int.tmod_eq_emod_of_nonneg (Int.natCast_nonneg _)]; exact hmod
                have hlt2 : (I : Int) + (U : Int) < fl := by omega
                have hsub : (fl : Int) - ((I : Int) + (U : Int)) = (U : Int) := by omega
                have HQ := Lib.hid q1
                clear q1 q2 h1 h2
                go_wp2
                go_roundw
                case rel => exact ⟨L.length, 0, I + U, by first | rfl | trivial, by first | rfl | trivial, by go_num, hb3, hb, Lib.hid (Or.inl HQ.out)⟩
                case measure => simp [intOf]; omega
              · have hlt2 : ¬ ((I : Int) + (U : Int) < fl) := by omega
                have HQ := Lib.hid q2
                clear q2
                go_wp2
                go_roundw
                case rel => exact ⟨L.length, 0, I + U, by first | rfl | trivial, by first | rfl | trivial, by go_num, hb3, hb, Lib.hid (Or.inr ⟨rfl, HQ.out⟩)⟩
                case measure => simp [intOf]; omega
      · obtain ⟨p, hl, hfi, hM2, hA2, hI2⟩ := hMid.step t1 (by omega) (by omega)
        have HM2 := Lib.hid hM2
        rw [← hf.out] at hfi
        obtain ⟨_, _, e, _, hpp⟩ := HPw.out
        obtain ⟨rfl, h2, rfl⟩ : fa = _ ∧ fl = _ ∧ fc = _ := by simpa using e
        obtain ⟨B, o, rfl, hB1, hB2, c0, c1⟩ := hpp I p hfi
        obtain ⟨_, _, e', _, hpp'⟩ := HLw.out
        obtain ⟨rfl, rfl⟩ : a = _ ∧ c = _ := by simpa using e'
        obtain ⟨B', o', rfl, hB1', hB2', d0, d1⟩ := hpp' A p hl
        rw [← Nat.add_assoc] at c1 d1
        rw [← HE.out] at hI2
        have hix := idx_nat fl fc B o I hI2
        have hix' := idx_nat L.length c B' o' A hA2
        obtain ⟨pu, pq⟩ := p
        have hne := pk_ne pu pq
        have hN : ¬ ((N : Int) = (m : Int)) := by omega
        have hA : ¬ ((A : Int) = (L.length : Int)) := by omega
        have hI3 : (I : Int) < (fl : Int) := by omega
        have hA3 : (A : Int) < (L.length : Int) := by omega
        simp only at c0 c1 d0 d1
        have hAb : A ≤ 100 := by omega
        have hNb : N ≤ 12 := Nat.le_trans hMid.nm m2
        have hIb : I ≤ 100000 := by omega
        clear hpp hpp' e e' h2 hfi hl hr hM hMid hM2
        go_upto_region 22 with fail
        go_quiet (fail)
        go_wp2
        go_roundw
        case rel => exact ⟨A + 1, N + 1, I + 1, by go_num, by go_num, by go_num, bdrewN hb3 nq, bdrewN hb nq, Lib.hid (Or.inl HM2.out)⟩
        case measure => simp [intOf]; omega
    · subst hI
      go_wp2
      go_ret
      exact ⟨rfl, hb⟩
end Go.Proofs.YtjoflgcggdfomaaGreatDoor
