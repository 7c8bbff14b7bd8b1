/- The chapter's examples hold: works. -/
import Derived.Test.YtkmadabpfialbaaGreatDoorScWorks
import Derived.Test.YtkmadabpfialbaaGreatDoorScReck
namespace Go.Proofs.YtkmadabpfialbaaGreatDoor
open Go.ChangeShapes Go.WideShapes Go.ChangeAt Go.RowKit Go.Maps
set_option linter.unusedVariables false
set_option maxRecDepth 100000
set_option linter.unusedSimpArgs false
theorem okPk_wf {p : Pk} (h : okPk p = true) : PkWf p := by
  unfold okPk at h
  simp only [Bool.and_eq_true, decide_eq_true_eq] at h
  constructor <;> (simp [Lit.wf, IntKind.min, IntKind.max, IntKind.signed, IntKind.bits]; omega)
theorem decode_lit (s : ByteArray) (l : List Pk) (w : World) (hs : s.size ≤ 100000) (h : decodeL s = l) :
    Calls Tryz.prog 5 #[.string s] w fun e w' => ∃ v, e = .returned v ∧ Left7 w v l w' :=
  (decode_any s w hs).mono fun e w' ⟨v, h1, h2, h3⟩ => ⟨v, h1, by rw [h] at h3; exact Left7.own h2 h3⟩
theorem print_lit (ws : List (List UInt8)) (l : List Pk) (bs : List UInt8) (v : Value) (w : World) (h : ws.map wordP = l.map some) (hj : Lib.join ws [32] = bs) (hv : PicksAt w w.heap.size v l) (ht : TieW w) (hl : l.length ≤ 1000) :
    Calls Tryz.prog 13 #[v] w fun e w' => e = .returned (.string ⟨bs.toArray⟩) ∧ Below w.heap.size w w' := by
  have hp : printL l = bs := by unfold printL; rw [join_words ws l h, hj]
  have hwf : ∀ p ∈ l, PkWf p := by
    intro p hp
    obtain ⟨i, hi⟩ := List.getElem?_of_mem hp
    have h1 : (l.map some)[i]? = some (some p) := by rw [List.getElem?_map, hi]; rfl
    rw [← h, List.getElem?_map, Option.map_eq_some_iff] at h1
    obtain ⟨u, _, hu⟩ := h1
    exact okPk_wf (wordP_ok hu).1
  have := print_any v l w ht hv (by omega) hwf
  rw [hp] at this
  exact this
theorem fair_lit (v : Value) (l : List Pk) (t K : Nat) (t' K' : Int) (e1 : t' = (t : Int)) (e2 : K' = (K : Int)) (b : Bool) (w : World) (hv : PicksAt w w.heap.size v l) (hl : l.length ≤ 1000) (ht1 : 1 ≤ t) (ht2 : t ≤ 1000) (hk1 : 1 ≤ K) (hk2 : K ≤ 1000) (hb : fairB l t K = b) :
    Calls Tryz.prog 9 #[v, .int .i64 t', .int .i64 K'] w fun e w' => e = .returned (.bool b) ∧ Below w.heap.size w w' := by
  subst e1 e2
  exact (fair_yes v l t K w hv (by omega) (by omega) (by omega) hk1 (by omega)).mono fun e w' ⟨h1, b', h2, h3⟩ => ⟨by
    have h4 := fairB_iff l t K ht1 hk1
    have : b' = b := by
      rw [← hb]
      rw [Bool.eq_iff_iff]
      exact h3.trans h4.symm
    rw [h2, this], h1⟩
theorem fill_lit (v : Value) (l r : List Pk) (t m : Nat) (t' k' : Int) (e1 : t' = (t : Int)) (e2 : k' = (m : Int) + (t : Int)) (w : World) (hv : PicksAt w w.heap.size v l) (hl : l.length ≤ 1000) (ht1 : 1 ≤ t) (ht2 : t ≤ 1000) (hm1 : 1 ≤ m) (hm2 : m ≤ 1000) (hr : fillL m t l = r) :
    Calls Tryz.prog 11 #[v, .int .i64 t', .int .i64 k'] w fun e w' => ∃ v', e = .returned v' ∧ Left7 w v' r w' := by
  subst e1 e2
  exact (fill_any v l t m w hv hl ht1 ht2 hm1 (by omega)).mono fun e w' ⟨v', h1, h2, h3⟩ => ⟨v', h1, by rw [hr] at h3; exact Left7.own h2 h3⟩
theorem wrong_lit (s : ByteArray) (i : Nat) (i' : Int) (e1 : i' = (i : Int)) (w : World) (hs : s.size ≤ 100000) (ht : TieW w) (hb : badAt (fieldsB s.data.toList) = some i) :
    Calls Tryz.prog 20 #[.string s, .int .i64 i'] w fun e w' => e = .returned (.bool true) ∧ Below w.heap.size w w' := by
  subst e1
  exact wrong_yes s i w hs ht hb
theorem TieW.on {w w' : World} (h : TieW w) (hb : Below w.heap.size w w') : TieW w' := h.below hb h.big
set_option maxHeartbeats 8000000 in
theorem works_any (w : World) (ht : TieW w) : Calls Tryz.prog 8 #[] w fun e w' => e = .returned (.bool true) ∧ Below w.heap.size w w' := by
  have HD := Lib.hid (fun w => decode_lit ⟨#[3, 131, 195, 67]⟩ [(3, 0), (3, 2), (3, 1), (3, 0)] w (by decide) (by decide +kernel))
  have HP1 := Lib.hid (fun v w hv ht => print_lit [[51], [51, 115], [51, 116], [51]] [(3, 0), (3, 2), (3, 1), (3, 0)] [51, 32, 51, 115, 32, 51, 116, 32, 51] v w (by decide +kernel) (by decide +kernel) hv ht (by decide))
  have HA1 := Lib.hid (fun w ht => parsed_ok ⟨#[48, 32, 49, 32, 48, 32, 49]⟩ [(0, 0), (1, 0), (0, 0), (1, 0)] w (by decide) ht (by decide +kernel) (by decide +kernel))
  have HF1 := Lib.hid (fun v w hv => fair_lit v [(0, 0), (1, 0), (0, 0), (1, 0)] 2 2 2 2 rfl rfl true w hv (by decide) (by decide) (by decide) (by decide) (by decide) (by decide +kernel))
  have HA2 := Lib.hid (fun w ht => parsed_ok ⟨#[48, 32, 48, 32, 49]⟩ [(0, 0), (0, 0), (1, 0)] w (by decide) ht (by decide +kernel) (by decide +kernel))
  have HF2 := Lib.hid (fun v w hv => fair_lit v [(0, 0), (0, 0), (1, 0)] 2 2 2 2 rfl rfl false w hv (by decide) (by decide) (by decide) (by decide) (by decide) (by decide +kernel))
  have HA3 := Lib.hid (fun w ht => parsed_ok ⟨#[48, 32, 49, 32, 49, 116, 32, 48]⟩ [(0, 0), (1, 0), (1, 1), (0, 0)] w (by decide) ht (by decide +kernel) (by decide +kernel))
  have HF3 := Lib.hid (fun v w hv => fair_lit v [(0, 0), (1, 0), (1, 1), (0, 0)] 2 3 2 3 rfl rfl true w hv (by decide) (by decide) (by decide) (by decide) (by decide) (by decide +kernel))
  have HA4 := Lib.hid (fun w ht => parsed_ok ⟨#[53, 32, 54, 32, 55]⟩ [(5, 0), (6, 0), (7, 0)] w (by decide) ht (by decide +kernel) (by decide +kernel))
  have HL1 := Lib.hid (fun v w hv => fill_lit v [(5, 0), (6, 0), (7, 0)] [(5, 0), (6, 0), (0, 0), (1, 0), (7, 0), (0, 0), (1, 0)] 2 2 2 4 rfl rfl w hv (by decide) (by decide) (by decide) (by decide) (by decide) (by decide +kernel))
  have HP2 := Lib.hid (fun v w hv ht => print_lit [[53], [54], [48], [49], [55], [48], [49]] [(5, 0), (6, 0), (0, 0), (1, 0), (7, 0), (0, 0), (1, 0)] [53, 32, 54, 32, 48, 32, 49, 32, 55, 32, 48, 32, 49] v w (by decide +kernel) (by decide +kernel) hv ht (by decide))
  have HL2 := Lib.hid (fun w => fill_lit (.slice none 0 0) [] [(0, 0), (1, 0)] 2 2 2 4 rfl rfl w (picksAt_nil w _) (by decide) (by decide) (by decide) (by decide) (by decide) (by decide +kernel))
  have HP3 := Lib.hid (fun v w hv ht => print_lit [[48], [49]] [(0, 0), (1, 0)] [48, 32, 49] v w (by decide +kernel) (by decide +kernel) hv ht (by decide))
  have HA5 := Lib.hid (fun w ht => parsed_ok ⟨#[49, 50, 32, 32, 51, 116]⟩ [(12, 0), (3, 1)] w (by decide) ht (by decide +kernel) (by decide +kernel))
  have HP4 := Lib.hid (fun v w hv ht => print_lit [[49, 50], [51, 116]] [(12, 0), (3, 1)] [49, 50, 32, 51, 116] v w (by decide +kernel) (by decide +kernel) hv ht (by decide))
  have HW1 := Lib.hid (fun w ht => wrong_lit ⟨#[49, 32, 120]⟩ 1 1 rfl w (by decide) ht (by decide +kernel))
  have HW2 := Lib.hid (fun w ht => wrong_lit ⟨#[48, 49]⟩ 0 0 rfl w (by decide) ht (by decide +kernel))
  go_enter Tryz.func8, Tryz.ntmps8
  go_upto_region 2 with (first
    | (go_at_call 5; (with_reducible refine (HD.out _).mono ?_); rintro e w1 ⟨v1, rfl, b1, p1⟩; have t1 := ht.on b1)
    | (go_at_call 13; (with_reducible refine (HP1.out v1 w1 p1 t1).mono ?_); rintro e w2 ⟨rfl, b2⟩; have t2 := t1.on b2))
  go_upto_region 3 with (first
    | (go_at_call 19; (with_reducible refine (HA1.out w2 t2).mono ?_); rintro e w3 ⟨v2, rfl, b3, p2⟩; have t3 := t2.on b3)
    | (go_at_call 9; (with_reducible refine (HF1.out v2 w3 p2).mono ?_); rintro e w4 ⟨rfl, b4⟩; have t4 := t3.on b4)
    | (go_at_call 19; (with_reducible refine (HA2.out w4 t4).mono ?_); rintro e w5 ⟨v3, rfl, b5, p3⟩; have t5 := t4.on b5)
    | (go_at_call 9; (with_reducible refine (HF2.out v3 w5 p3).mono ?_); rintro e w6 ⟨rfl, b6⟩; have t6 := t5.on b6)
    | (go_at_call 19; (with_reducible refine (HA3.out w6 t6).mono ?_); rintro e w7 ⟨v4, rfl, b7, p4⟩; have t7 := t6.on b7)
    | (go_at_call 9; (with_reducible refine (HF3.out v4 w7 p4).mono ?_); rintro e w8 ⟨rfl, b8⟩; have t8 := t7.on b8))
  go_upto_region 4 with (first
    | (go_at_call 19; (with_reducible refine (HA4.out w8 t8).mono ?_); rintro e w9 ⟨v5, rfl, b9, p5⟩; have t9 := t8.on b9)
    | (go_at_call 11; (with_reducible refine (HL1.out v5 w9 p5).mono ?_); rintro e w10 ⟨v6, rfl, b10, p6⟩; have t10 := t9.on b10)
    | (go_at_call 13; (with_reducible refine (HP2.out v6 w10 p6 t10).mono ?_); rintro e w11 ⟨rfl, b11⟩; have t11 := t10.on b11)
    | (go_at_call 11; (with_reducible refine (HL2.out w11).mono ?_); rintro e w12 ⟨v7, rfl, b12, p7⟩; have t12 := t11.on b12)
    | (go_at_call 13; (with_reducible refine (HP3.out v7 w12 p7 t12).mono ?_); rintro e w13 ⟨rfl, b13⟩; have t13 := t12.on b13))
  go_wp2_with (first
    | (go_at_call 19; (with_reducible refine (HA5.out w13 t13).mono ?_); rintro e w14 ⟨v8, rfl, b14, p8⟩; have t14 := t13.on b14)
    | (go_at_call 13; (with_reducible refine (HP4.out v8 w14 p8 t14).mono ?_); rintro e w15 ⟨rfl, b15⟩; have t15 := t14.on b15)
    | (go_at_call 20; (with_reducible refine (HW1.out w15 t15).mono ?_); rintro e w16 ⟨rfl, b16⟩; have t16 := t15.on b16)
    | (go_at_call 20; (with_reducible refine (HW2.out w16 t16).mono ?_); rintro e w17 ⟨rfl, b17⟩))
  go_ret
  have c2 := b1.trans (b2.mono b1.size)
  have c3 := c2.trans (b3.mono c2.size)
  have c4 := c3.trans (b4.mono c3.size)
  have c5 := c4.trans (b5.mono c4.size)
  have c6 := c5.trans (b6.mono c5.size)
  have c7 := c6.trans (b7.mono c6.size)
  have c8 := c7.trans (b8.mono c7.size)
  have c9 := c8.trans (b9.mono c8.size)
  have c10 := c9.trans (b10.mono c9.size)
  have c11 := c10.trans (b11.mono c10.size)
  have c12 := c11.trans (b12.mono c11.size)
  have c13 := c12.trans (b13.mono c12.size)
  have c14 := c13.trans (b14.mono c13.size)
  have c15 := c14.trans (b15.mono c14.size)
  have c16 := c15.trans (b16.mono c15.size)
  have c17 := c16.trans (b17.mono c16.size)
  exact ⟨rfl, c17⟩
end Go.Proofs.YtkmadabpfialbaaGreatDoor
