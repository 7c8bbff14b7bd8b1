/- Layer 11's laws: of any cells, some monitors come; words that came in. -/
import Derived.Test.YtpejmkoheodblaaGreatMgPoC
namespace Go.Proofs.YtpejmkoheodblaaGreat
open Go.ChangeShapes Go.WideShapes Go.ChangeAt Go.RowKit
set_option linter.unusedVariables false
set_option maxRecDepth 100000
/-- a walk, so far -/
structure CamePre (m : Mp) (mm l : List Int) : Prop where
  at' : ∀ (k : Nat) x, l[k]? = some x → curP m mm (l.take k) = x
  nodup : l.Nodup
  low : ∀ x ∈ l, 0 ≤ x ∧ x < (m.n : Int)
theorem curV_rng {m : Mp} {mm : List Int} (h : Rng mm) (l : List Int) : 0 ≤ curV m mm l ∧ curV m mm l < 18446744073709551616 := by
  have hr : ∀ i, 0 ≤ rdL mm i ∧ rdL mm i < 18446744073709551616 := fun i => by
    unfold rdL
    cases e : mm[i]? with
    | none => simp
    | some c => exact h i c e
  unfold curV
  split <;> exact hr _
theorem came_some {m : Mp} {mm : List Int} (hl : sizeN m ≤ mm.length) (hr : Rng mm) : ∃ l, Came m mm l := by
  have key : ∀ k, (∃ l, Came m mm l) ∨ ∃ l, l.length = k ∧ CamePre m mm l := by
    intro k
    induction k with
    | zero => exact .inr ⟨[], rfl, fun k x h => by simp at h, List.nodup_nil, fun x h => by simp at h⟩
    | succ k ih =>
      rcases ih with h | ⟨l, hk, hp⟩
      · exact .inl h
      · by_cases hs : curP m mm l = -1 ∨ curP m mm l ∈ l
        · exact .inl ⟨l, hl, hr, hp.at', hp.nodup, hp.low, hs⟩
        · right
          have h1 : curP m mm l ≠ -1 := fun e => hs (.inl e)
          have h2 : curP m mm l ∉ l := fun e => hs (.inr e)
          have hrg := pmS_range (m := m) (curV_rng (m := m) hr l).1
          have e0 : pmS m (curV m mm l) = curP m mm l := rfl
          rw [e0] at hrg
          refine ⟨l ++ [curP m mm l], by simp [hk], fun j x hx => ?_, ?_, fun x hx => ?_⟩
          · by_cases hj : j < l.length
            · rw [List.getElem?_append_left hj] at hx
              rw [List.take_append_of_le_length (by omega)]
              exact hp.at' j x hx
            · have hj2 : j = l.length := by
                have := (List.getElem?_eq_some_iff.1 hx).1
                simp at this
                omega
              subst hj2
              simp at hx
              rw [← hx, List.take_left]
          · rw [List.nodup_append]
            refine ⟨hp.nodup, by simp, fun a ha b hb e => ?_⟩
            simp at hb
            exact h2 (by rw [← hb, ← e]; exact ha)
          · rcases List.mem_append.1 hx with hx | hx
            · exact hp.low x hx
            · simp at hx
              rw [hx]
              omega
  rcases key (m.n + 1) with h | ⟨l, hk, hp⟩
  · exact h
  · have := nodup_len0 hp.nodup hp.low
    omega
/-- what the cell ahead has, where a walk goes on -/
theorem Came.val {m : Mp} {mm l : List Int} (h : Came m mm l) {k : Nat} {x : Int} (hk : l[k]? = some x) : curV m mm (l.take k) = x + 1 := by
  have h1 := h.at' k x hk
  have h2 := h.low x (List.mem_of_getElem? hk)
  unfold curP pmS at h1
  split at h1 <;> omega
theorem Came.end' {m : Mp} {mm l : List Int} (h : Came m mm l) (h1 : 1 ≤ curV m mm l ∧ curV m mm l ≤ m.n) : ∃ (k : Nat) (x : Int), l[k]? = some x ∧ x + 1 = curV m mm l := by
  have e : curP m mm l = curV m mm l - 1 := pmS_of h1.2
  rcases h.stop with hs | hs
  · omega
  · obtain ⟨k, hk⟩ := List.mem_iff_getElem?.1 hs
    exact ⟨k, _, hk, by omega⟩
/-- words that came in -/
def WordsAt (w : World) (n0 : Nat) (a : Option Addr) (len : Nat) : Prop :=
  ∀ i, i < len → ∃ (b off : Nat) (x : Int), a = some ⟨b, off, none⟩ ∧ b < n0 ∧ w.cell? ⟨b, off + i, none⟩ = some (.int .u64 x) ∧ 0 ≤ x ∧ x < 18446744073709551616
theorem WordsAt.below {w w1 : World} {n0 : Nat} {a : Option Addr} {len : Nat} (h : WordsAt w n0 a len) (hb : Below n0 w w1) : WordsAt w1 n0 a len := fun i hi => by
  obtain ⟨b, off, x, e, hbn, hc, hx⟩ := h i hi
  exact ⟨b, off, x, e, hbn, (hb.cell (p := ⟨b, off + i, none⟩) hbn).trans hc, hx⟩
theorem wf_u64 {z : Int} (h : (Lit.int .u64 z).wf = true) : 0 ≤ z ∧ z < 18446744073709551616 := by
  have h2 : 0 ≤ z ∧ z ≤ 18446744073709551615 := by
    simpa [Lit.wf, IntKind.min, IntKind.max, IntKind.signed, IntKind.bits] using h
  omega
theorem words_of {w : World} {a : Option Addr} {len cap : Nat} {zs : List Int}
    (h : (a = none ∧ len = 0 ∧ cap = 0 ∧ zs = []) ∨ ∃ x, a = some x ∧ len ≤ cap ∧ cap ≤ maxLen ∧ zs.length = cap ∧ (∀ i, i < zs.length → w.cell? (x.add i) = some (.int .u64 (zs.getD i 0))) ∧ ∀ n ∈ zs, (Lit.int .u64 n).wf = true) :
    WordsAt w w.heap.size a len ∧ len ≤ cap ∧ cap ≤ 9223372036854775807 := by
  rcases h with ⟨rfl, rfl, rfl, rfl⟩ | ⟨x, rfl, hl, hm, hz, hc, hw⟩
  · exact ⟨fun i hi => by omega, Nat.le_refl _, by omega⟩
  · refine ⟨fun i hi => ?_, hl, by unfold maxLen at hm; omega⟩
    obtain ⟨b, off, rfl, hc2⟩ := ints_at hc (by omega)
    have h1 := hc2 i (by omega)
    have e : zs.getD i 0 = zs[i] := by simp [List.getD_eq_getElem?_getD, (by omega : i < zs.length)]
    have h2 := wf_u64 (hw _ (List.getElem_mem (by omega : i < zs.length)))
    rw [← e] at h2
    exact ⟨b, off, _, rfl, cell_lt6 h1, h1, h2⟩
theorem idx_words (len c B o i : Nat) (h : i < len) : ∀ W, (Instr.indexAt 38 (.slice (some ⟨B, o, none⟩) len c) (.int .i64 (i : Int))).run Tryz.prog W = .ok (.pointer (some ⟨B, o + i, none⟩)) W := by
  intro W
  go_simp
end Go.Proofs.YtpejmkoheodblaaGreat
/- Layer 11's laws: PoolFree. Written by tools/gen_pofree.py. -/
namespace Go.Proofs.YtpejmkoheodblaaGreat
open Go.ChangeShapes Go.WideShapes Go.ChangeAt Go.RowKit
set_option linter.unusedVariables false
set_option maxRecDepth 100000
set_option linter.unusedSimpArgs false
/-- the law's cells: any words, but the head -/
structure AnyP (w : World) (C S : Nat) (m : Mp) (mm : List Int) (n hd : Int) : Prop where
  cells : CellsAt w C S mm n
  rng : Rng mm
  size : mm.length = sizeN m
  head : mm[1]? = some hd
theorem AnyP.below {w w1 : World} {C S : Nat} {m : Mp} {mm : List Int} {n hd : Int} (h : AnyP w C S m mm n hd) (hb : Below w.heap.size w w1) : AnyP w1 C S m mm n hd :=
  ⟨h.cells.keep (Keep.ofBelow (Q := fun _ => False) hb) (fun h => h) (fun h => h), h.rng, h.size, h.head⟩
theorem anyp_head {w : World} {C S : Nat} {m : Mp} {mm : List Int} {n hd : Int} {L : List Int} {G : Int → Int} (h : PW w C S m mm n L G) (hn : 0 ≤ n ∧ n ≤ 1000) (hh : 0 ≤ hd ∧ hd < 18446744073709551616) :
    Calls Tryz.prog 40 #[cellsV C, .int .i64 1, .int .u64 hd] w fun e w' => e = .returned (.bool true) ∧ AnyP w' C S m (mm.set 1 hd) (n + 1) hd ∧ Keep (ofCells C S) w w' := by
  refine (store_yes C S mm n 1 _ hd w h.cells h.pool.pool.head hn.1 (by omega)).mono ?_
  rintro e w' ⟨rfl, h1, h2⟩
  have hl : 1 < mm.length := (List.getElem?_eq_some_iff.1 h.pool.pool.head).1
  exact ⟨rfl, ⟨h1, h.rng.set 1 hh, by simpa using h.size, List.getElem?_set_self hl⟩, h2⟩
theorem anyp_link {w : World} {C S : Nat} {m : Mp} {mm : List Int} {n hd : Int} (h : AnyP w C S m mm n hd) (hn : 0 ≤ n ∧ n ≤ 1000) (k : Int) (hk : 0 ≤ k ∧ k < m.n) (v : Int) (hv : 0 ≤ v ∧ v < 18446744073709551616) :
    Calls Tryz.prog 40 #[cellsV C, .int .i64 (linkN m k : Nat), .int .u64 v] w fun e w' => e = .returned (.bool true) ∧ AnyP w' C S m (mm.set (linkN m k) v) (n + 1) hd ∧ Keep (ofCells C S) w w' := by
  have hl : linkN m k < mm.length := by rw [h.size]; exact linkN_lt hk
  refine (store_yes C S mm n (linkN m k) _ v w h.cells (List.getElem?_eq_getElem hl) hn.1 (by omega)).mono ?_
  rintro e w' ⟨rfl, h1, h2⟩
  exact ⟨rfl, ⟨h1, h.rng.set _ hv, by simpa using h.size, by rw [List.getElem?_set_ne (by have := linkN_two (m := m) (k := k); omega)]; exact h.head⟩, h2⟩
theorem anyp_all {w : World} {C S : Nat} {m : Mp} {mm : List Int} {n hd : Int} (h : AnyP w C S m mm n hd) :
    Calls Tryz.prog 13 #[cellsV C] w fun e w' => ∃ g cap, e = .returned (.slice (some ⟨g, 0, none⟩) mm.length cap) ∧ RowC w' g mm ∧ w.heap.size ≤ g ∧ g < w'.heap.size ∧ Below w.heap.size w w' :=
  allR_any C S mm n w h.cells (fun e => by have := h.size; rw [e] at this; unfold sizeN at this; simp at this; omega)
theorem anyp_free {w : World} {C S : Nat} {m : Mp} {mm l : List Int} {n hd : Int} (hm : m.ok) (h : AnyP w C S m mm n hd) (hl : Came m mm l) :
    Calls Tryz.prog 38 #[cellsV C, mapV m] w fun e w' => ∃ a c, e = .returned (.slice a l.length c) ∧ RowN w' (fun b => w.heap.size ≤ b) (.slice a l.length c) l ∧ Below w.heap.size w w' := by
  refine (free_any C S m mm l n w hm h.cells hl).mono ?_
  rintro e w' ⟨v, rfl, hr, hb⟩
  obtain ⟨a, c, rfl, _⟩ := id hr
  exact ⟨a, c, rfl, hr, hb⟩
theorem lawp_free {w : World} {C S nn : Nat} {mm l : List Int} {n hd : Int} (hm : (lawM nn).ok) (h : AnyP w C S (lawM nn) mm n hd) (hl : Came (lawM nn) mm l) :
    Calls Tryz.prog 38 #[cellsV C, lawV nn] w fun e w' => ∃ a c, e = .returned (.slice a l.length c) ∧ RowN w' (fun b => w.heap.size ≤ b) (.slice a l.length c) l ∧ Below w.heap.size w w' := by
  have := anyp_free hm h hl
  rw [lawV_eq] at this
  exact this
theorem pidx_ints (len c B o i : Nat) (h : i < len) : ∀ W, (Instr.indexAt 37 (.slice (some ⟨B, o, none⟩) len c) (.int .i64 (i : Int))).run Tryz.prog W = .ok (.pointer (some ⟨B, o + i, none⟩)) W := by
  intro W
  go_simp
theorem wrap_u64_up {x : Int} (h : 0 ≤ x ∧ x < 100000) : IntKind.u64.wrap x = x := by rw [IntKind.wrap_u64]; omega
set_option maxHeartbeats 8000000 in
theorem free11_law (z : Nat) (hd : Int) (la : Option Addr) (ln lc : Nat) (w : World) (hz : z ≤ 255) (hh : 0 ≤ hd ∧ hd < 18446744073709551616) (hL : WordsAt w w.heap.size la ln) (hln : ln ≤ lc) (hlc : lc ≤ 9223372036854775807) :
    Calls Tryz.prog 6 #[.int .u8 (z : Int), .int .u64 hd, .slice la ln lc] w fun e w' => e = .returned (.bool true) ∧ Below w.heap.size w w' := by
  have HL := Lib.hid hL
  have HH := Lib.hid hh
  have eq21 : ((z : Int).tmod 21) = ((z % 21 : Nat) : Int) := rfl
  obtain ⟨n, hn⟩ : ∃ n, n = z % 21 := ⟨_, rfl⟩
  have hn20 : n ≤ 20 := by omega
  rw [← hn] at eq21
  have hnI : (0 : Int) ≤ (n : Int) ∧ (n : Int) ≤ 20 := by omega
  clear hL hh hn
  go_enter Tryz.func6, Tryz.ntmps6
  go_upto_region 4 with (go_at_call 30; (with_reducible refine (pworks_any _).mono ?_); rintro e w1 ⟨rfl, b1⟩)
  have HB1 := Lib.hid b1
  clear b1 eq21 hnI
  have HLd := Lib.hid (vlaid n w1 (by omega) (nI := (n : Int)) rfl)
  go_upto_region 5 with (go_at_call 39; (with_reducible refine HLd.out.mono ?_); rintro e w2 ⟨C, S, mm0, rfl, hq, b2, hC, hS⟩)
  have m2 : Blk (w2.alloc (.cells #[.int .i64 3, .int .i64 2, .int .i64 (n : Int)] 24)) w2.heap.size 24 #[.int .i64 3, .int .i64 2, .int .i64 (n : Int)] := Blk.new w2 _ _
  have hb3 : Below w2.heap.size w2 (w2.alloc (.cells #[.int .i64 3, .int .i64 2, .int .i64 (n : Int)] 24)) := (Below.refl _ w2).alloc (Nat.le_refl _) _
  generalize w2.alloc (.cells #[.int .i64 3, .int .i64 2, .int .i64 (n : Int)] 24) = V at *
  have HBV := Lib.hid ((HB1.out.trans (b2.mono HB1.out.size)).trans (hb3.mono (by have := HB1.out.size; have := b2.size; omega)))
  have HMC := Lib.hid (show w2.heap.size ≠ C ∧ w2.heap.size ≠ S from ⟨by have := hq.cells.own.lt; omega, by have := hq.cells.row.lt; omega⟩)
  have HCS := Lib.hid (show ∀ i, ofCells C S i → w.heap.size ≤ i from fun i hi => by have := HB1.out.size; rcases hi with hi | hi <;> omega)
  have HQ0 := Lib.hid (hq.below hb3)
  have HMm := Lib.hid m2
  have HM0 := Lib.hid (lawM_ok (n := n) (by omega))
  have HHd := Lib.hid (show ∀ W, Calls Tryz.prog 35 #[lawV n] W fun e w' => e = .returned (.int .i64 1) ∧ Below W.heap.size W w' from fun W => head_any (lawM n) W)
  obtain ⟨d0, d1, d2⟩ := lawC m2
  clear m2 hq b2 hb3 hC hS HLd HB1
  generalize w2.heap.size = bm at *
  go_upto_region 8 with (first
    | (go_at_call 35; (with_reducible refine (HHd.out _).mono ?_); rintro e w3 ⟨rfl, b3⟩; have HSt := Lib.hid (anyp_head (HQ0.out.below b3) ⟨by omega, by omega⟩ HH.out))
    | (go_at_call 40; (with_reducible refine HSt.out.mono ?_); rintro e w4 ⟨rfl, hq4, k4⟩))
  have kV4 : Keep (ofCells C S) V w4 := (Keep.ofBelow b3).trans k4
  have HB4 := Lib.hid (HBV.out.trans (kV4.below HBV.out.size (fun i _ hi => HCS.out i hi)))
  have HM4 := Lib.hid (HMm.out.keep kV4 (nofP HMC.out))
  have HQ4 := Lib.hid hq4
  clear d0 d1 d2 b3 k4 kV4 hq4 HSt HQ0 HBV HMm
  go_wp2_with fail
  go_loopw [10] (fun v10 wr => ∃ (i : Nat) (mm : List Int) (k : Int), i ≤ n ∧ v10 = .int .i64 (i : Int) ∧ AnyP wr C S (lawM n) mm k hd ∧ 0 ≤ k ∧ k ≤ 50 + i ∧ Blk wr bm 24 #[.int .i64 3, .int .i64 2, .int .i64 (n : Int)] ∧ Below w.heap.size w wr)
    (fun v10 _ => n - (intOf v10).toNat)
  case atStart => exact ⟨0, _, _, by omega, rfl, HQ4.out, by omega, by omega, HM4.out, HB4.out⟩
  case round =>
    clear HQ4 HM4 HB4
    obtain ⟨i, mm, k, hi, rfl, hq, hk0, hk1, hM, hb⟩ := hrel
    have HQ := Lib.hid hq
    have HM := Lib.hid hM
    have HB := Lib.hid hb
    clear hq hM hb
    by_cases hgo : i < n ∧ 0 < ln
    · obtain ⟨b, off, x, rfl, hbn, hc, hx⟩ := HL.out (i % ln) (Nat.mod_lt _ hgo.2)
      have hmod : ((i : Int).tmod (ln : Int)) = ((i % ln : Nat) : Int) := rfl
      have hnz : ¬ (ln : Int) = 0 := by omega
      have hnzN : ¬ ln = 0 := by omega
      have h1 : (i : Int) < (n : Int) := by omega
      have h2 : (0 : Int) < (ln : Int) := by omega
      have hix := idx_words ln lc b off (i % ln) (Nat.mod_lt _ hgo.2)
      have hxr : wr.cell? ⟨b, off + i % ln, none⟩ = some (.int .u64 x) := (HB.out.cell (p := ⟨b, off + i % ln, none⟩) hbn).trans hc
      have hbl : b < wr.heap.size := Nat.lt_of_lt_of_le hbn HB.out.size
      have HX := Lib.hid (show ∀ W, Calls Tryz.prog 41 #[lawV n, .int .i64 (i : Int)] W fun e w' => e = .returned (.int .i64 (linkN (lawM n) (i : Int) : Nat)) ∧ Below W.heap.size W w' from fun W => link_any (lawM n) (i : Int) W HM0.out (by omega))
      have HSt := Lib.hid fun W (hW : Below wr.heap.size wr W) => anyp_link (HQ.out.below hW) ⟨by omega, by omega⟩ (i : Int) ⟨by omega, by show (i : Int) < ((lawM n).n : Int); exact h1⟩ x hx
      have SK := Lib.hid (show ∀ A, Below wr.heap.size wr A → (A.cell? ⟨bm, 0, none⟩ = some (.int .i64 3) ∧ A.cell? ⟨bm, 1, none⟩ = some (.int .i64 2) ∧ A.cell? ⟨bm, 2, none⟩ = some (.int .i64 (n : Int))) ∧ A.cell? ⟨b, off + i % ln, none⟩ = some (.int .u64 x) from fun A hA => ⟨lawC (HM.out.below hA HM.out.lt), (hA.cell (p := ⟨b, off + i % ln, none⟩) hbl).trans hxr⟩)
      have bd := bdrewP wr
      have hlt := hgo.1
      have HXR := Lib.hid hxr
      have HNb := Lib.hid (show ¬ ofCells C S b from fun h => by have := HCS.out b h; omega)
      clear hc hxr hgo hbn hx
      generalize i % ln = r at *
      go_upto_region 11 with fail
      go_region_held3 (fun A : World => (A.cell? ⟨bm, 0, none⟩ = some (.int .i64 3) ∧ A.cell? ⟨bm, 1, none⟩ = some (.int .i64 2) ∧ A.cell? ⟨bm, 2, none⟩ = some (.int .i64 (n : Int))) ∧ A.cell? ⟨b, off + r, none⟩ = some (.int .u64 x)) (first | exact SK.out _ b5 | exact SK.out _ bd | exact h6) (first
        | (go_at_call 41; (with_reducible refine (HX.out _).mono ?_); rintro e w5 ⟨rfl, hb5⟩; have b5 : Below wr.heap.size wr w5 := bd.trans hb5; have HSt2 := Lib.hid (HSt.out w5 b5))
        | (go_at_call 40; (with_reducible refine HSt2.out.mono ?_); rintro e w6 ⟨rfl, hq6, k6⟩; have HM6 := Lib.hid ((HM.out.below b5 HM.out.lt).keep k6 (nofP HMC.out)); have h6 : (w6.cell? ⟨bm, 0, none⟩ = some (.int .i64 3) ∧ w6.cell? ⟨bm, 1, none⟩ = some (.int .i64 2) ∧ w6.cell? ⟨bm, 2, none⟩ = some (.int .i64 (n : Int))) ∧ w6.cell? ⟨b, off + r, none⟩ = some (.int .u64 x) := ⟨lawC HM6.out, cell_keep6 ((b5.cell (p := ⟨b, off + r, none⟩) hbl).trans HXR.out) k6 HNb.out⟩))
      have HBn := Lib.hid ((HB.out.trans (b5.mono HB.out.size)).trans (k6.below (by have := HB.out.size; have := b5.size; omega) (fun i _ hi => HCS.out i hi)))
      have HQn := Lib.hid hq6
      clear h6 hq6 k6 b5 hb5 bd hix hmod hnz
      go_wp2
      go_roundw
      case rel => exact ⟨i + 1, _, k + 1, hlt, by go_num, HQn.out, by omega, by omega, HM6.out, HBn.out⟩
      case measure => simp [intOf]; omega
    · have hor : ¬ ((i : Int) < (n : Int)) ∨ ((i : Int) < (n : Int) ∧ ¬ (0 : Int) < (ln : Int)) := by omega
      obtain ⟨l, hl⟩ := came_some (m := lawM n) (by rw [HQ.out.size]; exact Nat.le_refl _) HQ.out.rng
      have HCm := Lib.hid hl
      have hln20 : l.length ≤ n := nodup_len0 hl.nodup hl.low
      have HSp := Lib.hid fun W (hW : Below wr.heap.size wr W) => steps_any C S mm k W (HQ.out.below hW).cells
      have HSp0 := Lib.hid (HSp.out wr (Below.refl _ _))
      have HFr := Lib.hid (lawp_free HM0.out HQ.out hl)
      obtain ⟨d0, d1, d2⟩ := lawC HM.out
      clear hl HL hln hlc hi
      rcases hor with h1 | ⟨h1, h2⟩
      all_goals
        go_upto_region 15 with (first
          | (go_at_call 14; (with_reducible refine HSp0.out.mono ?_); rintro e w5 ⟨rfl, rfl⟩)
          | (go_at_call 38; (with_reducible refine HFr.out.mono ?_); rintro e w6 ⟨ra, rc, rfl, hrow, b6⟩))
        have HR := Lib.hid hrow
        have HQ6 := Lib.hid (HQ.out.below b6)
        have HM6 := Lib.hid (HM.out.below b6 HM.out.lt)
        have HB6 := Lib.hid (HB.out.trans (b6.mono HB.out.size))
        have HSp6 := Lib.hid fun W (hW : Below w6.heap.size w6 W) => HSp.out W (b6.trans (hW.mono b6.size))
        have HH1 := Lib.hid (show hd = curV (lawM n) mm (l.take 0) by rw [List.take_zero, curV_nil]; exact (rdL_eq HQ.out.head).symm)
        clear d0 d1 d2 hrow b6 h1 HSp HSp0 HFr HQ HM HB
        (try clear h2)
        go_wp2_with fail
        go_loopw [13, 14] (fun v13 v14 wr => ∃ (I : Nat) (c : Int), I ≤ l.length ∧ v14 = .int .i64 (I : Int) ∧ v13 = .int .u64 c ∧ c = curV (lawM n) mm (l.take I) ∧ Below w6.heap.size w6 wr)
          (fun _ v14 _ => l.length - (intOf v14).toNat)
        case atStart => exact ⟨0, hd, by omega, rfl, rfl, HH1.out, Below.refl _ _⟩
        case round =>
          clear HH1
          obtain ⟨I, c, hI, rfl, rfl, hc, hb⟩ := hrel
          have HbI := Lib.hid hb
          by_cases hlt : I < l.length
          · obtain ⟨x, hx⟩ : ∃ x, l[I]? = some x := ⟨_, List.getElem?_eq_getElem hlt⟩
            rw [HCm.out.val hx] at hc
            subst hc
            obtain ⟨_, _, e1, _, hrr⟩ := id HR.out
            obtain ⟨e1, _⟩ := Value.slice.inj e1
            subst e1
            obtain ⟨rb, ro, rfl, _, hrl, hcx⟩ := hrr I x hx
            have hxr := HCm.out.low x (List.mem_of_getElem? hx)
            have c0 : wr.cell? ⟨rb, ro + I, none⟩ = some (.int .i64 x) := (hb.cell (p := ⟨rb, ro + I, none⟩) hrl).trans hcx
            have hIx := pidx_ints l.length rc rb ro I hlt
            have hx0 : ¬ x < 0 := by omega
            have hxn : ¬ (n : Int) ≤ x := by have := hxr.2; show ¬ (n : Int) ≤ x; have e : ((lawM n).n : Int) = (n : Int) := rfl; omega
            have hxw : IntKind.u64.wrap x = x := wrap_u64_up (by have e : ((lawM n).n : Int) = (n : Int) := rfl; omega)
            have hxw1 : IntKind.u64.wrap (x + 1) = x + 1 := wrap_u64_up (by have e : ((lawM n).n : Int) = (n : Int) := rfl; omega)
            have hIl : (I : Int) < (l.length : Int) := by omega
            have HX := Lib.hid hx
            have HXR := Lib.hid hxr
            have HRL := Lib.hid hrl
            have HC0 := Lib.hid c0
            have HROW := Lib.hid hrr
            clear hx hxr hcx hrr hb
            go_upto_region 20 with fail
            clear c0
            generalize wr = wt at *
            go_wp2_with fail
            go_loopw [15] (fun v15 wr => ∃ K : Nat, K ≤ I ∧ v15 = .int .i64 (K : Int) ∧ Below wt.heap.size wt wr)
              (fun v15 _ => I - (intOf v15).toNat)
            case atStart => exact ⟨0, by omega, rfl, Below.refl _ _⟩
            case round =>
              obtain ⟨K, hK, rfl, hbK⟩ := hrel
              have HbK := Lib.hid (HbI.out.trans (hbK.mono HbI.out.size))
              have c0 : wr.cell? ⟨rb, ro + I, none⟩ = some (.int .i64 x) := (hbK.cell (p := ⟨rb, ro + I, none⟩) (Nat.lt_of_lt_of_le HRL.out HbI.out.size)).trans HC0.out
              by_cases hKlt : K < I
              · obtain ⟨y, hy⟩ : ∃ y, l[K]? = some y := ⟨_, List.getElem?_eq_getElem (by omega)⟩
                obtain ⟨rb2, ro2, e2, _, hrl2, hcy⟩ := HROW.out K y hy
                obtain ⟨rfl, rfl⟩ : rb = rb2 ∧ ro = ro2 := by simpa using e2
                have d0 : wr.cell? ⟨rb, ro + K, none⟩ = some (.int .i64 y) := (HbK.out.cell (p := ⟨rb, ro + K, none⟩) hrl2).trans hcy
                have hKx := pidx_ints l.length rc rb ro K (by omega)
                have hne : (y == x) = false := by
                  rw [beq_eq_false_iff_ne]
                  rintro rfl
                  have a1 := idx_nodup l K y HCm.out.nodup hy
                  have a2 := idx_nodup l I y HCm.out.nodup HX.out
                  omega
                have hKI : (K : Int) < (I : Int) := by omega
                clear hy hcy e2
                go_upto_region 23 with fail
                go_quiet (fail)
                go_wp2
                go_roundw
                case rel => exact ⟨K + 1, by omega, by go_num, bdrewN hbK nq⟩
                case measure => simp [intOf]; omega
              · obtain rfl : K = I := by omega
                have hKI : ¬ (K : Int) < (K : Int) := by omega
                have hlk : linkN (lawM n) x < mm.length := by rw [HQ6.out.size]; exact linkN_lt HXR.out
                have bd := bdrewP wr
                have HbD := Lib.hid (HbK.out.trans (bd.mono HbK.out.size))
                have HAl := Lib.hid (anyp_all (HQ6.out.below HbD.out))
                have HLk := Lib.hid (show ∀ W, Calls Tryz.prog 41 #[lawV n, .int .i64 x] W fun e w' => e = .returned (.int .i64 (linkN (lawM n) x : Nat)) ∧ Below W.heap.size W w' from fun W => link_any (lawM n) x W HM0.out (by have := HXR.out; have e : ((lawM n).n : Int) = (n : Int) := rfl; omega))
                have SK := Lib.hid (show ∀ A, Below wr.heap.size wr A → (A.cell? ⟨bm, 0, none⟩ = some (.int .i64 3) ∧ A.cell? ⟨bm, 1, none⟩ = some (.int .i64 2) ∧ A.cell? ⟨bm, 2, none⟩ = some (.int .i64 (n : Int))) ∧ A.cell? ⟨rb, ro + K, none⟩ = some (.int .i64 x) from fun A hA => ⟨lawC (HM6.out.below (HbK.out.trans (hA.mono HbK.out.size)) HM6.out.lt), (hA.cell (p := ⟨rb, ro + K, none⟩) (Nat.lt_of_lt_of_le HRL.out HbK.out.size)).trans c0⟩)
                clear c0
                go_upto_region 25 with fail
                refine wp_region_held_drew (S := (fun A : World => (A.cell? ⟨bm, 0, none⟩ = some (.int .i64 3) ∧ A.cell? ⟨bm, 1, none⟩ = some (.int .i64 2) ∧ A.cell? ⟨bm, 2, none⟩ = some (.int .i64 (n : Int))) ∧ A.cell? ⟨rb, ro + K, none⟩ = some (.int .i64 x))) (by kernel_rfl) (SK.out _ bd) (fun hHeld => ?_)
                refine wpAnyH_take (i := 0) (oi := _) (v := ?_) rfl (by kernel_rfl) (by kernel_rfl) (by kernel_rfl) (fun _ _ _ h => h) (Or.inl ⟨by rfl, ?_⟩) (by assumption) ?_
                rotate_left
                · intro w hSw; (try dsimp only at hSw); go_simp; try with_reducible rfl
                (try simp only [Act.put, List.setIfInBounds_toArray, List.set_cons_zero, List.set_cons_succ])
                refine wpAnyH_take (i := 2) (oi := _) (v := ?_) rfl (by kernel_rfl) (by kernel_rfl) (by kernel_rfl) (fun _ _ _ h => h) (Or.inl ⟨by rfl, ?_⟩) (by assumption) ?_
                rotate_left
                · intro w hSw; (try dsimp only at hSw); go_simp; try with_reducible rfl
                (try simp only [Act.put, List.setIfInBounds_toArray, List.set_cons_zero, List.set_cons_succ])
                refine wpAnyH_take (i := 3) (oi := _) (v := ?_) rfl (by kernel_rfl) (by kernel_rfl) (by kernel_rfl) (fun _ _ _ h => h) (Or.inl ⟨by rfl, ?_⟩) (by assumption) ?_
                rotate_left
                · intro w hSw; (try dsimp only at hSw); go_simp; try with_reducible rfl
                (try simp only [Act.put, List.setIfInBounds_toArray, List.set_cons_zero, List.set_cons_succ])
                refine wpAnyH_take (i := 4) (oi := _) (v := ?_) rfl (by kernel_rfl) (by kernel_rfl) (by kernel_rfl) (fun _ _ _ h => h) (Or.inl ⟨by rfl, ?_⟩) (by assumption) ?_
                rotate_left
                · intro w hSw; (try dsimp only at hSw); go_simp; try with_reducible rfl
                (try simp only [Act.put, List.setIfInBounds_toArray, List.set_cons_zero, List.set_cons_succ])
                refine wpAnyH_take (i := 5) (oi := _) (v := ?_) rfl (by kernel_rfl) (by kernel_rfl) (by kernel_rfl) (fun _ _ _ h => h) (Or.inl ⟨by rfl, ?_⟩) (by assumption) ?_
                rotate_left
                · intro w hSw; (try dsimp only at hSw); go_simp; try with_reducible rfl
                (try simp only [Act.put, List.setIfInBounds_toArray, List.set_cons_zero, List.set_cons_succ])
                refine wpAnyH_take (i := 6) (oi := _) (v := ?_) rfl (by kernel_rfl) (by kernel_rfl) (by kernel_rfl) (fun _ _ _ h => h) (Or.inl ⟨by rfl, ?_⟩) (by assumption) ?_
                rotate_left
                · intro w hSw; (try dsimp only at hSw); go_simp; try with_reducible rfl
                (try simp only [Act.put, List.setIfInBounds_toArray, List.set_cons_zero, List.set_cons_succ])
                refine wpAnyH_ready (rs := [1]) (by kernel_rfl) (by simp) ?_
                refine AllReadyH.cons rfl (fun K hK => ?_) AllReadyH.nil
                go_simp
                go_at_call 13
                with_reducible refine HAl.out.mono ?_
                rintro e w8 ⟨g, cap, rfl, hr8, hg1, hg2, hb8⟩
                have b8 : Below wr.heap.size wr w8 := bd.trans hb8
                have g0 := hr8 _ _ (rdL_some hlk)
                have hix : ∀ W, (Instr.indexAt 38 (.slice (some ⟨g, 0, none⟩) mm.length cap) (.int .i64 (linkN (lawM n) x : Nat))).run Tryz.prog W = .ok (.pointer (some ⟨g, linkN (lawM n) x, none⟩)) W := idx_u64 mm.length cap g _ hlk
                go_wp2_with fail
                refine hK.out _ _ (SK.out _ b8) (fun hHeld => ?_)
                clear hK K
                (try dsimp only [Act.put]); (try simp only [Act.put, List.setIfInBounds_toArray, List.set_cons_zero, List.set_cons_succ])
                refine wpAnyH_moreP (S' := (fun A : World => ((A.cell? ⟨bm, 0, none⟩ = some (.int .i64 3) ∧ A.cell? ⟨bm, 1, none⟩ = some (.int .i64 2) ∧ A.cell? ⟨bm, 2, none⟩ = some (.int .i64 (n : Int))) ∧ A.cell? ⟨rb, ro + K, none⟩ = some (.int .i64 x)) ∧ A.cell? ⟨g, linkN (lawM n) x, none⟩ = some (.int .u64 (rdL mm (linkN (lawM n) x))))) (fun _ h => h.1) _ _ _ _ ?_
                replace hHeld : (fun A : World => ((A.cell? ⟨bm, 0, none⟩ = some (.int .i64 3) ∧ A.cell? ⟨bm, 1, none⟩ = some (.int .i64 2) ∧ A.cell? ⟨bm, 2, none⟩ = some (.int .i64 (n : Int))) ∧ A.cell? ⟨rb, ro + K, none⟩ = some (.int .i64 x)) ∧ A.cell? ⟨g, linkN (lawM n) x, none⟩ = some (.int .u64 (rdL mm (linkN (lawM n) x)))) w8 := ⟨SK.out _ b8, g0⟩
                refine wpAnyH_ready (rs := [7]) (by kernel_rfl) (by simp) ?_
                refine AllReadyH.cons rfl (fun K hK => ?_) AllReadyH.nil
                go_simp
                go_at_call 41
                with_reducible refine (HLk.out _).mono ?_
                rintro e w9 ⟨rfl, b9⟩
                have g9 : w9.cell? ⟨g, linkN (lawM n) x, none⟩ = some (.int .u64 (rdL mm (linkN (lawM n) x))) := (b9.cell (p := ⟨g, linkN (lawM n) x, none⟩) hg2).trans g0
                go_wp2_with fail
                refine hK.out _ _ (⟨SK.out _ (b8.trans (b9.mono b8.size)), g9⟩) (fun hHeld => ?_)
                clear hK K
                (try dsimp only [Act.put]); (try simp only [Act.put, List.setIfInBounds_toArray, List.set_cons_zero, List.set_cons_succ])
                refine wpAnyH_take (i := 8) (oi := _) (v := ?_) rfl (by kernel_rfl) (by kernel_rfl) (by kernel_rfl) (fun _ _ _ h => h) (Or.inl ⟨by rfl, ?_⟩) (by assumption) ?_
                rotate_left
                · intro w hSw; (try dsimp only at hSw); go_simp; try with_reducible rfl
                (try simp only [Act.put, List.setIfInBounds_toArray, List.set_cons_zero, List.set_cons_succ])
                refine wpAnyH_take (i := 9) (oi := { dst := some 115, op := Op.load 47 (Operand.tmp 114), type := 47, pos := "outright.go:132", after := #[{ on := 8, ground := Ground.data }], guard := none }) (v := ?_) rfl (by kernel_rfl) (by kernel_rfl) (by kernel_rfl) (fun _ _ _ h => h) (Or.inl ⟨by rfl, ?_⟩) (by assumption) ?_
                rotate_left
                · intro w hSw; (try dsimp only at hSw); go_simp; try with_reducible rfl
                (try simp only [Act.put, List.setIfInBounds_toArray, List.set_cons_zero, List.set_cons_succ])
                refine wpAnyH_ready (rs := [10]) (by kernel_rfl) (by simp) ?_
                refine AllReadyH.cons rfl (fun K hK => ?_) AllReadyH.nil
                go_simp
                go_wp2_with fail
                refine hK.out _ _ (by assumption) (fun hHeld => ?_)
                clear hK K
                (try dsimp only [Act.put]); (try simp only [Act.put, List.setIfInBounds_toArray, List.set_cons_zero, List.set_cons_succ])
                refine wpAnyH_done (by kernel_rfl) ?_ _
                have hcv : rdL mm (linkN (lawM n) x) = curV (lawM n) mm (l.take (K + 1)) := by rw [take_snoc_w HX.out, curV_snoc]
                have HCV := Lib.hid hcv
                have HbE := Lib.hid (HbK.out.trans ((b8.mono HbK.out.size).trans (b9.mono (by have := HbK.out.size; have := b8.size; omega))))
                clear hcv hix g0 g9 hr8 b8 b9
                go_wp2
                go_roundw
                case rel => exact ⟨K + 1, _, by omega, by go_num, rfl, HCV.out, HbE.out⟩
                case measure => simp [intOf]; omega
          · obtain rfl : I = l.length := by omega
            rw [List.take_length] at hc
            have hIl : ¬ (l.length : Int) < (l.length : Int) := by omega
            have hnw : IntKind.u64.wrap (n : Int) = (n : Int) := wrap_u64_up (by omega)
            have HSE := Lib.hid (HSp6.out wr hb)
            have HBE := Lib.hid (HB6.out.trans (hb.mono HB6.out.size))
            have hlnI : (l.length : Int) ≤ (n : Int) := by omega
            have hcr := curV_rng (m := lawM n) HQ6.out.rng l
            rw [← hc] at hcr
            by_cases hin : 1 ≤ c ∧ c ≤ (n : Int)
            · obtain ⟨J0, x0, hJ0, ex0⟩ := HCm.out.end' (by rw [← hc]; exact hin)
              rw [← hc] at ex0
              have hin1 := hin.1
              have hin2 := hin.2
              have HJ := Lib.hid (And.intro hJ0 ex0)
              obtain ⟨_, _, e1, _, hrr⟩ := id HR.out
              obtain ⟨e1, _⟩ := Value.slice.inj e1
              subst e1
              have HROW := Lib.hid hrr
              clear hc hcr hin hJ0 ex0 hrr hI hlt
              have Hb := Lib.hid hb
              clear hb
              generalize wr = wt at *
              go_wp2_with fail
              go_loopw [16, 17] (fun v16 v17 wq => ∃ (J : Nat) (b : Bool), J ≤ l.length ∧ v17 = .int .i64 (J : Int) ∧ v16 = .bool b ∧ b = (l.take J).any (fun y => y + 1 == c) ∧ wq = wt)
                (fun _ v17 _ => l.length - (intOf v17).toNat)
              case atStart => exact ⟨0, false, by omega, rfl, rfl, by simp, rfl⟩
              case round =>
                obtain ⟨J, b, hJ, rfl, rfl, hbv, rfl⟩ := hrel
                by_cases hJl : J < l.length
                · obtain ⟨y, hy⟩ : ∃ y, l[J]? = some y := ⟨_, List.getElem?_eq_getElem hJl⟩
                  obtain ⟨rb, ro, rfl, _, hrl, hcy⟩ := HROW.out J y hy
                  have hyr := HCm.out.low y (List.mem_of_getElem? hy)
                  have e : ((lawM n).n : Int) = (n : Int) := rfl
                  have hyw : IntKind.u64.wrap y = y := wrap_u64_up (by omega)
                  have hyw1 : IntKind.u64.wrap (y + 1) = y + 1 := wrap_u64_up (by omega)
                  have c0 : wr.cell? ⟨rb, ro + J, none⟩ = some (.int .i64 y) := (Hb.out.cell (p := ⟨rb, ro + J, none⟩) hrl).trans hcy
                  have hJx := pidx_ints l.length rc rb ro J hJl
                  have hJI : (J : Int) < (l.length : Int) := by omega
                  have HN := Lib.hid (show (l.take (J + 1)).any (fun y => y + 1 == c) = (b || (y + 1 == c)) by rw [take_snoc_w hy, List.any_append, ← hbv]; simp)
                  clear hy hcy hyr e hbv
                  cases b with
                  | true =>
                    go_wp2
                    go_roundw
                    case rel => exact ⟨J + 1, true, by omega, by go_num, rfl, by rw [HN.out]; rfl, by first | trivial | rfl⟩
                    case measure => simp [intOf]; omega
                  | false =>
                    go_wp2
                    go_roundw
                    case rel => exact ⟨J + 1, (y + 1 == c), by omega, by go_num, rfl, by rw [HN.out]; rfl, by first | trivial | rfl⟩
                    case measure => simp [intOf]; omega
                · obtain rfl : J = l.length := by omega
                  rw [List.take_length] at hbv
                  have hbt : b = true := by
                    rw [hbv, List.any_eq_true]
                    exact ⟨x0, List.mem_of_getElem? HJ.out.1, by rw [HJ.out.2]; simp⟩
                  subst hbt
                  clear hbv
                  go_wp2_with (go_at_call 14; (with_reducible refine HSE.out.mono ?_); rintro e w9 ⟨rfl, rfl⟩)
                  go_ret
                  exact ⟨by first | trivial | rfl, HBE.out⟩
            · have hor2 : ¬ 1 ≤ c ∨ (1 ≤ c ∧ ¬ c ≤ (n : Int)) := by omega
              clear hin hc hb hI hlt
              rcases hor2 with hA | ⟨hA, hB2⟩
              all_goals
                go_wp2_with (go_at_call 14; (with_reducible refine HSE.out.mono ?_); rintro e w9 ⟨rfl, rfl⟩)
                go_ret
                exact ⟨by first | trivial | rfl, HBE.out⟩
end Go.Proofs.YtpejmkoheodblaaGreat
