/- CellsKeep returns true: each cell has what was last given to it; operations of others change nothing in it. No condition. -/
import Derived.Test.YtbnigmemkblflaaCellsDo
import Derived.Test.YtbnigmemkblflaaCellsOpen
namespace Go.Proofs.Ytbnigmemkblflaa
open Go.ChangeShapes Go.WideShapes Go.ChangeAt Go.RowKit
set_option linter.unusedVariables false
set_option linter.unusedSimpArgs false
/-- a row of words, at its block's head -/
structure RowAt (w : World) (g : Nat) (xs : List Int) : Prop where
  lt : g < w.heap.size
  cell : ∀ i, i < xs.length → w.cell? ⟨g, i, none⟩ = some (.int .u64 (xs.getD i 0))
theorem RowAt.below {w w1 : World} {g : Nat} {xs : List Int} (h : RowAt w g xs) (hb : Below w.heap.size w w1) : RowAt w1 g xs :=
  ⟨Nat.lt_of_lt_of_le h.lt hb.size, fun i hi => (hb.cell (p := ⟨g, i, none⟩) h.lt).trans (h.cell i hi)⟩
theorem RowAt.keep {w w1 : World} {g : Nat} {xs : List Int} {Q : Nat → Prop} (h : RowAt w g xs) (hk : Keep Q w w1) (hn : ¬ Q g) : RowAt w1 g xs :=
  ⟨Nat.lt_of_lt_of_le h.lt hk.size, fun i hi => (World.cell?_of_block (w := w) (a := ⟨g, i, none⟩) (hk.block g h.lt hn)).trans (h.cell i hi)⟩
theorem row_owns {w : World} {base : Nat} {v : Value} {xs : List Int} (h0 : 0 < xs.length) (h : w.ownsRow base 31 1 v xs.length (xs.map (.int .u64))) :
    ∃ g c, v = .slice (some ⟨g, 0, none⟩) xs.length c ∧ base ≤ g ∧ RowAt w g xs := by
  have hw := WordsAt.owns h
  obtain ⟨_, ⟨rfl, h1⟩ | ⟨g, cap, cur, rfl, h2, h3, h4, h5, h6, h7⟩⟩ := h
  · omega
  · refine ⟨g, cap, rfl, h2, (Array.getElem?_eq_some_iff.1 h3).1, fun i hi => ?_⟩
    obtain ⟨a, c, e, hc⟩ := hw
    obtain ⟨b, off, e1, e2, e3⟩ := hc i hi
    cases e
    cases e1
    simpa using e3
/-- between the looks: what was there, what is there, the act, the cells -/
structure Look (w wr : World) (C S X g1 g2 : Nat) (m m2 : List Int) (W I V N k : Int) : Prop where
  act : Blk wr X 35 #[.int .u8 W, .int .i8 I, .int .u64 V, .int .u64 N]
  was : RowAt wr g1 m
  now : RowAt wr g2 m2
  cells : CellsAt wr C S m2 k
  base : Below w.heap.size w wr
theorem Look.drewN {w wr : World} {C S X g1 g2 : Nat} {m m2 : List Int} {W I V N k : Int} (h : Look w wr C S X g1 g2 m m2 W I V N k) (n : Nat) : Look w (wr.drewN n) C S X g1 g2 m m2 W I V N k :=
  ⟨h.act.drewN n, h.was.keep (Q := fun _ => False) ((Keep.refl _ _).drewN n) (fun h => h), h.now.keep (Q := fun _ => False) ((Keep.refl _ _).drewN n) (fun h => h), h.cells.keep (Q := fun _ => False) ((Keep.refl _ _).drewN n) (fun h => h) (fun h => h), bdrewN h.base n⟩
theorem actP_other {l : List Int} {W I V N : Int} (j : Nat) (hj : (j : Int) ≠ I) : (actP l W I V N).2.1.getD j 0 = l.getD j 0 := by
  unfold actP
  split
  · rfl
  · split
    · rfl
    · have hne : I.toNat ≠ j := by omega
      repeat' split
      all_goals simp [List.getD_eq_getElem?_getD, List.getElem?_set_ne hne]
/-- what an act answers, and what its cell has then, by its kind -/
theorem kept_at {l m2 : List Int} {W V N r d x : Int} {i : Nat} (h : actP l W i V N = (r, m2, d)) (hx : l[i]? = some x) :
    (r = if W % 4 = 0 then x else if W % 4 = 1 then 1 else if W % 4 = 2 then (if x = V then 1 else 0) else IntKind.u64.wrap (x + V)) ∧
    (m2.getD i 0 = if W % 4 = 0 then x else if W % 4 = 1 then V else if W % 4 = 2 then (if x = V then N else x) else IntKind.u64.wrap (x + V)) := by
  have hlt : i < l.length := by rw [List.getElem?_eq_some_iff] at hx; exact hx.1
  unfold actP at h
  rw [if_neg (by omega), Int.toNat_natCast, hx] at h
  dsimp only at h
  have hg : l.getD i 0 = x := by rw [List.getD_eq_getElem?_getD, hx]; rfl
  have hs : ∀ v : Int, (l.set i v).getD i 0 = v := fun v => by rw [List.getD_eq_getElem?_getD, List.getElem?_set_self hlt]; rfl
  by_cases h0 : W % 4 = 0
  · rw [if_pos h0] at h; cases h; simp only [if_pos h0]; exact ⟨trivial, hg⟩
  · by_cases h1 : W % 4 = 1
    · rw [if_neg h0, if_pos h1] at h; cases h; simp only [if_neg h0, if_pos h1]; exact ⟨trivial, hs _⟩
    · by_cases h2 : W % 4 = 2
      · rw [if_neg h0, if_neg h1, if_pos h2] at h
        by_cases hv : x = V
        · rw [if_pos hv] at h; cases h; simp only [if_neg h0, if_neg h1, if_pos h2, if_pos hv]; exact ⟨trivial, hs _⟩
        · rw [if_neg hv] at h; cases h; simp only [if_neg h0, if_neg h1, if_pos h2, if_neg hv]; exact ⟨trivial, hg⟩
      · rw [if_neg h0, if_neg h1, if_neg h2] at h; cases h; simp only [if_neg h0, if_neg h1, if_neg h2]; exact ⟨trivial, hs _⟩
def All20 (w : World) (xs : List Int) (e : Ending) (w' : World) : Prop := ∃ g c, e = .returned (.slice (some ⟨g, 0, none⟩) 20 c) ∧ Below w.heap.size w w' ∧ w.heap.size ≤ g ∧ RowAt w' g xs
theorem all20 (C S : Nat) (xs : List Int) (k0 : Int) (w : World) (hC : CellsAt w C S xs k0) (h : xs.length = 20) : Calls Try.prog 13 #[cellsV C] w (All20 w xs) :=
  (all_any C S xs k0 w hC).mono fun e w' ⟨u, he, hb, hrow⟩ => by
    obtain ⟨g, c, hu, hg, hr⟩ := row_owns (by omega) hrow
    rw [h] at hu
    exact ⟨g, c, by rw [he, hu], hb, hg, hr⟩
theorem actP_steps (l : List Int) (W I V N : Int) : 0 ≤ (actP l W I V N).2.2 ∧ (actP l W I V N).2.2 ≤ 1 := by
  unfold actP
  split
  · simp
  · split
    · simp
    · repeat' (split <;> try simp)
set_option maxRecDepth 100000 in
set_option maxHeartbeats 4000000 in
theorem keep_any (a : Option Addr) (len cap : Nat) (hlen : len ≤ 9223372036854775807) (w : World) (hA : ActsAt w w.heap.size a len) :
    Calls Try.prog 4 #[.slice a len cap] w fun e w' => e = .returned (.bool true) ∧ Below w.heap.size w w' := by
  have HA := Lib.hid hA
  clear hA
  go_enter Try.func4, Try.ntmps4
  go_upto_region 4 with (first
    | (go_at_call 8; refine (works_any _).mono ?_; rintro e w1 ⟨rfl, hb⟩)
    | (go_at_call 6; refine (new_some 20 _ (by omega)).mono ?_; rintro e w2 ⟨rfl, hC, hb2⟩))
  have bM := hb.trans (hb2.mono hb.size)
  obtain ⟨l, hl⟩ : ∃ l, List.replicate 20 (0 : Int) = l := ⟨_, rfl⟩
  have hll : l.length = 20 := by rw [← hl, List.length_replicate]
  rw [hl] at hC
  have n1 : w.heap.size ≤ w1.heap.size := hb.size
  clear hl hb hb2
  generalize hc : w1.heap.size + 1 = C at *
  have hcs := Lib.hid (show w.heap.size ≤ C ∧ w.heap.size ≤ w1.heap.size from ⟨by omega, n1⟩)
  clear hc n1
  generalize w1.heap.size = S at *
  go_wp2_with fail
  go_loopw [4] (fun i wr => ∃ (k : Nat) (m : List Int) (s : Int), i = .int .i64 k ∧ k ≤ len ∧ k ≤ 80 ∧ CellsAt wr C S m s ∧ m.length = 20 ∧ 0 ≤ s ∧ s ≤ k ∧ Below w.heap.size w wr)
    (fun i wr => 80 - (intOf i).toNat)
  case atStart => exact ⟨0, l, 0, rfl, by omega, by omega, hC, hll, by omega, by omega, bM⟩
  case round =>
    obtain ⟨k, m, s, rfl, hk1, hk2, cM, hml, hs0, hs1, bM⟩ := hrel
    by_cases hlt : k < len
    · by_cases hlt2 : k < 80
      · obtain ⟨b, off, rfl, hb0, W, I, V, N, hW, hI, hV, hN, q0, q1, q2, q3⟩ := HA.out k hlt
        have p0 := (bM.cell (p := ⟨b, off + k * 4, none⟩) hb0).trans q0
        have p1 := (bM.cell (p := ⟨b, off + k * 4 + 1, none⟩) hb0).trans q1
        have p2 := (bM.cell (p := ⟨b, off + k * 4 + 2, none⟩) hb0).trans q2
        have p3 := (bM.cell (p := ⟨b, off + k * 4 + 3, none⟩) hb0).trans q3
        clear q0 q1 q2 q3
        have i1 : 0 ≤ (k : Int) ∧ (k : Int) < len := by omega
        go_upto_region 8 with fail
        have hCx := cM.own.lt
        have hSx := cM.row.lt
        generalize hW1 : wr.alloc _ = W1
        generalize hX : wr.heap.size = X at *
        have xM : Blk W1 X 35 #[.int .u8 W, .int .i8 I, .int .u64 V, .int .u64 N] := by rw [← hW1, ← hX]; exact Blk.new wr _ _
        have bA : Below wr.heap.size wr W1 := by rw [← hW1]; exact (Below.refl _ _).alloc (Nat.le_refl _) _
        replace cM := cM.keep (Keep.ofBelow (Q := fun _ => False) bA) (fun h => h) (fun h => h)
        have hCl := cM.own.lt
        have hSl := cM.row.lt
        replace bM := bM.trans (bA.mono bM.size)
        clear hX hW1 bA p0 p1 p2 p3
        have x1 := xM.cell 1 _ rfl
        have HL := Lib.hid hml
        go_upto_region 10 with (go_at_call 13; refine (all20 C S m s _ cM HL.out).mono ?_; rintro e W2 ⟨g1, c1, rfl, hb, hg1, r1⟩)
        replace xM := xM.below hb xM.lt
        replace cM := cM.keep (Keep.ofBelow (Q := fun _ => False) hb) (fun h => h) (fun h => h)
        replace bM := bM.trans (hb.mono bM.size)
        have hCl1 := cM.own.lt
        clear hb x1
        obtain ⟨r, m2, d, ha⟩ : ∃ r m2 d, actP m W I V N = (r, m2, d) := ⟨_, _, _, rfl⟩
        have HA2 := Lib.hid ha
        have hd : Hid (0 ≤ d ∧ d ≤ 1) := Lib.hid (by have := actP_steps m W I V N; rw [ha] at this; exact this)
        have hm2 : Hid (m2.length = 20) := Lib.hid (by have := actP_length m W I V N; rw [ha] at this; dsimp only at this; omega)
        have HD := Lib.hid (do_any C S m s W I V N _ cM hW.1 hW.2 hI.1 hI.2 hs0 (by omega))
        rw [ha] at HD
        clear ha
        have x0 := xM.cell 0 _ rfl
        have x1 := xM.cell 1 _ rfl
        have x2 := xM.cell 2 _ rfl
        have x3 := xM.cell 3 _ rfl
        have HS := Lib.hid hs1
        clear hs1 hml
        go_upto_region 11 with (go_at_call 9; refine HD.out.mono ?_; rintro e W3 ⟨rfl, cN, kM⟩)
        clear HD x0 x1 x2 x3
        replace r1 := r1.keep kM (fun h => by rcases h with h | h <;> omega)
        replace xM := xM.keep kM (fun h => by rcases h with h | h <;> omega)
        replace bM := bM.trans (kM.below bM.size (fun i _ h => by have := hcs.out; rcases h with h | h <;> omega))
        clear cM kM
        go_upto_region 12 with (go_at_call 13; refine (all20 C S m2 _ _ cN hm2.out).mono ?_; rintro e W4 ⟨g2, c2, rfl, hb, hg2, r2⟩)
        replace r1 := r1.below hb
        replace xM := xM.below hb xM.lt
        have cM := cN.keep (Keep.ofBelow (Q := fun _ => False) hb) (fun h => h) (fun h => h)
        replace bM := bM.trans (hb.mono bM.size)
        clear hb cN hg1 hg2 hCl hCl1 hCx hSx hSl
        have HO : Hid (∀ j : Nat, (j : Int) ≠ I → m2.getD j 0 = m.getD j 0) := Lib.hid (fun j hj => by have := actP_other (l := m) (W := W) (V := V) (N := N) j hj; rw [HA2.out] at this; exact this)
        have LK : Look w W4 C S X g1 g2 m m2 W I V N (s + d) := ⟨xM, r1, r2, cM, bM⟩
        clear xM r1 r2 cM bM
        go_wp2_with fail
        go_loopw [10] (fun i wr => ∃ j : Nat, j ≤ 20 ∧ i = .int .i64 j ∧ Look w wr C S X g1 g2 m m2 W I V N (s + d)) (fun i wr => 20 - (intOf i).toNat)
        case atStart => exact ⟨0, by omega, rfl, LK⟩
        case round =>
          clear LK
          obtain ⟨j, hj, rfl, LK⟩ := hrel
          by_cases hj2 : j < 20
          · have ij : 0 ≤ (j : Int) ∧ (j : Int) < 20 := by omega
            have c1 := LK.was.cell j (by rw [HL.out]; exact hj2)
            have c2 := LK.now.cell j (by rw [hm2.out]; exact hj2)
            by_cases he : (j : Int) = I
            · have t1 : ((j : Int) != I) = false := by simp [he]
              have HE := Lib.hid he
              clear he
              go_upto_region 17 with fail
              go_quiet (fail)
              have LK2 := LK.drewN nq
              clear LK c1 c2 t1
              go_wp2_with fail
              go_roundw
              case rel => exact ⟨j + 1, by omega, by go_num, LK2⟩
              case measure => simp [intOf]; omega
            · have t1 : ((j : Int) != I) = true := by simpa using he
              rw [HO.out j he] at c2
              generalize m.getD j 0 = x at *
              go_upto_region 17 with fail
              go_quiet (fail)
              have LK2 := LK.drewN nq
              clear LK c1 c2 t1 he
              go_wp2_with fail
              go_roundw
              case rel => exact ⟨j + 1, by omega, by go_num, LK2⟩
              case measure => simp [intOf]; omega
          · obtain rfl : j = 20 := by omega
            clear hj hj2
            have hk1' : (k : Int) + 1 ≤ 100 := by omega
            have x0 := LK.act.cell 0 _ rfl
            have x2 := LK.act.cell 2 _ rfl
            have x3 := LK.act.cell 3 _ rfl
            by_cases hR : I < 0 ∨ 20 ≤ I
            · obtain rfl : r = 0 := by have := HA2.out; rw [actP_no (by rw [HL.out]; exact hR)] at this; exact (congrArg (·.1) this).symm
              clear x0 x2 x3
              rcases hR with hR | hR
              · go_wp2_with fail
                go_roundw
                case rel => exact ⟨k + 1, m2, s + d, by go_num, by omega, by omega, LK.cells, hm2.out, by have := hd.out; omega, by have := hd.out; have := HS.out; omega, LK.base⟩
                case measure => simp [intOf]; omega
              · have hR0 : ¬ I < 0 := by omega
                go_wp2_with fail
                go_roundw
                case rel => exact ⟨k + 1, m2, s + d, by go_num, by omega, by omega, LK.cells, hm2.out, by have := hd.out; omega, by have := hd.out; have := HS.out; omega, LK.base⟩
                case measure => simp [intOf]; omega
            · obtain ⟨i, rfl⟩ := Int.eq_ofNat_of_zero_le (show 0 ≤ I by omega)
              have hi : i < 20 := by omega
              have ij : 0 ≤ (i : Int) ∧ (i : Int) < 20 := by omega
              have wi := LK.was.cell i (by rw [HL.out]; exact hi)
              have ni := LK.now.cell i (by rw [hm2.out]; exact hi)
              have hx : m[i]? = some (m.getD i 0) := by rw [List.getD_eq_getElem?_getD, List.getElem?_eq_getElem (by rw [HL.out]; exact hi)]; rfl
              obtain ⟨hr, hy⟩ := kept_at HA2.out hx
              have HR := Lib.hid hr
              have HY := Lib.hid hy
              clear hr hy hx hR
              generalize m.getD i 0 = x at *
              generalize m2.getD i 0 = y at *
              have hm4 : W % 4 = 0 ∨ W % 4 = 1 ∨ W % 4 = 2 ∨ W % 4 = 3 := by omega
              rcases hm4 with hm | hm | hm | hm
              · obtain rfl : r = x := by have := HR.out; rw [if_pos hm] at this; exact this
                obtain rfl : y = r := by have := HY.out; rw [if_pos hm] at this; exact this
                go_upto_region 26 with fail
                go_quiet (fail)
                have LK2 := LK.drewN nq
                clear LK wi ni x0 x2 x3
                go_wp2_with fail
                go_roundw
                case rel => exact ⟨k + 1, m2, s + d, by go_num, by omega, by omega, LK2.cells, hm2.out, by have := hd.out; omega, by have := hd.out; have := HS.out; omega, LK2.base⟩
                case measure => simp [intOf]; omega
              · obtain rfl : r = 1 := by have := HR.out; rw [if_neg (by omega), if_pos hm] at this; exact this
                obtain rfl : y = V := by have := HY.out; rw [if_neg (by omega), if_pos hm] at this; exact this
                go_upto_region 29 with fail
                go_quiet (fail)
                have LK2 := LK.drewN nq
                clear LK wi ni x0 x2 x3
                go_wp2_with fail
                go_roundw
                case rel => exact ⟨k + 1, m2, s + d, by go_num, by omega, by omega, LK2.cells, hm2.out, by have := hd.out; omega, by have := hd.out; have := HS.out; omega, LK2.base⟩
                case measure => simp [intOf]; omega
              · by_cases hv : x = V
                · obtain rfl : r = 1 := by have := HR.out; rw [if_neg (by omega), if_neg (by omega), if_pos hm, if_pos hv] at this; exact this
                  obtain rfl : y = N := by have := HY.out; rw [if_neg (by omega), if_neg (by omega), if_pos hm, if_pos hv] at this; exact this
                  subst hv
                  go_upto_region 32 with fail
                  go_quiet (fail)
                  have LK2 := LK.drewN nq
                  clear LK wi ni x0 x2 x3
                  go_wp2_with fail
                  go_roundw
                  case rel => exact ⟨k + 1, m2, s + d, by go_num, by omega, by omega, LK2.cells, hm2.out, by have := hd.out; omega, by have := hd.out; have := HS.out; omega, LK2.base⟩
                  case measure => simp [intOf]; omega
                · obtain rfl : r = 0 := by have := HR.out; rw [if_neg (by omega), if_neg (by omega), if_pos hm, if_neg hv] at this; exact this
                  obtain rfl : y = x := by have := HY.out; rw [if_neg (by omega), if_neg (by omega), if_pos hm, if_neg hv] at this; exact this
                  have hv1 : (y == V) = false := by simpa using hv
                  clear hv
                  go_upto_region 32 with fail
                  go_quiet (fail)
                  have LK2 := LK.drewN nq
                  clear LK wi ni x0 x2 x3
                  go_wp2_with fail
                  go_roundw
                  case rel => exact ⟨k + 1, m2, s + d, by go_num, by omega, by omega, LK2.cells, hm2.out, by have := hd.out; omega, by have := hd.out; have := HS.out; omega, LK2.base⟩
                  case measure => simp [intOf]; omega
              · obtain rfl : y = r := by have h1 := HR.out; have h2 := HY.out; rw [if_neg (by omega), if_neg (by omega), if_neg (by omega)] at h1 h2; rw [h1, h2]
                have hsub : IntKind.u64.wrap (y - x) = V := by have h1 := HR.out; rw [if_neg (by omega), if_neg (by omega), if_neg (by omega)] at h1; rw [h1, IntKind.wrap_u64, IntKind.wrap_u64]; omega
                clear HR HY
                go_upto_region 23 with fail
                go_quiet (fail)
                have LK2 := LK.drewN nq
                clear LK wi ni x0 x2 x3
                go_wp2_with fail
                go_roundw
                case rel => exact ⟨k + 1, m2, s + d, by go_num, by omega, by omega, LK2.cells, hm2.out, by have := hd.out; omega, by have := hd.out; have := HS.out; omega, LK2.base⟩
                case measure => simp [intOf]; omega
      · obtain rfl : k = 80 := by omega
        go_wp2_with fail
        go_ret
        exact ⟨rfl, bM⟩
    · go_wp2_with fail
      go_ret
      exact ⟨rfl, bM⟩
end Go.Proofs.Ytbnigmemkblflaa
