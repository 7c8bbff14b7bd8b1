/- The chapter's examples hold; two rows of words that are alike are so. -/
import Derived.Test.YtbnigmemkblflaaCellsD
import Derived.Test.YtbnigmemkblflaaCellsE
namespace Go.Proofs.Ytbnigmemkblflaa
open Go.ChangeShapes Go.WideShapes Go.ChangeAt Go.RowKit
set_option linter.unusedVariables false
set_option linter.unusedSimpArgs false
/-- the slice v reads as these words -/
def WordsAt (w : World) (v : Value) (xs : List Int) : Prop :=
  ∃ a c, v = .slice a xs.length c ∧ ∀ i, i < xs.length → ∃ b off, a = some ⟨b, off, none⟩ ∧ b < w.heap.size ∧ w.cell? ⟨b, off + i, none⟩ = some (.int .u64 (xs.getD i 0))
theorem WordsAt.below {w w1 : World} {v : Value} {xs : List Int} (h : WordsAt w v xs) (hb : Below w.heap.size w w1) : WordsAt w1 v xs := by
  obtain ⟨a, c, e, hc⟩ := h
  refine ⟨a, c, e, fun i hi => ?_⟩
  obtain ⟨b, off, e1, e2, e3⟩ := hc i hi
  exact ⟨b, off, e1, Nat.lt_of_lt_of_le e2 hb.size, (hb.cell (p := ⟨b, off + i, none⟩) e2).trans e3⟩
theorem WordsAt.owns {w : World} {base : Nat} {v : Value} {xs : List Int} (h : w.ownsRow base 31 1 v xs.length (xs.map (.int .u64))) : WordsAt w v xs := by
  obtain ⟨h0, ⟨rfl, h1⟩ | ⟨g, cap, cur, rfl, h2, h3, h4, h5, h6, h7⟩⟩ := h
  · exact ⟨none, 0, by rw [h1], fun i hi => by omega⟩
  · refine ⟨_, cap, rfl, fun i hi => ⟨g, 0, rfl, (Array.getElem?_eq_some_iff.1 h3).1, ?_⟩⟩
    have hx : (cur.toList.take (xs.length * 1))[i]? = some (.int .u64 (xs.getD i 0)) := by
      rw [h7]; simp [hi, List.getD_eq_getElem?_getD]
    rw [List.getElem?_take, if_pos (by omega)] at hx
    unfold World.cell?
    simp only [h3]
    simpa using hx
theorem WordsAt.blk {w : World} {S : Nat} {xs : List Int} (c : Nat) (h : Blk w S 31 (words xs)) : WordsAt w (.slice (some ⟨S, 0, none⟩) xs.length c) xs := by
  refine ⟨_, c, rfl, fun i hi => ⟨S, 0, rfl, h.lt, ?_⟩⟩
  have := h.cell i (.int .u64 (xs.getD i 0)) (words_at (by simp [hi, List.getD_eq_getElem?_getD]))
  simpa using this
set_option maxHeartbeats 400000 in
theorem same_yes (v u : Value) (xs : List Int) (w : World) (hm : xs.length ≤ 16777216) (hv : WordsAt w v xs) (hu : WordsAt w u xs) :
    Calls Try.prog 12 #[v, u] w fun e w' => e = .returned (.bool true) ∧ Below w.heap.size w w' := by
  obtain ⟨a, c, rfl, hv⟩ := hv
  obtain ⟨a', c', rfl, hu⟩ := hu
  have HV := Lib.hid hv
  have HU := Lib.hid hu
  clear hv hu
  generalize xs.length = n at *
  go_enter Try.func12, Try.ntmps12
  go_wp2
  go_loopw [5] (fun i wr => ∃ k : Nat, k ≤ n ∧ i = .int .i64 k ∧ Below w.heap.size w wr) (fun i wr => n - (intOf i).toNat)
  case atStart => exact ⟨0, Nat.zero_le _, rfl, Below.refl _ _⟩
  case round =>
    obtain ⟨k, hk, rfl, hB⟩ := hrel
    by_cases hlt : k < n
    · obtain ⟨b, off, ea, hb, hc⟩ := HV.out k hlt
      obtain ⟨b', off', ea', hb', hc'⟩ := HU.out k hlt
      subst ea ea'
      have c1 := (hB.cell (p := ⟨b, off + k, none⟩) hb).trans hc
      have c2 := (hB.cell (p := ⟨b', off' + k, none⟩) hb').trans hc'
      generalize xs.getD k 0 = x at *
      have i0 : 0 ≤ (k : Int) ∧ (k : Int) < n := by omega
      go_upto_region 6 with fail
      go_quiet (fail)
      have B2 := bdrewN hB nq
      go_wp2
      go_roundw
      case rel => exact ⟨k + 1, by omega, by go_num, B2⟩
      case measure => simp [intOf]; omega
    · go_wp2
      go_ret
      exact ⟨rfl, hB⟩
set_option maxRecDepth 100000 in
set_option maxHeartbeats 1000000 in
theorem works_any (w : World) : Calls Try.prog 8 #[] w fun e w' => e = .returned (.bool true) ∧ Below w.heap.size w w' := by
  have HN := Lib.hid (new_some 3 w (by omega))
  go_enter Try.func8, Try.ntmps8
  go_upto_region 2 with (go_at_call 6; refine HN.out.mono ?_; rintro e w1 ⟨rfl, hC, hb⟩)
  have hC1 : CellsAt w1 (w.heap.size + 1) w.heap.size [0, 0, 0] 0 := hC
  clear hC
  generalize hc : w.heap.size + 1 = C at *
  generalize hs : w.heap.size = S at *
  have HS := Lib.hid hs
  have HC := Lib.hid hc
  clear hs hc
  go_upto_region 3 with fail
  refine (store_yes C S _ 0 1 0 5 _ hC1 rfl (by omega) (by omega)).mono ?_
  rintro e w2 ⟨rfl, hC2, k2⟩
  replace hC2 : CellsAt w2 C S [0, 5, 0] 1 := hC2
  go_upto_region 3 with fail
  refine (swap_other C S _ 1 1 5 4 9 _ hC2 rfl (by omega) (by omega) (by omega)).mono ?_
  rintro e w3 ⟨rfl, hC3, k3⟩
  replace hC3 : CellsAt w3 C S [0, 5, 0] 2 := hC3
  go_upto_region 3 with fail
  refine (swap_yes C S _ 2 1 5 9 _ hC3 rfl (by omega) (by omega)).mono ?_
  rintro e w4 ⟨rfl, hC4, k4⟩
  replace hC4 : CellsAt w4 C S [0, 9, 0] 3 := hC4
  go_upto_region 3 with fail
  refine (add_yes C S _ 3 1 9 18446744073709551615 _ hC4 rfl (by omega) (by omega)).mono ?_
  rintro e w5 ⟨rfl, hC5, k5⟩
  replace hC5 : CellsAt w5 C S [0, 8, 0] 4 := hC5
  have hwr : IntKind.u64.wrap (9 + 18446744073709551615) = 8 := by decide
  rw [hwr]
  clear hwr
  go_upto_region 3 with fail
  refine (load_yes C S _ 4 1 8 _ hC5 rfl (by omega) (by omega)).mono ?_
  rintro e w6 ⟨rfl, hC6, k6⟩
  replace hC6 : CellsAt w6 C S [0, 8, 0] 5 := hC6
  go_upto_region 3 with fail
  go_wp2_with fail
  refine (load_no C S _ 5 3 _ hC6 (.inr (by decide))).mono ?_
  rintro e w7 ⟨rfl, b7⟩
  have hC7 := hC6.keep (Keep.ofBelow (Q := fun _ => False) b7) (fun h => h) (fun h => h)
  go_wp2_with fail
  refine (store_no C S _ 5 (-1) 1 _ hC7 (.inl (by decide))).mono ?_
  rintro e w8 ⟨rfl, b8⟩
  have hC8 := hC7.keep (Keep.ofBelow (Q := fun _ => False) b8) (fun h => h) (fun h => h)
  go_wp2_with fail
  refine (steps_any C S _ 5 _ hC8).mono ?_
  rintro e w9 ⟨rfl, rfl⟩
  go_wp2_with fail
  refine (all_any C S _ 5 _ hC8).mono ?_
  rintro e w9 ⟨u, rfl, b9, hrow⟩
  obtain ⟨ua, ul, uc, rfl⟩ : ∃ ua ul uc, u = .slice ua ul uc := by
    rcases hrow.2 with ⟨rfl, _⟩ | ⟨g, cap, cur, rfl, _⟩
    · exact ⟨_, _, _, rfl⟩
    · exact ⟨_, _, _, rfl⟩
  have hA := WordsAt.owns hrow
  go_wp2_with fail
  have hA2 := hA.below ((Below.refl _ w9).alloc (Nat.le_refl _) (.cells (words [0, 8, 0]) 31))
  refine (same_yes _ _ [0, 8, 0] _ (by decide) hA2 (WordsAt.blk (xs := [0, 8, 0]) 3 (Blk.new w9 31 (words [0, 8, 0])))).mono ?_
  rintro e w10 ⟨rfl, b10⟩
  go_wp2_with fail
  go_ret
  have hc := HC.out
  have hs := HS.out
  have q : ∀ {a b : World}, S ≤ a.heap.size → Keep (ofCells C S) a b → Below S a b := fun h k => k.below h (fun i _ h => by rcases h with h | h <;> omega)
  have r1 := hb.trans (q (Nat.le_of_lt hC1.row.lt) k2)
  have r3 := (r1.trans (q (Nat.le_of_lt hC2.row.lt) k3)).trans (q (Nat.le_of_lt hC3.row.lt) k4)
  have r5 := (r3.trans (q (Nat.le_of_lt hC4.row.lt) k5)).trans (q (Nat.le_of_lt hC5.row.lt) k6)
  have r8 := (r5.trans (b7.mono (Nat.le_of_lt hC6.row.lt))).trans (b8.mono (Nat.le_of_lt hC7.row.lt))
  have r9 := r8.trans (b9.mono (Nat.le_of_lt hC8.row.lt))
  rw [hs]
  have hl := hC8.row.lt
  have h9 := b9.size
  exact ⟨rfl, (r9.alloc (by omega) _).trans (b10.mono (by simp; omega))⟩
end Go.Proofs.Ytbnigmemkblflaa
