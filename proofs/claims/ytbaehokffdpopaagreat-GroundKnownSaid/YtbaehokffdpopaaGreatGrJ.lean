/- Law 13: two, works. -/
import Derived.Test.YtbaehokffdpopaaGreatGrI
namespace Go.Proofs.YtbaehokffdpopaaGreat
open Go.ChangeShapes Go.WideShapes Go.ChangeAt Go.RowKit Wd
set_option linter.unusedVariables false
set_option maxRecDepth 100000
set_option linter.unusedSimpArgs false
abbrev m13 : Mp := ⟨2, 2, 1⟩
theorem m13_ok : m13.ok := ⟨by decide, by decide, by decide⟩
theorem good13 : GoodH m13 [5, 6] := fun o ho => by
  have : o = 0 ∨ o = 1 := by have : o < 2 := ho; omega
  rcases this with rfl | rfl <;> (unfold goodO hashO; simp)
/-- the ground of the examples, with a log -/
def Two (w : World) (g : GrP) (vo : Value) (E : List Ev) : Prop := GrAt w g m13 (mm0 m13 [5, 6] [true]) 6 [false, false] vo E
theorem two_any (w : World) : Calls Tryz.prog 26 #[] w fun e w' => ∃ g, e = .returned (grV g) ∧ Two w' g (.slice none 0 0) [] ∧ Below w.heap.size w w' ∧ ∀ b, grB g (.slice none 0 0) b → w.heap.size ≤ b := by
  have HN := Lib.hid (show ∀ V hv fv, SliceAt intE V hv [5, 6] → SliceAt Value.bool V fv [true] → Calls Tryz.prog 11 #[.agg #[.int .i64 2, .int .i64 2, .int .i64 1], hv, fv] V fun e w' => ∃ g, e = .returned (grV g) ∧ Two w' g (.slice none 0 0) [] ∧ Below V.heap.size V w' ∧ ∀ b, grB g (.slice none 0 0) b → V.heap.size ≤ b from fun V hv fv h1 h2 => by
    refine (gnew_any m13 [5, 6] [true] hv fv V m13_ok h1 h2).mono ?_
    rintro e w' (⟨_, g, rfl, h2, b2, n2⟩ | ⟨hb, _, _⟩)
    · exact ⟨g, rfl, h2, b2, n2⟩
    · exact absurd good13 hb)
  go_enter Tryz.func26, Tryz.ntmps26
  have bW : Below w.heap.size w ((w.alloc (.cells #[.int .i64 5, .int .i64 6] 3)).alloc (.cells #[.bool true] 4)) := by go_grown
  have s1 : SliceAt intE ((w.alloc (.cells #[.int .i64 5, .int .i64 6] 3)).alloc (.cells #[.bool true] 4)) (.slice (some ⟨w.heap.size, 0, none⟩) 2 2) [5, 6] := by
    refine ⟨_, _, rfl, fun i x hx => ⟨_, _, rfl, ?_⟩⟩
    rw [Nat.zero_add]
    refine ((Blk.new w 3 #[.int .i64 5, .int .i64 6]).alloc _).cell i _ ?_
    match i, hx with
    | 0, hx => simpa using hx
    | 1, hx => simpa using hx
    | n + 2, hx => simp at hx
  have s2 : SliceAt Value.bool ((w.alloc (.cells #[.int .i64 5, .int .i64 6] 3)).alloc (.cells #[.bool true] 4)) (.slice (some ⟨w.heap.size + 1, 0, none⟩) 1 1) [true] := by
    refine ⟨_, _, rfl, fun i x hx => ⟨_, _, rfl, ?_⟩⟩
    rw [Nat.zero_add]
    refine (blk_two w _ 4 #[.bool true]).cell i _ ?_
    match i, hx with
    | 0, hx => simpa using hx
    | n + 1, hx => simp at hx
  have HN1 := Lib.hid (HN.out _ _ _ s1 s2)
  clear HN s1 s2
  go_wp2_with (go_at_call 11; refine HN1.out.mono ?_; rintro e w2 ⟨g, rfl, h2, b2, n2⟩)
  go_ret
  have hs := bW.size
  exact ⟨g, rfl, h2, bW.trans (b2.mono hs), fun b hb => Nat.le_trans hs (n2 b hb)⟩
abbrev hA0 : Array Value := #[.int .i64 0, .int .i64 0, .int .i64 0, .int .i64 0, .int .i64 0, .int .i64 5]
abbrev hA1 : Array Value := #[.int .i64 1, .int .i64 0, .int .i64 0, .int .i64 0, .int .i64 0, .int .i64 6]
set_option maxHeartbeats 8000000 in
theorem works13_any (w : World) : Calls Tryz.prog 13 #[] w fun e w' => e = .returned (.bool true) ∧ Below w.heap.size w w' := by
  have HT := Lib.hid fun V => two_any V
  have hhsz : Hid ((Tryz.prog.info? 77).map (·.size) = some 6) := Lib.hid hd_size
  have h01 : Hid (hA0.all (·.oneCell') = true) := Lib.hid (by simp [Value.oneCell'])
  have h11 : Hid (hA1.all (·.oneCell') = true) := Lib.hid (by simp [Value.oneCell'])
  go_enter Tryz.func13, Tryz.ntmps13
  go_upto_region 4 with (go_at_call 26; refine (HT.out _).mono ?_; rintro e w1 ⟨g, rfl, h1, b1, n1⟩)
  have H1 := Lib.hid h1
  have HW0 := Lib.hid (show ∀ V, Below w1.heap.size w1 V → Calls Tryz.prog 31 #[grV g, .int .i64 0] V fun e w' => e = .returned (.tuple #[.agg hA0, .bool true]) ∧ Below V.heap.size V w' from fun V hV => gword_new (h1.below hV) 0 (by decide) (good13 0 (by decide)))
  have HW1 := Lib.hid (show ∀ V, Below w1.heap.size w1 V → Calls Tryz.prog 31 #[grV g, .int .i64 1] V fun e w' => e = .returned (.tuple #[.agg hA1, .bool true]) ∧ Below V.heap.size V w' from fun V hV => gword_new (h1.below hV) 1 (by decide) (good13 1 (by decide)))
  have HV0 := Lib.hid (show ∀ V, Below w1.heap.size w1 V → Calls Tryz.prog 22 #[grV g, .int .i64 0] V fun e w' => e = .returned (viewV (-1) 0 (.slice none 0 0)) ∧ Below V.heap.size V w' from fun V hV => gview_new (h1.below hV) 0 (by decide) (good13 0 (by decide)))
  have HV9 := Lib.hid (show ∀ V, Below w1.heap.size w1 V → Calls Tryz.prog 22 #[grV g, .int .i64 9] V fun e w' => e = .returned (viewV (-1) 0 (.slice none 0 0)) ∧ Below V.heap.size V w' from fun V hV => gview_out (h1.below hV) 9 (.inr (by decide)))
  clear h1
  go_upto_region 5 with (first
    | (go_at_call 31; (with_reducible refine (HW0.out _ (Below.refl _ _)).mono ?_); rintro e w2 ⟨rfl, b2⟩)
    | (refine wpList_store_row rfl 77 _ _ rfl w2.heap.size hA0 rfl rfl 77 zero6 (Blk.new w2 _ _) hhsz.out rfl h01.out ?_; (try simp only [Act.put, List.setIfInBounds_toArray, List.set_cons_zero, List.set_cons_succ])))
  rw [World.setRow_alloc_new]
  have A3 : Blk (w2.alloc (.cells hA0 77)) w2.heap.size 77 hA0 := Blk.new _ _ _
  have b3 : Below w1.heap.size w1 (w2.alloc (.cells hA0 77)) := b2.alloc b2.size _
  generalize hb2 : w2.heap.size = B2 at *
  generalize hW : w2.alloc (.cells hA0 77) = w3 at *
  clear hW hb2 b2
  go_upto_region 6 with (first
    | (go_at_call 31; (with_reducible refine (HW1.out _ b3).mono ?_); rintro e w4 ⟨rfl, b4⟩)
    | (refine wpList_store_row rfl 77 _ _ rfl w4.heap.size hA1 rfl rfl 77 zero6 (Blk.new w4 _ _) hhsz.out rfl h11.out ?_; (try simp only [Act.put, List.setIfInBounds_toArray, List.set_cons_zero, List.set_cons_succ])))
  rw [World.setRow_alloc_new]
  have A5 := (A3.below b4 A3.lt).alloc (.cells hA1 77)
  have C5 : Blk (w4.alloc (.cells hA1 77)) w4.heap.size 77 hA1 := Blk.new _ _ _
  have b5 : Below w1.heap.size w1 (w4.alloc (.cells hA1 77)) := (b3.trans (b4.mono b3.size)).alloc (by have := b3.size; have := b4.size; omega) _
  generalize hb4 : w4.heap.size = B4 at *
  generalize hW : w4.alloc (.cells hA1 77) = w5 at *
  clear hW hb4 b4 b3 A3
  go_upto_region 7 with fail
  have A7 := A5.alloc (.cells (viewA (-1) 0 (.slice none 0 0)) 58)
  have C7 := C5.alloc (.cells (viewA (-1) 0 (.slice none 0 0)) 58)
  have D7 : Blk (w5.alloc (.cells (viewA (-1) 0 (.slice none 0 0)) 58)) w5.heap.size 58 (viewA (-1) 0 (.slice none 0 0)) := Blk.new _ _ _
  have b7 : Below w1.heap.size w1 (w5.alloc (.cells (viewA (-1) 0 (.slice none 0 0)) 58)) := b5.alloc b5.size _
  generalize hb6 : w5.heap.size = B6 at *
  generalize hW : w5.alloc (.cells (viewA (-1) 0 (.slice none 0 0)) 58) = w7 at *
  clear hW hb6 A5 C5 b5
  have SK := Lib.hid (show ∀ V, Below w7.heap.size w7 V → V.cell? ⟨B2, 0, none⟩ = some (.int .i64 0) ∧ V.cell? ⟨B2, 1, none⟩ = some (.int .i64 0) ∧ V.cell? ⟨B2, 2, none⟩ = some (.int .i64 0) ∧ V.cell? ⟨B2, 3, none⟩ = some (.int .i64 0) ∧ V.cell? ⟨B2, 4, none⟩ = some (.int .i64 0) ∧ V.cell? ⟨B2, 5, none⟩ = some (.int .i64 5) ∧ V.cell? ⟨B4, 0, none⟩ = some (.int .i64 1) ∧ V.cell? ⟨B4, 1, none⟩ = some (.int .i64 0) ∧ V.cell? ⟨B4, 2, none⟩ = some (.int .i64 0) ∧ V.cell? ⟨B4, 3, none⟩ = some (.int .i64 0) ∧ V.cell? ⟨B4, 4, none⟩ = some (.int .i64 0) ∧ V.cell? ⟨B4, 5, none⟩ = some (.int .i64 6) ∧ V.cell? ⟨B6, 0, none⟩ = some (.int .i64 (-1)) ∧ V.cell? ⟨B6, 1, none⟩ = some (.int .i64 0) ∧ V.cell? ⟨B6, 2, none⟩ = some (.slice none 0 0) from fun V hV => ⟨(A7.below hV A7.lt).cell 0 _ rfl, (A7.below hV A7.lt).cell 1 _ rfl, (A7.below hV A7.lt).cell 2 _ rfl, (A7.below hV A7.lt).cell 3 _ rfl, (A7.below hV A7.lt).cell 4 _ rfl, (A7.below hV A7.lt).cell 5 _ rfl, (C7.below hV C7.lt).cell 0 _ rfl, (C7.below hV C7.lt).cell 1 _ rfl, (C7.below hV C7.lt).cell 2 _ rfl, (C7.below hV C7.lt).cell 3 _ rfl, (C7.below hV C7.lt).cell 4 _ rfl, (C7.below hV C7.lt).cell 5 _ rfl, (D7.below hV D7.lt).cell 0 _ rfl, (D7.below hV D7.lt).cell 1 _ rfl, (D7.below hV D7.lt).cell 2 _ rfl⟩)
  have bd := bdrewP w7
  have hq0 : ∀ W, (binOp .neq 77 (.agg hA0) (.agg hA0)).run Tryz.prog W = .ok (.bool false) W := fun _ => by kernel_rfl
  have hq1 : ∀ W, (binOp .neq 77 (.agg hA1) (.agg hA1)).run Tryz.prog W = .ok (.bool false) W := fun _ => by kernel_rfl
  have HSm := Lib.hid fun V => same13 (-1) 0 (.slice none 0 0) (.slice none 0 0) [] V (nil_slice V) (nil_slice V) (by simp)
  have bc := bd
  clear A7 C7 D7
  go_region_held3 (fun V => V.cell? ⟨B2, 0, none⟩ = some (.int .i64 0) ∧ V.cell? ⟨B2, 1, none⟩ = some (.int .i64 0) ∧ V.cell? ⟨B2, 2, none⟩ = some (.int .i64 0) ∧ V.cell? ⟨B2, 3, none⟩ = some (.int .i64 0) ∧ V.cell? ⟨B2, 4, none⟩ = some (.int .i64 0) ∧ V.cell? ⟨B2, 5, none⟩ = some (.int .i64 5) ∧ V.cell? ⟨B4, 0, none⟩ = some (.int .i64 1) ∧ V.cell? ⟨B4, 1, none⟩ = some (.int .i64 0) ∧ V.cell? ⟨B4, 2, none⟩ = some (.int .i64 0) ∧ V.cell? ⟨B4, 3, none⟩ = some (.int .i64 0) ∧ V.cell? ⟨B4, 4, none⟩ = some (.int .i64 0) ∧ V.cell? ⟨B4, 5, none⟩ = some (.int .i64 6) ∧ V.cell? ⟨B6, 0, none⟩ = some (.int .i64 (-1)) ∧ V.cell? ⟨B6, 1, none⟩ = some (.int .i64 0) ∧ V.cell? ⟨B6, 2, none⟩ = some (.slice none 0 0)) (exact SK.out _ bc) (first
    | (go_at_call 22; (with_reducible refine (HV0.out _ (Below.trans b7 (Below.mono bc b7.size))).mono ?_); rintro e w8 ⟨rfl, b8⟩; replace bc := Below.trans bc (Below.mono b8 bc.size))
    | (go_at_call 22; (with_reducible refine (HV9.out _ (Below.trans b7 (Below.mono bc b7.size))).mono ?_); rintro e w8 ⟨rfl, b8⟩; replace bc := Below.trans bc (Below.mono b8 bc.size))
    | (go_at_call 21; (with_reducible refine (HSm.out _).mono ?_); rintro e w9 ⟨rfl, b9⟩; replace bc := Below.trans bc (Below.mono b9 bc.size)))
  have b9 := Below.trans b7 (Below.mono bc b7.size)
  have h9 : Two w9 g (.slice none 0 0) [] := GrAt.below H1.out b9
  have HAc := Lib.hid (act_any 1 0 0 0 h9 (by simp))
  have bw9 := b1.trans (b9.mono b1.size)
  clear HV0 HV9 HW0 HW1 SK bd bc b9 b7 hq0 hq1 HSm HT h01 h11 hhsz
  go_upto_region 10 with (go_at_call 29; (with_reducible refine HAc.out.mono ?_); rintro e w10 ⟨rfl, vo1, h10, k10, n10⟩)
  have HEv := Lib.hid (events_any h10 (by simp))
  go_upto_region 11 with (go_at_call 18; (with_reducible refine HEv.out.mono ?_); rintro e w11 ⟨v, rfl, h11, h12, k11⟩)
  have bw10 : Below w.heap.size w w10 := bw9.trans (k10.below bw9.size (fun b _ h => h.elim (fun e => e ▸ n1 _ (.inl rfl)) (fun h => by simp [Value.ownBlock] at h)))
  have bw11 : Below w.heap.size w w11 := bw10.trans (k11.below bw10.size (fun b _ e => e ▸ n1 _ (.inl rfl)))
  obtain ⟨ga, ca, rfl⟩ := row_slice h11 (by simp)
  have hcl : ∀ (j : Nat) (u : Value), (evL ⟨1, 1, 0, 0, 0, 0, 0, 0⟩)[j]? = some u → w11.cell? ⟨ga, j, none⟩ = some u := fun j u hu => by
    have := h11.cells (g := ga) rfl j u (by simpa using hu)
    rwa [addr_add] at this
  have c0 := hcl 0 _ rfl
  have c1 := hcl 1 _ rfl
  have c2 := hcl 2 _ rfl
  have c3 := hcl 3 _ rfl
  have c4 := hcl 4 _ rfl
  have c5 := hcl 5 _ rfl
  have c6 := hcl 6 _ rfl
  have c7 := hcl 7 _ rfl
  have HB := Lib.hid bw11
  clear hcl h11 h12 k11 k10 h10 n10 HEv HAc bw10 bw9 bw11 n1 H1 h9 b1
  have hq : ∀ W, (binOp .eql 68 (evV ⟨1, 1, 0, 0, 0, 0, 0, 0⟩) (evV ⟨1, 1, 0, 0, 0, 0, 0, 0⟩)).run Tryz.prog W = .ok (.bool true) W := fun _ => by kernel_rfl
  go_wp2_with fail
  go_ret
  exact ⟨rfl, HB.out⟩
end Go.Proofs.YtbaehokffdpopaaGreat
