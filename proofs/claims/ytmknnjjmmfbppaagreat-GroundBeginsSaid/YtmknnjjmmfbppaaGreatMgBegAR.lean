/- Law 13: two, works. -/
import Derived.Test.YtmknnjjmmfbppaaGreatMgBegAQ
import Derived.Test.YtmknnjjmmfbppaaGreatMgBegAF
namespace Go.Proofs.YtmknnjjmmfbppaaGreat
open Go.ChangeShapes Go.WideShapes Go.ChangeAt Go.RowKit Wd
set_option linter.unusedVariables false
set_option maxRecDepth 100000
set_option linter.unusedSimpArgs false
abbrev m13 : Mp := ⟨2, 2, 1⟩
theorem m13_ok : m13.ok := ⟨by decide, by decide, by decide⟩
theorem good13 : GoodH m13 [5, 6] := fun o ho => by
  have : o = 0 ∨ o = 1 := by have : o < 2 := ho; omega
  rcases this with rfl | rfl <;> (unfold goodO hashO; simp)
/-- the ground of the examples, with a log -/
def Two (w : World) (g : GrP) (vo : Value) (E : List Ev) : Prop := GrAt w g m13 (mm0 m13 [5, 6] [true]) 6 [false, false] vo E
theorem two_any (w : World) : Calls Tryz.prog 48 #[] w fun e w' => ∃ g, e = .returned (grV g) ∧ Two w' g (.slice none 0 0) [] ∧ Below w.heap.size w w' ∧ ∀ b, grB g (.slice none 0 0) b → w.heap.size ≤ b := by
  have HN := Lib.hid (show ∀ V hv fv, SliceAt intE V hv [5, 6] → SliceAt Value.bool V fv [true] → Calls Tryz.prog 8 #[.agg #[.int .i64 2, .int .i64 2, .int .i64 1], hv, fv] V fun e w' => ∃ g, e = .returned (grV g) ∧ Two w' g (.slice none 0 0) [] ∧ Below V.heap.size V w' ∧ ∀ b, grB g (.slice none 0 0) b → V.heap.size ≤ b from fun V hv fv h1 h2 => by
    refine (gnew_any m13 [5, 6] [true] hv fv V m13_ok h1 h2).mono ?_
    rintro e w' (⟨_, g, rfl, h2, b2, n2⟩ | ⟨hb, _, _⟩)
    · exact ⟨g, rfl, h2, b2, n2⟩
    · exact absurd good13 hb)
  go_enter Tryz.func48, Tryz.ntmps48
  have bW : Below w.heap.size w ((w.alloc (.cells #[.int .i64 5, .int .i64 6] 3)).alloc (.cells #[.bool true] 4)) := by go_grown
  have s1 : SliceAt intE ((w.alloc (.cells #[.int .i64 5, .int .i64 6] 3)).alloc (.cells #[.bool true] 4)) (.slice (some ⟨w.heap.size, 0, none⟩) 2 2) [5, 6] := by
    refine ⟨_, _, rfl, fun i x hx => ⟨_, _, rfl, ?_⟩⟩
    rw [Nat.zero_add]
    refine ((Blk.new w 3 #[.int .i64 5, .int .i64 6]).alloc _).cell i _ ?_
    match i, hx with
    | 0, hx => simpa using hx
    | 1, hx => simpa using hx
    | n + 2, hx => simp at hx
  have s2 : SliceAt Value.bool ((w.alloc (.cells #[.int .i64 5, .int .i64 6] 3)).alloc (.cells #[.bool true] 4)) (.slice (some ⟨w.heap.size + 1, 0, none⟩) 1 1) [true] := by
    refine ⟨_, _, rfl, fun i x hx => ⟨_, _, rfl, ?_⟩⟩
    rw [Nat.zero_add]
    refine (blk_two w _ 4 #[.bool true]).cell i _ ?_
    match i, hx with
    | 0, hx => simpa using hx
    | n + 1, hx => simp at hx
  have HN1 := Lib.hid (HN.out _ _ _ s1 s2)
  clear HN s1 s2
  go_wp2_with (go_at_call 8; refine HN1.out.mono ?_; rintro e w2 ⟨g, rfl, h2, b2, n2⟩)
  go_ret
  have hs := bW.size
  exact ⟨g, rfl, h2, bW.trans (b2.mono hs), fun b hb => Nat.le_trans hs (n2 b hb)⟩
abbrev hA0 : Array Value := #[.int .i64 0, .int .i64 0, .int .i64 0, .int .i64 0, .int .i64 0, .int .i64 5]
abbrev hA1 : Array Value := #[.int .i64 1, .int .i64 0, .int .i64 0, .int .i64 0, .int .i64 0, .int .i64 6]
set_option maxHeartbeats 8000000 in
theorem works13_any (w : World) : Calls Tryz.prog 10 #[] w fun e w' => e = .returned (.bool true) ∧ Below w.heap.size w w' := by
  have HT := Lib.hid fun V => two_any V
  have hhsz : Hid ((Tryz.prog.info? 100).map (·.size) = some 6) := Lib.hid hd_size
  have h01 : Hid (hA0.all (·.oneCell') = true) := Lib.hid (by simp [Value.oneCell'])
  have h11 : Hid (hA1.all (·.oneCell') = true) := Lib.hid (by simp [Value.oneCell'])
  go_enter Tryz.func10, Tryz.ntmps10
  go_upto_region 4 with (go_at_call 48; refine (HT.out _).mono ?_; rintro e w1 ⟨g, rfl, h1, b1, n1⟩)
  have H1 := Lib.hid h1
  have HW0 := Lib.hid (show ∀ V, Below w1.heap.size w1 V → Calls Tryz.prog 49 #[grV g, .int .i64 0] V fun e w' => e = .returned (.tuple #[.agg hA0, .bool true]) ∧ Below V.heap.size V w' from fun V hV => gword_new (h1.below hV) 0 (by decide) (good13 0 (by decide)))
  have HW1 := Lib.hid (show ∀ V, Below w1.heap.size w1 V → Calls Tryz.prog 49 #[grV g, .int .i64 1] V fun e w' => e = .returned (.tuple #[.agg hA1, .bool true]) ∧ Below V.heap.size V w' from fun V hV => gword_new (h1.below hV) 1 (by decide) (good13 1 (by decide)))
  have HV0 := Lib.hid (show ∀ V, Below w1.heap.size w1 V → Calls Tryz.prog 19 #[grV g, .int .i64 0] V fun e w' => e = .returned (viewV (-1) 0 (.slice none 0 0)) ∧ Below V.heap.size V w' from fun V hV => gview_new (h1.below hV) 0 (by decide) (good13 0 (by decide)))
  have HV9 := Lib.hid (show ∀ V, Below w1.heap.size w1 V → Calls Tryz.prog 19 #[grV g, .int .i64 9] V fun e w' => e = .returned (viewV (-1) 0 (.slice none 0 0)) ∧ Below V.heap.size V w' from fun V hV => gview_out (h1.below hV) 9 (.inr (by decide)))
  clear h1
  go_upto_region 5 with (first
    | (go_at_call 49; (with_reducible refine (HW0.out _ (Below.refl _ _)).mono ?_); rintro e w2 ⟨rfl, b2⟩)
    | (refine wpList_store_row rfl 100 _ _ rfl w2.heap.size hA0 rfl rfl 100 zero6 (Blk.new w2 _ _) hhsz.out rfl h01.out ?_; (try simp only [Act.put, List.setIfInBounds_toArray, List.set_cons_zero, List.set_cons_succ])))
  rw [World.setRow_alloc_new]
  have A3 : Blk (w2.alloc (.cells hA0 100)) w2.heap.size 100 hA0 := Blk.new _ _ _
  have b3 : Below w1.heap.size w1 (w2.alloc (.cells hA0 100)) := b2.alloc b2.size _
  generalize hb2 : w2.heap.size = B2 at *
  generalize hW : w2.alloc (.cells hA0 100) = w3 at *
  clear hW hb2 b2
  go_upto_region 6 with (first
    | (go_at_call 49; (with_reducible refine (HW1.out _ b3).mono ?_); rintro e w4 ⟨rfl, b4⟩)
    | (refine wpList_store_row rfl 100 _ _ rfl w4.heap.size hA1 rfl rfl 100 zero6 (Blk.new w4 _ _) hhsz.out rfl h11.out ?_; (try simp only [Act.put, List.setIfInBounds_toArray, List.set_cons_zero, List.set_cons_succ])))
  rw [World.setRow_alloc_new]
  have A5 := (A3.below b4 A3.lt).alloc (.cells hA1 100)
  have C5 : Blk (w4.alloc (.cells hA1 100)) w4.heap.size 100 hA1 := Blk.new _ _ _
  have b5 : Below w1.heap.size w1 (w4.alloc (.cells hA1 100)) := (b3.trans (b4.mono b3.size)).alloc (by have := b3.size; have := b4.size; omega) _
  generalize hb4 : w4.heap.size = B4 at *
  generalize hW : w4.alloc (.cells hA1 100) = w5 at *
  clear hW hb4 b4 b3 A3
  go_upto_region 7 with fail
  have A7 := A5.alloc (.cells (viewA (-1) 0 (.slice none 0 0)) 58)
  have C7 := C5.alloc (.cells (viewA (-1) 0 (.slice none 0 0)) 58)
  have D7 : Blk (w5.alloc (.cells (viewA (-1) 0 (.slice none 0 0)) 58)) w5.heap.size 58 (viewA (-1) 0 (.slice none 0 0)) := Blk.new _ _ _
  have b7 : Below w1.heap.size w1 (w5.alloc (.cells (viewA (-1) 0 (.slice none 0 0)) 58)) := b5.alloc b5.size _
  generalize hb6 : w5.heap.size = B6 at *
  generalize hW : w5.alloc (.cells (viewA (-1) 0 (.slice none 0 0)) 58) = w7 at *
  clear hW hb6 A5 C5 b5
  have SK := Lib.hid (show ∀ V, Below w7.heap.size w7 V → V.cell? ⟨B2, 0, none⟩ = some (.int .i64 0) ∧ V.cell? ⟨B2, 1, none⟩ = some (.int .i64 0) ∧ V.cell? ⟨B2, 2, none⟩ = some (.int .i64 0) ∧ V.cell? ⟨B2, 3, none⟩ = some (.int .i64 0) ∧ V.cell? ⟨B2, 4, none⟩ = some (.int .i64 0) ∧ V.cell? ⟨B2, 5, none⟩ = some (.int .i64 5) ∧ V.cell? ⟨B4, 0, none⟩ = some (.int .i64 1) ∧ V.cell? ⟨B4, 1, none⟩ = some (.int .i64 0) ∧ V.cell? ⟨B4, 2, none⟩ = some (.int .i64 0) ∧ V.cell? ⟨B4, 3, none⟩ = some (.int .i64 0) ∧ V.cell? ⟨B4, 4, none⟩ = some (.int .i64 0) ∧ V.cell? ⟨B4, 5, none⟩ = some (.int .i64 6) ∧ V.cell? ⟨B6, 0, none⟩ = some (.int .i64 (-1)) ∧ V.cell? ⟨B6, 1, none⟩ = some (.int .i64 0) ∧ V.cell? ⟨B6, 2, none⟩ = some (.slice none 0 0) from fun V hV => ⟨(A7.below hV A7.lt).cell 0 _ rfl, (A7.below hV A7.lt).cell 1 _ rfl, (A7.below hV A7.lt).cell 2 _ rfl, (A7.below hV A7.lt).cell 3 _ rfl, (A7.below hV A7.lt).cell 4 _ rfl, (A7.below hV A7.lt).cell 5 _ rfl, (C7.below hV C7.lt).cell 0 _ rfl, (C7.below hV C7.lt).cell 1 _ rfl, (C7.below hV C7.lt).cell 2 _ rfl, (C7.below hV C7.lt).cell 3 _ rfl, (C7.below hV C7.lt).cell 4 _ rfl, (C7.below hV C7.lt).cell 5 _ rfl, (D7.below hV D7.lt).cell 0 _ rfl, (D7.below hV D7.lt).cell 1 _ rfl, (D7.below hV D7.lt).cell 2 _ rfl⟩)
  have bd := bdrewP w7
  have hq0 : ∀ W, (binOp .neq 100 (.agg hA0) (.agg hA0)).run Tryz.prog W = .ok (.bool false) W := fun _ => by kernel_rfl
  have hq1 : ∀ W, (binOp .neq 100 (.agg hA1) (.agg hA1)).run Tryz.prog W = .ok (.bool false) W := fun _ => by kernel_rfl
  have HSm := Lib.hid fun V => same13 (-1) 0 (.slice none 0 0) (.slice none 0 0) [] V (nil_slice V) (nil_slice V) (by simp)
  have bc := bd
  clear A7 C7 D7
  go_region_held3 (fun V => V.cell? ⟨B2, 0, none⟩ = some (.int .i64 0) ∧ V.cell? ⟨B2, 1, none⟩ = some (.int .i64 0) ∧ V.cell? ⟨B2, 2, none⟩ = some (.int .i64 0) ∧ V.cell? ⟨B2, 3, none⟩ = some (.int .i64 0) ∧ V.cell? ⟨B2, 4, none⟩ = some (.int .i64 0) ∧ V.cell? ⟨B2, 5, none⟩ = some (.int .i64 5) ∧ V.cell? ⟨B4, 0, none⟩ = some (.int .i64 1) ∧ V.cell? ⟨B4, 1, none⟩ = some (.int .i64 0) ∧ V.cell? ⟨B4, 2, none⟩ = some (.int .i64 0) ∧ V.cell? ⟨B4, 3, none⟩ = some (.int .i64 0) ∧ V.cell? ⟨B4, 4, none⟩ = some (.int .i64 0) ∧ V.cell? ⟨B4, 5, none⟩ = some (.int .i64 6) ∧ V.cell? ⟨B6, 0, none⟩ = some (.int .i64 (-1)) ∧ V.cell? ⟨B6, 1, none⟩ = some (.int .i64 0) ∧ V.cell? ⟨B6, 2, none⟩ = some (.slice none 0 0)) (exact SK.out _ bc) (first
    | (go_at_call 19; (with_reducible refine (HV0.out _ (Below.trans b7 (Below.mono bc b7.size))).mono ?_); rintro e w8 ⟨rfl, b8⟩; replace bc := Below.trans bc (Below.mono b8 bc.size))
    | (go_at_call 19; (with_reducible refine (HV9.out _ (Below.trans b7 (Below.mono bc b7.size))).mono ?_); rintro e w8 ⟨rfl, b8⟩; replace bc := Below.trans bc (Below.mono b8 bc.size))
    | (go_at_call 18; (with_reducible refine (HSm.out _).mono ?_); rintro e w9 ⟨rfl, b9⟩; replace bc := Below.trans bc (Below.mono b9 bc.size)))
  have b9 := Below.trans b7 (Below.mono bc b7.size)
  have h9 : Two w9 g (.slice none 0 0) [] := GrAt.below H1.out b9
  have HAc := Lib.hid (act_any 1 0 0 0 h9 (by simp))
  have bw9 := b1.trans (b9.mono b1.size)
  clear HV0 HV9 HW0 HW1 SK bd bc b9 b7 hq0 hq1 HSm HT h01 h11 hhsz
  go_upto_region 10 with (go_at_call 50; (with_reducible refine HAc.out.mono ?_); rintro e w10 ⟨rfl, vo1, h10, k10, n10⟩)
  have HEv := Lib.hid (events_any h10 (by simp))
  go_upto_region 11 with (go_at_call 15; (with_reducible refine HEv.out.mono ?_); rintro e w11 ⟨v, rfl, h11, h12, k11⟩)
  have bw10 : Below w.heap.size w w10 := bw9.trans (k10.below bw9.size (fun b _ h => h.elim (fun e => e ▸ n1 _ (.inl rfl)) (fun h => by simp [Value.ownBlock] at h)))
  have bw11 : Below w.heap.size w w11 := bw10.trans (k11.below bw10.size (fun b _ e => e ▸ n1 _ (.inl rfl)))
  obtain ⟨ga, ca, rfl⟩ := row_slice h11 (by simp)
  have hcl : ∀ (j : Nat) (u : Value), (evL ⟨1, 1, 0, 0, 0, 0, 0, 0⟩)[j]? = some u → w11.cell? ⟨ga, j, none⟩ = some u := fun j u hu => by
    have := h11.cells (g := ga) rfl j u (by simpa using hu)
    rwa [gaddr_add] at this
  have c0 := hcl 0 _ rfl
  have c1 := hcl 1 _ rfl
  have c2 := hcl 2 _ rfl
  have c3 := hcl 3 _ rfl
  have c4 := hcl 4 _ rfl
  have c5 := hcl 5 _ rfl
  have c6 := hcl 6 _ rfl
  have c7 := hcl 7 _ rfl
  have HB := Lib.hid bw11
  clear hcl h11 h12 k11 k10 h10 n10 HEv HAc bw10 bw9 bw11 n1 H1 h9 b1
  have hq : ∀ W, (binOp .eql 81 (evV ⟨1, 1, 0, 0, 0, 0, 0, 0⟩) (evV ⟨1, 1, 0, 0, 0, 0, 0, 0⟩)).run Tryz.prog W = .ok (.bool true) W := fun _ => by kernel_rfl
  go_wp2_with fail
  go_ret
  exact ⟨rfl, HB.out⟩
end Go.Proofs.YtmknnjjmmfbppaaGreat
/- Law 13: the parts of a draft. -/
namespace Go.Proofs.YtmknnjjmmfbppaaGreat
open Go.ChangeShapes Go.WideShapes Go.ChangeAt Go.RowKit Wd
set_option linter.unusedVariables false
set_option maxRecDepth 100000
set_option linter.unusedSimpArgs false
theorem int_info13 : (Tryz.prog.info? 3).map (fun i => (i.zero, i.size, i.bytes)) = some (some (.int .i64 0), 1, 8) := by kernel_rfl
/-- a slice whose first elements read as a list -/
def SlN {α : Type} (enc : α → Value) (w : World) (a : Option Addr) (L : List α) : Prop :=
  ∀ (i : Nat) (x : α), L[i]? = some x → ∃ b off, a = some ⟨b, off, none⟩ ∧ w.cell? ⟨b, off + i, none⟩ = some (enc x)
theorem SlN.below {α : Type} {enc : α → Value} {w w1 : World} {a : Option Addr} {L : List α} (h : SlN enc w a L) (hb : Below w.heap.size w w1) : SlN enc w1 a L := fun i x hx => by
  obtain ⟨b, off, e1, e2⟩ := h i x hx
  exact ⟨b, off, e1, cell_below e2 hb⟩
theorem SlN.at {α : Type} {enc : α → Value} {w : World} {a : Option Addr} {L : List α} {k c : Nat} (h : SlN enc w a L) (hk : L.length = k) : SliceAt enc w (.slice a k c) L := ⟨a, c, by rw [hk], h⟩
def hp (h : Int) : Int := (IntKind.u64.wrap h).tmod 16777216
theorem hp_range (h : Int) : 0 ≤ hp h ∧ hp h ≤ 16777215 := by
  unfold hp
  have h0 : 0 ≤ IntKind.u64.wrap h := by rw [IntKind.wrap_u64]; omega
  rw [Int.tmod_eq_emod_of_nonneg h0]
  omega
def mD (n0 n1 n2 : Nat) : Mp := ⟨1 + n0 % 8, 1 + n1 % 6, n2 % 6⟩
theorem mD_ok (n0 n1 n2 : Nat) : (mD n0 n1 n2).ok := ⟨by show 1 ≤ 1 + n0 % 8 ∧ 1 + n0 % 8 ≤ 32766; omega, by show 1 ≤ 1 + n1 % 6 ∧ 1 + n1 % 6 ≤ 65536; omega, by show n2 % 6 ≤ 4096; omega⟩
theorem good_hp (m : Mp) (H : List Int) : GoodH m (H.map hp) := fun o _ => by
  unfold goodO hashO
  rw [List.getElem?_map]
  cases H[o]? with
  | none => simp
  | some x => exact hp_range x
abbrev draftV (n0 n1 n2 : Nat) (ha : Option Addr) (hn hc : Nat) (fa : Option Addr) (fn fc : Nat) : Value := .agg #[.int .u8 (n0 : Int), .int .u8 (n1 : Int), .int .u8 (n2 : Int), .slice ha hn hc, .slice fa fn fc]
/-- what parts gives -/
def PartsPost (w : World) (m : Mp) (H : List Int) (fa : Option Addr) (kf fc : Nat) (e : Ending) (w' : World) : Prop :=
  ∃ v, e = .returned (.tuple #[mapV m, v, .slice fa kf fc]) ∧ w'.ownsRow w.heap.size 3 1 v H.length (H.map intE) ∧ Below w.heap.size w w'
set_option maxHeartbeats 8000000 in
theorem parts_any (n0 n1 n2 : Nat) (b0 : n0 ≤ 255) (b1 : n1 ≤ 255) (b2 : n2 ≤ 255) (ha : Option Addr) (hn hc : Nat) (fa : Option Addr) (fn fc : Nat) (H : List Int) (w : World) (hh : SlN intE w ha H) (hl : H.length = min hn 8)
    (hf : fn ≤ fc) (hn3 : hn ≤ 9223372036854775807) (fn3 : fn ≤ 9223372036854775807) (kf : Nat) (hkf : kf = min fn 8) :
    Calls Tryz.prog 7 #[draftV n0 n1 n2 ha hn hc fa fn fc] w (PartsPost w (mD n0 n1 n2) (H.map hp) fa kf fc) := by
  obtain ⟨i0, hi0, hz0, hz1, hz2⟩ := info_parts int_info13
  obtain ⟨k, hk⟩ : ∃ k, k = min hn 8 := ⟨_, rfl⟩
  have HK := Lib.hid hk
  have HL := Lib.hid (hl.trans hk.symm)
  have HH := Lib.hid hh
  have hcase : (fn < 8 ∧ kf = fn) ∨ (8 < fn ∧ kf = 8) ∨ (fn = 8 ∧ kf = 8) := by omega
  have HC := Lib.hid hcase
  have H3 := Lib.hid (And.intro hn3 (And.intro fn3 hf))
  clear hk hl hh hcase hn3 fn3 hf hkf
  go_enter Tryz.func7, Tryz.ntmps7
  go_upto_region 2 with fail
  generalize hW : ((w.alloc _).alloc _).alloc _ = W
  have bW : Below w.heap.size w W := by rw [← hW]; go_grown
  have q0 : Blk W w.heap.size 26 #[.int .u8 (n0 : Int), .int .u8 (n1 : Int), .int .u8 (n2 : Int), .slice ha hn hc, .slice fa fn fc] := by rw [← hW]; exact ((Blk.new w _ _).alloc _).alloc _
  have q1 : Blk W (w.heap.size + 1) 28 #[.int .i64 0, .int .i64 0, .int .i64 0] := by rw [← hW]; exact (blk_two w _ _ _).alloc _
  have q2 : Blk W (w.heap.size + 1 + 1) 28 #[.int .i64 (1 + (n0 : Int) % 8), .int .i64 (1 + (n1 : Int) % 6), .int .i64 ((n2 : Int) % 6)] := by
    rw [← hW]
    have := Blk.new ((w.alloc (.cells #[.int .u8 (n0 : Int), .int .u8 (n1 : Int), .int .u8 (n2 : Int), .slice ha hn hc, .slice fa fn fc] 26)).alloc (.cells #[.int .i64 0, .int .i64 0, .int .i64 0] 28)) 28 #[.int .i64 (1 + (n0 : Int) % 8), .int .i64 (1 + (n1 : Int) % 6), .int .i64 ((n2 : Int) % 6)]
    simpa [World.size_alloc] using this
  clear hW
  have HQ := Lib.hid (And.intro q0 (And.intro q1 q2))
  have hsW := bW.size
  have hq2 := q2.lt
  have HBW := Lib.hid bW
  clear bW q0 q1 q2
  go_upto_region 4 with fail
  go_loopw [6, 7] (fun v6 v7 wr => ∃ i : Nat, i ≤ k ∧ v7 = .int .i64 (i : Int) ∧ wr.ownsRow W.heap.size 3 1 v6 i (((H.take i).map hp).map intE) ∧ Below W.heap.size W wr) (fun _ v7 _ => (k - intOf v7).toNat)
  case atStart => exact ⟨0, by omega, rfl, World.ownsRow_nil _ _ _ _, Below.refl _ _⟩
  case round =>
    obtain ⟨i, hi, rfl, hrow, hbr⟩ := hrel
    have p0 := HQ.out.1.below hbr HQ.out.1.lt
    have c3 := p0.cell 3 _ rfl
    have HBR := Lib.hid hbr
    have HR := Lib.hid hrow
    have hsr := hbr.size
    by_cases hlt : i < k
    · have h1 : i < hn := by have := HK.out; omega
      have h2 : i < 8 := by have := HK.out; omega
      have hiH : i < H.length := by rw [HL.out]; exact hlt
      obtain ⟨b, off, rfl, hcx⟩ := HH.out.below (HBW.out.trans (hbr.mono HBW.out.size)) i _ (List.getElem?_eq_getElem hiH)
      have HX := Lib.hid (List.getElem?_eq_getElem hiH)
      generalize H[i] = x at *
      have hix : ∀ V, (Instr.indexAt 23 (.slice (some ⟨b, off, none⟩) hn hc) (.int .i64 (i : Int))).run Tryz.prog V = .ok (.pointer (some ⟨b, off + i, none⟩)) V := by
        intro V
        go_simp
      clear hbr hrow p0 hiH
      go_upto_region 6 with fail
      obtain ⟨y, hy⟩ : ∃ y, (IntKind.u64.wrap x).tmod 16777216 = y := ⟨_, rfl⟩
      have hyr : 0 ≤ y ∧ y ≤ 16777215 := by rw [← hy]; exact hp_range x
      have HY := Lib.hid (show hp x = y from hy)
      have hyw : IntKind.i64.wrap y = y := IntWalk.i64_in _ ⟨by omega, by omega⟩
      clear hyr
      go_wp2_with (at_builtin; refine wpList_append_own2 _ rfl _ _ 23 rfl W.heap.size 3 i0 (.int .i64 0) 1 8 Tryz.underlying23 hi0 hz0 hz1 hz2 rfl (by decide) _ _ _ rfl (HR.out.alloc _) ⟨wr.heap.size, 0, none⟩ 1 1 [.int .i64 y] rfl rfl (cell_one_new _ _ _) (by simp [Value.oneCell']) (by unfold maxLen; omega) (by omega) (by rw [World.size_alloc]; omega) (by omega) ?_; intro g2 cap2 w2 hr2 hgr2 hg2)
      have bg := grown_below hgr2 HR.out hsr
      refine ⟨⟨i + 1, hlt, rfl, ?_, HBR.out.trans bg⟩, ?_⟩
      · rw [List.take_add_one, HX.out, List.map_append, List.map_append]
        have e1 : List.map intE (List.map hp (some x).toList) = [.int .i64 y] := by simp [HY.out]
        rw [e1]
        exact hr2
      · simp [intOf]; omega
    · obtain rfl : i = k := by omega
      have p2 := HQ.out.2.2.below hbr HQ.out.2.2.lt
      have p1 := HQ.out.2.1.below hbr HQ.out.2.1.lt
      have hcs : (hn = i ∧ i < 8) ∨ (i < hn ∧ i = 8) ∨ (i = hn ∧ i = 8) := by have := HK.out; omega
      clear hbr hrow
      have SK := Lib.hid (show ∀ V, Keep (fun b => b = w.heap.size + 1) wr V → V.cell? ⟨w.heap.size, 4, none⟩ = some (.slice fa fn fc) ∧ V.cell? ⟨w.heap.size + 1 + 1, 0, none⟩ = some (.int .i64 (1 + (n0 : Int) % 8)) ∧ V.cell? ⟨w.heap.size + 1 + 1, 1, none⟩ = some (.int .i64 (1 + (n1 : Int) % 6)) ∧ V.cell? ⟨w.heap.size + 1 + 1, 2, none⟩ = some (.int .i64 ((n2 : Int) % 6)) from fun V hk => ⟨(p0.keep hk (fun e => by omega)).cell 4 _ rfl, (p2.keep hk (fun e => by omega)).cell 0 _ rfl, (p2.keep hk (fun e => by omega)).cell 1 _ rfl, (p2.keep hk (fun e => by omega)).cell 2 _ rfl⟩)
      have P1 := Lib.hid p1
      obtain ⟨hn3, fn3, hf⟩ := H3.out
      have hmin : min (fn : Int) 8 = (kf : Int) := by have := HC.out; omega
      have hk0 : (0 : Int) ≤ (kf : Int) := by omega
      have hk1 : (kf : Int) ≤ (fc : Int) := by have := HC.out; omega
      have hfc : kf ≤ fc := by omega
      have d0 := p1.cell 0 _ rfl
      have d1 := p1.cell 1 _ rfl
      have d2 := p1.cell 2 _ rfl
      have z0 := p1.free 0
      have z1 := p1.free 1
      have z2 := p1.free 2
      have kS3 : Keep (fun b => b = w.heap.size + 1) wr (((wr.setCell ⟨w.heap.size + 1, 0, none⟩ (.int .i64 (1 + (n0 : Int) % 8))).setCell ⟨w.heap.size + 1, 1, none⟩ (.int .i64 (1 + (n1 : Int) % 6))).setCell ⟨w.heap.size + 1, 2, none⟩ (.int .i64 ((n2 : Int) % 6))).drew :=
        ((((Keep.refl (fun b => b = w.heap.size + 1) wr).set (p := ⟨w.heap.size + 1, 0, none⟩) (fun _ => rfl) (.int .i64 (1 + (n0 : Int) % 8))).set (p := ⟨w.heap.size + 1, 1, none⟩) (fun _ => rfl) (.int .i64 (1 + (n1 : Int) % 6))).set (p := ⟨w.heap.size + 1, 2, none⟩) (fun _ => rfl) (.int .i64 ((n2 : Int) % 6))).drew
      have p9 := (((p1.set 0 (.int .i64 (1 + (n0 : Int) % 8))).set 1 (.int .i64 (1 + (n1 : Int) % 6))).set 2 (.int .i64 ((n2 : Int) % 6))).drew
      simp only [List.setIfInBounds_toArray, List.set_cons_zero, List.set_cons_succ] at p9
      have P9 := Lib.hid p9
      clear p0 p1 p2 p9
      have ROW9 := Lib.hid (row_ownkeep HR.out kS3 (fun g hg e => by have := row_base HR.out hg; omega))
      have B9 := Lib.hid (HBW.out.trans ((HBR.out.mono HBW.out.size).trans (kS3.below (n := w.heap.size) (by omega) (fun _ _ e => by omega))))
      have hll : (H.map hp).length = i := by rw [List.length_map]; exact HL.out
      have hti : H.take i = H := List.take_of_length_le (by rw [HL.out]; exact Nat.le_refl _)
      rw [hti] at ROW9
      have HEND := Lib.hid (show PartsPost w (mD n0 n1 n2) (H.map hp) fa kf fc (.returned (.tuple #[.agg #[.int .i64 (1 + (n0 : Int) % 8), .int .i64 (1 + (n1 : Int) % 6), .int .i64 ((n2 : Int) % 6)], u6, .slice fa kf fc])) (((wr.setCell ⟨w.heap.size + 1, 0, none⟩ (.int .i64 (1 + (n0 : Int) % 8))).setCell ⟨w.heap.size + 1, 1, none⟩ (.int .i64 (1 + (n1 : Int) % 6))).setCell ⟨w.heap.size + 1, 2, none⟩ (.int .i64 ((n2 : Int) % 6))).drew from
        ⟨u6, by show _ = Ending.returned (.tuple #[.agg #[.int .i64 ((1 + n0 % 8 : Nat) : Int), .int .i64 ((1 + n1 % 6 : Nat) : Int), .int .i64 ((n2 % 6 : Nat) : Int)], u6, .slice fa kf fc]); simp, by rw [hll]; exact row_lower ROW9.out (by omega), B9.out⟩)
      clear hti hll B9 ROW9
      rcases hcs with ⟨g1, g2⟩ | ⟨g1, g2⟩ | ⟨g1, g2⟩
      all_goals
        go_upto_region 7 with fail
        go_region_held3 (fun V => V.cell? ⟨w.heap.size, 4, none⟩ = some (.slice fa fn fc) ∧ V.cell? ⟨w.heap.size + 1 + 1, 0, none⟩ = some (.int .i64 (1 + (n0 : Int) % 8)) ∧ V.cell? ⟨w.heap.size + 1 + 1, 1, none⟩ = some (.int .i64 (1 + (n1 : Int) % 6)) ∧ V.cell? ⟨w.heap.size + 1 + 1, 2, none⟩ = some (.int .i64 ((n2 : Int) % 6))) (first | exact SK.out _ (Keep.refl _ _).drew | exact SK.out _ kS3) (fail)
        all_goals go_wp2_with fail
        all_goals
          have f0 := P9.out.cell 0 _ rfl
          have f1 := P9.out.cell 1 _ rfl
          have f2 := P9.out.cell 2 _ rfl
          exact bodyPost_ret (v := .tuple #[.agg #[.int .i64 (1 + (n0 : Int) % 8), .int .i64 (1 + (n1 : Int) % 6), .int .i64 ((n2 : Int) % 6)], u6, .slice fa kf fc]) (by simp [results, Tryz.results7, go_sem, f0, f1, f2]) rfl HEND.out
end Go.Proofs.YtmknnjjmmfbppaaGreat
