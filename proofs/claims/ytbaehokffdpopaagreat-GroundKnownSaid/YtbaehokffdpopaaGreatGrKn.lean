/- GroundKnown: the walk. -/
import Derived.Test.YtbaehokffdpopaaGreatGrZ
import Derived.Test.YtbaehokffdpopaaGreatGrJ
namespace Go.Proofs.YtbaehokffdpopaaGreat
open Go.ChangeShapes Go.WideShapes Go.ChangeAt Go.RowKit Wd
set_option linter.unusedVariables false
set_option maxRecDepth 100000
set_option linter.unusedSimpArgs false
theorem SliceAt.keepV {w w1 : World} {v : Value} {l : List Int} {F : Nat → Prop} (h : SliceAt intE w v l) (hk : Keep F w w1) (hn : ∀ b, v.ownBlock = some b → ¬ F b) : SliceAt intE w1 v l := by
  obtain ⟨a, c, rfl, h2⟩ := h
  refine ⟨a, c, rfl, fun i x hx => ?_⟩
  obtain ⟨b, off, ha, hc⟩ := h2 i x hx
  exact ⟨b, off, ha, kcell hc hk (hn b (by rw [ha]; simp [Value.ownBlock]))⟩
theorem sliceOf {V : World} {h : Nat} {l : List Int} (hb : Blk V h 3 (l.map intE).toArray) : SliceAt intE V (.slice (some ⟨h, 0, none⟩) l.length l.length) l :=
  ⟨_, _, rfl, fun i x hx => ⟨h, 0, rfl, by rw [Nat.zero_add]; exact hb.cell i _ (by simp [hx])⟩⟩
abbrev mB : Mp := ⟨1, 1, 0⟩
theorem mB_ok : mB.ok := ⟨by decide, by decide, by decide⟩
theorem new_yes (x : Int) (hx : 0 ≤ x ∧ x ≤ 16777215) (V : World) (h : Nat) (hb : Blk V h 3 #[.int .i64 x]) : Calls Tryz.prog 11 #[.agg #[.int .i64 1, .int .i64 1, .int .i64 0], .slice (some ⟨h, 0, none⟩) 1 1, .slice none 0 0] V fun e w' => ∃ G : Nat, e = .returned (.pointer (some ⟨G, 0, none⟩)) ∧ Below V.heap.size V w' := by
  refine (gnew_any mB [x] [] (.slice (some ⟨h, 0, none⟩) 1 1) (.slice none 0 0) V mB_ok (sliceOf (l := [x]) hb) ⟨none, 0, rfl, fun i x h => by simp at h⟩).mono ?_
  rintro e w' (⟨_, g, rfl, _, b, _⟩ | ⟨h1, _⟩)
  · exact ⟨_, rfl, b⟩
  · exact (h1 (fun o ho => by
      obtain rfl : o = 0 := by have : o < 1 := ho; omega
      exact hx)).elim
theorem new_over (x : Int) (hx : 16777215 < x) (V : World) (h : Nat) (hb : Blk V h 3 #[.int .i64 x]) : Calls Tryz.prog 11 #[.agg #[.int .i64 1, .int .i64 1, .int .i64 0], .slice (some ⟨h, 0, none⟩) 1 1, .slice none 0 0] V fun e w' => e = .returned (.pointer none) ∧ Below V.heap.size V w' := by
  refine (gnew_any mB [x] [] (.slice (some ⟨h, 0, none⟩) 1 1) (.slice none 0 0) V mB_ok (sliceOf (l := [x]) hb) ⟨none, 0, rfl, fun i x h => by simp at h⟩).mono ?_
  rintro e w' (⟨hg, _⟩ | ⟨h1, h2⟩)
  · have : x ≤ 16777215 := (hg 0 (by decide)).2
    omega
  · exact h2
theorem new_two (V : World) (h : Nat) (hb : Blk V h 3 #[.int .i64 0, .int .i64 (-1)]) : Calls Tryz.prog 11 #[.agg #[.int .i64 1, .int .i64 1, .int .i64 0], .slice (some ⟨h, 0, none⟩) 2 2, .slice none 0 0] V fun e w' => ∃ G : Nat, e = .returned (.pointer (some ⟨G, 0, none⟩)) ∧ Below V.heap.size V w' := by
  refine (gnew_any mB [0, -1] [] (.slice (some ⟨h, 0, none⟩) 2 2) (.slice none 0 0) V mB_ok (sliceOf (l := [0, -1]) hb) ⟨none, 0, rfl, fun i x h => by simp at h⟩).mono ?_
  rintro e w' (⟨_, g, rfl, _, b, _⟩ | ⟨h1, _⟩)
  · exact ⟨_, rfl, b⟩
  · exact (h1 (fun o ho => by
      obtain rfl : o = 0 := by have : o < 1 := ho; omega
      exact ⟨by decide, by decide⟩)).elim
theorem same_a (V : World) (u : Value) (h : Nat) (hu : SliceAt intE V u [0]) (hb : Blk V h 3 #[.int .i64 0]) : Calls Tryz.prog 21 #[viewV 1 3 u, viewV 1 3 (.slice (some ⟨h, 0, none⟩) 1 1)] V fun e w' => e = .returned (.bool true) ∧ Below V.heap.size V w' :=
  same13 1 3 u _ [0] V hu (sliceOf (l := [0]) hb) (by simp)
theorem same_b (V : World) (u : Value) (h : Nat) (hu : SliceAt intE V u [0, 1]) (hb : Blk V h 3 #[.int .i64 0, .int .i64 1]) : Calls Tryz.prog 21 #[viewV (-1) 0 u, viewV (-1) 0 (.slice (some ⟨h, 0, none⟩) 2 2)] V fun e w' => e = .returned (.bool true) ∧ Below V.heap.size V w' :=
  same13 (-1) 0 u _ [0, 1] V hu (sliceOf (l := [0, 1]) hb) (by simp)
abbrev xF : Hd := ⟨4, 0, 0, 0, 0, 6⟩
abbrev mA : Array Value := #[.int .i64 2, .int .i64 2, .int .i64 1]
/-- the ground of the examples while its cells are turned -/
structure Kn (n B : Nat) (w W : World) (g : GrP) (mm : List Int) (k : Int) : Prop where
  at_ : GrAt W g m13 mm k [false, false] (.slice none 0 0) []
  map : Blk W B 28 mA
  old : Below n w W
  far : n ≤ g.C ∧ n ≤ g.S
  ne : B ≠ g.C ∧ B ≠ g.S
theorem Kn.below {n B : Nat} {w W W' : World} {g : GrP} {mm : List Int} {k : Int} (h : Kn n B w W g mm k) (hn : n ≤ W.heap.size) (hb : Below W.heap.size W W') : Kn n B w W' g mm k :=
  ⟨h.at_.below hb, h.map.below hb h.map.lt, h.old.trans (hb.mono hn), h.far, h.ne⟩
theorem Kn.store {n B : Nat} {w W W' : World} {g : GrP} {mm mm' : List Int} {k k' : Int} (h : Kn n B w W g mm k) (hn : n ≤ W.heap.size) (hc : CellsAt W' g.C g.S mm' k') (hk : Keep (ofCells g.C g.S) W W') (hl : mm'.length = mm.length) : Kn n B w W' g mm' k' :=
  ⟨h.at_.cells' hc hk hl, h.map.keep hk (fun e => e.elim h.ne.1 h.ne.2), h.old.trans (hk.below hn (fun i hi e => by have := h.far; rcases e with e | e <;> omega)), h.far, h.ne⟩
theorem Kn.cell {n B : Nat} {w W : World} {g : GrP} {mm : List Int} {k : Int} (h : Kn n B w W g mm k) : W.cell? ⟨g.G, 3, none⟩ = some (cellsV g.C) ∧ W.cell? ⟨B, 0, none⟩ = some (.int .i64 2) ∧ W.cell? ⟨B, 1, none⟩ = some (.int .i64 2) ∧ W.cell? ⟨B, 2, none⟩ = some (.int .i64 1) :=
  ⟨h.at_.own.cell 3 _ rfl, h.map.cell 0 _ rfl, h.map.cell 1 _ rfl, h.map.cell 2 _ rfl⟩
set_option maxHeartbeats 8000000 in
theorem known13_law (w : World) : Calls Tryz.prog 7 #[] w fun e w' => e = .returned (.bool true) ∧ Below w.heap.size w w' := by
  have HT := Lib.hid fun V => two_any V
  have hhsz : Hid ((Tryz.prog.info? 77).map (·.size) = some 6) := Lib.hid hd_size
  have h11 : Hid (hA1.all (·.oneCell') = true) := Lib.hid (by simp [Value.oneCell'])
  obtain ⟨f, hf⟩ : ∃ f : Nat → Int, ∀ o, o < m13.o → ∃ u : Nat, packP (hd0 [5, 6] [true] o) = some u ∧ (u : Int) = f o := ⟨fun o => ((wordOf (hd0 [5, 6] [true] o) : Nat) : Int), fun o ho => ⟨_, hd0_pack (good13 o ho), rfl⟩⟩
  have HRC : Hid (∀ (h : Nat) (b : Nat) (V : World), Blk V h 3 #[.int .i64 5, .int .i64 6] → Blk V b 4 #[.bool true] → Calls Tryz.prog 14 #[.agg #[.int .i64 2, .int .i64 2, .int .i64 1], .slice (some ⟨h, 0, none⟩) 2 2, .slice (some ⟨b, 0, none⟩) 1 1] V fun e w' => ∃ S, e = .returned (.slice (some ⟨S, 0, none⟩) 24 24) ∧ Below V.heap.size V w') := Lib.hid fun h b V hh hb => by
    refine (rcells13_any m13 [5, 6] [true] (some ⟨h, 0, none⟩) 2 (some ⟨b, 0, none⟩) 1 V m13_ok ⟨_, _, rfl, fun i x hx => ⟨h, 0, rfl, ?_⟩⟩ ⟨_, _, rfl, fun i x hx => ⟨b, 0, rfl, ?_⟩⟩ f hf).mono ?_
    · rw [Nat.zero_add]
      exact hh.cell i _ (by match i, hx with | 0, hx => simp at hx; simp [hx] | 1, hx => simp at hx; simp [hx])
    · rw [Nat.zero_add]
      exact hb.cell i _ (by match i, hx with | 0, hx => simp at hx; simp [hx])
    · rintro e w' ⟨S, rfl, _, _, hb⟩
      exact ⟨S, rfl, hb⟩
  have HSz : Hid (∀ V, Calls Tryz.prog 43 #[.agg #[.int .i64 2, .int .i64 2, .int .i64 1]] V fun e w' => e = .returned (.int .i64 24) ∧ Below V.heap.size V w') := Lib.hid fun V => size_any m13 V m13_ok
  clear hf
  go_enter Tryz.func7, Tryz.ntmps7
  go_upto_region 2 with (go_at_call 26; refine (HT.out _).mono ?_; rintro e w1 ⟨g, rfl, h1, b1, n1⟩)
  have H1 := Lib.hid h1
  go_upto_region 4 with fail
  have c0 : w1.cell? ⟨g.G, 0, none⟩ = some (.int .i64 2) := h1.own.cell 0 _ rfl
  have c1 : w1.cell? ⟨g.G, 1, none⟩ = some (.int .i64 2) := h1.own.cell 1 _ rfl
  have c2 : w1.cell? ⟨g.G, 2, none⟩ = some (.int .i64 1) := h1.own.cell 2 _ rfl
  clear h1
  go_upto_region 5 with fail
  have M2 : Blk (w1.alloc (.cells #[.int .i64 2, .int .i64 2, .int .i64 1] 28)) w1.heap.size 28 #[.int .i64 2, .int .i64 2, .int .i64 1] := Blk.new _ _ _
  have b2 : Below w1.heap.size w1 (w1.alloc (.cells #[.int .i64 2, .int .i64 2, .int .i64 1] 28)) := by go_grown
  clear c0 c1 c2
  generalize hB2 : w1.heap.size = B2 at *
  generalize hW : w1.alloc (.cells #[.int .i64 2, .int .i64 2, .int .i64 1] 28) = w2 at *
  clear hW
  have d0 := M2.cell 0 _ rfl
  have d1 := M2.cell 1 _ rfl
  have d2 := M2.cell 2 _ rfl
  have b3 : Below w2.heap.size w2 ((w2.alloc (.cells #[.int .i64 5, .int .i64 6] 3)).alloc (.cells #[.bool true] 4)) := by go_grown
  have HRC3 := Lib.hid (HRC.out w2.heap.size (w2.heap.size + 1) ((w2.alloc (.cells #[.int .i64 5, .int .i64 6] 3)).alloc (.cells #[.bool true] 4)) ((Blk.new w2 _ _).alloc _) (blk_two w2 _ _ _))
  have HW1 := Lib.hid (show ∀ V, Below B2 w1 V → Calls Tryz.prog 31 #[grV g, .int .i64 1] V fun e w' => e = .returned (.tuple #[.agg hA1, .bool true]) ∧ Below V.heap.size V w' from fun V hV => gword_new (GrAt.below H1.out (by rw [hB2]; exact hV)) 1 (by decide) (good13 1 (by decide)))
  clear HRC HT
  go_upto_region 6 with (go_at_call 14; refine HRC3.out.mono ?_; rintro e w4 ⟨S, rfl, b4⟩)
  have b24 : Below w2.heap.size w2 w4 := b3.trans (b4.mono b3.size)
  have b14 : Below B2 w1 w4 := b2.trans (b24.mono (by have := b2.size; omega))
  have M4 := M2.below b24 M2.lt
  clear b3 b4 b24 d0 d1 d2 M2 HRC3
  go_upto_region 7 with (first
    | (go_at_call 31; (with_reducible refine (HW1.out _ b14).mono ?_); rintro e w5 ⟨rfl, b5⟩)
    | (refine wpList_store_row rfl 77 _ _ rfl w5.heap.size hA1 rfl rfl 77 zero6 (Blk.new w5 _ _) hhsz.out rfl h11.out ?_; (try simp only [Act.put, List.setIfInBounds_toArray, List.set_cons_zero, List.set_cons_succ])))
  rw [World.setRow_alloc_new]
  have A5 : Blk (w5.alloc (.cells hA1 77)) w5.heap.size 77 hA1 := Blk.new _ _ _
  have b45 : Below w4.heap.size w4 (w5.alloc (.cells hA1 77)) := b5.alloc b5.size _
  have M5 := M4.below b45 M4.lt
  have b15 : Below B2 w1 (w5.alloc (.cells hA1 77)) := b14.trans (b45.mono (by have := b14.size; omega))
  have hBA : B2 < w5.heap.size := Nat.lt_of_lt_of_le M4.lt b5.size
  generalize hA : w5.heap.size = A at *
  generalize hW : w5.alloc (.cells hA1 77) = w6 at *
  clear hW hA b5 b45 b14 M4 HW1
  have d0 := M5.cell 0 _ rfl
  have d1 := M5.cell 1 _ rfl
  have d2 := M5.cell 2 _ rfl
  go_upto_region 9 with (go_at_call 43; (with_reducible refine (HSz.out _).mono ?_); rintro e w7 ⟨rfl, b7⟩)
  have A7 := A5.below b7 A5.lt
  have M7 := M5.below b7 M5.lt
  have b17 : Below B2 w1 w7 := b15.trans (b7.mono (by have := b15.size; omega))
  clear d0 d1 d2 A5 M5 b15 b7
  have e0 := A7.cell 0 _ rfl
  have f0 := A7.free 0
  go_upto_region 10 with fail
  have A8 := A7.set 0 (.int .i64 4)
  have b18 : Below B2 w1 (w7.setCell ⟨A, 0, none⟩ (.int .i64 4)) := b17.setCell (p := ⟨A, 0, none⟩) (by simp; omega) _
  have M8 : Blk (w7.setCell ⟨A, 0, none⟩ (.int .i64 4)) B2 28 #[.int .i64 2, .int .i64 2, .int .i64 1] := M7.keep ((Keep.refl (fun b => b = A) w7).set (p := ⟨A, 0, none⟩) (fun _ => rfl) _) (by omega)
  generalize w7.setCell ⟨A, 0, none⟩ (.int .i64 4) = w8 at *
  clear e0 f0 A7 M7 b17
  obtain ⟨mm, hmm⟩ : ∃ mm, mm = mm0 m13 [5, 6] [true] := ⟨_, rfl⟩
  have hml : mm.length = 24 := by rw [hmm]; exact GrAt.size H1.out
  obtain ⟨v, hv1, hv2⟩ : ∃ v : Nat, packP xF = some v ∧ ∀ V, Calls Tryz.prog 136 #[.int .u64 (v : Int)] V fun e w' => e = .returned (.tuple #[hdV xF, .bool true]) ∧ Below V.heap.size V w' := ⟨wordOf xF, by rw [packP_eq, if_pos (by decide)], open_hd xF (by decide)⟩
  have h8 : Kn w.heap.size B2 w w8 g mm 6 := by
    have hg := GrAt.below H1.out (by rw [hB2]; exact b18)
    rw [← hmm] at hg
    have l1 := GrAt.lt H1.out (.inr (.inl rfl))
    have l2 := GrAt.lt H1.out (.inr (.inr (.inl rfl)))
    exact ⟨hg, M8, b1.trans (b18.mono (by have := b1.size; omega)), ⟨n1 _ (.inr (.inl rfl)), n1 _ (.inr (.inr (.inl rfl)))⟩, by omega, by omega⟩
  have hs8 : w.heap.size ≤ w8.heap.size := h8.old.size
  have HH8 := Lib.hid h8
  have HV1 := Lib.hid hv1
  have HV2 := Lib.hid hv2
  have HML := Lib.hid hml
  have HWd : Hid (∀ V, Calls Tryz.prog 44 #[.agg #[.int .i64 2, .int .i64 2, .int .i64 1], .int .i64 1] V fun e w' => e = .returned (.int .i64 3) ∧ Below V.heap.size V w') := Lib.hid fun V => mword_any m13 1 V (by decide)
  have HPk : Hid (∀ V, Calls Tryz.prog 45 #[.agg #[.int .i64 4, .int .i64 0, .int .i64 0, .int .i64 0, .int .i64 0, .int .i64 6]] V fun e w' => e = .returned (.int .u64 (v : Int)) ∧ Below V.heap.size V w') := Lib.hid fun V => packed13_any xF v hv1 V
  have SK := Lib.hid (show ∀ V, Below w8.heap.size w8 V → (V.cell? ⟨g.G, 3, none⟩ = some (cellsV g.C) ∧ V.cell? ⟨B2, 0, none⟩ = some (.int .i64 2) ∧ V.cell? ⟨B2, 1, none⟩ = some (.int .i64 2) ∧ V.cell? ⟨B2, 2, none⟩ = some (.int .i64 1)) ∧ V.cell? ⟨A, 0, none⟩ = some (.int .i64 4) ∧ V.cell? ⟨A, 1, none⟩ = some (.int .i64 0) ∧ V.cell? ⟨A, 2, none⟩ = some (.int .i64 0) ∧ V.cell? ⟨A, 3, none⟩ = some (.int .i64 0) ∧ V.cell? ⟨A, 4, none⟩ = some (.int .i64 0) ∧ V.cell? ⟨A, 5, none⟩ = some (.int .i64 6) from fun V hV => by
    have z := A8.below hV A8.lt
    exact ⟨(h8.below hs8 hV).cell, z.cell 0 _ rfl, z.cell 1 _ rfl, z.cell 2 _ rfl, z.cell 3 _ rfl, z.cell 4 _ rfl, z.cell 5 _ rfl⟩)
  have HSt : Hid (∀ V, Below w8.heap.size w8 V → Calls Tryz.prog 40 #[cellsV g.C, .int .i64 3, .int .u64 (v : Int)] V fun e w' => e = .returned (.bool true) ∧ CellsAt w' g.C g.S (mm.set 3 (v : Int)) 7 ∧ Keep (ofCells g.C g.S) V w') := Lib.hid fun V (hV : Below w8.heap.size w8 V) => store_yes g.C g.S mm 6 3 _ (v : Int) V (h8.below hs8 hV).at_.cells (List.getElem?_eq_getElem (by omega)) (by decide) (by decide)
  have nA : A ≠ g.C ∧ A ≠ g.S := by
    have l1 := GrAt.lt H1.out (.inr (.inl rfl))
    have l2 := GrAt.lt H1.out (.inr (.inr (.inl rfl)))
    constructor <;> omega
  have SA := Lib.hid (show ∀ V V', Below w8.heap.size w8 V → CellsAt V' g.C g.S (mm.set 3 (v : Int)) 7 → Keep (ofCells g.C g.S) V V' → (V'.cell? ⟨g.G, 3, none⟩ = some (cellsV g.C) ∧ V'.cell? ⟨B2, 0, none⟩ = some (.int .i64 2) ∧ V'.cell? ⟨B2, 1, none⟩ = some (.int .i64 2) ∧ V'.cell? ⟨B2, 2, none⟩ = some (.int .i64 1)) ∧ V'.cell? ⟨A, 0, none⟩ = some (.int .i64 4) ∧ V'.cell? ⟨A, 1, none⟩ = some (.int .i64 0) ∧ V'.cell? ⟨A, 2, none⟩ = some (.int .i64 0) ∧ V'.cell? ⟨A, 3, none⟩ = some (.int .i64 0) ∧ V'.cell? ⟨A, 4, none⟩ = some (.int .i64 0) ∧ V'.cell? ⟨A, 5, none⟩ = some (.int .i64 6) from fun V V' hV hc hk => by
    have z := (A8.below hV A8.lt).keep hk (fun e => e.elim nA.1 nA.2)
    exact ⟨((h8.below hs8 hV).store (Nat.le_trans hs8 hV.size) hc hk (by simp)).cell, z.cell 0 _ rfl, z.cell 1 _ rfl, z.cell 2 _ rfl, z.cell 3 _ rfl, z.cell 4 _ rfl, z.cell 5 _ rfl⟩)
  have bd := bdrewP w8
  clear h8 M8 b18 A8 hmm hml hv1 hv2 H1 HSz b1
  go_region_held3 (fun V => (V.cell? ⟨g.G, 3, none⟩ = some (cellsV g.C) ∧ V.cell? ⟨B2, 0, none⟩ = some (.int .i64 2) ∧ V.cell? ⟨B2, 1, none⟩ = some (.int .i64 2) ∧ V.cell? ⟨B2, 2, none⟩ = some (.int .i64 1)) ∧ V.cell? ⟨A, 0, none⟩ = some (.int .i64 4) ∧ V.cell? ⟨A, 1, none⟩ = some (.int .i64 0) ∧ V.cell? ⟨A, 2, none⟩ = some (.int .i64 0) ∧ V.cell? ⟨A, 3, none⟩ = some (.int .i64 0) ∧ V.cell? ⟨A, 4, none⟩ = some (.int .i64 0) ∧ V.cell? ⟨A, 5, none⟩ = some (.int .i64 6)) (first | exact SA.out _ _ bp hc hk | exact SK.out _ bp | exact SK.out _ bw | exact SK.out _ bd) (first
    | (go_at_call 44; (with_reducible refine (HWd.out _).mono ?_); rintro e w9 ⟨rfl, b9⟩; have bw := Below.trans bd (Below.mono b9 bd.size))
    | (go_at_call 45; (with_reducible refine (HPk.out _).mono ?_); rintro e wp ⟨rfl, b10⟩; have bp := Below.trans bw (Below.mono b10 bw.size))
    | (go_at_call 40; (with_reducible refine (HSt.out _ bp).mono ?_); rintro e wz ⟨rfl, hc, hk⟩))
  -- GEN
  have hs9 : w.heap.size ≤ w8.heap.size := HH8.out.old.size
  obtain ⟨m1, E1⟩ : ∃ x, x = mm.set 3 (v : Int) := ⟨_, rfl⟩
  have HHm1 := Lib.hid ((HH8.out.below hs8 bp).store (Nat.le_trans hs8 bp.size) hc hk (by simp))
  have HLm1 := Lib.hid (show (mm.set 3 (v : Int)).length = 24 from by rw [List.length_set]; exact HML.out)
  rw [← E1] at HHm1 HLm1
  have HEm1 := Lib.hid E1
  clear E1 SK SA HSt HPk HWd hc hk bp bd bw b9 b10 nA
  go_upto_region 11 with fail
  have bd11 := bdrewP wz
  have hs11 : w.heap.size ≤ wz.heap.size := HHm1.out.old.size
  have HIx : Hid (∀ V, Calls Tryz.prog 46 #[.agg #[.int .i64 2, .int .i64 2, .int .i64 1], .int .i64 0] V fun e w' => e = .returned (.int .i64 17) ∧ Below V.heap.size V w') := Lib.hid fun V => hold_any m13 0 V m13_ok (by decide)
  have HVl : Hid (∀ V, Calls Tryz.prog 47 #[.int .i64 1, .int .i64 3] V fun e w' => e = .returned (.int .u64 hold13) ∧ V = w') := Lib.hid fun V => holdof_one V
  have SK11 := Lib.hid (show ∀ V, Below wz.heap.size wz V → V.cell? ⟨g.G, 3, none⟩ = some (cellsV g.C) ∧ V.cell? ⟨B2, 0, none⟩ = some (.int .i64 2) ∧ V.cell? ⟨B2, 1, none⟩ = some (.int .i64 2) ∧ V.cell? ⟨B2, 2, none⟩ = some (.int .i64 1) from fun V hV => (HHm1.out.below hs11 hV).cell)
  have HSt11 : Hid (∀ V, Below wz.heap.size wz V → Calls Tryz.prog 40 #[cellsV g.C, .int .i64 17, .int .u64 hold13] V fun e w' => e = .returned (.bool true) ∧ CellsAt w' g.C g.S (m1.set 17 hold13) 8 ∧ Keep (ofCells g.C g.S) V w') := Lib.hid fun V (hV : Below wz.heap.size wz V) => store_yes g.C g.S m1 7 17 _ hold13 V (HHm1.out.below hs11 hV).at_.cells (List.getElem?_eq_getElem (by have := HLm1.out; omega)) (by decide) (by decide)
  have SA11 := Lib.hid (show ∀ V V', Below wz.heap.size wz V → CellsAt V' g.C g.S (m1.set 17 hold13) 8 → Keep (ofCells g.C g.S) V V' → V'.cell? ⟨g.G, 3, none⟩ = some (cellsV g.C) ∧ V'.cell? ⟨B2, 0, none⟩ = some (.int .i64 2) ∧ V'.cell? ⟨B2, 1, none⟩ = some (.int .i64 2) ∧ V'.cell? ⟨B2, 2, none⟩ = some (.int .i64 1) from fun V V' hV hc hk => ((HHm1.out.below hs11 hV).store (Nat.le_trans hs11 hV.size) hc hk (by simp)).cell)
  go_region_held3 (fun V => V.cell? ⟨g.G, 3, none⟩ = some (cellsV g.C) ∧ V.cell? ⟨B2, 0, none⟩ = some (.int .i64 2) ∧ V.cell? ⟨B2, 1, none⟩ = some (.int .i64 2) ∧ V.cell? ⟨B2, 2, none⟩ = some (.int .i64 1)) (first | exact SA11.out _ _ bi11 hc11 hk11 | exact SK11.out _ bi11 | exact SK11.out _ bd11) (first
    | (go_at_call 46; (with_reducible refine (HIx.out _).mono ?_); rintro e wi11 ⟨rfl, bj11⟩; have bi11 := Below.trans bd11 (Below.mono bj11 bd11.size))
    | (go_at_call 47; (with_reducible refine (HVl.out _).mono ?_); rintro e wv ⟨rfl, rfl⟩)
    | (go_at_call 40; (with_reducible refine (HSt11.out _ bi11).mono ?_); rintro e wz11 ⟨rfl, hc11, hk11⟩))
  have HHm2' := Lib.hid ((HHm1.out.below hs11 bi11).store (Nat.le_trans hs11 bi11.size) hc11 hk11 (by simp))
  have HLm2' := Lib.hid (show (m1.set 17 hold13).length = 24 from by rw [List.length_set]; exact HLm1.out)
  obtain ⟨m2, Em2⟩ : ∃ x, x = m1.set 17 hold13 := ⟨_, rfl⟩
  rw [← Em2] at HHm2' HLm2'
  have HHm2 := HHm2'
  have HLm2 := HLm2'
  have HEm2 := Lib.hid Em2
  clear HIx SK11 HSt11 SA11 hc11 hk11 bd11 bi11 HHm2' HLm2' Em2 HVl
  go_upto_region 12 with fail
  have bd12 := bdrewP wz11
  have hs12 : w.heap.size ≤ wz11.heap.size := HHm2.out.old.size
  have HIx : Hid (∀ V, Calls Tryz.prog 48 #[.agg #[.int .i64 2, .int .i64 2, .int .i64 1], .int .i64 0] V fun e w' => e = .returned (.int .i64 5) ∧ Below V.heap.size V w') := Lib.hid fun V => state_any m13 0 V m13_ok (by decide)
  have HVl : Hid (∀ V, Calls Tryz.prog 49 #[.int .i64 2, .int .i64 0] V fun e w' => e = .returned (.int .u64 2) ∧ V = w') := Lib.hid fun V => stateOf_any 2 0 V (by decide) (by decide)
  have SK12 := Lib.hid (show ∀ V, Below wz11.heap.size wz11 V → V.cell? ⟨g.G, 3, none⟩ = some (cellsV g.C) ∧ V.cell? ⟨B2, 0, none⟩ = some (.int .i64 2) ∧ V.cell? ⟨B2, 1, none⟩ = some (.int .i64 2) ∧ V.cell? ⟨B2, 2, none⟩ = some (.int .i64 1) from fun V hV => (HHm2.out.below hs12 hV).cell)
  have HSt12 : Hid (∀ V, Below wz11.heap.size wz11 V → Calls Tryz.prog 40 #[cellsV g.C, .int .i64 5, .int .u64 2] V fun e w' => e = .returned (.bool true) ∧ CellsAt w' g.C g.S (m2.set 5 2) 9 ∧ Keep (ofCells g.C g.S) V w') := Lib.hid fun V (hV : Below wz11.heap.size wz11 V) => store_yes g.C g.S m2 8 5 _ 2 V (HHm2.out.below hs12 hV).at_.cells (List.getElem?_eq_getElem (by have := HLm2.out; omega)) (by decide) (by decide)
  have SA12 := Lib.hid (show ∀ V V', Below wz11.heap.size wz11 V → CellsAt V' g.C g.S (m2.set 5 2) 9 → Keep (ofCells g.C g.S) V V' → V'.cell? ⟨g.G, 3, none⟩ = some (cellsV g.C) ∧ V'.cell? ⟨B2, 0, none⟩ = some (.int .i64 2) ∧ V'.cell? ⟨B2, 1, none⟩ = some (.int .i64 2) ∧ V'.cell? ⟨B2, 2, none⟩ = some (.int .i64 1) from fun V V' hV hc hk => ((HHm2.out.below hs12 hV).store (Nat.le_trans hs12 hV.size) hc hk (by simp)).cell)
  go_region_held3 (fun V => V.cell? ⟨g.G, 3, none⟩ = some (cellsV g.C) ∧ V.cell? ⟨B2, 0, none⟩ = some (.int .i64 2) ∧ V.cell? ⟨B2, 1, none⟩ = some (.int .i64 2) ∧ V.cell? ⟨B2, 2, none⟩ = some (.int .i64 1)) (first | exact SA12.out _ _ bi12 hc12 hk12 | exact SK12.out _ bi12 | exact SK12.out _ bd12) (first
    | (go_at_call 48; (with_reducible refine (HIx.out _).mono ?_); rintro e wi12 ⟨rfl, bj12⟩; have bi12 := Below.trans bd12 (Below.mono bj12 bd12.size))
    | (go_at_call 49; (with_reducible refine (HVl.out _).mono ?_); rintro e wv ⟨rfl, rfl⟩)
    | (go_at_call 40; (with_reducible refine (HSt12.out _ bi12).mono ?_); rintro e wz12 ⟨rfl, hc12, hk12⟩))
  have HHm3' := Lib.hid ((HHm2.out.below hs12 bi12).store (Nat.le_trans hs12 bi12.size) hc12 hk12 (by simp))
  have HLm3' := Lib.hid (show (m2.set 5 2).length = 24 from by rw [List.length_set]; exact HLm2.out)
  obtain ⟨m3, Em3⟩ : ∃ x, x = m2.set 5 2 := ⟨_, rfl⟩
  rw [← Em3] at HHm3' HLm3'
  have HHm3 := HHm3'
  have HLm3 := HLm3'
  have HEm3 := Lib.hid Em3
  clear HIx SK12 HSt12 SA12 hc12 hk12 bd12 bi12 HHm3' HLm3' Em3 HVl
  go_upto_region 13 with fail
  have bd13 := bdrewP wz12
  have hs13 : w.heap.size ≤ wz12.heap.size := HHm3.out.old.size
  have HIx : Hid (∀ V, Calls Tryz.prog 48 #[.agg #[.int .i64 2, .int .i64 2, .int .i64 1], .int .i64 1] V fun e w' => e = .returned (.int .i64 11) ∧ Below V.heap.size V w') := Lib.hid fun V => state_any m13 1 V m13_ok (by decide)
  have HVl : Hid (∀ V, Calls Tryz.prog 49 #[.int .i64 2, .int .i64 0] V fun e w' => e = .returned (.int .u64 2) ∧ V = w') := Lib.hid fun V => stateOf_any 2 0 V (by decide) (by decide)
  have SK13 := Lib.hid (show ∀ V, Below wz12.heap.size wz12 V → V.cell? ⟨g.G, 3, none⟩ = some (cellsV g.C) ∧ V.cell? ⟨B2, 0, none⟩ = some (.int .i64 2) ∧ V.cell? ⟨B2, 1, none⟩ = some (.int .i64 2) ∧ V.cell? ⟨B2, 2, none⟩ = some (.int .i64 1) from fun V hV => (HHm3.out.below hs13 hV).cell)
  have HSt13 : Hid (∀ V, Below wz12.heap.size wz12 V → Calls Tryz.prog 40 #[cellsV g.C, .int .i64 11, .int .u64 2] V fun e w' => e = .returned (.bool true) ∧ CellsAt w' g.C g.S (m3.set 11 2) 10 ∧ Keep (ofCells g.C g.S) V w') := Lib.hid fun V (hV : Below wz12.heap.size wz12 V) => store_yes g.C g.S m3 9 11 _ 2 V (HHm3.out.below hs13 hV).at_.cells (List.getElem?_eq_getElem (by have := HLm3.out; omega)) (by decide) (by decide)
  have SA13 := Lib.hid (show ∀ V V', Below wz12.heap.size wz12 V → CellsAt V' g.C g.S (m3.set 11 2) 10 → Keep (ofCells g.C g.S) V V' → V'.cell? ⟨g.G, 3, none⟩ = some (cellsV g.C) ∧ V'.cell? ⟨B2, 0, none⟩ = some (.int .i64 2) ∧ V'.cell? ⟨B2, 1, none⟩ = some (.int .i64 2) ∧ V'.cell? ⟨B2, 2, none⟩ = some (.int .i64 1) from fun V V' hV hc hk => ((HHm3.out.below hs13 hV).store (Nat.le_trans hs13 hV.size) hc hk (by simp)).cell)
  go_region_held3 (fun V => V.cell? ⟨g.G, 3, none⟩ = some (cellsV g.C) ∧ V.cell? ⟨B2, 0, none⟩ = some (.int .i64 2) ∧ V.cell? ⟨B2, 1, none⟩ = some (.int .i64 2) ∧ V.cell? ⟨B2, 2, none⟩ = some (.int .i64 1)) (first | exact SA13.out _ _ bi13 hc13 hk13 | exact SK13.out _ bi13 | exact SK13.out _ bd13) (first
    | (go_at_call 48; (with_reducible refine (HIx.out _).mono ?_); rintro e wi13 ⟨rfl, bj13⟩; have bi13 := Below.trans bd13 (Below.mono bj13 bd13.size))
    | (go_at_call 49; (with_reducible refine (HVl.out _).mono ?_); rintro e wv ⟨rfl, rfl⟩)
    | (go_at_call 40; (with_reducible refine (HSt13.out _ bi13).mono ?_); rintro e wz13 ⟨rfl, hc13, hk13⟩))
  have HHm4' := Lib.hid ((HHm3.out.below hs13 bi13).store (Nat.le_trans hs13 bi13.size) hc13 hk13 (by simp))
  have HLm4' := Lib.hid (show (m3.set 11 2).length = 24 from by rw [List.length_set]; exact HLm3.out)
  obtain ⟨m4, Em4⟩ : ∃ x, x = m3.set 11 2 := ⟨_, rfl⟩
  rw [← Em4] at HHm4' HLm4'
  have HHm4 := HHm4'
  have HLm4 := HLm4'
  have HEm4 := Lib.hid Em4
  clear HIx SK13 HSt13 SA13 hc13 hk13 bd13 bi13 HHm4' HLm4' Em4 HVl
  go_upto_region 14 with fail
  have F3 : m4[3]? = some (v : Int) := by rw [HEm4.out, List.getElem?_set_ne (by decide), HEm3.out, List.getElem?_set_ne (by decide), HEm2.out, List.getElem?_set_ne (by decide), HEm1.out, List.getElem?_set_self (by have := HML.out; omega)]
  have F17 : m4[17]? = some hold13 := by rw [HEm4.out, List.getElem?_set_ne (by decide), HEm3.out, List.getElem?_set_ne (by decide), HEm2.out, List.getElem?_set_self (by have := HLm1.out; omega)]
  have F5 : m4[5]? = some 2 := by rw [HEm4.out, List.getElem?_set_ne (by decide), HEm3.out, List.getElem?_set_self (by have := HLm2.out; omega)]
  have F11 : m4[11]? = some 2 := by rw [HEm4.out, List.getElem?_set_self (by have := HLm3.out; omega)]
  have HF := Lib.hid (And.intro F3 (And.intro F17 (And.intro F5 F11)))
  clear F3 F17 F5 F11
  have hs14 : w.heap.size ≤ wz13.heap.size := HHm4.out.old.size
  have HVa : Hid (Calls Tryz.prog 22 #[grV g, .int .i64 1] wz13 fun e w' => ∃ u, e = .returned (viewV 1 3 u) ∧ SliceAt intE w' u [0] ∧ (∀ b, u.ownBlock = some b → wz13.heap.size ≤ b) ∧ Below wz13.heap.size wz13 w') := Lib.hid (by
    have z := gview_fat HHm4.out.at_ 1 (by decide) v HF.out.1 xF rfl 0 rfl (by decide) 1 3 hold13 HF.out.2.1 HV2.out heldby_one
    rw [show notO 1 (waitG m13 m4 (((0 : Nat) : Int) * 8 + 2) m13.t) = [0] from by rw [show waitG m13 m4 (((0 : Nat) : Int) * 8 + 2) m13.t = [0, 1] from wait13 HF.out.2.2.1 HF.out.2.2.2]; rfl] at z
    exact z)
  go_upto_region 15 with (go_at_call 22; (with_reducible refine HVa.out.mono ?_); rintro e wv ⟨u, rfl, ⟨a1, c1, rfl, hu⟩, hub, bv⟩)
  have DA : Blk (wv.alloc (.cells (viewA 1 3 (.slice a1 1 c1)) 58)) wv.heap.size 58 (viewA 1 3 (.slice a1 1 c1)) := Blk.new _ _ _
  have UA : SliceAt intE wv (.slice a1 1 c1) [0] := ⟨a1, c1, rfl, hu⟩
  have bvw : Below wz13.heap.size wz13 (wv.alloc (.cells (viewA 1 3 (.slice a1 1 c1)) 58)) := bv.alloc bv.size _
  replace UA := UA.below (show Below wv.heap.size wv (wv.alloc (.cells (viewA 1 3 (.slice a1 1 c1)) 58)) from by go_grown)
  have lC := GrAt.lt HHm4.out.at_ (.inr (.inl rfl))
  have lS := GrAt.lt HHm4.out.at_ (.inr (.inr (.inl rfl)))
  have lv := bv.size
  have NA := Lib.hid (show ¬ ofCells g.C g.S wv.heap.size from fun e => by rcases e with e | e <;> omega)
  have NU := Lib.hid (show ∀ b, (Value.slice a1 1 c1).ownBlock = some b → ¬ ofCells g.C g.S b from fun b hb e => by have := hub b hb; rcases e with e | e <;> omega)
  have HHn := Lib.hid (HHm4.out.below hs14 bvw)
  clear HVa hu hub bv bvw lC lS lv HHm4
  have HHm4 := HHn
  clear HHn
  generalize wv.heap.size = BA at *
  generalize wv.alloc (.cells (viewA 1 3 (.slice a1 1 c1)) 58) = w15 at *
  have bd15 := bdrewP w15
  have hs15 : w.heap.size ≤ w15.heap.size := HHm4.out.old.size
  have HIx : Hid (∀ V, Calls Tryz.prog 46 #[.agg #[.int .i64 2, .int .i64 2, .int .i64 1], .int .i64 0] V fun e w' => e = .returned (.int .i64 17) ∧ Below V.heap.size V w') := Lib.hid fun V => hold_any m13 0 V m13_ok (by decide)
  have SK15 := Lib.hid (show ∀ V, Below w15.heap.size w15 V → V.cell? ⟨g.G, 3, none⟩ = some (cellsV g.C) ∧ V.cell? ⟨B2, 0, none⟩ = some (.int .i64 2) ∧ V.cell? ⟨B2, 1, none⟩ = some (.int .i64 2) ∧ V.cell? ⟨B2, 2, none⟩ = some (.int .i64 1) from fun V hV => (HHm4.out.below hs15 hV).cell)
  have HSt15 : Hid (∀ V, Below w15.heap.size w15 V → Calls Tryz.prog 40 #[cellsV g.C, .int .i64 17, .int .u64 0] V fun e w' => e = .returned (.bool true) ∧ CellsAt w' g.C g.S (m4.set 17 0) 11 ∧ Keep (ofCells g.C g.S) V w') := Lib.hid fun V (hV : Below w15.heap.size w15 V) => store_yes g.C g.S m4 10 17 _ 0 V (HHm4.out.below hs15 hV).at_.cells (List.getElem?_eq_getElem (by have := HLm4.out; omega)) (by decide) (by decide)
  have SA15 := Lib.hid (show ∀ V V', Below w15.heap.size w15 V → CellsAt V' g.C g.S (m4.set 17 0) 11 → Keep (ofCells g.C g.S) V V' → V'.cell? ⟨g.G, 3, none⟩ = some (cellsV g.C) ∧ V'.cell? ⟨B2, 0, none⟩ = some (.int .i64 2) ∧ V'.cell? ⟨B2, 1, none⟩ = some (.int .i64 2) ∧ V'.cell? ⟨B2, 2, none⟩ = some (.int .i64 1) from fun V V' hV hc hk => ((HHm4.out.below hs15 hV).store (Nat.le_trans hs15 hV.size) hc hk (by simp)).cell)
  go_region_held3 (fun V => V.cell? ⟨g.G, 3, none⟩ = some (cellsV g.C) ∧ V.cell? ⟨B2, 0, none⟩ = some (.int .i64 2) ∧ V.cell? ⟨B2, 1, none⟩ = some (.int .i64 2) ∧ V.cell? ⟨B2, 2, none⟩ = some (.int .i64 1)) (first | exact SA15.out _ _ bi15 hc15 hk15 | exact SK15.out _ bi15 | exact SK15.out _ bd15) (first
    | (go_at_call 46; (with_reducible refine (HIx.out _).mono ?_); rintro e wi15 ⟨rfl, bj15⟩; have bi15 := Below.trans bd15 (Below.mono bj15 bd15.size))
    | (go_at_call 40; (with_reducible refine (HSt15.out _ bi15).mono ?_); rintro e wz15 ⟨rfl, hc15, hk15⟩))
  have HHm5' := Lib.hid ((HHm4.out.below hs15 bi15).store (Nat.le_trans hs15 bi15.size) hc15 hk15 (by simp))
  have HLm5' := Lib.hid (show (m4.set 17 0).length = 24 from by rw [List.length_set]; exact HLm4.out)
  obtain ⟨m5, Em5⟩ : ∃ x, x = m4.set 17 0 := ⟨_, rfl⟩
  rw [← Em5] at HHm5' HLm5'
  have HHm5 := HHm5'
  have HLm5 := HLm5'
  have HEm5 := Lib.hid Em5
  have DA2 := (DA.below bi15 DA.lt).keep hk15 NA.out
  have UA2 := SliceAt.keepV (UA.below bi15) hk15 NU.out
  clear DA UA
  clear HIx SK15 HSt15 SA15 hc15 hk15 bd15 bi15 HHm5' HLm5' Em5
  go_upto_region 16 with fail
  have G3 : m5[3]? = some (v : Int) := by rw [HEm5.out, List.getElem?_set_ne (by decide)]; exact HF.out.1
  have G17 : m5[17]? = some 0 := by rw [HEm5.out, List.getElem?_set_self (by have := HLm4.out; omega)]
  have G5 : m5[5]? = some 2 := by rw [HEm5.out, List.getElem?_set_ne (by decide)]; exact HF.out.2.2.1
  have G11 : m5[11]? = some 2 := by rw [HEm5.out, List.getElem?_set_ne (by decide)]; exact HF.out.2.2.2
  have HK := Lib.hid (And.intro G3 (And.intro G17 (And.intro G5 G11)))
  clear G3 G17 G5 G11
  have hs16 : w.heap.size ≤ wz15.heap.size := HHm5.out.old.size
  have HVa : Hid (Calls Tryz.prog 22 #[grV g, .int .i64 1] wz15 fun e w' => ∃ u, e = .returned (viewV (-1) 0 u) ∧ SliceAt intE w' u [0, 1] ∧ (∀ b, u.ownBlock = some b → wz15.heap.size ≤ b) ∧ Below wz15.heap.size wz15 w') := Lib.hid (by
    have z := gview_fat HHm5.out.at_ 1 (by decide) v HK.out.1 xF rfl 0 rfl (by decide) (-1) 0 0 HK.out.2.1 HV2.out heldby_zero
    rw [show notO (-1) (waitG m13 m5 (((0 : Nat) : Int) * 8 + 2) m13.t) = [0, 1] from by rw [show waitG m13 m5 (((0 : Nat) : Int) * 8 + 2) m13.t = [0, 1] from wait13 HK.out.2.2.1 HK.out.2.2.2]; rfl] at z
    exact z)
  go_upto_region 17 with (go_at_call 22; (with_reducible refine HVa.out.mono ?_); rintro e wv ⟨u, rfl, ⟨a2, c2, rfl, hu⟩, hub, bv⟩)
  have DB : Blk (wv.alloc (.cells (viewA (-1) 0 (.slice a2 2 c2)) 58)) wv.heap.size 58 (viewA (-1) 0 (.slice a2 2 c2)) := Blk.new _ _ _
  have bvw : Below wz15.heap.size wz15 (wv.alloc (.cells (viewA (-1) 0 (.slice a2 2 c2)) 58)) := bv.alloc bv.size _
  have UB := SliceAt.below (w1 := wv.alloc (.cells (viewA (-1) 0 (.slice a2 2 c2)) 58)) (show SliceAt intE wv (.slice a2 2 c2) [0, 1] from ⟨a2, c2, rfl, hu⟩) (by go_grown)
  have DA3 := DA2.below bvw DA2.lt
  have UA3 := UA2.below bvw
  have hw17 := HHm5.out.old.trans (bvw.mono hs16)
  generalize wv.heap.size = BB at *
  generalize wv.alloc (.cells (viewA (-1) 0 (.slice a2 2 c2)) 58) = w17 at *
  clear DA2 UA2 bvw bv hu hub HVa HHm5 HHm4 HHm3 HHm2 HHm1 HF HK HEm1 HEm2 HEm3 HEm4 HEm5 HLm1 HLm2 HLm3 HLm4 HLm5 HV1 HV2 NA NU HH8 n1
  go_upto_region 18 with fail
  have hZ1 : Hid ((hdArr hdZ).all (·.oneCell') = true) := Lib.hid (by simp [Value.oneCell'])
  have bc := Below.refl w17.heap.size w17
  go_upto_region 21 with (first
    | (go_at_call 29; (with_reducible refine (act_nil 0 0 0 0 _).mono ?_); rintro e wx ⟨rfl, bx⟩; replace bc := Below.trans bc (Below.mono bx bc.size))
    | (go_at_call 28; (with_reducible refine (call_nil 0 0 0 0 0 _).mono ?_); rintro e wx ⟨rfl, bx⟩; replace bc := Below.trans bc (Below.mono bx bc.size))
    | (go_at_call 30; (with_reducible refine (return_nil 0 0 0 0 _).mono ?_); rintro e wx ⟨rfl, bx⟩; replace bc := Below.trans bc (Below.mono bx bc.size)))
  go_upto_region 22 with (first
    | (go_at_call 31; (with_reducible refine (gword_nil 0 _).mono ?_); rintro e w5 ⟨rfl, bx⟩; replace bc := Below.trans bc (Below.mono bx bc.size))
    | (refine wpList_store_row rfl 77 _ _ rfl w5.heap.size (hdArr hdZ) rfl rfl 77 zero6 (Blk.new w5 _ _) hhsz.out rfl hZ1.out ?_; (try simp only [Act.put, List.setIfInBounds_toArray, List.set_cons_zero, List.set_cons_succ])))
  rw [World.setRow_alloc_new]
  replace bc := Below.alloc bc bc.size (.cells (hdArr hdZ) 77)
  generalize w5.alloc (.cells (hdArr hdZ) 77) = w22 at *
  go_upto_region 23 with (go_at_call 11; have bq := Below.alloc bc bc.size (.cells #[.int .i64 16777215] 3); (with_reducible refine (new_yes 16777215 (by decide) _ _ (Blk.new _ _ _)).mono ?_); rintro e wx ⟨gn, rfl, bx⟩; replace bc := Below.trans bq (Below.mono bx bq.size); clear bq)
  have HWk := Lib.hid fun V => works13_any V
  have HUA := Lib.hid (show (SliceAt intE w17 (.slice a1 1 c1) [0]) ∧ SliceAt intE w17 (.slice a2 2 c2) [0, 1] from ⟨UA3, UB⟩)
  have HCe := Lib.hid (show ∀ V, Below w17.heap.size w17 V → V.cell? ⟨BA, 0, none⟩ = some (.int .i64 1) ∧ V.cell? ⟨BA, 1, none⟩ = some (.int .i64 3) ∧ V.cell? ⟨BA, 2, none⟩ = some (.slice a1 1 c1) ∧ V.cell? ⟨BB, 0, none⟩ = some (.int .i64 (-1)) ∧ V.cell? ⟨BB, 1, none⟩ = some (.int .i64 0) ∧ V.cell? ⟨BB, 2, none⟩ = some (.slice a2 2 c2) from fun V hV => ⟨(DA3.below hV DA3.lt).cell 0 _ rfl, (DA3.below hV DA3.lt).cell 1 _ rfl, (DA3.below hV DA3.lt).cell 2 _ rfl, (DB.below hV DB.lt).cell 0 _ rfl, (DB.below hV DB.lt).cell 1 _ rfl, (DB.below hV DB.lt).cell 2 _ rfl⟩)
  clear DA3 UA3 DB UB
  have hfld : ∀ W, (Instr.field 58 (viewV (-1) 0 (.slice none 0 0)) 0).run Tryz.prog W = .ok (.int .i64 (-1)) W := fun _ => by kernel_rfl
  go_wp2_with (first
    | (go_at_call 13; (with_reducible refine (HWk.out _).mono ?_); rintro e wx ⟨rfl, bx⟩; replace bc := Below.trans bc (Below.mono bx bc.size); obtain ⟨x0, x1, x2, x3, x4, x5⟩ := HCe.out _ bc)
    | (go_at_call 21; have bq := Below.alloc bc bc.size (.cells #[.int .i64 0] 3); (with_reducible refine (same_a _ _ _ (HUA.out.1.below bq) (Blk.new _ _ _)).mono ?_); rintro e wx ⟨rfl, bx⟩; replace bc := Below.trans bq (Below.mono bx bq.size); clear bq; obtain ⟨x0, x1, x2, x3, x4, x5⟩ := HCe.out _ bc)
    | (go_at_call 21; have bq := Below.alloc bc bc.size (.cells #[.int .i64 0, .int .i64 1] 3); (with_reducible refine (same_b _ _ _ (HUA.out.2.below bq) (Blk.new _ _ _)).mono ?_); rintro e wx ⟨rfl, bx⟩; replace bc := Below.trans bq (Below.mono bx bq.size); clear bq)
    | (go_at_call 18; (with_reducible refine (events_nil _).mono ?_); rintro e wx ⟨rfl, rfl⟩)
    | (go_at_call 22; (with_reducible refine (gview_nil 0 _).mono ?_); rintro e wx ⟨rfl, bx⟩; replace bc := Below.trans bc (Below.mono bx bc.size))
    | (go_at_call 11; have bq := Below.alloc bc bc.size (.cells #[.int .i64 16777216] 3); (with_reducible refine (new_over 16777216 (by decide) _ _ (Blk.new _ _ _)).mono ?_); rintro e wx ⟨rfl, bx⟩; replace bc := Below.trans bq (Below.mono bx bq.size); clear bq)
    | (go_at_call 11; have bq := Below.alloc bc bc.size (.cells #[.int .i64 0, .int .i64 (-1)] 3); (with_reducible refine (new_two _ _ (Blk.new _ _ _)).mono ?_); rintro e wx ⟨g2, rfl, bx⟩; replace bc := Below.trans bq (Below.mono bx bq.size); clear bq)
    | (go_at_call 11; (with_reducible refine (gnew_no _ _ 0 0 0 _ (by decide)).mono ?_); rintro e wx ⟨rfl, bx⟩; replace bc := Below.trans bc (Below.mono bx bc.size))
    | (go_at_call 12; (with_reducible refine (greal_no _ _ 0 0 0 _ (by decide)).mono ?_); rintro e wx ⟨rfl, bx⟩; replace bc := Below.trans bc (Below.mono bx bc.size)))
  go_ret
  exact ⟨rfl, hw17.trans (bc.mono hw17.size)⟩
end Go.Proofs.YtbaehokffdpopaaGreat
