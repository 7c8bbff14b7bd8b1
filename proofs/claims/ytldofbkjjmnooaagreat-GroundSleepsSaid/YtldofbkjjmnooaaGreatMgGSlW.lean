/- Grounds at first: New, words, views; law 13's Same. -/
import Derived.Test.YtldofbkjjmnooaaGreatMgGSlV
namespace Go.Proofs.YtldofbkjjmnooaaGreat
open Go.ChangeShapes Go.WideShapes Go.ChangeAt Go.RowKit Wd
set_option linter.unusedVariables false
set_option maxRecDepth 100000
set_option linter.unusedSimpArgs false
theorem open_hd (x : Hd) (hx : okP x) : ∀ V, Calls Tryz.prog 212 #[.int .u64 ((wordOf x : Nat) : Int)] V fun e w' => e = .returned (.tuple #[hdV x, .bool true]) ∧ Below V.heap.size V w' := by
  intro V
  have h := open_any (wordOf x) V (by have := word_lt x hx; omega)
  rw [open_word x hx] at h
  exact h
theorem wordsGo_at (f : Nat → Int) (mm : List Int) (o : Nat) : ∀ j, o < j → 2 + j ≤ mm.length → (wordsGo f mm j)[wordN o]? = some (f o)
  | 0, h, _ => by omega
  | j + 1, h, hl => by
    rw [wordsGo]
    by_cases e : o = j
    · subst e
      rw [List.getElem?_set_self (by rw [wordsGo_len]; unfold wordN; omega)]
    · rw [List.getElem?_set_ne (by unfold wordN; omega)]
      exact wordsGo_at f mm o j (by omega) (by omega)
theorem safesGo_other (m : Mp) (mm : List Int) (i : Nat) (h : ∀ j : Nat, j < m.t → i ≠ safeN m j) : ∀ j, j ≤ m.t → (safesGo m mm j)[i]? = mm[i]?
  | 0, _ => rfl
  | j + 1, hj => by
    rw [safesGo, List.getElem?_set_ne (Ne.symm (h j (by omega)))]
    exact safesGo_other m mm i h j (by omega)
theorem safesGo_at (m : Mp) (mm : List Int) (t : Nat) : ∀ j, t < j → j ≤ m.t → sizeN m ≤ mm.length → (safesGo m mm j)[safeN m t]? = some 1
  | 0, h, _, _ => by omega
  | j + 1, h, hj, hl => by
    rw [safesGo]
    by_cases e : t = j
    · subst e
      rw [List.getElem?_set_self (by rw [safesGo_len]; unfold safeN nxN; unfold sizeN at hl; omega)]
    · rw [List.getElem?_set_ne (by unfold safeN nxN; omega)]
      exact safesGo_at m mm t j (by omega) (by omega) hl
theorem layL_other (m : Mp) (mm : List Int) (i : Nat) (h1 : i ≠ 1) (h : ∀ k : Int, 0 ≤ k → k < m.n → i ≠ linkN m k) : (layL m mm)[i]? = mm[i]? := by
  unfold layL
  rw [List.getElem?_set_ne (Ne.symm h1)]
  exact layGo_other m mm i h _ (Nat.le_refl _)
theorem mm0_word (m : Mp) (H : List Int) (F : List Bool) (o : Nat) (ho : o < m.o) : (mm0 m H F)[wordN o]? = some ((wordOf (hd0 H F o) : Nat) : Int) := by
  unfold mm0 mmF
  rw [layL_other _ _ _ (by unfold wordN; omega) (fun k h1 h2 => by unfold wordN linkN monN; omega), safesGo_other _ _ _ (fun j hj => by unfold wordN safeN nxN; omega) _ (Nat.le_refl _)]
  exact wordsGo_at (fun o => ((wordOf (hd0 H F o) : Nat) : Int)) _ o m.o ho (by rw [List.length_replicate]; unfold sizeN; omega)
theorem mm0_safe (m : Mp) (H : List Int) (F : List Bool) (t : Nat) (ht : t < m.t) : (mm0 m H F)[safeN m t]? = some 1 := by
  unfold mm0 mmF
  rw [layL_other _ _ _ (by unfold safeN nxN; omega) (fun k h1 h2 => by unfold safeN nxN linkN monN; omega)]
  exact safesGo_at m _ t m.t ht (Nat.le_refl _) (by rw [wordsGo_len, List.length_replicate]; exact Nat.le_refl _)
section
variable {w w1 : World} {g : GrP} {m : Mp} {mm mm' : List Int} {k k' : Int} {l l' : List Bool} {vo vo' : Value} {E E' : List Ev} {H : List Int} {F : List Bool}
theorem gword_new (h : GrAt w g m (mm0 m H F) k l vo E) (o : Nat) (ho : o < m.o) (hg : goodO H o) :
    Calls Tryz.prog 123 #[grV g, .int .i64 (o : Int)] w fun e w' => e = .returned (.tuple #[hdV (hd0 H F o), .bool true]) ∧ Below w.heap.size w w' :=
  gword_any h o ho _ (mm0_word m H F o ho) (hd0 H F o) true (open_hd _ (hd0_ok.2 hg))
theorem gview_new (h : GrAt w g m (mm0 m H F) k l vo E) (o : Nat) (ho : o < m.o) (hg : goodO H o) :
    Calls Tryz.prog 49 #[grV g, .int .i64 (o : Int)] w fun e w' => e = .returned (viewV (-1) 0 (.slice none 0 0)) ∧ Below w.heap.size w w' :=
  gview_plain h o ho _ (mm0_word m H F o ho) (hd0 H F o) (by show tagO F o = 0 ∨ tagO F o = 1; unfold tagO; split <;> simp) (open_hd _ (hd0_ok.2 hg))
end
theorem gnew_any (m : Mp) (H : List Int) (F : List Bool) (hv fv : Value) (w : World) (hm : m.ok) (hh : SliceAt (Value.int .i64) w hv H) (hf : SliceAt Value.bool w fv F) :
    Calls Tryz.prog 41 #[mapV m, hv, fv] w (NewPost w m H F) := by
  have HL := Lib.hid fun V (hb : Below w.heap.size w V) => glaid_any m H F hv fv V hm (hh.below hb) (hf.below hb)
  clear hh hf
  go_enter Tryz.func41, Tryz.ntmps41
  go_upto_region 1 with fail
  generalize hW : w.alloc _ = W
  have bW : Below w.heap.size w W := by rw [← hW]; go_grown
  have m0 : Blk W w.heap.size 24 (mapCs m) := by rw [← hW]; exact Blk.new w _ _
  clear hW
  obtain ⟨c0, c1, c2⟩ := map3 m0
  have HL1 := Lib.hid (HL.out W bW)
  have hs := bW.size
  go_wp2_with (go_at_call 121; refine HL1.out.mono ?_; rintro e w2 (⟨hgd, g, rfl, h2, b2, n2⟩ | ⟨hgd, rfl, b2⟩))
  · go_ret
    exact .inl ⟨hgd, g, rfl, h2, bW.trans (b2.mono hs), fun b hb => Nat.le_trans hs (n2 b hb)⟩
  · go_ret
    exact .inr ⟨hgd, rfl, bW.trans (b2.mono hs)⟩
theorem laid_no (kv hv fv : Value) (t o n : Int) (w : World) (h : rightS t o n = false) :
    Calls Tryz.prog 121 #[kv, .agg #[.int .i64 t, .int .i64 o, .int .i64 n], hv, fv] w fun e w' => e = .returned (.pointer none) ∧ Below w.heap.size w w' := by
  have HR := Lib.hid fun V => right_any t o n V
  rw [h] at HR
  clear h
  go_enter Tryz.func121, Tryz.ntmps121
  go_upto_region 1 with fail
  generalize hW : w.alloc _ = W
  have bW : Below w.heap.size w W := by rw [← hW]; go_grown
  have m0 : Blk W w.heap.size 24 #[.int .i64 t, .int .i64 o, .int .i64 n] := by rw [← hW]; exact Blk.new w _ _
  clear hW
  have c0 := m0.cell 0 _ rfl
  have c1 := m0.cell 1 _ rfl
  have c2 := m0.cell 2 _ rfl
  go_wp2_with (go_at_call 52; refine (HR.out _).mono ?_; rintro e w2 ⟨rfl, b2⟩)
  go_ret
  exact ⟨rfl, bW.trans (b2.mono bW.size)⟩
theorem gnew_no (hv fv : Value) (t o n : Int) (w : World) (h : rightS t o n = false) :
    Calls Tryz.prog 41 #[.agg #[.int .i64 t, .int .i64 o, .int .i64 n], hv, fv] w fun e w' => e = .returned (.pointer none) ∧ Below w.heap.size w w' := by
  have HL := Lib.hid fun V => laid_no (.func (.func 13) #[] #[]) hv fv t o n V h
  clear h
  go_enter Tryz.func41, Tryz.ntmps41
  go_upto_region 1 with fail
  generalize hW : w.alloc _ = W
  have bW : Below w.heap.size w W := by rw [← hW]; go_grown
  have m0 : Blk W w.heap.size 24 #[.int .i64 t, .int .i64 o, .int .i64 n] := by rw [← hW]; exact Blk.new w _ _
  clear hW
  have c0 := m0.cell 0 _ rfl
  have c1 := m0.cell 1 _ rfl
  have c2 := m0.cell 2 _ rfl
  go_wp2_with (go_at_call 121; refine (HL.out _).mono ?_; rintro e w2 ⟨rfl, b2⟩)
  go_ret
  exact ⟨rfl, bW.trans (b2.mono bW.size)⟩
theorem greal_no (hv fv : Value) (t o n : Int) (w : World) (h : rightS t o n = false) :
    Calls Tryz.prog 42 #[.agg #[.int .i64 t, .int .i64 o, .int .i64 n], hv, fv] w fun e w' => e = .returned (.pointer none) ∧ Below w.heap.size w w' := by
  have HL := Lib.hid fun V => laid_no (.func (.func 122) #[] #[]) hv fv t o n V h
  clear h
  go_enter Tryz.func42, Tryz.ntmps42
  go_upto_region 1 with fail
  generalize hW : w.alloc _ = W
  have bW : Below w.heap.size w W := by rw [← hW]; go_grown
  have m0 : Blk W w.heap.size 24 #[.int .i64 t, .int .i64 o, .int .i64 n] := by rw [← hW]; exact Blk.new w _ _
  clear hW
  have c0 := m0.cell 0 _ rfl
  have c1 := m0.cell 1 _ rfl
  have c2 := m0.cell 2 _ rfl
  go_wp2_with (go_at_call 121; refine (HL.out _).mono ?_; rintro e w2 ⟨rfl, b2⟩)
  go_ret
  exact ⟨rfl, bW.trans (b2.mono bW.size)⟩
abbrev intE : Int → Value := Value.int .i64
set_option maxHeartbeats 1000000 in
/-- law 13's Same: views that are alike -/
theorem same13 (o d : Int) (va vb : Value) (l : List Int) (w : World) (ha : SliceAt intE w va l) (hb : SliceAt intE w vb l) (hl : l.length ≤ 100000) :
    Calls Tryz.prog 48 #[viewV o d va, viewV o d vb] w fun e w' => e = .returned (.bool true) ∧ Below w.heap.size w w' := by
  obtain ⟨aa, ca, rfl, ha⟩ := ha
  obtain ⟨ab, cb, rfl, hb⟩ := hb
  have HA := Lib.hid ha
  have HB := Lib.hid hb
  obtain ⟨n, hn⟩ : ∃ n, n = l.length := ⟨_, rfl⟩
  have HN := Lib.hid hn
  rw [← hn] at hl ⊢
  clear ha hb hn
  go_enter Tryz.func48, Tryz.ntmps48
  go_upto_region 1 with fail
  generalize hW : (w.alloc _).alloc _ = W
  have bW : Below w.heap.size w W := by rw [← hW]; go_grown
  have q0 : Blk W w.heap.size 83 (viewA o d (.slice aa n ca)) := by rw [← hW]; exact (Blk.new w _ _).alloc _
  have q1 : Blk W (w.heap.size + 1) 83 (viewA o d (.slice ab n cb)) := by rw [← hW]; exact blk_two w _ _ _
  clear hW
  have a0 := q0.cell 0 _ rfl
  have a1 := q0.cell 1 _ rfl
  have a2 := q0.cell 2 _ rfl
  have b0 := q1.cell 0 _ rfl
  have b1 := q1.cell 1 _ rfl
  have b2 := q1.cell 2 _ rfl
  have HQ := Lib.hid (And.intro q0 q1)
  have HBW := Lib.hid bW
  clear bW q0 q1
  go_upto_region 4 with fail
  clear a0 a1 a2 b0 b1 b2
  go_loopw [5] (fun v5 wr => ∃ j : Nat, j ≤ n ∧ v5 = .int .i64 (j : Int) ∧ Below W.heap.size W wr) (fun v5 _ => (n - intOf v5).toNat)
  case atStart => exact ⟨0, by omega, rfl, Below.refl _ _⟩
  case round =>
    obtain ⟨j, hj, rfl, hbr⟩ := hrel
    have p0 := HQ.out.1.below hbr HQ.out.1.lt
    have p1 := HQ.out.2.below hbr HQ.out.2.lt
    have a2 := p0.cell 2 _ rfl
    have b2 := p1.cell 2 _ rfl
    by_cases hlt : j < n
    · have hjl : j < l.length := by rw [← HN.out]; exact hlt
      obtain ⟨ga, oa, rfl, ea⟩ := HA.out j _ (List.getElem?_eq_getElem hjl)
      obtain ⟨gb, ob, rfl, eb⟩ := HB.out j _ (List.getElem?_eq_getElem hjl)
      have bwr := HBW.out.trans (hbr.mono HBW.out.size)
      have fa := cell_below ea bwr
      have fb := cell_below eb bwr
      have HBR := Lib.hid hbr
      generalize l[j] = x at *
      have hia : ∀ V, (Instr.indexAt 37 (.slice (some ⟨ga, oa, none⟩) n ca) (.int .i64 (j : Int))).run Tryz.prog V = .ok (.pointer (some ⟨ga, oa + j, none⟩)) V := by
        intro V
        go_simp
      have hib : ∀ V, (Instr.indexAt 37 (.slice (some ⟨gb, ob, none⟩) n cb) (.int .i64 (j : Int))).run Tryz.prog V = .ok (.pointer (some ⟨gb, ob + j, none⟩)) V := by
        intro V
        go_simp
      clear HA HB ea eb bwr hbr p0 p1 hjl
      go_upto_region 6 with fail
      have bd : Below wr.heap.size wr wr.drew := bdrewP wr
      go_region_held3 (fun V => V.cell? ⟨w.heap.size, 2, none⟩ = some (.slice (some ⟨ga, oa, none⟩) n ca) ∧ V.cell? ⟨w.heap.size + 1, 2, none⟩ = some (.slice (some ⟨gb, ob, none⟩) n cb) ∧ V.cell? ⟨ga, oa + j, none⟩ = some (.int .i64 x) ∧ V.cell? ⟨gb, ob + j, none⟩ = some (.int .i64 x)) (exact ⟨cell_below a2 bd, cell_below b2 bd, cell_below fa bd, cell_below fb bd⟩) (fail)
      go_wp2_with fail
      go_roundw
      case rel => exact ⟨j + 1, hlt, rfl, HBR.out.trans (bd.mono HBR.out.size)⟩
      case measure => simp [intOf]; omega
    · obtain rfl : j = n := by omega
      have HBR := Lib.hid hbr
      clear HA HB hbr p0 p1
      go_wp2_with fail
      go_ret
      exact ⟨rfl, HBW.out.trans (HBR.out.mono HBW.out.size)⟩
theorem nil_slice (w : World) : SliceAt intE w (.slice none 0 0) [] := ⟨none, 0, rfl, fun i x h => by simp at h⟩
end Go.Proofs.YtldofbkjjmnooaaGreat
/- Law 13: two, works. -/
namespace Go.Proofs.YtldofbkjjmnooaaGreat
open Go.ChangeShapes Go.WideShapes Go.ChangeAt Go.RowKit Wd
set_option linter.unusedVariables false
set_option maxRecDepth 100000
set_option linter.unusedSimpArgs false
abbrev m13 : Mp := ⟨2, 2, 1⟩
theorem m13_ok : m13.ok := ⟨by decide, by decide, by decide⟩
theorem good13 : GoodH m13 [5, 6] := fun o ho => by
  have : o = 0 ∨ o = 1 := by have : o < 2 := ho; omega
  rcases this with rfl | rfl <;> (unfold goodO hashO; simp)
/-- the ground of the examples, with a log -/
def Two (w : World) (g : GrP) (vo : Value) (E : List Ev) : Prop := GrAt w g m13 (mm0 m13 [5, 6] [true]) 6 [false, false] vo E
theorem two_any (w : World) : Calls Tryz.prog 53 #[] w fun e w' => ∃ g, e = .returned (grV g) ∧ Two w' g (.slice none 0 0) [] ∧ Below w.heap.size w w' ∧ ∀ b, grB g (.slice none 0 0) b → w.heap.size ≤ b := by
  have HN := Lib.hid (show ∀ V hv fv, SliceAt intE V hv [5, 6] → SliceAt Value.bool V fv [true] → Calls Tryz.prog 41 #[.agg #[.int .i64 2, .int .i64 2, .int .i64 1], hv, fv] V fun e w' => ∃ g, e = .returned (grV g) ∧ Two w' g (.slice none 0 0) [] ∧ Below V.heap.size V w' ∧ ∀ b, grB g (.slice none 0 0) b → V.heap.size ≤ b from fun V hv fv h1 h2 => by
    refine (gnew_any m13 [5, 6] [true] hv fv V m13_ok h1 h2).mono ?_
    rintro e w' (⟨_, g, rfl, h2, b2, n2⟩ | ⟨hb, _, _⟩)
    · exact ⟨g, rfl, h2, b2, n2⟩
    · exact absurd good13 hb)
  go_enter Tryz.func53, Tryz.ntmps53
  have bW : Below w.heap.size w ((w.alloc (.cells #[.int .i64 5, .int .i64 6] 3)).alloc (.cells #[.bool true] 4)) := by go_grown
  have s1 : SliceAt intE ((w.alloc (.cells #[.int .i64 5, .int .i64 6] 3)).alloc (.cells #[.bool true] 4)) (.slice (some ⟨w.heap.size, 0, none⟩) 2 2) [5, 6] := by
    refine ⟨_, _, rfl, fun i x hx => ⟨_, _, rfl, ?_⟩⟩
    rw [Nat.zero_add]
    refine ((Blk.new w 3 #[.int .i64 5, .int .i64 6]).alloc _).cell i _ ?_
    match i, hx with
    | 0, hx => simpa using hx
    | 1, hx => simpa using hx
    | n + 2, hx => simp at hx
  have s2 : SliceAt Value.bool ((w.alloc (.cells #[.int .i64 5, .int .i64 6] 3)).alloc (.cells #[.bool true] 4)) (.slice (some ⟨w.heap.size + 1, 0, none⟩) 1 1) [true] := by
    refine ⟨_, _, rfl, fun i x hx => ⟨_, _, rfl, ?_⟩⟩
    rw [Nat.zero_add]
    refine (blk_two w _ 4 #[.bool true]).cell i _ ?_
    match i, hx with
    | 0, hx => simpa using hx
    | n + 1, hx => simp at hx
  have HN1 := Lib.hid (HN.out _ _ _ s1 s2)
  clear HN s1 s2
  go_wp2_with (go_at_call 41; refine HN1.out.mono ?_; rintro e w2 ⟨g, rfl, h2, b2, n2⟩)
  go_ret
  have hs := bW.size
  exact ⟨g, rfl, h2, bW.trans (b2.mono hs), fun b hb => Nat.le_trans hs (n2 b hb)⟩
abbrev hA0 : Array Value := #[.int .i64 0, .int .i64 0, .int .i64 0, .int .i64 0, .int .i64 0, .int .i64 5]
abbrev hA1 : Array Value := #[.int .i64 1, .int .i64 0, .int .i64 0, .int .i64 0, .int .i64 0, .int .i64 6]
set_option maxHeartbeats 8000000 in
theorem works13_any (w : World) : Calls Tryz.prog 43 #[] w fun e w' => e = .returned (.bool true) ∧ Below w.heap.size w w' := by
  have HT := Lib.hid fun V => two_any V
  have hhsz : Hid ((Tryz.prog.info? 177).map (·.size) = some 6) := Lib.hid hd_size
  have h01 : Hid (hA0.all (·.oneCell') = true) := Lib.hid (by simp [Value.oneCell'])
  have h11 : Hid (hA1.all (·.oneCell') = true) := Lib.hid (by simp [Value.oneCell'])
  go_enter Tryz.func43, Tryz.ntmps43
  go_upto_region 4 with (go_at_call 53; refine (HT.out _).mono ?_; rintro e w1 ⟨g, rfl, h1, b1, n1⟩)
  have H1 := Lib.hid h1
  have HW0 := Lib.hid (show ∀ V, Below w1.heap.size w1 V → Calls Tryz.prog 123 #[grV g, .int .i64 0] V fun e w' => e = .returned (.tuple #[.agg hA0, .bool true]) ∧ Below V.heap.size V w' from fun V hV => gword_new (h1.below hV) 0 (by decide) (good13 0 (by decide)))
  have HW1 := Lib.hid (show ∀ V, Below w1.heap.size w1 V → Calls Tryz.prog 123 #[grV g, .int .i64 1] V fun e w' => e = .returned (.tuple #[.agg hA1, .bool true]) ∧ Below V.heap.size V w' from fun V hV => gword_new (h1.below hV) 1 (by decide) (good13 1 (by decide)))
  have HV0 := Lib.hid (show ∀ V, Below w1.heap.size w1 V → Calls Tryz.prog 49 #[grV g, .int .i64 0] V fun e w' => e = .returned (viewV (-1) 0 (.slice none 0 0)) ∧ Below V.heap.size V w' from fun V hV => gview_new (h1.below hV) 0 (by decide) (good13 0 (by decide)))
  have HV9 := Lib.hid (show ∀ V, Below w1.heap.size w1 V → Calls Tryz.prog 49 #[grV g, .int .i64 9] V fun e w' => e = .returned (viewV (-1) 0 (.slice none 0 0)) ∧ Below V.heap.size V w' from fun V hV => gview_out (h1.below hV) 9 (.inr (by decide)))
  clear h1
  go_upto_region 5 with (first
    | (go_at_call 123; (with_reducible refine (HW0.out _ (Below.refl _ _)).mono ?_); rintro e w2 ⟨rfl, b2⟩)
    | (refine wpList_store_row rfl 177 _ _ rfl w2.heap.size hA0 rfl rfl 177 zero6 (Blk.new w2 _ _) hhsz.out rfl h01.out ?_; (try simp only [Act.put, List.setIfInBounds_toArray, List.set_cons_zero, List.set_cons_succ])))
  rw [World.setRow_alloc_new]
  have A3 : Blk (w2.alloc (.cells hA0 177)) w2.heap.size 177 hA0 := Blk.new _ _ _
  have b3 : Below w1.heap.size w1 (w2.alloc (.cells hA0 177)) := b2.alloc b2.size _
  generalize hb2 : w2.heap.size = B2 at *
  generalize hW : w2.alloc (.cells hA0 177) = w3 at *
  clear hW hb2 b2
  go_upto_region 6 with (first
    | (go_at_call 123; (with_reducible refine (HW1.out _ b3).mono ?_); rintro e w4 ⟨rfl, b4⟩)
    | (refine wpList_store_row rfl 177 _ _ rfl w4.heap.size hA1 rfl rfl 177 zero6 (Blk.new w4 _ _) hhsz.out rfl h11.out ?_; (try simp only [Act.put, List.setIfInBounds_toArray, List.set_cons_zero, List.set_cons_succ])))
  rw [World.setRow_alloc_new]
  have A5 := (A3.below b4 A3.lt).alloc (.cells hA1 177)
  have C5 : Blk (w4.alloc (.cells hA1 177)) w4.heap.size 177 hA1 := Blk.new _ _ _
  have b5 : Below w1.heap.size w1 (w4.alloc (.cells hA1 177)) := (b3.trans (b4.mono b3.size)).alloc (by have := b3.size; have := b4.size; omega) _
  generalize hb4 : w4.heap.size = B4 at *
  generalize hW : w4.alloc (.cells hA1 177) = w5 at *
  clear hW hb4 b4 b3 A3
  go_upto_region 7 with fail
  have A7 := A5.alloc (.cells (viewA (-1) 0 (.slice none 0 0)) 83)
  have C7 := C5.alloc (.cells (viewA (-1) 0 (.slice none 0 0)) 83)
  have D7 : Blk (w5.alloc (.cells (viewA (-1) 0 (.slice none 0 0)) 83)) w5.heap.size 83 (viewA (-1) 0 (.slice none 0 0)) := Blk.new _ _ _
  have b7 : Below w1.heap.size w1 (w5.alloc (.cells (viewA (-1) 0 (.slice none 0 0)) 83)) := b5.alloc b5.size _
  generalize hb6 : w5.heap.size = B6 at *
  generalize hW : w5.alloc (.cells (viewA (-1) 0 (.slice none 0 0)) 83) = w7 at *
  clear hW hb6 A5 C5 b5
  have SK := Lib.hid (show ∀ V, Below w7.heap.size w7 V → V.cell? ⟨B2, 0, none⟩ = some (.int .i64 0) ∧ V.cell? ⟨B2, 1, none⟩ = some (.int .i64 0) ∧ V.cell? ⟨B2, 2, none⟩ = some (.int .i64 0) ∧ V.cell? ⟨B2, 3, none⟩ = some (.int .i64 0) ∧ V.cell? ⟨B2, 4, none⟩ = some (.int .i64 0) ∧ V.cell? ⟨B2, 5, none⟩ = some (.int .i64 5) ∧ V.cell? ⟨B4, 0, none⟩ = some (.int .i64 1) ∧ V.cell? ⟨B4, 1, none⟩ = some (.int .i64 0) ∧ V.cell? ⟨B4, 2, none⟩ = some (.int .i64 0) ∧ V.cell? ⟨B4, 3, none⟩ = some (.int .i64 0) ∧ V.cell? ⟨B4, 4, none⟩ = some (.int .i64 0) ∧ V.cell? ⟨B4, 5, none⟩ = some (.int .i64 6) ∧ V.cell? ⟨B6, 0, none⟩ = some (.int .i64 (-1)) ∧ V.cell? ⟨B6, 1, none⟩ = some (.int .i64 0) ∧ V.cell? ⟨B6, 2, none⟩ = some (.slice none 0 0) from fun V hV => ⟨(A7.below hV A7.lt).cell 0 _ rfl, (A7.below hV A7.lt).cell 1 _ rfl, (A7.below hV A7.lt).cell 2 _ rfl, (A7.below hV A7.lt).cell 3 _ rfl, (A7.below hV A7.lt).cell 4 _ rfl, (A7.below hV A7.lt).cell 5 _ rfl, (C7.below hV C7.lt).cell 0 _ rfl, (C7.below hV C7.lt).cell 1 _ rfl, (C7.below hV C7.lt).cell 2 _ rfl, (C7.below hV C7.lt).cell 3 _ rfl, (C7.below hV C7.lt).cell 4 _ rfl, (C7.below hV C7.lt).cell 5 _ rfl, (D7.below hV D7.lt).cell 0 _ rfl, (D7.below hV D7.lt).cell 1 _ rfl, (D7.below hV D7.lt).cell 2 _ rfl⟩)
  have bd := bdrewP w7
  have hq0 : ∀ W, (binOp .neq 177 (.agg hA0) (.agg hA0)).run Tryz.prog W = .ok (.bool false) W := fun _ => by kernel_rfl
  have hq1 : ∀ W, (binOp .neq 177 (.agg hA1) (.agg hA1)).run Tryz.prog W = .ok (.bool false) W := fun _ => by kernel_rfl
  have HSm := Lib.hid fun V => same13 (-1) 0 (.slice none 0 0) (.slice none 0 0) [] V (nil_slice V) (nil_slice V) (by simp)
  have bc := bd
  clear A7 C7 D7
  go_region_held3 (fun V => V.cell? ⟨B2, 0, none⟩ = some (.int .i64 0) ∧ V.cell? ⟨B2, 1, none⟩ = some (.int .i64 0) ∧ V.cell? ⟨B2, 2, none⟩ = some (.int .i64 0) ∧ V.cell? ⟨B2, 3, none⟩ = some (.int .i64 0) ∧ V.cell? ⟨B2, 4, none⟩ = some (.int .i64 0) ∧ V.cell? ⟨B2, 5, none⟩ = some (.int .i64 5) ∧ V.cell? ⟨B4, 0, none⟩ = some (.int .i64 1) ∧ V.cell? ⟨B4, 1, none⟩ = some (.int .i64 0) ∧ V.cell? ⟨B4, 2, none⟩ = some (.int .i64 0) ∧ V.cell? ⟨B4, 3, none⟩ = some (.int .i64 0) ∧ V.cell? ⟨B4, 4, none⟩ = some (.int .i64 0) ∧ V.cell? ⟨B4, 5, none⟩ = some (.int .i64 6) ∧ V.cell? ⟨B6, 0, none⟩ = some (.int .i64 (-1)) ∧ V.cell? ⟨B6, 1, none⟩ = some (.int .i64 0) ∧ V.cell? ⟨B6, 2, none⟩ = some (.slice none 0 0)) (exact SK.out _ bc) (first
    | (go_at_call 49; (with_reducible refine (HV0.out _ (Below.trans b7 (Below.mono bc b7.size))).mono ?_); rintro e w8 ⟨rfl, b8⟩; replace bc := Below.trans bc (Below.mono b8 bc.size))
    | (go_at_call 49; (with_reducible refine (HV9.out _ (Below.trans b7 (Below.mono bc b7.size))).mono ?_); rintro e w8 ⟨rfl, b8⟩; replace bc := Below.trans bc (Below.mono b8 bc.size))
    | (go_at_call 48; (with_reducible refine (HSm.out _).mono ?_); rintro e w9 ⟨rfl, b9⟩; replace bc := Below.trans bc (Below.mono b9 bc.size)))
  have b9 := Below.trans b7 (Below.mono bc b7.size)
  have h9 : Two w9 g (.slice none 0 0) [] := GrAt.below H1.out b9
  have HAc := Lib.hid (act_any 1 0 0 0 h9 (by simp))
  have bw9 := b1.trans (b9.mono b1.size)
  clear HV0 HV9 HW0 HW1 SK bd bc b9 b7 hq0 hq1 HSm HT h01 h11 hhsz
  go_upto_region 10 with (go_at_call 124; (with_reducible refine HAc.out.mono ?_); rintro e w10 ⟨rfl, vo1, h10, k10, n10⟩)
  have HEv := Lib.hid (events_any h10 (by simp))
  go_upto_region 11 with (go_at_call 46; (with_reducible refine HEv.out.mono ?_); rintro e w11 ⟨v, rfl, h11, h12, k11⟩)
  have bw10 : Below w.heap.size w w10 := bw9.trans (k10.below bw9.size (fun b _ h => h.elim (fun e => e ▸ n1 _ (.inl rfl)) (fun h => by simp [Value.ownBlock] at h)))
  have bw11 : Below w.heap.size w w11 := bw10.trans (k11.below bw10.size (fun b _ e => e ▸ n1 _ (.inl rfl)))
  obtain ⟨ga, ca, rfl⟩ := row_slice h11 (by simp)
  have hcl : ∀ (j : Nat) (u : Value), (evL ⟨1, 1, 0, 0, 0, 0, 0, 0⟩)[j]? = some u → w11.cell? ⟨ga, j, none⟩ = some u := fun j u hu => by
    have := h11.cells (g := ga) rfl j u (by simpa using hu)
    rwa [gaddr_add] at this
  have c0 := hcl 0 _ rfl
  have c1 := hcl 1 _ rfl
  have c2 := hcl 2 _ rfl
  have c3 := hcl 3 _ rfl
  have c4 := hcl 4 _ rfl
  have c5 := hcl 5 _ rfl
  have c6 := hcl 6 _ rfl
  have c7 := hcl 7 _ rfl
  have HB := Lib.hid bw11
  clear hcl h11 h12 k11 k10 h10 n10 HEv HAc bw10 bw9 bw11 n1 H1 h9 b1
  have hq : ∀ W, (binOp .eql 118 (evV ⟨1, 1, 0, 0, 0, 0, 0, 0⟩) (evV ⟨1, 1, 0, 0, 0, 0, 0, 0⟩)).run Tryz.prog W = .ok (.bool true) W := fun _ => by kernel_rfl
  go_wp2_with fail
  go_ret
  exact ⟨rfl, HB.out⟩
end Go.Proofs.YtldofbkjjmnooaaGreat
