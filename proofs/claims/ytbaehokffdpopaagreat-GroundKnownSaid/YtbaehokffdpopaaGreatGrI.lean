/- Grounds at first: New, words, views; law 13's Same. -/
import Derived.Test.YtbaehokffdpopaaGreatGrH
import Derived.Test.YtbaehokffdpopaaGreatGrE
namespace Go.Proofs.YtbaehokffdpopaaGreat
open Go.ChangeShapes Go.WideShapes Go.ChangeAt Go.RowKit Wd
set_option linter.unusedVariables false
set_option maxRecDepth 100000
set_option linter.unusedSimpArgs false
theorem open_hd (x : Hd) (hx : okP x) : ∀ V, Calls Tryz.prog 136 #[.int .u64 ((wordOf x : Nat) : Int)] V fun e w' => e = .returned (.tuple #[hdV x, .bool true]) ∧ Below V.heap.size V w' := by
  intro V
  have h := open_any (wordOf x) V (by have := word_lt x hx; omega)
  rw [open_word x hx] at h
  exact h
theorem wordsGo_at (f : Nat → Int) (mm : List Int) (o : Nat) : ∀ j, o < j → 2 + j ≤ mm.length → (wordsGo f mm j)[wordN o]? = some (f o)
  | 0, h, _ => by omega
  | j + 1, h, hl => by
    rw [wordsGo]
    by_cases e : o = j
    · subst e
      rw [List.getElem?_set_self (by rw [wordsGo_len]; unfold wordN; omega)]
    · rw [List.getElem?_set_ne (by unfold wordN; omega)]
      exact wordsGo_at f mm o j (by omega) (by omega)
theorem safesGo_other (m : Mp) (mm : List Int) (i : Nat) (h : ∀ j : Nat, j < m.t → i ≠ safeN m j) : ∀ j, j ≤ m.t → (safesGo m mm j)[i]? = mm[i]?
  | 0, _ => rfl
  | j + 1, hj => by
    rw [safesGo, List.getElem?_set_ne (Ne.symm (h j (by omega)))]
    exact safesGo_other m mm i h j (by omega)
theorem safesGo_at (m : Mp) (mm : List Int) (t : Nat) : ∀ j, t < j → j ≤ m.t → sizeN m ≤ mm.length → (safesGo m mm j)[safeN m t]? = some 1
  | 0, h, _, _ => by omega
  | j + 1, h, hj, hl => by
    rw [safesGo]
    by_cases e : t = j
    · subst e
      rw [List.getElem?_set_self (by rw [safesGo_len]; unfold safeN nxN; unfold sizeN at hl; omega)]
    · rw [List.getElem?_set_ne (by unfold safeN nxN; omega)]
      exact safesGo_at m mm t j (by omega) (by omega) hl
theorem layL_other (m : Mp) (mm : List Int) (i : Nat) (h1 : i ≠ 1) (h : ∀ k : Int, 0 ≤ k → k < m.n → i ≠ linkN m k) : (layL m mm)[i]? = mm[i]? := by
  unfold layL
  rw [List.getElem?_set_ne (Ne.symm h1)]
  exact layGo_other m mm i h _ (Nat.le_refl _)
theorem mm0_word (m : Mp) (H : List Int) (F : List Bool) (o : Nat) (ho : o < m.o) : (mm0 m H F)[wordN o]? = some ((wordOf (hd0 H F o) : Nat) : Int) := by
  unfold mm0 mmF
  rw [layL_other _ _ _ (by unfold wordN; omega) (fun k h1 h2 => by unfold wordN linkN monN; omega), safesGo_other _ _ _ (fun j hj => by unfold wordN safeN nxN; omega) _ (Nat.le_refl _)]
  exact wordsGo_at (fun o => ((wordOf (hd0 H F o) : Nat) : Int)) _ o m.o ho (by rw [List.length_replicate]; unfold sizeN; omega)
theorem mm0_safe (m : Mp) (H : List Int) (F : List Bool) (t : Nat) (ht : t < m.t) : (mm0 m H F)[safeN m t]? = some 1 := by
  unfold mm0 mmF
  rw [layL_other _ _ _ (by unfold safeN nxN; omega) (fun k h1 h2 => by unfold safeN nxN linkN monN; omega)]
  exact safesGo_at m _ t m.t ht (Nat.le_refl _) (by rw [wordsGo_len, List.length_replicate]; exact Nat.le_refl _)
section
variable {w w1 : World} {g : GrP} {m : Mp} {mm mm' : List Int} {k k' : Int} {l l' : List Bool} {vo vo' : Value} {E E' : List Ev} {H : List Int} {F : List Bool}
theorem gword_new (h : GrAt w g m (mm0 m H F) k l vo E) (o : Nat) (ho : o < m.o) (hg : goodO H o) :
    Calls Tryz.prog 31 #[grV g, .int .i64 (o : Int)] w fun e w' => e = .returned (.tuple #[hdV (hd0 H F o), .bool true]) ∧ Below w.heap.size w w' :=
  gword_any h o ho _ (mm0_word m H F o ho) (hd0 H F o) true (open_hd _ (hd0_ok.2 hg))
theorem gview_new (h : GrAt w g m (mm0 m H F) k l vo E) (o : Nat) (ho : o < m.o) (hg : goodO H o) :
    Calls Tryz.prog 22 #[grV g, .int .i64 (o : Int)] w fun e w' => e = .returned (viewV (-1) 0 (.slice none 0 0)) ∧ Below w.heap.size w w' :=
  gview_plain h o ho _ (mm0_word m H F o ho) (hd0 H F o) (by show tagO F o = 0 ∨ tagO F o = 1; unfold tagO; split <;> simp) (open_hd _ (hd0_ok.2 hg))
end
theorem gnew_any (m : Mp) (H : List Int) (F : List Bool) (hv fv : Value) (w : World) (hm : m.ok) (hh : SliceAt (Value.int .i64) w hv H) (hf : SliceAt Value.bool w fv F) :
    Calls Tryz.prog 11 #[mapV m, hv, fv] w (NewPost w m H F) := by
  have HL := Lib.hid fun V (hb : Below w.heap.size w V) => laid_any m H F hv fv V hm (hh.below hb) (hf.below hb)
  clear hh hf
  go_enter Tryz.func11, Tryz.ntmps11
  go_upto_region 1 with fail
  generalize hW : w.alloc _ = W
  have bW : Below w.heap.size w W := by rw [← hW]; go_grown
  have m0 : Blk W w.heap.size 28 (mapCs m) := by rw [← hW]; exact Blk.new w _ _
  clear hW
  obtain ⟨c0, c1, c2⟩ := map3 m0
  have HL1 := Lib.hid (HL.out W bW)
  have hs := bW.size
  go_wp2_with (go_at_call 70; refine HL1.out.mono ?_; rintro e w2 (⟨hgd, g, rfl, h2, b2, n2⟩ | ⟨hgd, rfl, b2⟩))
  · go_ret
    exact .inl ⟨hgd, g, rfl, h2, bW.trans (b2.mono hs), fun b hb => Nat.le_trans hs (n2 b hb)⟩
  · go_ret
    exact .inr ⟨hgd, rfl, bW.trans (b2.mono hs)⟩
theorem laid_no (kv hv fv : Value) (t o n : Int) (w : World) (h : rightS t o n = false) :
    Calls Tryz.prog 70 #[kv, .agg #[.int .i64 t, .int .i64 o, .int .i64 n], hv, fv] w fun e w' => e = .returned (.pointer none) ∧ Below w.heap.size w w' := by
  have HR := Lib.hid fun V => right_any t o n V
  rw [h] at HR
  clear h
  go_enter Tryz.func70, Tryz.ntmps70
  go_upto_region 1 with fail
  generalize hW : w.alloc _ = W
  have bW : Below w.heap.size w W := by rw [← hW]; go_grown
  have m0 : Blk W w.heap.size 28 #[.int .i64 t, .int .i64 o, .int .i64 n] := by rw [← hW]; exact Blk.new w _ _
  clear hW
  have c0 := m0.cell 0 _ rfl
  have c1 := m0.cell 1 _ rfl
  have c2 := m0.cell 2 _ rfl
  go_wp2_with (go_at_call 25; refine (HR.out _).mono ?_; rintro e w2 ⟨rfl, b2⟩)
  go_ret
  exact ⟨rfl, bW.trans (b2.mono bW.size)⟩
theorem gnew_no (hv fv : Value) (t o n : Int) (w : World) (h : rightS t o n = false) :
    Calls Tryz.prog 11 #[.agg #[.int .i64 t, .int .i64 o, .int .i64 n], hv, fv] w fun e w' => e = .returned (.pointer none) ∧ Below w.heap.size w w' := by
  have HL := Lib.hid fun V => laid_no (.func (.func 51) #[] #[]) hv fv t o n V h
  clear h
  go_enter Tryz.func11, Tryz.ntmps11
  go_upto_region 1 with fail
  generalize hW : w.alloc _ = W
  have bW : Below w.heap.size w W := by rw [← hW]; go_grown
  have m0 : Blk W w.heap.size 28 #[.int .i64 t, .int .i64 o, .int .i64 n] := by rw [← hW]; exact Blk.new w _ _
  clear hW
  have c0 := m0.cell 0 _ rfl
  have c1 := m0.cell 1 _ rfl
  have c2 := m0.cell 2 _ rfl
  go_wp2_with (go_at_call 70; refine (HL.out _).mono ?_; rintro e w2 ⟨rfl, b2⟩)
  go_ret
  exact ⟨rfl, bW.trans (b2.mono bW.size)⟩
theorem greal_no (hv fv : Value) (t o n : Int) (w : World) (h : rightS t o n = false) :
    Calls Tryz.prog 12 #[.agg #[.int .i64 t, .int .i64 o, .int .i64 n], hv, fv] w fun e w' => e = .returned (.pointer none) ∧ Below w.heap.size w w' := by
  have HL := Lib.hid fun V => laid_no (.func (.func 71) #[] #[]) hv fv t o n V h
  clear h
  go_enter Tryz.func12, Tryz.ntmps12
  go_upto_region 1 with fail
  generalize hW : w.alloc _ = W
  have bW : Below w.heap.size w W := by rw [← hW]; go_grown
  have m0 : Blk W w.heap.size 28 #[.int .i64 t, .int .i64 o, .int .i64 n] := by rw [← hW]; exact Blk.new w _ _
  clear hW
  have c0 := m0.cell 0 _ rfl
  have c1 := m0.cell 1 _ rfl
  have c2 := m0.cell 2 _ rfl
  go_wp2_with (go_at_call 70; refine (HL.out _).mono ?_; rintro e w2 ⟨rfl, b2⟩)
  go_ret
  exact ⟨rfl, bW.trans (b2.mono bW.size)⟩
abbrev intE : Int → Value := Value.int .i64
set_option maxHeartbeats 1000000 in
/-- law 13's Same: views that are alike -/
theorem same13 (o d : Int) (va vb : Value) (l : List Int) (w : World) (ha : SliceAt intE w va l) (hb : SliceAt intE w vb l) (hl : l.length ≤ 100000) :
    Calls Tryz.prog 21 #[viewV o d va, viewV o d vb] w fun e w' => e = .returned (.bool true) ∧ Below w.heap.size w w' := by
  obtain ⟨aa, ca, rfl, ha⟩ := ha
  obtain ⟨ab, cb, rfl, hb⟩ := hb
  have HA := Lib.hid ha
  have HB := Lib.hid hb
  obtain ⟨n, hn⟩ : ∃ n, n = l.length := ⟨_, rfl⟩
  have HN := Lib.hid hn
  rw [← hn] at hl ⊢
  clear ha hb hn
  go_enter Tryz.func21, Tryz.ntmps21
  go_upto_region 1 with fail
  generalize hW : (w.alloc _).alloc _ = W
  have bW : Below w.heap.size w W := by rw [← hW]; go_grown
  have q0 : Blk W w.heap.size 58 (viewA o d (.slice aa n ca)) := by rw [← hW]; exact (Blk.new w _ _).alloc _
  have q1 : Blk W (w.heap.size + 1) 58 (viewA o d (.slice ab n cb)) := by rw [← hW]; exact blk_two w _ _ _
  clear hW
  have a0 := q0.cell 0 _ rfl
  have a1 := q0.cell 1 _ rfl
  have a2 := q0.cell 2 _ rfl
  have b0 := q1.cell 0 _ rfl
  have b1 := q1.cell 1 _ rfl
  have b2 := q1.cell 2 _ rfl
  have HQ := Lib.hid (And.intro q0 q1)
  have HBW := Lib.hid bW
  clear bW q0 q1
  go_upto_region 4 with fail
  clear a0 a1 a2 b0 b1 b2
  go_loopw [5] (fun v5 wr => ∃ j : Nat, j ≤ n ∧ v5 = .int .i64 (j : Int) ∧ Below W.heap.size W wr) (fun v5 _ => (n - intOf v5).toNat)
  case atStart => exact ⟨0, by omega, rfl, Below.refl _ _⟩
  case round =>
    obtain ⟨j, hj, rfl, hbr⟩ := hrel
    have p0 := HQ.out.1.below hbr HQ.out.1.lt
    have p1 := HQ.out.2.below hbr HQ.out.2.lt
    have a2 := p0.cell 2 _ rfl
    have b2 := p1.cell 2 _ rfl
    by_cases hlt : j < n
    · have hjl : j < l.length := by rw [← HN.out]; exact hlt
      obtain ⟨ga, oa, rfl, ea⟩ := HA.out j _ (List.getElem?_eq_getElem hjl)
      obtain ⟨gb, ob, rfl, eb⟩ := HB.out j _ (List.getElem?_eq_getElem hjl)
      have bwr := HBW.out.trans (hbr.mono HBW.out.size)
      have fa := cell_below ea bwr
      have fb := cell_below eb bwr
      have HBR := Lib.hid hbr
      generalize l[j] = x at *
      have hia : ∀ V, (Instr.indexAt 23 (.slice (some ⟨ga, oa, none⟩) n ca) (.int .i64 (j : Int))).run Tryz.prog V = .ok (.pointer (some ⟨ga, oa + j, none⟩)) V := by
        intro V
        go_simp
      have hib : ∀ V, (Instr.indexAt 23 (.slice (some ⟨gb, ob, none⟩) n cb) (.int .i64 (j : Int))).run Tryz.prog V = .ok (.pointer (some ⟨gb, ob + j, none⟩)) V := by
        intro V
        go_simp
      clear HA HB ea eb bwr hbr p0 p1 hjl
      go_upto_region 6 with fail
      have bd : Below wr.heap.size wr wr.drew := bdrewP wr
      go_region_held3 (fun V => V.cell? ⟨w.heap.size, 2, none⟩ = some (.slice (some ⟨ga, oa, none⟩) n ca) ∧ V.cell? ⟨w.heap.size + 1, 2, none⟩ = some (.slice (some ⟨gb, ob, none⟩) n cb) ∧ V.cell? ⟨ga, oa + j, none⟩ = some (.int .i64 x) ∧ V.cell? ⟨gb, ob + j, none⟩ = some (.int .i64 x)) (exact ⟨cell_below a2 bd, cell_below b2 bd, cell_below fa bd, cell_below fb bd⟩) (fail)
      go_wp2_with fail
      go_roundw
      case rel => exact ⟨j + 1, hlt, rfl, HBR.out.trans (bd.mono HBR.out.size)⟩
      case measure => simp [intOf]; omega
    · obtain rfl : j = n := by omega
      have HBR := Lib.hid hbr
      clear HA HB hbr p0 p1
      go_wp2_with fail
      go_ret
      exact ⟨rfl, HBW.out.trans (HBR.out.mono HBW.out.size)⟩
theorem nil_slice (w : World) : SliceAt intE w (.slice none 0 0) [] := ⟨none, 0, rfl, fun i x h => by simp at h⟩
end Go.Proofs.YtbaehokffdpopaaGreat
