/- Package spec: close (written by tools/gensp9.py). -/
import Derived.Test.YtcgljmeppmdihaaSpC
namespace Go.Proofs.Ytcgljmeppmdihaa
open Go.ChangeShapes Go.WideShapes Go.ChangeAt Go.RowKit
set_option linter.unusedVariables false
set_option maxRecDepth 100000
set_option linter.unusedSimpArgs false
theorem wpList_store_at {P : Program} {ops : Array Oper} {rest : List Oper} {o : Oper} {a : Act} {w : World} {Q : Exit → Act → World → Prop} (hgd : o.guard = none) (ty : TypeId) (x y : Operand) (ho : o.op = .store ty x y)
    (g off : Nat) (cells : Array Value) (hx : a.eval x = .pointer (some ⟨g, off, none⟩)) (hy : a.eval y = .agg cells)
    (t : TypeId) (old : Array Value) (hg : w.heap[g]? = some (.cells old t (0, 0))) (hi : (P.info? ty).map (·.size) = some cells.size)
    (hold : off + cells.size ≤ old.size) (h1 : cells.all (·.oneCell') = true)
    (h : wpList P ops Q rest (a.put o.dst undef) (w.setRow g (old.toList.take off ++ cells.toList ++ old.toList.drop (off + cells.size)).toArray)) : wpList P ops Q (o :: rest) a w := by
  refine wpList_plain hgd fun K hK => ?_
  have hst := run_storeCells_at P g off t cells.toList 0 old w hg (by simpa using hold) (fun v hv => (Array.all_eq_true_iff_forall_mem.1 h1) v (by simpa using hv))
  have hrun : (storeVar ty ⟨g, off, none⟩ (.agg cells)).run P w = .ok () (w.setRow g (old.toList.take off ++ cells.toList ++ old.toList.drop (off + cells.size)).toArray) := by
    cases hq : P.info? ty with
    | none => simp [hq] at hi
    | some i =>
      have hs : cells.size = i.size := by simp [hq] at hi; omega
      rw [Nat.add_zero] at hst
      simp only [Array.length_toList] at hst
      simp [storeVar, sizeOf, typeInfo, hq, Value.cells, hs]
      rw [hst]
      simp [hs]
  unfold Oper.wp execOp
  simp only [ho, hx, hy, Instr.storeAt, Instr.sureAddr, Sem.run_bind, Sem.run_pure, Result.andThen_ok, hrun]
  exact hK _ _ h
theorem row_keep {w : World} {A : Nat → Prop} {B : Nat} (h : A B) (cs : Array Value) : Keep A w (w.setRow B cs) :=
  ⟨rfl, rfl, rfl, by simp [World.setRow], fun k hk hn => setRow_other w B k cs (fun e => hn (e ▸ h))⟩
theorem SpecAt.putT {w : World} {A : Nat → Prop} {p : Pl} {s : SS} (h : SpecAt w A p s) {t : Nat} {x : Th} (hx : s.T[t]? = some x) (x' : Th) :
    ∃ cs, Blk w p.T 72 cs ∧ t * 9 + (thC x').toArray.size ≤ cs.size ∧ SpecAt (w.setRow p.T (cs.toList.take (t * 9) ++ (thC x').toArray.toList ++ cs.toList.drop (t * 9 + (thC x').toArray.size)).toArray) A p (s.setT t x') := by
  obtain ⟨a1, a2, a3⟩ := h.apart
  obtain ⟨V, h1, h2⟩ := h.obs
  obtain ⟨cs, hB, hcs⟩ := h.thr
  have hk : Keep (fun b => b = p.T) w (w.setRow p.T (cs.toList.take (t * 9) ++ (thC x').toArray.toList ++ cs.toList.drop (t * 9 + (thC x').toArray.size)).toArray) := row_keep (A := fun b => b = p.T) rfl _
  have hsz : (thC x').toArray.size = 9 := rfl
  have hfit : t * 9 + 9 ≤ cs.size := by
    have := (Array.getElem?_eq_some_iff.1 (hcs t x hx 8 _ rfl)).1
    omega
  refine ⟨cs, hB, by rw [hsz]; exact hfit, ?_, ⟨_, hB.row _, fun u y hy j v hj => ?_⟩, ⟨V, h1.keep hk (fun e => a3 e.symm), h2.keep hk (fun o g ho hg => (line_apart h h2 ho hg).2.1)⟩, h.mine, fun b hb => by rw [size_setRow]; exact h.lt b hb⟩
  · rw [(setT_len s t x').1, (setT_len s t x').2]
    exact h.own.keep hk a1
  · have hj9 : j < 9 := by have := (List.getElem?_eq_some_iff.1 hj).1; simpa [thC] using this
    rw [hsz]
    have hl : (cs.toList.take (t * 9)).length = t * 9 := by simp; omega
    rw [List.getElem?_toArray]
    rcases set_at hy with ⟨rfl, rfl, _⟩ | ⟨hne, hy⟩
    · rw [List.getElem?_append_left (by simp [hsz, thC]; omega), List.getElem?_append_right (by omega), hl, show u * 9 + j - u * 9 = j by omega]
      exact hj
    · have hold := hcs u y hy j v hj
      by_cases hlt : u < t
      · rw [List.getElem?_append_left (by simp; omega), List.getElem?_append_left (by omega), List.getElem?_take, if_pos (by omega)]
        simpa using hold
      · rw [List.getElem?_append_right (by simp [thC]; omega)]
        simp only [List.length_append, hl, List.getElem?_drop]
        rw [show t * 9 + 9 + (u * 9 + j - (t * 9 + (thC x').toArray.toList.length)) = u * 9 + j by simp [thC]; omega]
        simpa using hold
theorem doneq {f : Nat} {args : Array Value} {w : World} {v : Value} (h : Calls Try.prog f args w fun r w' => r = .returned v ∧ w = w') : Calls Try.prog f args w fun r w' => r = .returned v ∧ w' = w := h.mono fun _ _ ⟨a, b⟩ => ⟨a, b.symm⟩
set_option maxHeartbeats 4000000 in
theorem close_1 {w : World} {A : Nat → Prop} {p : Pl} {s : SS} (h : SpecAt w A p s) {t : Nat} {x : Th} (hx : s.T[t]? = some x) (kind idx act obj oth code val : Int) (hd : ¬ doneS x) :
    Calls Try.prog 23 #[spV p, evV ⟨kind, (t : Int), idx, act, obj, oth, code, val⟩] w (HandPost w A p s none) := by
  have H := Lib.hid h
  have HX := Lib.hid hx
  have ix := idx_thrs p.T s.T.length p.cT t (thr_lt hx)
  have Hhd := Lib.hid hd
  have HF0 := Lib.hid (Fr.boxed h ⟨kind, (t : Int), idx, act, obj, oth, code, val⟩)
  clear h hx hd
  go_enter Try.func23, Try.ntmps23
  go_upto_region 1 with fail
  generalize hW : w.alloc _ = W at HF0 ⊢
  obtain ⟨bx, hbx⟩ : ∃ bx, bx = w.heap.size := ⟨_, rfl⟩
  rw [← hbx] at HF0 ⊢
  clear hbx hW
  obtain ⟨⟨c0, c1⟩, b0, b1, b2, b3, b4, b5, b6, b7⟩ := HF0.out.cells
  dsimp only at b0 b1 b2 b3 b4 b5 b6 b7
  have xc := (HF0.out.sp.th HX.out).calls
  have xco := (HF0.out.sp.th HX.out).code
  have xv := (HF0.out.sp.th HX.out).val
  go_quiet (fail)
  generalize hq : World.drewN _ _ = W2
  have HF1 := Lib.hid (show Fr w W2 A p s bx _ from by rw [← hq]; exact HF0.out.drewN _)
  clear hq HF0 c0 c1 b0 b1 b2 b3 b4 b5 b6 b7 xc xco xv
  obtain ⟨⟨c0, c1⟩, b0, b1, b2, b3, b4, b5, b6, b7⟩ := HF1.out.cells
  dsimp only at b0 b1 b2 b3 b4 b5 b6 b7
  have xc := (HF1.out.sp.th HX.out).calls
  have xco := (HF1.out.sp.th HX.out).code
  have xv := (HF1.out.sp.th HX.out).val
  go_upto_region 2 with fail
  go_quiet ((first | (go_at_call 38; exact Calls.quiet_of_same (doneq (done_no (HF1.out.drewN _).sp HX.out Hhd.out))) | (go_at_call 38; exact Calls.quiet_of_same (doneq (done_no HF1.out.drew.sp HX.out Hhd.out)))))
  generalize hq : World.drewN _ _ = W3
  have HF2 := Lib.hid (show Fr w W3 A p s bx _ from by rw [← hq]; exact HF1.out.drewN _)
  clear hq HF1 c0 c1 b0 b1 b2 b3 b4 b5 b6 b7 xc xco xv
  obtain ⟨⟨c0, c1⟩, b0, b1, b2, b3, b4, b5, b6, b7⟩ := HF2.out.cells
  dsimp only at b0 b1 b2 b3 b4 b5 b6 b7
  have xc := (HF2.out.sp.th HX.out).calls
  have xco := (HF2.out.sp.th HX.out).code
  have xv := (HF2.out.sp.th HX.out).val
  go_wp2_with fail
  go_ret
  exact HandPost.no HF2.out.sp HF2.out.kp
set_option maxHeartbeats 4000000 in
theorem close_2 {w : World} {A : Nat → Prop} {p : Pl} {s : SS} (h : SpecAt w A p s) {t : Nat} {x : Th} (hx : s.T[t]? = some x) (kind idx act obj oth code val : Int) (hd : doneS x) (hi : idx ≠ x.calls) :
    Calls Try.prog 23 #[spV p, evV ⟨kind, (t : Int), idx, act, obj, oth, code, val⟩] w (HandPost w A p s none) := by
  have H := Lib.hid h
  have HX := Lib.hid hx
  have ix := idx_thrs p.T s.T.length p.cT t (thr_lt hx)
  have e0 : (idx == x.calls) = false := beq_eq_false_iff_ne.2 hi
  have e1 : (idx != x.calls) = true := by rw [bne, e0]; rfl
  have Hhd := Lib.hid hd
  have Hhi := Lib.hid hi
  have HF0 := Lib.hid (Fr.boxed h ⟨kind, (t : Int), idx, act, obj, oth, code, val⟩)
  clear h hx hd hi
  go_enter Try.func23, Try.ntmps23
  go_upto_region 1 with fail
  generalize hW : w.alloc _ = W at HF0 ⊢
  obtain ⟨bx, hbx⟩ : ∃ bx, bx = w.heap.size := ⟨_, rfl⟩
  rw [← hbx] at HF0 ⊢
  clear hbx hW
  obtain ⟨⟨c0, c1⟩, b0, b1, b2, b3, b4, b5, b6, b7⟩ := HF0.out.cells
  dsimp only at b0 b1 b2 b3 b4 b5 b6 b7
  have xc := (HF0.out.sp.th HX.out).calls
  have xco := (HF0.out.sp.th HX.out).code
  have xv := (HF0.out.sp.th HX.out).val
  go_quiet (fail)
  generalize hq : World.drewN _ _ = W2
  have HF1 := Lib.hid (show Fr w W2 A p s bx _ from by rw [← hq]; exact HF0.out.drewN _)
  clear hq HF0 c0 c1 b0 b1 b2 b3 b4 b5 b6 b7 xc xco xv
  obtain ⟨⟨c0, c1⟩, b0, b1, b2, b3, b4, b5, b6, b7⟩ := HF1.out.cells
  dsimp only at b0 b1 b2 b3 b4 b5 b6 b7
  have xc := (HF1.out.sp.th HX.out).calls
  have xco := (HF1.out.sp.th HX.out).code
  have xv := (HF1.out.sp.th HX.out).val
  go_upto_region 2 with fail
  go_quiet ((first | (go_at_call 38; exact Calls.quiet_of_same (doneq (done_yes (HF1.out.drewN _).sp HX.out Hhd.out))) | (go_at_call 38; exact Calls.quiet_of_same (doneq (done_yes HF1.out.drew.sp HX.out Hhd.out)))))
  generalize hq : World.drewN _ _ = W3
  have HF2 := Lib.hid (show Fr w W3 A p s bx _ from by rw [← hq]; exact HF1.out.drewN _)
  clear hq HF1 c0 c1 b0 b1 b2 b3 b4 b5 b6 b7 xc xco xv
  obtain ⟨⟨c0, c1⟩, b0, b1, b2, b3, b4, b5, b6, b7⟩ := HF2.out.cells
  dsimp only at b0 b1 b2 b3 b4 b5 b6 b7
  have xc := (HF2.out.sp.th HX.out).calls
  have xco := (HF2.out.sp.th HX.out).code
  have xv := (HF2.out.sp.th HX.out).val
  go_wp2_with fail
  go_ret
  exact HandPost.no HF2.out.sp HF2.out.kp
set_option maxHeartbeats 4000000 in
theorem close_3 {w : World} {A : Nat → Prop} {p : Pl} {s : SS} (h : SpecAt w A p s) {t : Nat} {x : Th} (hx : s.T[t]? = some x) (kind idx act obj oth code val : Int) (hd : doneS x) (hi : x.calls = idx) (hc : code ≠ x.code) :
    Calls Try.prog 23 #[spV p, evV ⟨kind, (t : Int), idx, act, obj, oth, code, val⟩] w (HandPost w A p s none) := by
  have H := Lib.hid h
  have HX := Lib.hid hx
  have ix := idx_thrs p.T s.T.length p.cT t (thr_lt hx)
  have e0 : (code == x.code) = false := beq_eq_false_iff_ne.2 hc
  have Hhd := Lib.hid hd
  have Hhi := Lib.hid hi
  have Hhc := Lib.hid hc
  have HF0 := Lib.hid (Fr.boxed h ⟨kind, (t : Int), idx, act, obj, oth, code, val⟩)
  clear h hx hd hi hc
  go_enter Try.func23, Try.ntmps23
  go_upto_region 1 with fail
  generalize hW : w.alloc _ = W at HF0 ⊢
  obtain ⟨bx, hbx⟩ : ∃ bx, bx = w.heap.size := ⟨_, rfl⟩
  rw [← hbx] at HF0 ⊢
  clear hbx hW
  obtain ⟨⟨c0, c1⟩, b0, b1, b2, b3, b4, b5, b6, b7⟩ := HF0.out.cells
  dsimp only at b0 b1 b2 b3 b4 b5 b6 b7
  have xc := (HF0.out.sp.th HX.out).calls
  rw [Hhi.out] at xc
  have xco := (HF0.out.sp.th HX.out).code
  have xv := (HF0.out.sp.th HX.out).val
  go_quiet (fail)
  generalize hq : World.drewN _ _ = W2
  have HF1 := Lib.hid (show Fr w W2 A p s bx _ from by rw [← hq]; exact HF0.out.drewN _)
  clear hq HF0 c0 c1 b0 b1 b2 b3 b4 b5 b6 b7 xc xco xv
  obtain ⟨⟨c0, c1⟩, b0, b1, b2, b3, b4, b5, b6, b7⟩ := HF1.out.cells
  dsimp only at b0 b1 b2 b3 b4 b5 b6 b7
  have xc := (HF1.out.sp.th HX.out).calls
  rw [Hhi.out] at xc
  have xco := (HF1.out.sp.th HX.out).code
  have xv := (HF1.out.sp.th HX.out).val
  go_upto_region 2 with fail
  go_quiet ((first | (go_at_call 38; exact Calls.quiet_of_same (doneq (done_yes (HF1.out.drewN _).sp HX.out Hhd.out))) | (go_at_call 38; exact Calls.quiet_of_same (doneq (done_yes HF1.out.drew.sp HX.out Hhd.out)))))
  generalize hq : World.drewN _ _ = W3
  have HF2 := Lib.hid (show Fr w W3 A p s bx _ from by rw [← hq]; exact HF1.out.drewN _)
  clear hq HF1 c0 c1 b0 b1 b2 b3 b4 b5 b6 b7 xc xco xv
  obtain ⟨⟨c0, c1⟩, b0, b1, b2, b3, b4, b5, b6, b7⟩ := HF2.out.cells
  dsimp only at b0 b1 b2 b3 b4 b5 b6 b7
  have xc := (HF2.out.sp.th HX.out).calls
  rw [Hhi.out] at xc
  have xco := (HF2.out.sp.th HX.out).code
  have xv := (HF2.out.sp.th HX.out).val
  go_wp2_with fail
  go_ret
  exact HandPost.no HF2.out.sp HF2.out.kp
set_option maxHeartbeats 4000000 in
theorem close_3b {w : World} {A : Nat → Prop} {p : Pl} {s : SS} (h : SpecAt w A p s) {t : Nat} {x : Th} (hx : s.T[t]? = some x) (kind idx act obj oth code val : Int) (hd : doneS x) (hi : x.calls = idx) (hc : x.code = code) (hv : val ≠ x.val) :
    Calls Try.prog 23 #[spV p, evV ⟨kind, (t : Int), idx, act, obj, oth, code, val⟩] w (HandPost w A p s none) := by
  have H := Lib.hid h
  have HX := Lib.hid hx
  have ix := idx_thrs p.T s.T.length p.cT t (thr_lt hx)
  have e0 : (val == x.val) = false := beq_eq_false_iff_ne.2 hv
  have Hhd := Lib.hid hd
  have Hhi := Lib.hid hi
  have Hhc := Lib.hid hc
  have Hhv := Lib.hid hv
  have HF0 := Lib.hid (Fr.boxed h ⟨kind, (t : Int), idx, act, obj, oth, code, val⟩)
  clear h hx hd hi hc hv
  go_enter Try.func23, Try.ntmps23
  go_upto_region 1 with fail
  generalize hW : w.alloc _ = W at HF0 ⊢
  obtain ⟨bx, hbx⟩ : ∃ bx, bx = w.heap.size := ⟨_, rfl⟩
  rw [← hbx] at HF0 ⊢
  clear hbx hW
  obtain ⟨⟨c0, c1⟩, b0, b1, b2, b3, b4, b5, b6, b7⟩ := HF0.out.cells
  dsimp only at b0 b1 b2 b3 b4 b5 b6 b7
  have xc := (HF0.out.sp.th HX.out).calls
  rw [Hhi.out] at xc
  have xco := (HF0.out.sp.th HX.out).code
  rw [Hhc.out] at xco
  have xv := (HF0.out.sp.th HX.out).val
  go_quiet (fail)
  generalize hq : World.drewN _ _ = W2
  have HF1 := Lib.hid (show Fr w W2 A p s bx _ from by rw [← hq]; exact HF0.out.drewN _)
  clear hq HF0 c0 c1 b0 b1 b2 b3 b4 b5 b6 b7 xc xco xv
  obtain ⟨⟨c0, c1⟩, b0, b1, b2, b3, b4, b5, b6, b7⟩ := HF1.out.cells
  dsimp only at b0 b1 b2 b3 b4 b5 b6 b7
  have xc := (HF1.out.sp.th HX.out).calls
  rw [Hhi.out] at xc
  have xco := (HF1.out.sp.th HX.out).code
  rw [Hhc.out] at xco
  have xv := (HF1.out.sp.th HX.out).val
  go_upto_region 2 with fail
  go_quiet ((first | (go_at_call 38; exact Calls.quiet_of_same (doneq (done_yes (HF1.out.drewN _).sp HX.out Hhd.out))) | (go_at_call 38; exact Calls.quiet_of_same (doneq (done_yes HF1.out.drew.sp HX.out Hhd.out)))))
  generalize hq : World.drewN _ _ = W3
  have HF2 := Lib.hid (show Fr w W3 A p s bx _ from by rw [← hq]; exact HF1.out.drewN _)
  clear hq HF1 c0 c1 b0 b1 b2 b3 b4 b5 b6 b7 xc xco xv
  obtain ⟨⟨c0, c1⟩, b0, b1, b2, b3, b4, b5, b6, b7⟩ := HF2.out.cells
  dsimp only at b0 b1 b2 b3 b4 b5 b6 b7
  have xc := (HF2.out.sp.th HX.out).calls
  rw [Hhi.out] at xc
  have xco := (HF2.out.sp.th HX.out).code
  rw [Hhc.out] at xco
  have xv := (HF2.out.sp.th HX.out).val
  go_wp2_with fail
  go_ret
  exact HandPost.no HF2.out.sp HF2.out.kp
set_option maxHeartbeats 4000000 in
theorem close_4 {w : World} {A : Nat → Prop} {p : Pl} {s : SS} (h : SpecAt w A p s) {t : Nat} {x : Th} (hx : s.T[t]? = some x) (kind idx act obj oth code val : Int) (hd : doneS x) (hi : x.calls = idx) (hc : x.code = code) (hv : x.val = val) (hn : act ≠ 0) :
    Calls Try.prog 23 #[spV p, evV ⟨kind, (t : Int), idx, act, obj, oth, code, val⟩] w (HandPost w A p s none) := by
  have H := Lib.hid h
  have HX := Lib.hid hx
  have ix := idx_thrs p.T s.T.length p.cT t (thr_lt hx)
  have e0 : (act == 0) = false := beq_eq_false_iff_ne.2 hn
  have e1 : (act != 0) = true := by rw [bne, e0]; rfl
  have Hhd := Lib.hid hd
  have Hhi := Lib.hid hi
  have Hhc := Lib.hid hc
  have Hhv := Lib.hid hv
  have Hhn := Lib.hid hn
  have HF0 := Lib.hid (Fr.boxed h ⟨kind, (t : Int), idx, act, obj, oth, code, val⟩)
  clear h hx hd hi hc hv hn
  go_enter Try.func23, Try.ntmps23
  go_upto_region 1 with fail
  generalize hW : w.alloc _ = W at HF0 ⊢
  obtain ⟨bx, hbx⟩ : ∃ bx, bx = w.heap.size := ⟨_, rfl⟩
  rw [← hbx] at HF0 ⊢
  clear hbx hW
  obtain ⟨⟨c0, c1⟩, b0, b1, b2, b3, b4, b5, b6, b7⟩ := HF0.out.cells
  dsimp only at b0 b1 b2 b3 b4 b5 b6 b7
  have xc := (HF0.out.sp.th HX.out).calls
  rw [Hhi.out] at xc
  have xco := (HF0.out.sp.th HX.out).code
  rw [Hhc.out] at xco
  have xv := (HF0.out.sp.th HX.out).val
  rw [Hhv.out] at xv
  go_quiet (fail)
  generalize hq : World.drewN _ _ = W2
  have HF1 := Lib.hid (show Fr w W2 A p s bx _ from by rw [← hq]; exact HF0.out.drewN _)
  clear hq HF0 c0 c1 b0 b1 b2 b3 b4 b5 b6 b7 xc xco xv
  obtain ⟨⟨c0, c1⟩, b0, b1, b2, b3, b4, b5, b6, b7⟩ := HF1.out.cells
  dsimp only at b0 b1 b2 b3 b4 b5 b6 b7
  have xc := (HF1.out.sp.th HX.out).calls
  rw [Hhi.out] at xc
  have xco := (HF1.out.sp.th HX.out).code
  rw [Hhc.out] at xco
  have xv := (HF1.out.sp.th HX.out).val
  rw [Hhv.out] at xv
  go_upto_region 2 with fail
  go_quiet ((first | (go_at_call 38; exact Calls.quiet_of_same (doneq (done_yes (HF1.out.drewN _).sp HX.out Hhd.out))) | (go_at_call 38; exact Calls.quiet_of_same (doneq (done_yes HF1.out.drew.sp HX.out Hhd.out)))))
  generalize hq : World.drewN _ _ = W3
  have HF2 := Lib.hid (show Fr w W3 A p s bx _ from by rw [← hq]; exact HF1.out.drewN _)
  clear hq HF1 c0 c1 b0 b1 b2 b3 b4 b5 b6 b7 xc xco xv
  obtain ⟨⟨c0, c1⟩, b0, b1, b2, b3, b4, b5, b6, b7⟩ := HF2.out.cells
  dsimp only at b0 b1 b2 b3 b4 b5 b6 b7
  have xc := (HF2.out.sp.th HX.out).calls
  rw [Hhi.out] at xc
  have xco := (HF2.out.sp.th HX.out).code
  rw [Hhc.out] at xco
  have xv := (HF2.out.sp.th HX.out).val
  rw [Hhv.out] at xv
  go_wp2_with fail
  go_ret
  exact HandPost.no HF2.out.sp HF2.out.kp
set_option maxHeartbeats 4000000 in
theorem close_5 {w : World} {A : Nat → Prop} {p : Pl} {s : SS} (h : SpecAt w A p s) {t : Nat} {x : Th} (hx : s.T[t]? = some x) (kind idx act obj oth code val : Int) (hd : doneS x) (hi : x.calls = idx) (hc : x.code = code) (hv : x.val = val) (ha : act = 0) (hn : obj ≠ 0) :
    Calls Try.prog 23 #[spV p, evV ⟨kind, (t : Int), idx, act, obj, oth, code, val⟩] w (HandPost w A p s none) := by
  have H := Lib.hid h
  have HX := Lib.hid hx
  have ix := idx_thrs p.T s.T.length p.cT t (thr_lt hx)
  have e0 : (obj == 0) = false := beq_eq_false_iff_ne.2 hn
  have e1 : (obj != 0) = true := by rw [bne, e0]; rfl
  have Hhd := Lib.hid hd
  have Hhi := Lib.hid hi
  have Hhc := Lib.hid hc
  have Hhv := Lib.hid hv
  have Hha := Lib.hid ha
  have Hhn := Lib.hid hn
  have HF0 := Lib.hid (Fr.boxed h ⟨kind, (t : Int), idx, act, obj, oth, code, val⟩)
  clear h hx hd hi hc hv ha hn
  go_enter Try.func23, Try.ntmps23
  go_upto_region 1 with fail
  generalize hW : w.alloc _ = W at HF0 ⊢
  obtain ⟨bx, hbx⟩ : ∃ bx, bx = w.heap.size := ⟨_, rfl⟩
  rw [← hbx] at HF0 ⊢
  clear hbx hW
  obtain ⟨⟨c0, c1⟩, b0, b1, b2, b3, b4, b5, b6, b7⟩ := HF0.out.cells
  dsimp only at b0 b1 b2 b3 b4 b5 b6 b7
  rw [Hha.out] at b3
  have xc := (HF0.out.sp.th HX.out).calls
  rw [Hhi.out] at xc
  have xco := (HF0.out.sp.th HX.out).code
  rw [Hhc.out] at xco
  have xv := (HF0.out.sp.th HX.out).val
  rw [Hhv.out] at xv
  go_quiet (fail)
  generalize hq : World.drewN _ _ = W2
  have HF1 := Lib.hid (show Fr w W2 A p s bx _ from by rw [← hq]; exact HF0.out.drewN _)
  clear hq HF0 c0 c1 b0 b1 b2 b3 b4 b5 b6 b7 xc xco xv
  obtain ⟨⟨c0, c1⟩, b0, b1, b2, b3, b4, b5, b6, b7⟩ := HF1.out.cells
  dsimp only at b0 b1 b2 b3 b4 b5 b6 b7
  rw [Hha.out] at b3
  have xc := (HF1.out.sp.th HX.out).calls
  rw [Hhi.out] at xc
  have xco := (HF1.out.sp.th HX.out).code
  rw [Hhc.out] at xco
  have xv := (HF1.out.sp.th HX.out).val
  rw [Hhv.out] at xv
  go_upto_region 2 with fail
  go_quiet ((first | (go_at_call 38; exact Calls.quiet_of_same (doneq (done_yes (HF1.out.drewN _).sp HX.out Hhd.out))) | (go_at_call 38; exact Calls.quiet_of_same (doneq (done_yes HF1.out.drew.sp HX.out Hhd.out)))))
  generalize hq : World.drewN _ _ = W3
  have HF2 := Lib.hid (show Fr w W3 A p s bx _ from by rw [← hq]; exact HF1.out.drewN _)
  clear hq HF1 c0 c1 b0 b1 b2 b3 b4 b5 b6 b7 xc xco xv
  obtain ⟨⟨c0, c1⟩, b0, b1, b2, b3, b4, b5, b6, b7⟩ := HF2.out.cells
  dsimp only at b0 b1 b2 b3 b4 b5 b6 b7
  rw [Hha.out] at b3
  have xc := (HF2.out.sp.th HX.out).calls
  rw [Hhi.out] at xc
  have xco := (HF2.out.sp.th HX.out).code
  rw [Hhc.out] at xco
  have xv := (HF2.out.sp.th HX.out).val
  rw [Hhv.out] at xv
  go_wp2_with fail
  go_ret
  exact HandPost.no HF2.out.sp HF2.out.kp
set_option maxHeartbeats 4000000 in
theorem close_6 {w : World} {A : Nat → Prop} {p : Pl} {s : SS} (h : SpecAt w A p s) {t : Nat} {x : Th} (hx : s.T[t]? = some x) (kind idx act obj oth code val : Int) (hd : doneS x) (hi : x.calls = idx) (hc : x.code = code) (hv : x.val = val) (ha : act = 0) (hb : obj = 0) (hn : oth ≠ 0) :
    Calls Try.prog 23 #[spV p, evV ⟨kind, (t : Int), idx, act, obj, oth, code, val⟩] w (HandPost w A p s none) := by
  have H := Lib.hid h
  have HX := Lib.hid hx
  have ix := idx_thrs p.T s.T.length p.cT t (thr_lt hx)
  have e0 : (oth == 0) = false := beq_eq_false_iff_ne.2 hn
  have e1 : (oth != 0) = true := by rw [bne, e0]; rfl
  have Hhd := Lib.hid hd
  have Hhi := Lib.hid hi
  have Hhc := Lib.hid hc
  have Hhv := Lib.hid hv
  have Hha := Lib.hid ha
  have Hhb := Lib.hid hb
  have Hhn := Lib.hid hn
  have HF0 := Lib.hid (Fr.boxed h ⟨kind, (t : Int), idx, act, obj, oth, code, val⟩)
  clear h hx hd hi hc hv ha hb hn
  go_enter Try.func23, Try.ntmps23
  go_upto_region 1 with fail
  generalize hW : w.alloc _ = W at HF0 ⊢
  obtain ⟨bx, hbx⟩ : ∃ bx, bx = w.heap.size := ⟨_, rfl⟩
  rw [← hbx] at HF0 ⊢
  clear hbx hW
  obtain ⟨⟨c0, c1⟩, b0, b1, b2, b3, b4, b5, b6, b7⟩ := HF0.out.cells
  dsimp only at b0 b1 b2 b3 b4 b5 b6 b7
  rw [Hha.out] at b3
  rw [Hhb.out] at b4
  have xc := (HF0.out.sp.th HX.out).calls
  rw [Hhi.out] at xc
  have xco := (HF0.out.sp.th HX.out).code
  rw [Hhc.out] at xco
  have xv := (HF0.out.sp.th HX.out).val
  rw [Hhv.out] at xv
  go_quiet (fail)
  generalize hq : World.drewN _ _ = W2
  have HF1 := Lib.hid (show Fr w W2 A p s bx _ from by rw [← hq]; exact HF0.out.drewN _)
  clear hq HF0 c0 c1 b0 b1 b2 b3 b4 b5 b6 b7 xc xco xv
  obtain ⟨⟨c0, c1⟩, b0, b1, b2, b3, b4, b5, b6, b7⟩ := HF1.out.cells
  dsimp only at b0 b1 b2 b3 b4 b5 b6 b7
  rw [Hha.out] at b3
  rw [Hhb.out] at b4
  have xc := (HF1.out.sp.th HX.out).calls
  rw [Hhi.out] at xc
  have xco := (HF1.out.sp.th HX.out).code
  rw [Hhc.out] at xco
  have xv := (HF1.out.sp.th HX.out).val
  rw [Hhv.out] at xv
  go_upto_region 2 with fail
  go_quiet ((first | (go_at_call 38; exact Calls.quiet_of_same (doneq (done_yes (HF1.out.drewN _).sp HX.out Hhd.out))) | (go_at_call 38; exact Calls.quiet_of_same (doneq (done_yes HF1.out.drew.sp HX.out Hhd.out)))))
  generalize hq : World.drewN _ _ = W3
  have HF2 := Lib.hid (show Fr w W3 A p s bx _ from by rw [← hq]; exact HF1.out.drewN _)
  clear hq HF1 c0 c1 b0 b1 b2 b3 b4 b5 b6 b7 xc xco xv
  obtain ⟨⟨c0, c1⟩, b0, b1, b2, b3, b4, b5, b6, b7⟩ := HF2.out.cells
  dsimp only at b0 b1 b2 b3 b4 b5 b6 b7
  rw [Hha.out] at b3
  rw [Hhb.out] at b4
  have xc := (HF2.out.sp.th HX.out).calls
  rw [Hhi.out] at xc
  have xco := (HF2.out.sp.th HX.out).code
  rw [Hhc.out] at xco
  have xv := (HF2.out.sp.th HX.out).val
  rw [Hhv.out] at xv
  go_wp2_with fail
  go_ret
  exact HandPost.no HF2.out.sp HF2.out.kp
set_option maxHeartbeats 4000000 in
theorem close_7 {w : World} {A : Nat → Prop} {p : Pl} {s : SS} (h : SpecAt w A p s) {t : Nat} {x : Th} (hx : s.T[t]? = some x) (kind idx act obj oth code val : Int) (hd : doneS x) (hi : x.calls = idx) (hc : x.code = code) (hv : x.val = val) (ha : act = 0) (hb : obj = 0) (hn : oth = 0) :
    Calls Try.prog 23 #[spV p, evV ⟨kind, (t : Int), idx, act, obj, oth, code, val⟩] w (HandPost w A p s (some (s.setT t ⟨0, 0, 0, 0, wrap64 (x.calls + 1), x.flag, 0, 0, 0⟩))) := by
  have H := Lib.hid h
  have HX := Lib.hid hx
  have ix := idx_thrs p.T s.T.length p.cT t (thr_lt hx)
  have Hhd := Lib.hid hd
  have Hhi := Lib.hid hi
  have Hhc := Lib.hid hc
  have Hhv := Lib.hid hv
  have Hha := Lib.hid ha
  have Hhb := Lib.hid hb
  have Hhn := Lib.hid hn
  have HF0 := Lib.hid (Fr.boxed h ⟨kind, (t : Int), idx, act, obj, oth, code, val⟩)
  clear h hx hd hi hc hv ha hb hn
  go_enter Try.func23, Try.ntmps23
  go_upto_region 1 with fail
  generalize hW : w.alloc _ = W at HF0 ⊢
  obtain ⟨bx, hbx⟩ : ∃ bx, bx = w.heap.size := ⟨_, rfl⟩
  rw [← hbx] at HF0 ⊢
  clear hbx hW
  obtain ⟨⟨c0, c1⟩, b0, b1, b2, b3, b4, b5, b6, b7⟩ := HF0.out.cells
  dsimp only at b0 b1 b2 b3 b4 b5 b6 b7
  rw [Hha.out] at b3
  rw [Hhb.out] at b4
  rw [Hhn.out] at b5
  have xc := (HF0.out.sp.th HX.out).calls
  rw [Hhi.out] at xc
  have xco := (HF0.out.sp.th HX.out).code
  rw [Hhc.out] at xco
  have xv := (HF0.out.sp.th HX.out).val
  rw [Hhv.out] at xv
  go_quiet (fail)
  generalize hq : World.drewN _ _ = W2
  have HF1 := Lib.hid (show Fr w W2 A p s bx _ from by rw [← hq]; exact HF0.out.drewN _)
  clear hq HF0 c0 c1 b0 b1 b2 b3 b4 b5 b6 b7 xc xco xv
  obtain ⟨⟨c0, c1⟩, b0, b1, b2, b3, b4, b5, b6, b7⟩ := HF1.out.cells
  dsimp only at b0 b1 b2 b3 b4 b5 b6 b7
  rw [Hha.out] at b3
  rw [Hhb.out] at b4
  rw [Hhn.out] at b5
  have xc := (HF1.out.sp.th HX.out).calls
  rw [Hhi.out] at xc
  have xco := (HF1.out.sp.th HX.out).code
  rw [Hhc.out] at xco
  have xv := (HF1.out.sp.th HX.out).val
  rw [Hhv.out] at xv
  go_upto_region 2 with fail
  go_quiet ((first | (go_at_call 38; exact Calls.quiet_of_same (doneq (done_yes (HF1.out.drewN _).sp HX.out Hhd.out))) | (go_at_call 38; exact Calls.quiet_of_same (doneq (done_yes HF1.out.drew.sp HX.out Hhd.out)))))
  generalize hq : World.drewN _ _ = W3
  have HF2 := Lib.hid (show Fr w W3 A p s bx _ from by rw [← hq]; exact HF1.out.drewN _)
  clear hq HF1 c0 c1 b0 b1 b2 b3 b4 b5 b6 b7 xc xco xv
  obtain ⟨⟨c0, c1⟩, b0, b1, b2, b3, b4, b5, b6, b7⟩ := HF2.out.cells
  dsimp only at b0 b1 b2 b3 b4 b5 b6 b7
  rw [Hha.out] at b3
  rw [Hhb.out] at b4
  rw [Hhn.out] at b5
  have xc := (HF2.out.sp.th HX.out).calls
  rw [Hhi.out] at xc
  have xco := (HF2.out.sp.th HX.out).code
  rw [Hhc.out] at xco
  have xv := (HF2.out.sp.th HX.out).val
  rw [Hhv.out] at xv
  have hTm := HF2.out.sp.mine.2.1
  have xf := (HF2.out.sp.th HX.out).flag
  go_upto_region 4 with fail
  have HFd := Lib.hid HF2.out.drew
  go_still_tail 12, (by kernel_rfl)
  change wpList _ _ _ _ _ W3.drew
  generalize hq : W3.drew = Wd at HFd ⊢
  clear hq HF2 xf xc xco xv c0 c1 b0 b1 b2 b3 b4 b5 b6 b7
  rw [← Hhi.out]
  obtain ⟨cs, hB, hfit, hS⟩ := HFd.out.sp.putT HX.out ⟨0, 0, 0, 0, wrap64 (x.calls + 1), x.flag, 0, 0, 0⟩
  have HO := Lib.hid (HFd.out.step hS (row_keep hTm _))
  clear hS
  rw [show IntKind.i64.wrap (x.calls + 1) = wrap64 (x.calls + 1) from IntWalk.i64_left _]
  refine wpList_store_at rfl 72 _ _ rfl p.T (t * 9) (thC ⟨0, 0, 0, 0, wrap64 (x.calls + 1), x.flag, 0, 0, 0⟩).toArray rfl rfl 72 cs hB (by kernel_rfl) hfit (by simp [thC, Value.oneCell']) ?_
  generalize hq : World.setRow _ _ _ = Wz at HO ⊢
  clear hq
  go_wp2_with fail
  go_ret
  exact HandPost.yes HO.out.sp HO.out.kp
/-- close -/
theorem close_any {w : World} {A : Nat → Prop} {p : Pl} {s : SS} (h : SpecAt w A p s) {t : Nat} {x : Th} (hx : s.T[t]? = some x) (kind idx act obj oth code val : Int) :
    Calls Try.prog 23 #[spV p, evV ⟨kind, (t : Int), idx, act, obj, oth, code, val⟩] w (HandPost w A p s (closeS s t x ⟨kind, (t : Int), idx, act, obj, oth, code, val⟩)) := by
  unfold closeS
  dsimp only
  by_cases hd : doneS x
  rotate_left
  · rw [if_pos (.inl hd)]; exact close_1 h hx kind idx act obj oth code val hd
  by_cases hi : idx = x.calls
  rotate_left
  · rw [if_pos (.inr (.inl hi))]; exact close_2 h hx kind idx act obj oth code val hd hi
  by_cases hc : code = x.code
  rotate_left
  · rw [if_pos (.inr (.inr (.inl hc)))]; exact close_3 h hx kind idx act obj oth code val hd hi.symm hc
  by_cases hv : val = x.val
  rotate_left
  · rw [if_pos (.inr (.inr (.inr (.inl hv))))]; exact close_3b h hx kind idx act obj oth code val hd hi.symm hc.symm hv
  by_cases ha : act = 0
  rotate_left
  · rw [if_pos (.inr (.inr (.inr (.inr (.inl ha)))))]; exact close_4 h hx kind idx act obj oth code val hd hi.symm hc.symm hv.symm ha
  by_cases hb : obj = 0
  rotate_left
  · rw [if_pos (.inr (.inr (.inr (.inr (.inr (.inl hb))))))]; exact close_5 h hx kind idx act obj oth code val hd hi.symm hc.symm hv.symm ha hb
  by_cases ho : oth = 0
  rotate_left
  · rw [if_pos (.inr (.inr (.inr (.inr (.inr (.inr ho))))))]; exact close_6 h hx kind idx act obj oth code val hd hi.symm hc.symm hv.symm ha hb ho
  rw [if_neg (by rintro (k | k | k | k | k | k | k) <;> contradiction)]
  exact close_7 h hx kind idx act obj oth code val hd hi.symm hc.symm hv.symm ha hb ho
end Go.Proofs.Ytcgljmeppmdihaa
