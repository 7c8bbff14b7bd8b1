/- Contracts of package word: the parts of a tag. -/
import Derived.Test.YtbaehokffdpopaaGreatWordA
import Derived.Test.YtbaehokffdpopaaGreatBlk
import Derived.Deep.RegionHeld3
import Derived.Deep.DeepCutAuto
import Derived.Laws.EntriesVeiled
import Derived.Laws.Rows
import Derived.Laws.CopyOwn
import Derived.Deep.WholeRow
import Derived.Deep.CutBlock
namespace Go.Proofs.YtbaehokffdpopaaGreat
open Go.ChangeShapes Go.WideShapes Go.ChangeAt Go.RowKit
set_option linter.unusedVariables false
set_option linter.unusedSimpArgs false
open Wd
/-- six parts that are not set yet -/
abbrev zero18 : Array Value := #[.int .i64 0, .int .i64 0, .nilFunc, .int .i64 0, .int .i64 0, .nilFunc, .int .i64 0, .int .i64 0, .nilFunc, .int .i64 0, .int .i64 0, .nilFunc, .int .i64 0, .int .i64 0, .nilFunc, .int .i64 0, .int .i64 0, .nilFunc]
abbrev lits18 : Array Value := #[.int .i64 0, .int .i64 3, .func (.func 210) #[] #[], .int .i64 3, .int .i64 24, .func (.func 212) #[] #[], .int .i64 0, .int .i64 0, .func (.func 208) #[] #[], .int .i64 0, .int .i64 0, .func (.func 208) #[] #[], .int .i64 0, .int .i64 0, .func (.func 208) #[] #[], .int .i64 0, .int .i64 0, .func (.func 208) #[] #[]]
/-- within partsOf: the result's block, the box of what is not used -/
structure PInv (w0 : World) (w : World) : Prop where
  base : Below w0.heap.size w0 w
  res : Blk w w0.heap.size 215 zero18
  box : Blk w (w0.heap.size + 1) 214 #[.int .i64 0, .int .i64 0, .func (.func 208) #[] #[]]
theorem PInv.drew {w0 w : World} (h : PInv w0 w) : PInv w0 w.drew := ⟨h.base.drew, h.res, h.box⟩
theorem PInv.below {w0 w w' : World} (h : PInv w0 w) (hb : Below w.heap.size w w') : PInv w0 w' :=
  ⟨h.base.trans (hb.mono h.base.size), h.res.below hb h.res.lt, h.box.below hb h.box.lt⟩
theorem PInv.alloc {w0 w : World} (h : PInv w0 w) (o : Obj) : PInv w0 (w.alloc o) := h.below ((Below.refl _ w).alloc (Nat.le_refl _) o)
theorem PInv.set {w0 w : World} (h : PInv w0 w) {C : Nat} (hC : w0.heap.size + 1 < C) (j : Nat) (x : Value) : PInv w0 (w.setCell ⟨C, j, none⟩ x) :=
  ⟨h.base.setCell (p := ⟨C, j, none⟩) (by show w0.heap.size ≤ C; omega) x, h.res.far (by omega) j x, h.box.far (by omega) j x⟩
theorem PInv.row {w0 w : World} (h : PInv w0 w) {C : Nat} (hC : w0.heap.size + 1 < C) (x : Array Value) : PInv w0 (w.setRow C x) :=
  ⟨below_setRow h.base (by omega) x, h.res.rowFar (by omega) x, h.box.rowFar (by omega) x⟩
/-- what the region over the parts needs: the box of what is not used -/
theorem PInv.three {w0 w : World} (h : PInv w0 w) : w.cell? ⟨w0.heap.size + 1, 0, none⟩ = some (.int .i64 0) ∧ w.cell? ⟨w0.heap.size + 1, 1, none⟩ = some (.int .i64 0) ∧ w.cell? ⟨w0.heap.size + 1, 2, none⟩ = some (.func (.func 208) #[] #[]) :=
  ⟨h.box.cell 0 _ rfl, h.box.cell 1 _ rfl, h.box.cell 2 _ rfl⟩
abbrev partsArr (p0 p1 p2 p3 p4 p5 : Prt) : Array Value := #[.int .i64 p0.a, .int .i64 p0.k, .func (.func (fnOf p0.f)) #[] #[], .int .i64 p1.a, .int .i64 p1.k, .func (.func (fnOf p1.f)) #[] #[],
  .int .i64 p2.a, .int .i64 p2.k, .func (.func (fnOf p2.f)) #[] #[], .int .i64 p3.a, .int .i64 p3.k, .func (.func (fnOf p3.f)) #[] #[],
  .int .i64 p4.a, .int .i64 p4.k, .func (.func (fnOf p4.f)) #[] #[], .int .i64 p5.a, .int .i64 p5.k, .func (.func (fnOf p5.f)) #[] #[]]
theorem lits_one : lits18.all (·.oneCell') = true := by simp [lits18, Value.oneCell']
theorem parts_size : (Tryz.prog.info? 215).map (·.size) = some 18 := by kernel_rfl
set_option maxRecDepth 100000 in
set_option maxHeartbeats 4000000 in
theorem partsOf_any (t : Int) (w : World) : Calls Tryz.prog 179 #[.int .i64 t] w fun e w' => e = .returned (prtsV pTag pHash (p2 t) (p3 t) (p4 t) (p5 t)) ∧ Below w.heap.size w w' := by
  go_enter Tryz.func179, Tryz.ntmps179
  go_upto_region 2 with fail
  generalize hW : (w.alloc _).alloc _ = W
  have T : PInv w W := by
    rw [← hW]
    refine ⟨by go_grown, (Blk.new w _ _).alloc _, ?_⟩
    have := Blk.new (w.alloc (.cells zero18 215)) 214 #[.int .i64 0, .int .i64 0, .func (.func 208) #[] #[]]
    rw [World.size_alloc] at this
    exact this
  clear hW
  go_cut [4] (fun s4 wx => ∃ B : Nat, s4 = .pointer (some ⟨B, 0, none⟩) ∧ w.heap.size + 1 < B ∧ Blk wx B 215 lits18 ∧ PInv w wx)
  case first =>
    have hC : w.heap.size + 1 < W.heap.size := T.box.lt
    refine wp_region_noPanic ?_
    refine wp_region_held_drew (S := (fun w' => w'.cell? ⟨w.heap.size + 1, 0, none⟩ = some (.int .i64 0) ∧ w'.cell? ⟨w.heap.size + 1, 1, none⟩ = some (.int .i64 0) ∧ w'.cell? ⟨w.heap.size + 1, 2, none⟩ = some (.func (.func 208) #[] #[]))) (by kernel_rfl) T.drew.three (fun hHeld => ?_)
    refine wpAnyH_take (i := 2) (oi := { dst := some 10, op := Op.build 212 #[(0, Operand.const (Value.int IntKind.i64 3)), (1, Operand.const (Value.int IntKind.i64 24))], type := 212, pos := "word.go:90", after := #[], guard := none }) (v := ?_) rfl (by kernel_rfl) (by kernel_rfl) (by kernel_rfl) (fun _ _ _ h => h) (Or.inl ⟨by rfl, ?_⟩) (by assumption) ?_
    rotate_left
    · intro w hSw
      (try dsimp only at hSw)
      go_simp
      try with_reducible rfl
    (try dsimp only [Act.put]); (try simp only [Act.put, List.setIfInBounds_toArray, List.set_cons_zero, List.set_cons_succ])
    refine wpAnyH_take (i := 3) (oi := { dst := some 11, op := Op.build 214 #[(0, Operand.tmp 10), (1, Operand.func 212)], type := 214, pos := "word.go:90", after := #[{ on := 2, ground := Ground.data }], guard := none }) (v := ?_) rfl (by kernel_rfl) (by kernel_rfl) (by kernel_rfl) (fun _ _ _ h => h) (Or.inl ⟨by rfl, ?_⟩) (by assumption) ?_
    rotate_left
    · intro w hSw
      (try dsimp only at hSw)
      go_simp
      try with_reducible rfl
    (try dsimp only [Act.put]); (try simp only [Act.put, List.setIfInBounds_toArray, List.set_cons_zero, List.set_cons_succ])
    refine wpAnyH_take (i := 4) (oi := { dst := some 12, op := Op.load 214 (Operand.tmp 3), type := 214, pos := "word.go:90", after := #[], guard := none }) (v := ?_) rfl (by kernel_rfl) (by kernel_rfl) (by kernel_rfl) (fun _ _ _ h => h) (Or.inl ⟨by rfl, ?_⟩) (by assumption) ?_
    rotate_left
    · intro w hSw
      (try dsimp only at hSw)
      go_simp
      try with_reducible rfl
    (try dsimp only [Act.put]); (try simp only [Act.put, List.setIfInBounds_toArray, List.set_cons_zero, List.set_cons_succ])
    refine wpAnyH_take (i := 5) (oi := { dst := some 13, op := Op.load 214 (Operand.tmp 3), type := 214, pos := "word.go:90", after := #[], guard := none }) (v := ?_) rfl (by kernel_rfl) (by kernel_rfl) (by kernel_rfl) (fun _ _ _ h => h) (Or.inl ⟨by rfl, ?_⟩) (by assumption) ?_
    rotate_left
    · intro w hSw
      (try dsimp only at hSw)
      go_simp
      try with_reducible rfl
    (try dsimp only [Act.put]); (try simp only [Act.put, List.setIfInBounds_toArray, List.set_cons_zero, List.set_cons_succ])
    refine wpAnyH_take (i := 6) (oi := { dst := some 14, op := Op.load 214 (Operand.tmp 3), type := 214, pos := "word.go:90", after := #[], guard := none }) (v := ?_) rfl (by kernel_rfl) (by kernel_rfl) (by kernel_rfl) (fun _ _ _ h => h) (Or.inl ⟨by rfl, ?_⟩) (by assumption) ?_
    rotate_left
    · intro w hSw
      (try dsimp only at hSw)
      go_simp
      try with_reducible rfl
    (try dsimp only [Act.put]); (try simp only [Act.put, List.setIfInBounds_toArray, List.set_cons_zero, List.set_cons_succ])
    refine wpAnyH_take (i := 7) (oi := { dst := some 15, op := Op.load 214 (Operand.tmp 3), type := 214, pos := "word.go:90", after := #[], guard := none }) (v := ?_) rfl (by kernel_rfl) (by kernel_rfl) (by kernel_rfl) (fun _ _ _ h => h) (Or.inl ⟨by rfl, ?_⟩) (by assumption) ?_
    rotate_left
    · intro w hSw
      (try dsimp only at hSw)
      go_simp
      try with_reducible rfl
    (try dsimp only [Act.put]); (try simp only [Act.put, List.setIfInBounds_toArray, List.set_cons_zero, List.set_cons_succ])
    refine wpAnyH_ready (rs := [0, 9]) (by kernel_rfl) (by simp) ?_
    refine AllReadyH.cons rfl (fun K hK => ?_) (AllReadyH.cons rfl (fun K hK => ?_) AllReadyH.nil)
    go_simp
    refine (tagPlace_any _).mono ?_; rintro e w3 ⟨rfl, hb⟩; replace T := T.drew.below hb; have hC3 : w.heap.size + 1 < w3.heap.size := T.box.lt; clear hb
    go_wp2_with fail
    refine hK.out _ _ T.three (fun hHeld => ?_)
    clear hK K
    (try dsimp only [Act.put]); (try simp only [Act.put, List.setIfInBounds_toArray, List.set_cons_zero, List.set_cons_succ])
    refine wpAnyH_take (i := 1) (oi := { dst := some 9, op := Op.build 214 #[(0, Operand.tmp 8), (1, Operand.func 210)], type := 214, pos := "word.go:90", after := #[{ on := 0, ground := Ground.data }], guard := none }) (v := ?_) rfl (by kernel_rfl) (by kernel_rfl) (by kernel_rfl) (fun _ _ _ h => h) (Or.inl ⟨by rfl, ?_⟩) (by assumption) ?_
    rotate_left
    · intro w hSw
      (try dsimp only at hSw)
      go_simp
      try with_reducible rfl
    (try dsimp only [Act.put]); (try simp only [Act.put, List.setIfInBounds_toArray, List.set_cons_zero, List.set_cons_succ])
    refine wpAnyH_take (i := 8) (oi := { dst := some 16, op := Op.build 215 #[(0, Operand.tmp 9), (1, Operand.tmp 11), (2, Operand.tmp 12), (3, Operand.tmp 13), (4, Operand.tmp 14), (5, Operand.tmp 15)], type := 215, pos := "word.go:90", after := #[{ on := 1, ground := Ground.data }, { on := 3, ground := Ground.data }, { on := 4, ground := Ground.data }, { on := 5, ground := Ground.data }, { on := 6, ground := Ground.data }, { on := 7, ground := Ground.data }], guard := none }) (v := ?_) rfl (by kernel_rfl) (by kernel_rfl) (by kernel_rfl) (fun _ _ _ h => h) (Or.inl ⟨by rfl, ?_⟩) (by assumption) ?_
    rotate_left
    · intro w hSw
      (try dsimp only at hSw)
      go_simp
      try with_reducible rfl
    (try dsimp only [Act.put]); (try simp only [Act.put, List.setIfInBounds_toArray, List.set_cons_zero, List.set_cons_succ])
    refine wpAnyH_ready (rs := [9]) (by kernel_rfl) (by simp) ?_
    refine AllReadyH.cons rfl (fun K hK => ?_) AllReadyH.nil
    go_simp
    refine hK.out _ _ (T.alloc _).three (fun hHeld => ?_)
    clear hK K
    (try dsimp only [Act.put]); (try simp only [Act.put, List.setIfInBounds_toArray, List.set_cons_zero, List.set_cons_succ])
    refine wpAnyH_ready (rs := [10]) (by kernel_rfl) (by simp) ?_
    refine AllReadyH.cons rfl (fun K hK => ?_) AllReadyH.nil
    rw [if_pos (by rfl)]
    refine wp_store_row 215 _ _ rfl w3.heap.size lits18 rfl rfl 215 zero18 (Blk.new w3 _ _) parts_size rfl lits_one ?_
    refine hK.out _ _ ((T.alloc _).row hC3 _).three (fun hHeld => ?_)
    clear hK K
    (try dsimp only [Act.put]); (try simp only [Act.put, List.setIfInBounds_toArray, List.set_cons_zero, List.set_cons_succ])
    refine wpAnyH_done (by kernel_rfl) ?_ _
    refine NoPanic.normal ?_
    go_wp2_with fail
    go_meet
    exact ⟨w3.heap.size, rfl, hC3, (Blk.new w3 _ _).row _, (T.alloc _).row hC3 _⟩
    go_simp
    refine hK.out _ _ (T.drew.alloc _).three (fun hHeld => ?_)
    clear hK K
    (try dsimp only [Act.put]); (try simp only [Act.put, List.setIfInBounds_toArray, List.set_cons_zero, List.set_cons_succ])
    refine wpAnyH_ready (rs := [0]) (by kernel_rfl) (by simp) ?_
    refine AllReadyH.cons rfl (fun K hK => ?_) AllReadyH.nil
    go_simp
    refine (tagPlace_any _).mono ?_; rintro e w3 ⟨rfl, hb⟩
    have hZ : Blk w3 W.heap.size 215 zero18 := (Blk.new W 215 zero18).drew.below hb (by show W.heap.size < (W.heap.push _).size; simp)
    replace T := (T.alloc (.cells zero18 215)).drew.below hb; clear hb
    go_wp2_with fail
    refine hK.out _ _ T.three (fun hHeld => ?_)
    clear hK K
    (try dsimp only [Act.put]); (try simp only [Act.put, List.setIfInBounds_toArray, List.set_cons_zero, List.set_cons_succ])
    refine wpAnyH_take (i := 1) (oi := { dst := some 9, op := Op.build 214 #[(0, Operand.tmp 8), (1, Operand.func 210)], type := 214, pos := "word.go:90", after := #[{ on := 0, ground := Ground.data }], guard := none }) (v := ?_) rfl (by kernel_rfl) (by kernel_rfl) (by kernel_rfl) (fun _ _ _ h => h) (Or.inl ⟨by rfl, ?_⟩) (by assumption) ?_
    rotate_left
    · intro w hSw
      (try dsimp only at hSw)
      go_simp
      try with_reducible rfl
    (try dsimp only [Act.put]); (try simp only [Act.put, List.setIfInBounds_toArray, List.set_cons_zero, List.set_cons_succ])
    refine wpAnyH_take (i := 8) (oi := { dst := some 16, op := Op.build 215 #[(0, Operand.tmp 9), (1, Operand.tmp 11), (2, Operand.tmp 12), (3, Operand.tmp 13), (4, Operand.tmp 14), (5, Operand.tmp 15)], type := 215, pos := "word.go:90", after := #[{ on := 1, ground := Ground.data }, { on := 3, ground := Ground.data }, { on := 4, ground := Ground.data }, { on := 5, ground := Ground.data }, { on := 6, ground := Ground.data }, { on := 7, ground := Ground.data }], guard := none }) (v := ?_) rfl (by kernel_rfl) (by kernel_rfl) (by kernel_rfl) (fun _ _ _ h => h) (Or.inl ⟨by rfl, ?_⟩) (by assumption) ?_
    rotate_left
    · intro w hSw
      (try dsimp only at hSw)
      go_simp
      try with_reducible rfl
    (try dsimp only [Act.put]); (try simp only [Act.put, List.setIfInBounds_toArray, List.set_cons_zero, List.set_cons_succ])
    refine wpAnyH_ready (rs := [10]) (by kernel_rfl) (by simp) ?_
    refine AllReadyH.cons rfl (fun K hK => ?_) AllReadyH.nil
    rw [if_pos (by rfl)]
    refine wp_store_row 215 _ _ rfl W.heap.size lits18 rfl rfl 215 zero18 hZ parts_size rfl lits_one ?_
    refine hK.out _ _ (T.row hC _).three (fun hHeld => ?_)
    clear hK K
    (try dsimp only [Act.put]); (try simp only [Act.put, List.setIfInBounds_toArray, List.set_cons_zero, List.set_cons_succ])
    refine wpAnyH_done (by kernel_rfl) ?_ _
    refine NoPanic.normal ?_
    go_wp2_with fail
    go_meet
    exact ⟨W.heap.size, rfl, hC, hZ.row _, T.row hC _⟩
  case rest =>
    obtain ⟨B, rfl, hB, R, T⟩ := hcut
    go_upto_block 0 with fail
    go_cut [] (fun wx => Blk wx B 215 (partsArr pTag pHash (p2 t) (p3 t) (p4 t) (p5 t)) ∧ PInv w wx)
    case first =>
      by_cases h2 : t = 2
      · subst h2
        go_upto_region 7 with fail
        generalize hW : (wc.alloc (.cells #[.int .i64 27, .int .i64 15, .func (.func 213) #[] #[]] 214)).alloc (.cells #[.int .i64 42, .int .i64 8, .func (.func 214) #[] #[]] 214) = W
        have RW : Blk W B 215 lits18 := by rw [← hW]; exact (R.alloc _).alloc _
        have TW : PInv w W := by rw [← hW]; exact (T.alloc _).alloc _
        have O : Blk W wc.heap.size 214 #[.int .i64 27, .int .i64 15, .func (.func 213) #[] #[]] := by rw [← hW]; exact (Blk.new wc _ _).alloc _
        have C : Blk W (wc.heap.size + 1) 214 #[.int .i64 42, .int .i64 8, .func (.func 214) #[] #[]] := by rw [← hW]; have := Blk.new (wc.alloc (.cells #[.int .i64 27, .int .i64 15, .func (.func 213) #[] #[]] 214)) 214 #[.int .i64 42, .int .i64 8, .func (.func 214) #[] #[]]; rw [World.size_alloc] at this; exact this
        clear hW
        have e6 := RW.cell 6 _ rfl
        have e7 := RW.cell 7 _ rfl
        have e8 := RW.cell 8 _ rfl
        have e9 := RW.cell 9 _ rfl
        have e10 := RW.cell 10 _ rfl
        have e11 := RW.cell 11 _ rfl
        have fr := RW.free
        have o0 := O.cell 0 _ rfl
        have o1 := O.cell 1 _ rfl
        have o2 := O.cell 2 _ rfl
        have q0 := C.cell 0 _ rfl
        have q1 := C.cell 1 _ rfl
        have q2 := C.cell 2 _ rfl
        go_region
        go_wp2_with fail
        go_meet
        exact ⟨((((((RW.set 6 _).set 7 _).set 8 _).set 9 _).set 10 _).set 11 _).drew, ((((((TW.set hB 6 _).set hB 7 _).set hB 8 _).set hB 9 _).set hB 10 _).set hB 11 _).drew⟩
      · by_cases h3 : t = 3
        · subst h3
          go_upto_region 10 with fail
          generalize hW : (wc.alloc (.cells #[.int .i64 27, .int .i64 15, .func (.func 213) #[] #[]] 214)).alloc (.cells #[.int .i64 42, .int .i64 8, .func (.func 215) #[] #[]] 214) = W
          have RW : Blk W B 215 lits18 := by rw [← hW]; exact (R.alloc _).alloc _
          have TW : PInv w W := by rw [← hW]; exact (T.alloc _).alloc _
          have O : Blk W wc.heap.size 214 #[.int .i64 27, .int .i64 15, .func (.func 213) #[] #[]] := by rw [← hW]; exact (Blk.new wc _ _).alloc _
          have C : Blk W (wc.heap.size + 1) 214 #[.int .i64 42, .int .i64 8, .func (.func 215) #[] #[]] := by rw [← hW]; have := Blk.new (wc.alloc (.cells #[.int .i64 27, .int .i64 15, .func (.func 213) #[] #[]] 214)) 214 #[.int .i64 42, .int .i64 8, .func (.func 215) #[] #[]]; rw [World.size_alloc] at this; exact this
          clear hW
          have e6 := RW.cell 6 _ rfl
          have e7 := RW.cell 7 _ rfl
          have e8 := RW.cell 8 _ rfl
          have e9 := RW.cell 9 _ rfl
          have e10 := RW.cell 10 _ rfl
          have e11 := RW.cell 11 _ rfl
          have fr := RW.free
          have o0 := O.cell 0 _ rfl
          have o1 := O.cell 1 _ rfl
          have o2 := O.cell 2 _ rfl
          have q0 := C.cell 0 _ rfl
          have q1 := C.cell 1 _ rfl
          have q2 := C.cell 2 _ rfl
          go_region
          go_wp2_with fail
          go_meet
          exact ⟨((((((RW.set 6 _).set 7 _).set 8 _).set 9 _).set 10 _).set 11 _).drew, ((((((TW.set hB 6 _).set hB 7 _).set hB 8 _).set hB 9 _).set hB 10 _).set hB 11 _).drew⟩
        · by_cases h4 : t = 4
          · subst h4
            have RW : Blk ((wc.alloc (.cells #[.int .i64 27, .int .i64 15, .func (.func 213) #[] #[]] 214)).alloc (.cells #[.int .i64 42, .int .i64 8, .func (.func 214) #[] #[]] 214)) B 215 lits18 := (R.alloc _).alloc _
            have TW := (T.alloc (.cells #[.int .i64 27, .int .i64 15, .func (.func 213) #[] #[]] 214)).alloc (.cells #[.int .i64 42, .int .i64 8, .func (.func 214) #[] #[]] 214)
            go_upto_region 12 with fail
            generalize (wc.alloc (.cells #[.int .i64 27, .int .i64 15, .func (.func 213) #[] #[]] 214)).alloc (.cells #[.int .i64 42, .int .i64 8, .func (.func 214) #[] #[]] 214) = W at *
            have e12 := RW.cell 12 _ rfl
            have e13 := RW.cell 13 _ rfl
            have e14 := RW.cell 14 _ rfl
            have e15 := RW.cell 15 _ rfl
            have e16 := RW.cell 16 _ rfl
            have e17 := RW.cell 17 _ rfl
            have fr := RW.free
            go_wp2_with fail
            go_meet
            exact ⟨((((((RW.set 12 _).set 13 _).set 14 _).set 15 _).set 16 _).set 17 _), ((((((TW.set hB 12 _).set hB 13 _).set hB 14 _).set hB 15 _).set hB 16 _).set hB 17 _)⟩
          · go_wp2_with fail
            go_meet
            have q2 : p2 t = pNo := by unfold p2; rw [if_neg h2, if_neg h3]
            have q3 : p3 t = pNo := by unfold p3; rw [if_neg h2, if_neg h3]
            have q4 : p4 t = pNo := if_neg h4
            have q5 : p5 t = pNo := if_neg h4
            rw [q2, q3, q4, q5]
            exact ⟨(R.alloc _).alloc _, (T.alloc _).alloc _⟩
    case rest =>
      obtain ⟨R, T⟩ := hcut
      go_wp2_with (first
        | (refine wpList_load_row rfl 215 _ rfl B rfl 215 _ (0, 0) _ R Tryz.underlying215 rfl parts_size ?_)
        | (refine wpList_store_row rfl 215 _ _ rfl w.heap.size (partsArr pTag pHash (p2 t) (p3 t) (p4 t) (p5 t)) rfl rfl 215 zero18 T.res parts_size rfl (by simp [Value.oneCell']) ?_))
      exact bodyPost_ret (v := prtsV pTag pHash (p2 t) (p3 t) (p4 t) (p5 t)) (results_cell_row rfl _ _ w.heap.size 215 _ (0, 0) _ rfl (T.res.row _) Tryz.underlying215 rfl parts_size) rfl ⟨rfl, below_setRow T.base (Nat.le_refl _) _⟩
end Go.Proofs.YtbaehokffdpopaaGreat
