/- Contracts of package permit, for one goroutine alone: New. -/
import Derived.Test.YtldofbkjjmnooaaGreatMgGSlD
import Derived.Conc.SmallLaws
import Derived.StillTailTactics
import Derived.Deep.CutBlock
import Derived.Deep.RegionHeld3
import Derived.Test.YtldofbkjjmnooaaGreatMgGSlA
import Derived.Test.YtldofbkjjmnooaaGreatMgGSlI
import Derived.Test.YtldofbkjjmnooaaGreatMgGSlF
import Derived.Test.YtldofbkjjmnooaaGreatMgGSlH
namespace Go.Proofs.YtldofbkjjmnooaaGreat
open Go.ChangeShapes Go.WideShapes Go.ChangeAt Go.RowKit
set_option linter.unusedVariables false
set_option maxRecDepth 100000
set_option linter.unusedSimpArgs false
/-- a row that is made so far: channels, and none -/
def rowSo (n : Nat) (cs : List Nat) : Array Value := ((cs.map fun c => Value.chan (some c)) ++ List.replicate (n - cs.length) (Value.chan none)).toArray
theorem rowSo_size {n : Nat} {cs : List Nat} (h : cs.length ≤ n) : (rowSo n cs).size = n := by simp [rowSo]; omega
theorem rowSo_at {n : Nat} {cs : List Nat} (h : cs.length < n) : (rowSo n cs)[cs.length]? = some (.chan none) := by
  obtain ⟨m, rfl⟩ : ∃ m, n = cs.length + (m + 1) := ⟨n - cs.length - 1, by omega⟩
  rw [rowSo, Nat.add_sub_cancel_left]
  simp [List.replicate_succ, List.getElem?_append]
theorem rowSo_set {n : Nat} {cs : List Nat} (h : cs.length < n) (c : Nat) : (rowSo n cs).setIfInBounds cs.length (.chan (some c)) = rowSo n (cs ++ [c]) := by
  obtain ⟨m, rfl⟩ : ∃ m, n = cs.length + (m + 1) := ⟨n - cs.length - 1, by omega⟩
  rw [← Array.toList_inj]
  simp [rowSo, List.replicate_succ, List.set_append]
  rw [show cs.length + (m + 1) - (cs.length + 1) = m by omega]
theorem rowSo_full {n : Nat} {cs : List Nat} (h : cs.length = n) : rowSo n cs = chansV cs := by simp [rowSo, chansV, h]
theorem unit_info : (Tryz.prog.info? 68).map (·.bytes) = some 0 := by kernel_rfl
theorem permit_info : (Tryz.prog.info? 201).map (fun i => (i.zero, i.size, i.bytes)) = some (some (.chan none), 1, 8) := by kernel_rfl
theorem make_chan (w : World) : (Instr.makeChan 201 (.int .i64 1)).run Tryz.prog w = .ok (.chan (some w.heap.size)) (w.alloc (.chan 1 #[] false 0 0 false)) := by
  obtain ⟨i, hi, hb⟩ := Option.map_eq_some_iff.1 unit_info
  simpa using Go.Conc.run_makeChan (P := Tryz.prog) (w := w) Tryz.underlying201 hi .i64 1 (by omega) (by rw [hb]; omega)
theorem make_row (n : Nat) (w : World) (hn : n ≤ 32766) : (Instr.makeSlice 183 (.int .i64 (n : Int)) (.int .i64 (n : Int))).run Tryz.prog w = .ok (.slice (some ⟨w.heap.size, 0, none⟩) n n) (w.alloc (.cells (rowSo n []) 201)) := by
  obtain ⟨i, hi, hz0, hz1, hz2⟩ := info_parts permit_info
  have h := run_make (P := Tryz.prog) w 183 201 i _ Tryz.underlying183 hi hz0 .i64 .i64 n n (by omega) (by omega) (by rw [hz2]; omega) (by omega)
  rw [h, hz1, Nat.mul_one]
  simp only [Int.toNat_natCast]
  have : madeCells #[Value.chan none] n = rowSo n [] := by
    rw [← Array.toList_inj, toList_madeCells_one]
    simp [rowSo]
  rw [← this]
  rfl
/-- where New has got to: k channels are made -/
structure Made (w wr : World) (n : Nat) (cs : List Nat) : Prop where
  own : Blk wr (w.heap.size + 1) 185 #[.slice (some ⟨w.heap.size, 0, none⟩) n n]
  row : Blk wr w.heap.size 201 (rowSo n cs)
  chan : ∀ c ∈ cs, ChanAt wr c false ∧ w.heap.size + 1 < c
  once : cs.Nodup
  below : Below w.heap.size w wr
theorem Made.more {w wr : World} {n : Nat} {cs : List Nat} (h : Made w wr n cs) (hn : cs.length < n) :
    Made w ((wr.alloc (.chan 1 #[] false 0 0 false)).setCell ⟨w.heap.size, cs.length, none⟩ (.chan (some wr.heap.size))) n (cs ++ [wr.heap.size]) := by
  have hlt := h.own.lt
  refine ⟨(h.own.alloc _).far (by omega) _ _, ?_, ?_, ?_, ?_⟩
  · have := (h.row.alloc (.chan 1 #[] false 0 0 false)).set cs.length (.chan (some wr.heap.size))
    rwa [rowSo_set hn] at this
  · intro c hc
    have hne : c ≠ w.heap.size → ∀ W : World, ((W.setCell ⟨w.heap.size, cs.length, none⟩ (.chan (some wr.heap.size))).heap[c]? = W.heap[c]?) := fun hx W => Below.heap_setCell W ⟨w.heap.size, cs.length, none⟩ _ c hx
    rcases List.mem_append.1 hc with hc | hc
    · obtain ⟨⟨s, r, hx⟩, hy⟩ := h.chan c hc
      refine ⟨⟨s, r, ?_⟩, hy⟩
      rw [hne (by omega), Below.heap_alloc wr _ c (Array.getElem?_eq_some_iff.1 hx).1, hx]
    · obtain rfl : c = wr.heap.size := by simpa using hc
      refine ⟨⟨0, 0, ?_⟩, by omega⟩
      rw [hne (by omega)]
      show (wr.heap.push _)[wr.heap.size]? = _
      simp
  · refine List.nodup_append.2 ⟨h.once, by simp, fun a ha b hb => ?_⟩
    obtain rfl : b = wr.heap.size := by simpa using hb
    obtain ⟨⟨s, r, hx⟩, _⟩ := h.chan a ha
    have := (Array.getElem?_eq_some_iff.1 hx).1
    omega
  · exact (h.below.alloc h.below.size _).setCell (p := ⟨w.heap.size, cs.length, none⟩) (Nat.le_refl _) _
theorem Made.drewN {w wr : World} {n : Nat} {cs : List Nat} (h : Made w wr n cs) (m : Nat) : Made w (wr.drewN m) n cs := ⟨h.own, h.row, h.chan, h.once, bdrewN h.below m⟩
theorem Made.whole {w wr : World} {n : Nat} {cs : List Nat} (h : Made w wr n cs) (hn : cs.length = n) (hm : n ≤ 32766) : PermitsAt wr (w.heap.size + 1) w.heap.size cs (List.replicate n false) := by
  refine ⟨by simpa using h.own, by rw [← rowSo_full hn]; exact h.row, by simpa using hn, fun i c b hc hb => ?_, h.once, by simpa using hm⟩
  obtain rfl : b = false := by
    rw [List.getElem?_replicate] at hb
    split at hb <;> simp_all
  exact (h.chan c (List.mem_of_getElem? hc)).1
set_option maxRecDepth 100000 in
theorem pnew_some (n : Nat) (w : World) (h1 : 1 ≤ n) (hn : n ≤ 32766) :
    Calls Tryz.prog 203 #[.int .i64 n] w fun e w' => e = .returned (permitsV (w.heap.size + 1)) ∧ (∃ cs, PermitsAt w' (w.heap.size + 1) w.heap.size cs (List.replicate n false) ∧ ∀ c ∈ cs, w.heap.size + 1 < c) ∧ Below w.heap.size w w' := by
  have hmk := make_row n w hn
  have hmc := make_chan
  go_enter Tryz.func203, Tryz.ntmps203
  go_wp2_with fail
  have M0 : Made w ((w.alloc (.cells (rowSo n []) 201)).alloc (.cells #[.slice (some ⟨w.heap.size, 0, none⟩) n n] 185)) n [] :=
    ⟨blk_two _ _ _ _, (Blk.new _ _ _).alloc _, by simp, List.nodup_nil, ((Below.refl _ w).alloc (Nat.le_refl _) _).alloc (by simp) _⟩
  generalize (w.alloc (.cells (rowSo n []) 201)).alloc (.cells #[.slice (some ⟨w.heap.size, 0, none⟩) n n] 185) = W0 at *
  go_loopw [20] (fun i wr => ∃ cs : List Nat, cs.length ≤ n ∧ i = .int .i64 cs.length ∧ Made w wr n cs) (fun i wr => n - (intOf i).toNat)
  case atStart => exact ⟨[], Nat.zero_le _, rfl, M0⟩
  case round =>
    obtain ⟨cs, hk, rfl, hM⟩ := hrel
    by_cases hlt : cs.length < n
    · have hc := hM.own.cell 0 _ rfl
      have hz := hM.row.free cs.length
      have hr := hM.row.cell cs.length _ (rowSo_at hlt)
      go_upto_region 7 with fail
      have i0 : 0 ≤ (cs.length : Int) ∧ (cs.length : Int) < n := by omega
      refine wp_region_held_drew (S := (fun w' => w'.cell? ⟨w.heap.size + 1, 0, none⟩ = some (.slice (some ⟨w.heap.size, 0, none⟩) n n))) (by kernel_rfl) (hc) (fun hHeld => ?_)
      refine wpAnyH_take (i := 0) (oi := _) (v := ?_) rfl (by kernel_rfl) (by kernel_rfl) (by kernel_rfl) (fun _ _ _ h => h) (Or.inl ⟨by rfl, ?_⟩) (by assumption) ?_
      rotate_left
      · intro w hSw; (try dsimp only at hSw); go_simp; try with_reducible rfl
      (try simp only [Act.put, List.setIfInBounds_toArray, List.set_cons_zero, List.set_cons_succ])
      refine wpAnyH_take (i := 1) (oi := _) (v := ?_) rfl (by kernel_rfl) (by kernel_rfl) (by kernel_rfl) (fun _ _ _ h => h) (Or.inl ⟨by rfl, ?_⟩) (by assumption) ?_
      rotate_left
      · intro w hSw; (try dsimp only at hSw); go_simp; try with_reducible rfl
      (try simp only [Act.put, List.setIfInBounds_toArray, List.set_cons_zero, List.set_cons_succ])
      refine wpAnyH_take (i := 2) (oi := _) (v := ?_) rfl (by kernel_rfl) (by kernel_rfl) (by kernel_rfl) (fun _ _ _ h => h) (Or.inl ⟨by rfl, ?_⟩) (by assumption) ?_
      rotate_left
      · intro w hSw; (try dsimp only at hSw); go_simp; try with_reducible rfl
      (try simp only [Act.put, List.setIfInBounds_toArray, List.set_cons_zero, List.set_cons_succ])
      refine wpAnyH_take (i := 3) (oi := _) (v := ?_) rfl (by kernel_rfl) (by kernel_rfl) (by kernel_rfl) (fun _ _ _ h => h) (Or.inl ⟨by rfl, ?_⟩) (by assumption) ?_
      rotate_left
      · intro w hSw; (try dsimp only at hSw); go_simp; try with_reducible rfl
      (try simp only [Act.put, List.setIfInBounds_toArray, List.set_cons_zero, List.set_cons_succ])
      refine wpAnyH_take (i := 4) (oi := _) (v := ?_) rfl (by kernel_rfl) (by kernel_rfl) (by kernel_rfl) (fun _ _ _ h => h) (Or.inl ⟨by rfl, ?_⟩) (by assumption) ?_
      rotate_left
      · intro w hSw; (try dsimp only at hSw); go_simp; try with_reducible rfl
      (try simp only [Act.put, List.setIfInBounds_toArray, List.set_cons_zero, List.set_cons_succ])
      have hM2 : Made w wr.drew n cs := hM.drewN 1
      have hM3 := hM2.more hlt
      have ha : (wr.alloc (.chan 1 #[] false 0 0 false)).cell? ⟨w.heap.size + 1, 0, none⟩ = some (.slice (some ⟨w.heap.size, 0, none⟩) n n) := (hM.own.alloc _).cell 0 _ rfl
      have hz2 : (wr.alloc (.chan 1 #[] false 0 0 false)).frozen? ⟨w.heap.size, cs.length, none⟩ = false := (hM.row.alloc _).free _
      have hr2 : (wr.alloc (.chan 1 #[] false 0 0 false)).cell? ⟨w.heap.size, cs.length, none⟩ = some (.chan none) := (hM.row.alloc _).cell _ _ (rowSo_at hlt)
      have hx := hM3.own.cell 0 _ rfl
      refine wpAnyH_ready (rs := [5]) (by kernel_rfl) (by simp) ?_
      refine AllReadyH.cons rfl (fun K hK => ?_) AllReadyH.nil
      go_simp
      go_wp2_with fail
      refine hK.out _ _ (ha) (fun hHeld => ?_)
      clear hK K
      (try dsimp only [Act.put]); (try simp only [Act.put, List.setIfInBounds_toArray, List.set_cons_zero, List.set_cons_succ])
      refine wpAnyH_take (i := 6) (oi := _) (v := ?_) rfl (by kernel_rfl) (by kernel_rfl) (by kernel_rfl) (fun _ _ _ h => h) (Or.inl ⟨by rfl, ?_⟩) (by assumption) ?_
      rotate_left
      · intro w hSw; (try dsimp only at hSw); go_simp; try with_reducible rfl
      (try simp only [Act.put, List.setIfInBounds_toArray, List.set_cons_zero, List.set_cons_succ])
      refine wpAnyH_ready (rs := [7]) (by kernel_rfl) (by simp) ?_
      refine AllReadyH.cons rfl (fun K hK => ?_) AllReadyH.nil
      go_simp
      go_wp2_with fail
      refine hK.out _ _ (hx) (fun hHeld => ?_)
      clear hK K
      (try dsimp only [Act.put]); (try simp only [Act.put, List.setIfInBounds_toArray, List.set_cons_zero, List.set_cons_succ])
      refine wpAnyH_done (by kernel_rfl) ?_ _
      go_wp2
      go_roundw
      case rel => exact ⟨cs ++ [wr.heap.size], by simp; omega, by simp, hM3⟩
      case measure => simp [intOf]; omega
    · obtain hk' : cs.length = n := by omega
      go_wp2_with fail
      go_ret
      exact ⟨rfl, ⟨cs, hM.whole hk' hn, fun c hc => (hM.chan c hc).2⟩, hM.below⟩
set_option maxRecDepth 100000 in
theorem pnew_none (n : Int) (w : World) (hn : n < 1 ∨ 32766 < n) :
    Calls Tryz.prog 203 #[.int .i64 n] w fun e w' => e = .returned (.pointer none) ∧ w = w' := by
  rcases hn with hn | hn
  · go_enter Tryz.func203, Tryz.ntmps203
    go_wp2_with fail
    go_ret
    exact ⟨rfl, rfl⟩
  · have h0 : ¬ n < 1 := by omega
    go_enter Tryz.func203, Tryz.ntmps203
    go_wp2_with fail
    go_ret
    exact ⟨rfl, rfl⟩
end Go.Proofs.YtldofbkjjmnooaaGreat
/- Events: their values, rows of them. No program is named here. -/
namespace Go.Proofs.YtldofbkjjmnooaaGreat
open Go.ChangeShapes Go.WideShapes Go.ChangeAt Go.RowKit
set_option linter.unusedVariables false
/-- an event -/
structure Ev where
  kind : Int
  thr : Int
  idx : Int
  act : Int
  obj : Int
  oth : Int
  code : Int
  val : Int
abbrev evV (e : Ev) : Value := .agg #[.int .i64 e.kind, .int .i64 e.thr, .int .i64 e.idx, .int .i64 e.act, .int .i64 e.obj, .int .i64 e.oth, .int .i64 e.code, .int .i64 e.val]
def evL (e : Ev) : List Value := [.int .i64 e.kind, .int .i64 e.thr, .int .i64 e.idx, .int .i64 e.act, .int .i64 e.obj, .int .i64 e.oth, .int .i64 e.code, .int .i64 e.val]
/-- a row of events, from a place on -/
def EvsAt (w : World) (B off : Nat) (l : List Ev) : Prop := ∀ (i : Nat) (e : Ev), l[i]? = some e → ∀ (j : Nat) (v : Value), (evL e)[j]? = some v → w.cell? ⟨B, off + i * 8 + j, none⟩ = some v
theorem flat8 : ∀ (l : List Ev) (i : Nat) (e : Ev), l[i]? = some e → ∀ (j : Nat) (v : Value), (evL e)[j]? = some v → (l.flatMap evL)[i * 8 + j]? = some v
  | [], i, e, h, _, _, _ => by simp at h
  | a :: l, 0, e, h, j, v, hv => by
    simp at h
    subst h
    rw [List.flatMap_cons, Nat.zero_mul, Nat.zero_add, List.getElem?_append_left (List.getElem?_eq_some_iff.1 hv).1]
    exact hv
  | a :: l, i + 1, e, h, j, v, hv => by
    have h1 : l[i]? = some e := by simpa using h
    rw [List.flatMap_cons, List.getElem?_append_right (by show 8 ≤ _; omega), show (i + 1) * 8 + j - (evL a).length = i * 8 + j by show _ - 8 = _; omega]
    exact flat8 l i e h1 j v hv
theorem evs_lit {w : World} {B : Nat} {t : TypeId} {cs : Array Value} (l : List Ev) (h : Blk w B t cs) (he : cs = (l.flatMap evL).toArray) : EvsAt w B 0 l := fun i e hi j v hv => by
  subst he
  have := h.cell (0 + i * 8 + j) v (by rw [Nat.zero_add, List.getElem?_toArray]; exact flat8 l i e hi j v hv)
  exact this
abbrev evC (e : Ev) : Array Value := #[.int .i64 e.kind, .int .i64 e.thr, .int .i64 e.idx, .int .i64 e.act, .int .i64 e.obj, .int .i64 e.oth, .int .i64 e.code, .int .i64 e.val]
/-- an event in its box: what is read of it -/
structure EvAt (w : World) (bx : Nat) (e : Ev) : Prop where
  b0 : w.cell? ⟨bx, 0, none⟩ = some (.int .i64 e.kind)
  b1 : w.cell? ⟨bx, 1, none⟩ = some (.int .i64 e.thr)
  b2 : w.cell? ⟨bx, 2, none⟩ = some (.int .i64 e.idx)
  b3 : w.cell? ⟨bx, 3, none⟩ = some (.int .i64 e.act)
  b4 : w.cell? ⟨bx, 4, none⟩ = some (.int .i64 e.obj)
  b5 : w.cell? ⟨bx, 5, none⟩ = some (.int .i64 e.oth)
  b6 : w.cell? ⟨bx, 6, none⟩ = some (.int .i64 e.code)
  b7 : w.cell? ⟨bx, 7, none⟩ = some (.int .i64 e.val)
theorem evAt {w : World} {t : TypeId} {bx : Nat} {e : Ev} (h : Blk w bx t (evC e)) : EvAt w bx e := ⟨h.cell 0 _ rfl, h.cell 1 _ rfl, h.cell 2 _ rfl, h.cell 3 _ rfl, h.cell 4 _ rfl, h.cell 5 _ rfl, h.cell 6 _ rfl, h.cell 7 _ rfl⟩
theorem EvAt.conj {w : World} {bx : Nat} {e : Ev} (h : EvAt w bx e) : w.cell? ⟨bx, 0, none⟩ = some (.int .i64 e.kind) ∧ w.cell? ⟨bx, 1, none⟩ = some (.int .i64 e.thr) ∧ w.cell? ⟨bx, 2, none⟩ = some (.int .i64 e.idx) ∧ w.cell? ⟨bx, 3, none⟩ = some (.int .i64 e.act) ∧ w.cell? ⟨bx, 4, none⟩ = some (.int .i64 e.obj) ∧ w.cell? ⟨bx, 5, none⟩ = some (.int .i64 e.oth) ∧ w.cell? ⟨bx, 6, none⟩ = some (.int .i64 e.code) ∧ w.cell? ⟨bx, 7, none⟩ = some (.int .i64 e.val) := ⟨h.b0, h.b1, h.b2, h.b3, h.b4, h.b5, h.b6, h.b7⟩
end Go.Proofs.YtldofbkjjmnooaaGreat
/- A ground in memory. -/
namespace Go.Proofs.YtldofbkjjmnooaaGreat
open Go.ChangeShapes Go.WideShapes Go.ChangeAt Go.RowKit
set_option linter.unusedVariables false
set_option maxRecDepth 100000
set_option linter.unusedSimpArgs false
/-- where a ground's blocks lie -/
structure GrP where
  G : Nat
  C : Nat
  S : Nat
  P : Nat
  R : Nat
  cs : List Nat
abbrev grV (g : GrP) : Value := .pointer (some ⟨g.G, 0, none⟩)
abbrev grA (g : GrP) (m : Mp) (vo : Value) : Array Value := #[.int .i64 (m.t : Int), .int .i64 (m.o : Int), .int .i64 (m.n : Int), cellsV g.C, permitsV g.P, .int .i32 0, .int .u32 0, vo]
/-- the blocks of a ground -/
def grB (g : GrP) (vo : Value) : Nat → Prop := fun b => b = g.G ∨ b = g.C ∨ b = g.S ∨ b = g.P ∨ b = g.R ∨ b ∈ g.cs ∨ vo.ownBlock = some b
structure GrAt (w : World) (g : GrP) (m : Mp) (mm : List Int) (k : Int) (l : List Bool) (vo : Value) (E : List Ev) : Prop where
  own : Blk w g.G 79 (grA g m vo)
  cells : CellsAt w g.C g.S mm k
  perms : PermitsAt w g.P g.R g.cs l
  row : w.ownsRow 0 118 8 vo E.length (E.flatMap evL)
  ok : m.ok
  size : mm.length = sizeN m
  few : l.length = m.t
theorem blk_chan {w : World} {B c : Nat} {t : TypeId} {xs : Array Value} {b : Bool} (h : Blk w B t xs) (hc : ChanAt w c b) : B ≠ c := by
  rintro rfl
  obtain ⟨s, r, hx⟩ := hc
  rw [show w.heap[B]? = _ from h] at hx
  cases hx
section
variable {w w1 : World} {g : GrP} {m : Mp} {mm mm' : List Int} {k k' : Int} {l l' : List Bool} {vo vo' : Value} {E E' : List Ev}
theorem GrAt.chan (h : GrAt w g m mm k l vo E) {c : Nat} (hc : c ∈ g.cs) : ∃ b, ChanAt w c b := by
  obtain ⟨i, hi, e⟩ := List.mem_iff_getElem.1 hc
  have hl := h.perms.len
  exact ⟨l[i]'(by omega), h.perms.chan i c _ (by rw [List.getElem?_eq_getElem hi, e]) (by simp)⟩
theorem GrAt.lt (h : GrAt w g m mm k l vo E) {b : Nat} (hb : grB g vo b) : b < w.heap.size := by
  rcases hb with rfl | rfl | rfl | rfl | rfl | hb | hb
  · exact h.own.lt
  · exact h.cells.own.lt
  · exact h.cells.row.lt
  · exact h.perms.own.lt
  · exact h.perms.row.lt
  · obtain ⟨x, s, r, hx⟩ := h.chan hb
    exact (Array.getElem?_eq_some_iff.1 hx).1
  · exact (row_lt h.row hb).1
theorem GrAt.keep {F : Nat → Prop} (h : GrAt w g m mm k l vo E) (hk : Keep F w w1) (hF : ∀ b, grB g vo b → ¬ F b) : GrAt w1 g m mm k l vo E :=
  ⟨h.own.keep hk (hF _ (.inl rfl)), h.cells.keep hk (hF _ (.inr (.inl rfl))) (hF _ (.inr (.inr (.inl rfl)))),
    h.perms.keep hk (hF _ (.inr (.inr (.inr (.inl rfl))))) (hF _ (.inr (.inr (.inr (.inr (.inl rfl)))))) (fun c hc => hF _ (.inr (.inr (.inr (.inr (.inr (.inl hc))))))),
    row_ownkeep h.row hk (fun b hb => hF _ (.inr (.inr (.inr (.inr (.inr (.inr hb))))))), h.ok, h.size, h.few⟩
theorem GrAt.below (h : GrAt w g m mm k l vo E) (hb : Below w.heap.size w w1) : GrAt w1 g m mm k l vo E := h.keep (F := fun _ => False) (Keep.ofBelow hb) (fun _ _ h => h)
theorem GrAt.alloc (h : GrAt w g m mm k l vo E) (o : Obj) : GrAt (w.alloc o) g m mm k l vo E := h.below ((Below.refl _ _).alloc (Nat.le_refl _) o)
theorem GrAt.apartG (h : GrAt w g m mm k l vo E) : g.G ≠ g.C ∧ g.G ≠ g.S ∧ g.G ≠ g.P ∧ g.G ≠ g.R ∧ g.G ∉ g.cs ∧ vo.ownBlock ≠ some g.G := by
  refine ⟨h.own.apart h.cells.own (by decide), h.own.apart h.cells.row (by decide), h.own.apart h.perms.own (by decide), h.own.apart h.perms.row (by decide), fun hc => ?_, fun hg => ?_⟩
  · obtain ⟨b, hb⟩ := h.chan hc
    exact blk_chan h.own hb rfl
  · obtain ⟨_, cur, hB⟩ := row_lt h.row hg
    exact hB.apart h.own (by decide) rfl
theorem GrAt.apartV (h : GrAt w g m mm k l vo E) {b : Nat} (hb : vo.ownBlock = some b) : b ≠ g.G ∧ b ≠ g.C ∧ b ≠ g.S ∧ b ≠ g.P ∧ b ≠ g.R ∧ b ∉ g.cs := by
  obtain ⟨_, cur, hB⟩ := row_lt h.row hb
  refine ⟨hB.apart h.own (by decide), hB.apart h.cells.own (by decide), hB.apart h.cells.row (by decide), hB.apart h.perms.own (by decide), hB.apart h.perms.row (by decide), fun hc => ?_⟩
  obtain ⟨x, hx⟩ := h.chan hc
  exact blk_chan hB hx rfl
/-- cells turn -/
theorem GrAt.cells' (h : GrAt w g m mm k l vo E) (hc : CellsAt w1 g.C g.S mm' k') (hk : Keep (ofCells g.C g.S) w w1) (hl : mm'.length = mm.length) : GrAt w1 g m mm' k' l vo E := by
  obtain ⟨a1, a2, a3, a4, a5, a6⟩ := h.apartG
  have hn : ∀ b, b ≠ g.C → b ≠ g.S → ¬ ofCells g.C g.S b := fun b h1 h2 h3 => by rcases h3 with h3 | h3 <;> contradiction
  refine ⟨h.own.keep hk (hn _ a1 a2), hc, h.perms.keep hk (hn _ (h.perms.own.apart h.cells.own (by decide)) (h.perms.own.apart h.cells.row (by decide))) (hn _ (h.perms.row.apart h.cells.own (by decide)) (h.perms.row.apart h.cells.row (by decide))) (fun c hx => ?_), row_ownkeep h.row hk (fun b hb => hn _ (h.apartV hb).2.1 (h.apartV hb).2.2.1), h.ok, hl.trans h.size, h.few⟩
  obtain ⟨x, hx⟩ := h.chan hx
  exact hn _ (fun e => blk_chan h.cells.own hx e.symm) (fun e => blk_chan h.cells.row hx e.symm)
/-- permits turn -/
theorem GrAt.perms' (h : GrAt w g m mm k l vo E) (hp : PermitsAt w1 g.P g.R g.cs l') (hk : Keep (fun b => b ∈ g.cs) w w1) (hl : l'.length = l.length) : GrAt w1 g m mm k l' vo E := by
  obtain ⟨a1, a2, a3, a4, a5, a6⟩ := h.apartG
  have hn : ∀ {B : Nat} {t : TypeId} {xs : Array Value}, Blk w B t xs → ¬ B ∈ g.cs := fun hB hc => by
    obtain ⟨x, hx⟩ := h.chan hc
    exact blk_chan hB hx rfl
  exact ⟨h.own.keep hk a5, h.cells.keep hk (hn h.cells.own) (hn h.cells.row), hp, row_ownkeep h.row hk (fun b hb => (h.apartV hb).2.2.2.2.2), h.ok, h.size, hl.trans h.few⟩
/-- the log turns -/
theorem GrAt.log' (h : GrAt w g m mm k l vo E) (ho : Blk w1 g.G 79 (grA g m vo')) (hr : w1.ownsRow 0 118 8 vo' E'.length (E'.flatMap evL)) (hk : Keep (fun b => b = g.G ∨ vo.ownBlock = some b) w w1) : GrAt w1 g m mm k l vo' E' := by
  obtain ⟨a1, a2, a3, a4, a5, a6⟩ := h.apartG
  have hn : ∀ b, b ≠ g.G → vo.ownBlock ≠ some b → ¬ (b = g.G ∨ vo.ownBlock = some b) := fun b h1 h2 h3 => by rcases h3 with h3 | h3 <;> contradiction
  refine ⟨ho, h.cells.keep hk (hn _ a1.symm fun e => (h.apartV e).2.1 rfl) (hn _ a2.symm fun e => (h.apartV e).2.2.1 rfl), h.perms.keep hk (hn _ a3.symm fun e => (h.apartV e).2.2.2.1 rfl) (hn _ a4.symm fun e => (h.apartV e).2.2.2.2.1 rfl) (fun c hc => hn _ (fun e => a5 (e ▸ hc)) fun e => (h.apartV e).2.2.2.2.2 hc), hr, h.ok, h.size, h.few⟩
end
end Go.Proofs.YtldofbkjjmnooaaGreat
/- Package task: what is asked of a task; Run. -/
namespace Go.Proofs.YtldofbkjjmnooaaGreat
open Go.ChangeShapes Go.WideShapes Go.ChangeAt Go.RowKit
set_option linter.unusedVariables false
set_option maxRecDepth 100000
set_option linter.unusedSimpArgs false
/-- an operation, or a parking -/
theorem TaskG.kinds {w : World} {C P t : Nat} {Q : Nat → Prop} {x : Itm} {r : List Itm} {v : Int} (h : TaskG w C P t Q (x :: r) v) :
    (x.kind < 5 ∧ ∃ b rest, Live w t (cloV 260 #[pV b]) (.pointer none) rest) ∨ ((x.kind = 5 ∨ x.kind = 6) ∧ ∃ pb rest, Live w t .nilFunc (pV pb) rest ∧ Blk w pb 265 #[pV P, .int .i64 x.at', .bool (x.kind == 6)]) := by
  obtain ⟨Q1, q1, q2, hlt, d, p, rest, gs, fs, hL, hT, hO, hc⟩ := h.view
  rcases hO with ⟨⟨b, F, caps, rfl, rfl, _, _, bc, bi, _, _, _, _, hO⟩, _⟩ | ⟨hk, rfl, rfl, pb, rfl, _, hb⟩
  · refine .inl ⟨?_, b, rest, hL⟩
    rcases hO with ⟨h, _⟩ | ⟨h, _⟩ | ⟨h, _⟩ | ⟨h, _⟩ <;> omega
  · exact .inr ⟨hk, pb, rest, hL, hb⟩
theorem op_no (C P t : Nat) (Q : Nat → Prop) (x : Itm) (r : List Itm) (v k : Int) (w : World) (h : TaskG w C P t Q (x :: r) v) (hk : x.kind < 5) (h0 : k ≠ 0) :
    Calls Tryz.prog 37 #[pV t, .int .i64 k] w fun e w' => e = .returned (.bool false) ∧ Keep (fun _ => False) w w' := by
  rcases h.kinds with ⟨_, b, rest, hL⟩ | ⟨hk2, _⟩
  · exact step_no t _ _ rest k 0 w hL (opend_do_no b k w h0)
  · omega
theorem park_no (C P R t : Nat) (cs : List Nat) (ps : List Bool) (Q : Nat → Prop) (x : Itm) (r : List Itm) (v k : Int) (b : Bool) (w : World) (h : TaskG w C P t Q (x :: r) v) (hP : PermitsAt w P R cs ps) (hk : x.kind = 5 ∨ x.kind = 6) (hx : ps[x.at']? = some b) (he : endsS b (x.kind == 6) k = false) :
    Calls Tryz.prog 37 #[pV t, .int .i64 k] w fun e w' => e = .returned (.bool false) ∧ Keep (fun _ => False) w w' := by
  rcases h.kinds with ⟨hk2, _⟩ | ⟨_, pb, rest, hL, hb⟩
  · omega
  · refine step_no t _ _ rest k 0 w hL (opend_park pb k 0 false w (fun w' => Keep (fun _ => False) w w') fun W hw => ?_)
    have kW : Keep (fun _ => False) w W := Keep.ofBelow hw
    refine (pend_no P R cs ps pb x.at' _ b k W (hb.below hw hb.lt) (hP.keep kW (fun h => h) (fun h => h) (fun _ _ h => h)) hx he).mono ?_
    rintro e w' ⟨rfl, g1⟩
    exact ⟨rfl, kW.trans g1⟩
theorem can_done (C P t : Nat) (Q : Nat → Prop) (v k : Int) (w : World) (h : TaskG w C P t Q [] v) :
    Calls Tryz.prog 58 #[pV t, .int .i64 k] w fun e w' => e = .returned (.bool false) ∧ w = w' := by
  obtain ⟨k', e, hb⟩ := h.done.resolve_left (fun h => by cases h.1)
  obtain rfl : t = k' := by simpa using e
  have HP := Lib.hid (parked_no t _ _ _ w hb)
  have HD := Lib.hid (done_yes t _ _ w hb)
  clear hb h
  go_enter Tryz.func58, Tryz.ntmps58
  go_wp2_with (first | (go_at_call 57; refine HP.out.mono ?_; rintro e w2 ⟨rfl, rfl⟩) | (go_at_call 38; refine HD.out.mono ?_; rintro e w2 ⟨rfl, rfl⟩))
  go_ret
  exact ⟨rfl, rfl⟩
theorem can_op (C P t : Nat) (Q : Nat → Prop) (x : Itm) (r : List Itm) (v k : Int) (w : World) (h : TaskG w C P t Q (x :: r) v) (hk : x.kind < 5) :
    Calls Tryz.prog 58 #[pV t, .int .i64 k] w fun e w' => e = .returned (.bool (k == 0)) ∧ w = w' := by
  rcases h.kinds with ⟨_, b, rest, hL⟩ | ⟨hk2, _⟩
  · have HP := Lib.hid (parked_no t _ _ _ w hL.blk)
    have HD := Lib.hid (live_done t _ _ _ w hL)
    clear h hL
    by_cases h0 : k = 0
    · subst h0
      go_enter Tryz.func58, Tryz.ntmps58
      go_wp2_with (first | (go_at_call 57; refine HP.out.mono ?_; rintro e w2 ⟨rfl, rfl⟩) | (go_at_call 38; refine HD.out.mono ?_; rintro e w2 ⟨rfl, rfl⟩))
      go_ret
      exact ⟨rfl, rfl⟩
    · go_enter Tryz.func58, Tryz.ntmps58
      go_wp2_with (first | (go_at_call 57; refine HP.out.mono ?_; rintro e w2 ⟨rfl, rfl⟩) | (go_at_call 38; refine HD.out.mono ?_; rintro e w2 ⟨rfl, rfl⟩))
      go_ret
      exact ⟨by simp [h0], rfl⟩
  · omega
theorem can_park (C P R t : Nat) (cs : List Nat) (ps : List Bool) (Q : Nat → Prop) (x : Itm) (r : List Itm) (v k : Int) (b : Bool) (w : World) (h : TaskG w C P t Q (x :: r) v) (hP : PermitsAt w P R cs ps) (hk : x.kind = 5 ∨ x.kind = 6) (hx : ps[x.at']? = some b) :
    Calls Tryz.prog 58 #[pV t, .int .i64 k] w fun e w' => e = .returned (.bool (endsS b (x.kind == 6) k)) ∧ Keep (fun _ => False) w w' := by
  rcases h.kinds with ⟨hk2, _⟩ | ⟨_, pb, rest, hL, hb⟩
  · omega
  · have HP := Lib.hid (parked_yes t pb _ _ _ w hL.blk)
    have HE := Lib.hid (ends_any P R cs ps pb x.at' _ b k w hb hP hx)
    have c1 : w.cell? ⟨t, 1, none⟩ = some (pV pb) := hL.blk.cell 1 _ rfl
    generalize endsS b (x.kind == 6) k = res at *
    clear h hL hP hx hb
    go_enter Tryz.func58, Tryz.ntmps58
    go_wp2_with (first | (go_at_call 57; refine HP.out.mono ?_; rintro e w2 ⟨rfl, rfl⟩) | (go_at_call 142; refine HE.out.mono ?_; rintro e w2 ⟨rfl, hk2⟩))
    go_ret
    exact ⟨rfl, hk2⟩
theorem isdone_any (C P t : Nat) (Q : Nat → Prop) (r : List Itm) (v : Int) (w : World) (h : TaskG w C P t Q r v) :
    Calls Tryz.prog 38 #[pV t] w fun e w' => e = .returned (.bool r.isEmpty) ∧ w = w' := by
  cases r with
  | nil => exact doneV_done _ v w h.done
  | cons x r =>
    rcases h.kinds with ⟨_, b, rest, hL⟩ | ⟨_, pb, rest, hL, _⟩
    · exact live_done t _ _ _ w hL
    · exact live_done t _ _ _ w hL
theorem isvalue_any (C P t : Nat) (Q : Nat → Prop) (r : List Itm) (v : Int) (w : World) (h : TaskG w C P t Q r v) :
    Calls Tryz.prog 27 #[pV t] w fun e w' => e = .returned (.int .i64 (valueS r v)) ∧ w = w' := by
  cases r with
  | nil => exact doneV_value _ v w h.done
  | cons x r =>
    rcases h.kinds with ⟨_, b, rest, hL⟩ | ⟨_, pb, rest, hL, _⟩
    · exact value_any t _ _ _ 0 w hL.blk
    · exact value_any t _ _ _ 0 w hL.blk
theorem isparked_any (C P t : Nat) (Q : Nat → Prop) (r : List Itm) (v : Int) (w : World) (h : TaskG w C P t Q r v) :
    Calls Tryz.prog 57 #[pV t] w fun e w' => e = .returned (.bool (parkedS r)) ∧ w = w' := by
  cases r with
  | nil =>
    obtain ⟨k', e, hb⟩ := h.done.resolve_left (fun h => by cases h.1)
    obtain rfl : t = k' := by simpa using e
    exact parked_no t _ _ _ w hb
  | cons x r =>
    rcases h.kinds with ⟨hk, b, rest, hL⟩ | ⟨hk, pb, rest, hL, _⟩
    · have e : parkedS (x :: r) = false := by simp [parkedS]; omega
      rw [e]; exact parked_no t _ _ _ w hL.blk
    · have e : parkedS (x :: r) = true := by simp [parkedS]; omega
      rw [e]; exact parked_yes t pb _ _ _ w hL.blk
/- Run, of a task that neither parks nor spins -/
end Go.Proofs.YtldofbkjjmnooaaGreat
