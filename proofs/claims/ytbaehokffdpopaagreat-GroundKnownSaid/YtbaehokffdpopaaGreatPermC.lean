/- Contracts of package permit, for one goroutine alone: New. -/
import Derived.Test.YtbaehokffdpopaaGreatPermA
import Derived.Conc.SmallLaws
import Derived.StillTailTactics
import Derived.Deep.CutBlock
import Derived.Deep.RegionHeld3
namespace Go.Proofs.YtbaehokffdpopaaGreat
open Go.ChangeShapes Go.WideShapes Go.ChangeAt Go.RowKit
set_option linter.unusedVariables false
set_option maxRecDepth 100000
set_option linter.unusedSimpArgs false
/-- a row that is made so far: channels, and none -/
def rowSo (n : Nat) (cs : List Nat) : Array Value := ((cs.map fun c => Value.chan (some c)) ++ List.replicate (n - cs.length) (Value.chan none)).toArray
theorem rowSo_size {n : Nat} {cs : List Nat} (h : cs.length ≤ n) : (rowSo n cs).size = n := by simp [rowSo]; omega
theorem rowSo_at {n : Nat} {cs : List Nat} (h : cs.length < n) : (rowSo n cs)[cs.length]? = some (.chan none) := by
  obtain ⟨m, rfl⟩ : ∃ m, n = cs.length + (m + 1) := ⟨n - cs.length - 1, by omega⟩
  rw [rowSo, Nat.add_sub_cancel_left]
  simp [List.replicate_succ, List.getElem?_append]
theorem rowSo_set {n : Nat} {cs : List Nat} (h : cs.length < n) (c : Nat) : (rowSo n cs).setIfInBounds cs.length (.chan (some c)) = rowSo n (cs ++ [c]) := by
  obtain ⟨m, rfl⟩ : ∃ m, n = cs.length + (m + 1) := ⟨n - cs.length - 1, by omega⟩
  rw [← Array.toList_inj]
  simp [rowSo, List.replicate_succ, List.set_append]
  rw [show cs.length + (m + 1) - (cs.length + 1) = m by omega]
theorem rowSo_full {n : Nat} {cs : List Nat} (h : cs.length = n) : rowSo n cs = chansV cs := by simp [rowSo, chansV, h]
theorem unit_info : (Tryz.prog.info? 38).map (·.bytes) = some 0 := by kernel_rfl
theorem permit_info : (Tryz.prog.info? 147).map (fun i => (i.zero, i.size, i.bytes)) = some (some (.chan none), 1, 8) := by kernel_rfl
theorem make_chan (w : World) : (Instr.makeChan 147 (.int .i64 1)).run Tryz.prog w = .ok (.chan (some w.heap.size)) (w.alloc (.chan 1 #[] false 0 0 false)) := by
  obtain ⟨i, hi, hb⟩ := Option.map_eq_some_iff.1 unit_info
  simpa using Go.Conc.run_makeChan (P := Tryz.prog) (w := w) Tryz.underlying147 hi .i64 1 (by omega) (by rw [hb]; omega)
theorem make_row (n : Nat) (w : World) (hn : n ≤ 32766) : (Instr.makeSlice 125 (.int .i64 (n : Int)) (.int .i64 (n : Int))).run Tryz.prog w = .ok (.slice (some ⟨w.heap.size, 0, none⟩) n n) (w.alloc (.cells (rowSo n []) 147)) := by
  obtain ⟨i, hi, hz0, hz1, hz2⟩ := info_parts permit_info
  have h := run_make (P := Tryz.prog) w 125 147 i _ Tryz.underlying125 hi hz0 .i64 .i64 n n (by omega) (by omega) (by rw [hz2]; omega) (by omega)
  rw [h, hz1, Nat.mul_one]
  simp only [Int.toNat_natCast]
  have : madeCells #[Value.chan none] n = rowSo n [] := by
    rw [← Array.toList_inj, toList_madeCells_one]
    simp [rowSo]
  rw [← this]
  rfl
/-- where New has got to: k channels are made -/
structure Made (w wr : World) (n : Nat) (cs : List Nat) : Prop where
  own : Blk wr (w.heap.size + 1) 127 #[.slice (some ⟨w.heap.size, 0, none⟩) n n]
  row : Blk wr w.heap.size 147 (rowSo n cs)
  chan : ∀ c ∈ cs, ChanAt wr c false ∧ w.heap.size + 1 < c
  once : cs.Nodup
  below : Below w.heap.size w wr
theorem Made.more {w wr : World} {n : Nat} {cs : List Nat} (h : Made w wr n cs) (hn : cs.length < n) :
    Made w ((wr.alloc (.chan 1 #[] false 0 0 false)).setCell ⟨w.heap.size, cs.length, none⟩ (.chan (some wr.heap.size))) n (cs ++ [wr.heap.size]) := by
  have hlt := h.own.lt
  refine ⟨(h.own.alloc _).far (by omega) _ _, ?_, ?_, ?_, ?_⟩
  · have := (h.row.alloc (.chan 1 #[] false 0 0 false)).set cs.length (.chan (some wr.heap.size))
    rwa [rowSo_set hn] at this
  · intro c hc
    have hne : c ≠ w.heap.size → ∀ W : World, ((W.setCell ⟨w.heap.size, cs.length, none⟩ (.chan (some wr.heap.size))).heap[c]? = W.heap[c]?) := fun hx W => Below.heap_setCell W ⟨w.heap.size, cs.length, none⟩ _ c hx
    rcases List.mem_append.1 hc with hc | hc
    · obtain ⟨⟨s, r, hx⟩, hy⟩ := h.chan c hc
      refine ⟨⟨s, r, ?_⟩, hy⟩
      rw [hne (by omega), Below.heap_alloc wr _ c (Array.getElem?_eq_some_iff.1 hx).1, hx]
    · obtain rfl : c = wr.heap.size := by simpa using hc
      refine ⟨⟨0, 0, ?_⟩, by omega⟩
      rw [hne (by omega)]
      show (wr.heap.push _)[wr.heap.size]? = _
      simp
  · refine List.nodup_append.2 ⟨h.once, by simp, fun a ha b hb => ?_⟩
    obtain rfl : b = wr.heap.size := by simpa using hb
    obtain ⟨⟨s, r, hx⟩, _⟩ := h.chan a ha
    have := (Array.getElem?_eq_some_iff.1 hx).1
    omega
  · exact (h.below.alloc h.below.size _).setCell (p := ⟨w.heap.size, cs.length, none⟩) (Nat.le_refl _) _
theorem Made.drewN {w wr : World} {n : Nat} {cs : List Nat} (h : Made w wr n cs) (m : Nat) : Made w (wr.drewN m) n cs := ⟨h.own, h.row, h.chan, h.once, bdrewN h.below m⟩
theorem Made.whole {w wr : World} {n : Nat} {cs : List Nat} (h : Made w wr n cs) (hn : cs.length = n) (hm : n ≤ 32766) : PermitsAt wr (w.heap.size + 1) w.heap.size cs (List.replicate n false) := by
  refine ⟨by simpa using h.own, by rw [← rowSo_full hn]; exact h.row, by simpa using hn, fun i c b hc hb => ?_, h.once, by simpa using hm⟩
  obtain rfl : b = false := by
    rw [List.getElem?_replicate] at hb
    split at hb <;> simp_all
  exact (h.chan c (List.mem_of_getElem? hc)).1
set_option maxRecDepth 100000 in
theorem pnew_some (n : Nat) (w : World) (h1 : 1 ≤ n) (hn : n ≤ 32766) :
    Calls Tryz.prog 123 #[.int .i64 n] w fun e w' => e = .returned (permitsV (w.heap.size + 1)) ∧ (∃ cs, PermitsAt w' (w.heap.size + 1) w.heap.size cs (List.replicate n false) ∧ ∀ c ∈ cs, w.heap.size + 1 < c) ∧ Below w.heap.size w w' := by
  have hmk := make_row n w hn
  have hmc := make_chan
  go_enter Tryz.func123, Tryz.ntmps123
  go_wp2_with fail
  have M0 : Made w ((w.alloc (.cells (rowSo n []) 147)).alloc (.cells #[.slice (some ⟨w.heap.size, 0, none⟩) n n] 127)) n [] :=
    ⟨blk_two _ _ _ _, (Blk.new _ _ _).alloc _, by simp, List.nodup_nil, ((Below.refl _ w).alloc (Nat.le_refl _) _).alloc (by simp) _⟩
  generalize (w.alloc (.cells (rowSo n []) 147)).alloc (.cells #[.slice (some ⟨w.heap.size, 0, none⟩) n n] 127) = W0 at *
  go_loopw [20] (fun i wr => ∃ cs : List Nat, cs.length ≤ n ∧ i = .int .i64 cs.length ∧ Made w wr n cs) (fun i wr => n - (intOf i).toNat)
  case atStart => exact ⟨[], Nat.zero_le _, rfl, M0⟩
  case round =>
    obtain ⟨cs, hk, rfl, hM⟩ := hrel
    by_cases hlt : cs.length < n
    · have hc := hM.own.cell 0 _ rfl
      have hz := hM.row.free cs.length
      have hr := hM.row.cell cs.length _ (rowSo_at hlt)
      go_upto_region 7 with fail
      have i0 : 0 ≤ (cs.length : Int) ∧ (cs.length : Int) < n := by omega
      refine wp_region_held_drew (S := (fun w' => w'.cell? ⟨w.heap.size + 1, 0, none⟩ = some (.slice (some ⟨w.heap.size, 0, none⟩) n n))) (by kernel_rfl) (hc) (fun hHeld => ?_)
      refine wpAnyH_take (i := 0) (oi := _) (v := ?_) rfl (by kernel_rfl) (by kernel_rfl) (by kernel_rfl) (fun _ _ _ h => h) (Or.inl ⟨by rfl, ?_⟩) (by assumption) ?_
      rotate_left
      · intro w hSw; (try dsimp only at hSw); go_simp; try with_reducible rfl
      (try simp only [Act.put, List.setIfInBounds_toArray, List.set_cons_zero, List.set_cons_succ])
      refine wpAnyH_take (i := 1) (oi := _) (v := ?_) rfl (by kernel_rfl) (by kernel_rfl) (by kernel_rfl) (fun _ _ _ h => h) (Or.inl ⟨by rfl, ?_⟩) (by assumption) ?_
      rotate_left
      · intro w hSw; (try dsimp only at hSw); go_simp; try with_reducible rfl
      (try simp only [Act.put, List.setIfInBounds_toArray, List.set_cons_zero, List.set_cons_succ])
      refine wpAnyH_take (i := 2) (oi := _) (v := ?_) rfl (by kernel_rfl) (by kernel_rfl) (by kernel_rfl) (fun _ _ _ h => h) (Or.inl ⟨by rfl, ?_⟩) (by assumption) ?_
      rotate_left
      · intro w hSw; (try dsimp only at hSw); go_simp; try with_reducible rfl
      (try simp only [Act.put, List.setIfInBounds_toArray, List.set_cons_zero, List.set_cons_succ])
      refine wpAnyH_take (i := 3) (oi := _) (v := ?_) rfl (by kernel_rfl) (by kernel_rfl) (by kernel_rfl) (fun _ _ _ h => h) (Or.inl ⟨by rfl, ?_⟩) (by assumption) ?_
      rotate_left
      · intro w hSw; (try dsimp only at hSw); go_simp; try with_reducible rfl
      (try simp only [Act.put, List.setIfInBounds_toArray, List.set_cons_zero, List.set_cons_succ])
      refine wpAnyH_take (i := 4) (oi := _) (v := ?_) rfl (by kernel_rfl) (by kernel_rfl) (by kernel_rfl) (fun _ _ _ h => h) (Or.inl ⟨by rfl, ?_⟩) (by assumption) ?_
      rotate_left
      · intro w hSw; (try dsimp only at hSw); go_simp; try with_reducible rfl
      (try simp only [Act.put, List.setIfInBounds_toArray, List.set_cons_zero, List.set_cons_succ])
      have hM2 : Made w wr.drew n cs := hM.drewN 1
      have hM3 := hM2.more hlt
      have ha : (wr.alloc (.chan 1 #[] false 0 0 false)).cell? ⟨w.heap.size + 1, 0, none⟩ = some (.slice (some ⟨w.heap.size, 0, none⟩) n n) := (hM.own.alloc _).cell 0 _ rfl
      have hz2 : (wr.alloc (.chan 1 #[] false 0 0 false)).frozen? ⟨w.heap.size, cs.length, none⟩ = false := (hM.row.alloc _).free _
      have hr2 : (wr.alloc (.chan 1 #[] false 0 0 false)).cell? ⟨w.heap.size, cs.length, none⟩ = some (.chan none) := (hM.row.alloc _).cell _ _ (rowSo_at hlt)
      have hx := hM3.own.cell 0 _ rfl
      refine wpAnyH_ready (rs := [5]) (by kernel_rfl) (by simp) ?_
      refine AllReadyH.cons rfl (fun K hK => ?_) AllReadyH.nil
      go_simp
      go_wp2_with fail
      refine hK.out _ _ (ha) (fun hHeld => ?_)
      clear hK K
      (try dsimp only [Act.put]); (try simp only [Act.put, List.setIfInBounds_toArray, List.set_cons_zero, List.set_cons_succ])
      refine wpAnyH_take (i := 6) (oi := _) (v := ?_) rfl (by kernel_rfl) (by kernel_rfl) (by kernel_rfl) (fun _ _ _ h => h) (Or.inl ⟨by rfl, ?_⟩) (by assumption) ?_
      rotate_left
      · intro w hSw; (try dsimp only at hSw); go_simp; try with_reducible rfl
      (try simp only [Act.put, List.setIfInBounds_toArray, List.set_cons_zero, List.set_cons_succ])
      refine wpAnyH_ready (rs := [7]) (by kernel_rfl) (by simp) ?_
      refine AllReadyH.cons rfl (fun K hK => ?_) AllReadyH.nil
      go_simp
      go_wp2_with fail
      refine hK.out _ _ (hx) (fun hHeld => ?_)
      clear hK K
      (try dsimp only [Act.put]); (try simp only [Act.put, List.setIfInBounds_toArray, List.set_cons_zero, List.set_cons_succ])
      refine wpAnyH_done (by kernel_rfl) ?_ _
      go_wp2
      go_roundw
      case rel => exact ⟨cs ++ [wr.heap.size], by simp; omega, by simp, hM3⟩
      case measure => simp [intOf]; omega
    · obtain hk' : cs.length = n := by omega
      go_wp2_with fail
      go_ret
      exact ⟨rfl, ⟨cs, hM.whole hk' hn, fun c hc => (hM.chan c hc).2⟩, hM.below⟩
set_option maxRecDepth 100000 in
theorem pnew_none (n : Int) (w : World) (hn : n < 1 ∨ 32766 < n) :
    Calls Tryz.prog 123 #[.int .i64 n] w fun e w' => e = .returned (.pointer none) ∧ w = w' := by
  rcases hn with hn | hn
  · go_enter Tryz.func123, Tryz.ntmps123
    go_wp2_with fail
    go_ret
    exact ⟨rfl, rfl⟩
  · have h0 : ¬ n < 1 := by omega
    go_enter Tryz.func123, Tryz.ntmps123
    go_wp2_with fail
    go_ret
    exact ⟨rfl, rfl⟩
end Go.Proofs.YtbaehokffdpopaaGreat
