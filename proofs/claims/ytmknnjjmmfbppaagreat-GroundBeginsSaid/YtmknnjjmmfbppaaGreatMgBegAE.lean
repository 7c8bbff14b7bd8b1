/- Contracts of package permit, for one goroutine alone: what permits are in memory; of, Len, Has. -/
import Derived.Test.YtmknnjjmmfbppaaGreatProg
import Derived.Test.YtmknnjjmmfbppaaGreatMgBegAA
import Derived.WalkSpells
import Derived.OwnWalk
import Derived.Laws.OwnMore
import Derived.Lib.Hide
import Derived.Conc.LoneSelect
import Derived.Conc.SmallLaws
import Derived.StillTailTactics
import Derived.Deep.CutBlock
import Derived.Deep.RegionHeld3
namespace Go.Proofs.YtmknnjjmmfbppaaGreat
open Go.ChangeShapes Go.WideShapes Go.ChangeAt Go.RowKit
set_option linter.unusedVariables false
set_option maxRecDepth 100000
set_option linter.unusedSimpArgs false
/-- the value of a permit -/
abbrev tokV : Value := .agg #[]
/-- channel c holds a permit, or none -/
def ChanAt (w : World) (c : Nat) (b : Bool) : Prop := ∃ s r, w.heap[c]? = some (.chan 1 (if b then #[tokV] else #[]) false s r false)
def chansV (cs : List Nat) : Array Value := (cs.map fun c => Value.chan (some c)).toArray
theorem chansV_at {cs : List Nat} {i c : Nat} (h : cs[i]? = some c) : (chansV cs)[i]? = some (.chan (some c)) := by simp [chansV, h]
theorem chansV_size (cs : List Nat) : (chansV cs).size = cs.length := by simp [chansV]
/-- permits: their own block, their row, a channel for each -/
structure PermitsAt (w : World) (P S : Nat) (cs : List Nat) (l : List Bool) : Prop where
  own : Blk w P 118 #[.slice (some ⟨S, 0, none⟩) l.length l.length]
  row : Blk w S 176 (chansV cs)
  len : cs.length = l.length
  chan : ∀ (i : Nat) (c : Nat) (b : Bool), cs[i]? = some c → l[i]? = some b → ChanAt w c b
  once : cs.Nodup
  few : l.length ≤ 32766
abbrev permitsV (P : Nat) : Value := .pointer (some ⟨P, 0, none⟩)
theorem ChanAt.keep {w w1 : World} {c : Nat} {b : Bool} {Q : Nat → Prop} (h : ChanAt w c b) (hk : Keep Q w w1) (hn : ¬ Q c) : ChanAt w1 c b := by
  obtain ⟨s, r, h⟩ := h
  exact ⟨s, r, (hk.block c (Array.getElem?_eq_some_iff.1 h).1 hn).trans h⟩
theorem PermitsAt.keep {w w1 : World} {P S : Nat} {cs : List Nat} {l : List Bool} {Q : Nat → Prop} (h : PermitsAt w P S cs l) (hk : Keep Q w w1) (h1 : ¬ Q P) (h2 : ¬ Q S) (h3 : ∀ c ∈ cs, ¬ Q c) : PermitsAt w1 P S cs l :=
  ⟨h.own.keep hk h1, h.row.keep hk h2, h.len, fun i c b hc hb => (h.chan i c b hc hb).keep hk (h3 c (List.mem_of_getElem? hc)), h.once, h.few⟩
theorem PermitsAt.below {w w1 : World} {P S : Nat} {cs : List Nat} {l : List Bool} (h : PermitsAt w P S cs l) (hk : Below w.heap.size w w1) : PermitsAt w1 P S cs l :=
  h.keep (Keep.ofBelow (Q := fun _ => False) hk) (fun h => h) (fun h => h) (fun _ _ h => h)
/-- the channel of thread i turns -/
theorem PermitsAt.setChan {w : World} {P S : Nat} {cs : List Nat} {l : List Bool} (h : PermitsAt w P S cs l) {i c : Nat} (hc : cs[i]? = some c) (b : Bool) (s r : Nat) :
    PermitsAt (w.setChan c 1 (if b then #[tokV] else #[]) false s r false) P S cs (l.set i b) ∧ Keep (fun k => k ∈ cs) w (w.setChan c 1 (if b then #[tokV] else #[]) false s r false) := by
  have hi : i < cs.length := (List.getElem?_eq_some_iff.1 hc).1
  have hl := h.len
  have hlt : c < w.heap.size := by
    obtain ⟨s0, r0, hx⟩ := h.chan i c (l[i]'(by omega)) hc (by simp)
    exact (Array.getElem?_eq_some_iff.1 hx).1
  have hother : ∀ k, k ≠ c → (w.setChan c 1 (if b then #[tokV] else #[]) false s r false).heap[k]? = w.heap[k]? := fun k hk => by
    simp only [World.setChan]; rw [Array.getElem?_setIfInBounds_ne (by omega)]
  have hself := Go.Conc.heap_setChan w c 1 (if b then #[tokV] else #[]) false s r false hlt
  have hcell : ∀ B t xs, Blk w B t xs → B ≠ c := by
    rintro B t xs hB rfl
    obtain ⟨s0, r0, hx⟩ := h.chan i B (l[i]'(by omega)) hc (by simp)
    rw [show w.heap[B]? = _ from hB] at hx
    cases hx
  refine ⟨⟨?_, ?_, by simp [hl], fun i' c' b' hc' hb' => ?_, h.once, by simpa using h.few⟩, ⟨rfl, rfl, rfl, by simp [World.setChan], fun k _ hk => hother k (fun e => hk (e ▸ List.mem_of_getElem? hc))⟩⟩
  · show (w.setChan c 1 (if b then #[tokV] else #[]) false s r false).heap[P]? = _
    rw [hother P (hcell _ _ _ h.own), List.length_set]
    exact h.own
  · show (w.setChan c 1 (if b then #[tokV] else #[]) false s r false).heap[S]? = _
    rw [hother S (hcell _ _ _ h.row)]
    exact h.row
  · by_cases e : i' = i
    · subst e
      rw [hc] at hc'
      cases hc'
      have : b' = b := by
        rw [List.getElem?_set_self (by omega)] at hb'
        exact (Option.some.inj hb').symm
      subst this
      exact ⟨s, r, hself⟩
    · have hne : c' ≠ c := fun ec => by
        subst ec
        exact e ((List.getElem?_inj (List.getElem?_eq_some_iff.1 hc').1 h.once).1 (hc'.trans hc.symm))
      obtain ⟨s0, r0, hx⟩ := h.chan i' c' b' hc' (by rwa [List.getElem?_set_ne (by omega)] at hb')
      exact ⟨s0, r0, (hother c' hne).trans hx⟩
theorem plen_any (P S : Nat) (cs : List Nat) (l : List Bool) (w : World) (hP : PermitsAt w P S cs l) :
    Calls Tryz.prog 14 #[permitsV P] w fun e w' => e = .returned (.int .i64 l.length) ∧ w = w' := by
  have hc := hP.own.cell 0 _ rfl
  clear hP
  generalize l.length = n at *
  go_enter Tryz.func14, Tryz.ntmps14
  go_wp2
  go_ret
  exact ⟨rfl, rfl⟩
theorem plen_nil (w : World) : Calls Tryz.prog 14 #[.pointer none] w fun e w' => e = .returned (.int .i64 0) ∧ w = w' := by
  go_enter Tryz.func14, Tryz.ntmps14
  go_wp2
  go_ret
  exact ⟨rfl, rfl⟩
theorem of_nil (t : Int) (w : World) : Calls Tryz.prog 95 #[.pointer none, .int .i64 t] w fun e w' => e = .returned (.chan none) ∧ w = w' := by
  go_enter Tryz.func95, Tryz.ntmps95
  go_wp2_with (go_at_call 14; (with_reducible refine (plen_nil _).mono ?_); rintro e w1 ⟨rfl, rfl⟩)
  all_goals (go_ret; exact ⟨rfl, rfl⟩)
theorem pof_no (P S : Nat) (cs : List Nat) (l : List Bool) (t : Int) (w : World) (hP : PermitsAt w P S cs l) (ht : t < 0 ∨ (l.length : Int) ≤ t) :
    Calls Tryz.prog 95 #[permitsV P, .int .i64 t] w fun e w' => e = .returned (.chan none) ∧ w = w' := by
  have hl := plen_any P S cs l
  generalize l.length = n at *
  go_enter Tryz.func95, Tryz.ntmps95
  go_wp2_with (go_at_call 14; (with_reducible refine (hl _ hP).mono ?_); rintro e w1 ⟨rfl, rfl⟩)
  all_goals (go_ret; exact ⟨rfl, rfl⟩)
theorem of_any (P S : Nat) (cs : List Nat) (l : List Bool) (t c : Nat) (w : World) (hP : PermitsAt w P S cs l) (hc : cs[t]? = some c) :
    Calls Tryz.prog 95 #[permitsV P, .int .i64 t] w fun e w' => e = .returned (.chan (some c)) ∧ w = w' := by
  have hl := plen_any P S cs l w hP
  have ht : t < l.length := by rw [← hP.len]; exact (List.getElem?_eq_some_iff.1 hc).1
  have h0 := hP.own.cell 0 _ rfl
  have h1 := hP.row.cell t _ (chansV_at hc)
  have hf := hP.few
  clear hP hc
  generalize l.length = n at *
  go_enter Tryz.func95, Tryz.ntmps95
  go_wp2_with (go_at_call 14; (with_reducible refine hl.mono ?_); rintro e w1 ⟨rfl, rfl⟩)
  all_goals (go_ret; exact ⟨rfl, rfl⟩)
theorem run_len_chan_none {P : Program} {t u : TypeId} {d : ChanDir} {e : TypeId} (h : P.underlying t = some (.chan d e)) (w : World) :
    (Builtin.len_ #[t] u #[.chan none]).run P w = .ok (goInt 0) w := by
  simp [Builtin.len_, run_underlying h]
theorem run_len_chan {P : Program} {t u : TypeId} {d : ChanDir} {e : TypeId} (h : P.underlying t = some (.chan d e)) (w : World) {c cap s r : Nat} {buf : Array Value} {cl : Bool} (hc : w.heap[c]? = some (.chan cap buf cl s r false)) :
    (Builtin.len_ #[t] u #[.chan (some c)]).run P w = .ok (goInt buf.size) w := by
  have hg : Sem.run P (Sem.getObj c Sem.pure) w = .ok (.chan cap buf cl s r false) w := by simp [Sem.run, hc]
  simp only [Builtin.len_, run_underlying h]
  simp [run_underlying h, getObj, hg]
theorem has_any (P S : Nat) (cs : List Nat) (l : List Bool) (t : Nat) (b : Bool) (w : World) (hP : PermitsAt w P S cs l) (hb : l[t]? = some b) :
    Calls Tryz.prog 268 #[permitsV P, .int .i64 t] w fun e w' => e = .returned (.bool b) ∧ w = w' := by
  have ht : t < cs.length := by rw [hP.len]; exact (List.getElem?_eq_some_iff.1 hb).1
  obtain ⟨c, hc⟩ : ∃ c, cs[t]? = some c := ⟨cs[t], by simp [ht]⟩
  have ho := of_any P S cs l t c w hP hc
  obtain ⟨s, r, hch⟩ := hP.chan t c b hc hb
  clear hP hc ht hb
  have hn := fun u => run_len_chan (P := Tryz.prog) (t := 176) (u := u) Tryz.underlying176 w hch
  cases b
  all_goals
    go_enter Tryz.func268, Tryz.ntmps268
    go_wp2_with (go_at_call 95; (with_reducible refine ho.mono ?_); rintro e w1 ⟨rfl, rfl⟩)
    go_ret
    exact ⟨rfl, rfl⟩
theorem has_no (P S : Nat) (cs : List Nat) (l : List Bool) (t : Int) (w : World) (hP : PermitsAt w P S cs l) (ht : t < 0 ∨ (l.length : Int) ≤ t) :
    Calls Tryz.prog 268 #[permitsV P, .int .i64 t] w fun e w' => e = .returned (.bool false) ∧ w = w' := by
  have ho := pof_no P S cs l t w hP ht
  have hn := fun u => run_len_chan_none (P := Tryz.prog) (t := 176) (u := u) Tryz.underlying176 w
  clear hP ht
  go_enter Tryz.func268, Tryz.ntmps268
  go_wp2_with (go_at_call 95; (with_reducible refine ho.mono ?_); rintro e w1 ⟨rfl, rfl⟩)
  go_ret
  exact ⟨rfl, rfl⟩
theorem has_nil (t : Int) (w : World) : Calls Tryz.prog 268 #[.pointer none, .int .i64 t] w fun e w' => e = .returned (.bool false) ∧ w = w' := by
  have ho := of_nil t w
  have hn := fun u => run_len_chan_none (P := Tryz.prog) (t := 176) (u := u) Tryz.underlying176 w
  go_enter Tryz.func268, Tryz.ntmps268
  go_wp2_with (go_at_call 95; (with_reducible refine ho.mono ?_); rintro e w1 ⟨rfl, rfl⟩)
  go_ret
  exact ⟨rfl, rfl⟩
end Go.Proofs.YtmknnjjmmfbppaaGreat
/- Contracts of package permit, for one goroutine alone: New. -/
namespace Go.Proofs.YtmknnjjmmfbppaaGreat
open Go.ChangeShapes Go.WideShapes Go.ChangeAt Go.RowKit
set_option linter.unusedVariables false
set_option maxRecDepth 100000
set_option linter.unusedSimpArgs false
/-- a row that is made so far: channels, and none -/
def rowSo (n : Nat) (cs : List Nat) : Array Value := ((cs.map fun c => Value.chan (some c)) ++ List.replicate (n - cs.length) (Value.chan none)).toArray
theorem rowSo_size {n : Nat} {cs : List Nat} (h : cs.length ≤ n) : (rowSo n cs).size = n := by simp [rowSo]; omega
theorem rowSo_at {n : Nat} {cs : List Nat} (h : cs.length < n) : (rowSo n cs)[cs.length]? = some (.chan none) := by
  obtain ⟨m, rfl⟩ : ∃ m, n = cs.length + (m + 1) := ⟨n - cs.length - 1, by omega⟩
  rw [rowSo, Nat.add_sub_cancel_left]
  simp [List.replicate_succ, List.getElem?_append]
theorem rowSo_set {n : Nat} {cs : List Nat} (h : cs.length < n) (c : Nat) : (rowSo n cs).setIfInBounds cs.length (.chan (some c)) = rowSo n (cs ++ [c]) := by
  obtain ⟨m, rfl⟩ : ∃ m, n = cs.length + (m + 1) := ⟨n - cs.length - 1, by omega⟩
  rw [← Array.toList_inj]
  simp [rowSo, List.replicate_succ, List.set_append]
  rw [show cs.length + (m + 1) - (cs.length + 1) = m by omega]
theorem rowSo_full {n : Nat} {cs : List Nat} (h : cs.length = n) : rowSo n cs = chansV cs := by simp [rowSo, chansV, h]
theorem unit_info : (Tryz.prog.info? 38).map (·.bytes) = some 0 := by kernel_rfl
theorem permit_info : (Tryz.prog.info? 176).map (fun i => (i.zero, i.size, i.bytes)) = some (some (.chan none), 1, 8) := by kernel_rfl
theorem make_chan (w : World) : (Instr.makeChan 176 (.int .i64 1)).run Tryz.prog w = .ok (.chan (some w.heap.size)) (w.alloc (.chan 1 #[] false 0 0 false)) := by
  obtain ⟨i, hi, hb⟩ := Option.map_eq_some_iff.1 unit_info
  simpa using Go.Conc.run_makeChan (P := Tryz.prog) (w := w) Tryz.underlying176 hi .i64 1 (by omega) (by rw [hb]; omega)
theorem make_row (n : Nat) (w : World) (hn : n ≤ 32766) : (Instr.makeSlice 116 (.int .i64 (n : Int)) (.int .i64 (n : Int))).run Tryz.prog w = .ok (.slice (some ⟨w.heap.size, 0, none⟩) n n) (w.alloc (.cells (rowSo n []) 176)) := by
  obtain ⟨i, hi, hz0, hz1, hz2⟩ := info_parts permit_info
  have h := run_make (P := Tryz.prog) w 116 176 i _ Tryz.underlying116 hi hz0 .i64 .i64 n n (by omega) (by omega) (by rw [hz2]; omega) (by omega)
  rw [h, hz1, Nat.mul_one]
  simp only [Int.toNat_natCast]
  have : madeCells #[Value.chan none] n = rowSo n [] := by
    rw [← Array.toList_inj, toList_madeCells_one]
    simp [rowSo]
  rw [← this]
  rfl
/-- where New has got to: k channels are made -/
structure Made (w wr : World) (n : Nat) (cs : List Nat) : Prop where
  own : Blk wr (w.heap.size + 1) 118 #[.slice (some ⟨w.heap.size, 0, none⟩) n n]
  row : Blk wr w.heap.size 176 (rowSo n cs)
  chan : ∀ c ∈ cs, ChanAt wr c false ∧ w.heap.size + 1 < c
  once : cs.Nodup
  below : Below w.heap.size w wr
theorem Made.more {w wr : World} {n : Nat} {cs : List Nat} (h : Made w wr n cs) (hn : cs.length < n) :
    Made w ((wr.alloc (.chan 1 #[] false 0 0 false)).setCell ⟨w.heap.size, cs.length, none⟩ (.chan (some wr.heap.size))) n (cs ++ [wr.heap.size]) := by
  have hlt := h.own.lt
  refine ⟨(h.own.alloc _).far (by omega) _ _, ?_, ?_, ?_, ?_⟩
  · have := (h.row.alloc (.chan 1 #[] false 0 0 false)).set cs.length (.chan (some wr.heap.size))
    rwa [rowSo_set hn] at this
  · intro c hc
    have hne : c ≠ w.heap.size → ∀ W : World, ((W.setCell ⟨w.heap.size, cs.length, none⟩ (.chan (some wr.heap.size))).heap[c]? = W.heap[c]?) := fun hx W => Below.heap_setCell W ⟨w.heap.size, cs.length, none⟩ _ c hx
    rcases List.mem_append.1 hc with hc | hc
    · obtain ⟨⟨s, r, hx⟩, hy⟩ := h.chan c hc
      refine ⟨⟨s, r, ?_⟩, hy⟩
      rw [hne (by omega), Below.heap_alloc wr _ c (Array.getElem?_eq_some_iff.1 hx).1, hx]
    · obtain rfl : c = wr.heap.size := by simpa using hc
      refine ⟨⟨0, 0, ?_⟩, by omega⟩
      rw [hne (by omega)]
      show (wr.heap.push _)[wr.heap.size]? = _
      simp
  · refine List.nodup_append.2 ⟨h.once, by simp, fun a ha b hb => ?_⟩
    obtain rfl : b = wr.heap.size := by simpa using hb
    obtain ⟨⟨s, r, hx⟩, _⟩ := h.chan a ha
    have := (Array.getElem?_eq_some_iff.1 hx).1
    omega
  · exact (h.below.alloc h.below.size _).setCell (p := ⟨w.heap.size, cs.length, none⟩) (Nat.le_refl _) _
theorem Made.drewN {w wr : World} {n : Nat} {cs : List Nat} (h : Made w wr n cs) (m : Nat) : Made w (wr.drewN m) n cs := ⟨h.own, h.row, h.chan, h.once, bdrewN h.below m⟩
theorem Made.whole {w wr : World} {n : Nat} {cs : List Nat} (h : Made w wr n cs) (hn : cs.length = n) (hm : n ≤ 32766) : PermitsAt wr (w.heap.size + 1) w.heap.size cs (List.replicate n false) := by
  refine ⟨by simpa using h.own, by rw [← rowSo_full hn]; exact h.row, by simpa using hn, fun i c b hc hb => ?_, h.once, by simpa using hm⟩
  obtain rfl : b = false := by
    rw [List.getElem?_replicate] at hb
    split at hb <;> simp_all
  exact (h.chan c (List.mem_of_getElem? hc)).1
set_option maxRecDepth 100000 in
theorem pnew_some (n : Nat) (w : World) (h1 : 1 ≤ n) (hn : n ≤ 32766) :
    Calls Tryz.prog 96 #[.int .i64 n] w fun e w' => e = .returned (permitsV (w.heap.size + 1)) ∧ (∃ cs, PermitsAt w' (w.heap.size + 1) w.heap.size cs (List.replicate n false) ∧ ∀ c ∈ cs, w.heap.size + 1 < c) ∧ Below w.heap.size w w' := by
  have hmk := make_row n w hn
  have hmc := make_chan
  go_enter Tryz.func96, Tryz.ntmps96
  go_wp2_with fail
  have M0 : Made w ((w.alloc (.cells (rowSo n []) 176)).alloc (.cells #[.slice (some ⟨w.heap.size, 0, none⟩) n n] 118)) n [] :=
    ⟨blk_two _ _ _ _, (Blk.new _ _ _).alloc _, by simp, List.nodup_nil, ((Below.refl _ w).alloc (Nat.le_refl _) _).alloc (by simp) _⟩
  generalize (w.alloc (.cells (rowSo n []) 176)).alloc (.cells #[.slice (some ⟨w.heap.size, 0, none⟩) n n] 118) = W0 at *
  go_loopw [20] (fun i wr => ∃ cs : List Nat, cs.length ≤ n ∧ i = .int .i64 cs.length ∧ Made w wr n cs) (fun i wr => n - (intOf i).toNat)
  case atStart => exact ⟨[], Nat.zero_le _, rfl, M0⟩
  case round =>
    obtain ⟨cs, hk, rfl, hM⟩ := hrel
    by_cases hlt : cs.length < n
    · have hc := hM.own.cell 0 _ rfl
      have hz := hM.row.free cs.length
      have hr := hM.row.cell cs.length _ (rowSo_at hlt)
      go_upto_region 7 with fail
      have i0 : 0 ≤ (cs.length : Int) ∧ (cs.length : Int) < n := by omega
      refine wp_region_held_drew (S := (fun w' => w'.cell? ⟨w.heap.size + 1, 0, none⟩ = some (.slice (some ⟨w.heap.size, 0, none⟩) n n))) (by kernel_rfl) (hc) (fun hHeld => ?_)
      refine wpAnyH_take (i := 0) (oi := _) (v := ?_) rfl (by kernel_rfl) (by kernel_rfl) (by kernel_rfl) (fun _ _ _ h => h) (Or.inl ⟨by rfl, ?_⟩) (by assumption) ?_
      rotate_left
      · intro w hSw; (try dsimp only at hSw); go_simp; try with_reducible rfl
      (try simp only [Act.put, List.setIfInBounds_toArray, List.set_cons_zero, List.set_cons_succ])
      refine wpAnyH_take (i := 1) (oi := _) (v := ?_) rfl (by kernel_rfl) (by kernel_rfl) (by kernel_rfl) (fun _ _ _ h => h) (Or.inl ⟨by rfl, ?_⟩) (by assumption) ?_
      rotate_left
      · intro w hSw; (try dsimp only at hSw); go_simp; try with_reducible rfl
      (try simp only [Act.put, List.setIfInBounds_toArray, List.set_cons_zero, List.set_cons_succ])
      refine wpAnyH_take (i := 2) (oi := _) (v := ?_) rfl (by kernel_rfl) (by kernel_rfl) (by kernel_rfl) (fun _ _ _ h => h) (Or.inl ⟨by rfl, ?_⟩) (by assumption) ?_
      rotate_left
      · intro w hSw; (try dsimp only at hSw); go_simp; try with_reducible rfl
      (try simp only [Act.put, List.setIfInBounds_toArray, List.set_cons_zero, List.set_cons_succ])
      refine wpAnyH_take (i := 3) (oi := _) (v := ?_) rfl (by kernel_rfl) (by kernel_rfl) (by kernel_rfl) (fun _ _ _ h => h) (Or.inl ⟨by rfl, ?_⟩) (by assumption) ?_
      rotate_left
      · intro w hSw; (try dsimp only at hSw); go_simp; try with_reducible rfl
      (try simp only [Act.put, List.setIfInBounds_toArray, List.set_cons_zero, List.set_cons_succ])
      refine wpAnyH_take (i := 4) (oi := _) (v := ?_) rfl (by kernel_rfl) (by kernel_rfl) (by kernel_rfl) (fun _ _ _ h => h) (Or.inl ⟨by rfl, ?_⟩) (by assumption) ?_
      rotate_left
      · intro w hSw; (try dsimp only at hSw); go_simp; try with_reducible rfl
      (try simp only [Act.put, List.setIfInBounds_toArray, List.set_cons_zero, List.set_cons_succ])
      have hM2 : Made w wr.drew n cs := hM.drewN 1
      have hM3 := hM2.more hlt
      have ha : (wr.alloc (.chan 1 #[] false 0 0 false)).cell? ⟨w.heap.size + 1, 0, none⟩ = some (.slice (some ⟨w.heap.size, 0, none⟩) n n) := (hM.own.alloc _).cell 0 _ rfl
      have hz2 : (wr.alloc (.chan 1 #[] false 0 0 false)).frozen? ⟨w.heap.size, cs.length, none⟩ = false := (hM.row.alloc _).free _
      have hr2 : (wr.alloc (.chan 1 #[] false 0 0 false)).cell? ⟨w.heap.size, cs.length, none⟩ = some (.chan none) := (hM.row.alloc _).cell _ _ (rowSo_at hlt)
      have hx := hM3.own.cell 0 _ rfl
      refine wpAnyH_ready (rs := [5]) (by kernel_rfl) (by simp) ?_
      refine AllReadyH.cons rfl (fun K hK => ?_) AllReadyH.nil
      go_simp
      go_wp2_with fail
      refine hK.out _ _ (ha) (fun hHeld => ?_)
      clear hK K
      (try dsimp only [Act.put]); (try simp only [Act.put, List.setIfInBounds_toArray, List.set_cons_zero, List.set_cons_succ])
      refine wpAnyH_take (i := 6) (oi := _) (v := ?_) rfl (by kernel_rfl) (by kernel_rfl) (by kernel_rfl) (fun _ _ _ h => h) (Or.inl ⟨by rfl, ?_⟩) (by assumption) ?_
      rotate_left
      · intro w hSw; (try dsimp only at hSw); go_simp; try with_reducible rfl
      (try simp only [Act.put, List.setIfInBounds_toArray, List.set_cons_zero, List.set_cons_succ])
      refine wpAnyH_ready (rs := [7]) (by kernel_rfl) (by simp) ?_
      refine AllReadyH.cons rfl (fun K hK => ?_) AllReadyH.nil
      go_simp
      go_wp2_with fail
      refine hK.out _ _ (hx) (fun hHeld => ?_)
      clear hK K
      (try dsimp only [Act.put]); (try simp only [Act.put, List.setIfInBounds_toArray, List.set_cons_zero, List.set_cons_succ])
      refine wpAnyH_done (by kernel_rfl) ?_ _
      go_wp2
      go_roundw
      case rel => exact ⟨cs ++ [wr.heap.size], by simp; omega, by simp, hM3⟩
      case measure => simp [intOf]; omega
    · obtain hk' : cs.length = n := by omega
      go_wp2_with fail
      go_ret
      exact ⟨rfl, ⟨cs, hM.whole hk' hn, fun c hc => (hM.chan c hc).2⟩, hM.below⟩
set_option maxRecDepth 100000 in
theorem pnew_none (n : Int) (w : World) (hn : n < 1 ∨ 32766 < n) :
    Calls Tryz.prog 96 #[.int .i64 n] w fun e w' => e = .returned (.pointer none) ∧ w = w' := by
  rcases hn with hn | hn
  · go_enter Tryz.func96, Tryz.ntmps96
    go_wp2_with fail
    go_ret
    exact ⟨rfl, rfl⟩
  · have h0 : ¬ n < 1 := by omega
    go_enter Tryz.func96, Tryz.ntmps96
    go_wp2_with fail
    go_ret
    exact ⟨rfl, rfl⟩
end Go.Proofs.YtmknnjjmmfbppaaGreat
