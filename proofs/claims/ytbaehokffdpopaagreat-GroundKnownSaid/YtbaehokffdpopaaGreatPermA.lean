/- Contracts of package permit, for one goroutine alone: what permits are in memory; of, Len, Has. -/
import Derived.Test.YtbaehokffdpopaaGreatProg
import Derived.Test.YtbaehokffdpopaaGreatKeep
import Derived.WalkSpells
import Derived.OwnWalk
import Derived.Laws.OwnMore
import Derived.Lib.Hide
import Derived.Conc.LoneSelect
namespace Go.Proofs.YtbaehokffdpopaaGreat
open Go.ChangeShapes Go.WideShapes Go.ChangeAt Go.RowKit
set_option linter.unusedVariables false
set_option maxRecDepth 100000
set_option linter.unusedSimpArgs false
/-- the value of a permit -/
abbrev tokV : Value := .agg #[]
/-- channel c holds a permit, or none -/
def ChanAt (w : World) (c : Nat) (b : Bool) : Prop := ∃ s r, w.heap[c]? = some (.chan 1 (if b then #[tokV] else #[]) false s r false)
def chansV (cs : List Nat) : Array Value := (cs.map fun c => Value.chan (some c)).toArray
theorem chansV_at {cs : List Nat} {i c : Nat} (h : cs[i]? = some c) : (chansV cs)[i]? = some (.chan (some c)) := by simp [chansV, h]
theorem chansV_size (cs : List Nat) : (chansV cs).size = cs.length := by simp [chansV]
/-- permits: their own block, their row, a channel for each -/
structure PermitsAt (w : World) (P S : Nat) (cs : List Nat) (l : List Bool) : Prop where
  own : Blk w P 127 #[.slice (some ⟨S, 0, none⟩) l.length l.length]
  row : Blk w S 147 (chansV cs)
  len : cs.length = l.length
  chan : ∀ (i : Nat) (c : Nat) (b : Bool), cs[i]? = some c → l[i]? = some b → ChanAt w c b
  once : cs.Nodup
  few : l.length ≤ 32766
abbrev permitsV (P : Nat) : Value := .pointer (some ⟨P, 0, none⟩)
theorem ChanAt.keep {w w1 : World} {c : Nat} {b : Bool} {Q : Nat → Prop} (h : ChanAt w c b) (hk : Keep Q w w1) (hn : ¬ Q c) : ChanAt w1 c b := by
  obtain ⟨s, r, h⟩ := h
  exact ⟨s, r, (hk.block c (Array.getElem?_eq_some_iff.1 h).1 hn).trans h⟩
theorem PermitsAt.keep {w w1 : World} {P S : Nat} {cs : List Nat} {l : List Bool} {Q : Nat → Prop} (h : PermitsAt w P S cs l) (hk : Keep Q w w1) (h1 : ¬ Q P) (h2 : ¬ Q S) (h3 : ∀ c ∈ cs, ¬ Q c) : PermitsAt w1 P S cs l :=
  ⟨h.own.keep hk h1, h.row.keep hk h2, h.len, fun i c b hc hb => (h.chan i c b hc hb).keep hk (h3 c (List.mem_of_getElem? hc)), h.once, h.few⟩
theorem PermitsAt.below {w w1 : World} {P S : Nat} {cs : List Nat} {l : List Bool} (h : PermitsAt w P S cs l) (hk : Below w.heap.size w w1) : PermitsAt w1 P S cs l :=
  h.keep (Keep.ofBelow (Q := fun _ => False) hk) (fun h => h) (fun h => h) (fun _ _ h => h)
/-- the channel of thread i turns -/
theorem PermitsAt.setChan {w : World} {P S : Nat} {cs : List Nat} {l : List Bool} (h : PermitsAt w P S cs l) {i c : Nat} (hc : cs[i]? = some c) (b : Bool) (s r : Nat) :
    PermitsAt (w.setChan c 1 (if b then #[tokV] else #[]) false s r false) P S cs (l.set i b) ∧ Keep (fun k => k ∈ cs) w (w.setChan c 1 (if b then #[tokV] else #[]) false s r false) := by
  have hi : i < cs.length := (List.getElem?_eq_some_iff.1 hc).1
  have hl := h.len
  have hlt : c < w.heap.size := by
    obtain ⟨s0, r0, hx⟩ := h.chan i c (l[i]'(by omega)) hc (by simp)
    exact (Array.getElem?_eq_some_iff.1 hx).1
  have hother : ∀ k, k ≠ c → (w.setChan c 1 (if b then #[tokV] else #[]) false s r false).heap[k]? = w.heap[k]? := fun k hk => by
    simp only [World.setChan]; rw [Array.getElem?_setIfInBounds_ne (by omega)]
  have hself := Go.Conc.heap_setChan w c 1 (if b then #[tokV] else #[]) false s r false hlt
  have hcell : ∀ B t xs, Blk w B t xs → B ≠ c := by
    rintro B t xs hB rfl
    obtain ⟨s0, r0, hx⟩ := h.chan i B (l[i]'(by omega)) hc (by simp)
    rw [show w.heap[B]? = _ from hB] at hx
    cases hx
  refine ⟨⟨?_, ?_, by simp [hl], fun i' c' b' hc' hb' => ?_, h.once, by simpa using h.few⟩, ⟨rfl, rfl, rfl, by simp [World.setChan], fun k _ hk => hother k (fun e => hk (e ▸ List.mem_of_getElem? hc))⟩⟩
  · show (w.setChan c 1 (if b then #[tokV] else #[]) false s r false).heap[P]? = _
    rw [hother P (hcell _ _ _ h.own), List.length_set]
    exact h.own
  · show (w.setChan c 1 (if b then #[tokV] else #[]) false s r false).heap[S]? = _
    rw [hother S (hcell _ _ _ h.row)]
    exact h.row
  · by_cases e : i' = i
    · subst e
      rw [hc] at hc'
      cases hc'
      have : b' = b := by
        rw [List.getElem?_set_self (by omega)] at hb'
        exact (Option.some.inj hb').symm
      subst this
      exact ⟨s, r, hself⟩
    · have hne : c' ≠ c := fun ec => by
        subst ec
        exact e ((List.getElem?_inj (List.getElem?_eq_some_iff.1 hc').1 h.once).1 (hc'.trans hc.symm))
      obtain ⟨s0, r0, hx⟩ := h.chan i' c' b' hc' (by rwa [List.getElem?_set_ne (by omega)] at hb')
      exact ⟨s0, r0, (hother c' hne).trans hx⟩
theorem plen_any (P S : Nat) (cs : List Nat) (l : List Bool) (w : World) (hP : PermitsAt w P S cs l) :
    Calls Tryz.prog 17 #[permitsV P] w fun e w' => e = .returned (.int .i64 l.length) ∧ w = w' := by
  have hc := hP.own.cell 0 _ rfl
  clear hP
  generalize l.length = n at *
  go_enter Tryz.func17, Tryz.ntmps17
  go_wp2
  go_ret
  exact ⟨rfl, rfl⟩
theorem plen_nil (w : World) : Calls Tryz.prog 17 #[.pointer none] w fun e w' => e = .returned (.int .i64 0) ∧ w = w' := by
  go_enter Tryz.func17, Tryz.ntmps17
  go_wp2
  go_ret
  exact ⟨rfl, rfl⟩
theorem of_nil (t : Int) (w : World) : Calls Tryz.prog 87 #[.pointer none, .int .i64 t] w fun e w' => e = .returned (.chan none) ∧ w = w' := by
  go_enter Tryz.func87, Tryz.ntmps87
  go_wp2_with (go_at_call 17; (with_reducible refine (plen_nil _).mono ?_); rintro e w1 ⟨rfl, rfl⟩)
  all_goals (go_ret; exact ⟨rfl, rfl⟩)
theorem pof_no (P S : Nat) (cs : List Nat) (l : List Bool) (t : Int) (w : World) (hP : PermitsAt w P S cs l) (ht : t < 0 ∨ (l.length : Int) ≤ t) :
    Calls Tryz.prog 87 #[permitsV P, .int .i64 t] w fun e w' => e = .returned (.chan none) ∧ w = w' := by
  have hl := plen_any P S cs l
  generalize l.length = n at *
  go_enter Tryz.func87, Tryz.ntmps87
  go_wp2_with (go_at_call 17; (with_reducible refine (hl _ hP).mono ?_); rintro e w1 ⟨rfl, rfl⟩)
  all_goals (go_ret; exact ⟨rfl, rfl⟩)
theorem of_any (P S : Nat) (cs : List Nat) (l : List Bool) (t c : Nat) (w : World) (hP : PermitsAt w P S cs l) (hc : cs[t]? = some c) :
    Calls Tryz.prog 87 #[permitsV P, .int .i64 t] w fun e w' => e = .returned (.chan (some c)) ∧ w = w' := by
  have hl := plen_any P S cs l w hP
  have ht : t < l.length := by rw [← hP.len]; exact (List.getElem?_eq_some_iff.1 hc).1
  have h0 := hP.own.cell 0 _ rfl
  have h1 := hP.row.cell t _ (chansV_at hc)
  have hf := hP.few
  clear hP hc
  generalize l.length = n at *
  go_enter Tryz.func87, Tryz.ntmps87
  go_wp2_with (go_at_call 17; (with_reducible refine hl.mono ?_); rintro e w1 ⟨rfl, rfl⟩)
  all_goals (go_ret; exact ⟨rfl, rfl⟩)
theorem run_len_chan_none {P : Program} {t u : TypeId} {d : ChanDir} {e : TypeId} (h : P.underlying t = some (.chan d e)) (w : World) :
    (Builtin.len_ #[t] u #[.chan none]).run P w = .ok (goInt 0) w := by
  simp [Builtin.len_, run_underlying h]
theorem run_len_chan {P : Program} {t u : TypeId} {d : ChanDir} {e : TypeId} (h : P.underlying t = some (.chan d e)) (w : World) {c cap s r : Nat} {buf : Array Value} {cl : Bool} (hc : w.heap[c]? = some (.chan cap buf cl s r false)) :
    (Builtin.len_ #[t] u #[.chan (some c)]).run P w = .ok (goInt buf.size) w := by
  have hg : Sem.run P (Sem.getObj c Sem.pure) w = .ok (.chan cap buf cl s r false) w := by simp [Sem.run, hc]
  simp only [Builtin.len_, run_underlying h]
  simp [run_underlying h, getObj, hg]
theorem has_any (P S : Nat) (cs : List Nat) (l : List Bool) (t : Nat) (b : Bool) (w : World) (hP : PermitsAt w P S cs l) (hb : l[t]? = some b) :
    Calls Tryz.prog 32 #[permitsV P, .int .i64 t] w fun e w' => e = .returned (.bool b) ∧ w = w' := by
  have ht : t < cs.length := by rw [hP.len]; exact (List.getElem?_eq_some_iff.1 hb).1
  obtain ⟨c, hc⟩ : ∃ c, cs[t]? = some c := ⟨cs[t], by simp [ht]⟩
  have ho := of_any P S cs l t c w hP hc
  obtain ⟨s, r, hch⟩ := hP.chan t c b hc hb
  clear hP hc ht hb
  have hn := fun u => run_len_chan (P := Tryz.prog) (t := 147) (u := u) Tryz.underlying147 w hch
  cases b
  all_goals
    go_enter Tryz.func32, Tryz.ntmps32
    go_wp2_with (go_at_call 87; (with_reducible refine ho.mono ?_); rintro e w1 ⟨rfl, rfl⟩)
    go_ret
    exact ⟨rfl, rfl⟩
theorem has_no (P S : Nat) (cs : List Nat) (l : List Bool) (t : Int) (w : World) (hP : PermitsAt w P S cs l) (ht : t < 0 ∨ (l.length : Int) ≤ t) :
    Calls Tryz.prog 32 #[permitsV P, .int .i64 t] w fun e w' => e = .returned (.bool false) ∧ w = w' := by
  have ho := pof_no P S cs l t w hP ht
  have hn := fun u => run_len_chan_none (P := Tryz.prog) (t := 147) (u := u) Tryz.underlying147 w
  clear hP ht
  go_enter Tryz.func32, Tryz.ntmps32
  go_wp2_with (go_at_call 87; (with_reducible refine ho.mono ?_); rintro e w1 ⟨rfl, rfl⟩)
  go_ret
  exact ⟨rfl, rfl⟩
theorem has_nil (t : Int) (w : World) : Calls Tryz.prog 32 #[.pointer none, .int .i64 t] w fun e w' => e = .returned (.bool false) ∧ w = w' := by
  have ho := of_nil t w
  have hn := fun u => run_len_chan_none (P := Tryz.prog) (t := 147) (u := u) Tryz.underlying147 w
  go_enter Tryz.func32, Tryz.ntmps32
  go_wp2_with (go_at_call 87; (with_reducible refine ho.mono ?_); rintro e w1 ⟨rfl, rfl⟩)
  go_ret
  exact ⟨rfl, rfl⟩
end Go.Proofs.YtbaehokffdpopaaGreat
