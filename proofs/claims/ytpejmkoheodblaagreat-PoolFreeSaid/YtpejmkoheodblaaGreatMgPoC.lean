/- Layer 11's laws: the pool in cells, and what is done with it, step by step. -/
import Derived.Test.YtpejmkoheodblaaGreatMgPoB
namespace Go.Proofs.YtpejmkoheodblaaGreat
open Go.ChangeShapes Go.WideShapes Go.ChangeAt Go.RowKit
set_option linter.unusedVariables false
set_option maxRecDepth 100000
set_option linter.unusedSimpArgs false
theorem rdL_eq {mm : List Int} {i : Nat} {c : Int} (h : mm[i]? = some c) : rdL mm i = c := by unfold rdL; rw [h]; rfl
theorem PIs.came {m : Mp} {mm L : List Int} (h : PIs m mm L) (hr : Rng mm) : Came m mm L := by
  refine ⟨h.len, hr, fun k x hx => ?_, h.nodup, h.low, ?_⟩
  · have hxr := h.low x (List.mem_of_getElem? hx)
    obtain ⟨hlt, e⟩ := List.getElem?_eq_some_iff.1 hx
    have e0 : headOf (L.drop k) = x + 1 := by rw [List.drop_eq_getElem_cons hlt, e]; rfl
    unfold curP
    cases k with
    | zero =>
      rw [List.take_zero, curV_nil, rdL_eq h.head]
      rw [List.drop_zero] at e0
      rw [e0, pmS_of (by omega)]
      omega
    | succ k =>
      have hy : L[k]? = some L[k] := List.getElem?_eq_getElem (by omega)
      rw [take_snoc_w hy, curV_snoc, rdL_eq (h.next k _ hy), e0, pmS_of (by omega)]
      omega
  · left
    unfold curP
    rcases List.eq_nil_or_concat L with e | ⟨r, x, e⟩
    · rw [e, curV_nil, rdL_eq h.head, e]
      rw [pmS_of (by simp [headOf])]
      simp [headOf]
    · rw [List.concat_eq_append] at e
      have hx : L[r.length]? = some x := by rw [e]; simp
      have := h.next _ x hx
      rw [List.drop_eq_nil_of_le (by rw [e]; simp)] at this
      rw [e, curV_snoc, rdL_eq this, pmS_of (by simp [headOf])]
      simp [headOf]
/-- cells of the law's own, with a pool -/
structure PW (w : World) (C S : Nat) (m : Mp) (mm : List Int) (n : Int) (L : List Int) (G : Int → Int) : Prop where
  cells : CellsAt w C S mm n
  pool : PFree m mm L
  gen : ∀ k : Int, 0 ≤ k → k < m.n → mm[genN m k]? = some (G k)
  rng : Rng mm
  size : mm.length = sizeN m
theorem PW.below {w w1 : World} {C S : Nat} {m : Mp} {mm : List Int} {n : Int} {L : List Int} {G : Int → Int} (h : PW w C S m mm n L G) (hb : Below w.heap.size w w1) : PW w1 C S m mm n L G :=
  ⟨h.cells.keep (Keep.ofBelow (Q := fun _ => False) hb) (fun h => h) (fun h => h), h.pool, h.gen, h.rng, h.size⟩
/-- after a call -/
def AftP (w w' : World) (C S : Nat) (m : Mp) (b : Int) (L : List Int) (G : Int → Int) : Prop := (∃ mm' n', PW w' C S m mm' n' L G ∧ 0 ≤ n' ∧ n' ≤ b + 10) ∧ Keep (ofCells C S) w w'
theorem layL_rng {m : Mp} {mm : List Int} (hm : m.n ≤ 4096) (h : Rng mm) : Rng (layL m mm) := by
  have hb : ∀ j, j ≤ m.n → 0 ≤ bhN m.n j ∧ bhN m.n j < 18446744073709551616 := fun j hj => by
    unfold bhN
    split <;> omega
  have hg : ∀ j, j ≤ m.n → Rng (layGo m mm j) := by
    intro j
    induction j with
    | zero => exact fun _ => h
    | succ j ih => exact fun hj => (ih (by omega)).set _ (hb j (by omega))
  exact (hg _ (Nat.le_refl _)).set 1 (hb _ (Nat.le_refl _))
theorem rng_zeros (k : Nat) : Rng (List.replicate k 0) := fun i c hc => by
  have := List.mem_of_getElem? hc
  rw [List.eq_of_mem_replicate this]
  omega
theorem layL_pfree {m : Mp} {k : Nat} (hs : sizeN m ≤ k) : PFree m (layL m (List.replicate k 0)) (upL m.n) := by
  refine ⟨layL_pis m _ (by simpa using hs), ?_⟩
  rw [layL_latch]
  rw [List.getElem?_replicate]
  rw [if_pos (by unfold sizeN at hs; omega)]
theorem layL_gens {m : Mp} {k : Nat} (hs : sizeN m ≤ k) : ∀ j : Int, 0 ≤ j → j < m.n → (layL m (List.replicate k 0))[genN m j]? = some 0 := fun j h1 h2 => by
  rw [layL_gen m _ j h1, List.getElem?_replicate, if_pos (by have := genN_lt (m := m) ⟨h1, h2⟩; omega)]
theorem vlaid (n : Nat) (w : World) (hn : n ≤ 4096) {nI : Int} (hI : nI = n) :
    Calls Tryz.prog 39 #[.int .i64 nI] w fun e w' => ∃ C S mm, e = .returned (.tuple #[cellsV C, lawV n]) ∧ PW w' C S (lawM n) mm (n + 1) (upL n) (fun _ => 0) ∧ Below w.heap.size w w' ∧ w.heap.size ≤ C ∧ w.heap.size ≤ S := by
  refine (laid_any n w hn hI).mono ?_
  rintro e w' ⟨C, S, rfl, h1, h2, h3, h4⟩
  exact ⟨C, S, _, rfl, ⟨h1, layL_pfree (m := lawM n) (Nat.le_refl _), layL_gens (m := lawM n) (Nat.le_refl _), layL_rng (m := lawM n) hn (rng_zeros _), by rw [layL_len]; simp⟩, h2, h3, h4⟩
section
variable {w : World} {C S : Nat} {m : Mp} {mm : List Int} {n : Int} {L : List Int} {G : Int → Int}
theorem qtake (hm : m.ok) (t : Int) (ht : 0 ≤ t) (h : PW w C S m mm n L G) :
    Calls Tryz.prog 33 #[cellsV C, mapV m, .int .i64 t] w fun e w' => ∃ k, e = .returned (pV k) ∧ MadeT (cellOps C 0) w (fun b => w.heap.size ≤ b) (takeT m t) k w' := vtake hm t ht h.pool.pool.len h.cells
theorem qback (hm : m.ok) (t x : Int) (ht : 0 ≤ t) (hx : 0 ≤ x ∧ x < m.n) (h : PW w C S m mm n L G) :
    Calls Tryz.prog 34 #[cellsV C, mapV m, .int .i64 t, .int .i64 x] w fun e w' => ∃ k, e = .returned (pV k) ∧ MadeT (cellOps C 0) w (fun b => w.heap.size ≤ b) (backT m t x) k w' := vback hm t x ht hx h.pool.pool.len h.cells
theorem SameGen.gen {mm' : List Int} (h : SameGen m mm mm') (hg : ∀ k : Int, 0 ≤ k → k < m.n → mm[genN m k]? = some (G k)) : ∀ k : Int, 0 ≤ k → k < m.n → mm'[genN m k]? = some (G k) := fun k h1 h2 => (h.2 k h1).trans (hg k h1 h2)
/-- what comes of them -/
theorem rtake (b : Int) {x : Int} {r : List Int} (hm : m.ok) (t : Int) (ht : 0 ≤ t ∧ t ≤ 100) (h : PW w C S m mm n (x :: r) G) (h0 : 0 ≤ n ∧ n ≤ b) (hb : b ≤ 900000) (k : Nat) (w1 : World) (hM : MadeT (cellOps C 0) w (fun b => w.heap.size ≤ b) (takeT m t) k w1) :
    Calls Tryz.prog 42 #[pV k, .int .i64 9] w1 fun e w' => e = .returned (.int .i64 x) ∧ AftP w w' C S m b r G := by
  obtain ⟨mm', hG, h1, h2, h3⟩ := goes_take hm.n h.pool ⟨ht.1, by omega⟩
  refine (prun_any h.cells hM hG (by omega : 5 ≤ 9) (by omega) ⟨h0.1, by omega⟩ (mI := 9) rfl).mono ?_
  rintro e w' ⟨rfl, g1, g2⟩
  exact ⟨rfl, ⟨mm', _, ⟨g1, h1, h2.gen h.gen, h3 h.rng, h2.1.trans h.size⟩, by omega, by omega⟩, g2⟩
theorem rnone (b : Int) (hm : m.ok) (t : Int) (ht : 0 ≤ t ∧ t ≤ 100) (h : PW w C S m mm n [] G) (h0 : 0 ≤ n ∧ n ≤ b) (hb : b ≤ 900000) (k : Nat) (w1 : World) (hM : MadeT (cellOps C 0) w (fun b => w.heap.size ≤ b) (takeT m t) k w1) :
    Calls Tryz.prog 42 #[pV k, .int .i64 9] w1 fun e w' => e = .returned (.int .i64 (-1)) ∧ AftP w w' C S m b [] G := by
  obtain ⟨mm', hG, h1, h2, h3⟩ := goes_none h.pool ⟨ht.1, by omega⟩
  refine (prun_any h.cells hM hG (by omega : 3 ≤ 9) (by omega) ⟨h0.1, by omega⟩ (mI := 9) rfl).mono ?_
  rintro e w' ⟨rfl, g1, g2⟩
  exact ⟨rfl, ⟨mm', _, ⟨g1, h1, h2.gen h.gen, h3 h.rng, h2.1.trans h.size⟩, by omega, by omega⟩, g2⟩
theorem rback (b : Int) (hm : m.ok) (t x : Int) (ht : 0 ≤ t ∧ t ≤ 100) (hx : 0 ≤ x ∧ x < m.n) (hL : x ∉ L) (hg : 0 ≤ G x ∧ G x < 4095) (h : PW w C S m mm n L G) (h0 : 0 ≤ n ∧ n ≤ b) (hb : b ≤ 900000) (k : Nat) (w1 : World) (hM : MadeT (cellOps C 0) w (fun b => w.heap.size ≤ b) (backT m t x) k w1) :
    Calls Tryz.prog 42 #[pV k, .int .i64 9] w1 fun e w' => e = .returned (.int .i64 1) ∧ AftP w w' C S m b (x :: L) G := by
  obtain ⟨mm', hG, h1, h2, h3⟩ := goes_back hm.n h.pool ⟨ht.1, by omega⟩ hx hL (h.gen x hx.1 hx.2) hg
  refine (prun_any h.cells hM hG (by omega : 6 ≤ 9) (by omega) ⟨h0.1, by omega⟩ (mI := 9) rfl).mono ?_
  rintro e w' ⟨rfl, g1, g2⟩
  exact ⟨rfl, ⟨mm', _, ⟨g1, h1, h2.gen h.gen, h3 h.rng, h2.1.trans h.size⟩, by omega, by omega⟩, g2⟩
theorem rlast (b : Int) (hm : m.ok) (t x : Int) (ht : 0 ≤ t ∧ t ≤ 100) (hx : 0 ≤ x ∧ x < m.n) (hg : 4095 ≤ G x ∧ G x ≤ 1000000) (h : PW w C S m mm n L G) (h0 : 0 ≤ n ∧ n ≤ b) (hb : b ≤ 900000) (k : Nat) (w1 : World) (hM : MadeT (cellOps C 0) w (fun b => w.heap.size ≤ b) (backT m t x) k w1) :
    Calls Tryz.prog 42 #[pV k, .int .i64 9] w1 fun e w' => e = .returned (.int .i64 0) ∧ AftP w w' C S m b L G := by
  obtain ⟨mm', hG, h1, h2, h3⟩ := goes_last h.pool ⟨ht.1, by omega⟩ (h.gen x hx.1 hx.2) hg
  refine (prun_any h.cells hM hG (by omega : 3 ≤ 9) (by omega) ⟨h0.1, by omega⟩ (mI := 9) rfl).mono ?_
  rintro e w' ⟨rfl, g1, g2⟩
  exact ⟨rfl, ⟨mm', _, ⟨g1, h1, h2.gen h.gen, h3 h.rng, h2.1.trans h.size⟩, by omega, by omega⟩, g2⟩
theorem vfree (hm : m.ok) (N : Nat) (hN : N = L.length) (h : PW w C S m mm n L G) :
    Calls Tryz.prog 38 #[cellsV C, mapV m] w fun e w' => ∃ a c, e = .returned (.slice a N c) ∧ RowN w' (fun b => w.heap.size ≤ b) (.slice a N c) L ∧ Below w.heap.size w w' := by
  subst hN
  refine (free_any C S m mm L n w hm h.cells (h.pool.pool.came h.rng)).mono ?_
  rintro e w' ⟨v, rfl, hr, hb⟩
  obtain ⟨a, c, rfl, _⟩ := id hr
  exact ⟨a, c, rfl, hr, hb⟩
/-- a generation that is stored -/
theorem vgen (b : Int) (x g : Int) {i : Int} (hi : i = (genN m x : Nat)) (hx : 0 ≤ x ∧ x < m.n) (hg : 0 ≤ g ∧ g ≤ 1000000) (h : PW w C S m mm n L G) (h0 : 0 ≤ n ∧ n ≤ b) (hb : b ≤ 900000) (G' : Int → Int) (hG : ∀ k : Int, 0 ≤ k → k < m.n → G' k = if k = x then g else G k) :
    Calls Tryz.prog 40 #[cellsV C, .int .i64 i, .int .u64 g] w fun e w' => e = .returned (.bool true) ∧ AftP w w' C S m b L G' := by
  subst hi
  refine (store_yes C S mm n (genN m x) _ g w h.cells (h.gen x hx.1 hx.2) h0.1 (by omega)).mono ?_
  rintro e w' ⟨rfl, h1, h2⟩
  have hgn := gen_ne (m := m) (k := x)
  have hlt := (List.getElem?_eq_some_iff.1 (h.gen x hx.1 hx.2)).1
  refine ⟨rfl, ⟨_, n + 1, ⟨h1, ⟨h.pool.pool.set _ g hgn.2 (fun y hy => (linkN_gen (h.pool.pool.low y hy).1 hx.1).symm), by rw [List.getElem?_set_ne hgn.1]; exact h.pool.free⟩, fun k h1 h2 => ?_, h.rng.set _ (by omega), by simpa using h.size⟩, by omega, by omega⟩, h2⟩
  rw [hG k h1 h2]
  by_cases e : k = x
  · subst e
    rw [if_pos rfl, List.getElem?_set_self hlt]
  · rw [if_neg e, List.getElem?_set_ne (fun e2 => e (by unfold genN monN at e2; omega))]
    exact h.gen k h1 h2
end
set_option maxHeartbeats 4000000 in
theorem psame_any (u v : Value) (N N' : Nat → Prop) (l : List Int) (w : World) (hu : RowN w N u l) (hv : RowN w N' v l) (hl : l.length ≤ 100000) :
    Calls Tryz.prog 60 #[u, v] w fun e w' => e = .returned (.bool true) ∧ Below w.heap.size w w' := by
  obtain ⟨a, c, rfl, _, hp⟩ := id hu
  obtain ⟨a', c', rfl, _, hp'⟩ := id hv
  have HP := Lib.hid hp
  have HP' := Lib.hid hp'
  clear hu hv hp hp'
  go_enter Tryz.func60, Tryz.ntmps60
  go_upto_region 4 with fail
  go_loopw [5] (fun vi wr => ∃ I : Nat, I ≤ l.length ∧ vi = .int .i64 (I : Int) ∧ Below w.heap.size w wr)
    (fun vi _ => l.length - (intOf vi).toNat)
  case atStart => exact ⟨0, by omega, rfl, Below.refl _ _⟩
  case round =>
    obtain ⟨I, hI, rfl, hb⟩ := hrel
    by_cases hlt : I < l.length
    · obtain ⟨p, hpi⟩ : ∃ p, l[I]? = some p := ⟨_, List.getElem?_eq_getElem hlt⟩
      obtain ⟨B, o, rfl, _, hB1, c0⟩ := HP.out I p hpi
      obtain ⟨B', o', rfl, _, hB1', d0⟩ := HP'.out I p hpi
      replace c0 := (hb.cell (p := ⟨B, o + I, none⟩) hB1).trans c0
      replace d0 := (hb.cell (p := ⟨B', o' + I, none⟩) hB1').trans d0
      have hix := idx_qints l.length c B o I hlt
      have hix' := idx_qints l.length c' B' o' I hlt
      have hI3 : (I : Int) < (l.length : Int) := by omega
      clear hpi
      go_upto_region 6 with fail
      go_quiet (fail)
      go_wp2
      go_roundw
      case rel => exact ⟨I + 1, by omega, by go_num, bdrewN hb nq⟩
      case measure => simp [intOf]; omega
    · have hIe : I = l.length := by omega
      subst hIe
      go_wp2
      go_ret
      exact ⟨rfl, hb⟩
theorem prow_lit (w : World) (l : List Int) (cs : Array Value) (h : cs = (l.map (Value.int .i64)).toArray) : RowN (w.alloc (.cells cs 3)) (fun b => b = w.heap.size) (.slice (some ⟨w.heap.size, 0, none⟩) l.length l.length) l := by
  subst h
  refine ⟨_, _, rfl, Nat.le_refl _, fun i x hx => ⟨w.heap.size, 0, rfl, rfl, by simp, ?_⟩⟩
  rw [Nat.zero_add]
  exact (Blk.new w 3 _).cell i _ (by rw [List.getElem?_toArray, List.getElem?_map, hx]; rfl)
theorem vsame (v : Value) (l : List Int) (N : Nat → Prop) (w : World) (cs : Array Value) (h : RowN w N v l) (hl : l.length ≤ 100) (hcs : cs = (l.map (Value.int .i64)).toArray) {k : Nat} (hk : k = l.length) :
    Calls Tryz.prog 60 #[v, .slice (some ⟨w.heap.size, 0, none⟩) k k] (w.alloc (.cells cs 3)) fun e w' => e = .returned (.bool true) ∧ Below w.heap.size w w' := by
  subst hk
  have k0 : Keep (fun _ => False) w (w.alloc (.cells cs 3)) := (Keep.refl _ _).alloc _
  refine (psame_any v _ N _ l _ (h.keep k0 (fun _ _ h => h)) (prow_lit w l cs hcs) (by omega)).mono ?_
  rintro e w' ⟨rfl, hb⟩
  exact ⟨rfl, ((Below.refl _ w).alloc (Nat.le_refl _) _).trans (hb.mono (by simp))⟩
/-- Free, of cells that have no such map -/
theorem free_no (cv : Value) (t o k : Int) (w : World) (hA : ∀ W, Below w.heap.size w W → Calls Tryz.prog 13 #[cv] W fun e w' => ∃ a n c, e = .returned (.slice a n c) ∧ Below W.heap.size W w' ∧ ∀ V, Calls Tryz.prog 62 #[.int .i64 (n : Int), .agg #[.int .i64 t, .int .i64 o, .int .i64 k]] V fun e w' => e = .returned (.bool false) ∧ Below V.heap.size V w') :
    Calls Tryz.prog 38 #[cv, .agg #[.int .i64 t, .int .i64 o, .int .i64 k]] w fun e w' => e = .returned (.slice none 0 0) ∧ Below w.heap.size w w' := by
  have HA := Lib.hid hA
  clear hA
  go_enter Tryz.func38, Tryz.ntmps38
  go_upto_region 1 with fail
  generalize hW : (w.alloc _) = W
  have bW : Below w.heap.size w W := by rw [← hW]; go_grown
  have m0 : Blk W w.heap.size 24 #[.int .i64 t, .int .i64 o, .int .i64 k] := by rw [← hW]; exact Blk.new w _ _
  clear hW
  have HA1 := Lib.hid (HA.out W bW)
  clear HA
  go_wp2_with (first
    | (go_at_call 13; (with_reducible refine HA1.out.mono ?_); rintro e w2 ⟨a, n, c, rfl, b2, hR⟩; have HR := Lib.hid hR; have m2 := m0.below b2 m0.lt; have c0 := m2.cell 0 _ rfl; have c1 := m2.cell 1 _ rfl; have c2 := m2.cell 2 _ rfl)
    | (go_at_call 62; (with_reducible refine (HR.out _).mono ?_); rintro e w3 ⟨rfl, b3⟩))
  go_ret
  exact ⟨rfl, bW.trans ((b2.trans (b3.mono b2.size)).mono bW.size)⟩
end Go.Proofs.YtpejmkoheodblaaGreat
/- Layer 11's laws: works: the chapter's examples. Written by tools/gen_poworks.py. -/
namespace Go.Proofs.YtpejmkoheodblaaGreat
open Go.ChangeShapes Go.WideShapes Go.ChangeAt Go.RowKit
set_option linter.unusedVariables false
set_option maxRecDepth 100000
set_option linter.unusedSimpArgs false
theorem lawC {w : World} {b n : Nat} (h : Blk w b 24 #[.int .i64 3, .int .i64 2, .int .i64 (n : Int)]) : w.cell? ⟨b, 0, none⟩ = some (.int .i64 3) ∧ w.cell? ⟨b, 1, none⟩ = some (.int .i64 2) ∧ w.cell? ⟨b, 2, none⟩ = some (.int .i64 (n : Int)) := ⟨h.cell 0 _ rfl, h.cell 1 _ rfl, h.cell 2 _ rfl⟩
theorem lawC3 {w : World} {b : Nat} (h : Blk w b 24 #[.int .i64 3, .int .i64 2, .int .i64 3]) : w.cell? ⟨b, 0, none⟩ = some (.int .i64 3) ∧ w.cell? ⟨b, 1, none⟩ = some (.int .i64 2) ∧ w.cell? ⟨b, 2, none⟩ = some (.int .i64 3) := ⟨h.cell 0 _ rfl, h.cell 1 _ rfl, h.cell 2 _ rfl⟩
abbrev V3 : Value := .agg #[.int .i64 3, .int .i64 2, .int .i64 3]
abbrev m3 : Mp := lawM 3
theorem m3_ok : m3.ok := lawM_ok (by omega)
def gZ : Int → Int := fun _ => 0
def gL : Int → Int := fun k => if k = 1 then 4095 else 0
theorem nofP {b C S : Nat} (h : b ≠ C ∧ b ≠ S) : ¬ ofCells C S b := fun e => e.elim h.1 h.2
section
variable {w : World} {C S : Nat} {mm : List Int} {n : Int} {L : List Int} {G : Int → Int}
theorem q3take (t : Int) (ht : 0 ≤ t) (h : PW w C S m3 mm n L G) : Calls Tryz.prog 33 #[cellsV C, V3, .int .i64 t] w fun e w' => ∃ k, e = .returned (pV k) ∧ MadeT (cellOps C 0) w (fun b => w.heap.size ≤ b) (takeT m3 t) k w' := qtake m3_ok t ht h
theorem q3back (t x : Int) (ht : 0 ≤ t) (hx : 0 ≤ x ∧ x < 3) (h : PW w C S m3 mm n L G) : Calls Tryz.prog 34 #[cellsV C, V3, .int .i64 t, .int .i64 x] w fun e w' => ∃ k, e = .returned (pV k) ∧ MadeT (cellOps C 0) w (fun b => w.heap.size ≤ b) (backT m3 t x) k w' := qback m3_ok t x ht hx h
theorem v3free (N : Nat) (hN : N = L.length) (h : PW w C S m3 mm n L G) : Calls Tryz.prog 38 #[cellsV C, V3] w fun e w' => ∃ a c, e = .returned (.slice a N c) ∧ RowN w' (fun b => w.heap.size ≤ b) (.slice a N c) L ∧ Below w.heap.size w w' := vfree m3_ok N hN h
theorem v3gen (w : World) : Calls Tryz.prog 61 #[V3, .int .i64 1] w fun e w' => e = .returned (.int .i64 (genN m3 1 : Nat)) ∧ Below w.heap.size w w' := gen_any m3 1 w m3_ok (by decide)
theorem v3laid (w : World) : Calls Tryz.prog 39 #[.int .i64 3] w fun e w' => ∃ C S mm, e = .returned (.tuple #[cellsV C, V3]) ∧ PW w' C S m3 mm 4 [0, 1, 2] gZ ∧ Below w.heap.size w w' ∧ w.heap.size ≤ C ∧ w.heap.size ≤ S := by
  refine (vlaid 3 w (by omega) (nI := 3) rfl).mono ?_
  rintro e w' ⟨C, S, mm, rfl, h1, h2⟩
  exact ⟨C, S, mm, rfl, h1, h2⟩
end
set_option maxHeartbeats 8000000 in
theorem pworks_any (w : World) : Calls Tryz.prog 30 #[] w fun e w' => e = .returned (.bool true) ∧ Below w.heap.size w w' := by
  go_enter Tryz.func30, Tryz.ntmps30
  go_upto_region 2 with (go_at_call 39; (with_reducible refine (v3laid _).mono ?_); rintro e w1 ⟨C, S, mm, rfl, hq, b1, hC, hS⟩)
  have m1 : Blk (w1.alloc (.cells #[.int .i64 3, .int .i64 2, .int .i64 3] 24)) w1.heap.size 24 #[.int .i64 3, .int .i64 2, .int .i64 3] := Blk.new w1 _ _
  have hb1 : Below w1.heap.size w1 (w1.alloc (.cells #[.int .i64 3, .int .i64 2, .int .i64 3] 24)) := (Below.refl _ w1).alloc (Nat.le_refl _) _
  generalize w1.alloc (.cells #[.int .i64 3, .int .i64 2, .int .i64 3] 24) = V at *
  have HB := Lib.hid (b1.trans (hb1.mono b1.size))
  have HMC := Lib.hid (show w1.heap.size ≠ C ∧ w1.heap.size ≠ S from ⟨by have := hq.cells.own.lt; omega, by have := hq.cells.row.lt; omega⟩)
  have HCS := Lib.hid (show ∀ i, ofCells C S i → w.heap.size ≤ i from fun i hi => by rcases hi with hi | hi <;> omega)
  have HQ := Lib.hid (hq.below hb1)
  have HM := Lib.hid m1
  obtain ⟨d0, d1, d2⟩ := lawC3 m1
  have HN := Lib.hid (show (0 : Int) ≤ 4 ∧ (4 : Int) ≤ 10 by decide)
  clear m1 hb1 b1 hq hC hS
  generalize w1.heap.size = bm at *
  have HC0 := Lib.hid (v3free 3 (by rfl) HQ.out)
  go_upto_region 4 with (first
    | (go_at_call 38; (with_reducible refine HC0.out.mono ?_); rintro e wf0 ⟨va, vc, rfl, hrow, hb⟩; have HQ := Lib.hid (HQ.out.below hb); have HR := Lib.hid hrow; have HM := Lib.hid (HM.out.below hb HM.out.lt); have HB := Lib.hid (HB.out.trans (hb.mono HB.out.size)); clear d0 d1 d2 hrow hb HC0; obtain ⟨d0, d1, d2⟩ := lawC3 HM.out; have HD0 := Lib.hid (vsame _ [0, 1, 2] _ wf0 #[.int .i64 0, .int .i64 1, .int .i64 2] HR.out (by decide) rfl (k := 3) rfl))
    | (go_at_call 60; (with_reducible refine HD0.out.mono ?_); rintro e ws0 ⟨rfl, hb⟩; have HQ := Lib.hid (HQ.out.below hb); have HM := Lib.hid (HM.out.below hb HM.out.lt); have HB := Lib.hid (HB.out.trans (hb.mono HB.out.size)); clear d0 d1 d2 hb HD0; obtain ⟨d0, d1, d2⟩ := lawC3 HM.out; have HC1 := Lib.hid (q3take 0 (by omega) HQ.out)))
  go_upto_region 5 with (first
    | (go_at_call 33; (with_reducible refine HC1.out.mono ?_); rintro e wa1 ⟨k1, rfl, hM⟩; have HD1 := Lib.hid (rtake 10 (r := [1, 2]) m3_ok 0 (by omega) HQ.out HN.out (by omega) k1 wa1 hM); clear HC1 hM)
    | (go_at_call 42; (with_reducible refine HD1.out.mono ?_); rintro e wb1 ⟨rfl, ⟨⟨mm1, n1, hq, hn⟩, hk⟩⟩; have HQ := Lib.hid hq; have HN := Lib.hid (show 0 ≤ n1 ∧ n1 ≤ 20 from hn); have HM := Lib.hid (HM.out.keep hk (nofP HMC.out)); have HB := Lib.hid (HB.out.trans (hk.below HB.out.size (fun i _ hi => HCS.out i hi))); clear d0 d1 d2 hq hn hk HD1; obtain ⟨d0, d1, d2⟩ := lawC3 HM.out; have HC2 := Lib.hid (q3take 1 (by omega) HQ.out))
    | (go_at_call 33; (with_reducible refine HC2.out.mono ?_); rintro e wa2 ⟨k2, rfl, hM⟩; have HD2 := Lib.hid (rtake 20 (r := [2]) m3_ok 1 (by omega) HQ.out HN.out (by omega) k2 wa2 hM); clear HC2 hM)
    | (go_at_call 42; (with_reducible refine HD2.out.mono ?_); rintro e wb2 ⟨rfl, ⟨⟨mm2, n2, hq, hn⟩, hk⟩⟩; have HQ := Lib.hid hq; have HN := Lib.hid (show 0 ≤ n2 ∧ n2 ≤ 30 from hn); have HM := Lib.hid (HM.out.keep hk (nofP HMC.out)); have HB := Lib.hid (HB.out.trans (hk.below HB.out.size (fun i _ hi => HCS.out i hi))); clear d0 d1 d2 hq hn hk HD2; obtain ⟨d0, d1, d2⟩ := lawC3 HM.out; have HC3 := Lib.hid (v3free 1 (by rfl) HQ.out))
    | (go_at_call 38; (with_reducible refine HC3.out.mono ?_); rintro e wf3 ⟨va, vc, rfl, hrow, hb⟩; have HQ := Lib.hid (HQ.out.below hb); have HR := Lib.hid hrow; have HM := Lib.hid (HM.out.below hb HM.out.lt); have HB := Lib.hid (HB.out.trans (hb.mono HB.out.size)); clear d0 d1 d2 hrow hb HC3; obtain ⟨d0, d1, d2⟩ := lawC3 HM.out; have HD3 := Lib.hid (vsame _ [2] _ wf3 #[.int .i64 2] HR.out (by decide) rfl (k := 1) rfl))
    | (go_at_call 60; (with_reducible refine HD3.out.mono ?_); rintro e ws3 ⟨rfl, hb⟩; have HQ := Lib.hid (HQ.out.below hb); have HM := Lib.hid (HM.out.below hb HM.out.lt); have HB := Lib.hid (HB.out.trans (hb.mono HB.out.size)); clear d0 d1 d2 hb HD3; obtain ⟨d0, d1, d2⟩ := lawC3 HM.out; have HC4 := Lib.hid (q3back 2 0 (by omega) (by omega) HQ.out)))
  go_upto_region 6 with (first
    | (go_at_call 34; (with_reducible refine HC4.out.mono ?_); rintro e wa4 ⟨k4, rfl, hM⟩; have HD4 := Lib.hid (rback 30 m3_ok 2 0 (by omega) (by decide) (by decide) (by decide) HQ.out HN.out (by omega) k4 wa4 hM); clear HC4 hM)
    | (go_at_call 42; (with_reducible refine HD4.out.mono ?_); rintro e wb4 ⟨rfl, ⟨⟨mm4, n4, hq, hn⟩, hk⟩⟩; have HQ := Lib.hid hq; have HN := Lib.hid (show 0 ≤ n4 ∧ n4 ≤ 40 from hn); have HM := Lib.hid (HM.out.keep hk (nofP HMC.out)); have HB := Lib.hid (HB.out.trans (hk.below HB.out.size (fun i _ hi => HCS.out i hi))); clear d0 d1 d2 hq hn hk HD4; obtain ⟨d0, d1, d2⟩ := lawC3 HM.out; have HC5 := Lib.hid (q3back 0 1 (by omega) (by omega) HQ.out))
    | (go_at_call 34; (with_reducible refine HC5.out.mono ?_); rintro e wa5 ⟨k5, rfl, hM⟩; have HD5 := Lib.hid (rback 40 m3_ok 0 1 (by omega) (by decide) (by decide) (by decide) HQ.out HN.out (by omega) k5 wa5 hM); clear HC5 hM)
    | (go_at_call 42; (with_reducible refine HD5.out.mono ?_); rintro e wb5 ⟨rfl, ⟨⟨mm5, n5, hq, hn⟩, hk⟩⟩; have HQ := Lib.hid hq; have HN := Lib.hid (show 0 ≤ n5 ∧ n5 ≤ 50 from hn); have HM := Lib.hid (HM.out.keep hk (nofP HMC.out)); have HB := Lib.hid (HB.out.trans (hk.below HB.out.size (fun i _ hi => HCS.out i hi))); clear d0 d1 d2 hq hn hk HD5; obtain ⟨d0, d1, d2⟩ := lawC3 HM.out; have HC6 := Lib.hid (v3free 3 (by rfl) HQ.out))
    | (go_at_call 38; (with_reducible refine HC6.out.mono ?_); rintro e wf6 ⟨va, vc, rfl, hrow, hb⟩; have HQ := Lib.hid (HQ.out.below hb); have HR := Lib.hid hrow; have HM := Lib.hid (HM.out.below hb HM.out.lt); have HB := Lib.hid (HB.out.trans (hb.mono HB.out.size)); clear d0 d1 d2 hrow hb HC6; obtain ⟨d0, d1, d2⟩ := lawC3 HM.out; have HD6 := Lib.hid (vsame _ [1, 0, 2] _ wf6 #[.int .i64 1, .int .i64 0, .int .i64 2] HR.out (by decide) rfl (k := 3) rfl))
    | (go_at_call 60; (with_reducible refine HD6.out.mono ?_); rintro e ws6 ⟨rfl, hb⟩; have HQ := Lib.hid (HQ.out.below hb); have HM := Lib.hid (HM.out.below hb HM.out.lt); have HB := Lib.hid (HB.out.trans (hb.mono HB.out.size)); clear d0 d1 d2 hb HD6; obtain ⟨d0, d1, d2⟩ := lawC3 HM.out; have HC7 := Lib.hid v3gen))
  go_upto_region 7 with (first
    | (go_at_call 61; (with_reducible refine (HC7.out _).mono ?_); rintro e wg7 ⟨rfl, hb⟩; have HQ := Lib.hid (HQ.out.below hb); have HM := Lib.hid (HM.out.below hb HM.out.lt); have HB := Lib.hid (HB.out.trans (hb.mono HB.out.size)); have HD7 := Lib.hid (vgen 50 1 4095 rfl (by decide) (by decide) HQ.out HN.out (by omega) gL (fun k _ _ => by show (if k = 1 then (4095 : Int) else 0) = if k = 1 then 4095 else gZ k; rfl)); clear hb)
    | (go_at_call 40; (with_reducible refine HD7.out.mono ?_); rintro e wb7 ⟨rfl, ⟨⟨mm7, n7, hq, hn⟩, hk⟩⟩; have HQ := Lib.hid hq; have HN := Lib.hid (show 0 ≤ n7 ∧ n7 ≤ 60 from hn); have HM := Lib.hid (HM.out.keep hk (nofP HMC.out)); have HB := Lib.hid (HB.out.trans (hk.below HB.out.size (fun i _ hi => HCS.out i hi))); clear d0 d1 d2 hq hn hk HD7; obtain ⟨d0, d1, d2⟩ := lawC3 HM.out; have HC8 := Lib.hid (q3take 0 (by omega) HQ.out)))
  go_wp2_with (first
    | (go_at_call 33; (with_reducible refine HC8.out.mono ?_); rintro e wa8 ⟨k8, rfl, hM⟩; have HD8 := Lib.hid (rtake 60 (r := [0, 2]) m3_ok 0 (by omega) HQ.out HN.out (by omega) k8 wa8 hM); clear HC8 hM)
    | (go_at_call 42; (with_reducible refine HD8.out.mono ?_); rintro e wb8 ⟨rfl, ⟨⟨mm8, n8, hq, hn⟩, hk⟩⟩; have HQ := Lib.hid hq; have HN := Lib.hid (show 0 ≤ n8 ∧ n8 ≤ 70 from hn); have HM := Lib.hid (HM.out.keep hk (nofP HMC.out)); have HB := Lib.hid (HB.out.trans (hk.below HB.out.size (fun i _ hi => HCS.out i hi))); clear d0 d1 d2 hq hn hk HD8; obtain ⟨d0, d1, d2⟩ := lawC3 HM.out; have HC9 := Lib.hid (q3back 0 1 (by omega) (by omega) HQ.out))
    | (go_at_call 34; (with_reducible refine HC9.out.mono ?_); rintro e wa9 ⟨k9, rfl, hM⟩; have HD9 := Lib.hid (rlast 70 m3_ok 0 1 (by omega) (by decide) (by decide) HQ.out HN.out (by omega) k9 wa9 hM); clear HC9 hM)
    | (go_at_call 42; (with_reducible refine HD9.out.mono ?_); rintro e wb9 ⟨rfl, ⟨⟨mm9, n9, hq, hn⟩, hk⟩⟩; have HQ := Lib.hid hq; have HN := Lib.hid (show 0 ≤ n9 ∧ n9 ≤ 80 from hn); have HM := Lib.hid (HM.out.keep hk (nofP HMC.out)); have HB := Lib.hid (HB.out.trans (hk.below HB.out.size (fun i _ hi => HCS.out i hi))); clear d0 d1 d2 hq hn hk HD9; obtain ⟨d0, d1, d2⟩ := lawC3 HM.out; have HC10 := Lib.hid (v3free 2 (by rfl) HQ.out))
    | (go_at_call 38; (with_reducible refine HC10.out.mono ?_); rintro e wf10 ⟨va, vc, rfl, hrow, hb⟩; have HQ := Lib.hid (HQ.out.below hb); have HR := Lib.hid hrow; have HM := Lib.hid (HM.out.below hb HM.out.lt); have HB := Lib.hid (HB.out.trans (hb.mono HB.out.size)); clear d0 d1 d2 hrow hb HC10; obtain ⟨d0, d1, d2⟩ := lawC3 HM.out; have HD10 := Lib.hid (vsame _ [0, 2] _ wf10 #[.int .i64 0, .int .i64 2] HR.out (by decide) rfl (k := 2) rfl))
    | (go_at_call 60; (with_reducible refine HD10.out.mono ?_); rintro e ws10 ⟨rfl, hb⟩; have HQ := Lib.hid (HQ.out.below hb); have HM := Lib.hid (HM.out.below hb HM.out.lt); have HB := Lib.hid (HB.out.trans (hb.mono HB.out.size)); clear d0 d1 d2 hb HD10; obtain ⟨d0, d1, d2⟩ := lawC3 HM.out))
  go_ret
  exact ⟨rfl, HB.out⟩
end Go.Proofs.YtpejmkoheodblaaGreat
/- A region's condition, strengthened on the way. No program is named here. -/
namespace Go.Proofs.YtpejmkoheodblaaGreat
open Go.ChangeShapes Go.WideShapes Go.ChangeAt Go.RowKit
theorem wpAnyH_moreP {P : Program} {md : Region.Mode} {ops : Array Oper} {Q : Exit → Act → World → Prop} {S S' : World → Prop} (h : ∀ w, S' w → S w) :
    ∀ (fuel : Nat) (listed : Array Bool) (a : Act) (w : World), wpAnyH P md ops Q S' fuel listed a w → wpAnyH P md ops Q S fuel listed a w
  | 0, _, _, _, hh => hh
  | fuel + 1, _, _, _, hh => ⟨hh.1, fun i hi => wpOp_mono (fun a' w' h' => ⟨h _ h'.1, wpAnyH_moreP h fuel _ a' w' h'.2⟩) (hh.2 i hi)⟩
end Go.Proofs.YtpejmkoheodblaaGreat
