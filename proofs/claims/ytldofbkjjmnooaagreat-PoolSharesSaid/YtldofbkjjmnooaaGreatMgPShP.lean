/- Package pool: Free. -/
import Derived.Test.YtldofbkjjmnooaaGreatMgPShO
import Derived.Test.YtldofbkjjmnooaaGreatMgPShL
import Derived.Test.YtldofbkjjmnooaaGreatMgPShM
namespace Go.Proofs.YtldofbkjjmnooaaGreat
open Go.ChangeShapes Go.WideShapes Go.ChangeAt Go.RowKit Go.Shelf
set_option linter.unusedVariables false
set_option maxRecDepth 100000
set_option linter.unusedSimpArgs false
attribute [local go_sem] Oper.semAt_some
theorem pcont_any (C : Nat) (m : Mp) (sv : Value) (w : World) (hs : ∃ g n cap, sv = .slice (some ⟨g, 0, none⟩) n cap) :
    Calls Tryz.prog 120 #[stockV C m, sv] w fun e w' => e = .returned (cloV 202 #[pV w.heap.size, pV (w.heap.size + 1)]) ∧ w' = (w.alloc (.cells (stockCs C m) 170)).alloc (.cells #[sv] 38) := by
  have hmf : ∀ (fn : Fn) (first cap : Array Value) (w : World), (Instr.makeFunc fn first cap).run Tryz.prog w = .ok (.func fn first cap) w := fun _ _ _ _ => rfl
  obtain ⟨g, n, cap, rfl⟩ := hs
  go_enter Tryz.func120, Tryz.ntmps120
  go_wp2
  go_ret
  exact ⟨rfl, rfl⟩
set_option maxHeartbeats 4000000 in
theorem free_in (n : Nat) (hn : 3 ≤ n) (C S : Nat) (m : Mp) (mm l : List Int) (k0 : Int) (w : World) (hm : m.ok) (hC : CellsAt w C S mm k0) (hc : Came m mm l) :
    CallsIn Fence.wide n Tryz.prog 39 #[cellsV C, mapV m] w fun e w' => ∃ v, e = .returned v ∧ RowN w' (fun b => w.heap.size ≤ b) v l ∧ Below w.heap.size w w' := by
  have h1 : 1 ≤ n := by omega
  have h1' : 1 ≤ n - 1 - 1 := by omega
  have hro : Fence.wide.round = none := rfl
  obtain ⟨i0, hi, hz0, hz1, hz2'⟩ := int_info
  have hfew := hC.few
  have hmm0 : mm ≠ [] := fun e => by have := hc.len; rw [e] at this; unfold sizeN at this; simp at this
  have HA := Lib.hid fun W (hW : Below w.heap.size w W) => allR_any C S mm k0 W (hC.keep (Keep.ofBelow (Q := fun _ => False) hW) (fun h => h) (fun h => h)) hmm0
  have HR := Lib.hid fun W => pright_yes m (mm.length : Int) W hm
  rw [show decide ((sizeN m : Int) ≤ (mm.length : Int)) = true by have := hc.len; simp; omega] at HR
  have HM := Lib.hid hm
  have HC := Lib.hid hc
  clear hC hm hc
  refine callsIn_of_wp_marks Tryz.func39 rfl trivial ?_ hro
  simp only [Tryz.ntmps39, List.size_toArray, List.length_cons, List.length_nil, Nat.reduceAdd, Nat.reduceSub, Array.replicate_succ, Array.replicate_zero, List.push_toArray, List.append_toArray, List.nil_append, List.cons_append]
  gi_wp2
  generalize hW : (w.alloc _) = W
  have bW : Below w.heap.size w W := by rw [← hW]; go_grown
  have m0 : Blk W w.heap.size 24 #[.int .i64 (m.t : Int), .int .i64 (m.o : Int), .int .i64 (m.n : Int)] := by rw [← hW]; exact Blk.new w _ _
  clear hW
  have HA2 := Lib.hid (HA.out W bW)
  clear HA
  gi_wp2_with (first
    | (refine ⟨trivial, ?_⟩; gi_at_call 17; refine (callsIn_wide.2 HA2.out).mono ?_; rintro e w2 ⟨g, cap, rfl, hg, hg1, hg2, hb2⟩; have m2 := m0.below hb2 m0.lt; have c0 := m2.cell 0 _ rfl; have c1 := m2.cell 1 _ rfl; have c2 := m2.cell 2 _ rfl)
    | (refine ⟨trivial, ?_⟩; gi_at_call 113; refine (callsIn_wide.2 (HR.out _)).mono ?_; rintro e w3 ⟨rfl, hb3⟩; clear c0 c1 c2; have m3 := m2.below hb3 m2.lt; have m4 := m3.alloc (.cells #[.slice none 0 0] 37); have c0 := m4.cell 0 _ rfl; have c1 := m4.cell 1 _ rfl; have c2 := m4.cell 2 _ rfl)
    | (refine ⟨trivial, ?_⟩; gi_at_call 120; refine (callsIn_wide.2 (pcont_any C m _ _ ⟨_, _, _, rfl⟩)).mono ?_; rintro e w5 ⟨rfl, rfl⟩))
  have sW := bW.size
  have s2 := hb2.size
  have s3 := hb3.size
  have bA : Below w.heap.size w w3 := (bW.trans (hb2.mono sW)).trans (hb3.mono (by omega))
  have aL : Blk (w3.alloc (.cells #[.slice none 0 0] 37)) w3.heap.size 37 #[.slice none 0 0] := Blk.new w3 37 #[.slice none 0 0]
  have g4 : RowC (w3.alloc (.cells #[.slice none 0 0] 37)) g mm := (hg.keep (F := fun _ => False) (Keep.ofBelow hb3) (fun h => h)).keep (F := fun _ => False) ((Keep.refl _ _).alloc (.cells #[.slice none 0 0] 37)) (fun h => h)
  have bB : Below w.heap.size w (w3.alloc (.cells #[.slice none 0 0] 37)) := bA.trans (((Below.refl _ w3).alloc (Nat.le_refl _) (.cells #[.slice none 0 0] 37)).mono bA.size)
  have s4 : (w3.alloc (.cells #[.slice none 0 0] 37)).heap.size = w3.heap.size + 1 := by rw [World.size_alloc]
  generalize w3.alloc (.cells #[.slice none 0 0] 37) = w4 at *
  rw [← s4]
  replace s4 : w3.heap.size < w4.heap.size := by omega
  generalize hV : ((w4.alloc _).alloc _) = V
  have bV : Below w4.heap.size w4 V := by rw [← hV]; go_grown
  have sV : V.heap.size = w4.heap.size + 2 := by rw [← hV]; simp
  have lV : Blk V w4.heap.size 170 (stockCs C m) := by rw [← hV]; exact (Blk.new w4 _ _).alloc _
  have rV : Blk V (w4.heap.size + 1) 38 #[.slice (some ⟨g, 0, none⟩) mm.length cap] := by rw [← hV]; exact blk_two w4 _ _ _
  clear hV
  have gV := g4.keep (F := fun _ => False) (Keep.ofBelow bV) (fun h => h)
  have aV := aL.below bV aL.lt
  have bwV : Below w.heap.size w V := bB.trans (bV.mono bB.size)
  have hgl : g < w3.heap.size := by omega
  have hww3 := bA.size
  have h3V : w3.heap.size < w4.heap.size := by omega
  have h4V : w4.heap.size + 1 < V.heap.size := by omega
  clear sV
  clear c0 c1 c2 m0 m2 m3 m4 g4 aL hg bW hb2 hb3 bA
  refine wpIn_range_ownZ hro h1 (gf := 202) (lb := #[pV w4.heap.size, pV (w4.heap.size + 1)]) rfl trivial (enters_of Tryz.func202 (by kernel_rfl) rfl)
    (encs := fun t : Int => #[.int .i64 t]) (xs := l) (Qb := fun i => i = w3.heap.size ∨ V.heap.size + 3 ≤ i) (Z := fun i => i = V.heap.size + 2) (fun i e => by omega) (fun i e => by omega)
    (pcont1_own (n - 1) (by omega) C m mm l g cap w4.heap.size (w4.heap.size + 1) _ V HM.out HC.out lV rV gV (by omega) (by omega) (by omega) (by omega)) (fun _ => rfl)
    (fun pre W => ∃ u, Blk W w3.heap.size 37 #[u] ∧ W.ownsRow (V.heap.size + 3) 3 1 u pre.length (pre.map (.int .i64)) ∧ Below w.heap.size w W)
    (fun s A A' ⟨u, i1, i2, i3⟩ hk => ⟨u, i1.keep hk (by omega), own_keepL i2 hk (fun g hg _ => by omega), i3.trans (hk.below i3.size (fun i hi h => by have := bwV.size; omega))⟩)
    ⟨_, aV, World.ownsRow_nil _ _ _ _, bwV⟩
    (fun x a' W => a' = { tmps := #[cellsV C, mapV m, undef, .pointer (some ⟨w.heap.size, 0, none⟩), .slice none 0 0, .slice (some ⟨g, 0, none⟩) mm.length cap, .pointer (some ⟨w3.heap.size, 0, none⟩), .int .i64 x, cellsV C, .slice (some ⟨g, 0, none⟩) mm.length cap, .slice (some ⟨g, 0, none⟩) mm.length cap, .int .i64 (mm.length : Int), mapV m, .bool true, .bool false, cellsV C, mapV m, stockV C m, .slice (some ⟨g, 0, none⟩) mm.length cap, cloV 202 #[pV w4.heap.size, pV (w4.heap.size + 1)], .int .i64 x, undef, undef, undef, undef, undef], defers := [] })
    (fun x a' A A' h _ => h)
    ?assign ?body ?done
  case assign =>
    rintro pre x W K hI hsz hK
    gi_wp2
    exact hK _ _ (Below.refl _ W) rfl
  case body =>
    rintro pre x a' W ⟨u, bA, hrow, hb⟩ rfl hsz hlen hz
    have hz2 := hz _ rfl
    have hpl : pre.length < 32767 := by
      have h1 := nodup_len0 HC.out.nodup HC.out.low
      have h2 := HM.out.n
      omega
    have cF := bA.cell 0 _ rfl
    have fF := bA.free 0
    have HCM := Lib.hid (show (pre ++ [x]).map (Value.int .i64) = pre.map (Value.int .i64) ++ [.int .i64 x] by simp)
    have hsl : ∃ ua ul uc, u = .slice ua ul uc := by
      rcases hrow.2 with ⟨rfl, _⟩ | ⟨g, cap, cur, rfl, _⟩
      · exact ⟨_, _, _, rfl⟩
      · exact ⟨_, _, _, rfl⟩
    obtain ⟨ua, ul, uc, rfl⟩ := hsl
    have hgb : ∀ g', (Value.slice ua ul uc).ownBlock = some g' → V.heap.size + 3 ≤ g' := fun g' hg' => by
      rcases hrow.2 with ⟨e, _⟩ | ⟨g2, cap2, cur, e, h2, _⟩
      · rw [e] at hg'; cases hg'
      · rw [e] at hg'
        obtain rfl : g2 = g' := by simpa [Value.ownBlock] using hg'
        exact h2
    have hsb := hb.size
    gi_wp2_with (gi_at_builtin; refine wpListIn_append_own _ rfl _ _ 37 rfl (V.heap.size + 3) 3 i0 (.int .i64 0) 1 8 Tryz.underlying37 hi hz0 hz1 hz2' rfl (by decide) _ _ _ rfl (own_keepL hrow ((Keep.refl (fun _ => False) W).alloc _) (fun _ _ _ h => h)) ⟨W.heap.size, 0, none⟩ 1 1 [.int .i64 x] rfl rfl (cell_one_new _ _ _) (by simp [Value.oneCell']) (by unfold maxLen; omega) (by omega) (by rw [World.size_alloc]; omega) ?_; intro v' w6 hown' hgrow _; obtain ⟨g', cap', rfl⟩ := ownsRow_succ hown'; have k6 : Keep (fun b => V.heap.size + 3 ≤ b) W w6 := ⟨hgrow.os, hgrow.tape, hgrow.output, Nat.le_trans (by rw [World.size_alloc]; omega) hgrow.size, fun k hk hn => (hgrow.block k (by rw [World.size_alloc]; omega) (fun e => hn (hgb k e.symm))).trans (Below.heap_alloc W _ k hk)⟩; have bA6 := bA.keep k6 (by omega); have c9 := bA6.cell 0 _ rfl; have f9 := bA6.free 0)
    refine ⟨⟨_, bA6.set 0 _, ?_, ?_⟩, ?_⟩
    · have hkk := own_keepL hown' ((Keep.refl (fun b => b = w3.heap.size) w6).set (p := ⟨w3.heap.size, 0, none⟩) (fun _ => rfl) (.slice (some ⟨g', 0, none⟩) (pre.length + 1) cap')) (fun g hg _ => by omega)
      first
        | exact hkk
        | (rw [← HCM.out] at hkk; exact hkk)
        | simpa using hkk
    · exact (hb.trans (k6.below hsb (fun i hi h => by have := bwV.size; omega))).setCell (p := ⟨w3.heap.size, 0, none⟩) (by omega) _
    · exact (k6.mono (fun _ _ h => .inr h)).set (p := ⟨w3.heap.size, 0, none⟩) (fun _ => .inl rfl) _
  case done =>
    rintro W ⟨u, bA, hrow, hb⟩ hsz hK
    have cF := bA.cell 0 _ rfl
    obtain ⟨ua, ul, uc, rfl⟩ : ∃ ua ul uc, u = .slice ua ul uc := by
      rcases hrow.2 with ⟨rfl, _⟩ | ⟨g, cap, cur, rfl, _⟩
      · exact ⟨_, _, _, rfl⟩
      · exact ⟨_, _, _, rfl⟩
    gi_wp2
    refine ⟨by simp, .inl ⟨_, _, rfl, run_takeDeferred hK, ?_⟩⟩
    have k1 := keep_put (W := W) (l := V.heap.size) (.deferred none)
    have hr2 := own_keepL hrow k1 (fun g hg _ => by omega)
    have hsb := hb.size
    refine ⟨_, results_tmp rfl _ _ _, _, rfl, ?_, hb.trans (k1.below hsb (fun i _ e => by have := bwV.size; omega))⟩
    rcases id hr2.2 with ⟨e, h0⟩ | ⟨g', cap', cur, e, h1, h2, h3, _⟩
    · rw [e]
      have hl0 : l = [] := List.length_eq_zero_iff.1 h0
      subst hl0
      exact ⟨none, 0, rfl, by simp, fun i x hx => by simp at hx⟩
    · rw [e] at hr2 ⊢
      refine ⟨some ⟨g', 0, none⟩, cap', rfl, h3, fun i x hx => ⟨g', 0, rfl, by have := bwV.size; omega, (Array.getElem?_eq_some_iff.1 h2).1, ?_⟩⟩
      have := hr2.cells (g := g') rfl i (.int .i64 x) (by rw [List.getElem?_map, hx]; rfl)
      rwa [addr_add] at this
theorem free_any (C S : Nat) (m : Mp) (mm l : List Int) (k0 : Int) (w : World) (hm : m.ok) (hC : CellsAt w C S mm k0) (hc : Came m mm l) :
    Calls Tryz.prog 39 #[cellsV C, mapV m] w fun e w' => ∃ v, e = .returned v ∧ RowN w' (fun b => w.heap.size ≤ b) v l ∧ Below w.heap.size w w' :=
  callsIn_wide.1 (free_in 3 (Nat.le_refl _) C S m mm l k0 w hm hC hc)
end Go.Proofs.YtldofbkjjmnooaaGreat
/- Layer 11's laws: the pool in cells, and what is done with it, step by step. -/
namespace Go.Proofs.YtldofbkjjmnooaaGreat
open Go.ChangeShapes Go.WideShapes Go.ChangeAt Go.RowKit
set_option linter.unusedVariables false
set_option maxRecDepth 100000
set_option linter.unusedSimpArgs false
theorem rdL_eq {mm : List Int} {i : Nat} {c : Int} (h : mm[i]? = some c) : rdL mm i = c := by unfold rdL; rw [h]; rfl
theorem PIs.came {m : Mp} {mm L : List Int} (h : PIs m mm L) (hr : Rng mm) : Came m mm L := by
  refine ⟨h.len, hr, fun k x hx => ?_, h.nodup, h.low, ?_⟩
  · have hxr := h.low x (List.mem_of_getElem? hx)
    obtain ⟨hlt, e⟩ := List.getElem?_eq_some_iff.1 hx
    have e0 : headOf (L.drop k) = x + 1 := by rw [List.drop_eq_getElem_cons hlt, e]; rfl
    unfold curP
    cases k with
    | zero =>
      rw [List.take_zero, curV_nil, rdL_eq h.head]
      rw [List.drop_zero] at e0
      rw [e0, pmS_of (by omega)]
      omega
    | succ k =>
      have hy : L[k]? = some L[k] := List.getElem?_eq_getElem (by omega)
      rw [take_snoc_w hy, curV_snoc, rdL_eq (h.next k _ hy), e0, pmS_of (by omega)]
      omega
  · left
    unfold curP
    rcases List.eq_nil_or_concat L with e | ⟨r, x, e⟩
    · rw [e, curV_nil, rdL_eq h.head, e]
      rw [pmS_of (by simp [headOf])]
      simp [headOf]
    · rw [List.concat_eq_append] at e
      have hx : L[r.length]? = some x := by rw [e]; simp
      have := h.next _ x hx
      rw [List.drop_eq_nil_of_le (by rw [e]; simp)] at this
      rw [e, curV_snoc, rdL_eq this, pmS_of (by simp [headOf])]
      simp [headOf]
/-- cells of the law's own, with a pool -/
structure PW (w : World) (C S : Nat) (m : Mp) (mm : List Int) (n : Int) (L : List Int) (G : Int → Int) : Prop where
  cells : CellsAt w C S mm n
  pool : PFree m mm L
  gen : ∀ k : Int, 0 ≤ k → k < m.n → mm[genN m k]? = some (G k)
  rng : Rng mm
  size : mm.length = sizeN m
theorem PW.below {w w1 : World} {C S : Nat} {m : Mp} {mm : List Int} {n : Int} {L : List Int} {G : Int → Int} (h : PW w C S m mm n L G) (hb : Below w.heap.size w w1) : PW w1 C S m mm n L G :=
  ⟨h.cells.keep (Keep.ofBelow (Q := fun _ => False) hb) (fun h => h) (fun h => h), h.pool, h.gen, h.rng, h.size⟩
/-- after a call -/
def AftP (w w' : World) (C S : Nat) (m : Mp) (b : Int) (L : List Int) (G : Int → Int) : Prop := (∃ mm' n', PW w' C S m mm' n' L G ∧ 0 ≤ n' ∧ n' ≤ b + 10) ∧ Keep (ofCells C S) w w'
theorem layL_rng {m : Mp} {mm : List Int} (hm : m.n ≤ 4096) (h : Rng mm) : Rng (layL m mm) := by
  have hb : ∀ j, j ≤ m.n → 0 ≤ bhN m.n j ∧ bhN m.n j < 18446744073709551616 := fun j hj => by
    unfold bhN
    split <;> omega
  have hg : ∀ j, j ≤ m.n → Rng (layGo m mm j) := by
    intro j
    induction j with
    | zero => exact fun _ => h
    | succ j ih => exact fun hj => (ih (by omega)).set _ (hb j (by omega))
  exact (hg _ (Nat.le_refl _)).set 1 (hb _ (Nat.le_refl _))
theorem rng_zeros (k : Nat) : Rng (List.replicate k 0) := fun i c hc => by
  have := List.mem_of_getElem? hc
  rw [List.eq_of_mem_replicate this]
  omega
theorem layL_pfree {m : Mp} {k : Nat} (hs : sizeN m ≤ k) : PFree m (layL m (List.replicate k 0)) (upL m.n) := by
  refine ⟨layL_pis m _ (by simpa using hs), ?_⟩
  rw [layL_latch]
  rw [List.getElem?_replicate]
  rw [if_pos (by unfold sizeN at hs; omega)]
theorem layL_gens {m : Mp} {k : Nat} (hs : sizeN m ≤ k) : ∀ j : Int, 0 ≤ j → j < m.n → (layL m (List.replicate k 0))[genN m j]? = some 0 := fun j h1 h2 => by
  rw [layL_gen m _ j h1, List.getElem?_replicate, if_pos (by have := genN_lt (m := m) ⟨h1, h2⟩; omega)]
theorem vlaid (n : Nat) (w : World) (hn : n ≤ 4096) {nI : Int} (hI : nI = n) :
    Calls Tryz.prog 109 #[.int .i64 nI] w fun e w' => ∃ C S mm, e = .returned (.tuple #[cellsV C, lawV n]) ∧ PW w' C S (lawM n) mm (n + 1) (upL n) (fun _ => 0) ∧ Below w.heap.size w w' ∧ w.heap.size ≤ C ∧ w.heap.size ≤ S := by
  refine (laid_any n w hn hI).mono ?_
  rintro e w' ⟨C, S, rfl, h1, h2, h3, h4⟩
  exact ⟨C, S, _, rfl, ⟨h1, layL_pfree (m := lawM n) (Nat.le_refl _), layL_gens (m := lawM n) (Nat.le_refl _), layL_rng (m := lawM n) hn (rng_zeros _), by rw [layL_len]; simp⟩, h2, h3, h4⟩
section
variable {w : World} {C S : Nat} {m : Mp} {mm : List Int} {n : Int} {L : List Int} {G : Int → Int}
theorem qtake (hm : m.ok) (t : Int) (ht : 0 ≤ t) (h : PW w C S m mm n L G) :
    Calls Tryz.prog 34 #[cellsV C, mapV m, .int .i64 t] w fun e w' => ∃ k, e = .returned (pV k) ∧ MadeT (cellOps C 0) w (fun b => w.heap.size ≤ b) (takeT m t) k w' := vtake hm t ht h.pool.pool.len h.cells
theorem qback (hm : m.ok) (t x : Int) (ht : 0 ≤ t) (hx : 0 ≤ x ∧ x < m.n) (h : PW w C S m mm n L G) :
    Calls Tryz.prog 35 #[cellsV C, mapV m, .int .i64 t, .int .i64 x] w fun e w' => ∃ k, e = .returned (pV k) ∧ MadeT (cellOps C 0) w (fun b => w.heap.size ≤ b) (backT m t x) k w' := vback hm t x ht hx h.pool.pool.len h.cells
theorem SameGen.gen {mm' : List Int} (h : SameGen m mm mm') (hg : ∀ k : Int, 0 ≤ k → k < m.n → mm[genN m k]? = some (G k)) : ∀ k : Int, 0 ≤ k → k < m.n → mm'[genN m k]? = some (G k) := fun k h1 h2 => (h.2 k h1).trans (hg k h1 h2)
/-- what comes of them -/
theorem rtake (b : Int) {x : Int} {r : List Int} (hm : m.ok) (t : Int) (ht : 0 ≤ t ∧ t ≤ 100) (h : PW w C S m mm n (x :: r) G) (h0 : 0 ≤ n ∧ n ≤ b) (hb : b ≤ 900000) (k : Nat) (w1 : World) (hM : MadeT (cellOps C 0) w (fun b => w.heap.size ≤ b) (takeT m t) k w1) :
    Calls Tryz.prog 111 #[pV k, .int .i64 9] w1 fun e w' => e = .returned (.int .i64 x) ∧ AftP w w' C S m b r G := by
  obtain ⟨mm', hG, h1, h2, h3⟩ := goes_take hm.n h.pool ⟨ht.1, by omega⟩
  refine (prun_any h.cells hM hG (by omega : 5 ≤ 9) (by omega) ⟨h0.1, by omega⟩ (mI := 9) rfl).mono ?_
  rintro e w' ⟨rfl, g1, g2⟩
  exact ⟨rfl, ⟨mm', _, ⟨g1, h1, h2.gen h.gen, h3 h.rng, h2.1.trans h.size⟩, by omega, by omega⟩, g2⟩
theorem rnone (b : Int) (hm : m.ok) (t : Int) (ht : 0 ≤ t ∧ t ≤ 100) (h : PW w C S m mm n [] G) (h0 : 0 ≤ n ∧ n ≤ b) (hb : b ≤ 900000) (k : Nat) (w1 : World) (hM : MadeT (cellOps C 0) w (fun b => w.heap.size ≤ b) (takeT m t) k w1) :
    Calls Tryz.prog 111 #[pV k, .int .i64 9] w1 fun e w' => e = .returned (.int .i64 (-1)) ∧ AftP w w' C S m b [] G := by
  obtain ⟨mm', hG, h1, h2, h3⟩ := goes_none h.pool ⟨ht.1, by omega⟩
  refine (prun_any h.cells hM hG (by omega : 3 ≤ 9) (by omega) ⟨h0.1, by omega⟩ (mI := 9) rfl).mono ?_
  rintro e w' ⟨rfl, g1, g2⟩
  exact ⟨rfl, ⟨mm', _, ⟨g1, h1, h2.gen h.gen, h3 h.rng, h2.1.trans h.size⟩, by omega, by omega⟩, g2⟩
theorem rback (b : Int) (hm : m.ok) (t x : Int) (ht : 0 ≤ t ∧ t ≤ 100) (hx : 0 ≤ x ∧ x < m.n) (hL : x ∉ L) (hg : 0 ≤ G x ∧ G x < 4095) (h : PW w C S m mm n L G) (h0 : 0 ≤ n ∧ n ≤ b) (hb : b ≤ 900000) (k : Nat) (w1 : World) (hM : MadeT (cellOps C 0) w (fun b => w.heap.size ≤ b) (backT m t x) k w1) :
    Calls Tryz.prog 111 #[pV k, .int .i64 9] w1 fun e w' => e = .returned (.int .i64 1) ∧ AftP w w' C S m b (x :: L) G := by
  obtain ⟨mm', hG, h1, h2, h3⟩ := goes_back hm.n h.pool ⟨ht.1, by omega⟩ hx hL (h.gen x hx.1 hx.2) hg
  refine (prun_any h.cells hM hG (by omega : 6 ≤ 9) (by omega) ⟨h0.1, by omega⟩ (mI := 9) rfl).mono ?_
  rintro e w' ⟨rfl, g1, g2⟩
  exact ⟨rfl, ⟨mm', _, ⟨g1, h1, h2.gen h.gen, h3 h.rng, h2.1.trans h.size⟩, by omega, by omega⟩, g2⟩
theorem rlast (b : Int) (hm : m.ok) (t x : Int) (ht : 0 ≤ t ∧ t ≤ 100) (hx : 0 ≤ x ∧ x < m.n) (hg : 4095 ≤ G x ∧ G x ≤ 1000000) (h : PW w C S m mm n L G) (h0 : 0 ≤ n ∧ n ≤ b) (hb : b ≤ 900000) (k : Nat) (w1 : World) (hM : MadeT (cellOps C 0) w (fun b => w.heap.size ≤ b) (backT m t x) k w1) :
    Calls Tryz.prog 111 #[pV k, .int .i64 9] w1 fun e w' => e = .returned (.int .i64 0) ∧ AftP w w' C S m b L G := by
  obtain ⟨mm', hG, h1, h2, h3⟩ := goes_last h.pool ⟨ht.1, by omega⟩ (h.gen x hx.1 hx.2) hg
  refine (prun_any h.cells hM hG (by omega : 3 ≤ 9) (by omega) ⟨h0.1, by omega⟩ (mI := 9) rfl).mono ?_
  rintro e w' ⟨rfl, g1, g2⟩
  exact ⟨rfl, ⟨mm', _, ⟨g1, h1, h2.gen h.gen, h3 h.rng, h2.1.trans h.size⟩, by omega, by omega⟩, g2⟩
theorem vfree (hm : m.ok) (N : Nat) (hN : N = L.length) (h : PW w C S m mm n L G) :
    Calls Tryz.prog 39 #[cellsV C, mapV m] w fun e w' => ∃ a c, e = .returned (.slice a N c) ∧ RowN w' (fun b => w.heap.size ≤ b) (.slice a N c) L ∧ Below w.heap.size w w' := by
  subst hN
  refine (free_any C S m mm L n w hm h.cells (h.pool.pool.came h.rng)).mono ?_
  rintro e w' ⟨v, rfl, hr, hb⟩
  obtain ⟨a, c, rfl, _⟩ := id hr
  exact ⟨a, c, rfl, hr, hb⟩
/-- a generation that is stored -/
theorem vgen (b : Int) (x g : Int) {i : Int} (hi : i = (genN m x : Nat)) (hx : 0 ≤ x ∧ x < m.n) (hg : 0 ≤ g ∧ g ≤ 1000000) (h : PW w C S m mm n L G) (h0 : 0 ≤ n ∧ n ≤ b) (hb : b ≤ 900000) (G' : Int → Int) (hG : ∀ k : Int, 0 ≤ k → k < m.n → G' k = if k = x then g else G k) :
    Calls Tryz.prog 59 #[cellsV C, .int .i64 i, .int .u64 g] w fun e w' => e = .returned (.bool true) ∧ AftP w w' C S m b L G' := by
  subst hi
  refine (store_yes C S mm n (genN m x) _ g w h.cells (h.gen x hx.1 hx.2) h0.1 (by omega)).mono ?_
  rintro e w' ⟨rfl, h1, h2⟩
  have hgn := gen_ne (m := m) (k := x)
  have hlt := (List.getElem?_eq_some_iff.1 (h.gen x hx.1 hx.2)).1
  refine ⟨rfl, ⟨_, n + 1, ⟨h1, ⟨h.pool.pool.set _ g hgn.2 (fun y hy => (linkN_gen (h.pool.pool.low y hy).1 hx.1).symm), by rw [List.getElem?_set_ne hgn.1]; exact h.pool.free⟩, fun k h1 h2 => ?_, h.rng.set _ (by omega), by simpa using h.size⟩, by omega, by omega⟩, h2⟩
  rw [hG k h1 h2]
  by_cases e : k = x
  · subst e
    rw [if_pos rfl, List.getElem?_set_self hlt]
  · rw [if_neg e, List.getElem?_set_ne (fun e2 => e (by unfold genN monN at e2; omega))]
    exact h.gen k h1 h2
end
set_option maxHeartbeats 4000000 in
theorem psame_any (u v : Value) (N N' : Nat → Prop) (l : List Int) (w : World) (hu : RowN w N u l) (hv : RowN w N' v l) (hl : l.length ≤ 100000) :
    Calls Tryz.prog 110 #[u, v] w fun e w' => e = .returned (.bool true) ∧ Below w.heap.size w w' := by
  obtain ⟨a, c, rfl, _, hp⟩ := id hu
  obtain ⟨a', c', rfl, _, hp'⟩ := id hv
  have HP := Lib.hid hp
  have HP' := Lib.hid hp'
  clear hu hv hp hp'
  go_enter Tryz.func110, Tryz.ntmps110
  go_upto_region 4 with fail
  go_loopw [5] (fun vi wr => ∃ I : Nat, I ≤ l.length ∧ vi = .int .i64 (I : Int) ∧ Below w.heap.size w wr)
    (fun vi _ => l.length - (intOf vi).toNat)
  case atStart => exact ⟨0, by omega, rfl, Below.refl _ _⟩
  case round =>
    obtain ⟨I, hI, rfl, hb⟩ := hrel
    by_cases hlt : I < l.length
    · obtain ⟨p, hpi⟩ : ∃ p, l[I]? = some p := ⟨_, List.getElem?_eq_getElem hlt⟩
      obtain ⟨B, o, rfl, _, hB1, c0⟩ := HP.out I p hpi
      obtain ⟨B', o', rfl, _, hB1', d0⟩ := HP'.out I p hpi
      replace c0 := (hb.cell (p := ⟨B, o + I, none⟩) hB1).trans c0
      replace d0 := (hb.cell (p := ⟨B', o' + I, none⟩) hB1').trans d0
      have hix := idx_qints l.length c B o I hlt
      have hix' := idx_qints l.length c' B' o' I hlt
      have hI3 : (I : Int) < (l.length : Int) := by omega
      clear hpi
      go_upto_region 6 with fail
      go_quiet (fail)
      go_wp2
      go_roundw
      case rel => exact ⟨I + 1, by omega, by go_num, bdrewN hb nq⟩
      case measure => simp [intOf]; omega
    · have hIe : I = l.length := by omega
      subst hIe
      go_wp2
      go_ret
      exact ⟨rfl, hb⟩
theorem prow_lit (w : World) (l : List Int) (cs : Array Value) (h : cs = (l.map (Value.int .i64)).toArray) : RowN (w.alloc (.cells cs 3)) (fun b => b = w.heap.size) (.slice (some ⟨w.heap.size, 0, none⟩) l.length l.length) l := by
  subst h
  refine ⟨_, _, rfl, Nat.le_refl _, fun i x hx => ⟨w.heap.size, 0, rfl, rfl, by simp, ?_⟩⟩
  rw [Nat.zero_add]
  exact (Blk.new w 3 _).cell i _ (by rw [List.getElem?_toArray, List.getElem?_map, hx]; rfl)
theorem vsame (v : Value) (l : List Int) (N : Nat → Prop) (w : World) (cs : Array Value) (h : RowN w N v l) (hl : l.length ≤ 100) (hcs : cs = (l.map (Value.int .i64)).toArray) {k : Nat} (hk : k = l.length) :
    Calls Tryz.prog 110 #[v, .slice (some ⟨w.heap.size, 0, none⟩) k k] (w.alloc (.cells cs 3)) fun e w' => e = .returned (.bool true) ∧ Below w.heap.size w w' := by
  subst hk
  have k0 : Keep (fun _ => False) w (w.alloc (.cells cs 3)) := (Keep.refl _ _).alloc _
  refine (psame_any v _ N _ l _ (h.keep k0 (fun _ _ h => h)) (prow_lit w l cs hcs) (by omega)).mono ?_
  rintro e w' ⟨rfl, hb⟩
  exact ⟨rfl, ((Below.refl _ w).alloc (Nat.le_refl _) _).trans (hb.mono (by simp))⟩
/-- Free, of cells that have no such map -/
theorem free_no (cv : Value) (t o k : Int) (w : World) (hA : ∀ W, Below w.heap.size w W → Calls Tryz.prog 17 #[cv] W fun e w' => ∃ a n c, e = .returned (.slice a n c) ∧ Below W.heap.size W w' ∧ ∀ V, Calls Tryz.prog 113 #[.int .i64 (n : Int), .agg #[.int .i64 t, .int .i64 o, .int .i64 k]] V fun e w' => e = .returned (.bool false) ∧ Below V.heap.size V w') :
    Calls Tryz.prog 39 #[cv, .agg #[.int .i64 t, .int .i64 o, .int .i64 k]] w fun e w' => e = .returned (.slice none 0 0) ∧ Below w.heap.size w w' := by
  have HA := Lib.hid hA
  clear hA
  go_enter Tryz.func39, Tryz.ntmps39
  go_upto_region 1 with fail
  generalize hW : (w.alloc _) = W
  have bW : Below w.heap.size w W := by rw [← hW]; go_grown
  have m0 : Blk W w.heap.size 24 #[.int .i64 t, .int .i64 o, .int .i64 k] := by rw [← hW]; exact Blk.new w _ _
  clear hW
  have HA1 := Lib.hid (HA.out W bW)
  clear HA
  go_wp2_with (first
    | (go_at_call 17; (with_reducible refine HA1.out.mono ?_); rintro e w2 ⟨a, n, c, rfl, b2, hR⟩; have HR := Lib.hid hR; have m2 := m0.below b2 m0.lt; have c0 := m2.cell 0 _ rfl; have c1 := m2.cell 1 _ rfl; have c2 := m2.cell 2 _ rfl)
    | (go_at_call 113; (with_reducible refine (HR.out _).mono ?_); rintro e w3 ⟨rfl, b3⟩))
  go_ret
  exact ⟨rfl, bW.trans ((b2.trans (b3.mono b2.size)).mono bW.size)⟩
end Go.Proofs.YtldofbkjjmnooaaGreat
/- PoolShares: the state of its loop. -/
namespace Go.Proofs.YtldofbkjjmnooaaGreat
open Go.ChangeShapes Go.WideShapes Go.ChangeAt Go.RowKit
set_option linter.unusedVariables false
set_option maxRecDepth 100000
set_option linter.unusedSimpArgs false
abbrev ptH (x : Option Nat) : Value := .pointer (x.map fun k => ⟨k, 0, none⟩)
abbrev rowP (l : List (Option Nat)) : Array Value := (l.map ptH).toArray
abbrev rowI (l : List Int) : Array Value := (l.map fun k => Value.int .i64 k).toArray
abbrev rowB (l : List Bool) : Array Value := (l.map fun k => Value.bool k).toArray
theorem rowP_set (l : List (Option Nat)) (t : Nat) (x : Option Nat) : (rowP l).setIfInBounds t (ptH x) = rowP (l.set t x) := by simp [rowP, List.map_set]
theorem rowI_set (l : List Int) (t : Nat) (x : Int) : (rowI l).setIfInBounds t (.int .i64 x) = rowI (l.set t x) := by simp [rowI, List.map_set]
theorem rowB_set (l : List Bool) (t : Nat) (x : Bool) : (rowB l).setIfInBounds t (.bool x) = rowB (l.set t x) := by simp [rowB, List.map_set]
theorem rowP_at {l : List (Option Nat)} {t : Nat} {x : Option Nat} (h : l[t]? = some x) : (rowP l)[t]? = some (ptH x) := by simp [rowP, h]
theorem rowI_at {l : List Int} {t : Nat} {x : Int} (h : l[t]? = some x) : (rowI l)[t]? = some (.int .i64 x) := by simp [rowI, h]
theorem rowB_at {l : List Bool} {t : Nat} {x : Bool} (h : l[t]? = some x) : (rowB l)[t]? = some (.bool x) := by simp [rowB, h]
theorem int_info11 : (Tryz.prog.info? 3).map (fun i => (i.zero, i.size, i.bytes)) = some (some (.int .i64 0), 1, 8) := by kernel_rfl
theorem bool_info11 : (Tryz.prog.info? 4).map (fun i => (i.zero, i.size, i.bytes)) = some (some (.bool false), 1, 1) := by kernel_rfl
theorem makeP (n : Nat) (w : World) (hn : n ≤ 1000) : (Instr.makeSlice 54 (.int .i64 (n : Int)) (.int .i64 (n : Int))).run Tryz.prog w = .ok (.slice (some ⟨w.heap.size, 0, none⟩) n n) (w.alloc (.cells (rowP (List.replicate n none)) 40)) := by
  obtain ⟨i, hi, hz0, hz1, hz2⟩ := info_parts ptask_info
  have h := run_make (P := Tryz.prog) w 54 40 i _ Tryz.underlying54 hi hz0 .i64 .i64 n n (by omega) (by omega) (by rw [hz2]; omega) (by omega)
  have e : madeCells #[Value.pointer none] n = rowP (List.replicate n none) := by
    rw [← Array.toList_inj, toList_madeCells_one]
    simp [rowP]
  rw [h, hz1, Nat.mul_one]
  simp only [Int.toNat_natCast, ← e]
  rfl
theorem makeI (n : Nat) (w : World) (hn : n ≤ 1000) : (Instr.makeSlice 37 (.int .i64 (n : Int)) (.int .i64 (n : Int))).run Tryz.prog w = .ok (.slice (some ⟨w.heap.size, 0, none⟩) n n) (w.alloc (.cells (rowI (List.replicate n 0)) 3)) := by
  obtain ⟨i, hi, hz0, hz1, hz2⟩ := info_parts int_info11
  have h := run_make (P := Tryz.prog) w 37 3 i _ Tryz.underlying37 hi hz0 .i64 .i64 n n (by omega) (by omega) (by rw [hz2]; omega) (by omega)
  have e : madeCells #[Value.int .i64 0] n = rowI (List.replicate n 0) := by
    rw [← Array.toList_inj, toList_madeCells_one]
    simp [rowI]
  rw [h, hz1, Nat.mul_one]
  simp only [Int.toNat_natCast, ← e]
  rfl
theorem makeB (n : Nat) (w : World) (hn : n ≤ 1000) : (Instr.makeSlice 55 (.int .i64 (n : Int)) (.int .i64 (n : Int))).run Tryz.prog w = .ok (.slice (some ⟨w.heap.size, 0, none⟩) n n) (w.alloc (.cells (rowB (List.replicate n false)) 4)) := by
  obtain ⟨i, hi, hz0, hz1, hz2⟩ := info_parts bool_info11
  have h := run_make (P := Tryz.prog) w 55 4 i _ Tryz.underlying55 hi hz0 .i64 .i64 n n (by omega) (by omega) (by rw [hz2]; omega) (by omega)
  have e : madeCells #[Value.bool false] n = rowB (List.replicate n false) := by
    rw [← Array.toList_inj, toList_madeCells_one]
    simp [rowB]
  rw [h, hz1, Nat.mul_one]
  simp only [Int.toNat_natCast, ← e]
  rfl
theorem idxP (n B i : Nat) (h : i < n) : ∀ W, (Instr.indexAt 54 (.slice (some ⟨B, 0, none⟩) n n) (.int .i64 (i : Int))).run Tryz.prog W = .ok (.pointer (some ⟨B, i, none⟩)) W := by
  intro W
  go_simp
theorem idxI (n B i : Nat) (h : i < n) : ∀ W, (Instr.indexAt 37 (.slice (some ⟨B, 0, none⟩) n n) (.int .i64 (i : Int))).run Tryz.prog W = .ok (.pointer (some ⟨B, i, none⟩)) W := by
  intro W
  go_simp
theorem idxB (n B i : Nat) (h : i < n) : ∀ W, (Instr.indexAt 55 (.slice (some ⟨B, 0, none⟩) n n) (.int .i64 (i : Int))).run Tryz.prog W = .ok (.pointer (some ⟨B, i, none⟩)) W := by
  intro W
  go_simp
/-- is it done? -/
def FinP (b : Bool) (T : Tre Itm) : Prop := (b = true ∧ ∃ u, T = retT u) ∨ (b = false ∧ ∃ x κ, T = opT x κ)
theorem finp_ret (u : Int) : FinP true (retT u : Tre Itm) := .inl ⟨rfl, u, rfl⟩
theorem finp_tree (m : Mp) (t : Int) {p : Ph} (h : p.busy = true) : FinP false (p.tree m t) := by
  refine .inr ⟨rfl, ?_⟩
  cases p with
  | idle => cases h
  | hold x => cases h
  | tw => exact ⟨_, _, takeT_eq m t⟩
  | bw x => exact ⟨_, _, backT_eq m t x⟩
  | _ => exact ⟨_, _, rfl⟩
theorem pdone {n0 : Nat} {X : Nat → Prop} {w : World} {C S t : Nat} {m : List Int} {n : Int} {τ : Nat → Option (Nat × Tre Itm)} {T : Tre Itm} (b : Bool) (k : Nat) (h : Wld n0 X w C S m n τ) (hτ : τ k = some (t, T)) (hb : FinP b T) : Calls Tryz.prog 38 #[pV t] w fun e w' => e = .returned (.bool b) ∧ w = w' := by
  rcases hb with ⟨rfl, u, rfl⟩ | ⟨rfl, x, κ, rfl⟩
  · exact wdone_ret k h hτ
  · exact wdone_op k h hτ
theorem pstep {n0 : Nat} {X : Nat → Prop} {w : World} {C S t : Nat} {m m' : List Int} {n v : Int} {o : Bool} {τ : Nat → Option (Nat × Tre Itm)} {x : Itm} {κ : Int → Tre Itm} {T T' : Tre Itm} (k : Nat) (h : Wld n0 X w C S m n τ) (hτ : τ k = some (t, T)) (hT0 : T = opT x κ) (hk : x.kind < 5) (hn : 0 ≤ n ∧ n ≤ 2000000) (ho : operS m x = (m', v, o)) (hc : countS m x = 1) (hT : κ v = T') :
    Calls Tryz.prog 37 #[pV t, .int .i64 0] w fun e w' => e = .returned (.bool true) ∧ Wld n0 X w' C S m' (n + 1) (upd τ k (some (t, T'))) ∧ Keep (fun b => n0 ≤ b ∧ ¬ X b) w w' := by
  subst hT0
  have := wstep k h hτ hk hn
  rw [ho, hc] at this
  subst hT
  exact this
theorem set_same3 {α : Type} {l : List α} {t : Nat} {x : α} (h : l[t]? = some x) : l.set t x = l := by
  apply List.ext_getElem?
  intro j
  have hl := (List.getElem?_eq_some_iff.1 h).1
  by_cases e : t = j
  · subst e; rw [List.getElem?_set_self hl, h]
  · rw [List.getElem?_set_ne e]
/-- where all lies -/
structure G3 where
  n0 : Nat
  M : Nat
  C : Nat
  S : Nat
  Y : Nat
  A : Nat
  H : Nat
  D : Nat
  E : Nat
  n : Nat
  Lb : Nat
  cap : Nat
  a : Option Addr
  m : Mp
abbrev G3.X (g : G3) : Nat → Prop := fun b => b = g.M ∨ b = g.Y ∨ b = g.A ∨ b = g.H ∨ b = g.D ∨ b = g.E
abbrev hasU (U : List (Nat × Ph)) : List Int := U.map fun y => y.2.has
abbrev doneU (U : List (Nat × Ph)) : List Int := U.map fun y => (y.1 : Int)
structure L3 (g : G3) (w : World) (U : List (Nat × Ph)) (TA : List (Option Nat)) (o : Option Nat) (mm L : List Int) (EM : List Bool) (j : Nat) (τ : Nat → Option (Nat × Tre Itm)) (nn : Int) : Prop where
  wld : Wld g.n0 g.X w g.C g.S mm nn τ
  bm : Blk w g.M 24 #[.int .i64 (g.m.t : Int), .int .i64 (g.m.o : Int), .int .i64 (g.m.n : Int)]
  ba : Blk w g.A 40 (rowP TA)
  bh : Blk w g.H 3 (rowI (hasU U))
  bd : Blk w g.D 3 (rowI (doneU U))
  be : Blk w g.E 4 (rowB EM)
  bY : Blk w g.Y 53 (turnsV g.a g.Lb g.cap g.n j)
  bytes : BytesAt w g.n0 g.a g.Lb
  ne : g.M < g.Y ∧ g.Y < g.A ∧ g.A < g.H ∧ g.H < g.D ∧ g.D < g.E
  low : g.n0 ≤ g.M
  len : TA.length = g.n
  lene : EM.length = g.n
  sm : 1 ≤ g.n ∧ g.n ≤ 5 ∧ g.Lb ≤ 200
  mok : g.m.ok
  cnt : 0 ≤ nn ∧ nn ≤ j + 100
  msz : mm.length = sizeN g.m
  inv : InvP g.m g.n U o mm L EM
  ta : ∀ (t k : Nat), TA[t]? = some (some k) → ∃ (d : Nat) (p : Ph), U[t]? = some (d, p) ∧ p.busy = true ∧ τ t = some (k, p.tree g.m t)
  tn : ∀ (t d : Nat) (p : Ph), TA[t]? = some none → U[t]? = some (d, p) → p.busy = false
section
variable {g : G3} {w w1 : World} {U : List (Nat × Ph)} {TA : List (Option Nat)} {o : Option Nat} {mm L : List Int} {EM : List Bool} {j : Nat} {τ : Nat → Option (Nat × Tre Itm)} {nn : Int}
theorem L3.next (h : L3 g w U TA o mm L EM j τ nn) (hj : j ≤ 100000) :
    Calls Tryz.prog 33 #[pV g.Y] w fun e w' => ∃ t : Nat, e = .returned (.int .i64 (t : Int)) ∧ t < g.n ∧ (g.Lb ≤ j → t = (j + 1) % g.n) ∧ L3 g w' U TA o mm L EM (j + 1) τ nn ∧ Below g.n0 w w' := by
  have hlo := h.low
  have hne := h.ne
  have hlt := h.wld.lo.2.2
  refine (turn_any g.Y g.n j g.Lb g.cap g.n0 g.a w h.bY h.bytes (by omega) ⟨h.sm.1, by have := h.sm.2.1; omega⟩ hj h.sm.2.2).mono ?_
  rintro e w' ⟨t, rfl, h1, h2, h3, hk⟩
  exact ⟨t, rfl, h1, h2, ⟨h.wld.keep hk (fun b hb => .inr (.inl hb)), h.bm.keep hk (by omega), h.ba.keep hk (by omega), h.bh.keep hk (by omega), h.bd.keep hk (by omega), h.be.keep hk (by omega), h3, h.bytes.keep hk (fun b hb => by omega), h.ne, h.low, h.len, h.lene, h.sm, h.mok, ⟨h.cnt.1, by have := h.cnt.2; omega⟩, h.msz, h.inv, h.ta, h.tn⟩, hk.below hlt (fun b _ hb => by omega)⟩
theorem L3.below (h : L3 g w U TA o mm L EM j τ nn) (hb : Below w.heap.size w w1) : L3 g w1 U TA o mm L EM j τ nn := by
  have hk : Keep (fun _ => False) w w1 := Keep.ofBelow hb
  exact ⟨h.wld.below hb, h.bm.keep hk id, h.ba.keep hk id, h.bh.keep hk id, h.bd.keep hk id, h.be.keep hk id, h.bY.keep hk id, h.bytes.keep hk (fun _ h => h.elim), h.ne, h.low, h.len, h.lene, h.sm, h.mok, h.cnt, h.msz, h.inv, h.ta, h.tn⟩
/-- a task was made for a thread, by one call or by two; and its row of the empty ones is false -/
theorem L3.make {t k d : Nat} {p p' : Ph} {em : Bool} (h : L3 g w U TA o mm L EM j τ nn) (hk : Keep (fun b => b = g.A ∨ b = g.E) w w1) (hW : Wld g.n0 g.X w1 g.C g.S mm nn (upd τ t (some (k, p'.tree g.m t)))) (hA : Blk w1 g.A 40 (rowP (TA.set t (some k)))) (hE : Blk w1 g.E 4 (rowB (EM.set t em)))
    (hU : U[t]? = some (d, p)) (hd : d < 3) (hn : TA[t]? = some none) (hp : (p = .idle ∧ p' = .tw) ∨ ∃ x, p = .hold x ∧ p' = .bw x) : L3 g w1 (U.set t (d, p')) (TA.set t (some k)) o mm L (EM.set t em) j (upd τ t (some (k, p'.tree g.m t))) nn := by
  have hne := h.ne
  have hlo := h.low
  have htl : t < U.length := (List.getElem?_eq_some_iff.1 hU).1
  obtain ⟨q1, q2, q3, q4, q5⟩ : p.inn = false ∧ p'.inn = false ∧ p'.held = p.held ∧ p'.has = p.has ∧ p'.busy = true := by
    rcases hp with ⟨rfl, rfl⟩ | ⟨x, rfl, rfl⟩ <;> exact ⟨rfl, rfl, rfl, rfl, rfl⟩
  have e1 : hasU (U.set t (d, p')) = hasU U := by
    rw [show hasU (U.set t (d, p')) = (hasU U).set t p'.has by simp [hasU, List.map_set]]
    exact set_same3 (by simp [hasU, hU, q4])
  have e2 : doneU (U.set t (d, p')) = doneU U := by
    rw [show doneU (U.set t (d, p')) = (doneU U).set t (d : Int) by simp [doneU, List.map_set]]
    exact set_same3 (by simp [doneU, hU])
  refine ⟨hW, h.bm.keep hk (by omega), hA, by rw [e1]; exact h.bh.keep hk (by omega), by rw [e2]; exact h.bd.keep hk (by omega), hE, h.bY.keep hk (by omega), h.bytes.keep hk (fun b hb => by omega), h.ne, h.low, by simpa using h.len, by simpa using h.lene, h.sm, h.mok, h.cnt, h.msz, h.inv.make hU hd q1 q2 q3 (fun u hu => List.getElem?_set_ne (Ne.symm hu)), fun u q hu => ?_, fun u d' p1 hu hy => ?_⟩
  · rcases set_at3 hu with ⟨rfl, e⟩ | ⟨e, hu⟩
    · rw [Option.some.inj e]
      exact ⟨d, p', List.getElem?_set_self htl, q5, upd_same _ _ _⟩
    · obtain ⟨d1, p1, r1, r2, r3⟩ := h.ta u q hu
      exact ⟨d1, p1, by rw [List.getElem?_set_ne (Ne.symm e)]; exact r1, r2, by rw [upd_ne _ _ _ _ e]; exact r3⟩
  · rcases set_at3 hu with ⟨rfl, e⟩ | ⟨e, hu⟩
    · cases e
    · rw [List.getElem?_set_ne (Ne.symm e)] at hy
      exact h.tn u d' p1 hu hy
/-- the rows of the empty ones -/
theorem L3.em {EM' : List Bool} (h : L3 g w U TA o mm L EM j τ nn) (hk : Keep (fun b => b = g.E) w w1) (hE : Blk w1 g.E 4 (rowB EM')) (hl : EM'.length = EM.length) (he : ∀ u : Nat, EM[u]? = some true → EM'[u]? = some true) : L3 g w1 U TA o mm L EM' j τ nn := by
  have hne := h.ne
  have hlo := h.low
  exact ⟨h.wld.keep hk (fun b hb => .inr (.inr (.inr (.inr (.inr hb))))), h.bm.keep hk (by omega), h.ba.keep hk (by omega), h.bh.keep hk (by omega), h.bd.keep hk (by omega), hE, h.bY.keep hk (by omega), h.bytes.keep hk (fun b hb => by omega), h.ne, h.low, h.len, hl.trans h.lene, h.sm, h.mok, h.cnt, h.msz, h.inv.em he, h.ta, h.tn⟩
/-- a step, and its task is not at its end -/
theorem L3.on {t k d : Nat} {p p' : Ph} {o' : Option Nat} {mm' L' : List Int} (h : L3 g w U TA o mm L EM j τ nn) (hk : Keep (fun b => g.n0 ≤ b ∧ ¬ g.X b) w w1) (hW : Wld g.n0 g.X w1 g.C g.S mm' (nn + 1) (upd τ t (some (k, p'.tree g.m t)))) (hU : U[t]? = some (d, p)) (ha : TA[t]? = some (some k)) (hb : p'.busy = true) (hh : p'.has = p.has) (hz : mm'.length = sizeN g.m) (hi : InvP g.m g.n (U.set t (d, p')) o' mm' L' EM) (hnn : nn + 1 ≤ j + 100) :
    L3 g w1 (U.set t (d, p')) TA o' mm' L' EM j (upd τ t (some (k, p'.tree g.m t))) (nn + 1) := by
  have nx : ∀ b, g.X b → ¬ (g.n0 ≤ b ∧ ¬ g.X b) := fun b hb hh => hh.2 hb
  have htl : t < U.length := (List.getElem?_eq_some_iff.1 hU).1
  have e1 : hasU (U.set t (d, p')) = hasU U := by
    rw [show hasU (U.set t (d, p')) = (hasU U).set t p'.has by simp [hasU, List.map_set]]
    exact set_same3 (by simp [hasU, hU, hh])
  have e2 : doneU (U.set t (d, p')) = doneU U := by
    rw [show doneU (U.set t (d, p')) = (doneU U).set t (d : Int) by simp [doneU, List.map_set]]
    exact set_same3 (by simp [doneU, hU])
  refine ⟨hW, h.bm.keep hk (nx _ (.inl rfl)), h.ba.keep hk (nx _ (.inr (.inr (.inl rfl)))), by rw [e1]; exact h.bh.keep hk (nx _ (.inr (.inr (.inr (.inl rfl))))), by rw [e2]; exact h.bd.keep hk (nx _ (.inr (.inr (.inr (.inr (.inl rfl)))))), h.be.keep hk (nx _ (.inr (.inr (.inr (.inr (.inr rfl)))))), h.bY.keep hk (nx _ (.inr (.inl rfl))), h.bytes.keep hk (fun b hb => hb.1), h.ne, h.low, h.len, h.lene, h.sm, h.mok, ⟨by have := h.cnt.1; omega, hnn⟩, hz, hi, fun u q hu => ?_, fun u d' p1 hu hy => ?_⟩
  · by_cases e : u = t
    · subst e
      rw [ha] at hu
      obtain rfl := Option.some.inj (Option.some.inj hu)
      exact ⟨d, p', List.getElem?_set_self htl, hb, upd_same _ _ _⟩
    · obtain ⟨d1, p1, r1, r2, r3⟩ := h.ta u q hu
      exact ⟨d1, p1, by rw [List.getElem?_set_ne (Ne.symm e)]; exact r1, r2, by rw [upd_ne _ _ _ _ e]; exact r3⟩
  · rcases set_at3 hy with ⟨rfl, _⟩ | ⟨e, hy⟩
    · rw [ha] at hu
      cases hu
    · exact h.tn u d' p1 hu hy
/-- a step, and its task is at its end, and the rows say so -/
theorem L3.fin {t k d d' : Nat} {p p' : Ph} {T' : Tre Itm} {o' : Option Nat} {mm' L' : List Int} (h : L3 g w U TA o mm L EM j τ nn) (hk : Keep (fun b => (g.n0 ≤ b ∧ ¬ g.X b) ∨ b = g.A ∨ b = g.H ∨ b = g.D) w w1) (hW : Wld g.n0 g.X w1 g.C g.S mm' (nn + 1) (upd τ t (some (k, T')))) (hU : U[t]? = some (d, p)) (hb : p'.busy = false) (hz : mm'.length = sizeN g.m) (hi : InvP g.m g.n (U.set t (d', p')) o' mm' L' EM) (hnn : nn + 1 ≤ j + 100)
    (bA : Blk w1 g.A 40 (rowP (TA.set t none))) (bH : Blk w1 g.H 3 (rowI ((hasU U).set t p'.has))) (bD : Blk w1 g.D 3 (rowI ((doneU U).set t (d' : Int)))) :
    L3 g w1 (U.set t (d', p')) (TA.set t none) o' mm' L' EM j (upd τ t (some (k, T'))) (nn + 1) := by
  have hne := h.ne
  have hlo := h.low
  have nx : ∀ b, g.X b → b ≠ g.A → b ≠ g.H → b ≠ g.D → ¬ ((g.n0 ≤ b ∧ ¬ g.X b) ∨ b = g.A ∨ b = g.H ∨ b = g.D) := fun b hb h1 h2 h3 hh => by
    rcases hh with hh | hh | hh | hh
    · exact hh.2 hb
    · exact h1 hh
    · exact h2 hh
    · exact h3 hh
  refine ⟨hW, h.bm.keep hk (nx _ (.inl rfl) (by omega) (by omega) (by omega)), bA, by rw [show hasU (U.set t (d', p')) = (hasU U).set t p'.has by simp [hasU, List.map_set]]; exact bH, by rw [show doneU (U.set t (d', p')) = (doneU U).set t (d' : Int) by simp [doneU, List.map_set]]; exact bD, h.be.keep hk (nx _ (.inr (.inr (.inr (.inr (.inr rfl))))) (by omega) (by omega) (by omega)), h.bY.keep hk (nx _ (.inr (.inl rfl)) (by omega) (by omega) (by omega)), h.bytes.keep hk (fun b hb => ?_), h.ne, h.low, by simpa using h.len, h.lene, h.sm, h.mok, ⟨by have := h.cnt.1; omega, hnn⟩, hz, hi, fun u q hu => ?_, fun u d1 p1 hu hy => ?_⟩
  · rcases hb with hb | hb | hb | hb
    · exact hb.1
    all_goals omega
  · rcases set_at3 hu with ⟨rfl, e⟩ | ⟨e, hu⟩
    · cases e
    · obtain ⟨d1, p1, r1, r2, r3⟩ := h.ta u q hu
      exact ⟨d1, p1, by rw [List.getElem?_set_ne (Ne.symm e)]; exact r1, r2, by rw [upd_ne _ _ _ _ e]; exact r3⟩
  · rcases set_at3 hy with ⟨rfl, e⟩ | ⟨e, hy⟩
    · cases e
      exact hb
    · rw [List.getElem?_set_ne (Ne.symm e)] at hu
      exact h.tn u d1 p1 hu hy
/-- its task -/
theorem L3.take (h : L3 g w U TA o mm L EM j τ nn) (t : Nat) : Calls Tryz.prog 34 #[cellsV g.C, mapV g.m, .int .i64 (t : Int)] w fun e w' => ∃ k, e = .returned (pV k) ∧ Wld g.n0 g.X w' g.C g.S mm nn (upd τ t (some (k, takeT g.m t))) ∧ Below w.heap.size w w' := by
  refine (vtake h.mok (t : Int) (by omega) (by rw [h.msz]; exact Nat.le_refl _) h.wld.cells).mono ?_
  rintro e w' ⟨k, rfl, hM⟩
  exact ⟨k, rfl, h.wld.new t hM, hM.2.2⟩
theorem Wld.back {m : Mp} {n0 C S : Nat} {X : Nat → Prop} {mm : List Int} (h : Wld n0 X w C S mm nn τ) (hm : m.ok) (hs : mm.length = sizeN m) (t : Nat) (x : Int) (hx : 0 ≤ x ∧ x < m.n) : Calls Tryz.prog 35 #[cellsV C, mapV m, .int .i64 (t : Int), .int .i64 x] w fun e w' => ∃ k, e = .returned (pV k) ∧ Wld n0 X w' C S mm nn (upd τ t (some (k, backT m t x))) ∧ Below w.heap.size w w' := by
  refine (vback hm (t : Int) x (by omega) hx (by rw [hs]; exact Nat.le_refl _) h.cells).mono ?_
  rintro e w' ⟨k, rfl, hM⟩
  exact ⟨k, rfl, h.new t hM, hM.2.2⟩
end
end Go.Proofs.YtldofbkjjmnooaaGreat
/- PoolShares: its map; what its calls say; the first state. -/
namespace Go.Proofs.YtldofbkjjmnooaaGreat
open Go.ChangeShapes Go.WideShapes Go.ChangeAt Go.RowKit
set_option linter.unusedVariables false
set_option maxRecDepth 100000
set_option linter.unusedSimpArgs false
def shM (n k : Nat) : Mp := ⟨n, 1, k⟩
abbrev shV (n k : Nat) : Value := .agg #[.int .i64 (n : Int), .int .i64 1, .int .i64 (k : Int)]
theorem shV_eq (n k : Nat) : mapV (shM n k) = shV n k := rfl
theorem shM_ok {n k : Nat} (hn : 1 ≤ n ∧ n ≤ 5) (hk : k ≤ 6) : (shM n k).ok := ⟨by show 1 ≤ n ∧ n ≤ 32766; omega, by show 1 ≤ 1 ∧ 1 ≤ 65536; omega, by show k ≤ 4096; omega⟩
theorem shC {w : World} {b n k : Nat} (h : Blk w b 24 #[.int .i64 ((shM n k).t : Int), .int .i64 ((shM n k).o : Int), .int .i64 ((shM n k).n : Int)]) : w.cell? ⟨b, 0, none⟩ = some (.int .i64 (n : Int)) ∧ w.cell? ⟨b, 1, none⟩ = some (.int .i64 1) ∧ w.cell? ⟨b, 2, none⟩ = some (.int .i64 (k : Int)) := ⟨h.cell 0 _ rfl, h.cell 1 _ rfl, h.cell 2 _ rfl⟩
theorem shsize (n k : Nat) (hn : 1 ≤ n ∧ n ≤ 5) (hk : k ≤ 6) (w : World) : Calls Tryz.prog 14 #[shV n k] w fun e w' => e = .returned (.int .i64 (sizeN (shM n k) : Int)) ∧ Below w.heap.size w w' := by
  have := size_any (shM n k) w (shM_ok hn hk)
  rw [shV_eq] at this
  exact this
theorem shhead (n k : Nat) (w : World) : Calls Tryz.prog 36 #[shV n k] w fun e w' => e = .returned (.int .i64 1) ∧ Below w.heap.size w w' := by
  have := head_any (shM n k) w
  rw [shV_eq] at this
  exact this
theorem shnew (N : Nat) (hN : N ≤ 1000) (w : World) : Calls Tryz.prog 13 #[.int .i64 (N : Int)] w fun e w' => ∃ C S, e = .returned (cellsV C) ∧ CellsAt w' C S (List.replicate N 0) 0 ∧ Below w.heap.size w w' ∧ w.heap.size ≤ C ∧ w.heap.size ≤ S := by
  refine (new_some N w (by omega)).mono ?_
  rintro e w' ⟨rfl, h1, h2⟩
  exact ⟨_, _, rfl, h1, h2, by omega, by omega⟩
theorem shlay (C S n k : Nat) (hn : 1 ≤ n ∧ n ≤ 5) (hk : k ≤ 6) (w : World) (hC : CellsAt w C S (List.replicate (sizeN (shM n k)) 0) 0) : Calls Tryz.prog 32 #[cellsV C, shV n k] w fun e w' => e = .returned (.bool true) ∧ CellsAt w' C S (layL (shM n k) (List.replicate (sizeN (shM n k)) 0)) (0 + k + 1) ∧ Keep (ofCells C S) w w' := by
  have := lay_any C S (shM n k) _ 0 w (shM_ok hn hk) hC (by simp) (by omega)
  rw [shV_eq] at this
  exact this
section
variable {g : G3} {w w1 : World} {U : List (Nat × Ph)} {TA : List (Option Nat)} {o : Option Nat} {mm L : List Int} {EM : List Bool} {j n k : Nat} {τ : Nat → Option (Nat × Tre Itm)} {nn : Int}
theorem L3.take' (h : L3 g w U TA o mm L EM j τ nn) (hg : g.m = shM n k) (t : Nat) : Calls Tryz.prog 34 #[cellsV g.C, shV n k, .int .i64 (t : Int)] w fun e w' => ∃ q, e = .returned (pV q) ∧ Wld g.n0 g.X w' g.C g.S mm nn (upd τ t (some (q, takeT g.m t))) ∧ Below w.heap.size w w' := by
  have := h.take t
  rw [hg, shV_eq] at this
  rw [hg]
  exact this
theorem Wld.back' {n0 C S : Nat} {X : Nat → Prop} {mm : List Int} (h : Wld n0 X w C S mm nn τ) (hn : 1 ≤ n ∧ n ≤ 5) (hk : k ≤ 6) (hs : mm.length = sizeN (shM n k)) (t : Nat) (x : Int) (hx : 0 ≤ x ∧ x < k) : Calls Tryz.prog 35 #[cellsV C, shV n k, .int .i64 (t : Int), .int .i64 x] w fun e w' => ∃ q, e = .returned (pV q) ∧ Wld n0 X w' C S mm nn (upd τ t (some (q, backT (shM n k) t x))) ∧ Below w.heap.size w w' := by
  have := h.back (shM_ok hn hk) hs t x hx
  rw [shV_eq] at this
  exact this
theorem L3.free' (h : L3 g w U TA o mm L EM j τ nn) (hg : g.m = shM n k) (N : Nat) (hN : N = L.length) : Calls Tryz.prog 39 #[cellsV g.C, shV n k] w fun e w' => ∃ a c, e = .returned (.slice a N c) ∧ RowN w' (fun b => w.heap.size ≤ b) (.slice a N c) L ∧ Below w.heap.size w w' := by
  subst hN
  have := free_any g.C g.S g.m mm L nn w h.mok h.wld.cells (h.inv.pis.came h.inv.rng)
  rw [hg, shV_eq] at this
  refine this.mono ?_
  rintro e w' ⟨v, rfl, hr, hb⟩
  obtain ⟨a, c, rfl, _⟩ := id hr
  exact ⟨a, c, rfl, hr, hb⟩
theorem L3.all' (h : L3 g w U TA o mm L EM j τ nn) (W : World) (hW : Below w.heap.size w W) : Calls Tryz.prog 17 #[cellsV g.C] W fun e w' => ∃ b cap, e = .returned (.slice (some ⟨b, 0, none⟩) mm.length cap) ∧ w'.cell? ⟨b, 1, none⟩ = some (.int .u64 (headOf L)) ∧ b < w'.heap.size ∧ Below W.heap.size W w' := by
  refine (allR_any g.C g.S mm nn W (h.wld.below hW).cells (fun e => by have := h.msz; rw [e] at this; unfold sizeN at this; simp only [List.length_nil] at this; omega)).mono ?_
  rintro e w' ⟨b, cap, rfl, h1, h2, h4, h3⟩
  exact ⟨b, cap, rfl, h1 1 _ h.inv.pis.head, h4, h3⟩
end
theorem L3.init {g : G3} {wl w0 w1 w2 w3 w4 w5 : World} (hn : 1 ≤ g.n ∧ g.n ≤ 5) (hk : g.m.n ≤ 6) (hg : g.m = shM g.n g.m.n) (hLb : g.Lb ≤ 200) (hC : CellsAt wl g.C g.S (layL g.m (List.replicate (sizeN g.m) 0)) (0 + g.m.n + 1)) (hM : Blk wl g.M 24 #[.int .i64 (g.m.t : Int), .int .i64 (g.m.o : Int), .int .i64 (g.m.n : Int)]) (h0 : g.n0 ≤ g.M ∧ g.M < g.C ∧ g.M < g.S)
    (hby : BytesAt wl g.n0 g.a g.Lb) (bY : Blk w1 g.Y 53 (turnsV g.a g.Lb g.cap g.n 0)) (b1 : Below wl.heap.size wl w1) (hY : g.Y = wl.heap.size)
    (bA : Blk w2 g.A 40 (rowP (List.replicate g.n none))) (b2 : Below w1.heap.size w1 w2) (hA : g.A = w1.heap.size) (b3 : Below w2.heap.size w2 w3) (hH : g.H = w2.heap.size)
    (bD : Blk w4 g.D 3 (rowI (List.replicate g.n 0))) (b4 : Below w3.heap.size w3 w4) (hD : g.D = w3.heap.size) (bE : Blk w5 g.E 4 (rowB (List.replicate g.n false))) (b5 : Below w4.heap.size w4 w5) (hE : g.E = w4.heap.size)
    (k6 : Keep (fun b => b = g.H) w5 w0) (bH : Blk w0 g.H 3 (rowI (List.replicate g.n (-1)))) (hHlt : g.H < w3.heap.size) :
    L3 g w0 (List.replicate g.n (0, .idle)) (List.replicate g.n none) none (layL g.m (List.replicate (sizeN g.m) 0)) (upL g.m.n) (List.replicate g.n false) 0 (fun _ => none) (0 + g.m.n + 1) := by
  have s1 := b1.size
  have s2 := b2.size
  have s3 := b3.size
  have s4 := b4.size
  have s5 := b5.size
  have s6 := k6.size
  have lY := bY.lt
  have lA := bA.lt
  have lD := bD.lt
  have lE := bE.lt
  have lM := hM.lt
  have lC := hC.own.lt
  have lS := hC.row.lt
  have c1 : Below wl.heap.size wl w5 := (((b1.trans (b2.mono s1)).trans (b3.mono (by omega))).trans (b4.mono (by omega))).trans (b5.mono (by omega))
  have kl : Keep (fun b => b = g.H) wl w0 := (Keep.ofBelow c1).trans k6
  have hz : ∀ i, i < sizeN g.m → (List.replicate (sizeN g.m) (0 : Int))[i]? = some 0 := fun i h => by simp [h]
  have hsz2 : 2 ≤ sizeN g.m := by unfold sizeN; omega
  have hmok : g.m.ok := by rw [hg]; exact shM_ok hn hk
  refine ⟨⟨hC.keep kl (by omega) (by omega), ⟨by omega, by omega, by omega⟩, fun b hb => ?_, fun _ => 0, fun k t T e => by cases e⟩, hM.keep kl (by omega), ((((bA.below b3 lA).below b4 (by omega)).below b5 (by omega)).keep k6 (by omega)), by rw [show hasU (List.replicate g.n (0, Ph.idle)) = List.replicate g.n (-1) by simp [hasU, Ph.has]]; exact bH, by rw [show doneU (List.replicate g.n (0, Ph.idle)) = List.replicate g.n 0 by simp [doneU]]; exact (bD.below b5 lD).keep k6 (by omega), bE.keep k6 (by omega), (((bY.below b2 lY).below b3 (by omega)).below b4 (by omega)).below b5 (by omega) |>.keep k6 (by omega), hby.keep kl (fun b hb => by omega), by omega, by omega, by simp, by simp, ⟨hn.1, hn.2, hLb⟩, hmok, by omega, by rw [layL_len]; simp, InvP.new (layL_pis _ _ (by simp)) (layL_rng (Nat.le_trans hk (by omega)) (rng_zeros _)) (by rw [layL_latch]; exact hz 0 (by omega)) (fun k h1 h2 => by rw [layL_gen _ _ _ h1]; exact hz _ (genN_lt ⟨h1, h2⟩)), fun t k h => ?_, fun t d p h hx => ?_⟩
  · rcases hb with rfl | rfl | rfl | rfl | rfl | rfl <;> omega
  · have := List.mem_of_getElem? h
    simp at this
  · have := List.eq_of_mem_replicate (List.mem_of_getElem? hx)
    cases this
    rfl
end Go.Proofs.YtldofbkjjmnooaaGreat
