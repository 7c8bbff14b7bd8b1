/- Package pool: Free. -/
import Derived.Test.YtldofbkjjmnooaaGreatMgGSlQ
import Derived.Test.YtldofbkjjmnooaaGreatMgGSlM
import Derived.Test.YtldofbkjjmnooaaGreatProg
import Derived.Conc.MuLib
import Derived.Conc.MuLone
import Derived.KernelRfl
import Derived.Test.YtldofbkjjmnooaaGreatMgGSlJ
import Derived.Test.YtldofbkjjmnooaaGreatMgGSlF
import Derived.Shelf.SlicesE.Clone
import Derived.Ground.SlgnProg
import Derived.Lib.SliceRun
import Derived.Lib.OwnBridge
namespace Go.Proofs.YtldofbkjjmnooaaGreat
open Go.ChangeShapes Go.WideShapes Go.ChangeAt Go.RowKit Go.Shelf
set_option linter.unusedVariables false
set_option maxRecDepth 100000
set_option linter.unusedSimpArgs false
attribute [local go_sem] Oper.semAt_some
theorem pcont_any (C : Nat) (m : Mp) (sv : Value) (w : World) (hs : ∃ g n cap, sv = .slice (some ⟨g, 0, none⟩) n cap) :
    Calls Tryz.prog 120 #[stockV C m, sv] w fun e w' => e = .returned (cloV 202 #[pV w.heap.size, pV (w.heap.size + 1)]) ∧ w' = (w.alloc (.cells (stockCs C m) 170)).alloc (.cells #[sv] 38) := by
  have hmf : ∀ (fn : Fn) (first cap : Array Value) (w : World), (Instr.makeFunc fn first cap).run Tryz.prog w = .ok (.func fn first cap) w := fun _ _ _ _ => rfl
  obtain ⟨g, n, cap, rfl⟩ := hs
  go_enter Tryz.func120, Tryz.ntmps120
  go_wp2
  go_ret
  exact ⟨rfl, rfl⟩
set_option maxHeartbeats 4000000 in
theorem free_in (n : Nat) (hn : 3 ≤ n) (C S : Nat) (m : Mp) (mm l : List Int) (k0 : Int) (w : World) (hm : m.ok) (hC : CellsAt w C S mm k0) (hc : Came m mm l) :
    CallsIn Fence.wide n Tryz.prog 39 #[cellsV C, mapV m] w fun e w' => ∃ v, e = .returned v ∧ RowN w' (fun b => w.heap.size ≤ b) v l ∧ Below w.heap.size w w' := by
  have h1 : 1 ≤ n := by omega
  have h1' : 1 ≤ n - 1 - 1 := by omega
  have hro : Fence.wide.round = none := rfl
  obtain ⟨i0, hi, hz0, hz1, hz2'⟩ := int_info
  have hfew := hC.few
  have hmm0 : mm ≠ [] := fun e => by have := hc.len; rw [e] at this; unfold sizeN at this; simp at this
  have HA := Lib.hid fun W (hW : Below w.heap.size w W) => allR_any C S mm k0 W (hC.keep (Keep.ofBelow (Q := fun _ => False) hW) (fun h => h) (fun h => h)) hmm0
  have HR := Lib.hid fun W => pright_yes m (mm.length : Int) W hm
  rw [show decide ((sizeN m : Int) ≤ (mm.length : Int)) = true by have := hc.len; simp; omega] at HR
  have HM := Lib.hid hm
  have HC := Lib.hid hc
  clear hC hm hc
  refine callsIn_of_wp_marks Tryz.func39 rfl trivial ?_ hro
  simp only [Tryz.ntmps39, List.size_toArray, List.length_cons, List.length_nil, Nat.reduceAdd, Nat.reduceSub, Array.replicate_succ, Array.replicate_zero, List.push_toArray, List.append_toArray, List.nil_append, List.cons_append]
  gi_wp2
  generalize hW : (w.alloc _) = W
  have bW : Below w.heap.size w W := by rw [← hW]; go_grown
  have m0 : Blk W w.heap.size 24 #[.int .i64 (m.t : Int), .int .i64 (m.o : Int), .int .i64 (m.n : Int)] := by rw [← hW]; exact Blk.new w _ _
  clear hW
  have HA2 := Lib.hid (HA.out W bW)
  clear HA
  gi_wp2_with (first
    | (refine ⟨trivial, ?_⟩; gi_at_call 17; refine (callsIn_wide.2 HA2.out).mono ?_; rintro e w2 ⟨g, cap, rfl, hg, hg1, hg2, hb2⟩; have m2 := m0.below hb2 m0.lt; have c0 := m2.cell 0 _ rfl; have c1 := m2.cell 1 _ rfl; have c2 := m2.cell 2 _ rfl)
    | (refine ⟨trivial, ?_⟩; gi_at_call 113; refine (callsIn_wide.2 (HR.out _)).mono ?_; rintro e w3 ⟨rfl, hb3⟩; clear c0 c1 c2; have m3 := m2.below hb3 m2.lt; have m4 := m3.alloc (.cells #[.slice none 0 0] 37); have c0 := m4.cell 0 _ rfl; have c1 := m4.cell 1 _ rfl; have c2 := m4.cell 2 _ rfl)
    | (refine ⟨trivial, ?_⟩; gi_at_call 120; refine (callsIn_wide.2 (pcont_any C m _ _ ⟨_, _, _, rfl⟩)).mono ?_; rintro e w5 ⟨rfl, rfl⟩))
  have sW := bW.size
  have s2 := hb2.size
  have s3 := hb3.size
  have bA : Below w.heap.size w w3 := (bW.trans (hb2.mono sW)).trans (hb3.mono (by omega))
  have aL : Blk (w3.alloc (.cells #[.slice none 0 0] 37)) w3.heap.size 37 #[.slice none 0 0] := Blk.new w3 37 #[.slice none 0 0]
  have g4 : RowC (w3.alloc (.cells #[.slice none 0 0] 37)) g mm := (hg.keep (F := fun _ => False) (Keep.ofBelow hb3) (fun h => h)).keep (F := fun _ => False) ((Keep.refl _ _).alloc (.cells #[.slice none 0 0] 37)) (fun h => h)
  have bB : Below w.heap.size w (w3.alloc (.cells #[.slice none 0 0] 37)) := bA.trans (((Below.refl _ w3).alloc (Nat.le_refl _) (.cells #[.slice none 0 0] 37)).mono bA.size)
  have s4 : (w3.alloc (.cells #[.slice none 0 0] 37)).heap.size = w3.heap.size + 1 := by rw [World.size_alloc]
  generalize w3.alloc (.cells #[.slice none 0 0] 37) = w4 at *
  rw [← s4]
  replace s4 : w3.heap.size < w4.heap.size := by omega
  generalize hV : ((w4.alloc _).alloc _) = V
  have bV : Below w4.heap.size w4 V := by rw [← hV]; go_grown
  have sV : V.heap.size = w4.heap.size + 2 := by rw [← hV]; simp
  have lV : Blk V w4.heap.size 170 (stockCs C m) := by rw [← hV]; exact (Blk.new w4 _ _).alloc _
  have rV : Blk V (w4.heap.size + 1) 38 #[.slice (some ⟨g, 0, none⟩) mm.length cap] := by rw [← hV]; exact blk_two w4 _ _ _
  clear hV
  have gV := g4.keep (F := fun _ => False) (Keep.ofBelow bV) (fun h => h)
  have aV := aL.below bV aL.lt
  have bwV : Below w.heap.size w V := bB.trans (bV.mono bB.size)
  have hgl : g < w3.heap.size := by omega
  have hww3 := bA.size
  have h3V : w3.heap.size < w4.heap.size := by omega
  have h4V : w4.heap.size + 1 < V.heap.size := by omega
  clear sV
  clear c0 c1 c2 m0 m2 m3 m4 g4 aL hg bW hb2 hb3 bA
  refine wpIn_range_ownZ hro h1 (gf := 202) (lb := #[pV w4.heap.size, pV (w4.heap.size + 1)]) rfl trivial (enters_of Tryz.func202 (by kernel_rfl) rfl)
    (encs := fun t : Int => #[.int .i64 t]) (xs := l) (Qb := fun i => i = w3.heap.size ∨ V.heap.size + 3 ≤ i) (Z := fun i => i = V.heap.size + 2) (fun i e => by omega) (fun i e => by omega)
    (pcont1_own (n - 1) (by omega) C m mm l g cap w4.heap.size (w4.heap.size + 1) _ V HM.out HC.out lV rV gV (by omega) (by omega) (by omega) (by omega)) (fun _ => rfl)
    (fun pre W => ∃ u, Blk W w3.heap.size 37 #[u] ∧ W.ownsRow (V.heap.size + 3) 3 1 u pre.length (pre.map (.int .i64)) ∧ Below w.heap.size w W)
    (fun s A A' ⟨u, i1, i2, i3⟩ hk => ⟨u, i1.keep hk (by omega), own_keepL i2 hk (fun g hg _ => by omega), i3.trans (hk.below i3.size (fun i hi h => by have := bwV.size; omega))⟩)
    ⟨_, aV, World.ownsRow_nil _ _ _ _, bwV⟩
    (fun x a' W => a' = { tmps := #[cellsV C, mapV m, undef, .pointer (some ⟨w.heap.size, 0, none⟩), .slice none 0 0, .slice (some ⟨g, 0, none⟩) mm.length cap, .pointer (some ⟨w3.heap.size, 0, none⟩), .int .i64 x, cellsV C, .slice (some ⟨g, 0, none⟩) mm.length cap, .slice (some ⟨g, 0, none⟩) mm.length cap, .int .i64 (mm.length : Int), mapV m, .bool true, .bool false, cellsV C, mapV m, stockV C m, .slice (some ⟨g, 0, none⟩) mm.length cap, cloV 202 #[pV w4.heap.size, pV (w4.heap.size + 1)], .int .i64 x, undef, undef, undef, undef, undef], defers := [] })
    (fun x a' A A' h _ => h)
    ?assign ?body ?done
  case assign =>
    rintro pre x W K hI hsz hK
    gi_wp2
    exact hK _ _ (Below.refl _ W) rfl
  case body =>
    rintro pre x a' W ⟨u, bA, hrow, hb⟩ rfl hsz hlen hz
    have hz2 := hz _ rfl
    have hpl : pre.length < 32767 := by
      have h1 := nodup_len0 HC.out.nodup HC.out.low
      have h2 := HM.out.n
      omega
    have cF := bA.cell 0 _ rfl
    have fF := bA.free 0
    have HCM := Lib.hid (show (pre ++ [x]).map (Value.int .i64) = pre.map (Value.int .i64) ++ [.int .i64 x] by simp)
    have hsl : ∃ ua ul uc, u = .slice ua ul uc := by
      rcases hrow.2 with ⟨rfl, _⟩ | ⟨g, cap, cur, rfl, _⟩
      · exact ⟨_, _, _, rfl⟩
      · exact ⟨_, _, _, rfl⟩
    obtain ⟨ua, ul, uc, rfl⟩ := hsl
    have hgb : ∀ g', (Value.slice ua ul uc).ownBlock = some g' → V.heap.size + 3 ≤ g' := fun g' hg' => by
      rcases hrow.2 with ⟨e, _⟩ | ⟨g2, cap2, cur, e, h2, _⟩
      · rw [e] at hg'; cases hg'
      · rw [e] at hg'
        obtain rfl : g2 = g' := by simpa [Value.ownBlock] using hg'
        exact h2
    have hsb := hb.size
    gi_wp2_with (gi_at_builtin; refine wpListIn_append_own _ rfl _ _ 37 rfl (V.heap.size + 3) 3 i0 (.int .i64 0) 1 8 Tryz.underlying37 hi hz0 hz1 hz2' rfl (by decide) _ _ _ rfl (own_keepL hrow ((Keep.refl (fun _ => False) W).alloc _) (fun _ _ _ h => h)) ⟨W.heap.size, 0, none⟩ 1 1 [.int .i64 x] rfl rfl (cell_one_new _ _ _) (by simp [Value.oneCell']) (by unfold maxLen; omega) (by omega) (by rw [World.size_alloc]; omega) ?_; intro v' w6 hown' hgrow _; obtain ⟨g', cap', rfl⟩ := ownsRow_succ hown'; have k6 : Keep (fun b => V.heap.size + 3 ≤ b) W w6 := ⟨hgrow.os, hgrow.tape, hgrow.output, Nat.le_trans (by rw [World.size_alloc]; omega) hgrow.size, fun k hk hn => (hgrow.block k (by rw [World.size_alloc]; omega) (fun e => hn (hgb k e.symm))).trans (Below.heap_alloc W _ k hk)⟩; have bA6 := bA.keep k6 (by omega); have c9 := bA6.cell 0 _ rfl; have f9 := bA6.free 0)
    refine ⟨⟨_, bA6.set 0 _, ?_, ?_⟩, ?_⟩
    · have hkk := own_keepL hown' ((Keep.refl (fun b => b = w3.heap.size) w6).set (p := ⟨w3.heap.size, 0, none⟩) (fun _ => rfl) (.slice (some ⟨g', 0, none⟩) (pre.length + 1) cap')) (fun g hg _ => by omega)
      first
        | exact hkk
        | (rw [← HCM.out] at hkk; exact hkk)
        | simpa using hkk
    · exact (hb.trans (k6.below hsb (fun i hi h => by have := bwV.size; omega))).setCell (p := ⟨w3.heap.size, 0, none⟩) (by omega) _
    · exact (k6.mono (fun _ _ h => .inr h)).set (p := ⟨w3.heap.size, 0, none⟩) (fun _ => .inl rfl) _
  case done =>
    rintro W ⟨u, bA, hrow, hb⟩ hsz hK
    have cF := bA.cell 0 _ rfl
    obtain ⟨ua, ul, uc, rfl⟩ : ∃ ua ul uc, u = .slice ua ul uc := by
      rcases hrow.2 with ⟨rfl, _⟩ | ⟨g, cap, cur, rfl, _⟩
      · exact ⟨_, _, _, rfl⟩
      · exact ⟨_, _, _, rfl⟩
    gi_wp2
    refine ⟨by simp, .inl ⟨_, _, rfl, run_takeDeferred hK, ?_⟩⟩
    have k1 := keep_put (W := W) (l := V.heap.size) (.deferred none)
    have hr2 := own_keepL hrow k1 (fun g hg _ => by omega)
    have hsb := hb.size
    refine ⟨_, results_tmp rfl _ _ _, _, rfl, ?_, hb.trans (k1.below hsb (fun i _ e => by have := bwV.size; omega))⟩
    rcases id hr2.2 with ⟨e, h0⟩ | ⟨g', cap', cur, e, h1, h2, h3, _⟩
    · rw [e]
      have hl0 : l = [] := List.length_eq_zero_iff.1 h0
      subst hl0
      exact ⟨none, 0, rfl, by simp, fun i x hx => by simp at hx⟩
    · rw [e] at hr2 ⊢
      refine ⟨some ⟨g', 0, none⟩, cap', rfl, h3, fun i x hx => ⟨g', 0, rfl, by have := bwV.size; omega, (Array.getElem?_eq_some_iff.1 h2).1, ?_⟩⟩
      have := hr2.cells (g := g') rfl i (.int .i64 x) (by rw [List.getElem?_map, hx]; rfl)
      rwa [addr_add] at this
theorem free_any (C S : Nat) (m : Mp) (mm l : List Int) (k0 : Int) (w : World) (hm : m.ok) (hC : CellsAt w C S mm k0) (hc : Came m mm l) :
    Calls Tryz.prog 39 #[cellsV C, mapV m] w fun e w' => ∃ v, e = .returned v ∧ RowN w' (fun b => w.heap.size ≤ b) v l ∧ Below w.heap.size w w' :=
  callsIn_wide.1 (free_in 3 (Nat.le_refl _) C S m mm l k0 w hm hC hc)
end Go.Proofs.YtldofbkjjmnooaaGreat
/- A ground, and one task over it: what a law does with them. -/
namespace Go.Proofs.YtldofbkjjmnooaaGreat
open Go.ChangeShapes Go.WideShapes Go.ChangeAt Go.RowKit
set_option linter.unusedVariables false
set_option maxRecDepth 100000
set_option linter.unusedSimpArgs false
/-- a tree that is done, or ahead of an operation, and notes nothing first -/
def Root {A E : Type} (T : TrE A E) : Prop := (∃ u, T = retE u) ∨ ∃ x k, T = opE x k
theorem Root.em {A E : Type} {T R : TrE A E} {l : List E} (h : Root T) (hR : Root R) (e : T = emE l R) : l = [] ∧ R = T := by
  rcases h with ⟨u, rfl⟩ | ⟨x, k, rfl⟩
  · rcases hR with ⟨v, rfl⟩ | ⟨y, j, rfl⟩
    · obtain ⟨h1, h2⟩ := emE_inj_ret (a := ([] : List E)) (b := l) (u := u) (v := v) (by rw [emE_nil]; exact e)
      exact ⟨h1.symm, by rw [h2]⟩
    · exact (retE_opE (e := ([] : List E)) (f := l) (by rw [emE_nil]; exact e)).elim
  · rcases hR with ⟨v, rfl⟩ | ⟨y, j, rfl⟩
    · exact (retE_opE (e := l) (f := ([] : List E)) (by rw [emE_nil]; exact e.symm)).elim
    · obtain ⟨h1, h2, h3⟩ := emE_inj_op (a := ([] : List E)) (b := l) (x := x) (y := y) (g := k) (h := j) (by rw [emE_nil]; exact e)
      exact ⟨h1.symm, by rw [h2, h3]⟩
theorem itE_root (T : Tre Itm) (h : (∃ u, T = retT u) ∨ ∃ x k, T = opT x k) : Root (itE T) := by
  rcases h with ⟨u, rfl⟩ | ⟨x, k, rfl⟩
  · exact .inl ⟨u, itE_ret u⟩
  · exact .inr ⟨_, _, itE_op x k⟩
/-- all of it lies from n0 on -/
def SL (g : GrP) (m : Mp) (n0 : Nat) (w : World) (s : GS) (t : Nat) (T : TrE GOp Ev) : Prop :=
  ∃ B Q : Nat → Prop, (grH g m).at' w B s ∧ TkE (grH g m) (gOps g m) w t Q T ∧ (∀ b, B b → ¬ Q b) ∧ ∀ b, Q b ∨ B b → n0 ≤ b
section
variable {g : GrP} {m : Mp} {n0 t : Nat} {w w1 : World} {s : GS} {T : TrE GOp Ev}
theorem SL.gr (h : SL g m n0 w s t T) : ∃ vo, GrAt w g m s.mm s.k s.l vo s.E ∧ ∀ b, grB g vo b → n0 ≤ b := by
  obtain ⟨B, Q, ⟨vo, h1, e⟩, h2, h3, h4⟩ := h
  exact ⟨vo, h1, fun b hb => h4 b (.inr ((e b).2 hb))⟩
theorem SL.below (h : SL g m n0 w s t T) (hb : Below w.heap.size w w1) : SL g m n0 w1 s t T := by
  obtain ⟨B, Q, h1, h2, h3, h4⟩ := h
  have k0 : Keep (fun _ => False) w w1 := Keep.ofBelow hb
  exact ⟨B, Q, (grH g m).keep h1 k0 (fun _ _ h => h), h2.keep k0 (fun _ _ h => h), h3, h4⟩
theorem SL.keep {F : Nat → Prop} (h : SL g m n0 w s t T) (hk : Keep F w w1) (hF : ∀ b, F b → b < n0) : SL g m n0 w1 s t T := by
  obtain ⟨B, Q, h1, h2, h3, h4⟩ := h
  exact ⟨B, Q, (grH g m).keep h1 hk (fun b hb h => by have := hF b h; have := h4 b (.inr hb); omega), h2.keep hk (fun b hb h => by have := hF b h; have := h4 b (.inl hb); omega), h3, h4⟩
theorem SL.c5 (h : SL g m n0 w s t T) : (w.cell? ⟨g.G, 0, none⟩ = some (.int .i64 (m.t : Int)) ∧ w.cell? ⟨g.G, 1, none⟩ = some (.int .i64 (m.o : Int)) ∧ w.cell? ⟨g.G, 2, none⟩ = some (.int .i64 (m.n : Int))) ∧ w.cell? ⟨g.G, 3, none⟩ = some (cellsV g.C) ∧ w.cell? ⟨g.G, 4, none⟩ = some (permitsV g.P) := by
  obtain ⟨vo, hG, _⟩ := h.gr
  exact hG.c5
/-- a step's end -/
theorem SL.post {R : TrE GOp Ev} {s2 : GS} {Q B : Nat → Prop} {w' : World} (h : GPost g m w t Q B s2 R w') (hR : Root R) (hlo : ∀ b, Q b ∨ B b → n0 ≤ b) (hn : n0 ≤ w.heap.size) : SL g m n0 w' s2 t R ∧ Below n0 w w' := by
  obtain ⟨Q', B', l, T', h1, h2, h3, h4, h5, h6, h7⟩ := h
  obtain ⟨rfl, rfl⟩ := hR.em h1.root h7
  rw [(grH g m).nil] at h3
  refine ⟨⟨B', Q', h3, h1, h5, fun b hb => ?_⟩, h6.below hn fun b _ hb => hlo b hb⟩
  rcases hb with hb | hb
  · rcases h2 b hb with hb | hb
    · exact hlo b (.inl hb)
    · omega
  · by_cases hl : b < w.heap.size
    · exact hlo b (.inr (h4 b hl hb))
    · omega
theorem SL.step_op (x : Itm) (κ : Int → TrE GOp Ev) (h : SL g m n0 w s t (opE (.itm x) κ)) (hn : n0 ≤ w.heap.size) (hk : x.kind < 5) (h0 : 0 ≤ s.k ∧ s.k ≤ 2000000) {s2 : GS} {v : Int} (ho : operS s.mm x = (s2.mm, v, true) ∨ operS s.mm x = (s2.mm, v, false)) (hs : s2.k = s.k + countS s.mm x ∧ s2.l = s.l ∧ s2.E = s.E) (hR : Root (κ v)) :
    Calls Tryz.prog 37 #[pV t, .int .i64 0] w fun e w' => e = .returned (.bool true) ∧ SL g m n0 w' s2 t (κ v) ∧ Below n0 w w' := by
  obtain ⟨B, Q, h1, h2, h3, h4⟩ := h
  obtain ⟨mm2, k2, l2, E2⟩ := s2
  obtain ⟨rfl, rfl, rfl⟩ := hs
  have e1 : (operS s.mm x).1 = mm2 := by rcases ho with ho | ho <;> rw [ho]
  have e2 : (operS s.mm x).2.1 = v := by rcases ho with ho | ho <;> rw [ho]
  refine (gstep_op t Q B s x κ w h2 h1 h3 hk h0).mono ?_
  rintro e w' ⟨rfl, hp⟩
  rw [e1, e2] at hp
  obtain ⟨r1, r2⟩ := SL.post hp hR h4 hn
  exact ⟨rfl, r1, r2⟩
theorem SL.step_park (x : Itm) (κ : Int → TrE GOp Ev) (k : Int) (b : Bool) (h : SL g m n0 w s t (opE (.itm x) κ)) (hn : n0 ≤ w.heap.size) (hk : x.kind = 5 ∨ x.kind = 6) (hx : s.l[x.at']? = some b) (he : endsS b (x.kind == 6) k = true) (hR : Root (κ k)) :
    Calls Tryz.prog 37 #[pV t, .int .i64 k] w fun e w' => e = .returned (.bool true) ∧ SL g m n0 w' ⟨s.mm, s.k, if k = 0 then s.l.set x.at' false else s.l, s.E⟩ t (κ k) ∧ Below n0 w w' := by
  obtain ⟨B, Q, h1, h2, h3, h4⟩ := h
  refine (gstep_park t Q B s x κ k b w h2 h1 h3 hk hx he).mono ?_
  rintro e w' ⟨rfl, hp⟩
  obtain ⟨r1, r2⟩ := SL.post hp hR h4 hn
  exact ⟨rfl, r1, r2⟩
theorem SL.store (i : Nat) (c v : Int) (h : SL g m n0 w s t T) (hn : n0 ≤ w.heap.size) (hi : s.mm[i]? = some c) (h0 : 0 ≤ s.k ∧ s.k ≤ 2000000) :
    Calls Tryz.prog 59 #[cellsV g.C, .int .i64 (i : Int), .int .u64 v] w fun e w' => e = .returned (.bool true) ∧ SL g m n0 w' ⟨s.mm.set i v, s.k + 1, s.l, s.E⟩ t T ∧ Below n0 w w' := by
  obtain ⟨B, Q, ⟨vo, hG, hBb⟩, h2, h3, h4⟩ := h
  refine (store_yes g.C g.S s.mm s.k i c v w hG.cells hi h0.1 (by omega)).mono ?_
  rintro e w' ⟨rfl, hC, hk⟩
  have hcb : ∀ b, ofCells g.C g.S b → B b := fun b hb => (hBb b).2 (by rcases hb with rfl | rfl; exact .inr (.inl rfl); exact .inr (.inr (.inl rfl)))
  exact ⟨rfl, ⟨B, Q, ⟨vo, hG.cells' hC hk (by simp), hBb⟩, h2.keep hk (fun b hb h => h3 b (hcb b h) hb), h3, h4⟩, hk.below hn fun b _ hb => h4 b (.inr (hcb b hb))⟩
theorem SL.give (u : Nat) (b : Bool) (h : SL g m n0 w s t T) (hn : n0 ≤ w.heap.size) (hu : s.l[u]? = some b) :
    Calls Tryz.prog 60 #[permitsV g.P, .int .i64 (u : Int)] w fun e w' => e = .returned (.bool true) ∧ SL g m n0 w' ⟨s.mm, s.k, s.l.set u true, s.E⟩ t T ∧ Below n0 w w' := by
  obtain ⟨B, Q, ⟨vo, hG, hBb⟩, h2, h3, h4⟩ := h
  refine (give_any g.P g.R g.cs s.l u b w hG.perms hu).mono ?_
  rintro e w' ⟨rfl, hC, hk⟩
  have hcb : ∀ b, b ∈ g.cs → B b := fun b hb => (hBb b).2 (.inr (.inr (.inr (.inr (.inr (.inl hb))))))
  exact ⟨rfl, ⟨B, Q, ⟨vo, hG.perms' hC hk (by simp), hBb⟩, h2.keep hk (fun b hb h => h3 b (hcb b h) hb), h3, h4⟩, hk.below hn fun b _ hb => h4 b (.inr (hcb b hb))⟩
theorem SL.has (u : Nat) (b : Bool) (h : SL g m n0 w s t T) (hu : s.l[u]? = some b) : Calls Tryz.prog 61 #[permitsV g.P, .int .i64 (u : Int)] w fun e w' => e = .returned (.bool b) ∧ w = w' := by
  obtain ⟨vo, hG, _⟩ := h.gr
  exact has_any g.P g.R g.cs s.l u b w hG.perms hu
theorem SL.done_ret {v : Int} (h : SL g m n0 w s t (retE v)) : Calls Tryz.prog 38 #[pV t] w fun e w' => e = .returned (.bool true) ∧ w = w' := by
  obtain ⟨B, Q, h1, h2, h3, h4⟩ := h
  exact tdoneE_ret t Q v w h2
theorem SL.done_op {x : GOp} {κ : Int → TrE GOp Ev} (h : SL g m n0 w s t (opE x κ)) : Calls Tryz.prog 38 #[pV t] w fun e w' => e = .returned (.bool false) ∧ w = w' := by
  obtain ⟨B, Q, h1, h2, h3, h4⟩ := h
  exact tdoneE_op t Q x κ w h2
theorem SL.value {v : Int} (h : SL g m n0 w s t (retE v)) : Calls Tryz.prog 27 #[pV t] w fun e w' => e = .returned (.int .i64 v) ∧ w = w' := by
  obtain ⟨B, Q, h1, h2, h3, h4⟩ := h
  exact tvalueE_ret t Q v w h2
theorem SL.parked_park {x : Itm} {κ : Int → TrE GOp Ev} (h : SL g m n0 w s t (opE (.itm x) κ)) (hk : x.kind = 5 ∨ x.kind = 6) : Calls Tryz.prog 57 #[pV t] w fun e w' => e = .returned (.bool true) ∧ w = w' := by
  obtain ⟨B, Q, h1, h2, h3, h4⟩ := h
  exact gparked_park t Q x κ w h2 hk
theorem SL.parked_op {x : Itm} {κ : Int → TrE GOp Ev} (h : SL g m n0 w s t (opE (.itm x) κ)) (hk : x.kind < 5) : Calls Tryz.prog 57 #[pV t] w fun e w' => e = .returned (.bool false) ∧ w = w' := by
  obtain ⟨B, Q, h1, h2, h3, h4⟩ := h
  exact gparked_op t Q (.itm x) κ w h2 (fun y e => by injection e with e; rw [← e]; exact hk)
theorem SL.can {x : Itm} {κ : Int → TrE GOp Ev} (k : Int) (b : Bool) (h : SL g m n0 w s t (opE (.itm x) κ)) (hk : x.kind = 5 ∨ x.kind = 6) (hx : s.l[x.at']? = some b) : Calls Tryz.prog 58 #[pV t, .int .i64 k] w fun e w' => e = .returned (.bool (endsS b (x.kind == 6) k)) ∧ SL g m n0 w' s t (opE (.itm x) κ) ∧ Below w.heap.size w w' := by
  obtain ⟨B, Q, h1, h2, h3, h4⟩ := h
  refine (gcan_park t Q B s x κ k b w h2 h1 hk hx).mono ?_
  rintro e w' ⟨rfl, hk⟩
  exact ⟨rfl, ⟨B, Q, (grH g m).keep h1 hk (fun _ _ h => h), h2.keep hk (fun _ _ h => h), h3, h4⟩, hk.below (Nat.le_refl _) fun _ _ h => h.elim⟩
theorem SL.all (h : SL g m n0 w s t T) (hm : s.mm ≠ []) : Calls Tryz.prog 17 #[cellsV g.C] w fun e w' => ∃ b cap, e = .returned (.slice (some ⟨b, 0, none⟩) s.mm.length cap) ∧ (∀ (i : Nat) v, s.mm[i]? = some v → w'.cell? ⟨b, i, none⟩ = some (.int .u64 v)) ∧ b < w'.heap.size ∧ SL g m n0 w' s t T ∧ Below w.heap.size w w' := by
  obtain ⟨vo, hG, _⟩ := h.gr
  refine (allR_any g.C g.S s.mm s.k w hG.cells hm).mono ?_
  rintro e w' ⟨b, cap, rfl, h1, h2, h3, h4⟩
  exact ⟨b, cap, rfl, h1, h3, h.below h4, h4⟩
end
end Go.Proofs.YtldofbkjjmnooaaGreat
/- Where this program has the library's locks. -/
namespace Go.Proofs.YtldofbkjjmnooaaGreat
open Go.Proofs
abbrev muL : Go.Conc.Locks.MuLink := { lock := 209, unlock := 210, ilock := 282, iunlock := 283, lockSlow := 335, unlockSlow := 338, disable := 331, enable := 333, acquire := 334, relMerge := 336, cas32 := 332, add32 := 337, tMutex := 74, tIMutex := 72, tPMutex := 307, tPIMutex := 334, tPI32 := 336, tUP := 338, tNoCopy := 69, tU32 := 70 }
theorem muLib : Go.Conc.Locks.MuLib Tryz.prog muL :=
  ⟨Tryz.func209, Tryz.func210, Tryz.func282, Tryz.func283, Tryz.func331, Tryz.func333, Tryz.func334, Tryz.func336, Tryz.func332, Tryz.func337,
    Tryz.underlying72, Tryz.runUnderlying72, Tryz.sizeOf72, Tryz.isAgg72, Tryz.zeroValue72, Tryz.underlying74, Tryz.runUnderlying74, Tryz.sizeOf74, Tryz.isAgg74, Tryz.zeroValue74,
    Tryz.underlying307, Tryz.runUnderlying307, Tryz.sizeOf307, Tryz.isAgg307, Tryz.zeroValue307, Tryz.underlying334, Tryz.runUnderlying334, Tryz.sizeOf334, Tryz.isAgg334, Tryz.zeroValue334,
    Tryz.underlying336, Tryz.runUnderlying336, Tryz.sizeOf336, Tryz.isAgg336, Tryz.zeroValue336, Tryz.underlying338, Tryz.runUnderlying338, Tryz.sizeOf338, Tryz.isAgg338, Tryz.zeroValue338,
    Tryz.underlying69, Tryz.runUnderlying69, Tryz.sizeOf69, Tryz.isAgg69, Tryz.zeroValue69, Tryz.underlying21, Tryz.runUnderlying21, Tryz.sizeOf21, Tryz.isAgg21, Tryz.zeroValue21, by kernel_rfl⟩
end Go.Proofs.YtldofbkjjmnooaaGreat
/- A ground's log. -/
namespace Go.Proofs.YtldofbkjjmnooaaGreat
open Go.ChangeShapes Go.WideShapes Go.ChangeAt Go.RowKit Go.Shelf Go.Lib Go.MuLone
set_option linter.unusedVariables false
set_option maxRecDepth 100000
set_option linter.unusedSimpArgs false
theorem ev_info : (Tryz.prog.info? 118).map (fun i => (i.zero, i.size, i.bytes)) = some (some (.agg #[.int .i64 0, .int .i64 0, .int .i64 0, .int .i64 0, .int .i64 0, .int .i64 0, .int .i64 0, .int .i64 0]), 8, 64) := by kernel_rfl
theorem evL_one (e : Ev) : ∀ u ∈ evL e, u.oneCell' = true := by
  intro u hu
  simp only [evL, List.mem_cons, List.not_mem_nil, or_false] at hu
  rcases hu with rfl | rfl | rfl | rfl | rfl | rfl | rfl | rfl <;> rfl
theorem evs_one (l : List Ev) : ∀ u ∈ l.flatMap evL, u.oneCell' = true := by
  intro u hu
  obtain ⟨e, _, h⟩ := List.mem_flatMap.1 hu
  exact evL_one e u h
theorem evs_len (l : List Ev) : (l.flatMap evL).length = l.length * 8 := by
  induction l with
  | nil => rfl
  | cons a l ih => rw [List.flatMap_cons, List.length_append, ih]; simp [evL]; omega
abbrev grL (g : GrP) (m : Mp) (vo : Value) : Array Value := #[.int .i64 (m.t : Int), .int .i64 (m.o : Int), .int .i64 (m.n : Int), cellsV g.C, permitsV g.P, .int .i32 1, .int .u32 0, vo]
def noPanic (Q : Exit → Act → World → Prop) : Exit → Act → World → Prop := fun e a w => match e with
  | .panic _ => False
  | e => Q e a w
theorem noPanic_imp (Q : Exit → Act → World → Prop) : ∀ e a w, noPanic Q e a w → Q e a w := fun e a w h => by
  cases e <;> first | exact h | exact h.elim
theorem noPanic_n {Q : Exit → Act → World → Prop} {a : Act} {w : World} (h : Q .normal a w) : noPanic Q .normal a w := h
/-- what a note leaves -/
def NotePost (w : World) (g : GrP) (m : Mp) (mm : List Int) (k : Int) (l : List Bool) (vo : Value) (E : List Ev) (e : Ev) (r : Ending) (w' : World) : Prop :=
  r = .returned (.tuple #[]) ∧ ∃ vo', GrAt w' g m mm k l vo' (E ++ [e]) ∧ Keep (fun b => b = g.G ∨ vo.ownBlock = some b) w w' ∧ ∀ b, vo'.ownBlock = some b → vo.ownBlock = some b ∨ w.heap.size ≤ b
section
variable {w w1 : World} {g : GrP} {m : Mp} {mm mm' : List Int} {k k' : Int} {l l' : List Bool} {vo vo' : Value} {E E' : List Ev}
set_option maxHeartbeats 4000000 in
theorem add_any (e : Ev) (h : GrAt w g m mm k l vo E) (hE : E.length ≤ 1000000) :
    Calls Tryz.prog 280 #[.pointer (some ⟨g.G, 5, none⟩), evV e] w (NotePost w g m mm k l vo E e) := by
  have HG := Lib.hid h
  have hown := h.own
  have hlt := h.own.lt
  have hrow := h.row
  have ha := h.apartG
  clear h
  obtain ⟨i0, hi0, hz0, hz1, hz2⟩ := info_parts ev_info
  go_enter_defers Tryz.func280, Tryz.ntmps280
  go_wp2_with (go_at_call 209; refine (lock_free muLib ⟨g.G, 5, none⟩ _ ?_ ?_).mono ?_)
  · exact (hown.alloc _).cell 5 _ rfl
  · exact (hown.alloc _).free 5
  rintro r w' ⟨rfl, rfl⟩
  have bW : Below w.heap.size w (w.alloc (.cells (evC e) 118)) := by go_grown
  have q0 : Blk ((w.alloc (.cells (evC e) 118)).setCell ⟨g.G, 5, none⟩ (.int .i32 1)) g.G 79 (grL g m vo) := (hown.alloc _).set 5 (.int .i32 1)
  have q1 : Blk ((w.alloc (.cells (evC e) 118)).setCell ⟨g.G, 5, none⟩ (.int .i32 1)) w.heap.size 118 (evC e) := (Blk.new w _ _).far (by omega) _ _
  have kW : Keep (fun b => b = g.G) w ((w.alloc (.cells (evC e) 118)).setCell ⟨g.G, 5, none⟩ (.int .i32 1)) := ((Keep.refl (fun b => b = g.G) w).alloc _).set (p := ⟨g.G, 5, none⟩) (fun _ => rfl) _
  have hrw : ((w.alloc (.cells (evC e) 118)).setCell ⟨g.G, 5, none⟩ (.int .i32 1)).ownsRow 0 118 8 vo E.length (E.flatMap evL) := row_ownkeep hrow kW (fun b hb e => ha.2.2.2.2.2 (e ▸ hb))
  have hbx : ∀ b, vo.ownBlock = some b → b = w.heap.size → False := fun b hb e => by have := (row_lt hrow hb).1; omega
  have hbxG : w.heap.size = g.G → False := fun e => by omega
  generalize (w.alloc (.cells (evC e) 118)).setCell ⟨g.G, 5, none⟩ (.int .i32 1) = W1 at *
  have hbW : w.heap.size < W1.heap.size := q1.lt
  have c7 : W1.cell? ⟨g.G, 7, none⟩ = some vo := q0.cell 7 _ rfl
  have c7X := Lib.hid (show (W1.alloc (.cells (evC e) 118)).drew.cell? ⟨g.G, 7, none⟩ = some vo from (Blk.alloc q0 _).drew.cell 7 _ rfl)
  have HX := Lib.hid (show (W1.alloc (.cells (evC e) 118)).drew.ownsRow 0 118 8 vo E.length (E.flatMap evL) ∧ (∀ (j : Nat) (u : Value), (evL e)[j]? = some u → (W1.alloc (.cells (evC e) 118)).drew.cell? ((⟨W1.heap.size, 0, none⟩ : Addr).add j) = some u) ∧ (∀ w6 r, (W1.alloc (.cells (evC e) 118)).drew.grownBy w6 r → Keep (fun b => r = some b) W1 w6) ∧ W1.heap.size ≤ (W1.alloc (.cells (evC e) 118)).drew.heap.size from by
    refine ⟨(hrw.alloc _).drew, fun j u hu => ?_, fun w6 r hg => ?_, by simp⟩
    · have := (Blk.new W1 118 (evC e)).drew.cell j u (by simpa [evL, evC] using hu)
      have e1 : ((⟨W1.heap.size, 0, none⟩ : Addr).add j) = ⟨W1.heap.size, j, none⟩ := by unfold Addr.add; split <;> simp_all
      rw [e1]
      exact this
    · exact grown_keep (w := W1) (o := .cells (evC e) 118) ⟨hg.1, hg.2, hg.3, hg.4, hg.5⟩)
  have hnG : ∀ gn : Nat, (vo.ownBlock = some gn ∨ W1.heap.size ≤ gn) → gn = g.G → False := fun gn h e => by
    subst e
    rcases h with h | h
    · exact ha.2.2.2.2.2 h
    · have := q0.lt; omega
  have HFIN := Lib.hid (show ∀ gn cap W7, W7.ownsRow 0 118 8 (.slice (some ⟨gn, 0, none⟩) (E.length + 1) cap) (E.length + 1) (E.flatMap evL ++ evL e) → Blk W7 g.G 79 ((grL g m vo).setIfInBounds 7 (.slice (some ⟨gn, 0, none⟩) (E.length + 1) cap)) → Keep (fun b => b = g.G ∨ vo.ownBlock = some b) W1 W7 → (vo.ownBlock = some gn ∨ W1.heap.size ≤ gn) → NotePost w g m mm k l vo E e (.returned (.tuple #[])) (W7.setCell ⟨g.G, 5, none⟩ (.int .i32 0)) from by
    intro gn cap W7 hr hD hk hg
    have kE : Keep (fun b => b = g.G ∨ vo.ownBlock = some b) w (W7.setCell ⟨g.G, 5, none⟩ (.int .i32 0)) := ((kW.mono fun _ _ h => .inl h).trans hk).set (p := ⟨g.G, 5, none⟩) (fun _ => .inl rfl) _
    have hL : (E ++ [e]).length = E.length + 1 := by simp
    refine ⟨rfl, .slice (some ⟨gn, 0, none⟩) (E.length + 1) cap, HG.out.log' (hD.set 5 (.int .i32 0)) ?_ kE, kE, fun b hb => ?_⟩
    · rw [hL, List.flatMap_append, List.flatMap_cons, List.flatMap_nil, List.append_nil]
      exact row_ownkeep hr (Q := fun b => b = g.G) ((Keep.refl (fun b => b = g.G) W7).set (p := ⟨g.G, 5, none⟩) (fun _ => rfl) _) (fun b hb e => hnG gn hg (own_some hb ▸ e))
    · rw [← own_some hb]
      exact hg.imp id (fun h => Nat.le_trans kW.size h))
  clear hown
  go_upto_region 3 with fail
  refine Code.wp_mono (Q := noPanic _) (noPanic_imp _) ?_
  --BEGIN add
  refine wp_region_held_drew (S := fun V => EvAt V w.heap.size e) (by kernel_rfl) (evAt q1) (fun hHeld => ?_)
  refine wpAnyH_take (i := 0) (oi := _) (v := ?_) rfl (by kernel_rfl) (by kernel_rfl) (by kernel_rfl) (fun _ _ _ h => h) (Or.inl ⟨by rfl, ?_⟩) (by assumption) ?_
  rotate_left
  · intro wq hSw; (try dsimp only at hSw); (try obtain ⟨b0, b1, b2, b3, b4, b5, b6, b7⟩ := hSw); go_simp; try with_reducible rfl
  (try simp only [Act.put, List.setIfInBounds_toArray, List.set_cons_zero, List.set_cons_succ])
  refine wpAnyH_take (i := 1) (oi := _) (v := ?_) rfl (by kernel_rfl) (by kernel_rfl) (by kernel_rfl) (fun _ _ _ h => h) (Or.inl ⟨by rfl, ?_⟩) (by assumption) ?_
  rotate_left
  · intro wq hSw; (try dsimp only at hSw); (try obtain ⟨b0, b1, b2, b3, b4, b5, b6, b7⟩ := hSw); go_simp; try with_reducible rfl
  (try simp only [Act.put, List.setIfInBounds_toArray, List.set_cons_zero, List.set_cons_succ])
  refine wpAnyH_take (i := 2) (oi := _) (v := ?_) rfl (by kernel_rfl) (by kernel_rfl) (by kernel_rfl) (fun _ _ _ h => h) (Or.inl ⟨by rfl, ?_⟩) (by assumption) ?_
  rotate_left
  · intro wq hSw; (try dsimp only at hSw); (try obtain ⟨b0, b1, b2, b3, b4, b5, b6, b7⟩ := hSw); go_simp; try with_reducible rfl
  (try simp only [Act.put, List.setIfInBounds_toArray, List.set_cons_zero, List.set_cons_succ])
  refine wpAnyH_take (i := 3) (oi := _) (v := ?_) rfl (by kernel_rfl) (by kernel_rfl) (by kernel_rfl) (fun _ _ _ h => h) (Or.inl ⟨by rfl, ?_⟩) (by assumption) ?_
  rotate_left
  · intro wq hSw; (try dsimp only at hSw); (try obtain ⟨b0, b1, b2, b3, b4, b5, b6, b7⟩ := hSw); go_simp; try with_reducible rfl
  (try simp only [Act.put, List.setIfInBounds_toArray, List.set_cons_zero, List.set_cons_succ])
  refine wpAnyH_take (i := 5) (oi := _) (v := ?_) rfl (by kernel_rfl) (by kernel_rfl) (by kernel_rfl) (fun _ _ _ h => h) (Or.inl ⟨by rfl, ?_⟩) (by assumption) ?_
  rotate_left
  · intro wq hSw; (try dsimp only at hSw); (try obtain ⟨b0, b1, b2, b3, b4, b5, b6, b7⟩ := hSw); go_simp; try with_reducible rfl
  (try simp only [Act.put, List.setIfInBounds_toArray, List.set_cons_zero, List.set_cons_succ])
  refine wpAnyH_ready (rs := [4, 6]) (by kernel_rfl) (by simp) ?_
  refine AllReadyH.cons rfl (fun KK hKK => ?_) (AllReadyH.cons rfl (fun KK hKK => ?_) AllReadyH.nil)
  · go_simp
    go_wp2_with fail
    refine hKK.out _ _ (evAt q1.drew) (fun hHeld => ?_)
    clear hKK KK
    (try dsimp only [Act.put]); (try simp only [Act.put, List.setIfInBounds_toArray, List.set_cons_zero, List.set_cons_succ])
    refine wpAnyH_ready (rs := [6]) (by kernel_rfl) (by simp) ?_
    refine AllReadyH.cons rfl (fun KK hKK => ?_) AllReadyH.nil
    go_simp
    go_wp2_with fail
    refine hKK.out _ _ (evAt (q1.alloc _).drew) (fun hHeld => ?_)
    clear hKK KK
    (try dsimp only [Act.put]); (try simp only [Act.put, List.setIfInBounds_toArray, List.set_cons_zero, List.set_cons_succ])
    have hX := HX.out
    generalize (W1.alloc (.cells (evC e) 118)).drew = X5 at *
    have hr5 : X5.ownsRow 0 118 8 vo E.length (E.flatMap evL) := hX.1
    refine wpAnyH_ready (rs := [7]) (by kernel_rfl) (by simp) ?_
    refine AllReadyH.cons rfl (fun K' hK' => ?_) AllReadyH.nil
    rw [if_pos (by kernel_rfl)]
    refine wp_append_own2 _ _ _ _ rfl 0 118 i0 _ 8 64 Tryz.underlying75 hi0 hz0 hz1 hz2 rfl (by decide) _ _ _ rfl hr5 ⟨W1.heap.size, 0, none⟩ 1 1 (evL e) rfl rfl hX.2.1 (evL_one e) (by unfold maxLen; omega) (by omega) (Nat.zero_le _) (by omega) ?_
    intro gn cap w6 hown' hgrow hg
    replace hgrow : X5.grownBy w6 vo.ownBlock := hgrow
    have hg' : vo.ownBlock = some gn ∨ W1.heap.size ≤ gn := hg.imp id (fun h => Nat.le_trans hX.2.2.2 h)
    have k6 : Keep (fun b => vo.ownBlock = some b) W1 w6 := hX.2.2.1 _ _ hgrow
    have D6 : Blk w6 g.G 79 (grL g m vo) := q0.keep k6 (fun e => ha.2.2.2.2.2 e)
    have z2 := D6.free 7
    have d2 := D6.cell 7 vo rfl
    refine hK'.out _ _ (evAt (q1.keep k6 (fun e => hbx _ e rfl))) (fun hHeld => ?_)
    clear hK' K'
    (try dsimp only [Act.put]); (try simp only [Act.put, List.setIfInBounds_toArray, List.set_cons_zero, List.set_cons_succ])
    refine wpAnyH_take (i := 8) (oi := _) (v := ?_) rfl (by kernel_rfl) (by kernel_rfl) (by kernel_rfl) (fun _ _ _ h => h) (Or.inl ⟨by rfl, ?_⟩) (by assumption) ?_
    rotate_left
    · intro wq hSw; (try dsimp only at hSw); (try obtain ⟨b0, b1, b2, b3, b4, b5, b6, b7⟩ := hSw); go_simp; try with_reducible rfl
    (try simp only [Act.put, List.setIfInBounds_toArray, List.set_cons_zero, List.set_cons_succ])
    refine wpAnyH_take (i := 9) (oi := _) (v := ?_) rfl (by kernel_rfl) (by kernel_rfl) (by kernel_rfl) (fun _ _ _ h => h) (Or.inl ⟨by rfl, ?_⟩) (by assumption) ?_
    rotate_left
    · intro wq hSw; (try dsimp only at hSw); (try obtain ⟨b0, b1, b2, b3, b4, b5, b6, b7⟩ := hSw); go_simp; try with_reducible rfl
    (try simp only [Act.put, List.setIfInBounds_toArray, List.set_cons_zero, List.set_cons_succ])
    refine wpAnyH_ready (rs := [10]) (by kernel_rfl) (by simp) ?_
    refine AllReadyH.cons rfl (fun K' hK' => ?_) AllReadyH.nil
    go_simp
    go_wp2_with fail
    have k7 : Keep (fun b => b = g.G ∨ vo.ownBlock = some b) W1 (w6.setCell ⟨g.G, 7, none⟩ (.slice (some ⟨gn, 0, none⟩) (E.length + 1) cap)) := (k6.mono fun _ _ h => .inr h).set (fun _ => .inl rfl) _
    refine hK'.out _ _ (evAt (q1.keep k7 (fun e => e.elim (fun e => hbxG e) (fun e => hbx _ e rfl)))) (fun hHeld => ?_)
    clear hK' K' hHeld
    refine wpAnyH_done (by kernel_rfl) ?_ _
    refine noPanic_n ?_
    refine leaves_cons (f := 210) (args := #[.pointer (some ⟨g.G, 5, none⟩)]) (by simp) (by simp [go_sem]) ?_
    have D7 := D6.set 7 (.slice (some ⟨gn, 0, none⟩) (E.length + 1) cap)
    have hr7 := row_ownkeep hown' (Q := fun b => b = g.G) ((Keep.refl (fun b => b = g.G) w6).set (p := ⟨g.G, 7, none⟩) (fun _ => rfl) (.slice (some ⟨gn, 0, none⟩) (E.length + 1) cap)) (fun b hb e => hnG gn hg' (own_some hb ▸ e))
    generalize w6.setCell ⟨g.G, 7, none⟩ (.slice (some ⟨gn, 0, none⟩) (E.length + 1) cap) = W7 at *
    refine (unlock_deferred muLib ⟨g.G, 5, none⟩ .returning _ (D7.cell 5 _ rfl) (D7.free 5)).mono ?_
    rintro r u' w'' ⟨rfl, rfl, rfl⟩
    exact ⟨_, results_none rfl _ _ _, HFIN.out gn cap W7 hr7 D7 k7 hg'⟩
  · go_simp
    go_wp2_with fail
    refine hKK.out _ _ (evAt (q1.alloc _).drew) (fun hHeld => ?_)
    clear hKK KK
    (try dsimp only [Act.put]); (try simp only [Act.put, List.setIfInBounds_toArray, List.set_cons_zero, List.set_cons_succ])
    have cX := c7X.out
    have hX := HX.out
    generalize (W1.alloc (.cells (evC e) 118)).drew = X5 at *
    refine wpAnyH_ready (rs := [4]) (by kernel_rfl) (by simp) ?_
    refine AllReadyH.cons rfl (fun KK hKK => ?_) AllReadyH.nil
    go_simp
    go_wp2_with fail
    refine hKK.out _ _ hHeld (fun hHeld => ?_)
    clear hKK KK
    (try dsimp only [Act.put]); (try simp only [Act.put, List.setIfInBounds_toArray, List.set_cons_zero, List.set_cons_succ])
    have hr5 : X5.ownsRow 0 118 8 vo E.length (E.flatMap evL) := hX.1
    refine wpAnyH_ready (rs := [7]) (by kernel_rfl) (by simp) ?_
    refine AllReadyH.cons rfl (fun K' hK' => ?_) AllReadyH.nil
    rw [if_pos (by kernel_rfl)]
    refine wp_append_own2 _ _ _ _ rfl 0 118 i0 _ 8 64 Tryz.underlying75 hi0 hz0 hz1 hz2 rfl (by decide) _ _ _ rfl hr5 ⟨W1.heap.size, 0, none⟩ 1 1 (evL e) rfl rfl hX.2.1 (evL_one e) (by unfold maxLen; omega) (by omega) (Nat.zero_le _) (by omega) ?_
    intro gn cap w6 hown' hgrow hg
    replace hgrow : X5.grownBy w6 vo.ownBlock := hgrow
    have hg' : vo.ownBlock = some gn ∨ W1.heap.size ≤ gn := hg.imp id (fun h => Nat.le_trans hX.2.2.2 h)
    have k6 : Keep (fun b => vo.ownBlock = some b) W1 w6 := hX.2.2.1 _ _ hgrow
    have D6 : Blk w6 g.G 79 (grL g m vo) := q0.keep k6 (fun e => ha.2.2.2.2.2 e)
    have z2 := D6.free 7
    have d2 := D6.cell 7 vo rfl
    refine hK'.out _ _ (evAt (q1.keep k6 (fun e => hbx _ e rfl))) (fun hHeld => ?_)
    clear hK' K'
    (try dsimp only [Act.put]); (try simp only [Act.put, List.setIfInBounds_toArray, List.set_cons_zero, List.set_cons_succ])
    refine wpAnyH_take (i := 8) (oi := _) (v := ?_) rfl (by kernel_rfl) (by kernel_rfl) (by kernel_rfl) (fun _ _ _ h => h) (Or.inl ⟨by rfl, ?_⟩) (by assumption) ?_
    rotate_left
    · intro wq hSw; (try dsimp only at hSw); (try obtain ⟨b0, b1, b2, b3, b4, b5, b6, b7⟩ := hSw); go_simp; try with_reducible rfl
    (try simp only [Act.put, List.setIfInBounds_toArray, List.set_cons_zero, List.set_cons_succ])
    refine wpAnyH_take (i := 9) (oi := _) (v := ?_) rfl (by kernel_rfl) (by kernel_rfl) (by kernel_rfl) (fun _ _ _ h => h) (Or.inl ⟨by rfl, ?_⟩) (by assumption) ?_
    rotate_left
    · intro wq hSw; (try dsimp only at hSw); (try obtain ⟨b0, b1, b2, b3, b4, b5, b6, b7⟩ := hSw); go_simp; try with_reducible rfl
    (try simp only [Act.put, List.setIfInBounds_toArray, List.set_cons_zero, List.set_cons_succ])
    refine wpAnyH_ready (rs := [10]) (by kernel_rfl) (by simp) ?_
    refine AllReadyH.cons rfl (fun K' hK' => ?_) AllReadyH.nil
    go_simp
    go_wp2_with fail
    have k7 : Keep (fun b => b = g.G ∨ vo.ownBlock = some b) W1 (w6.setCell ⟨g.G, 7, none⟩ (.slice (some ⟨gn, 0, none⟩) (E.length + 1) cap)) := (k6.mono fun _ _ h => .inr h).set (fun _ => .inl rfl) _
    refine hK'.out _ _ (evAt (q1.keep k7 (fun e => e.elim (fun e => hbxG e) (fun e => hbx _ e rfl)))) (fun hHeld => ?_)
    clear hK' K' hHeld
    refine wpAnyH_done (by kernel_rfl) ?_ _
    refine noPanic_n ?_
    refine leaves_cons (f := 210) (args := #[.pointer (some ⟨g.G, 5, none⟩)]) (by simp) (by simp [go_sem]) ?_
    have D7 := D6.set 7 (.slice (some ⟨gn, 0, none⟩) (E.length + 1) cap)
    have hr7 := row_ownkeep hown' (Q := fun b => b = g.G) ((Keep.refl (fun b => b = g.G) w6).set (p := ⟨g.G, 7, none⟩) (fun _ => rfl) (.slice (some ⟨gn, 0, none⟩) (E.length + 1) cap)) (fun b hb e => hnG gn hg' (own_some hb ▸ e))
    generalize w6.setCell ⟨g.G, 7, none⟩ (.slice (some ⟨gn, 0, none⟩) (E.length + 1) cap) = W7 at *
    refine (unlock_deferred muLib ⟨g.G, 5, none⟩ .returning _ (D7.cell 5 _ rfl) (D7.free 5)).mono ?_
    rintro r u' w'' ⟨rfl, rfl, rfl⟩
    exact ⟨_, results_none rfl _ _ _, HFIN.out gn cap W7 hr7 D7 k7 hg'⟩
  --END add
theorem note_any (e : Ev) (h : GrAt w g m mm k l vo E) (hE : E.length ≤ 1000000) :
    Calls Tryz.prog 207 #[grV g, evV e] w (NotePost w g m mm k l vo E e) := by
  have HG := Lib.hid h
  have hlt := h.own.lt
  have hvlt := Lib.hid fun b (hb : vo.ownBlock = some b) => (row_lt h.row hb).1
  clear h
  go_enter Tryz.func207, Tryz.ntmps207
  go_upto_region 2 with fail
  have bW : Below w.heap.size w (w.alloc (.cells (evC e) 118)) := by go_grown
  have q1 : Blk (w.alloc (.cells (evC e) 118)) w.heap.size 118 (evC e) := Blk.new _ _ _
  have HW := Lib.hid (HG.out.below bW)
  generalize w.alloc (.cells (evC e) 118) = W1 at *
  have bd := bdrewP W1
  have HN := Lib.hid (add_any e (HW.out.below bd) hE)
  have HQ := Lib.hid q1
  clear q1 HW
  have hs1 := bW.size
  have HK := Lib.hid (show ∀ V, Keep (fun b => b = g.G ∨ vo.ownBlock = some b) W1 V → V.cell? ⟨w.heap.size, 0, none⟩ = some (.int .i64 e.kind) ∧ V.cell? ⟨w.heap.size, 1, none⟩ = some (.int .i64 e.thr) ∧ V.cell? ⟨w.heap.size, 2, none⟩ = some (.int .i64 e.idx) ∧ V.cell? ⟨w.heap.size, 3, none⟩ = some (.int .i64 e.act) ∧ V.cell? ⟨w.heap.size, 4, none⟩ = some (.int .i64 e.obj) ∧ V.cell? ⟨w.heap.size, 5, none⟩ = some (.int .i64 e.oth) ∧ V.cell? ⟨w.heap.size, 6, none⟩ = some (.int .i64 e.code) ∧ V.cell? ⟨w.heap.size, 7, none⟩ = some (.int .i64 e.val) from fun V hk => (evAt (HQ.out.keep hk (fun h => h.elim (fun h => absurd hlt (by omega)) (fun h => absurd (hvlt.out _ h) (by omega))))).conj)
  go_region_held3 (fun V => V.cell? ⟨w.heap.size, 0, none⟩ = some (.int .i64 e.kind) ∧ V.cell? ⟨w.heap.size, 1, none⟩ = some (.int .i64 e.thr) ∧ V.cell? ⟨w.heap.size, 2, none⟩ = some (.int .i64 e.idx) ∧ V.cell? ⟨w.heap.size, 3, none⟩ = some (.int .i64 e.act) ∧ V.cell? ⟨w.heap.size, 4, none⟩ = some (.int .i64 e.obj) ∧ V.cell? ⟨w.heap.size, 5, none⟩ = some (.int .i64 e.oth) ∧ V.cell? ⟨w.heap.size, 6, none⟩ = some (.int .i64 e.code) ∧ V.cell? ⟨w.heap.size, 7, none⟩ = some (.int .i64 e.val)) (first | exact HK.out _ k3 | exact HK.out _ (Keep.ofBelow bd)) (first | (go_at_call 280; refine HN.out.mono ?_; rintro r w2 ⟨rfl, vo', h2, k2, o2⟩; have k3 := Keep.trans (Keep.ofBelow (Q := fun b => b = g.G ∨ vo.ownBlock = some b) bd) k2))
  go_end0
  exact ⟨rfl, vo', h2, (Keep.ofBelow bW).trans k3, fun b hb => (o2 b hb).imp id (fun h => by have : W1.drew.heap.size = W1.heap.size := rfl; omega)⟩
theorem note_nil (e : Ev) (w : World) : Calls Tryz.prog 207 #[.pointer none, evV e] w fun r w' => r = .returned (.tuple #[]) ∧ Below w.heap.size w w' := by
  go_enter Tryz.func207, Tryz.ntmps207
  go_wp2_with fail
  go_end0
  exact ⟨rfl, by go_grown⟩
theorem act_any (t a o x : Int) (h : GrAt w g m mm k l vo E) (hE : E.length ≤ 1000000) :
    Calls Tryz.prog 124 #[grV g, .int .i64 t, .int .i64 a, .int .i64 o, .int .i64 x] w (NotePost w g m mm k l vo E ⟨1, t, 0, a, o, x, 0, 0⟩) := by
  have HN := Lib.hid (note_any ⟨1, t, 0, a, o, x, 0, 0⟩ h hE)
  clear h
  go_enter Tryz.func124, Tryz.ntmps124
  go_wp2_with (go_at_call 207; refine HN.out.mono ?_; rintro r w2 ⟨rfl, h2⟩)
  go_end0
  exact ⟨rfl, h2⟩
theorem act_nil (t a o x : Int) (w : World) : Calls Tryz.prog 124 #[.pointer none, .int .i64 t, .int .i64 a, .int .i64 o, .int .i64 x] w fun r w' => r = .returned (.tuple #[]) ∧ Below w.heap.size w w' := by
  have HN := Lib.hid (note_nil ⟨1, t, 0, a, o, x, 0, 0⟩ w)
  go_enter Tryz.func124, Tryz.ntmps124
  go_wp2_with (go_at_call 207; refine HN.out.mono ?_; rintro r w2 ⟨rfl, h2⟩)
  go_end0
  exact ⟨rfl, h2⟩
theorem call_any (t i a o x : Int) (h : GrAt w g m mm k l vo E) (hE : E.length ≤ 1000000) :
    Calls Tryz.prog 313 #[grV g, .int .i64 t, .int .i64 i, .agg #[.int .i64 a, .int .i64 o, .int .i64 x]] w (NotePost w g m mm k l vo E ⟨0, t, i, a, o, x, 0, 0⟩) := by
  have HN := Lib.hid fun V (hV : GrAt V g m mm k l vo E) => note_any ⟨0, t, i, a, o, x, 0, 0⟩ hV hE
  have HG := Lib.hid h
  clear h
  go_enter Tryz.func313, Tryz.ntmps313
  go_upto_region 1 with fail
  generalize hW : w.alloc _ = W1
  have bW : Below w.heap.size w W1 := by rw [← hW]; go_grown
  have q1 : Blk W1 w.heap.size 204 #[.int .i64 a, .int .i64 o, .int .i64 x] := by rw [← hW]; exact Blk.new _ _ _
  have HN1 := Lib.hid (HN.out W1 (HG.out.below bW))
  clear hW HN
  have c0 := q1.cell 0 _ rfl
  have c1 := q1.cell 1 _ rfl
  have c2 := q1.cell 2 _ rfl
  have hs1 := bW.size
  go_wp2_with (go_at_call 207; refine HN1.out.mono ?_; rintro r w2 ⟨rfl, vo', h2, k2, o2⟩)
  go_end0
  exact ⟨rfl, vo', h2, (Keep.ofBelow bW).trans k2, fun b hb => (o2 b hb).imp id (fun h => by omega)⟩
theorem call_nil (t i a o x : Int) (w : World) : Calls Tryz.prog 313 #[.pointer none, .int .i64 t, .int .i64 i, .agg #[.int .i64 a, .int .i64 o, .int .i64 x]] w fun r w' => r = .returned (.tuple #[]) ∧ Below w.heap.size w w' := by
  have HN := Lib.hid fun V => note_nil ⟨0, t, i, a, o, x, 0, 0⟩ V
  go_enter Tryz.func313, Tryz.ntmps313
  go_upto_region 1 with fail
  generalize hW : w.alloc _ = W1
  have bW : Below w.heap.size w W1 := by rw [← hW]; go_grown
  have q1 : Blk W1 w.heap.size 204 #[.int .i64 a, .int .i64 o, .int .i64 x] := by rw [← hW]; exact Blk.new _ _ _
  clear hW
  have c0 := q1.cell 0 _ rfl
  have c1 := q1.cell 1 _ rfl
  have c2 := q1.cell 2 _ rfl
  go_wp2_with (go_at_call 207; refine (HN.out _).mono ?_; rintro r w2 ⟨rfl, h2⟩)
  go_end0
  exact ⟨rfl, bW.trans (h2.mono bW.size)⟩
theorem return_any (t i c v : Int) (h : GrAt w g m mm k l vo E) (hE : E.length ≤ 1000000) :
    Calls Tryz.prog 317 #[grV g, .int .i64 t, .int .i64 i, .agg #[.int .i64 c, .int .i64 v]] w (NotePost w g m mm k l vo E ⟨2, t, i, 0, 0, 0, c, v⟩) := by
  have HN := Lib.hid fun V (hV : GrAt V g m mm k l vo E) => note_any ⟨2, t, i, 0, 0, 0, c, v⟩ hV hE
  have HG := Lib.hid h
  clear h
  go_enter Tryz.func317, Tryz.ntmps317
  go_upto_region 1 with fail
  generalize hW : w.alloc _ = W1
  have bW : Below w.heap.size w W1 := by rw [← hW]; go_grown
  have q1 : Blk W1 w.heap.size 116 #[.int .i64 c, .int .i64 v] := by rw [← hW]; exact Blk.new _ _ _
  have HN1 := Lib.hid (HN.out W1 (HG.out.below bW))
  clear hW HN
  have c0 := q1.cell 0 _ rfl
  have c1 := q1.cell 1 _ rfl
  have hs1 := bW.size
  go_wp2_with (go_at_call 207; refine HN1.out.mono ?_; rintro r w2 ⟨rfl, vo', h2, k2, o2⟩)
  go_end0
  exact ⟨rfl, vo', h2, (Keep.ofBelow bW).trans k2, fun b hb => (o2 b hb).imp id (fun h => by omega)⟩
theorem return_nil (t i c v : Int) (w : World) : Calls Tryz.prog 317 #[.pointer none, .int .i64 t, .int .i64 i, .agg #[.int .i64 c, .int .i64 v]] w fun r w' => r = .returned (.tuple #[]) ∧ Below w.heap.size w w' := by
  have HN := Lib.hid fun V => note_nil ⟨2, t, i, 0, 0, 0, c, v⟩ V
  go_enter Tryz.func317, Tryz.ntmps317
  go_upto_region 1 with fail
  generalize hW : w.alloc _ = W1
  have bW : Below w.heap.size w W1 := by rw [← hW]; go_grown
  have q1 : Blk W1 w.heap.size 116 #[.int .i64 c, .int .i64 v] := by rw [← hW]; exact Blk.new _ _ _
  clear hW
  have c0 := q1.cell 0 _ rfl
  have c1 := q1.cell 1 _ rfl
  go_wp2_with (go_at_call 207; refine (HN.out _).mono ?_; rintro r w2 ⟨rfl, h2⟩)
  go_end0
  exact ⟨rfl, bW.trans (h2.mono bW.size)⟩
/-- what Events gives -/
def EvsPost (w : World) (g : GrP) (m : Mp) (mm : List Int) (k : Int) (l : List Bool) (vo : Value) (E : List Ev) (r : Ending) (w' : World) : Prop :=
  ∃ v, r = .returned v ∧ w'.ownsRow w.heap.size 118 8 v E.length (E.flatMap evL) ∧ GrAt w' g m mm k l vo E ∧ Keep (fun b => b = g.G) w w'
shelf_lay_g SlLaysE0.n41 Slgn 41 at Tryz 211 as Tryz.lcloneE
theorem evsize : ∀ w, (Go.sizeOf 118).run Tryz.prog w = .ok 8 w := by
  intro w
  simp only [Tryz.sizeOf118]
theorem gclone_any (b n c : Nat) (news : List Value) (w : World) (hl : news.length = n * 8) (hn : n ≤ 1000000) (hc : ∀ (j : Nat) (u : Value), news[j]? = some u → w.cell? ⟨b, 0 + j, none⟩ = some u) (h1 : ∀ u ∈ news, u.oneCell' = true) :
    Calls Tryz.prog 211 #[.slice (some ⟨b, 0, none⟩) n c] w fun e w' => ∃ v', e = .returned v' ∧ w'.ownsRow w.heap.size 118 8 v' n news ∧ Below w.heap.size w w' := by
  obtain ⟨i0, hi0, hz0, hz1, hz2⟩ := info_parts ev_info
  refine (AnyE.slices_Clone Tryz.lcloneE i0 _ 8 64 hi0 hz0 hz1 hz2 rfl (by decide) evsize b 0 n c news w hl (by unfold maxLen; omega) (by omega) hc h1).mono ?_
  rintro e w' ⟨v', rfl, h2, _, h3⟩
  exact ⟨v', rfl, h2, h3⟩
end
end Go.Proofs.YtldofbkjjmnooaaGreat
