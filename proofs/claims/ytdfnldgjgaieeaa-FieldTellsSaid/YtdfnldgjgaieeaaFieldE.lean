/- The contract of field.Lay: for every widths (4096 at most) it returns a slice of the fields in a row if all are valid, else none. -/
import Derived.Test.YtdfnldgjgaieeaaFieldD
import Derived.Maps.AppendAt
namespace Go.Proofs.Ytdfnldgjgaieeaa
open Go.ChangeShapes Go.WideShapes Go.ChangeAt Go.RowKit Go.Shelf
set_option linter.unusedVariables false
attribute [local go_sem] Oper.semAt_some
theorem infoField : (Try.prog.info? 25).map (fun i => (i.zero, i.size, i.bytes)) = some (some (.agg #[.int .i64 0, .int .i64 0]), 2, 16) := by kernel_rfl
/-- the cells of fields in memory -/
def cellsP : List (Int × Int) → List Value
  | [] => []
  | p :: ps => .int .i64 p.1 :: .int .i64 p.2 :: cellsP ps
theorem cellsP_snoc (ps : List (Int × Int)) (p : Int × Int) : cellsP (ps ++ [p]) = cellsP ps ++ [.int .i64 p.1, .int .i64 p.2] := by
  induction ps with
  | nil => rfl
  | cons q qs ih => simp [cellsP, ih]
def mayP (p : Int × Int) : Bool := mayW p.1 p.2
/-- behind the call, where all may be: u is a slice of the fields, in new memory; else none -/
def LayPost (w : World) (ps : List (Int × Int)) (e : Ending) (w' : World) : Prop :=
  ∃ u, e = .returned u ∧ Below w.heap.size w w' ∧
    ((ps.all mayP = true ∧ w'.ownsRow w.heap.size 25 2 u ps.length (cellsP ps)) ∨ (ps.all mayP = false ∧ u = .slice none 0 0))
/-- a box of two cells -/
def Pair (W : World) (B : Nat) (a k : Int) : Prop := W.heap[B]? = some (.cells #[.int .i64 a, .int .i64 k] 25 (0, 0))
theorem Pair.cells {W : World} {B : Nat} {a k : Int} (h : Pair W B a k) : W.cell? ⟨B, 0, none⟩ = some (.int .i64 a) ∧ W.cell? ⟨B, 1, none⟩ = some (.int .i64 k) := by
  constructor <;> simp [World.cell?, show W.heap[B]? = _ from h]
theorem Pair.kept {W W' : World} {row : Option Nat} {B : Nat} {a k : Int} (h : Pair W B a k) (hg : W.grownBy W' row) (hne : some B ≠ row) : Pair W' B a k :=
  (hg.block B (Array.getElem?_eq_some_iff.1 h).1 hne).trans h
theorem pair_own (B : Nat) (a k : Int) : Own (fun (_ : Unit) W => Pair W B a k) := fun s X Y row hs hg hrow =>
  hs.kept hg (fun e' => by obtain ⟨o, ho, hc⟩ := hrow B e'.symm; rw [show X.heap[B]? = _ from hs] at ho; cases ho; cases hc)
theorem below_keepsFrom {B : Nat} {W W' : World} (h : Below W.heap.size W W') : KeepsFrom B W W' :=
  ⟨h.size, fun k o _ hk _ => (h.block k (Array.getElem?_eq_some_iff.1 hk).1).trans hk⟩
theorem boxed_below {W W' : World} {B : Nat} {t : TypeId} {v : Value} {n : Nat} (h : Boxed W B t v) (hb : Below n W W') (hn : B < n) : Boxed W' B t v := (hb.block B hn).trans h
theorem Pair.below {W W' : World} {B : Nat} {a k : Int} {n : Nat} (h : Pair W B a k) (hb : Below n W W') (hn : B < n) : Pair W' B a k := (hb.block B hn).trans h
theorem Pair.lt {W : World} {B : Nat} {a k : Int} (h : Pair W B a k) : B < W.heap.size := (Array.getElem?_eq_some_iff.1 h).1
theorem all_snoc (ps : List (Int × Int)) (p : Int × Int) : (ps ++ [p]).all mayP = (ps.all mayP && mayP p) := by simp
theorem ownsRow_below {W W' : World} {base : Nat} {e : TypeId} {size : Nat} {v : Value} {k : Nat} {xs : List Value} (h : W.ownsRow base e size v k xs) (hb : Below W.heap.size W W') : W'.ownsRow base e size v k xs := by
  obtain ⟨h0, h1 | ⟨g, cap, cur, h1, h2, h3, h4⟩⟩ := h
  · exact ⟨h0, .inl h1⟩
  · exact ⟨h0, .inr ⟨g, cap, cur, h1, h2, (hb.block g (Array.getElem?_eq_some_iff.1 h3).1).trans h3, h4⟩⟩
theorem pair_new (W : World) (a k : Int) : ∀ j u, [Value.int .i64 a, Value.int .i64 k][j]? = some u → (W.alloc (.cells #[.int .i64 a, .int .i64 k] 25)).cell? (Addr.add ⟨W.heap.size, 0, none⟩ j) = some u := by
  intro j u h
  match j, h with
  | 0, h => simp at h; subst h; simp [Addr.add]
  | 1, h => simp at h; subst h; simp [Addr.add]
  | j + 2, h => simp at h
theorem all_prefix {ps qs : List (Int × Int)} (h : ps <+: qs) (hf : ps.all mayP = false) : qs.all mayP = false := by
  obtain ⟨t, rfl⟩ := h
  rw [List.all_append, hf]; rfl
theorem may_eq (a k : Int) (b : Bool) (h : mayW a k = b) (w : World) : Calls Try.prog 10 #[fld a k] w fun e w' => e = .returned (.bool b) ∧ Below w.heap.size w w' := by
  rw [← h]; exact may_any a k w
set_option maxRecDepth 100000 in
set_option maxHeartbeats 4000000 in
theorem lay_in (n : Nat) (hn : 3 ≤ n) (v : Value) (h1c : v.oneCell' = true) (zs : List Int) (hlen : zs.length ≤ 4096) (w : World) (hL : IntsAt w w.heap.size v zs) :
    CallsIn Fence.wide n Try.prog 18 #[v] w (LayPost w (laidW 0 zs)) := by
  have h1 : 1 ≤ n := by omega
  have hro : Fence.wide.round = none := rfl
  obtain ⟨i0, hi, hz0, hz1, hz2⟩ := info_parts infoField
  refine callsIn_of_wp_marks Try.func18 rfl trivial ?_ hro
  simp only [Try.ntmps18, List.size_toArray, List.length_cons, List.length_nil, Nat.reduceAdd, Nat.reduceSub, Array.replicate_succ, Array.replicate_zero, List.push_toArray, List.append_toArray, List.nil_append, List.cons_append]
  gi_wp2_with (refine ⟨trivial, ?_⟩; gi_at_call 24; refine (inRow_in Fence.wide (n - 1) trivial hro v h1c _).mono ?_; rintro e w' ⟨rfl, rfl⟩)
  have bR := ((Boxed.new w 42 (.slice none 0 0)).alloc (.cells #[.slice none 0 0] 42)).alloc (.cells #[v] 40)
  have bF := (Boxed.new (w.alloc (.cells #[.slice none 0 0] 42)) 42 (.slice none 0 0)).alloc (.cells #[v] 40)
  have bV := Boxed.new ((w.alloc (.cells #[.slice none 0 0] 42)).alloc (.cells #[.slice none 0 0] 42)) 40 v
  simp only [World.size_alloc] at bR bF bV
  have hB0 : Below w.heap.size w (((w.alloc (.cells #[.slice none 0 0] 42)).alloc (.cells #[.slice none 0 0] 42)).alloc (.cells #[v] 40)) := (((Below.refl _ w).alloc (Nat.le_refl _) _).alloc (by simp) _).alloc (by simp; omega) _
  have hsz : (((w.alloc (.cells #[.slice none 0 0] 42)).alloc (.cells #[.slice none 0 0] 42)).alloc (.cells #[v] 40)).heap.size = w.heap.size + 3 := by simp
  obtain ⟨W0, hW0⟩ : ∃ W0, ((w.alloc (.cells #[.slice none 0 0] 42)).alloc (.cells #[.slice none 0 0] 42)).alloc (.cells #[v] 40) = W0 := ⟨_, rfl⟩
  rw [hW0] at bR bF bV hB0 hsz ⊢
  clear hW0
  refine wpIn_rangeFunc_ownH hro h1 (gf := 25) (lb := #[.pointer (some ⟨w.heap.size + 1 + 1, 0, none⟩)]) rfl trivial (enters_of Try.func25 (by kernel_rfl) rfl)
    (inRow1_stops Fence.wide (n - 1) trivial hro (by omega) (w.heap.size + 1 + 1) w.heap.size v zs hlen W0 (by omega) (by omega) bV.cell (hL.below hB0)) belowK_t (belowK_b (by omega)) (Below.refl _ _) (fun _ => rfl)
    (fun pre W => ((pre.all mayP = true ∧ Boxed W w.heap.size 42 (.slice none 0 0)) ∧ (∃ u, Boxed W (w.heap.size + 1) 42 u ∧ W.ownsRow w.heap.size 25 2 u pre.length (cellsP pre) ∧ True)) ∧ Below w.heap.size w W)
    (fun c pre W => ((c = .ret ∧ pre.all mayP = false) ∧ Boxed W w.heap.size 42 (.slice none 0 0)) ∧ Below w.heap.size w W)
    (OwnFrom.and (OwnFrom.and (OwnFrom.and (ownFrom_pure _ _) (Own.from (boxed_own _ _ _) _)) (Own.from (holdsRow_own w.heap.size (w.heap.size + 1) 42 25 2 (fun pre => pre.length) (fun pre => cellsP pre) (fun _ _ => True)) _)) (ownFrom_below (Nat.le_refl _) (by omega)))
    (fun c => OwnFrom.and (OwnFrom.and (ownFrom_pure _ _) (Own.from (boxed_own _ _ _) _)) (ownFrom_below (Nat.le_refl _) (by omega)))
    ⟨⟨⟨rfl, bR⟩, _, bF, World.ownsRow_nil _ _ _ _, trivial⟩, hB0⟩
    (fun x a' W => ∃ Bx, w.heap.size + 1 < Bx ∧ Pair W Bx x.1 x.2 ∧ a' = { tmps := #[v, undef, .pointer (some ⟨w.heap.size, 0, none⟩), .pointer (some ⟨w.heap.size + 1, 0, none⟩), .pointer (some ⟨Bx, 0, none⟩), v, .func (.func 25) #[] #[.pointer (some ⟨w.heap.size + 1 + 1, 0, none⟩)], fld x.1 x.2, undef, undef, undef, undef, undef, undef, undef, undef], defers := [] })
    (fun x a' _ X Y row hs hg hr => by obtain ⟨Bx, e1, e2, e3⟩ := hs; exact ⟨Bx, e1, pair_own Bx x.1 x.2 () X Y row e2 hg (fun r e => (hr r e).2), e3⟩)
    ?assign ?body ?done ?stop
  case assign =>
    rintro l pre x W K ⟨⟨⟨hp, bR1⟩, u, bF1, hrow, _⟩, hB1⟩ hK
    gi_wp2
    exact hK _ _ ((KeepsOthers.alloc _ _).from _) ((Below.refl _ W).alloc hB1.size _) ⟨⟨⟨hp, bR1.alloc _⟩, u, bF1.alloc _, hrow.alloc _, trivial⟩, hB1.alloc hB1.size _⟩ ⟨W.heap.size, bF1.lt, World.alloc_heap_new W _, rfl⟩
  case body =>
    rintro l pre ⟨a, k⟩ a' W hl ⟨r, hr⟩ ⟨⟨⟨hp, bR1⟩, u, bF1, hrow, _⟩, hB1⟩ ⟨Bx, hBx, bX, rfl⟩ hlt
    have bX : Pair W Bx a k := bX
    obtain ⟨x0, x1⟩ := bX.cells
    have h1' : 1 ≤ n - 1 - 1 := by omega
    have hs1 := hB1.size
    cases hmw : mayW a k
    · have hall : (pre ++ [(a, k)]).all mayP = false := by rw [all_snoc, hp]; exact hmw
      have H1 := Lib.hid hmw
      have H2 := Lib.hid hall
      have H3 := Lib.hid hp
      clear hmw hall hp
      gi_wp2_with (refine ⟨trivial, ?_⟩; gi_at_call 10; refine (CallsIn.inRound l (callsIn_wide.2 (may_eq a k false H1.out _))).mono ?_; rintro e w1 ⟨rfl, hb⟩; have bR2 := boxed_below bR1 hb bR1.lt; have c2 := bR2.cell; have f2 := bR2.frozen)
      exact ⟨(below_keepsFrom hb).trans ((KeepsOthers.setCell _ _ _).from _), ⟨⟨rfl, H2.out⟩, bR2.set _⟩, (hB1.trans (hb.mono hs1)).setCell (p := ⟨w.heap.size, 0, none⟩) (Nat.le_refl _) _⟩
    · have hall : (pre ++ [(a, k)]).all mayP = true := by rw [all_snoc, hp]; exact hmw
      have H1 := Lib.hid hmw
      have H2 := Lib.hid hall
      have H3 := Lib.hid hp
      have HC := Lib.hid (cellsP_snoc pre (a, k))
      clear hmw hall hp
      gi_wp2_with (first
        | (refine ⟨trivial, ?_⟩; gi_at_call 10; refine (CallsIn.inRound l (callsIn_wide.2 (may_eq a k true H1.out _))).mono ?_; rintro e w1 ⟨rfl, hb⟩; have bR2 := boxed_below bR1 hb bR1.lt; have bF2 := boxed_below bF1 hb bF1.lt; have bX2 := bX.below hb bX.lt; obtain ⟨y0, y1⟩ := bX2.cells; have hrow2 := ownsRow_below hrow hb; have cF := bF2.cell; have fF := bF2.frozen; have hB2 := hB1.trans (hb.mono hs1); have hs2 := hB2.size)
        | (gi_at_builtin; refine wpListIn_append_own _ rfl _ _ 42 rfl w.heap.size 25 i0 (.agg #[.int .i64 0, .int .i64 0]) 2 16 Try.underlying42 hi hz0 hz1 hz2 rfl (by decide) _ _ _ rfl (hrow2.alloc _) ⟨w1.heap.size, 0, none⟩ 1 1 [.int .i64 a, .int .i64 k] rfl rfl (pair_new _ _ _) (by simp [Value.oneCell']) (by unfold maxLen; omega) (by omega) (by simp; omega) ?_; intro v' w2 hown' hgrow _; obtain ⟨g', cap', rfl⟩ := ownsRow_succ hown'; obtain ⟨hv1, hv2, hr2, hk2, hb2⟩ := bF2.appended (by decide) hrow2 hs2 (by omega) hown' hgrow; have hc1 := hv1.cell; have hf1 := hv1.frozen))
      have bR3 := (((bR2.alloc (.cells #[.int .i64 a, .int .i64 k] 25)).kept hgrow (bR2.not_row (by decide) hrow2)).other (B' := w.heap.size + 1) (by omega) (Value.slice (some { block := g', off := 0 }) (pre.length + 1) cap'))
      exact ⟨(below_keepsFrom hb).trans (hk2.from _), (hb.mono hs1).trans hb2, ⟨⟨H2.out, bR3⟩, _, hv2, by rw [HC.out]; simpa using hr2, trivial⟩, hB2.trans hb2⟩
  case done =>
    rintro D ys W hD rfl ⟨⟨⟨hp, bR1⟩, u, bF1, hrow, _⟩, hB1⟩ hK
    obtain ⟨ua, ul, uc, rfl⟩ : ∃ ua ul uc, u = .slice ua ul uc := by
      rcases hrow.2 with ⟨rfl, _⟩ | ⟨g, cap, cur, rfl, _⟩
      · exact ⟨_, _, _, rfl⟩
      · exact ⟨_, _, _, rfl⟩
    have cF := bF1.cell
    have cR := bR1.cell
    have fR := bR1.frozen
    have H3 := Lib.hid hp
    clear hp
    gi_wp2
    have hK' := (KeepsOthers.setCell W ⟨w.heap.size, 0, none⟩ (.slice ua ul uc)).same D _ hK rfl
    refine ⟨by simp, .inl ⟨_, _, rfl, run_takeDeferred hK', ?_⟩⟩
    have hc5 := cell_kept (bR1.set (.slice ua ul uc)).cell (grownBy_putObj' _ D (.deferred none)) (fun r e => by cases e; exact ⟨_, hK', rfl⟩)
    refine ⟨.slice ua ul uc, ?_, _, rfl, (hB1.setCell (p := ⟨w.heap.size, 0, none⟩) (Nat.le_refl _) _).trans (belowK_b (w := w) (Nat.le_refl _) _ D _ _ (by omega) hK' rfl rfl), .inl ⟨H3.out, ?_⟩⟩
    · simp [results, Try.f18, go_sem, hc5]
    · exact ownsRow_putObj (hrow.kept (grownBy_setCell' W w.heap.size _) (.inr (bR1.not_row (by decide) hrow).symm)) _ hK' rfl
  case stop =>
    rintro D c pre W hD hpre ⟨⟨⟨rfl, hin⟩, bR1⟩, hB1⟩ hK
    have H3 := Lib.hid hin
    clear hin
    gi_wp2
    refine ⟨by simp, .inl ⟨_, _, rfl, run_takeDeferred hK, ?_⟩⟩
    have hc5 := cell_kept bR1.cell (grownBy_putObj' _ D (.deferred none)) (fun r e => by cases e; exact ⟨_, hK, rfl⟩)
    refine ⟨.slice none 0 0, ?_, _, rfl, hB1.trans (belowK_b (w := w) (Nat.le_refl _) W D _ _ (by omega) hK rfl rfl), .inr ⟨?_, rfl⟩⟩
    · simp [results, Try.f18, go_sem, hc5]
    · exact all_prefix hpre H3.out
theorem lay_any (v : Value) (h1c : v.oneCell' = true) (zs : List Int) (hlen : zs.length ≤ 4096) (w : World) (hL : IntsAt w w.heap.size v zs) :
    Calls Try.prog 18 #[v] w (LayPost w (laidW 0 zs)) :=
  callsIn_wide.1 (lay_in 3 (Nat.le_refl _) v h1c zs hlen w hL)
end Go.Proofs.Ytdfnldgjgaieeaa
