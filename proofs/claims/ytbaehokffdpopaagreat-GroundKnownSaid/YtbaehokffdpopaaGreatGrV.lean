/- A ground: what is observed at a monitor. -/
import Derived.Test.YtbaehokffdpopaaGreatGrW
import Derived.Test.YtbaehokffdpopaaGreatGrI
namespace Go.Proofs.YtbaehokffdpopaaGreat
open Go.ChangeShapes Go.WideShapes Go.ChangeAt Go.RowKit Go.Shelf
set_option linter.unusedVariables false
set_option maxRecDepth 100000
set_option linter.unusedSimpArgs false
attribute [local go_sem] Oper.semAt_some
abbrev w1V (b : Nat) : Value := .func (.func 227) #[] #[pW b, pW (b + 1), pW (b + 2)]
theorem waiting_any (G : Nat) (sv : Value) (k : Int) (w : World) (hs : ∃ g n cap, sv = .slice (some ⟨g, 0, none⟩) n cap) :
    Calls Tryz.prog 187 #[pW G, sv, .int .i64 k] w fun e w' => e = .returned (w1V w.heap.size) ∧ w' = ((w.alloc (.cells #[pW G] 31)).alloc (.cells #[sv] 34)).alloc (.cells #[.int .i64 k] 3) := by
  have hmf : ∀ (fn : Fn) (first cap : Array Value) (w : World), (Instr.makeFunc fn first cap).run Tryz.prog w = .ok (.func fn first cap) w := fun _ _ _ _ => rfl
  obtain ⟨g, n, cap, rfl⟩ := hs
  go_enter Tryz.func187, Tryz.ntmps187
  go_wp2
  go_ret
  exact ⟨rfl, rfl⟩
theorem own_keepV {w w' : World} {B size n : Nat} {e : TypeId} {v : Value} {xs : List Value} {F : Nat → Prop} (h : w.ownsRow B e size v n xs) (hk : Keep F w w') (hQ : ∀ g, B ≤ g → v.ownBlock = some g → ¬ F g) : w'.ownsRow B e size v n xs := by
  refine ⟨h.1, ?_⟩
  rcases h.2 with h2 | ⟨g, cap, cur, hv, h3, h4, h5⟩
  · exact .inl h2
  · exact .inr ⟨g, cap, cur, hv, h3, by
      have hlt : g < w.heap.size := (Array.getElem?_eq_some_iff.1 h4).1
      exact (hk.block g hlt (hQ g h3 (by rw [hv]; rfl))).trans h4, h5⟩
theorem int_info14 : ∃ i, Tryz.prog.info? 3 = some i ∧ i.zero = some (.int .i64 0) ∧ i.size = 1 ∧ i.bytes = 8 := by
  have h : (Tryz.prog.info? 3).map (fun i => (i.zero, i.size, i.bytes)) = some (some (.int .i64 0), 1, 8) := by kernel_rfl
  cases hi : Tryz.prog.info? 3 with
  | none => rw [hi] at h; simp at h
  | some i =>
    rw [hi] at h
    simp at h
    exact ⟨i, rfl, h⟩
theorem blk_three (w : World) (o p : Obj) (t : TypeId) (cs : Array Value) : Blk (((w.alloc o).alloc p).alloc (.cells cs t)) (w.heap.size + 2) t cs := by
  have := Blk.new ((w.alloc o).alloc p) t cs
  simpa using this
theorem waitG_le {m : Mp} {mm : List Int} {v : Int} : ∀ j, (waitG m mm v j).length ≤ j
  | 0 => Nat.le_refl _
  | j + 1 => by
    have ih := waitG_le (m := m) (mm := mm) (v := v) j
    by_cases hy : mm[stateN m (j : Int)]? = some v
    · rw [waitG_yes hy, List.length_append]; simp; omega
    · rw [waitG_no hy]; omega
def notO (ow : Int) (l : List Int) : List Int := l.filter (fun t => t ≠ ow)
theorem notO_yes {ow x : Int} (l : List Int) (h : x = ow) : notO ow (l ++ [x]) = notO ow l := by
  unfold notO
  rw [List.filter_append]
  simp [h]
theorem notO_no {ow x : Int} (l : List Int) (h : ¬ x = ow) : notO ow (l ++ [x]) = notO ow l ++ [x] := by
  unfold notO
  rw [List.filter_append]
  simp [h]
theorem notO_len (ow : Int) (l : List Int) : (notO ow l).length ≤ l.length := List.length_filter_le _ _
def ViewPost (w : World) (ow dp : Int) (l : List Int) (e : Ending) (w' : World) : Prop :=
  ∃ u, e = .returned (viewV ow dp u) ∧ SliceAt intE w' u l ∧ (∀ b, u.ownBlock = some b → w.heap.size ≤ b) ∧ Below w.heap.size w w'
set_option maxHeartbeats 4000000 in
theorem monitor_in (n : Nat) (hn : 3 ≤ n) (G : Nat) (m : Mp) (mm : List Int) (k ow dp x : Int) (ga ca : Nat) (w : World) (hm : m.ok) (hml : mm.length = sizeN m) (hk : 0 ≤ k ∧ k < m.n)
    (hG : ∀ V, Below w.heap.size w V → V.cell? ⟨G, 0, none⟩ = some (.int .i64 (m.t : Int)) ∧ V.cell? ⟨G, 1, none⟩ = some (.int .i64 (m.o : Int)) ∧ V.cell? ⟨G, 2, none⟩ = some (.int .i64 (m.n : Int)))
    (lG : G < w.heap.size) (hg : RowW w ga mm) (lg : ga < w.heap.size) (hx : mm[holdN m k]? = some x)
    (hH : ∀ V, Calls Tryz.prog 83 #[.int .u64 x] V fun e w' => e = .returned (.tuple #[.int .i64 ow, .int .i64 dp]) ∧ V = w') :
    CallsIn Fence.wide n Tryz.prog 139 #[pW G, .slice (some ⟨ga, 0, none⟩) mm.length ca, .int .i64 k] w (ViewPost w ow dp (notO ow (waitG m mm (k * 8 + 2) m.t))) := by
  have h1 : 1 ≤ n := by omega
  have hro : Fence.wide.round = none := rfl
  obtain ⟨i0, hi, hz0, hz1, hz2'⟩ := int_info14
  have hk5 : 0 ≤ k ∧ k ≤ 5000 := by have := hm.n; omega
  have hin : holdN m k < mm.length := (List.getElem?_eq_some_iff.1 hx).1
  have hinI : ((holdN m k : Nat) : Int) < (mm.length : Int) := by omega
  have HML := Lib.hid hml
  clear hml
  have hix : ∀ V, (Instr.indexAt 34 (.slice (some ⟨ga, 0, none⟩) mm.length ca) (.int .i64 ((holdN m k : Nat) : Int))).run Tryz.prog V = .ok (.pointer (some ⟨ga, holdN m k, none⟩)) V := by
    intro V
    go_simp
  have HHo := Lib.hid fun V => hold_any m k V hm hk5
  have HHb := Lib.hid hH
  have HG := Lib.hid hG
  have HGG := Lib.hid hg
  have HM := Lib.hid hm
  have HX := Lib.hid hx
  have HK5 := Lib.hid hk5
  clear hG hg hm hx hk hH hk5
  refine callsIn_of_wp_marks Tryz.func139 rfl trivial ?_ hro
  simp only [Tryz.ntmps139, List.size_toArray, List.length_cons, List.length_nil, Nat.reduceAdd, Nat.reduceSub, Array.replicate_succ, Array.replicate_zero, List.push_toArray, List.append_toArray, List.nil_append, List.cons_append]
  have W1 : Below w.heap.size w ((w.alloc (.cells #[.int .i64 0, .int .i64 0, .slice none 0 0] 58)).alloc (.cells #[.int .i64 0, .int .i64 0, .slice none 0 0] 58)) := by go_grown
  obtain ⟨c0, c1, c2⟩ := HG.out _ W1
  have hr := (HGG.out.keep (F := fun _ => False) (Keep.ofBelow W1) (fun h => h)) _ _ HX.out
  have hR0 : Blk ((w.alloc (.cells #[.int .i64 0, .int .i64 0, .slice none 0 0] 58)).alloc (.cells #[.int .i64 0, .int .i64 0, .slice none 0 0] 58)) w.heap.size 58 (viewA 0 0 (.slice none 0 0)) := (Blk.new w _ _).alloc _
  have hV0 : Blk ((w.alloc (.cells #[.int .i64 0, .int .i64 0, .slice none 0 0] 58)).alloc (.cells #[.int .i64 0, .int .i64 0, .slice none 0 0] 58)) (w.heap.size + 1) 58 (viewA 0 0 (.slice none 0 0)) := blk_two w _ _ _
  have sW1 : ((w.alloc (.cells #[.int .i64 0, .int .i64 0, .slice none 0 0] 58)).alloc (.cells #[.int .i64 0, .int .i64 0, .slice none 0 0] 58)).heap.size = w.heap.size + 2 := by simp
  gi_wp2_with (first
    | (refine ⟨trivial, ?_⟩; gi_at_call 46; generalize ((w.alloc (.cells #[.int .i64 0, .int .i64 0, .slice none 0 0] 58)).alloc (.cells #[.int .i64 0, .int .i64 0, .slice none 0 0] 58)) = Wa at *; refine (callsIn_wide.2 (HHo.out _)).mono ?_; rintro e w6 ⟨rfl, b6⟩; replace hr := cell_below hr b6; have R6 := hR0.below b6 hR0.lt; have V6 := hV0.below b6 hV0.lt; have e0 := V6.cell 0 _ rfl; have e1 := V6.cell 1 _ rfl; have f0 := V6.free 0; have f1 := V6.free 1)
    | (refine ⟨trivial, ?_⟩; gi_at_call 83; refine (callsIn_wide.2 (HHb.out _)).mono ?_; rintro e w7 ⟨rfl, rfl⟩)
    | (refine ⟨trivial, ?_⟩; gi_at_call 187; generalize hw8 : ((w6.setCell ⟨w.heap.size + 1, 0, none⟩ (.int .i64 ow)).setCell ⟨w.heap.size + 1, 1, none⟩ (.int .i64 dp)) = w8; refine (callsIn_wide.2 (waiting_any G _ k _ ⟨_, _, _, rfl⟩)).mono ?_; rintro e w9 ⟨rfl, rfl⟩))
  have V8 : Blk w8 (w.heap.size + 1) 58 (viewA ow dp (.slice none 0 0)) := by rw [← hw8]; exact (V6.set 0 _).set 1 _
  have k68 : Keep (fun b => b = w.heap.size + 1) w6 w8 := by rw [← hw8]; exact ((Keep.refl (fun b => b = w.heap.size + 1) w6).set (p := ⟨w.heap.size + 1, 0, none⟩) (fun _ => rfl) _).set (p := ⟨w.heap.size + 1, 1, none⟩) (fun _ => rfl) _
  have R8 := R6.keep k68 (by omega)
  have s6 := b6.size
  have s8 := k68.size
  have b68 : Below w.heap.size w w8 := (W1.trans (b6.mono (by omega))).trans (k68.below (by omega) (fun i _ e => by omega))
  clear hw8 hr hR0 hV0 R6 V6 e0 e1 f0 f1 c0 c1 c2
  obtain ⟨B, hB⟩ : ∃ B, B = w8.heap.size := ⟨_, rfl⟩
  rw [← hB]
  generalize hV : (((w8.alloc _).alloc _).alloc _) = V
  have bV : Below w8.heap.size w8 V := by rw [← hV]; go_grown
  have sV : V.heap.size = B + 3 := by rw [← hV, hB]; simp
  have bBg : Blk V B 31 #[pW G] := by rw [← hV, hB]; exact ((Blk.new w8 _ _).alloc _).alloc _
  have bBa : Blk V (B + 1) 34 #[.slice (some ⟨ga, 0, none⟩) mm.length ca] := by rw [← hV, hB]; exact (blk_two w8 _ _ _).alloc _
  have bBn : Blk V (B + 2) 3 #[.int .i64 k] := by rw [← hV, hB]; exact blk_three w8 _ _ _ _
  clear hV
  have VV := V8.below bV V8.lt
  have RV := R8.below bV R8.lt
  have bwV : Below w.heap.size w V := b68.trans (bV.mono (by omega))
  obtain ⟨g0, g1, g2⟩ := HG.out V bwV
  have hgV := HGG.out.keep (F := fun _ => False) (Keep.ofBelow bwV) (fun h => h)
  have hBl : w.heap.size + 2 ≤ B := by omega
  have hBw := Lib.hid hB
  have sV1 : B + 3 ≤ V.heap.size := by omega
  obtain ⟨N, hN1, hN2⟩ : ∃ N, V.heap.size + 2 ≤ N ∧ N ≤ V.heap.size + 2 := ⟨_, Nat.le_refl _, Nat.le_refl _⟩
  clear V8 R8 k68 b68 bV W1 b6 sW1 s6 s8 sV hB
  refine wpIn_range_ownZ hro h1 (gf := 227) (lb := #[pW B, pW (B + 1), pW (B + 2)]) rfl trivial (enters_of Tryz.func227 (by kernel_rfl) rfl)
    (encs := fun t : Int => #[.int .i64 t]) (xs := waitG m mm (k * 8 + 2) m.t) (Qb := fun i => i = w.heap.size + 1 ∨ N ≤ i) (Z := fun _ => False) (fun i e => by omega) (fun i e => e.elim)
    (wait1_own (n - 1) (by omega) G m mm k ga ca B (B + 1) (B + 2) _ V HM.out HML.out HK5.out g0 g1 g2 bBg bBa bBn hgV (by omega) (by omega) (by omega) (by omega) (by omega)) (fun _ => rfl)
    (fun pre W => ∃ u, Blk W (w.heap.size + 1) 58 (viewA ow dp u) ∧ Blk W w.heap.size 58 (viewA 0 0 (.slice none 0 0)) ∧ W.ownsRow N 3 1 u (notO ow pre).length ((notO ow pre).map (.int .i64)) ∧ Below w.heap.size w W)
    (fun s A A' ⟨u, i1, i2, i3, i4⟩ hk => ⟨u, i1.keep hk (fun h => by rcases h with h | h; exact h; omega), i2.keep hk (fun h => by rcases h with h | h; exact h; omega), own_keepV i3 hk (fun g hg _ h => by rcases h with h | h; exact h; omega), i4.trans (hk.below i4.size (fun i hi h => by rcases h with h | h; exact h.elim; omega))⟩)
    ⟨_, VV, RV, World.ownsRow_nil _ _ _ _, bwV⟩
    (fun x' a' W => a' = { tmps := #[pW G, .slice (some ⟨ga, 0, none⟩) mm.length ca, .int .i64 k, undef, undef, undef, pW w.heap.size, pW (w.heap.size + 1), .int .i64 x', .tuple #[.int .i64 ow, .int .i64 dp], .slice (some ⟨ga, 0, none⟩) mm.length ca, pW G, pW G, pW G, mapV m, .int .i64 k, .int .i64 ((holdN m k : Nat) : Int), .pointer (some ⟨ga, holdN m k, none⟩), .int .u64 x, .tuple #[.int .i64 ow, .int .i64 dp], .int .i64 ow, .int .i64 dp, pW (w.heap.size + 1), .pointer (some ⟨w.heap.size + 1, 1, none⟩), pW G, .slice (some ⟨ga, 0, none⟩) mm.length ca, .int .i64 k, w1V B, .int .i64 x', undef, undef, undef, undef, undef, undef, undef, undef, undef, undef, undef], defers := [] })
    (fun x a' A A' h _ => h)
    ?assign ?body ?done
  case assign =>
    rintro pre x W K hI hsz hK
    gi_wp2
    exact hK _ _ (Below.refl _ W) (by rw [hBw.out])
  case body =>
    rintro pre x' a' W ⟨u, bA, bR, hrow, hb⟩ rfl hsz hlen hz
    have hsl : ∃ ua ul uc, u = .slice ua ul uc := by
      rcases hrow.2 with ⟨rfl, _⟩ | ⟨g, cap, cur, rfl, _⟩
      · exact ⟨_, _, _, rfl⟩
      · exact ⟨_, _, _, rfl⟩
    obtain ⟨ua, ul, uc, rfl⟩ := hsl
    have hgb : ∀ g', (Value.slice ua ul uc).ownBlock = some g' → N ≤ g' := fun g' hg' => by
      rcases hrow.2 with ⟨e, _⟩ | ⟨g2, cap2, cur, e, h2, _⟩
      · rw [e] at hg'; cases hg'
      · rw [e] at hg'
        obtain rfl : g2 = g' := by simpa [Value.ownBlock] using hg'
        exact h2
    have hpl : (notO ow pre).length ≤ 40000 := by
      have z1 := notO_len ow pre
      have z2 := waitG_le (m := m) (mm := mm) (v := k * 8 + 2) m.t
      have z3 := HM.out.t
      omega
    have hsb := hb.size
    by_cases hxo : x' = ow
    · have HFE := Lib.hid (notO_yes pre hxo)
      have e0 := bA.cell 0 _ rfl
      have hxe : (x' == ow) = true := by simpa using hxo
      subst hxo
      clear hlen
      have HAL := Lib.hid (And.intro bA (And.intro bR (And.intro hrow hb)))
      clear bA bR hrow hb
      gi_wp2
      exact ⟨⟨_, HAL.out.1, HAL.out.2.1, by rw [HFE.out]; exact HAL.out.2.2.1, HAL.out.2.2.2⟩, Keep.refl _ _⟩
    · have HFE := Lib.hid (notO_no pre hxo)
      have HCM := Lib.hid (show (notO ow (pre ++ [x'])).map (Value.int .i64) = (notO ow pre).map (Value.int .i64) ++ [.int .i64 x'] by rw [HFE.out]; simp)
      have HCL := Lib.hid (show (notO ow (pre ++ [x'])).length = (notO ow pre).length + 1 by rw [HFE.out]; simp)
      have e0 := bA.cell 0 _ rfl
      have e2 := bA.cell 2 _ rfl
      have f2 := bA.free 2
      have hxe : (x' == ow) = false := by simpa using hxo
      clear hxo hlen
      gi_wp2_with (gi_at_builtin; refine wpListIn_append_own _ rfl _ _ 23 rfl N 3 i0 (.int .i64 0) 1 8 Tryz.underlying23 hi hz0 hz1 hz2' rfl (by decide) _ _ _ rfl (own_keepV hrow ((Keep.refl (fun _ => False) W).alloc _) (fun _ _ _ h => h)) ⟨W.heap.size, 0, none⟩ 1 1 [.int .i64 x'] rfl rfl (cell_one_new _ _ _) (by simp [Value.oneCell']) (by unfold maxLen; omega) (by omega) (by rw [World.size_alloc]; omega) ?_; intro v' w6 hown' hgrow _; obtain ⟨g', cap', rfl⟩ := ownsRow_succ hown'; have k6 : Keep (fun b => N ≤ b) W w6 := ⟨hgrow.os, hgrow.tape, hgrow.output, Nat.le_trans (by rw [World.size_alloc]; omega) hgrow.size, fun k hk hn => (hgrow.block k (by rw [World.size_alloc]; omega) (fun e => hn (hgb k e.symm))).trans (Below.heap_alloc W _ k hk)⟩; have bA6 := bA.keep k6 (by omega); have bR6 := bR.keep k6 (by omega); have c9 := bA6.cell 2 _ rfl; have f9 := bA6.free 2)
      refine ⟨⟨_, bA6.set 2 _, bR6.keep ((Keep.refl (fun b => b = w.heap.size + 1) w6).set (p := ⟨w.heap.size + 1, 2, none⟩) (fun _ => rfl) _) (by omega), ?_, ?_⟩, ?_⟩
      · have hkk := own_keepV hown' ((Keep.refl (fun b => b = w.heap.size + 1) w6).set (p := ⟨w.heap.size + 1, 2, none⟩) (fun _ => rfl) (.slice (some ⟨g', 0, none⟩) ((notO ow pre).length + 1) cap')) (fun g hg _ => by omega)
        rw [HCM.out, HCL.out]
        exact hkk
      · exact (hb.trans (k6.below hsb (fun i hi h => by omega))).setCell (p := ⟨w.heap.size + 1, 2, none⟩) (by simp) _
      · exact (k6.mono (fun _ _ h => .inr h)).set (p := ⟨w.heap.size + 1, 2, none⟩) (fun _ => .inl rfl) _
  case done =>
    rintro W ⟨u, bA, bR, hrow, hb⟩ hsz hK
    have e0 := bA.cell 0 _ rfl
    have e1 := bA.cell 1 _ rfl
    have e2 := bA.cell 2 _ rfl
    have z0 := bR.free 0
    have z1 := bR.free 1
    have z2 := bR.free 2
    have y0 := bR.cell 0 _ rfl
    have y1 := bR.cell 1 _ rfl
    have y2 := bR.cell 2 _ rfl
    obtain ⟨ua, ul, uc, rfl⟩ : ∃ ua ul uc, u = .slice ua ul uc := by
      rcases hrow.2 with ⟨rfl, _⟩ | ⟨g, cap, cur, rfl, _⟩
      · exact ⟨_, _, _, rfl⟩
      · exact ⟨_, _, _, rfl⟩
    gi_wp2
    have k3 : Keep (fun b => b = w.heap.size) W (((W.setCell ⟨w.heap.size, 0, none⟩ (.int .i64 ow)).setCell ⟨w.heap.size, 1, none⟩ (.int .i64 dp)).setCell ⟨w.heap.size, 2, none⟩ (.slice ua ul uc)) := (((Keep.refl (fun b => b = w.heap.size) W).set (p := ⟨w.heap.size, 0, none⟩) (fun _ => rfl) _).set (p := ⟨w.heap.size, 1, none⟩) (fun _ => rfl) _).set (p := ⟨w.heap.size, 2, none⟩) (fun _ => rfl) _
    have R3 := ((bR.set 0 (.int .i64 ow)).set 1 (.int .i64 dp)).set 2 (.slice ua ul uc)
    generalize (((W.setCell ⟨w.heap.size, 0, none⟩ (.int .i64 ow)).setCell ⟨w.heap.size, 1, none⟩ (.int .i64 dp)).setCell ⟨w.heap.size, 2, none⟩ (.slice ua ul uc)) = W3 at *
    have hK3 := (k3.block V.heap.size (Array.getElem?_eq_some_iff.1 hK).1 (by omega)).trans hK
    have k1 := keep_put (W := W3) (l := V.heap.size) (.deferred none)
    have R4 := R3.keep k1 (by omega)
    have hr2 := own_keepV (own_keepV hrow k3 (fun g hg _ => by omega)) k1 (fun g hg _ => by omega)
    have hsb := hb.size
    have hb3 := (hb.trans (k3.below hsb (fun i hi e => by omega))).trans (k1.below (by have := k3.size; omega) (fun i hi e => by omega))
    have q0 := R4.cell 0 _ rfl
    have q1 := R4.cell 1 _ rfl
    have q2 := R4.cell 2 _ rfl
    refine ⟨by simp, .inl ⟨_, _, rfl, run_takeDeferred hK3, ?_⟩⟩
    generalize W3.putObj V.heap.size (.deferred none) = W4 at *
    refine ⟨viewV ow dp (.slice ua ul uc), by simp [results, Tryz.results139, go_sem, q0, q1, q2], ⟨_, rfl, ?_, ?_, hb3⟩⟩
    rotate_left
    · intro b hb'
      rcases hr2.2 with ⟨e, _⟩ | ⟨g2, cap2, cur, e, h2, _⟩
      · rw [e] at hb'; cases hb'
      · rw [e] at hb'
        obtain rfl : g2 = b := by simpa [Value.ownBlock] using hb'
        omega
    generalize notO ow (waitG m mm (k * 8 + 2) m.t) = l at *
    rcases id hr2.2 with ⟨e, h0⟩ | ⟨g', cap', cur, e, h1, h2, h3, _⟩
    · rw [e]
      have hl0 : l = [] := List.length_eq_zero_iff.1 h0
      subst hl0
      exact nil_slice _
    · rw [e] at hr2 ⊢
      refine ⟨some ⟨g', 0, none⟩, cap', rfl, fun i x hx => ⟨g', 0, rfl, ?_⟩⟩
      have := hr2.cells (g := g') rfl i (.int .i64 x) (by rw [List.getElem?_map, hx]; rfl)
      rw [addr_add] at this
      rw [Nat.zero_add]
      exact this
theorem monitor_any (G : Nat) (m : Mp) (mm : List Int) (k ow dp x : Int) (ga ca : Nat) (w : World) (hm : m.ok) (hml : mm.length = sizeN m) (hk : 0 ≤ k ∧ k < m.n)
    (hG : ∀ V, Below w.heap.size w V → V.cell? ⟨G, 0, none⟩ = some (.int .i64 (m.t : Int)) ∧ V.cell? ⟨G, 1, none⟩ = some (.int .i64 (m.o : Int)) ∧ V.cell? ⟨G, 2, none⟩ = some (.int .i64 (m.n : Int)))
    (lG : G < w.heap.size) (hg : RowW w ga mm) (lg : ga < w.heap.size) (hx : mm[holdN m k]? = some x)
    (hH : ∀ V, Calls Tryz.prog 83 #[.int .u64 x] V fun e w' => e = .returned (.tuple #[.int .i64 ow, .int .i64 dp]) ∧ V = w') :
    Calls Tryz.prog 139 #[pW G, .slice (some ⟨ga, 0, none⟩) mm.length ca, .int .i64 k] w (ViewPost w ow dp (notO ow (waitG m mm (k * 8 + 2) m.t))) :=
  callsIn_wide.1 (monitor_in 3 (Nat.le_refl _) G m mm k ow dp x ga ca w hm hml hk hG lG hg lg hx hH)
end Go.Proofs.YtbaehokffdpopaaGreat
