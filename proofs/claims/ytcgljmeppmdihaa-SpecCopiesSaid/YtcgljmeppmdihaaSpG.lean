/- Package spec: the iterator over the threads that wait; longest. -/
import Derived.Test.YtcgljmeppmdihaaSpC
import Derived.RangeFuncNested
import Derived.RangeFuncBound
import Derived.RangeFuncCalls
import Derived.RangeFuncLeaves
import Derived.RangeFuncFrom
import Derived.Shelf.Abstract
import Derived.Shelf.RegionOpen
import Derived.OwnWalkIn
import Derived.TacticsInMore
import Derived.LoopNIn
import Derived.LoopIn
namespace Go.Proofs.Ytcgljmeppmdihaa
open Go.ChangeShapes Go.WideShapes Go.ChangeAt Go.RowKit Go.Shelf
set_option linter.unusedVariables false
set_option maxRecDepth 100000
set_option linter.unusedSimpArgs false
attribute [local go_sem] Oper.semAt_some
theorem saddr_add (B o j : Nat) : (⟨B, o, none⟩ : Addr).add j = ⟨B, o + j, none⟩ := by
  simp only [Addr.add]
  split
  · next h => subst h; rfl
  · rfl
/-- a slice of numbers that is read -/
def LineR (w : World) (A : Nat → Prop) (v : Value) (l : List Int) : Prop := ∃ a c, v = .slice a l.length c ∧ ∀ (i : Nat) x, l[i]? = some x → ∃ g, a = some ⟨g, 0, none⟩ ∧ A g ∧ w.cell? ⟨g, i, none⟩ = some (.int .i64 x)
theorem lineR {w : World} {A : Nat → Prop} {base : Nat} {l : List Int} {v : Value} (h : w.ownsRow base 3 1 v l.length (iL l)) (hA : ∀ g, v.ownBlock = some g → A g) : LineR w A v l := by
  rcases h.2 with ⟨hv, h0⟩ | ⟨g, cap, cur, hv, _⟩
  · obtain rfl := List.length_eq_zero_iff.1 h0
    exact ⟨none, 0, hv, fun i x hx => by simp at hx⟩
  · refine ⟨some ⟨g, 0, none⟩, cap, hv, fun i x hx => ⟨g, rfl, hA g (by rw [hv]; rfl), ?_⟩⟩
    rw [hv] at h
    have := h.cells (g := g) rfl i (.int .i64 x) (by rw [List.getElem?_map, hx]; rfl)
    rwa [saddr_add, Nat.zero_add] at this
theorem SpecAt.line {w : World} {A : Nat → Prop} {p : Pl} {s : SS} (h : SpecAt w A p s) {o : Nat} {b : Ob} (hb : s.O[o]? = some b) : ∃ v, w.cell? ⟨p.O, o * 3 + 2, none⟩ = some v ∧ LineR w A v b.line := by
  obtain ⟨V, hR, hL⟩ := h.obs
  exact ⟨V o, hR.cell hb 2 _ rfl, lineR (hL.row o b hb) (fun g hg => hL.mine o g (obj_lt hb) hg)⟩
theorem idx_ints (len c B i : Nat) (h : i < len) : ∀ W, (Instr.indexAt 30 (.slice (some ⟨B, 0, none⟩) len c) (.int .i64 (i : Int))).run Try.prog W = .ok (.pointer (some ⟨B, i, none⟩)) W := by
  intro W
  go_simp
theorem attach_at {l : List Int} {k : Nat} (h : k < l.length) : l.attach.take (k + 1) = l.attach.take k ++ [⟨l[k], List.getElem_mem h⟩] := by
  rw [List.take_add_one]
  rw [List.getElem?_eq_getElem (by simpa using h)]
  simp
set_option maxHeartbeats 4000000 in
theorem wait1_stops (n : Nat) (hn : 1 ≤ n) {w : World} {A Q : Nat → Prop} {p : Pl} {s : SS} (h : SpecAt w A p s) {o : Nat} {b : Ob} (hb : s.O[o]? = some b) (b1 b2 : Nat) (h1 : w.cell? ⟨b1, 0, none⟩ = some (spV p)) (h2 : w.cell? ⟨b2, 0, none⟩ = some (.int .i64 (o : Int)))
    (l1 : b1 < w.heap.size) (l2 : b2 < w.heap.size) (hln : b.line.length ≤ 32766) (hQ : ∀ i, A i → ¬ Q i) (q1 : ¬ Q b1) (q2 : ¬ Q b2) :
    SeqStopsK Fence.wide n Try.prog 39 #[ptrV b1 0, ptrV b2 0] (fun t : { x : Int // x ∈ b.line } => #[.int .i64 t.1]) (Keep Q) (fun xs => xs = b.line.attach) (fun pre => ∃ k, pre = b.line.attach.take k) b.line.length w := by
  intro lp J Jx W hW hJ hJx hY h0
  have hro : Fence.wide.round = none := rfl
  have kW : Keep (fun _ => False) w W := Keep.ofBelow hW
  have d1 := scell_keep h1 kW (fun h => h)
  have d2 := scell_keep h2 kW (fun h => h)
  have hS := h.keep kW (fun _ _ h => h)
  have c1 := hS.c1
  obtain ⟨v, cv, a, c, rfl, hrow⟩ := hS.line hb
  have iy := idx_objs p.O s.O.length p.cO o (obj_lt hb)
  have HRow := Lib.hid hrow
  clear hrow hS h h1 h2 l1 l2 hW kW
  obtain ⟨ll, hll⟩ : ∃ ll, ll = b.line.length := ⟨_, rfl⟩
  have HLL := Lib.hid hll
  rw [← hll] at cv hY hln
  clear hll
  refine callsIn_of_wp Try.func39 rfl trivial ?_ hro
  simp only [Try.ntmps39, List.size_toArray, List.length_cons, List.length_nil, Nat.reduceAdd, Nat.reduceSub, Array.replicate_succ, Array.replicate_zero, List.push_toArray, List.append_toArray, List.nil_append, List.cons_append]
  gi_wp2
  refine wpIn_wide.2 ?_
  go_quiet (fail)
  generalize hq : World.drewN _ _ = W2
  have bW : Below W.heap.size W W2 := by rw [← hq]; exact ⟨rfl, rfl, rfl, Nat.le_refl _, fun _ _ => rfl⟩
  have j2 : J [] W2 := hJ _ _ _ none h0 (by rw [← hq]; exact ⟨rfl, rfl, rfl, Nat.le_refl _, fun _ _ _ => rfl⟩) (fun r e => by cases e)
  have HR2 := Lib.hid (show ∀ (i : Nat) (x : Int), b.line[i]? = some x → ∃ g, a = some ⟨g, 0, none⟩ ∧ A g ∧ W2.cell? ⟨g, i, none⟩ = some (.int .i64 x) from fun i x hx => by
    obtain ⟨g, e1, e2, e3⟩ := HRow.out i x hx
    exact ⟨g, e1, e2, by rw [← hq]; exact e3⟩)
  have HJ := Lib.hid hJ
  have HJx := Lib.hid hJx
  have HY := Lib.hid hY
  have HbW := Lib.hid bW
  clear hq HRow h0 d1 d2 c1 cv iy hJ hJx hY bW
  gi_wp2
  gi_loopw [15] (fun v15 wr => ∃ k : Nat, k ≤ ll ∧ v15 = .int .i64 k ∧ J (b.line.attach.take k) wr ∧ Hid (∀ (i : Nat) (x : Int), b.line[i]? = some x → ∃ g, a = some ⟨g, 0, none⟩ ∧ A g ∧ wr.cell? ⟨g, i, none⟩ = some (.int .i64 x)))
    (fun v15 _ => ll - (intOf v15).toNat)
  case atStart => exact ⟨0, Nat.zero_le _, rfl, by simpa using j2, HR2⟩
  case round =>
    clear j2 HR2
    obtain ⟨k, hk, rfl, hj, HR⟩ := hrel
    by_cases hlt : k < ll
    · have hkl : k < b.line.length := by rw [← HLL.out]; exact hlt
      obtain ⟨x0, hx0, hx1⟩ : ∃ x0 : { x : Int // x ∈ b.line }, b.line.attach.take (k + 1) = b.line.attach.take k ++ [x0] ∧ b.line[k]? = some x0.1 := ⟨⟨b.line[k], List.getElem_mem hkl⟩, attach_at hkl, List.getElem?_eq_getElem hkl⟩
      obtain ⟨g, hg, hgA, hc⟩ := HR.out k x0.1 hx1
      subst hg
      have hix := idx_ints ll c g k hlt
      have hlen : (b.line.attach.take k).length < ll := by rw [List.length_take]; omega
      obtain ⟨fn, tmps, assign, body, hy, hRd⟩ := HY.out (b.line.attach.take k) x0 wr hj hlen
      have hki : (k : Int) < (ll : Int) := by omega
      have HX0 := Lib.hid hx0
      clear hlen hkl hj hx1 hx0
      gi_wp2
      refine hRd.mono ?_
      rintro e W3 (⟨rfl, hJ3, hk3⟩ | ⟨rfl, hJx3⟩)
      · rw [← HX0.out] at hJ3
        have HR3 := Lib.hid (show ∀ (i : Nat) (x : Int), b.line[i]? = some x → ∃ g_1, some (⟨g, 0, none⟩ : Addr) = some ⟨g_1, 0, none⟩ ∧ A g_1 ∧ W3.cell? ⟨g_1, i, none⟩ = some (.int .i64 x) from fun i x hx => by
          obtain ⟨g1, e1, e2, e3⟩ := HR.out i x hx
          exact ⟨g1, e1, e2, scell_keep e3 hk3 (hQ _ e2)⟩)
        clear hk3 hc hix hy hRd
        gi_wp2
        go_roundw
        case rel => exact ⟨k + 1, by omega, by go_num, hJ3, HR3⟩
        case measure => simp [intOf]; omega
      · rw [← HX0.out] at hJx3
        have HJ3 := Lib.hid hJx3
        clear hJx3 hc hix hy hRd
        gi_wp2
        exact bodyPost_ret (v := .tuple #[]) (by simp [results, Try.results39, go_sem]) rfl ⟨⟨_, rfl⟩, .inr ⟨_, ⟨k + 1, rfl⟩, HJ3.out⟩⟩
    · obtain rfl : k = ll := by omega
      have hki : ¬ (k : Int) < (k : Int) := by omega
      have HJe := Lib.hid hj
      clear hj
      gi_wp2
      go_end0
      refine ⟨⟨_, rfl⟩, .inl ?_⟩
      have := HJe.out
      rwa [HLL.out, List.take_of_length_le (by simp)] at this
theorem waiting_any (p : Pl) (o : Int) (w : World) :
    Calls Try.prog 25 #[spV p, .int .i64 o] w fun e w' => e = .returned (.func (.func 39) #[] #[ptrV w.heap.size 0, ptrV (w.heap.size + 1) 0]) ∧ w'.cell? ⟨w.heap.size, 0, none⟩ = some (spV p) ∧ w'.cell? ⟨w.heap.size + 1, 0, none⟩ = some (.int .i64 o) ∧ w.heap.size + 1 < w'.heap.size ∧ Below w.heap.size w w' := by
  have hmf : ∀ (fn : Fn) (first cap : Array Value) (w : World), (Instr.makeFunc fn first cap).run Try.prog w = .ok (.func fn first cap) w := fun _ _ _ _ => rfl
  go_enter Try.func25, Try.ntmps25
  go_wp2_with fail
  go_ret
  have b1 := Blk.new w 28 #[spV p]
  have b2 := Blk.new (w.alloc (.cells #[spV p] 28)) 3 #[.int .i64 o]
  refine ⟨by simp, (b1.alloc _).cell 0 _ rfl, ?_, by simp, by go_grown⟩
  have := b2.cell 0 _ rfl
  rwa [World.size_alloc] at this
/-- what longest knows while it looks -/
def NoneOf (s : SS) (l : List Int) : Prop := ∀ u ∈ l, prOf s u ≠ 2
theorem longest_skip {s : SS} : ∀ {l m : List Int}, NoneOf s l → longestS s (l ++ m) = longestS s m
  | [], m, _ => rfl
  | u :: l, m, h => by
    show (if prOf s u = 2 then u else longestS s (l ++ m)) = _
    rw [if_neg (h u (by simp))]
    exact longest_skip (fun v hv => h v (by simp [hv]))
theorem longest_hit {s : SS} {l m : List Int} {u : Int} (h : NoneOf s l) (hu : prOf s u = 2) : longestS s (l ++ u :: m) = u := by
  rw [longest_skip h]
  show (if prOf s u = 2 then u else _) = u
  rw [if_pos hu]
theorem longest_none {s : SS} {l : List Int} (h : NoneOf s l) : longestS s l = -1 := by
  have := longest_skip (m := []) h
  rw [List.append_nil] at this
  exact this
theorem attach_val (l : List Int) (k : Nat) : (l.attach.take k).map Subtype.val = l.take k := by rw [List.map_take, List.attach_map_subtype_val]
theorem cellI_own {β : Type} (B : Nat) (a : Addr) (v : β → Value) : OwnFrom (β := β) B (fun s W => W.cell? a = some (v s)) := fun s A C row hs hg hr => cell_kept hs hg (fun r e => (hr r e).2)
theorem skeep_put {W : World} {l : Nat} (o : Obj) : Keep (fun i => i = l) W (W.putObj l o) :=
  ⟨rfl, rfl, rfl, by simp [World.putObj], fun i _ hi => World.putObj_heap_other (fun e => hi (by first | exact e | exact e.symm))⟩
set_option maxHeartbeats 4000000 in
theorem longest_in {w : World} {A : Nat → Prop} {p : Pl} {s : SS} (h : SpecAt w A p s) (hwf : WF s) {o : Nat} {b : Ob} (hb : s.O[o]? = some b) (n : Nat) (hn : 3 ≤ n) :
    CallsIn Fence.wide n Try.prog 73 #[spV p, .int .i64 (o : Int)] w fun r w' => r = .returned (.int .i64 (longestS s b.line)) ∧ Below w.heap.size w w' := by
  have hro : Fence.wide.round = none := rfl
  have h1 : 1 ≤ n := by omega
  refine callsIn_of_wp_marks Try.func73 rfl trivial ?_ hro
  simp only [Try.ntmps73, List.size_toArray, List.length_cons, List.length_nil, Nat.reduceAdd, Nat.reduceSub, Array.replicate_succ, Array.replicate_zero, List.push_toArray, List.append_toArray, List.nil_append, List.cons_append]
  have HWait := Lib.hid (fun W => waiting_any p (o : Int) W)
  gi_wp2_with ((refine ⟨trivial, ?_⟩; gi_at_call 25; refine (callsIn_wide.2 (HWait.out _)).mono ?_; rintro e w1 ⟨rfl, e1, e2, e3, eb⟩))
  have HE1 := Lib.hid e1
  have HE2 := Lib.hid e2
  clear HWait
  simp only [World.size_alloc] at e1 e2 e3 eb
  have hbs : w1.cell? ⟨w.heap.size, 0, none⟩ = some (spV p) := (eb.cell (p := ⟨w.heap.size, 0, none⟩) (by show w.heap.size < _; omega)).trans (((Blk.new w 28 #[spV p]).alloc _).cell 0 _ rfl)
  have hbr : Blk w1 (w.heap.size + 1) 3 #[.int .i64 0] := (blk_two w _ 3 #[.int .i64 0]).below eb (by omega)
  have eb0 : Below w.heap.size w w1 := (((Below.refl _ w).alloc (Nat.le_refl _) _).alloc (by simp) _).trans (eb.mono (by omega))
  have hS := h.below eb0
  have hb0 := hb
  have hln := hwf.len hb
  have hTn := hwf.sz.1
  have HWF := Lib.hid hwf
  obtain ⟨n0, hn0⟩ : ∃ n0, n0 = w.heap.size := ⟨_, rfl⟩
  have hlt : ∀ k, A k → k < n0 := by rw [hn0]; exact h.lt
  rw [← hn0] at e1 e2 e3 hbs hbr
  have HN0 := Lib.hid hn0
  rw [show (Value.pointer (some ⟨w.heap.size, 0, none⟩)) = ptrV n0 0 by rw [← hn0], show (Value.pointer (some ⟨w.heap.size + 1, 0, none⟩)) = ptrV (n0 + 1) 0 by rw [← hn0], show ptrV (w.heap.size + 1 + 1) 0 = ptrV (n0 + 2) 0 by rw [← hn0], show ptrV (w.heap.size + 1 + 1 + 1) 0 = ptrV (n0 + 3) 0 by rw [← hn0]]
  clear hn0
  have gk : ∀ {U V : World} {row : Option Nat}, U.grownBy V row → (∀ r, row = some r → w1.heap.size ≤ r ∧ ∃ o : Obj, U.heap[r]? = some o ∧ o.isCells = false) → Keep (fun i => w1.heap.size ≤ i) U V := fun {U V row} hg hr =>
    ⟨hg.1, hg.2, hg.3, hg.4, fun k hk hn => hg.5 k hk (fun e => hn (hr k e.symm).1)⟩
  refine wpIn_rangeFunc_ownF (w := w1) hro h1 (gf := 39) (lb := #[ptrV (n0 + 2) 0, ptrV (n0 + 3) 0]) rfl trivial (enters_of Try.func39 (by kernel_rfl) rfl)
    (wait1_stops (n - 1) (by omega) (Q := fun i => i = n0 + 1 ∨ w1.heap.size ≤ i) hS hb0 (n0 + 2) (n0 + 3) e1 e2 (by omega) (by omega) (by omega) (fun i hi hq => by have := hlt i hi; omega) (by omega) (by omega))
    (fun h k => h.trans k) (fun W l o o' hl h0 _ _ => ⟨rfl, rfl, rfl, by simp [World.putObj], fun i _ hi => World.putObj_heap_other (fun e => hi (.inr (by first | (rw [e]; exact hl) | (rw [← e]; exact hl))))⟩) (Below.refl _ _) (fun _ => rfl)
    (fun pre W => NoneOf s (pre.map Subtype.val) ∧ Keep (fun i => w1.heap.size ≤ i) w1 W)
    (fun c pre W => c = .ret ∧ ∃ (pre' : List Int) (x : Int), pre.map Subtype.val = pre' ++ [x] ∧ NoneOf s pre' ∧ prOf s x = 2 ∧ W.cell? ⟨n0 + 1, 0, none⟩ = some (.int .i64 x) ∧ Keep (fun i => i = n0 + 1 ∨ w1.heap.size ≤ i) w1 W)
    (fun t U V row hs hg hr => ⟨hs.1, hs.2.trans (gk hg hr)⟩)
    (fun c t U V row hs hg hr => by
      obtain ⟨hc, pre', x, a1, a2, a3, a4, a5⟩ := hs
      exact ⟨hc, pre', x, a1, a2, a3, scell_keep a4 (gk hg hr) (by show ¬ w1.heap.size ≤ n0 + 1; omega), a5.trans ((gk hg hr).mono (fun i _ h => .inr h))⟩)
    ⟨fun u hu => by simp at hu, Keep.refl _ _⟩
    (fun x => { tmps := #[spV p, .int .i64 (o : Int), ptrV n0 0, undef, ptrV (n0 + 1) 0, .int .i64 x.1, spV p, .int .i64 (o : Int), .func (.func 39) #[] #[ptrV (n0 + 2) 0, ptrV (n0 + 3) 0], .int .i64 x.1, undef, undef, undef, undef, undef, undef, undef, undef, undef, undef], defers := [] }) ?assign ?body ?done ?stop
  case assign =>
    intro l x W K hK
    gi_wp2
    exact hK
  case body =>
    rintro l pre x W ⟨hno, hk⟩ hlen
    obtain ⟨tx, y, hx, hy, hyp, hyo⟩ := (HWF.out.ln o b hb).2 x.1 x.2
    have hkB : ∀ i, i < n0 + 4 → ¬ w1.heap.size ≤ i := fun i hi => by omega
    have hSW := hS.keep hk (fun i hi => hkB i (by have := hlt i hi; omega))
    have cs := scell_keep hbs hk (hkB _ (by show n0 < _; omega))
    have bR := hbr.keep hk (hkB _ (by omega))
    have cr := bR.cell 0 _ rfl
    have fr := bR.free 0
    have c0 := hSW.c0
    have cp := (hSW.th hy).pr
    have ix := idx_thrs p.T s.T.length p.cT tx (thr_lt hy)
    have hpo : prOf s x.1 = y.pr := by unfold prOf; rw [hx, Int.toNat_natCast, hy]
    have HPO := Lib.hid hpo
    have HNo := Lib.hid hno
    have HK := Lib.hid hk
    have hmap : (pre ++ [x]).map Subtype.val = pre.map Subtype.val ++ [x.1] := by simp
    have HMap := Lib.hid hmap
    rw [hx]
    have HXX := Lib.hid hx
    clear hno hk hSW hS hbs hbr bR h hwf hpo hmap hx hy hyo hyp e1 e2 eb eb0
    by_cases hp2 : y.pr = 2
    · rw [hp2] at cp
      have HP2 := Lib.hid hp2
      clear hp2
      gi_wp2
      refine ⟨KeepsOthers.setCell _ _ _, rfl, pre.map Subtype.val, x.1, HMap.out, HNo.out, HPO.out.trans HP2.out, ?_, ?_⟩
      · rw [HXX.out]
        exact World.cell?_setCell_same' _ _ _ (by rw [cr]; rfl)
      · exact (HK.out.mono (fun i _ h => .inr h)).set (fun _ => .inl rfl) _
    · have hp3 : (y.pr == 2) = false := beq_eq_false_iff_ne.2 hp2
      have HP2 := Lib.hid hp2
      clear hp2
      gi_wp2
      refine ⟨KeepsOthers.refl _, Keep.refl _ _, ?_, HK.out⟩
      rw [HMap.out]
      intro u hu
      rcases List.mem_append.1 hu with hu | hu
      · exact HNo.out u hu
      · simp at hu
        subst hu
        rw [HPO.out]
        exact HP2.out
  case done =>
    rintro D ys W hD rfl ⟨hno, hk⟩ hK
    have hkB : ∀ i, i < n0 + 4 → ¬ w1.heap.size ≤ i := fun i hi => by omega
    have bR := hbr.keep hk (hkB _ (by omega))
    have cr := bR.cell 0 _ rfl
    have fr := bR.free 0
    have hl : NoneOf s b.line := by simpa using hno
    have HL := Lib.hid hl
    have HK := Lib.hid hk
    clear hno hk bR hS hbs hbr h hwf e1 e2 eb hl
    gi_wp2
    have hK2 : (W.setCell ⟨n0 + 1, 0, none⟩ (.int .i64 (-1))).heap[D]? = some (.deferred (some [])) := (KeepsOthers.setCell _ _ _).same D _ hK rfl
    refine ⟨by simp, .inl ⟨_, _, rfl, run_takeDeferred hK2, ?_⟩⟩
    have hc : ((W.setCell ⟨n0 + 1, 0, none⟩ (.int .i64 (-1))).putObj D (.deferred none)).cell? ⟨n0 + 1, 0, none⟩ = some (.int .i64 (-1)) := scell_keep (World.cell?_setCell_same' _ _ _ (by rw [cr]; rfl)) (skeep_put _) (by show ¬ n0 + 1 = D; omega)
    refine ⟨.int .i64 (-1), by simp [results, Try.results73, go_sem, hc], ?_⟩
    rw [longest_none HL.out]
    refine ⟨rfl, eb0.trans (Keep.below (Q := fun i => i = n0 + 1 ∨ w1.heap.size ≤ i) (((HK.out.mono (fun i _ h => .inr h)).set (fun _ => .inl rfl) _).trans ((skeep_put _).mono (fun i _ e => .inr (e ▸ hD)))) eb0.size (fun i _ hi => by have := HN0.out; have := eb0.size; omega))⟩
  case stop =>
    rintro D c pre W hD ⟨k, rfl⟩ ⟨rfl, pre', x, a1, a2, a3, a4, a5⟩ hK
    gi_wp2
    refine ⟨by simp, .inl ⟨_, _, rfl, run_takeDeferred hK, ?_⟩⟩
    have hc : (W.putObj D (.deferred none)).cell? ⟨n0 + 1, 0, none⟩ = some (.int .i64 x) := scell_keep a4 (skeep_put _) (by show ¬ n0 + 1 = D; omega)
    refine ⟨.int .i64 x, by simp [results, Try.results73, go_sem, hc], ?_⟩
    rw [attach_val] at a1
    have hl : longestS s b.line = x := by
      conv => lhs; rw [← List.take_append_drop k b.line, a1, List.append_assoc]
      exact longest_hit a2 a3
    rw [hl]
    refine ⟨rfl, eb0.trans (Keep.below (Q := fun i => i = n0 + 1 ∨ w1.heap.size ≤ i) (a5.trans ((skeep_put _).mono (fun i _ e => .inr (e ▸ hD)))) eb0.size (fun i _ hi => by have := HN0.out; have := eb0.size; omega))⟩
theorem longest_any {w : World} {A : Nat → Prop} {p : Pl} {s : SS} (h : SpecAt w A p s) (hwf : WF s) {o : Nat} {b : Ob} (hb : s.O[o]? = some b) :
    Calls Try.prog 73 #[spV p, .int .i64 (o : Int)] w fun r w' => r = .returned (.int .i64 (longestS s b.line)) ∧ Below w.heap.size w w' :=
  callsIn_wide.1 (longest_in h hwf hb 3 (Nat.le_refl _))
end Go.Proofs.Ytcgljmeppmdihaa
