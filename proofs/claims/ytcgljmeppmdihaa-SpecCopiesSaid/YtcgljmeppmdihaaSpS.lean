/- Package spec: View. -/
import Derived.Test.YtcgljmeppmdihaaSpG
import Derived.Shelf.Lay
import Derived.Shelf.LaySoft
import Derived.Shelf.Sort.Plain
import Derived.Shelf.Slices.In.SortNone
import Derived.Ground.Names2Prog
import Derived.Ground.NamesProg
import Derived.Lib.OwnBridge
import Derived.Maps.AppendAt
namespace Go.Proofs.Ytcgljmeppmdihaa
open Go.ChangeShapes Go.WideShapes Go.ChangeAt Go.RowKit Go.Shelf Go.Lib Go.Sort
set_option linter.unusedVariables false
set_option maxRecDepth 100000
set_option linter.unusedSimpArgs false
attribute [local go_sem] Oper.semAt_some
shelf_lay Lays.n189 Nm 189 at Try as Try.lsort
/-- who waits, rising -/
def sortI (l : List Int) : List Int := l.mergeSort fun x y => decide (x ≤ y)
theorem sortI_len (l : List Int) : (sortI l).length = l.length := by simp [sortI]
def SortPost (w : World) (base : Nat) (v : Value) (l : List Int) (e : Ending) (w' : World) : Prop := e = .returned (.tuple #[]) ∧ w'.ownsRow base 3 1 v l.length (iL (sortI l)) ∧ Keep (fun b => v.ownBlock = some b) w w'
theorem sort_any {w : World} {base : Nat} {v : Value} {l : List Int} (h : w.ownsRow base 3 1 v l.length (iL l)) (hl : l.length ≤ 32766) : Calls Try.prog 26 #[v] w (SortPost w base v l) := by
  rcases l with _ | ⟨x, l⟩
  · have hv : ∃ p c, v = .slice p 0 c := by
      rcases h.2 with ⟨hv, _⟩ | ⟨g, cap, cur, hv, _⟩
      · exact ⟨_, _, hv⟩
      · exact ⟨_, _, hv⟩
    obtain ⟨p, c, rfl⟩ := hv
    have := Any.slices_Sort_int_none Try.lsort p c w
    change Calls Try.prog 26 _ _ _ at this
    refine this.mono ?_
    rintro e w' ⟨rfl, rfl⟩
    exact ⟨rfl, by simpa [sortI] using h, Keep.refl _ _⟩
  · obtain ⟨g, cap, rfl, hb, hg, hn, hm, hlen, hH⟩ := holds_of_ownsRow (enc := Value.int .i64) (zs := x :: l) h (by
      rintro rfl
      rcases h.2 with ⟨_, h0⟩ | ⟨g, cap, cur, hv, _⟩
      · simp at h0
      · cases hv)
    have := Any.slices_Sort_int Try.lsort g 0 cap (x :: l) w hH hg (by omega)
    change Calls Try.prog 26 _ _ _ at this
    refine this.mono ?_
    rintro e w' ⟨rfl, n, os, rfl⟩
    have h1 := Lib.ownsRow_putRow (q := n) (k := (x :: l).length) (ys := sortI (x :: l)) h (sortI_len _) (Nat.le_refl _)
    rw [List.take_of_length_le (by rw [sortI_len]; exact Nat.le_refl _)] at h1
    have kg : Keep (fun _ => False) (putRow (Value.int .i64) (Sort.ahead w n) g 0 (sortI (x :: l)).toArray) (grow (putRow (Value.int .i64) (Sort.ahead w n) g 0 (sortI (x :: l)).toArray) os) :=
      ⟨rfl, rfl, rfl, by show _ ≤ (_ ++ os).size; rw [Array.size_append]; omega, fun k hk _ => Sort.heap_grow_old _ os hk⟩
    refine ⟨rfl, row_ownkeep h1 kg (fun _ _ h => h), ?_⟩
    refine Keep.trans ?_ (kg.mono (fun _ _ h => h.elim))
    exact ⟨rfl, rfl, rfl, by simp [putRow, mapBlock, Sort.ahead], fun k hk hn2 => by simp [putRow, mapBlock, Sort.ahead, Array.getElem?_modify, show g ≠ k from fun e => hn2 (by rw [← e]; rfl)]⟩
abbrev viewV (a d : Int) (v : Value) : Value := .agg #[.int .i64 a, .int .i64 d, v]
def ViewPost (w : World) (a d : Int) (l : List Int) (e : Ending) (w' : World) : Prop := ∃ v, e = .returned (viewV a d v) ∧ w'.ownsRow w.heap.size 3 1 v l.length (iL l) ∧ Below w.heap.size w w'
theorem intS_info : (Try.prog.info? 3).map (fun i => (i.zero, i.size, i.bytes)) = some (some (.int .i64 0), 1, 8) := by kernel_rfl
theorem view_info : (Try.prog.info? 40).map (·.size) = some 3 := by kernel_rfl
theorem view_none {w : World} {A : Nat → Prop} {p : Pl} {s : SS} (h : SpecAt w A p s) (o : Int) (hn : o < 0 ∨ s.O.length ≤ o) :
    Calls Try.prog 10 #[spV p, .int .i64 o] w (ViewPost w (-1) 0 []) := by
  have H := Lib.hid h
  have HN := Lib.hid hn
  clear h hn
  go_enter Try.func10, Try.ntmps10
  go_wp2_with (go_at_call 24; ((with_reducible refine (isO_no (H.out.alloc _) _ HN.out).mono ?_)); rintro r w1 ⟨rfl, rfl⟩)
  refine bodyPost_ret (v := viewV (-1) 0 (.slice none 0 0)) ?_ rfl ⟨_, rfl, World.ownsRow_nil _ _ _ _, by go_grown⟩
  simp [results, Try.results10, go_sem]
theorem view_nil (o : Int) (w : World) :
    Calls Try.prog 10 #[.pointer none, .int .i64 o] w (ViewPost w (-1) 0 []) := by
  go_enter Try.func10, Try.ntmps10
  go_wp2_with (go_at_call 24; ((with_reducible refine (isO_nil _ _).mono ?_)); rintro r w1 ⟨rfl, rfl⟩)
  refine bodyPost_ret (v := viewV (-1) 0 (.slice none 0 0)) ?_ rfl ⟨_, rfl, World.ownsRow_nil _ _ _ _, by go_grown⟩
  simp [results, Try.results10, go_sem]
set_option maxHeartbeats 4000000 in
theorem view_in {w : World} {A : Nat → Prop} {p : Pl} {s : SS} (h : SpecAt w A p s) (hwf : WF s) {o : Nat} {b : Ob} (hb : s.O[o]? = some b) (n : Nat) (hn : 3 ≤ n) :
    CallsIn Fence.wide n Try.prog 10 #[spV p, .int .i64 (o : Int)] w (ViewPost w b.own b.dep (sortI b.line)) := by
  have hro : Fence.wide.round = none := rfl
  have h1 : 1 ≤ n := by omega
  refine callsIn_of_wp_marks Try.func10 rfl trivial ?_ hro
  simp only [Try.ntmps10, List.size_toArray, List.length_cons, List.length_nil, Nat.reduceAdd, Nat.reduceSub, Array.replicate_succ, Array.replicate_zero, List.push_toArray, List.append_toArray, List.nil_append, List.cons_append]
  have HWait := Lib.hid (fun W => waiting_any p (o : Int) W)
  have hlo := obj_lt hb
  have iy := idx_objs p.O s.O.length p.cO o hlo
  have H := Lib.hid h
  have HB := Lib.hid hb
  clear h hb
  gi_wp2_with ((refine ⟨trivial, ?_⟩; gi_at_call 24; refine (callsIn_wide.2 (isO_yes (H.out.alloc _) _ (by omega) (by omega))).mono ?_; rintro e w1 ⟨rfl, rfl⟩))
  refine wpIn_wide.2 ?_
  generalize hW : w.alloc _ = W
  have bW : Go.RowKit.Below w.heap.size w W := by rw [← hW]; go_grown
  have hsz : W.heap.size = w.heap.size + 1 := by rw [← hW]; simp
  have rB : Blk W w.heap.size 40 #[.int .i64 0, .int .i64 0, .slice none 0 0] := by rw [← hW]; exact Blk.new _ _ _
  have hS := H.out.below bW
  have SK := Lib.hid (show ∀ A, Go.RowKit.Below W.heap.size W A → A.cell? ⟨p.P, 1, none⟩ = some (.slice (some ⟨p.O, 0, none⟩) s.O.length p.cO) ∧ A.cell? ⟨p.O, o * 3, none⟩ = some (.int .i64 b.own) ∧ A.cell? ⟨p.O, o * 3 + 1, none⟩ = some (.int .i64 b.dep) from fun A hA => by have h2 := hS.below hA; exact ⟨h2.c1, (h2.ob HB.out).1, (h2.ob HB.out).2⟩)
  have bd : Go.RowKit.Below W.heap.size W W.drew := ⟨rfl, rfl, rfl, Nat.le_refl _, fun _ _ => rfl⟩
  have HS := Lib.hid hS
  have HrB := Lib.hid rB
  have HbW := Lib.hid bW
  clear hS rB bW hW
  go_region_held3 (fun A => A.cell? ⟨p.P, 1, none⟩ = some (.slice (some ⟨p.O, 0, none⟩) s.O.length p.cO) ∧ A.cell? ⟨p.O, o * 3, none⟩ = some (.int .i64 b.own) ∧ A.cell? ⟨p.O, o * 3 + 1, none⟩ = some (.int .i64 b.dep)) (first | exact SK.out _ bd | exact SK.out _ (by go_grown)) (fail)
  generalize hq : World.drew _ = W2
  have b2 : Go.RowKit.Below W.heap.size W W2 := by rw [← hq]; exact ((Go.RowKit.Below.refl _ _).alloc (Nat.le_refl _) _).trans ⟨rfl, rfl, rfl, by simp [World.drew], fun _ _ => rfl⟩
  have rV : Blk W2 W.heap.size 40 #[.int .i64 b.own, .int .i64 b.dep, .slice none 0 0] := by rw [← hq]; exact (Blk.new W _ _).drew
  have hsz2 : W2.heap.size = w.heap.size + 1 + 1 := by rw [← hq]; simp [World.drew, hsz]
  have rR := HrB.out.below b2 (by omega)
  have bw2 : Go.RowKit.Below w.heap.size w W2 := HbW.out.trans (b2.mono (by omega))
  rw [hsz] at rV
  have hS2 := H.out.below bw2
  clear hq SK bd HS HrB HbW b2
  have HRR := Lib.hid rR
  have HRV := Lib.hid rV
  have HS2 := Lib.hid hS2
  have HBW2 := Lib.hid bw2
  clear rR rV hS2 bw2
  gi_wp2_with ((refine ⟨trivial, ?_⟩; gi_at_call 25; refine (callsIn_wide.2 (HWait.out _)).mono ?_; rintro e w1 ⟨rfl, e1, e2, e3, eb⟩))
  rw [hsz2] at e1 e2 e3 eb
  have hsS := Lib.hid (HS2.out.below (by rw [hsz2]; exact eb))
  have hRR := HRR.out.below eb (by omega)
  have hRV := HRV.out.below eb (by omega)
  have ebw : Go.RowKit.Below w.heap.size w w1 := HBW2.out.trans (eb.mono (by omega))
  obtain ⟨n0, hn0⟩ : ∃ n0, n0 = w.heap.size := ⟨_, rfl⟩
  have hlt : ∀ k, A k → k < n0 := by rw [hn0]; exact H.out.lt
  rw [← hn0] at e1 e2 e3 hRR hRV
  have HN0 := Lib.hid hn0
  rw [show (Value.pointer (some ⟨w.heap.size, 0, none⟩)) = ptrV n0 0 by rw [← hn0], show (Value.pointer (some ⟨w.heap.size + 1, 0, none⟩)) = ptrV (n0 + 1) 0 by rw [← hn0], show ptrV (w.heap.size + 1 + 1) 0 = ptrV (n0 + 2) 0 by rw [← hn0], show ptrV (w.heap.size + 1 + 1 + 1) 0 = ptrV (n0 + 3) 0 by rw [← hn0]]
  clear hn0 hsz hsz2 eb HRR HRV HS2 HBW2 iy
  have hln := Nat.le_trans (hwf.len HB.out) hwf.sz.1
  have gk : ∀ {U V : World} {row : Option Nat}, U.grownBy V row → (∀ r, row = some r → w1.heap.size ≤ r ∧ ∃ o : Obj, U.heap[r]? = some o ∧ o.isCells = false) → Keep (fun i => row = some i) U V ∧ Keep (fun i => w1.heap.size ≤ i) U V := fun {U V row} hg hr =>
    ⟨⟨hg.1, hg.2, hg.3, hg.4, fun k hk hn => hg.5 k hk (fun e => hn e.symm)⟩, ⟨hg.1, hg.2, hg.3, hg.4, fun k hk hn => hg.5 k hk (fun e => hn (hr k e.symm).1)⟩⟩
  obtain ⟨i0, hi0, hz0, hz1, hz2⟩ := info_parts intS_info
  refine wpIn_rangeFunc_ownF (w := w1) hro h1 (gf := 39) (lb := #[ptrV (n0 + 2) 0, ptrV (n0 + 3) 0]) rfl trivial (enters_of Try.func39 (by kernel_rfl) rfl)
    (wait1_stops (n - 1) (by omega) (Q := fun i => i = n0 + 1 ∨ w1.heap.size ≤ i) hsS.out HB.out (n0 + 2) (n0 + 3) e1 e2 (by omega) (by omega) hln (fun i hi hq => by have := hlt i hi; omega) (by omega) (by omega))
    (fun h k => h.trans k) (fun W l o o' hl h0 _ _ => ⟨rfl, rfl, rfl, by simp [World.putObj], fun i _ hi => World.putObj_heap_other (fun e => hi (.inr (by first | (rw [e]; exact hl) | (rw [← e]; exact hl))))⟩) (Go.RowKit.Below.refl _ _) (fun _ => rfl)
    (fun pre W => ∃ v, Blk W (n0 + 1) 40 #[.int .i64 b.own, .int .i64 b.dep, v] ∧ W.ownsRow w1.heap.size 3 1 v pre.length (iL (pre.map Subtype.val)) ∧ Keep (fun i => i = n0 + 1 ∨ w1.heap.size ≤ i) w1 W)
    (fun c pre W => False)
    (fun t U V row hs hg hr => by
      obtain ⟨v, a1, a2, a3⟩ := hs
      obtain ⟨k1, k2⟩ := gk hg hr
      refine ⟨v, a1.keep k2 (by omega), row_ownkeep a2 k1 (fun g hg2 hrw => ?_), a3.trans (k2.mono (fun i _ h => .inr h))⟩
      obtain ⟨_, cur, hc⟩ := row_lt a2 hg2
      obtain ⟨_, o2, ho2, hn2⟩ := hr g hrw
      rw [show U.heap[g]? = _ from hc] at ho2
      cases ho2
      simp [Obj.isCells] at hn2)
    (fun c t U V row hs hg hr => hs)
    ⟨_, hRV, World.ownsRow_nil _ _ _ _, Keep.refl _ _⟩
    (fun x => { tmps := #[spV p, .int .i64 (o : Int), undef, undef, ptrV n0 0, ptrV (n0 + 1) 0, .int .i64 x.1, spV p, .int .i64 (o : Int), .bool true, .bool false, undef, spV p, ptrV p.P 0, ptrV p.P 1, .slice (some ⟨p.O, 0, none⟩) s.O.length p.cO, .int .i64 (o : Int), ptrV p.O (o * 3), ptrV p.O (o * 3), .int .i64 b.own, spV p, ptrV p.P 0, ptrV p.P 1, .slice (some ⟨p.O, 0, none⟩) s.O.length p.cO, .int .i64 (o : Int), ptrV p.O (o * 3), ptrV p.O (o * 3 + 1), .int .i64 b.dep, viewV b.own b.dep (.slice none 0 0), spV p, .int .i64 (o : Int), .func (.func 39) #[] #[ptrV (n0 + 2) 0, ptrV (n0 + 3) 0], .int .i64 x.1, undef, undef, undef, undef, undef, undef, undef, undef, undef, undef], defers := [] }) ?assign ?body ?done ?stop
  case assign =>
    intro l x W K hK
    gi_wp2
    exact hK
  case body =>
    rintro l pre x W ⟨v, rV, rI, hk⟩ hlen
    have cv := rV.cell 2 _ rfl
    have fv := rV.free 2
    have HRV := Lib.hid rV
    have HRI := Lib.hid rI
    have HK := Lib.hid hk
    clear rV rI hk e1 e2 hRR hRV
    have hpl : pre.length ≤ 32766 := by omega
    have hw1 : w1.heap.size ≤ W.heap.size := HK.out.size
    gi_wp2_with ((gi_at_builtin; refine wpListIn_append_own _ rfl _ _ 30 rfl w1.heap.size 3 i0 (.int .i64 0) 1 8 Try.underlying30 hi0 hz0 hz1 hz2 rfl (by decide) _ _ _ rfl (HRI.out.alloc _) ⟨W.heap.size, 0, none⟩ 1 1 [.int .i64 x.1] rfl rfl (cell_one_new _ _ _) (by simp [Value.oneCell']) (by unfold maxLen; omega) (by omega) (by rw [World.size_alloc]; omega) ?_; intro v2 W2 hr2 hg2 hnil; obtain ⟨g2, cap2, rfl⟩ := row_slice hr2 (by omega); have kg := grown_keep hg2; have rV2 := HRV.out.keep kg (fun e => by obtain ⟨_, cur, hc⟩ := row_lt HRI.out e; exact hc.apart HRV.out (by decide) rfl); have cv2 := rV2.cell 2 _ rfl; have fv2 := rV2.free 2))
    have HG2 := Lib.hid hg2
    have HR2 := Lib.hid hr2
    have HK2 := Lib.hid kg
    have HV2 := Lib.hid rV2
    clear hg2 hr2 kg rV2 hnil
    have hg2n : g2 ≠ n0 + 1 := by
      rintro rfl
      obtain ⟨_, cur, hc⟩ := row_lt HR2.out (g := n0 + 1) rfl
      exact hc.apart HV2.out (by decide) rfl
    have hvw : ∀ i, v.ownBlock = some i → w1.heap.size ≤ i := fun i e => by
      rcases HRI.out.2 with ⟨hv, _⟩ | ⟨g', c', cur, hv, hb', _⟩
      · rw [hv] at e; simp [Value.ownBlock] at e
      · rw [hv] at e
        have : g' = i := by simpa [Value.ownBlock] using e
        omega
    refine ⟨((KeepsOthers.alloc _ _).trans (KeepsOthers.of_grownBy HG2.out (fun j o2 hj ho2 => ?_))).trans (KeepsOthers.setCell _ _ _), ?_, ⟨_, HV2.out.set 2 _, ?_, ?_⟩⟩
    · obtain ⟨_, cur, hc⟩ := row_lt (HRI.out.alloc (.cells #[.int .i64 x.1] 3)) hj
      rw [show (W.alloc _).heap[j]? = _ from hc] at ho2
      cases ho2
      rfl
    · exact (HK2.out.mono (fun i _ e => .inr (hvw i e))).set (fun _ => .inl rfl) _
    · have h3 := row_ownkeep HR2.out (set_keep (C := n0 + 1) (i := 2) (.slice (some ⟨g2, 0, none⟩) (pre.length + 1) cap2)) (fun g hg e => hg2n ((own_some hg).trans e))
      rw [List.length_append]
      simpa [iL] using h3
    · exact HK.out.trans ((HK2.out.mono (fun i _ e => .inr (hvw i e))).set (fun _ => .inl rfl) _)
  case done =>
    rintro D ys W hD rfl ⟨v, rV, rI, hk⟩ hK
    have e5 : (b.line.attach.map Subtype.val) = b.line := List.attach_map_subtype_val _
    rw [e5, List.length_attach] at rI
    have hRRW := hRR.keep hk (by omega)
    have cv := rV.cell 2 _ rfl
    have HRV := Lib.hid rV
    have HRI := Lib.hid rI
    have HK := Lib.hid hk
    have HRR := Lib.hid hRRW
    have HSort := Lib.hid (sort_any rI hln)
    have hvw : ∀ i, v.ownBlock = some i → w1.heap.size ≤ i := fun i e => by
      rcases rI.2 with ⟨hv, _⟩ | ⟨g', c', cur, hv, hb', _⟩
      · rw [hv] at e; simp [Value.ownBlock] at e
      · rw [hv] at e
        have : g' = i := by simpa [Value.ownBlock] using e
        omega
    clear rV rI hk hRRW e1 e2 hRR hRV
    obtain ⟨sa, sc, rfl⟩ : ∃ a c, v = .slice a b.line.length c := by
      rcases HRI.out.2 with ⟨hv, h0⟩ | ⟨g', c', cur, hv, _⟩
      · exact ⟨none, 0, by rw [h0]; exact hv⟩
      · exact ⟨_, _, hv⟩
    have hnV : ¬ (Value.slice sa b.line.length sc).ownBlock = some (n0 + 1) := fun e => by have := hvw _ e; omega
    have hnR : ¬ (Value.slice sa b.line.length sc).ownBlock = some n0 := fun e => by have := hvw _ e; omega
    have hnD : ¬ (Value.slice sa b.line.length sc).ownBlock = some D := fun e => by
      obtain ⟨_, cur, hc⟩ := row_lt HRI.out e
      rw [show W.heap[D]? = _ from hc] at hK
      cases hK
    have hDl := (Array.getElem?_eq_some_iff.1 hK).1
    gi_wp2_with ((refine ⟨trivial, ?_⟩; gi_at_call 26; refine (callsIn_wide.2 HSort.out).mono ?_; rintro e W2 ⟨rfl, hr2, hk2⟩; have rV2 := HRV.out.keep hk2 hnV; have rR2 := HRR.out.keep hk2 hnR; have v0 := rV2.cell 0 _ rfl; have v1 := rV2.cell 1 _ rfl; have v2 := rV2.cell 2 _ rfl; have q0 := rR2.cell 0 _ rfl; have q1 := rR2.cell 1 _ rfl; have q2 := rR2.cell 2 _ rfl; have z0 := rR2.free 0; have z1 := rR2.free 1; have z2 := rR2.free 2))
    have hR4 := ((rR2.set 0 (.int .i64 b.own)).set 1 (.int .i64 b.dep)).set 2 (.slice sa b.line.length sc)
    have hK2 : W2.heap[D]? = some (.deferred (some [])) := (hk2.block D hDl hnD).trans hK
    have hK4 : (((W2.setCell ⟨n0, 0, none⟩ (.int .i64 b.own)).setCell ⟨n0, 1, none⟩ (.int .i64 b.dep)).setCell ⟨n0, 2, none⟩ (.slice sa b.line.length sc)).heap[D]? = some (.deferred (some [])) := (((KeepsOthers.setCell _ _ _).trans (KeepsOthers.setCell _ _ _)).trans (KeepsOthers.setCell _ _ _)).same D _ hK2 rfl
    have ks : Keep (fun i => i = n0) W2 (((W2.setCell ⟨n0, 0, none⟩ (.int .i64 b.own)).setCell ⟨n0, 1, none⟩ (.int .i64 b.dep)).setCell ⟨n0, 2, none⟩ (.slice sa b.line.length sc)) := (((Keep.refl (fun i => i = n0) W2).set (fun _ => rfl) _).set (fun _ => rfl) _).set (fun _ => rfl) _
    have hnr : ∀ g, (Value.slice sa b.line.length sc).ownBlock = some g → g ≠ n0 := fun g hg e => hnR (e ▸ hg)
    have hr4 := row_ownkeep hr2 ks (fun g hg e => hnr g hg e)
    have hD1 : w1.heap.size ≤ D := hD
    generalize hq : World.setCell _ _ _ = W4 at hR4 hK4 ks hr4 ⊢
    refine ⟨by simp, .inl ⟨_, _, rfl, run_takeDeferred hK4, ?_⟩⟩
    have kD : Keep (fun i => i = D) W4 (W4.putObj D (.deferred none)) := skeep_put _
    have hR5 := hR4.keep kD (by omega)
    have hr5 := row_ownkeep hr4 kD (fun g hg e => hnD (e ▸ hg))
    refine ⟨viewV b.own b.dep (.slice sa b.line.length sc), results_cell_row rfl _ _ n0 40 _ (0, 0) _ rfl hR5 Try.underlying40 rfl view_info, _, rfl, ?_, ?_⟩
    · rw [sortI_len]
      refine ⟨hr5.1, ?_⟩
      rcases hr5.2 with h6 | ⟨g, c6, cur, hv, hb6, h7⟩
      · exact .inl h6
      · exact .inr ⟨g, c6, cur, hv, by have := ebw.size; omega, h7⟩
    · have kT : Keep (fun i => i = n0 ∨ i = n0 + 1 ∨ w1.heap.size ≤ i) w1 (W4.putObj D (.deferred none)) := (((HK.out.mono (fun i _ h => .inr h)).trans (hk2.mono (fun i _ e => .inr (.inr (hvw i e))))).trans (ks.mono (fun i _ e => .inl e))).trans (kD.mono (fun i _ e => .inr (.inr (e ▸ hD1))))
      exact ebw.trans (kT.below ebw.size (fun i _ hi => by have := HN0.out; have := ebw.size; omega))
  case stop =>
    rintro D c pre W hD hSp hIx hK
    exact hIx.elim
theorem view_any {w : World} {A : Nat → Prop} {p : Pl} {s : SS} (h : SpecAt w A p s) (hwf : WF s) {o : Nat} {b : Ob} (hb : s.O[o]? = some b) :
    Calls Try.prog 10 #[spV p, .int .i64 (o : Int)] w (ViewPost w b.own b.dep (sortI b.line)) := callsIn_wide.1 (view_in h hwf hb 3 (Nat.le_refl _))
end Go.Proofs.Ytcgljmeppmdihaa
