/- Package spec: a line is stored; slices.DeleteFunc on a line; awake. -/
import Derived.Test.YtcgljmeppmdihaaSpC
import Derived.Shelf.SlicesE.DeleteFunc
import Derived.Ground.SlgfProg
import Derived.Lib.SliceRun
import Derived.Lib.OwnBridge
namespace Go.Proofs.Ytcgljmeppmdihaa
open Go.ChangeShapes Go.WideShapes Go.ChangeAt Go.RowKit Go.Shelf Go.Lib Go.Sort
set_option linter.unusedVariables false
set_option maxRecDepth 100000
set_option linter.unusedSimpArgs false
shelf_lay_g SlLaysH.n10 Slgf 10 at Try 83 as Try.ldel
/-- a line is stored -/
theorem SpecAt.setLine {w w1 : World} {A A' : Nat → Prop} {p : Pl} {s : SS} (h : SpecAt w A p s) {o : Nat} {b : Ob} (hb : s.O[o]? = some b) {V : Nat → Value} (hR : RowO w p.O s.O V) (hL : Lines w A s.O V) {v' : Value} {l' : List Int}
    (hk : Keep (fun g => (V o).ownBlock = some g) w w1) (hrow : w1.ownsRow 0 3 1 v' l'.length (iL l')) (hg : ∀ g, v'.ownBlock = some g → (V o).ownBlock = some g ∨ w.heap.size ≤ g)
    (hA : ∀ g, v'.ownBlock = some g → A' g) (hAA : ∀ b, A b → A' b) (hlt : ∀ b, A' b → b < w1.heap.size) : SpecAt (w1.setCell ⟨p.O, o * 3 + 2, none⟩ v') A' p (s.setO o { b with line := l' }) := by
  have ho := obj_lt hb
  have hS1 : ∀ b, b = p.P ∨ b = p.T ∨ b = p.O → ¬ (V o).ownBlock = some b := fun k hk2 hg2 => by
    have := line_apart h hL ho hg2
    rcases hk2 with rfl | rfl | rfl
    · exact this.1 rfl
    · exact this.2.1 rfl
    · exact this.2.2 rfl
  obtain ⟨a1, a2, a3⟩ := h.apart
  refine ⟨?_, rowT_far (h.thr.keep hk (hS1 _ (.inr (.inl rfl)))) a3 _, ⟨fun u => if u = o then v' else V u, ?_, ?_⟩, ⟨hAA _ h.mine.1, hAA _ h.mine.2.1, hAA _ h.mine.2.2⟩, fun k hk2 => by rw [World.size_setCell]; exact hlt k hk2⟩
  · rw [(setO_len s o _).1, (setO_len s o _).2]
    exact (h.own.keep hk (hS1 _ (.inl rfl))).far a2 _ _
  · refine (hR.keep hk (hS1 _ (.inr (.inr rfl)))).set hb 2 v' (by omega) ?_ (fun u hu => if_neg hu)
    simp [obC]
  · have hkS : Keep (fun b => b = p.O) w1 (w1.setCell ⟨p.O, o * 3 + 2, none⟩ v') := set_keep _
    have hO1 : p.O < w1.heap.size := by
      obtain ⟨cs, hB, _⟩ := hR
      exact (hB.lt_keep hk)
    have hv'O : ∀ g, v'.ownBlock = some g → g ≠ p.O := fun g hg2 e => by
      obtain ⟨_, cur, hc⟩ := row_lt hrow hg2
      obtain ⟨cs, hB, _⟩ := hR.keep hk (hS1 _ (.inr (.inr rfl)))
      exact hc.apart hB (by decide) e
    refine ⟨fun u c hc => ?_, fun u g hu hg2 => ?_, fun u k g hu hk2 huk hg2 => ?_⟩
    · rcases set_at hc with ⟨rfl, rfl, _⟩ | ⟨hne, hc⟩
      · rw [if_pos rfl]
        exact row_ownkeep hrow hkS (fun g hg2 => hv'O g hg2)
      · rw [if_neg hne]
        have hu := obj_lt hc
        refine row_ownkeep (row_ownkeep (hL.row u c hc) hk (fun g hg2 hgo => hL.apart u o g hu ho hne hg2 hgo)) hkS (fun g hg2 => (line_apart h hL hu hg2).2.2)
    · rw [(setO_len s o _).2] at hu
      by_cases e : u = o
      · rw [if_pos e] at hg2; exact hA g hg2
      · rw [if_neg e] at hg2; exact hAA g (hL.mine u g hu hg2)
    · rw [(setO_len s o _).2] at hu hk2
      by_cases e : u = o
      · rw [if_pos e] at hg2
        have e2 : k ≠ o := fun e3 => huk (e.trans e3.symm)
        rw [if_neg e2]
        intro hg3
        rcases hg g hg2 with hg4 | hg4
        · exact hL.apart o k g ho hk2 (fun e3 => e2 e3.symm) hg4 hg3
        · obtain ⟨c, hc⟩ : ∃ c, s.O[k]? = some c := ⟨_, List.getElem?_eq_getElem hk2⟩
          have := (row_lt (hL.row k c hc) hg3).1
          omega
      · rw [if_neg e] at hg2
        by_cases e2 : k = o
        · rw [if_pos e2]
          intro hg3
          rcases hg g hg3 with hg4 | hg4
          · exact hL.apart u o g hu ho e hg2 hg4
          · obtain ⟨c, hc⟩ : ∃ c, s.O[u]? = some c := ⟨_, List.getElem?_eq_getElem hu⟩
            have := (row_lt (hL.row u c hc) hg2).1
            omega
        · rw [if_neg e2]
          exact hL.apart u k g hu hk2 huk hg2
/-- the closure that awake hands on -/
theorem aw1_gives (u x : Int) (B : Nat) (W : World) (hc : W.cell? ⟨B, 0, none⟩ = some (.int .i64 u)) :
    FnGives Try.prog 84 #[.pointer (some ⟨B, 0, none⟩)] #[.int .i64 x] (.bool (x == u)) W := by
  show Calls Try.prog 84 #[.int .i64 x, .pointer (some ⟨B, 0, none⟩)] W _
  go_enter Try.func84, Try.ntmps84
  go_wp2_with fail
  go_ret
  exact ⟨rfl, 0, rfl⟩
theorem aw1_pred (u : Int) (B : Nat) (w : World) (hB : B < w.heap.size) (hcell : w.cell? ⟨B, 0, none⟩ = some (.int .i64 u)) :
    PredAt Try.prog 84 #[.pointer (some ⟨B, 0, none⟩)] (Value.int .i64) (fun x => x == u) w :=
  fun W x hb => aw1_gives u x B W ((hb.cell (p := ⟨B, 0, none⟩) hB).trans hcell)
theorem aw1_over (u : Int) (B blk off size : Nat) (w : World) (hB : B < w.heap.size) (hne : B ≠ blk) (hcell : w.cell? ⟨B, 0, none⟩ = some (.int .i64 u)) :
    PredOver Try.prog 84 #[.pointer (some ⟨B, 0, none⟩)] (Value.int .i64) (fun x => x == u) blk off size w :=
  fun n os dk x _ => aw1_gives u x B _ (by
    unfold sortWorld
    rw [cell?_grow _ _ _ (by show B < (putRow _ _ _ _ _).heap.size; rw [size_putRow]; exact hB), cell?_putRow_other _ _ blk off _ _ (Or.inl hne)]
    exact hcell)
def lineLess (l : List Int) (u : Int) : List Int := l.filter fun v => !(v == u)
def DelPost (w : World) (g cap : Nat) (l : List Int) (e : Ending) (w' : World) : Prop := e = .returned (.slice (some ⟨g, 0, none⟩) l.length cap) ∧ w'.ownsRow 0 3 1 (.slice (some ⟨g, 0, none⟩) l.length cap) l.length (iL l) ∧ Keep (fun b => b = g) w w'
theorem dele_any {w : World} {g cap B : Nat} {l : List Int} (u : Int) (hrow : w.ownsRow 0 3 1 (.slice (some ⟨g, 0, none⟩) l.length cap) l.length (iL l)) (hB : B < w.heap.size) (hne : B ≠ g) (hc : w.cell? ⟨B, 0, none⟩ = some (.int .i64 u)) :
    Calls Try.prog 83 #[.slice (some ⟨g, 0, none⟩) l.length cap, .func (.func 84) #[] #[.pointer (some ⟨B, 0, none⟩)]] w (DelPost w g cap (lineLess l u)) := by
  have eg : ∀ args w, (callFunc 84 args).run Try.prog w = .ok (.enter 84 args) w := enters_of Try.func84 (by kernel_rfl) rfl
  obtain ⟨g', cap', hv, _, hg, hn, hm, hl, hH⟩ := holds_of_ownsRow (enc := Value.int .i64) (zs := l) hrow (by simp)
  obtain ⟨rfl, rfl⟩ : g = g' ∧ cap = cap' := by simpa using hv
  have hcon := AnyE.slices_DeleteFunc Try.ldel (Value.int .i64) (fun _ => rfl) (fun x => x == u) 84 #[.pointer (some ⟨B, 0, none⟩)] eg 0 Try.zeroValue3 g 0 cap l.toArray w
    (aw1_pred u B w hB hc) (aw1_over u B g 0 _ w hB hne hc) hH (by unfold maxLen at hm; simp; omega) (by simpa using hn)
  change Calls Try.prog 83 _ _ _ at hcon
  have e1 : l.toArray.size = l.length := by simp
  have e2 : (l.toArray.toList.filter fun x => !(x == u)) = lineLess l u := rfl
  rw [e1, e2] at hcon
  have hle : (lineLess l u).length ≤ l.length := List.length_filter_le _ _
  refine hcon.mono ?_
  rintro e w' ⟨rfl, q, rfl⟩
  refine ⟨rfl, ?_, ?_⟩
  · have := Lib.ownsRow_putRow (q := q) (k := (lineLess l u).length) (ys := lineLess l u ++ List.replicate (l.length - (lineLess l u).length) 0) hrow (by simp; omega) hle
    rwa [List.take_left] at this
  · refine ⟨rfl, rfl, rfl, by simp [putRow, mapBlock, Sort.ahead], fun k hk hn => ?_⟩
    simp [putRow, mapBlock, Sort.ahead, Array.getElem?_modify, show g ≠ k from fun e => hn e.symm]
/-- how a thread that is woken lies in memory -/
theorem SpecAt.wakeT {w : World} {A : Nat → Prop} {p : Pl} {s : SS} (h : SpecAt w A p s) {t : Nat} {x : Th} (hx : s.T[t]? = some x) (v : Int) :
    SpecAt (((w.setCell ⟨p.T, t * 9 + 3, none⟩ (.int .i64 4)).setCell ⟨p.T, t * 9 + 7, none⟩ (.int .i64 0)).setCell ⟨p.T, t * 9 + 7 + 1, none⟩ (.int .i64 v)) A p (s.setT t { x with pr := 4, code := 0, val := v }) := by
  have h1 := h.setT hx (x' := { x with pr := 4 }) 3 (.int .i64 4) (by omega) rfl
  have h2 := h1.setT (setT_get _ hx) (x' := { x with pr := 4, code := 0 }) 7 (.int .i64 0) (by omega) rfl
  rw [setT2] at h2
  have h3 := h2.setT (setT_get _ hx) (x' := { x with pr := 4, code := 0, val := v }) 8 (.int .i64 v) (by omega) rfl
  rw [setT2] at h3
  exact h3
set_option maxHeartbeats 4000000 in
theorem awake_any {w : World} {A : Nat → Prop} {p : Pl} {s : SS} (h : SpecAt w A p s) {u o : Nat} {y : Th} {b : Ob} (hy : s.T[u]? = some y) (ho : y.obj = (o : Int)) (hb : s.O[o]? = some b) (hm : (u : Int) ∈ b.line) (how : Int) :
    Calls Try.prog 74 #[spV p, .int .i64 (u : Int), .int .i64 how] w fun r w' => r = .returned (.tuple #[]) ∧ SpecAt w' A p (awakeS s u how) ∧ Keep A w w' := by
  rw [awakeS_at hy (by rw [ho, Int.toNat_natCast]; exact hb), show y.obj.toNat = o by rw [ho]; rfl]
  have H := Lib.hid h
  have HY := Lib.hid hy
  have HO := Lib.hid ho
  have HB := Lib.hid hb
  have HM := Lib.hid hm
  have ix := idx_thrs p.T s.T.length p.cT u (thr_lt hy)
  have iy := idx_objs p.O s.O.length p.cO o (obj_lt hb)
  clear h hy ho hb hm
  go_enter Try.func74, Try.ntmps74
  go_upto_region 1 with fail
  generalize hW : w.alloc _ = W
  have hbl : Below w.heap.size w W := by rw [← hW]; go_grown
  have hbx : W.cell? ⟨w.heap.size, 0, none⟩ = some (.int .i64 (u : Int)) := by rw [← hW]; exact (Blk.new _ _ _).cell 0 _ rfl
  have hbl2 : w.heap.size < W.heap.size := by rw [← hW]; simp
  have hbA : ¬ A w.heap.size := fun ha => Nat.lt_irrefl _ (H.out.lt _ ha)
  have hS := H.out.below hbl
  have HBl := Lib.hid hbl
  clear hW hbl
  obtain ⟨bx, hbx0⟩ : ∃ bx, bx = w.heap.size := ⟨_, rfl⟩
  have HBX := Lib.hid hbx0
  rw [← hbx0] at hbx hbl2 hbA ⊢
  clear hbx0
  have c0 := hS.c0
  have c1 := hS.c1
  have HS := Lib.hid hS
  clear hS
  go_quiet (fail)
  generalize hq : World.drewN _ _ = W2
  have HS2 := Lib.hid (show SpecAt W2 A p s from by rw [← hq]; exact HS.out.below ⟨rfl, rfl, rfl, Nat.le_refl _, fun _ _ => rfl⟩)
  have hbx2 : W2.cell? ⟨bx, 0, none⟩ = some (.int .i64 (u : Int)) := by rw [← hq]; exact hbx
  have hlt2 : bx < W2.heap.size := by rw [← hq]; exact hbl2
  have HK2 := Lib.hid (show Keep A w W2 from by rw [← hq]; exact (Keep.ofBelow HBl.out).drewN _)
  clear hq hbx hbl2 HS HBl c0 c1
  have c0 := HS2.out.c0
  have c1 := HS2.out.c1
  have hT := HS2.out.th HY.out
  have c3 := hT.pr
  have c7 := hT.code
  have c8 := hT.val
  have f3 := HS2.out.freeT (u * 9 + 3)
  have f7 := HS2.out.freeT (u * 9 + 7)
  have f8 := HS2.out.freeT (u * 9 + 8)
  have HS3 := Lib.hid (HS2.out.wakeT HY.out how)
  have hTm := HS2.out.mine.2.1
  have hbT : bx ≠ p.T := fun e => hbA (e ▸ hTm)
  have HT := Lib.hid hT
  clear hT
  go_upto_region 3 with fail
  generalize hq : World.setCell _ _ _ = W3 at HS3 ⊢
  have HK3 := Lib.hid (show Keep A w W3 from by rw [← hq]; exact ((HK2.out.set (fun _ => hTm) _).set (fun _ => hTm) _).set (fun _ => hTm) _)
  have kk : Keep (fun b => b = p.T) W2 W3 := by rw [← hq]; exact (((Keep.refl (fun b => b = p.T) W2).set (fun _ => rfl) _).set (fun _ => rfl) _).set (fun _ => rfl) _
  have hbx3 := scell_keep hbx2 kk hbT
  have hlt3 : bx < W3.heap.size := Nat.lt_of_lt_of_le hlt2 kk.size
  clear hq kk hbx2 hlt2 HK2 c0 c1 c3 c7 c8 f3 f7 f8 HT HS2 hbT
  have hY3 := setT_get (s := s) { y with pr := 4, code := 0, val := how } HY.out
  have c0 := HS3.out.c0
  have c1 := HS3.out.c1
  rw [(setT_len s u _).1] at c0
  rw [(setT_len s u _).2] at c1
  have cj := (HS3.out.th hY3).obj
  dsimp only at cj
  rw [HO.out] at cj
  clear hY3
  go_quiet (fail)
  generalize hq : World.drewN _ _ = W4
  have HS4 := Lib.hid (show SpecAt W4 A p _ from by rw [← hq]; exact HS3.out.below ⟨rfl, rfl, rfl, Nat.le_refl _, fun _ _ => rfl⟩)
  have hbx4 : W4.cell? ⟨bx, 0, none⟩ = some (.int .i64 (u : Int)) := by rw [← hq]; exact hbx3
  have hlt4 : bx < W4.heap.size := by rw [← hq]; exact hlt3
  have HK4 := Lib.hid (show Keep A w W4 from by rw [← hq]; exact HK3.out.drewN _)
  clear hq hbx3 hlt3 HS3 HK3 c0 c1 cj ix iy
  obtain ⟨V, hR, hL⟩ := HS4.out.obs
  have cl := hR.cell HB.out 2 _ rfl
  have hrow := hL.row o b HB.out
  obtain ⟨g, cap, hV⟩ := row_slice hrow (List.length_pos_of_mem HM.out)
  rw [hV] at cl hrow
  have hgA : A g := hL.mine o g (obj_lt HB.out) (by rw [hV]; rfl)
  have hne : bx ≠ g := fun e => hbA (e ▸ hgA)
  have hOm := HS4.out.mine.2.2
  have fo := HS4.out.freeO (o * 3 + 2)
  have hgO : g ≠ p.O := by
    have := (line_apart HS4.out hL (g := g) (obj_lt HB.out) (by rw [hV]; rfl)).2.2
    exact this
  have HR := Lib.hid hR
  have HL := Lib.hid hL
  have HV := Lib.hid hV
  have HRow := Lib.hid hrow
  have Hbx4 := Lib.hid hbx4
  have hmf : ∀ (fn : Fn) (first cap : Array Value) (w : World), (Instr.makeFunc fn first cap).run Try.prog w = .ok (.func fn first cap) w := fun _ _ _ _ => rfl
  clear hR hL hV hrow hbx4
  go_wp2_with fail
  refine (dele_any (u : Int) HRow.out hlt4 hne Hbx4.out).mono ?_
  rintro e w5 ⟨rfl, hrow5, hk5⟩
  have cl5 := scell_keep cl hk5 (fun e => hgO e.symm)
  have fo5 : w5.frozen? ⟨p.O, o * 3 + 2, none⟩ = false := by
    have hR5 := HR.out.keep hk5 (fun e => hgO e.symm)
    exact hR5.free _
  have HK5 := Lib.hid hk5
  have HRow5 := Lib.hid hrow5
  clear hk5 hrow5 cl fo
  have hown : (V o).ownBlock = some g := by rw [HV.out]; rfl
  have HF := Lib.hid (HS4.out.setLine (A' := A) (w1 := w5) HB.out HR.out HL.out (v' := .slice (some ⟨g, 0, none⟩) (lineLess b.line (u : Int)).length cap) (l' := lineLess b.line (u : Int))
    (HK5.out.mono (fun i _ e => by rw [hown, e])) HRow5.out (fun k hk => .inl (by rw [hown]; exact hk)) (fun k hk => (own_some hk) ▸ hgA) (fun _ h => h) (fun k hk => Nat.lt_of_lt_of_le (HS4.out.lt k hk) HK5.out.size))
  go_wp2_with fail
  go_end0
  exact ⟨rfl, HF.out, (HK4.out.trans (HK5.out.mono (fun i _ e => e ▸ hgA))).set (fun _ => hOm) _⟩
end Go.Proofs.Ytcgljmeppmdihaa
