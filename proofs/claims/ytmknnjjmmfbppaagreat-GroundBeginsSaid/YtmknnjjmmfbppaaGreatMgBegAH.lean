/- Where this program has the library's locks. -/
import Derived.Test.YtmknnjjmmfbppaaGreatProg
import Derived.Conc.MuLib
import Derived.Conc.MuLone
import Derived.KernelRfl
import Derived.Test.YtmknnjjmmfbppaaGreatMgBegAG
import Derived.Test.YtmknnjjmmfbppaaGreatMgBegAF
import Derived.Shelf.SlicesE.Clone
import Derived.Ground.SlgnProg
import Derived.Lib.SliceRun
import Derived.Lib.OwnBridge
namespace Go.Proofs.YtmknnjjmmfbppaaGreat
open Go.Proofs
abbrev muL : Go.Conc.Locks.MuLink := { lock := 110, unlock := 111, ilock := 174, iunlock := 175, lockSlow := 232, unlockSlow := 235, disable := 228, enable := 230, acquire := 231, relMerge := 233, cas32 := 229, add32 := 234, tMutex := 44, tIMutex := 42, tPMutex := 232, tPIMutex := 266, tPI32 := 268, tUP := 270, tNoCopy := 39, tU32 := 40 }
theorem muLib : Go.Conc.Locks.MuLib Tryz.prog muL :=
  ⟨Tryz.func110, Tryz.func111, Tryz.func174, Tryz.func175, Tryz.func228, Tryz.func230, Tryz.func231, Tryz.func233, Tryz.func229, Tryz.func234,
    Tryz.underlying42, Tryz.runUnderlying42, Tryz.sizeOf42, Tryz.isAgg42, Tryz.zeroValue42, Tryz.underlying44, Tryz.runUnderlying44, Tryz.sizeOf44, Tryz.isAgg44, Tryz.zeroValue44,
    Tryz.underlying232, Tryz.runUnderlying232, Tryz.sizeOf232, Tryz.isAgg232, Tryz.zeroValue232, Tryz.underlying266, Tryz.runUnderlying266, Tryz.sizeOf266, Tryz.isAgg266, Tryz.zeroValue266,
    Tryz.underlying268, Tryz.runUnderlying268, Tryz.sizeOf268, Tryz.isAgg268, Tryz.zeroValue268, Tryz.underlying270, Tryz.runUnderlying270, Tryz.sizeOf270, Tryz.isAgg270, Tryz.zeroValue270,
    Tryz.underlying39, Tryz.runUnderlying39, Tryz.sizeOf39, Tryz.isAgg39, Tryz.zeroValue39, Tryz.underlying21, Tryz.runUnderlying21, Tryz.sizeOf21, Tryz.isAgg21, Tryz.zeroValue21, by kernel_rfl⟩
end Go.Proofs.YtmknnjjmmfbppaaGreat
/- A ground's log. -/
namespace Go.Proofs.YtmknnjjmmfbppaaGreat
open Go.ChangeShapes Go.WideShapes Go.ChangeAt Go.RowKit Go.Shelf Go.Lib Go.MuLone
set_option linter.unusedVariables false
set_option maxRecDepth 100000
set_option linter.unusedSimpArgs false
theorem ev_info : (Tryz.prog.info? 81).map (fun i => (i.zero, i.size, i.bytes)) = some (some (.agg #[.int .i64 0, .int .i64 0, .int .i64 0, .int .i64 0, .int .i64 0, .int .i64 0, .int .i64 0, .int .i64 0]), 8, 64) := by kernel_rfl
theorem evL_one (e : Ev) : ∀ u ∈ evL e, u.oneCell' = true := by
  intro u hu
  simp only [evL, List.mem_cons, List.not_mem_nil, or_false] at hu
  rcases hu with rfl | rfl | rfl | rfl | rfl | rfl | rfl | rfl <;> rfl
theorem evs_one (l : List Ev) : ∀ u ∈ l.flatMap evL, u.oneCell' = true := by
  intro u hu
  obtain ⟨e, _, h⟩ := List.mem_flatMap.1 hu
  exact evL_one e u h
theorem evs_len (l : List Ev) : (l.flatMap evL).length = l.length * 8 := by
  induction l with
  | nil => rfl
  | cons a l ih => rw [List.flatMap_cons, List.length_append, ih]; simp [evL]; omega
abbrev grL (g : GrP) (m : Mp) (vo : Value) : Array Value := #[.int .i64 (m.t : Int), .int .i64 (m.o : Int), .int .i64 (m.n : Int), cellsV g.C, permitsV g.P, .int .i32 1, .int .u32 0, vo]
def noPanic (Q : Exit → Act → World → Prop) : Exit → Act → World → Prop := fun e a w => match e with
  | .panic _ => False
  | e => Q e a w
theorem noPanic_imp (Q : Exit → Act → World → Prop) : ∀ e a w, noPanic Q e a w → Q e a w := fun e a w h => by
  cases e <;> first | exact h | exact h.elim
theorem noPanic_n {Q : Exit → Act → World → Prop} {a : Act} {w : World} (h : Q .normal a w) : noPanic Q .normal a w := h
/-- what a note leaves -/
def NotePost (w : World) (g : GrP) (m : Mp) (mm : List Int) (k : Int) (l : List Bool) (vo : Value) (E : List Ev) (e : Ev) (r : Ending) (w' : World) : Prop :=
  r = .returned (.tuple #[]) ∧ ∃ vo', GrAt w' g m mm k l vo' (E ++ [e]) ∧ Keep (fun b => b = g.G ∨ vo.ownBlock = some b) w w' ∧ ∀ b, vo'.ownBlock = some b → vo.ownBlock = some b ∨ w.heap.size ≤ b
section
variable {w w1 : World} {g : GrP} {m : Mp} {mm mm' : List Int} {k k' : Int} {l l' : List Bool} {vo vo' : Value} {E E' : List Ev}
set_option maxHeartbeats 4000000 in
theorem add_any (e : Ev) (h : GrAt w g m mm k l vo E) (hE : E.length ≤ 1000000) :
    Calls Tryz.prog 171 #[.pointer (some ⟨g.G, 5, none⟩), evV e] w (NotePost w g m mm k l vo E e) := by
  have HG := Lib.hid h
  have hown := h.own
  have hlt := h.own.lt
  have hrow := h.row
  have ha := h.apartG
  clear h
  obtain ⟨i0, hi0, hz0, hz1, hz2⟩ := info_parts ev_info
  go_enter_defers Tryz.func171, Tryz.ntmps171
  go_wp2_with (go_at_call 110; refine (lock_free muLib ⟨g.G, 5, none⟩ _ ?_ ?_).mono ?_)
  · exact (hown.alloc _).cell 5 _ rfl
  · exact (hown.alloc _).free 5
  rintro r w' ⟨rfl, rfl⟩
  have bW : Below w.heap.size w (w.alloc (.cells (evC e) 81)) := by go_grown
  have q0 : Blk ((w.alloc (.cells (evC e) 81)).setCell ⟨g.G, 5, none⟩ (.int .i32 1)) g.G 49 (grL g m vo) := (hown.alloc _).set 5 (.int .i32 1)
  have q1 : Blk ((w.alloc (.cells (evC e) 81)).setCell ⟨g.G, 5, none⟩ (.int .i32 1)) w.heap.size 81 (evC e) := (Blk.new w _ _).far (by omega) _ _
  have kW : Keep (fun b => b = g.G) w ((w.alloc (.cells (evC e) 81)).setCell ⟨g.G, 5, none⟩ (.int .i32 1)) := ((Keep.refl (fun b => b = g.G) w).alloc _).set (p := ⟨g.G, 5, none⟩) (fun _ => rfl) _
  have hrw : ((w.alloc (.cells (evC e) 81)).setCell ⟨g.G, 5, none⟩ (.int .i32 1)).ownsRow 0 81 8 vo E.length (E.flatMap evL) := row_ownkeep hrow kW (fun b hb e => ha.2.2.2.2.2 (e ▸ hb))
  have hbx : ∀ b, vo.ownBlock = some b → b = w.heap.size → False := fun b hb e => by have := (row_lt hrow hb).1; omega
  have hbxG : w.heap.size = g.G → False := fun e => by omega
  generalize (w.alloc (.cells (evC e) 81)).setCell ⟨g.G, 5, none⟩ (.int .i32 1) = W1 at *
  have hbW : w.heap.size < W1.heap.size := q1.lt
  have c7 : W1.cell? ⟨g.G, 7, none⟩ = some vo := q0.cell 7 _ rfl
  have c7X := Lib.hid (show (W1.alloc (.cells (evC e) 81)).drew.cell? ⟨g.G, 7, none⟩ = some vo from (Blk.alloc q0 _).drew.cell 7 _ rfl)
  have HX := Lib.hid (show (W1.alloc (.cells (evC e) 81)).drew.ownsRow 0 81 8 vo E.length (E.flatMap evL) ∧ (∀ (j : Nat) (u : Value), (evL e)[j]? = some u → (W1.alloc (.cells (evC e) 81)).drew.cell? ((⟨W1.heap.size, 0, none⟩ : Addr).add j) = some u) ∧ (∀ w6 r, (W1.alloc (.cells (evC e) 81)).drew.grownBy w6 r → Keep (fun b => r = some b) W1 w6) ∧ W1.heap.size ≤ (W1.alloc (.cells (evC e) 81)).drew.heap.size from by
    refine ⟨(hrw.alloc _).drew, fun j u hu => ?_, fun w6 r hg => ?_, by simp⟩
    · have := (Blk.new W1 81 (evC e)).drew.cell j u (by simpa [evL, evC] using hu)
      have e1 : ((⟨W1.heap.size, 0, none⟩ : Addr).add j) = ⟨W1.heap.size, j, none⟩ := by unfold Addr.add; split <;> simp_all
      rw [e1]
      exact this
    · exact grown_keep (w := W1) (o := .cells (evC e) 81) ⟨hg.1, hg.2, hg.3, hg.4, hg.5⟩)
  have hnG : ∀ gn : Nat, (vo.ownBlock = some gn ∨ W1.heap.size ≤ gn) → gn = g.G → False := fun gn h e => by
    subst e
    rcases h with h | h
    · exact ha.2.2.2.2.2 h
    · have := q0.lt; omega
  have HFIN := Lib.hid (show ∀ gn cap W7, W7.ownsRow 0 81 8 (.slice (some ⟨gn, 0, none⟩) (E.length + 1) cap) (E.length + 1) (E.flatMap evL ++ evL e) → Blk W7 g.G 49 ((grL g m vo).setIfInBounds 7 (.slice (some ⟨gn, 0, none⟩) (E.length + 1) cap)) → Keep (fun b => b = g.G ∨ vo.ownBlock = some b) W1 W7 → (vo.ownBlock = some gn ∨ W1.heap.size ≤ gn) → NotePost w g m mm k l vo E e (.returned (.tuple #[])) (W7.setCell ⟨g.G, 5, none⟩ (.int .i32 0)) from by
    intro gn cap W7 hr hD hk hg
    have kE : Keep (fun b => b = g.G ∨ vo.ownBlock = some b) w (W7.setCell ⟨g.G, 5, none⟩ (.int .i32 0)) := ((kW.mono fun _ _ h => .inl h).trans hk).set (p := ⟨g.G, 5, none⟩) (fun _ => .inl rfl) _
    have hL : (E ++ [e]).length = E.length + 1 := by simp
    refine ⟨rfl, .slice (some ⟨gn, 0, none⟩) (E.length + 1) cap, HG.out.log' (hD.set 5 (.int .i32 0)) ?_ kE, kE, fun b hb => ?_⟩
    · rw [hL, List.flatMap_append, List.flatMap_cons, List.flatMap_nil, List.append_nil]
      exact row_ownkeep hr (Q := fun b => b = g.G) ((Keep.refl (fun b => b = g.G) W7).set (p := ⟨g.G, 5, none⟩) (fun _ => rfl) _) (fun b hb e => hnG gn hg (own_some hb ▸ e))
    · rw [← own_some hb]
      exact hg.imp id (fun h => Nat.le_trans kW.size h))
  clear hown
  go_upto_region 3 with fail
  refine Code.wp_mono (Q := noPanic _) (noPanic_imp _) ?_
  --BEGIN add
  refine wp_region_held_drew (S := fun V => EvAt V w.heap.size e) (by kernel_rfl) (evAt q1) (fun hHeld => ?_)
  refine wpAnyH_take (i := 0) (oi := _) (v := ?_) rfl (by kernel_rfl) (by kernel_rfl) (by kernel_rfl) (fun _ _ _ h => h) (Or.inl ⟨by rfl, ?_⟩) (by assumption) ?_
  rotate_left
  · intro wq hSw; (try dsimp only at hSw); (try obtain ⟨b0, b1, b2, b3, b4, b5, b6, b7⟩ := hSw); go_simp; try with_reducible rfl
  (try simp only [Act.put, List.setIfInBounds_toArray, List.set_cons_zero, List.set_cons_succ])
  refine wpAnyH_take (i := 1) (oi := _) (v := ?_) rfl (by kernel_rfl) (by kernel_rfl) (by kernel_rfl) (fun _ _ _ h => h) (Or.inl ⟨by rfl, ?_⟩) (by assumption) ?_
  rotate_left
  · intro wq hSw; (try dsimp only at hSw); (try obtain ⟨b0, b1, b2, b3, b4, b5, b6, b7⟩ := hSw); go_simp; try with_reducible rfl
  (try simp only [Act.put, List.setIfInBounds_toArray, List.set_cons_zero, List.set_cons_succ])
  refine wpAnyH_take (i := 2) (oi := _) (v := ?_) rfl (by kernel_rfl) (by kernel_rfl) (by kernel_rfl) (fun _ _ _ h => h) (Or.inl ⟨by rfl, ?_⟩) (by assumption) ?_
  rotate_left
  · intro wq hSw; (try dsimp only at hSw); (try obtain ⟨b0, b1, b2, b3, b4, b5, b6, b7⟩ := hSw); go_simp; try with_reducible rfl
  (try simp only [Act.put, List.setIfInBounds_toArray, List.set_cons_zero, List.set_cons_succ])
  refine wpAnyH_take (i := 3) (oi := _) (v := ?_) rfl (by kernel_rfl) (by kernel_rfl) (by kernel_rfl) (fun _ _ _ h => h) (Or.inl ⟨by rfl, ?_⟩) (by assumption) ?_
  rotate_left
  · intro wq hSw; (try dsimp only at hSw); (try obtain ⟨b0, b1, b2, b3, b4, b5, b6, b7⟩ := hSw); go_simp; try with_reducible rfl
  (try simp only [Act.put, List.setIfInBounds_toArray, List.set_cons_zero, List.set_cons_succ])
  refine wpAnyH_take (i := 5) (oi := _) (v := ?_) rfl (by kernel_rfl) (by kernel_rfl) (by kernel_rfl) (fun _ _ _ h => h) (Or.inl ⟨by rfl, ?_⟩) (by assumption) ?_
  rotate_left
  · intro wq hSw; (try dsimp only at hSw); (try obtain ⟨b0, b1, b2, b3, b4, b5, b6, b7⟩ := hSw); go_simp; try with_reducible rfl
  (try simp only [Act.put, List.setIfInBounds_toArray, List.set_cons_zero, List.set_cons_succ])
  refine wpAnyH_ready (rs := [4, 6]) (by kernel_rfl) (by simp) ?_
  refine AllReadyH.cons rfl (fun KK hKK => ?_) (AllReadyH.cons rfl (fun KK hKK => ?_) AllReadyH.nil)
  · go_simp
    go_wp2_with fail
    refine hKK.out _ _ (evAt q1.drew) (fun hHeld => ?_)
    clear hKK KK
    (try dsimp only [Act.put]); (try simp only [Act.put, List.setIfInBounds_toArray, List.set_cons_zero, List.set_cons_succ])
    refine wpAnyH_ready (rs := [6]) (by kernel_rfl) (by simp) ?_
    refine AllReadyH.cons rfl (fun KK hKK => ?_) AllReadyH.nil
    go_simp
    go_wp2_with fail
    refine hKK.out _ _ (evAt (q1.alloc _).drew) (fun hHeld => ?_)
    clear hKK KK
    (try dsimp only [Act.put]); (try simp only [Act.put, List.setIfInBounds_toArray, List.set_cons_zero, List.set_cons_succ])
    have hX := HX.out
    generalize (W1.alloc (.cells (evC e) 81)).drew = X5 at *
    have hr5 : X5.ownsRow 0 81 8 vo E.length (E.flatMap evL) := hX.1
    refine wpAnyH_ready (rs := [7]) (by kernel_rfl) (by simp) ?_
    refine AllReadyH.cons rfl (fun K' hK' => ?_) AllReadyH.nil
    rw [if_pos (by kernel_rfl)]
    refine wp_append_own2 _ _ _ _ rfl 0 81 i0 _ 8 64 Tryz.underlying45 hi0 hz0 hz1 hz2 rfl (by decide) _ _ _ rfl hr5 ⟨W1.heap.size, 0, none⟩ 1 1 (evL e) rfl rfl hX.2.1 (evL_one e) (by unfold maxLen; omega) (by omega) (Nat.zero_le _) (by omega) ?_
    intro gn cap w6 hown' hgrow hg
    replace hgrow : X5.grownBy w6 vo.ownBlock := hgrow
    have hg' : vo.ownBlock = some gn ∨ W1.heap.size ≤ gn := hg.imp id (fun h => Nat.le_trans hX.2.2.2 h)
    have k6 : Keep (fun b => vo.ownBlock = some b) W1 w6 := hX.2.2.1 _ _ hgrow
    have D6 : Blk w6 g.G 49 (grL g m vo) := q0.keep k6 (fun e => ha.2.2.2.2.2 e)
    have z2 := D6.free 7
    have d2 := D6.cell 7 vo rfl
    refine hK'.out _ _ (evAt (q1.keep k6 (fun e => hbx _ e rfl))) (fun hHeld => ?_)
    clear hK' K'
    (try dsimp only [Act.put]); (try simp only [Act.put, List.setIfInBounds_toArray, List.set_cons_zero, List.set_cons_succ])
    refine wpAnyH_take (i := 8) (oi := _) (v := ?_) rfl (by kernel_rfl) (by kernel_rfl) (by kernel_rfl) (fun _ _ _ h => h) (Or.inl ⟨by rfl, ?_⟩) (by assumption) ?_
    rotate_left
    · intro wq hSw; (try dsimp only at hSw); (try obtain ⟨b0, b1, b2, b3, b4, b5, b6, b7⟩ := hSw); go_simp; try with_reducible rfl
    (try simp only [Act.put, List.setIfInBounds_toArray, List.set_cons_zero, List.set_cons_succ])
    refine wpAnyH_take (i := 9) (oi := _) (v := ?_) rfl (by kernel_rfl) (by kernel_rfl) (by kernel_rfl) (fun _ _ _ h => h) (Or.inl ⟨by rfl, ?_⟩) (by assumption) ?_
    rotate_left
    · intro wq hSw; (try dsimp only at hSw); (try obtain ⟨b0, b1, b2, b3, b4, b5, b6, b7⟩ := hSw); go_simp; try with_reducible rfl
    (try simp only [Act.put, List.setIfInBounds_toArray, List.set_cons_zero, List.set_cons_succ])
    refine wpAnyH_ready (rs := [10]) (by kernel_rfl) (by simp) ?_
    refine AllReadyH.cons rfl (fun K' hK' => ?_) AllReadyH.nil
    go_simp
    go_wp2_with fail
    have k7 : Keep (fun b => b = g.G ∨ vo.ownBlock = some b) W1 (w6.setCell ⟨g.G, 7, none⟩ (.slice (some ⟨gn, 0, none⟩) (E.length + 1) cap)) := (k6.mono fun _ _ h => .inr h).set (fun _ => .inl rfl) _
    refine hK'.out _ _ (evAt (q1.keep k7 (fun e => e.elim (fun e => hbxG e) (fun e => hbx _ e rfl)))) (fun hHeld => ?_)
    clear hK' K' hHeld
    refine wpAnyH_done (by kernel_rfl) ?_ _
    refine noPanic_n ?_
    refine leaves_cons (f := 111) (args := #[.pointer (some ⟨g.G, 5, none⟩)]) (by simp) (by simp [go_sem]) ?_
    have D7 := D6.set 7 (.slice (some ⟨gn, 0, none⟩) (E.length + 1) cap)
    have hr7 := row_ownkeep hown' (Q := fun b => b = g.G) ((Keep.refl (fun b => b = g.G) w6).set (p := ⟨g.G, 7, none⟩) (fun _ => rfl) (.slice (some ⟨gn, 0, none⟩) (E.length + 1) cap)) (fun b hb e => hnG gn hg' (own_some hb ▸ e))
    generalize w6.setCell ⟨g.G, 7, none⟩ (.slice (some ⟨gn, 0, none⟩) (E.length + 1) cap) = W7 at *
    refine (unlock_deferred muLib ⟨g.G, 5, none⟩ .returning _ (D7.cell 5 _ rfl) (D7.free 5)).mono ?_
    rintro r u' w'' ⟨rfl, rfl, rfl⟩
    exact ⟨_, results_none rfl _ _ _, HFIN.out gn cap W7 hr7 D7 k7 hg'⟩
  · go_simp
    go_wp2_with fail
    refine hKK.out _ _ (evAt (q1.alloc _).drew) (fun hHeld => ?_)
    clear hKK KK
    (try dsimp only [Act.put]); (try simp only [Act.put, List.setIfInBounds_toArray, List.set_cons_zero, List.set_cons_succ])
    have cX := c7X.out
    have hX := HX.out
    generalize (W1.alloc (.cells (evC e) 81)).drew = X5 at *
    refine wpAnyH_ready (rs := [4]) (by kernel_rfl) (by simp) ?_
    refine AllReadyH.cons rfl (fun KK hKK => ?_) AllReadyH.nil
    go_simp
    go_wp2_with fail
    refine hKK.out _ _ hHeld (fun hHeld => ?_)
    clear hKK KK
    (try dsimp only [Act.put]); (try simp only [Act.put, List.setIfInBounds_toArray, List.set_cons_zero, List.set_cons_succ])
    have hr5 : X5.ownsRow 0 81 8 vo E.length (E.flatMap evL) := hX.1
    refine wpAnyH_ready (rs := [7]) (by kernel_rfl) (by simp) ?_
    refine AllReadyH.cons rfl (fun K' hK' => ?_) AllReadyH.nil
    rw [if_pos (by kernel_rfl)]
    refine wp_append_own2 _ _ _ _ rfl 0 81 i0 _ 8 64 Tryz.underlying45 hi0 hz0 hz1 hz2 rfl (by decide) _ _ _ rfl hr5 ⟨W1.heap.size, 0, none⟩ 1 1 (evL e) rfl rfl hX.2.1 (evL_one e) (by unfold maxLen; omega) (by omega) (Nat.zero_le _) (by omega) ?_
    intro gn cap w6 hown' hgrow hg
    replace hgrow : X5.grownBy w6 vo.ownBlock := hgrow
    have hg' : vo.ownBlock = some gn ∨ W1.heap.size ≤ gn := hg.imp id (fun h => Nat.le_trans hX.2.2.2 h)
    have k6 : Keep (fun b => vo.ownBlock = some b) W1 w6 := hX.2.2.1 _ _ hgrow
    have D6 : Blk w6 g.G 49 (grL g m vo) := q0.keep k6 (fun e => ha.2.2.2.2.2 e)
    have z2 := D6.free 7
    have d2 := D6.cell 7 vo rfl
    refine hK'.out _ _ (evAt (q1.keep k6 (fun e => hbx _ e rfl))) (fun hHeld => ?_)
    clear hK' K'
    (try dsimp only [Act.put]); (try simp only [Act.put, List.setIfInBounds_toArray, List.set_cons_zero, List.set_cons_succ])
    refine wpAnyH_take (i := 8) (oi := _) (v := ?_) rfl (by kernel_rfl) (by kernel_rfl) (by kernel_rfl) (fun _ _ _ h => h) (Or.inl ⟨by rfl, ?_⟩) (by assumption) ?_
    rotate_left
    · intro wq hSw; (try dsimp only at hSw); (try obtain ⟨b0, b1, b2, b3, b4, b5, b6, b7⟩ := hSw); go_simp; try with_reducible rfl
    (try simp only [Act.put, List.setIfInBounds_toArray, List.set_cons_zero, List.set_cons_succ])
    refine wpAnyH_take (i := 9) (oi := _) (v := ?_) rfl (by kernel_rfl) (by kernel_rfl) (by kernel_rfl) (fun _ _ _ h => h) (Or.inl ⟨by rfl, ?_⟩) (by assumption) ?_
    rotate_left
    · intro wq hSw; (try dsimp only at hSw); (try obtain ⟨b0, b1, b2, b3, b4, b5, b6, b7⟩ := hSw); go_simp; try with_reducible rfl
    (try simp only [Act.put, List.setIfInBounds_toArray, List.set_cons_zero, List.set_cons_succ])
    refine wpAnyH_ready (rs := [10]) (by kernel_rfl) (by simp) ?_
    refine AllReadyH.cons rfl (fun K' hK' => ?_) AllReadyH.nil
    go_simp
    go_wp2_with fail
    have k7 : Keep (fun b => b = g.G ∨ vo.ownBlock = some b) W1 (w6.setCell ⟨g.G, 7, none⟩ (.slice (some ⟨gn, 0, none⟩) (E.length + 1) cap)) := (k6.mono fun _ _ h => .inr h).set (fun _ => .inl rfl) _
    refine hK'.out _ _ (evAt (q1.keep k7 (fun e => e.elim (fun e => hbxG e) (fun e => hbx _ e rfl)))) (fun hHeld => ?_)
    clear hK' K' hHeld
    refine wpAnyH_done (by kernel_rfl) ?_ _
    refine noPanic_n ?_
    refine leaves_cons (f := 111) (args := #[.pointer (some ⟨g.G, 5, none⟩)]) (by simp) (by simp [go_sem]) ?_
    have D7 := D6.set 7 (.slice (some ⟨gn, 0, none⟩) (E.length + 1) cap)
    have hr7 := row_ownkeep hown' (Q := fun b => b = g.G) ((Keep.refl (fun b => b = g.G) w6).set (p := ⟨g.G, 7, none⟩) (fun _ => rfl) (.slice (some ⟨gn, 0, none⟩) (E.length + 1) cap)) (fun b hb e => hnG gn hg' (own_some hb ▸ e))
    generalize w6.setCell ⟨g.G, 7, none⟩ (.slice (some ⟨gn, 0, none⟩) (E.length + 1) cap) = W7 at *
    refine (unlock_deferred muLib ⟨g.G, 5, none⟩ .returning _ (D7.cell 5 _ rfl) (D7.free 5)).mono ?_
    rintro r u' w'' ⟨rfl, rfl, rfl⟩
    exact ⟨_, results_none rfl _ _ _, HFIN.out gn cap W7 hr7 D7 k7 hg'⟩
  --END add
theorem note_any (e : Ev) (h : GrAt w g m mm k l vo E) (hE : E.length ≤ 1000000) :
    Calls Tryz.prog 103 #[grV g, evV e] w (NotePost w g m mm k l vo E e) := by
  have HG := Lib.hid h
  have hlt := h.own.lt
  have hvlt := Lib.hid fun b (hb : vo.ownBlock = some b) => (row_lt h.row hb).1
  clear h
  go_enter Tryz.func103, Tryz.ntmps103
  go_upto_region 2 with fail
  have bW : Below w.heap.size w (w.alloc (.cells (evC e) 81)) := by go_grown
  have q1 : Blk (w.alloc (.cells (evC e) 81)) w.heap.size 81 (evC e) := Blk.new _ _ _
  have HW := Lib.hid (HG.out.below bW)
  generalize w.alloc (.cells (evC e) 81) = W1 at *
  have bd := bdrewP W1
  have HN := Lib.hid (add_any e (HW.out.below bd) hE)
  have HQ := Lib.hid q1
  clear q1 HW
  have hs1 := bW.size
  have HK := Lib.hid (show ∀ V, Keep (fun b => b = g.G ∨ vo.ownBlock = some b) W1 V → V.cell? ⟨w.heap.size, 0, none⟩ = some (.int .i64 e.kind) ∧ V.cell? ⟨w.heap.size, 1, none⟩ = some (.int .i64 e.thr) ∧ V.cell? ⟨w.heap.size, 2, none⟩ = some (.int .i64 e.idx) ∧ V.cell? ⟨w.heap.size, 3, none⟩ = some (.int .i64 e.act) ∧ V.cell? ⟨w.heap.size, 4, none⟩ = some (.int .i64 e.obj) ∧ V.cell? ⟨w.heap.size, 5, none⟩ = some (.int .i64 e.oth) ∧ V.cell? ⟨w.heap.size, 6, none⟩ = some (.int .i64 e.code) ∧ V.cell? ⟨w.heap.size, 7, none⟩ = some (.int .i64 e.val) from fun V hk => (evAt (HQ.out.keep hk (fun h => h.elim (fun h => absurd hlt (by omega)) (fun h => absurd (hvlt.out _ h) (by omega))))).conj)
  go_region_held3 (fun V => V.cell? ⟨w.heap.size, 0, none⟩ = some (.int .i64 e.kind) ∧ V.cell? ⟨w.heap.size, 1, none⟩ = some (.int .i64 e.thr) ∧ V.cell? ⟨w.heap.size, 2, none⟩ = some (.int .i64 e.idx) ∧ V.cell? ⟨w.heap.size, 3, none⟩ = some (.int .i64 e.act) ∧ V.cell? ⟨w.heap.size, 4, none⟩ = some (.int .i64 e.obj) ∧ V.cell? ⟨w.heap.size, 5, none⟩ = some (.int .i64 e.oth) ∧ V.cell? ⟨w.heap.size, 6, none⟩ = some (.int .i64 e.code) ∧ V.cell? ⟨w.heap.size, 7, none⟩ = some (.int .i64 e.val)) (first | exact HK.out _ k3 | exact HK.out _ (Keep.ofBelow bd)) (first | (go_at_call 171; refine HN.out.mono ?_; rintro r w2 ⟨rfl, vo', h2, k2, o2⟩; have k3 := Keep.trans (Keep.ofBelow (Q := fun b => b = g.G ∨ vo.ownBlock = some b) bd) k2))
  go_end0
  exact ⟨rfl, vo', h2, (Keep.ofBelow bW).trans k3, fun b hb => (o2 b hb).imp id (fun h => by have : W1.drew.heap.size = W1.heap.size := rfl; omega)⟩
theorem note_nil (e : Ev) (w : World) : Calls Tryz.prog 103 #[.pointer none, evV e] w fun r w' => r = .returned (.tuple #[]) ∧ Below w.heap.size w w' := by
  go_enter Tryz.func103, Tryz.ntmps103
  go_wp2_with fail
  go_end0
  exact ⟨rfl, by go_grown⟩
theorem act_any (t a o x : Int) (h : GrAt w g m mm k l vo E) (hE : E.length ≤ 1000000) :
    Calls Tryz.prog 50 #[grV g, .int .i64 t, .int .i64 a, .int .i64 o, .int .i64 x] w (NotePost w g m mm k l vo E ⟨1, t, 0, a, o, x, 0, 0⟩) := by
  have HN := Lib.hid (note_any ⟨1, t, 0, a, o, x, 0, 0⟩ h hE)
  clear h
  go_enter Tryz.func50, Tryz.ntmps50
  go_wp2_with (go_at_call 103; refine HN.out.mono ?_; rintro r w2 ⟨rfl, h2⟩)
  go_end0
  exact ⟨rfl, h2⟩
theorem act_nil (t a o x : Int) (w : World) : Calls Tryz.prog 50 #[.pointer none, .int .i64 t, .int .i64 a, .int .i64 o, .int .i64 x] w fun r w' => r = .returned (.tuple #[]) ∧ Below w.heap.size w w' := by
  have HN := Lib.hid (note_nil ⟨1, t, 0, a, o, x, 0, 0⟩ w)
  go_enter Tryz.func50, Tryz.ntmps50
  go_wp2_with (go_at_call 103; refine HN.out.mono ?_; rintro r w2 ⟨rfl, h2⟩)
  go_end0
  exact ⟨rfl, h2⟩
theorem call_any (t i a o x : Int) (h : GrAt w g m mm k l vo E) (hE : E.length ≤ 1000000) :
    Calls Tryz.prog 122 #[grV g, .int .i64 t, .int .i64 i, .agg #[.int .i64 a, .int .i64 o, .int .i64 x]] w (NotePost w g m mm k l vo E ⟨0, t, i, a, o, x, 0, 0⟩) := by
  have HN := Lib.hid fun V (hV : GrAt V g m mm k l vo E) => note_any ⟨0, t, i, a, o, x, 0, 0⟩ hV hE
  have HG := Lib.hid h
  clear h
  go_enter Tryz.func122, Tryz.ntmps122
  go_upto_region 1 with fail
  generalize hW : w.alloc _ = W1
  have bW : Below w.heap.size w W1 := by rw [← hW]; go_grown
  have q1 : Blk W1 w.heap.size 140 #[.int .i64 a, .int .i64 o, .int .i64 x] := by rw [← hW]; exact Blk.new _ _ _
  have HN1 := Lib.hid (HN.out W1 (HG.out.below bW))
  clear hW HN
  have c0 := q1.cell 0 _ rfl
  have c1 := q1.cell 1 _ rfl
  have c2 := q1.cell 2 _ rfl
  have hs1 := bW.size
  go_wp2_with (go_at_call 103; refine HN1.out.mono ?_; rintro r w2 ⟨rfl, vo', h2, k2, o2⟩)
  go_end0
  exact ⟨rfl, vo', h2, (Keep.ofBelow bW).trans k2, fun b hb => (o2 b hb).imp id (fun h => by omega)⟩
theorem call_nil (t i a o x : Int) (w : World) : Calls Tryz.prog 122 #[.pointer none, .int .i64 t, .int .i64 i, .agg #[.int .i64 a, .int .i64 o, .int .i64 x]] w fun r w' => r = .returned (.tuple #[]) ∧ Below w.heap.size w w' := by
  have HN := Lib.hid fun V => note_nil ⟨0, t, i, a, o, x, 0, 0⟩ V
  go_enter Tryz.func122, Tryz.ntmps122
  go_upto_region 1 with fail
  generalize hW : w.alloc _ = W1
  have bW : Below w.heap.size w W1 := by rw [← hW]; go_grown
  have q1 : Blk W1 w.heap.size 140 #[.int .i64 a, .int .i64 o, .int .i64 x] := by rw [← hW]; exact Blk.new _ _ _
  clear hW
  have c0 := q1.cell 0 _ rfl
  have c1 := q1.cell 1 _ rfl
  have c2 := q1.cell 2 _ rfl
  go_wp2_with (go_at_call 103; refine (HN.out _).mono ?_; rintro r w2 ⟨rfl, h2⟩)
  go_end0
  exact ⟨rfl, bW.trans (h2.mono bW.size)⟩
theorem return_any (t i c v : Int) (h : GrAt w g m mm k l vo E) (hE : E.length ≤ 1000000) :
    Calls Tryz.prog 124 #[grV g, .int .i64 t, .int .i64 i, .agg #[.int .i64 c, .int .i64 v]] w (NotePost w g m mm k l vo E ⟨2, t, i, 0, 0, 0, c, v⟩) := by
  have HN := Lib.hid fun V (hV : GrAt V g m mm k l vo E) => note_any ⟨2, t, i, 0, 0, 0, c, v⟩ hV hE
  have HG := Lib.hid h
  clear h
  go_enter Tryz.func124, Tryz.ntmps124
  go_upto_region 1 with fail
  generalize hW : w.alloc _ = W1
  have bW : Below w.heap.size w W1 := by rw [← hW]; go_grown
  have q1 : Blk W1 w.heap.size 79 #[.int .i64 c, .int .i64 v] := by rw [← hW]; exact Blk.new _ _ _
  have HN1 := Lib.hid (HN.out W1 (HG.out.below bW))
  clear hW HN
  have c0 := q1.cell 0 _ rfl
  have c1 := q1.cell 1 _ rfl
  have hs1 := bW.size
  go_wp2_with (go_at_call 103; refine HN1.out.mono ?_; rintro r w2 ⟨rfl, vo', h2, k2, o2⟩)
  go_end0
  exact ⟨rfl, vo', h2, (Keep.ofBelow bW).trans k2, fun b hb => (o2 b hb).imp id (fun h => by omega)⟩
theorem return_nil (t i c v : Int) (w : World) : Calls Tryz.prog 124 #[.pointer none, .int .i64 t, .int .i64 i, .agg #[.int .i64 c, .int .i64 v]] w fun r w' => r = .returned (.tuple #[]) ∧ Below w.heap.size w w' := by
  have HN := Lib.hid fun V => note_nil ⟨2, t, i, 0, 0, 0, c, v⟩ V
  go_enter Tryz.func124, Tryz.ntmps124
  go_upto_region 1 with fail
  generalize hW : w.alloc _ = W1
  have bW : Below w.heap.size w W1 := by rw [← hW]; go_grown
  have q1 : Blk W1 w.heap.size 79 #[.int .i64 c, .int .i64 v] := by rw [← hW]; exact Blk.new _ _ _
  clear hW
  have c0 := q1.cell 0 _ rfl
  have c1 := q1.cell 1 _ rfl
  go_wp2_with (go_at_call 103; refine (HN.out _).mono ?_; rintro r w2 ⟨rfl, h2⟩)
  go_end0
  exact ⟨rfl, bW.trans (h2.mono bW.size)⟩
/-- what Events gives -/
def EvsPost (w : World) (g : GrP) (m : Mp) (mm : List Int) (k : Int) (l : List Bool) (vo : Value) (E : List Ev) (r : Ending) (w' : World) : Prop :=
  ∃ v, r = .returned v ∧ w'.ownsRow w.heap.size 81 8 v E.length (E.flatMap evL) ∧ GrAt w' g m mm k l vo E ∧ Keep (fun b => b = g.G) w w'
shelf_lay_g SlLaysE0.n41 Slgn 41 at Tryz 112 as Tryz.lcloneE
theorem evsize : ∀ w, (Go.sizeOf 81).run Tryz.prog w = .ok 8 w := by
  intro w
  simp only [Tryz.sizeOf81]
theorem gclone_any (b n c : Nat) (news : List Value) (w : World) (hl : news.length = n * 8) (hn : n ≤ 1000000) (hc : ∀ (j : Nat) (u : Value), news[j]? = some u → w.cell? ⟨b, 0 + j, none⟩ = some u) (h1 : ∀ u ∈ news, u.oneCell' = true) :
    Calls Tryz.prog 112 #[.slice (some ⟨b, 0, none⟩) n c] w fun e w' => ∃ v', e = .returned v' ∧ w'.ownsRow w.heap.size 81 8 v' n news ∧ Below w.heap.size w w' := by
  obtain ⟨i0, hi0, hz0, hz1, hz2⟩ := info_parts ev_info
  refine (AnyE.slices_Clone Tryz.lcloneE i0 _ 8 64 hi0 hz0 hz1 hz2 rfl (by decide) evsize b 0 n c news w hl (by unfold maxLen; omega) (by omega) hc h1).mono ?_
  rintro e w' ⟨v', rfl, h2, _, h3⟩
  exact ⟨v', rfl, h2, h3⟩
end
end Go.Proofs.YtmknnjjmmfbppaaGreat
