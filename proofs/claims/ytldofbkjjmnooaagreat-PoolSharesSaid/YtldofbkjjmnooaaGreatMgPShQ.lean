/- PoolShares: a turn's step, and what the law makes of it. -/
import Derived.Test.YtldofbkjjmnooaaGreatMgPShP
import Derived.Deep.RegionWith
import Derived.StillTailTactics
namespace Go.Proofs.YtldofbkjjmnooaaGreat
open Go.ChangeShapes Go.WideShapes Go.ChangeAt Go.RowKit
set_option linter.unusedVariables false
set_option maxRecDepth 100000
set_option linter.unusedSimpArgs false
section
variable {g : G3} {w w1 w2 : World} {U : List (Nat × Ph)} {TA : List (Option Nat)} {o : Option Nat} {mm L : List Int} {EM : List Bool} {j n k : Nat} {τ : Nat → Option (Nat × Tre Itm)} {nn : Int}
theorem L3.step (h : L3 g w U TA o mm L EM j τ nn) (hj : j ≤ 100000) {t d q : Nat} {p : Ph} (hm : g.m.n ≤ 4096) (hU : U[t]? = some (d, p)) (ha : TA[t]? = some (some q)) (hd : d < 3) (hE : mm[1]? = some 0 → EM[t]? = some true) :
    ∃ mm' T', OutP g.m g.n U o mm L EM t d p mm' T' ∧ mm'.length = sizeN g.m ∧ Calls Tryz.prog 37 #[pV q, .int .i64 0] w fun e w' => e = .returned (.bool true) ∧ Wld g.n0 g.X w' g.C g.S mm' (nn + 1) (upd τ t (some (q, T'))) ∧ Keep (fun b => g.n0 ≤ b ∧ ¬ g.X b) w w' := by
  obtain ⟨d', p', e1, hb, hτ⟩ := h.ta t q ha
  rw [hU] at e1
  obtain ⟨rfl, rfl⟩ := Prod.mk.inj (Option.some.inj e1)
  obtain ⟨x, κ, mm', u, ok, T', hT, hk5, hO, hC1, hκ, hOut⟩ := h.inv.turn h.sm.2.1 hm hU hd hb hE
  refine ⟨mm', T', hOut, ?_, pstep t h.wld hτ hT hk5 ⟨h.cnt.1, by have := h.cnt.2; omega⟩ hO hC1 hκ⟩
  have := operS_size mm x
  rw [hO] at this
  exact this.trans h.msz
/-- the rows stand -/
theorem L3.rows (h : L3 g w U TA o mm L EM j τ nn) (hk : Keep (fun b => g.n0 ≤ b ∧ ¬ g.X b) w w1) : Blk w1 g.A 40 (rowP TA) ∧ Blk w1 g.H 3 (rowI (hasU U)) ∧ Blk w1 g.D 3 (rowI (doneU U)) ∧ Blk w1 g.E 4 (rowB EM) := by
  have nx : ∀ b, g.X b → ¬ (g.n0 ≤ b ∧ ¬ g.X b) := fun b hb hh => hh.2 hb
  exact ⟨h.ba.keep hk (nx _ (.inr (.inr (.inl rfl)))), h.bh.keep hk (nx _ (.inr (.inr (.inr (.inl rfl))))), h.bd.keep hk (nx _ (.inr (.inr (.inr (.inr (.inl rfl)))))), h.be.keep hk (nx _ (.inr (.inr (.inr (.inr (.inr rfl))))))⟩
/-- the rows were turned: the task is at its end -/
theorem L3.fin3 {t q d d' : Nat} {p p' : Ph} {T' : Tre Itm} {o' : Option Nat} {mm' L' : List Int} (h : L3 g w U TA o mm L EM j τ nn) (hk : Keep (fun b => g.n0 ≤ b ∧ ¬ g.X b) w w1) (hW : Wld g.n0 g.X w1 g.C g.S mm' (nn + 1) (upd τ t (some (q, T')))) (hk2 : Keep (fun b => b = g.A ∨ b = g.H ∨ b = g.D) w1 w2) (hU : U[t]? = some (d, p)) (hb : p'.busy = false) (hz : mm'.length = sizeN g.m) (hi : InvP g.m g.n (U.set t (d', p')) o' mm' L' EM) (hnn : nn + 1 ≤ j + 100)
    (bA : Blk w2 g.A 40 (rowP (TA.set t none))) (bH : Blk w2 g.H 3 (rowI ((hasU U).set t p'.has))) (bD : Blk w2 g.D 3 (rowI ((doneU U).set t (d' : Int)))) :
    L3 g w2 (U.set t (d', p')) (TA.set t none) o' mm' L' EM j (upd τ t (some (q, T'))) (nn + 1) ∧ Below g.n0 w w2 := by
  have hk3 : Keep (fun b => (g.n0 ≤ b ∧ ¬ g.X b) ∨ b = g.A ∨ b = g.H ∨ b = g.D) w w2 := (hk.mono fun _ _ h => .inl h).trans (hk2.mono fun _ _ h => .inr h)
  refine ⟨h.fin hk3 (hW.keep hk2 fun b hb => ?_) hU hb hz hi hnn bA bH bD, hk3.below h.wld.lo.2.2 fun b _ hb => ?_⟩
  · rcases hb with rfl | rfl | rfl
    · exact .inr (.inr (.inl rfl))
    · exact .inr (.inr (.inr (.inl rfl)))
    · exact .inr (.inr (.inr (.inr (.inl rfl))))
  · have := h.ne
    have := h.low
    rcases hb with hb | rfl | rfl | rfl
    · exact hb.1
    all_goals omega
theorem rowI_same {l : List Int} {t : Nat} {x : Int} (h : l[t]? = some x) : rowI (l.set t x) = rowI l := by rw [set_same3 h]
/-- it took a monitor -/
theorem L3.took {t q d : Nat} {p : Ph} {v : Int} {mm' L' : List Int} (h : L3 g w U TA o mm L EM j τ nn) (hk : Keep (fun b => g.n0 ≤ b ∧ ¬ g.X b) w w1) (hW : Wld g.n0 g.X w1 g.C g.S mm' (nn + 1) (upd τ t (some (q, retT v)))) (hU : U[t]? = some (d, p)) (hz : mm'.length = sizeN g.m) (hi : InvP g.m g.n (U.set t (d, .hold v)) none mm' L' EM) (hnn : nn + 1 ≤ j + 100) :
    L3 g ((w1.setCell ⟨g.A, t, none⟩ (.pointer none)).setCell ⟨g.H, t, none⟩ (.int .i64 v)) (U.set t (d, .hold v)) (TA.set t none) none mm' L' EM j (upd τ t (some (q, retT v))) (nn + 1) ∧ Below g.n0 w ((w1.setCell ⟨g.A, t, none⟩ (.pointer none)).setCell ⟨g.H, t, none⟩ (.int .i64 v)) := by
  obtain ⟨bA, bH, bD, bE⟩ := h.rows hk
  have hne := h.ne
  refine h.fin3 hk hW (((Keep.refl (fun b => b = g.A ∨ b = g.H ∨ b = g.D) w1).set (p := ⟨g.A, t, none⟩) (fun _ => .inl rfl) _).set (p := ⟨g.H, t, none⟩) (fun _ => .inr (.inl rfl)) _) hU rfl hz hi hnn ?_ ?_ ?_
  · rw [← rowP_set]
    exact (bA.set t (.pointer none)).far (by omega) _ _
  · rw [← rowI_set]
    exact (bH.far (by omega) _ _).set t (.int .i64 v)
  · rw [rowI_same (by simp [doneU, hU])]
    exact (bD.far (by omega) _ _).far (by omega) _ _
/-- there was none -/
theorem L3.nope {t q d : Nat} {p : Ph} {mm' L' : List Int} (h : L3 g w U TA o mm L EM j τ nn) (hk : Keep (fun b => g.n0 ≤ b ∧ ¬ g.X b) w w1) (hW : Wld g.n0 g.X w1 g.C g.S mm' (nn + 1) (upd τ t (some (q, retT (-1))))) (hU : U[t]? = some (d, p)) (hh : p.has = -1) (hz : mm'.length = sizeN g.m) (hi : InvP g.m g.n (U.set t (d + 1, .idle)) none mm' L' EM) (hnn : nn + 1 ≤ j + 100) {d1 : Int} (hd1 : d1 = (d : Int) + 1) :
    L3 g ((w1.setCell ⟨g.A, t, none⟩ (.pointer none)).setCell ⟨g.D, t, none⟩ (.int .i64 d1)) (U.set t (d + 1, .idle)) (TA.set t none) none mm' L' EM j (upd τ t (some (q, retT (-1)))) (nn + 1) ∧ Below g.n0 w ((w1.setCell ⟨g.A, t, none⟩ (.pointer none)).setCell ⟨g.D, t, none⟩ (.int .i64 d1)) := by
  obtain ⟨bA, bH, bD, bE⟩ := h.rows hk
  have hne := h.ne
  obtain rfl : d1 = ((d + 1 : Nat) : Int) := by omega
  refine h.fin3 hk hW (((Keep.refl (fun b => b = g.A ∨ b = g.H ∨ b = g.D) w1).set (p := ⟨g.A, t, none⟩) (fun _ => .inl rfl) _).set (p := ⟨g.D, t, none⟩) (fun _ => .inr (.inr rfl)) _) hU rfl hz hi hnn ?_ ?_ ?_
  · rw [← rowP_set]
    exact (bA.set t (.pointer none)).far (by omega) _ _
  · rw [rowI_same (show (hasU U)[t]? = some Ph.idle.has from by rw [show Ph.idle.has = p.has from hh.symm]; simp [hasU, hU])]
    exact (bH.far (by omega) _ _).far (by omega) _ _
  · rw [← rowI_set]
    exact (bD.far (by omega) _ _).set t _
/-- it put one back -/
theorem L3.gave {t q d : Nat} {p : Ph} {mm' L' : List Int} (h : L3 g w U TA o mm L EM j τ nn) (hk : Keep (fun b => g.n0 ≤ b ∧ ¬ g.X b) w w1) (hW : Wld g.n0 g.X w1 g.C g.S mm' (nn + 1) (upd τ t (some (q, retT 1)))) (hU : U[t]? = some (d, p)) (hz : mm'.length = sizeN g.m) (hi : InvP g.m g.n (U.set t (d + 1, .idle)) none mm' L' EM) (hnn : nn + 1 ≤ j + 100) {d1 : Int} (hd1 : d1 = (d : Int) + 1) :
    L3 g (((w1.setCell ⟨g.A, t, none⟩ (.pointer none)).setCell ⟨g.H, t, none⟩ (.int .i64 (-1))).setCell ⟨g.D, t, none⟩ (.int .i64 d1)) (U.set t (d + 1, .idle)) (TA.set t none) none mm' L' EM j (upd τ t (some (q, retT 1))) (nn + 1) ∧ Below g.n0 w (((w1.setCell ⟨g.A, t, none⟩ (.pointer none)).setCell ⟨g.H, t, none⟩ (.int .i64 (-1))).setCell ⟨g.D, t, none⟩ (.int .i64 d1)) := by
  obtain ⟨bA, bH, bD, bE⟩ := h.rows hk
  have hne := h.ne
  obtain rfl : d1 = ((d + 1 : Nat) : Int) := by omega
  refine h.fin3 hk hW ((((Keep.refl (fun b => b = g.A ∨ b = g.H ∨ b = g.D) w1).set (p := ⟨g.A, t, none⟩) (fun _ => .inl rfl) _).set (p := ⟨g.H, t, none⟩) (fun _ => .inr (.inl rfl)) _).set (p := ⟨g.D, t, none⟩) (fun _ => .inr (.inr rfl)) _) hU rfl hz hi hnn ?_ ?_ ?_
  · rw [← rowP_set]
    exact ((bA.set t (.pointer none)).far (by omega) _ _).far (by omega) _ _
  · rw [← rowI_set]
    exact ((bH.far (by omega) _ _).set t (.int .i64 (-1))).far (by omega) _ _
  · rw [← rowI_set]
    exact ((bD.far (by omega) _ _).far (by omega) _ _).set t _
end
end Go.Proofs.YtldofbkjjmnooaaGreat
/- Layer 11's laws: works: the chapter's examples. Written by tools/gen_poworks.py. -/
namespace Go.Proofs.YtldofbkjjmnooaaGreat
open Go.ChangeShapes Go.WideShapes Go.ChangeAt Go.RowKit
set_option linter.unusedVariables false
set_option maxRecDepth 100000
set_option linter.unusedSimpArgs false
theorem lawC {w : World} {b n : Nat} (h : Blk w b 24 #[.int .i64 3, .int .i64 2, .int .i64 (n : Int)]) : w.cell? ⟨b, 0, none⟩ = some (.int .i64 3) ∧ w.cell? ⟨b, 1, none⟩ = some (.int .i64 2) ∧ w.cell? ⟨b, 2, none⟩ = some (.int .i64 (n : Int)) := ⟨h.cell 0 _ rfl, h.cell 1 _ rfl, h.cell 2 _ rfl⟩
theorem lawC3 {w : World} {b : Nat} (h : Blk w b 24 #[.int .i64 3, .int .i64 2, .int .i64 3]) : w.cell? ⟨b, 0, none⟩ = some (.int .i64 3) ∧ w.cell? ⟨b, 1, none⟩ = some (.int .i64 2) ∧ w.cell? ⟨b, 2, none⟩ = some (.int .i64 3) := ⟨h.cell 0 _ rfl, h.cell 1 _ rfl, h.cell 2 _ rfl⟩
abbrev V3 : Value := .agg #[.int .i64 3, .int .i64 2, .int .i64 3]
abbrev m3 : Mp := lawM 3
theorem m3_ok : m3.ok := lawM_ok (by omega)
def gZ : Int → Int := fun _ => 0
def gL : Int → Int := fun k => if k = 1 then 4095 else 0
theorem nofP {b C S : Nat} (h : b ≠ C ∧ b ≠ S) : ¬ ofCells C S b := fun e => e.elim h.1 h.2
section
variable {w : World} {C S : Nat} {mm : List Int} {n : Int} {L : List Int} {G : Int → Int}
theorem q3take (t : Int) (ht : 0 ≤ t) (h : PW w C S m3 mm n L G) : Calls Tryz.prog 34 #[cellsV C, V3, .int .i64 t] w fun e w' => ∃ k, e = .returned (pV k) ∧ MadeT (cellOps C 0) w (fun b => w.heap.size ≤ b) (takeT m3 t) k w' := qtake m3_ok t ht h
theorem q3back (t x : Int) (ht : 0 ≤ t) (hx : 0 ≤ x ∧ x < 3) (h : PW w C S m3 mm n L G) : Calls Tryz.prog 35 #[cellsV C, V3, .int .i64 t, .int .i64 x] w fun e w' => ∃ k, e = .returned (pV k) ∧ MadeT (cellOps C 0) w (fun b => w.heap.size ≤ b) (backT m3 t x) k w' := qback m3_ok t x ht hx h
theorem v3free (N : Nat) (hN : N = L.length) (h : PW w C S m3 mm n L G) : Calls Tryz.prog 39 #[cellsV C, V3] w fun e w' => ∃ a c, e = .returned (.slice a N c) ∧ RowN w' (fun b => w.heap.size ≤ b) (.slice a N c) L ∧ Below w.heap.size w w' := vfree m3_ok N hN h
theorem v3gen (w : World) : Calls Tryz.prog 112 #[V3, .int .i64 1] w fun e w' => e = .returned (.int .i64 (genN m3 1 : Nat)) ∧ Below w.heap.size w w' := gen_any m3 1 w m3_ok (by decide)
theorem v3laid (w : World) : Calls Tryz.prog 109 #[.int .i64 3] w fun e w' => ∃ C S mm, e = .returned (.tuple #[cellsV C, V3]) ∧ PW w' C S m3 mm 4 [0, 1, 2] gZ ∧ Below w.heap.size w w' ∧ w.heap.size ≤ C ∧ w.heap.size ≤ S := by
  refine (vlaid 3 w (by omega) (nI := 3) rfl).mono ?_
  rintro e w' ⟨C, S, mm, rfl, h1, h2⟩
  exact ⟨C, S, mm, rfl, h1, h2⟩
end
set_option maxHeartbeats 8000000 in
theorem pworks_any (w : World) : Calls Tryz.prog 31 #[] w fun e w' => e = .returned (.bool true) ∧ Below w.heap.size w w' := by
  go_enter Tryz.func31, Tryz.ntmps31
  go_upto_region 2 with (go_at_call 109; (with_reducible refine (v3laid _).mono ?_); rintro e w1 ⟨C, S, mm, rfl, hq, b1, hC, hS⟩)
  have m1 : Blk (w1.alloc (.cells #[.int .i64 3, .int .i64 2, .int .i64 3] 24)) w1.heap.size 24 #[.int .i64 3, .int .i64 2, .int .i64 3] := Blk.new w1 _ _
  have hb1 : Below w1.heap.size w1 (w1.alloc (.cells #[.int .i64 3, .int .i64 2, .int .i64 3] 24)) := (Below.refl _ w1).alloc (Nat.le_refl _) _
  generalize w1.alloc (.cells #[.int .i64 3, .int .i64 2, .int .i64 3] 24) = V at *
  have HB := Lib.hid (b1.trans (hb1.mono b1.size))
  have HMC := Lib.hid (show w1.heap.size ≠ C ∧ w1.heap.size ≠ S from ⟨by have := hq.cells.own.lt; omega, by have := hq.cells.row.lt; omega⟩)
  have HCS := Lib.hid (show ∀ i, ofCells C S i → w.heap.size ≤ i from fun i hi => by rcases hi with hi | hi <;> omega)
  have HQ := Lib.hid (hq.below hb1)
  have HM := Lib.hid m1
  obtain ⟨d0, d1, d2⟩ := lawC3 m1
  have HN := Lib.hid (show (0 : Int) ≤ 4 ∧ (4 : Int) ≤ 10 by decide)
  clear m1 hb1 b1 hq hC hS
  generalize w1.heap.size = bm at *
  have HC0 := Lib.hid (v3free 3 (by rfl) HQ.out)
  go_upto_region 4 with (first
    | (go_at_call 39; (with_reducible refine HC0.out.mono ?_); rintro e wf0 ⟨va, vc, rfl, hrow, hb⟩; have HQ := Lib.hid (HQ.out.below hb); have HR := Lib.hid hrow; have HM := Lib.hid (HM.out.below hb HM.out.lt); have HB := Lib.hid (HB.out.trans (hb.mono HB.out.size)); clear d0 d1 d2 hrow hb HC0; obtain ⟨d0, d1, d2⟩ := lawC3 HM.out; have HD0 := Lib.hid (vsame _ [0, 1, 2] _ wf0 #[.int .i64 0, .int .i64 1, .int .i64 2] HR.out (by decide) rfl (k := 3) rfl))
    | (go_at_call 110; (with_reducible refine HD0.out.mono ?_); rintro e ws0 ⟨rfl, hb⟩; have HQ := Lib.hid (HQ.out.below hb); have HM := Lib.hid (HM.out.below hb HM.out.lt); have HB := Lib.hid (HB.out.trans (hb.mono HB.out.size)); clear d0 d1 d2 hb HD0; obtain ⟨d0, d1, d2⟩ := lawC3 HM.out; have HC1 := Lib.hid (q3take 0 (by omega) HQ.out)))
  go_upto_region 5 with (first
    | (go_at_call 34; (with_reducible refine HC1.out.mono ?_); rintro e wa1 ⟨k1, rfl, hM⟩; have HD1 := Lib.hid (rtake 10 (r := [1, 2]) m3_ok 0 (by omega) HQ.out HN.out (by omega) k1 wa1 hM); clear HC1 hM)
    | (go_at_call 111; (with_reducible refine HD1.out.mono ?_); rintro e wb1 ⟨rfl, ⟨⟨mm1, n1, hq, hn⟩, hk⟩⟩; have HQ := Lib.hid hq; have HN := Lib.hid (show 0 ≤ n1 ∧ n1 ≤ 20 from hn); have HM := Lib.hid (HM.out.keep hk (nofP HMC.out)); have HB := Lib.hid (HB.out.trans (hk.below HB.out.size (fun i _ hi => HCS.out i hi))); clear d0 d1 d2 hq hn hk HD1; obtain ⟨d0, d1, d2⟩ := lawC3 HM.out; have HC2 := Lib.hid (q3take 1 (by omega) HQ.out))
    | (go_at_call 34; (with_reducible refine HC2.out.mono ?_); rintro e wa2 ⟨k2, rfl, hM⟩; have HD2 := Lib.hid (rtake 20 (r := [2]) m3_ok 1 (by omega) HQ.out HN.out (by omega) k2 wa2 hM); clear HC2 hM)
    | (go_at_call 111; (with_reducible refine HD2.out.mono ?_); rintro e wb2 ⟨rfl, ⟨⟨mm2, n2, hq, hn⟩, hk⟩⟩; have HQ := Lib.hid hq; have HN := Lib.hid (show 0 ≤ n2 ∧ n2 ≤ 30 from hn); have HM := Lib.hid (HM.out.keep hk (nofP HMC.out)); have HB := Lib.hid (HB.out.trans (hk.below HB.out.size (fun i _ hi => HCS.out i hi))); clear d0 d1 d2 hq hn hk HD2; obtain ⟨d0, d1, d2⟩ := lawC3 HM.out; have HC3 := Lib.hid (v3free 1 (by rfl) HQ.out))
    | (go_at_call 39; (with_reducible refine HC3.out.mono ?_); rintro e wf3 ⟨va, vc, rfl, hrow, hb⟩; have HQ := Lib.hid (HQ.out.below hb); have HR := Lib.hid hrow; have HM := Lib.hid (HM.out.below hb HM.out.lt); have HB := Lib.hid (HB.out.trans (hb.mono HB.out.size)); clear d0 d1 d2 hrow hb HC3; obtain ⟨d0, d1, d2⟩ := lawC3 HM.out; have HD3 := Lib.hid (vsame _ [2] _ wf3 #[.int .i64 2] HR.out (by decide) rfl (k := 1) rfl))
    | (go_at_call 110; (with_reducible refine HD3.out.mono ?_); rintro e ws3 ⟨rfl, hb⟩; have HQ := Lib.hid (HQ.out.below hb); have HM := Lib.hid (HM.out.below hb HM.out.lt); have HB := Lib.hid (HB.out.trans (hb.mono HB.out.size)); clear d0 d1 d2 hb HD3; obtain ⟨d0, d1, d2⟩ := lawC3 HM.out; have HC4 := Lib.hid (q3back 2 0 (by omega) (by omega) HQ.out)))
  go_upto_region 6 with (first
    | (go_at_call 35; (with_reducible refine HC4.out.mono ?_); rintro e wa4 ⟨k4, rfl, hM⟩; have HD4 := Lib.hid (rback 30 m3_ok 2 0 (by omega) (by decide) (by decide) (by decide) HQ.out HN.out (by omega) k4 wa4 hM); clear HC4 hM)
    | (go_at_call 111; (with_reducible refine HD4.out.mono ?_); rintro e wb4 ⟨rfl, ⟨⟨mm4, n4, hq, hn⟩, hk⟩⟩; have HQ := Lib.hid hq; have HN := Lib.hid (show 0 ≤ n4 ∧ n4 ≤ 40 from hn); have HM := Lib.hid (HM.out.keep hk (nofP HMC.out)); have HB := Lib.hid (HB.out.trans (hk.below HB.out.size (fun i _ hi => HCS.out i hi))); clear d0 d1 d2 hq hn hk HD4; obtain ⟨d0, d1, d2⟩ := lawC3 HM.out; have HC5 := Lib.hid (q3back 0 1 (by omega) (by omega) HQ.out))
    | (go_at_call 35; (with_reducible refine HC5.out.mono ?_); rintro e wa5 ⟨k5, rfl, hM⟩; have HD5 := Lib.hid (rback 40 m3_ok 0 1 (by omega) (by decide) (by decide) (by decide) HQ.out HN.out (by omega) k5 wa5 hM); clear HC5 hM)
    | (go_at_call 111; (with_reducible refine HD5.out.mono ?_); rintro e wb5 ⟨rfl, ⟨⟨mm5, n5, hq, hn⟩, hk⟩⟩; have HQ := Lib.hid hq; have HN := Lib.hid (show 0 ≤ n5 ∧ n5 ≤ 50 from hn); have HM := Lib.hid (HM.out.keep hk (nofP HMC.out)); have HB := Lib.hid (HB.out.trans (hk.below HB.out.size (fun i _ hi => HCS.out i hi))); clear d0 d1 d2 hq hn hk HD5; obtain ⟨d0, d1, d2⟩ := lawC3 HM.out; have HC6 := Lib.hid (v3free 3 (by rfl) HQ.out))
    | (go_at_call 39; (with_reducible refine HC6.out.mono ?_); rintro e wf6 ⟨va, vc, rfl, hrow, hb⟩; have HQ := Lib.hid (HQ.out.below hb); have HR := Lib.hid hrow; have HM := Lib.hid (HM.out.below hb HM.out.lt); have HB := Lib.hid (HB.out.trans (hb.mono HB.out.size)); clear d0 d1 d2 hrow hb HC6; obtain ⟨d0, d1, d2⟩ := lawC3 HM.out; have HD6 := Lib.hid (vsame _ [1, 0, 2] _ wf6 #[.int .i64 1, .int .i64 0, .int .i64 2] HR.out (by decide) rfl (k := 3) rfl))
    | (go_at_call 110; (with_reducible refine HD6.out.mono ?_); rintro e ws6 ⟨rfl, hb⟩; have HQ := Lib.hid (HQ.out.below hb); have HM := Lib.hid (HM.out.below hb HM.out.lt); have HB := Lib.hid (HB.out.trans (hb.mono HB.out.size)); clear d0 d1 d2 hb HD6; obtain ⟨d0, d1, d2⟩ := lawC3 HM.out; have HC7 := Lib.hid v3gen))
  go_upto_region 7 with (first
    | (go_at_call 112; (with_reducible refine (HC7.out _).mono ?_); rintro e wg7 ⟨rfl, hb⟩; have HQ := Lib.hid (HQ.out.below hb); have HM := Lib.hid (HM.out.below hb HM.out.lt); have HB := Lib.hid (HB.out.trans (hb.mono HB.out.size)); have HD7 := Lib.hid (vgen 50 1 4095 rfl (by decide) (by decide) HQ.out HN.out (by omega) gL (fun k _ _ => by show (if k = 1 then (4095 : Int) else 0) = if k = 1 then 4095 else gZ k; rfl)); clear hb)
    | (go_at_call 59; (with_reducible refine HD7.out.mono ?_); rintro e wb7 ⟨rfl, ⟨⟨mm7, n7, hq, hn⟩, hk⟩⟩; have HQ := Lib.hid hq; have HN := Lib.hid (show 0 ≤ n7 ∧ n7 ≤ 60 from hn); have HM := Lib.hid (HM.out.keep hk (nofP HMC.out)); have HB := Lib.hid (HB.out.trans (hk.below HB.out.size (fun i _ hi => HCS.out i hi))); clear d0 d1 d2 hq hn hk HD7; obtain ⟨d0, d1, d2⟩ := lawC3 HM.out; have HC8 := Lib.hid (q3take 0 (by omega) HQ.out)))
  go_wp2_with (first
    | (go_at_call 34; (with_reducible refine HC8.out.mono ?_); rintro e wa8 ⟨k8, rfl, hM⟩; have HD8 := Lib.hid (rtake 60 (r := [0, 2]) m3_ok 0 (by omega) HQ.out HN.out (by omega) k8 wa8 hM); clear HC8 hM)
    | (go_at_call 111; (with_reducible refine HD8.out.mono ?_); rintro e wb8 ⟨rfl, ⟨⟨mm8, n8, hq, hn⟩, hk⟩⟩; have HQ := Lib.hid hq; have HN := Lib.hid (show 0 ≤ n8 ∧ n8 ≤ 70 from hn); have HM := Lib.hid (HM.out.keep hk (nofP HMC.out)); have HB := Lib.hid (HB.out.trans (hk.below HB.out.size (fun i _ hi => HCS.out i hi))); clear d0 d1 d2 hq hn hk HD8; obtain ⟨d0, d1, d2⟩ := lawC3 HM.out; have HC9 := Lib.hid (q3back 0 1 (by omega) (by omega) HQ.out))
    | (go_at_call 35; (with_reducible refine HC9.out.mono ?_); rintro e wa9 ⟨k9, rfl, hM⟩; have HD9 := Lib.hid (rlast 70 m3_ok 0 1 (by omega) (by decide) (by decide) HQ.out HN.out (by omega) k9 wa9 hM); clear HC9 hM)
    | (go_at_call 111; (with_reducible refine HD9.out.mono ?_); rintro e wb9 ⟨rfl, ⟨⟨mm9, n9, hq, hn⟩, hk⟩⟩; have HQ := Lib.hid hq; have HN := Lib.hid (show 0 ≤ n9 ∧ n9 ≤ 80 from hn); have HM := Lib.hid (HM.out.keep hk (nofP HMC.out)); have HB := Lib.hid (HB.out.trans (hk.below HB.out.size (fun i _ hi => HCS.out i hi))); clear d0 d1 d2 hq hn hk HD9; obtain ⟨d0, d1, d2⟩ := lawC3 HM.out; have HC10 := Lib.hid (v3free 2 (by rfl) HQ.out))
    | (go_at_call 39; (with_reducible refine HC10.out.mono ?_); rintro e wf10 ⟨va, vc, rfl, hrow, hb⟩; have HQ := Lib.hid (HQ.out.below hb); have HR := Lib.hid hrow; have HM := Lib.hid (HM.out.below hb HM.out.lt); have HB := Lib.hid (HB.out.trans (hb.mono HB.out.size)); clear d0 d1 d2 hrow hb HC10; obtain ⟨d0, d1, d2⟩ := lawC3 HM.out; have HD10 := Lib.hid (vsame _ [0, 2] _ wf10 #[.int .i64 0, .int .i64 2] HR.out (by decide) rfl (k := 2) rfl))
    | (go_at_call 110; (with_reducible refine HD10.out.mono ?_); rintro e ws10 ⟨rfl, hb⟩; have HQ := Lib.hid (HQ.out.below hb); have HM := Lib.hid (HM.out.below hb HM.out.lt); have HB := Lib.hid (HB.out.trans (hb.mono HB.out.size)); clear d0 d1 d2 hb HD10; obtain ⟨d0, d1, d2⟩ := lawC3 HM.out))
  go_ret
  exact ⟨rfl, HB.out⟩
end Go.Proofs.YtldofbkjjmnooaaGreat
/- PoolShares returns true: the walk. -/
namespace Go.Proofs.YtldofbkjjmnooaaGreat
open Go.ChangeShapes Go.WideShapes Go.ChangeAt Go.RowKit
set_option linter.unusedVariables false
set_option maxRecDepth 100000
set_option linter.unusedSimpArgs false
theorem cut_u8t (a : Option Addr) (l len cap : Nat) (hl : l ≤ cap) : ∀ W, (Instr.slice 49 (.slice a len cap) none (some (.int .i64 (l : Int))) none).run Tryz.prog W = .ok (.slice a l cap) W := by
  intro W
  rw [run_slice_h _ 49 _ _ _ (by kernel_rfl) .i64 l (by omega) (by omega)]
  have hs : (sizeOf (Tryz.prog.elem 49)).run Tryz.prog W = .ok 1 W := by kernel_rfl
  rw [hs]
  cases a <;> simp [Result.andThen, sliced, Addr.add]
theorem still_skip {P : Program} {ops : Array Oper} {w : World} {Q : Act → Prop} {rest : List Oper} {o : Oper} {a : Act} (hw : Region.wanted o (yielded ops a.tmps) = false) (h : wpStill P ops w Q rest (a.put o.dst undef)) : wpStill P ops w Q (o :: rest) a :=
  wpStill_step fun K hK => by
    rw [if_neg (by rw [hw]; decide)]
    exact hK _ h
theorem still_go {P : Program} {ops : Array Oper} {w : World} {Q : Act → Prop} {rest : List Oper} {o : Oper} {a : Act} (v : Value) (hw : Region.wanted o (yielded ops a.tmps) = true) (he : (execOp a.eval o).run P w = .ok (.value v) w) (h : wpStill P ops w Q rest (a.put o.dst v)) : wpStill P ops w Q (o :: rest) a :=
  wpStill_step fun K hK => by
    rw [if_pos hw]
    unfold Oper.still
    rw [he, Oper.stillUpon_value]
    exact hK _ h
set_option maxHeartbeats 16000000 in
theorem shares_law (a : Option Addr) (len cap : Nat) (x y : Int) (w : World) (hB : BytesAt w w.heap.size a len) (hlc : len ≤ cap) (hcm : cap ≤ 9223372036854775807) (hx : 0 ≤ x ∧ x ≤ 255) (hy : 0 ≤ y ∧ y ≤ 255) : Calls Tryz.prog 4 #[.slice a len cap, .int .u8 x, .int .u8 y] w fun e w' => e = .returned (.bool true) ∧ Below w.heap.size w w' := by
  obtain ⟨q, hq1, hq3⟩ : ∃ q : Nat, x.tmod 5 = (q : Int) ∧ q < 5 := by
    have : x.tmod 5 = x % 5 := Int.tmod_eq_emod_of_nonneg hx.1
    exact ⟨(x % 5).toNat, by omega, by omega⟩
  obtain ⟨k, hk1, hk3⟩ : ∃ k : Nat, y.tmod 7 = (k : Int) ∧ k ≤ 6 := by
    have : y.tmod 7 = y % 7 := Int.tmod_eq_emod_of_nonneg hy.1
    exact ⟨(y % 7).toNat, by omega, by omega⟩
  obtain ⟨n, hn1, hn2⟩ : ∃ n : Nat, 1 + (q : Int) = (n : Int) ∧ 1 ≤ n ∧ n ≤ 5 := ⟨1 + q, by omega, by omega, by omega⟩
  obtain ⟨Lb, hL1, hL2⟩ : ∃ Lb : Nat, Lb = min len 200 ∧ Lb ≤ 200 := ⟨min len 200, rfl, by omega⟩
  have hmin : (if (200 : Int) < (len : Int) then (200 : Int) else (len : Int)) = (Lb : Int) := by split <;> omega
  have hlcI : (Lb : Int) ≤ (cap : Int) := by omega
  have HB := Lib.hid (hB.cut (l := Lb) (by omega))
  have hm1 := fun W => makeP n W (by omega)
  have hm2 := fun W => makeI n W (by omega)
  have hm3 := fun W => makeB n W (by omega)
  clear hB hL1 hlc
  go_enter Tryz.func4, Tryz.ntmps4
  go_upto_region 4 with (go_at_call 31; (with_reducible refine (pworks_any _).mono ?_); rintro e w0 ⟨rfl, b0⟩)
  go_upto_region 5 with fail
  clear hx hy hq1 hk1 hn1
  have hM0 : Blk (w0.alloc (.cells #[.int .i64 (n : Int), .int .i64 1, .int .i64 (k : Int)] 24)) w0.heap.size 24 #[.int .i64 ((shM n k).t : Int), .int .i64 ((shM n k).o : Int), .int .i64 ((shM n k).n : Int)] := Blk.new w0 _ _
  have b1 : Below w0.heap.size w0 (w0.alloc (.cells #[.int .i64 (n : Int), .int .i64 1, .int .i64 (k : Int)] 24)) := (Below.refl _ w0).alloc (Nat.le_refl _) _
  generalize (w0.alloc (.cells #[.int .i64 (n : Int), .int .i64 1, .int .i64 (k : Int)] 24)) = w1 at *
  obtain ⟨d0, d1, d2⟩ := shC hM0
  have HSz := Lib.hid (shsize n k hn2 hk3 w1)
  have HNw := Lib.hid fun W => shnew (sizeN (shM n k)) (by unfold sizeN; show 2 + 1 + 6 * n + 8 * k ≤ 1000; omega) W
  have HLy := Lib.hid fun C S W (h : CellsAt W C S (List.replicate (sizeN (shM n k)) 0) 0) => shlay C S n k hn2 hk3 W h
  have HM0 := Lib.hid hM0
  have HB0 := Lib.hid b0
  have HB1 := Lib.hid b1
  clear hM0 b0 b1
  go_upto_region 6 with (first
    | (go_at_call 14; (with_reducible refine HSz.out.mono ?_); rintro e w2 ⟨rfl, b2⟩)
    | (go_at_call 13; (with_reducible refine (HNw.out _).mono ?_); rintro e w3 ⟨C, S, rfl, hC3, b3, hCl, hSl⟩))
  have HB2 := Lib.hid b2
  have HB3 := Lib.hid b3
  have HC3 := Lib.hid hC3
  have HCl := Lib.hid (And.intro hCl hSl)
  have hM3 := (HM0.out.below b2 HM0.out.lt).below b3 (Nat.lt_of_lt_of_le HM0.out.lt b2.size)
  have HM3 := Lib.hid hM3
  clear d0 d1 d2 b2 b3 hC3 hCl hSl HSz HNw
  obtain ⟨d0, d1, d2⟩ := shC hM3
  clear hM3
  go_upto_region 8 with (go_at_call 32; (with_reducible refine (HLy.out C S _ HC3.out).mono ?_); rintro e wl ⟨rfl, hCl, kl⟩)
  have HCl4 := Lib.hid hCl
  have Hkl := Lib.hid kl
  clear d0 d1 d2 hCl kl HLy
  go_upto_region 9 with fail
  have hY0 : Blk (wl.alloc (.cells (turnsV a Lb cap n 0) 53)) wl.heap.size 53 (turnsV a Lb cap n 0) := Blk.new wl _ _
  generalize hW4 : (wl.alloc _) = w4
  have hY : Blk w4 wl.heap.size 53 (turnsV a Lb cap n 0) := by rw [← hW4]; exact hY0
  have b4 : Below wl.heap.size wl w4 := by rw [← hW4]; go_grown
  clear hW4 hY0
  go_upto_region 10 with fail
  generalize hWa : (w4.alloc _) = wa
  have bA : Blk wa w4.heap.size 40 (rowP (List.replicate n none)) := by rw [← hWa]; exact Blk.new w4 _ _
  have b5 : Below w4.heap.size w4 wa := by rw [← hWa]; go_grown
  clear hWa
  go_upto_region 11 with fail
  generalize hWh : (wa.alloc _) = wh
  have bH : Blk wh wa.heap.size 3 (rowI (List.replicate n 0)) := by rw [← hWh]; exact Blk.new wa _ _
  have b6 : Below wa.heap.size wa wh := by rw [← hWh]; go_grown
  clear hWh
  go_upto_region 12 with fail
  generalize hWd : (wh.alloc _) = wd
  have bD : Blk wd wh.heap.size 3 (rowI (List.replicate n 0)) := by rw [← hWd]; exact Blk.new wh _ _
  have b7 : Below wh.heap.size wh wd := by rw [← hWd]; go_grown
  clear hWd
  go_upto_region 13 with fail
  generalize hWe : (wd.alloc _) = we
  have bE : Blk we wd.heap.size 4 (rowB (List.replicate n false)) := by rw [← hWe]; exact Blk.new wd _ _
  have b8 : Below wd.heap.size wd we := by rw [← hWe]; go_grown
  clear hWe
  have e0 := HB0.out.size
  have e1 := HB1.out.size
  have e2 := HB2.out.size
  have e3 := HB3.out.size
  have el := Hkl.out.size
  have e4 := b4.size
  have e5 := b5.size
  have e6 := b6.size
  have e7 := b7.size
  have e8 := b8.size
  have lM := HM3.out.lt
  have lM0 := HM0.out.lt
  have lH := bH.lt
  have hbAll : Below w.heap.size w we := by
    have c1 : Below w.heap.size w w3 := ((HB0.out.trans (HB1.out.mono e0)).trans (HB2.out.mono (by omega))).trans (HB3.out.mono (by omega))
    have c2 : Below w.heap.size w wl := c1.trans (Hkl.out.below c1.size (fun i _ hi => by have := HCl.out; rcases hi with hi | hi <;> omega))
    exact ((((c2.trans (b4.mono c2.size)).trans (b5.mono (by omega))).trans (b6.mono (by omega))).trans (b7.mono (by omega))).trans (b8.mono (by omega))
  have hMl : Blk wl w0.heap.size 24 #[.int .i64 ((shM n k).t : Int), .int .i64 ((shM n k).o : Int), .int .i64 ((shM n k).n : Int)] := HM3.out.keep Hkl.out (fun hi => by have := HCl.out; rcases hi with hi | hi <;> omega)
  have hbyl : BytesAt wl w.heap.size a Lb := (HB.out.keep (Keep.ofBelow (Q := fun _ => False) (((HB0.out.trans (HB1.out.mono e0)).trans (HB2.out.mono (by omega))).trans (HB3.out.mono (by omega)))) (fun _ h => h.elim)).keep Hkl.out (fun i hi => by have := HCl.out; rcases hi with hi | hi <;> omega)
  have bH5 : Blk we wa.heap.size 3 (rowI (List.replicate n 0)) := (bH.below b7 lH).below b8 (by omega)
  obtain ⟨g, hg⟩ : ∃ g : G3, g = ⟨w.heap.size, w0.heap.size, C, S, wl.heap.size, w4.heap.size, wa.heap.size, wh.heap.size, wd.heap.size, n, Lb, cap, a, shM n k⟩ := ⟨_, rfl⟩
  have HInit : Hid (∀ W0, Keep (fun b => b = wa.heap.size) we W0 → Blk W0 wa.heap.size 3 (rowI (List.replicate n (-1))) → L3 g W0 (List.replicate n (0, .idle)) (List.replicate n none) none (layL (shM n k) (List.replicate (sizeN (shM n k)) 0)) (upL k) (List.replicate n false) 0 (fun _ => none) (0 + k + 1)) := Lib.hid fun W0 hk0 hb0 => by
    subst hg
    exact L3.init (g := ⟨w.heap.size, w0.heap.size, C, S, wl.heap.size, w4.heap.size, wa.heap.size, wh.heap.size, wd.heap.size, n, Lb, cap, a, shM n k⟩) (wl := wl) (w1 := w4) (w2 := wa) (w3 := wh) (w4 := wd) (w5 := we) hn2 hk3 rfl hL2 HCl4.out hMl ⟨by show w.heap.size ≤ w0.heap.size; omega, by have := HCl.out; show w0.heap.size < C; omega, by have := HCl.out; show w0.heap.size < S; omega⟩ hbyl hY b4 rfl bA b5 rfl b6 rfl bD b7 rfl bE b8 rfl hk0 hb0 lH
  have HG : Hid (g.n0 = w.heap.size ∧ g.M = w0.heap.size ∧ g.C = C ∧ g.Y = wl.heap.size ∧ g.A = w4.heap.size ∧ g.H = wa.heap.size ∧ g.D = wh.heap.size ∧ g.E = wd.heap.size ∧ g.n = n ∧ g.Lb = Lb ∧ g.m = shM n k) := Lib.hid (by subst hg; exact ⟨rfl, rfl, rfl, rfl, rfl, rfl, rfl, rfl, rfl, rfl, rfl⟩)
  have HbAll := Lib.hid hbAll
  have HH5 := Lib.hid bH5
  have HlH := Lib.hid (show wa.heap.size < we.heap.size ∧ w.heap.size ≤ wa.heap.size from by omega)
  clear hg bA bH bD bE bH5 b4 b5 b6 b7 b8 hY hMl hbyl hbAll HM0 HM3 HB0 HB1 HB2 HB3 HC3 HCl HCl4 Hkl e0 e1 e2 e3 e4 e5 e6 e7 e8 el lM lM0 lH HB hm1 hm3 hmin hlcI
  generalize w0.heap.size = M at *
  generalize wl.heap.size = Y at *
  generalize w4.heap.size = A at *
  generalize wa.heap.size = H at *
  generalize wh.heap.size = D at *
  generalize wd.heap.size = E at *
  have hn6 : n ≤ 5 := hn2.2
  go_wp2_with fail
  go_loopw [16] (fun v16 wr => ∃ (i : Nat) (l : List Int), i ≤ n ∧ v16 = .int .i64 (i : Int) ∧ l.length = n ∧ (∀ u, u < i → l[u]? = some (-1)) ∧ Blk wr H 3 (rowI l) ∧ Keep (fun b => b = H) we wr)
    (fun v16 _ => n - (intOf v16).toNat)
  case atStart => exact ⟨0, _, by omega, rfl, by simp, fun u h => by omega, HH5.out, Keep.refl _ _⟩
  case round =>
    obtain ⟨i, l, hi, rfl, hll, hlv, hbH, hkH⟩ := hrel
    by_cases hlt : i < n
    · have hltI : (i : Int) < (n : Int) := by omega
      have ix := idxI n H i hlt
      have fz := hbH.free i
      obtain ⟨z, hz⟩ : ∃ z, l[i]? = some z := ⟨_, List.getElem?_eq_getElem (by omega)⟩
      have cz : wr.cell? ⟨H, i, none⟩ = some (.int .i64 z) := hbH.cell _ _ (rowI_at hz)
      have HS := Lib.hid (hbH.set i (.int .i64 (-1)))
      have HK := Lib.hid (hkH.set (p := ⟨H, i, none⟩) (fun _ => rfl) (.int .i64 (-1)))
      have HV := Lib.hid (And.intro hll hlv)
      clear hbH hkH hll hlv hz
      go_wp2
      go_roundw
      case rel =>
        obtain ⟨hll, hlv⟩ := HV.out
        refine ⟨i + 1, l.set i (-1), by omega, by go_num, by simpa using hll, fun u hu => ?_, by rw [← rowI_set]; exact HS.out, HK.out⟩
        by_cases e : i = u
        · subst e; rw [List.getElem?_set_self (by omega)]
        · rw [List.getElem?_set_ne e]; exact hlv u (by omega)
      case measure => simp [intOf]; omega
    · have hltI : ¬ (i : Int) < (n : Int) := by omega
      have hl1 : l = List.replicate n (-1) := by
        apply List.ext_getElem?
        intro u
        by_cases hu : u < n
        · rw [hlv u (by omega)]; simp [hu]
        · rw [List.getElem?_eq_none (by omega), List.getElem?_eq_none (by simp; omega)]
      subst hl1
      have HL0 := Lib.hid (HInit.out wr hkH hbH)
      have Hb0 := Lib.hid (HbAll.out.trans (hkH.below HbAll.out.size (fun i _ h => by have : i = H := h; have := HlH.out; omega)))
      clear hbH hkH hll hlv
      clear HInit HH5 HlH HbAll hlt hi
      have HBud := Lib.hid (show Bud 165 n Lb 11 3 none (rankU (List.replicate n (0, .idle))) 0 from by
        rw [rankU_new]
        exact Bud.new 165 n Lb 11 3 (by omega) (by omega))
      go_wp2_with fail
      go_loopw [17] (fun v17 wr => ∃ (U : List (Nat × Ph)) (TA : List (Option Nat)) (o : Option Nat) (mm L : List Int) (EM : List Bool) (j : Nat) (τ : Nat → Option (Nat × Tre Itm)) (nn : Int), j ≤ 6000 ∧ v17 = .int .i64 (j : Int) ∧ L3 g wr U TA o mm L EM j τ nn ∧ Bud 165 n Lb 11 3 o (rankU U) j ∧ Below w.heap.size w wr)
        (fun v17 _ => 6000 - (intOf v17).toNat)
      case atStart => exact ⟨_, _, none, _, _, _, 0, _, _, by omega, rfl, HL0.out, HBud.out, Hb0.out⟩
      case round =>
        clear HL0 HBud Hb0 hltI
        obtain ⟨U, TA, o, mm, L, EM, j, τ, nn, hj, rfl, hL, hBud, hb⟩ := hrel
        obtain ⟨g1, g2, g3, g4, g5, g6, g7, g8, g9, g10, g11⟩ := HG.out
        by_cases hlt : j < 6000
        · have HNx := hL.next (by omega)
          rw [g4, g9, g10] at HNx
          have HX := Lib.hid HNx
          have HBud := Lib.hid hBud
          have HNN := Lib.hid (show nn + 1 ≤ ((j + 1 : Nat) : Int) + 100 from by have := hL.cnt; omega)
          have Hb := Lib.hid hb
          have hj4 : (j : Int) < 6000 := by omega
          clear HNx hBud hb hL
          go_upto_region 21 with (go_at_call 33; (with_reducible refine HX.out.mono ?_); rintro e w1 ⟨t, rfl, ht1, ht2, hL1, b1⟩)
          have hb1 : Below w.heap.size w w1 := Hb.out.trans (by rw [g1] at b1; exact b1)
          have hlen := hL1.inv.len
          have hlen2 := hL1.len
          have hlen3 := hL1.lene
          have hok := hL1.inv.ok
          rw [g9] at hlen hlen2 hlen3
          obtain ⟨dp, hU⟩ : ∃ dp, U[t]? = some dp := ⟨_, List.getElem?_eq_getElem (by omega)⟩
          obtain ⟨d, p⟩ := dp
          obtain ⟨a', ha⟩ : ∃ a', TA[t]? = some a' := ⟨_, List.getElem?_eq_getElem (by omega)⟩
          have hdp := hok _ (List.mem_of_getElem? hU)
          simp only at hdp
          have cD : w1.cell? ⟨D, t, none⟩ = some (.int .i64 (d : Int)) := by rw [← g7]; exact hL1.bd.cell _ _ (rowI_at (by simp [doneU, hU]))
          have cA : w1.cell? ⟨A, t, none⟩ = some (ptH a') := by rw [← g5]; exact hL1.ba.cell _ _ (rowP_at ha)
          have cH : w1.cell? ⟨H, t, none⟩ = some (.int .i64 p.has) := by rw [← g6]; exact hL1.bh.cell _ _ (rowI_at (by simp [hasU, hU]))
          have HL1 := Lib.hid hL1
          have Hb1 := Lib.hid hb1
          have HT := Lib.hid ht2
          have HU := Lib.hid hU
          have HA := Lib.hid ha
          have HLen := Lib.hid (And.intro hlen (And.intro hlen2 hlen3))
          have i1 := idxI n D t ht1
          have i2 := idxI n H t ht1
          have i3 := idxP n A t ht1
          have i4 := idxB n E t ht1
          clear b1 hb1 hlen hlen2 hlen3 hok hL1 hU ha ht2 HX Hb
          clear g1 g2 g3 g4 g5 g6 g7 g8 g9 g10 g11
          by_cases hd : d = 3
          · obtain rfl := hd
            have hidle := hdp.2 rfl
            have HId := Lib.hid hidle
            clear hidle hdp
            go_wp2
            go_roundw
            case rel =>
              refine ⟨U, TA, o, mm, L, EM, j + 1, τ, nn, by omega, by go_num, HL1.out, ?_, Hb1.out⟩
              refine HBud.out.less (by omega) (by rw [rankU_len]; exact HLen.out.1) HT.out (.inr ⟨rfl, rfl, fun _ => ⟨_, rankU_at HU.out, rfl⟩, fun u hu => ?_⟩)
              have h1 := HL1.out.inv.on u hu
              refine ⟨by have := HG.out; omega, fun e => ?_⟩
              have h2 := (HL1.out.inv.ow t _ HU.out).2 (by rw [← e]; exact hu)
              rw [HId.out] at h2
              cases h2
            case measure => simp [intOf]; omega
          · have hd3 : d < 3 := by omega
            have hdI : ¬ (d : Int) = 3 := by omega
            clear hdp hd
            go_upto_if 85 with fail
            go_cut [] from 70 to 200 (fun wx => ∃ (p' : Ph) (EM' : List Bool) (TA' : List (Option Nat)) (τ' : Nat → Option (Nat × Tre Itm)) (q0 : Nat), L3 g wx (U.set t (d, p')) TA' o mm L EM' (j + 1) τ' nn ∧ TA'[t]? = some (some q0) ∧ rankU (U.set t (d, p')) = rankU U ∧ Below w.heap.size w wx)
            case first =>
              cases a' with
              | some q0 =>
                clear cD cA cH
                go_wp2_with fail
                go_meet
                exact ⟨p, EM, TA, τ, q0, by rw [set_same3 HU.out]; exact HL1.out, HA.out, by rw [set_same3 HU.out], Hb1.out⟩
              | none =>
                have hpb := HL1.out.tn t d p HA.out HU.out
                have HPb := Lib.hid hpb
                have eG := HG.out
                have hTk := HL1.out.take' (n := n) (k := k) (by rw [eG.2.2.2.2.2.2.2.2.2.2]) t
                rw [eG.2.2.1] at hTk
                have HTk := Lib.hid hTk
                have hM : Blk w1 M 24 #[.int .i64 ((shM n k).t : Int), .int .i64 ((shM n k).o : Int), .int .i64 ((shM n k).n : Int)] := by have := HL1.out.bm; rw [eG.2.1, eG.2.2.2.2.2.2.2.2.2.2] at this; exact this
                have hne : M < Y ∧ Y < A ∧ A < H ∧ H < D ∧ D < E := by have := HL1.out.ne; rw [eG.2.1, eG.2.2.2.1, eG.2.2.2.2.1, eG.2.2.2.2.2.1, eG.2.2.2.2.2.2.1, eG.2.2.2.2.2.2.2.1] at this; exact this
                have hloM : w.heap.size ≤ M := by have := HL1.out.low; rw [eG.1, eG.2.1] at this; exact this
                have hbA : Blk w1 A 40 (rowP TA) := by have := HL1.out.ba; rw [eG.2.2.2.2.1] at this; exact this
                have hbH : Blk w1 H 3 (rowI (hasU U)) := by have := HL1.out.bh; rw [eG.2.2.2.2.2.1] at this; exact this
                have hbE : Blk w1 E 4 (rowB EM) := by have := HL1.out.be; rw [eG.2.2.2.2.2.2.2.1] at this; exact this
                have HbA := Lib.hid hbA
                have HbH := Lib.hid hbH
                have HbE := Lib.hid hbE
                have HbM := Lib.hid hM
                have hlA := hbA.lt
                have hlH := hbH.lt
                have hlE := hbE.lt
                have hlM := hM.lt
                obtain ⟨d0, d1, d2⟩ := shC hM
                clear cD cH cA eG hTk hM hbA hbH hbE hpb
                go_upto_region 24 with (go_at_call 34; (with_reducible refine HTk.out.mono ?_); rintro e wb ⟨q1, rfl, hWb, bb⟩; have HWb := Lib.hid hWb; have HBb := Lib.hid bb; have hbA2 := HbA.out.below bb hlA; have HbA2 := Lib.hid hbA2; have c4 : wb.cell? ⟨A, t, none⟩ = some (ptH none) := hbA2.cell _ _ (rowP_at HA.out); have f4 := hbA2.free t; clear hWb bb hbA2)
                have k5a : Keep (fun b => b = A) w1 wb := Keep.ofBelow HBb.out
                have k5 : Keep (fun b => b = A) w1 (wb.setCell ⟨A, t, none⟩ (pV q1)) := k5a.set (p := ⟨A, t, none⟩) (fun _ => rfl) _
                have bA5 : Blk (wb.setCell ⟨A, t, none⟩ (pV q1)) A 40 (rowP (TA.set t (some q1))) := by
                  rw [← rowP_set]
                  exact HbA2.out.set t (pV q1)
                have HW5 := Lib.hid (HWb.out.keep ((Keep.refl (fun b => b = A) wb).set (p := ⟨A, t, none⟩) (fun _ => rfl) (pV q1)) (fun b hb => .inr (.inr (.inl (by rw [HG.out.2.2.2.2.1]; exact hb)))))
                have HB5 := Lib.hid ((Hb1.out.trans (HBb.out.mono Hb1.out.size)).setCell (p := ⟨A, t, none⟩) (by show w.heap.size ≤ A; omega) (pV q1))
                clear c4 f4 d0 d1 d2 HTk HWb HBb HbA2
                generalize wb.setCell ⟨A, t, none⟩ (pV q1) = w5 at *
                have bE5 := HbE.out.keep k5 (by omega)
                have bH5 := HbH.out.keep k5 (by omega)
                have bM5 := HbM.out.keep k5 (by omega)
                have HK5 := Lib.hid k5
                have HA5 := Lib.hid bA5
                have HE5 := Lib.hid bE5
                have HM5 := Lib.hid bM5
                have HH5 := Lib.hid bH5
                have hlA5 := bA5.lt
                have hlH5 := bH5.lt
                have hlE5 := bE5.lt
                have hlM5 := bM5.lt
                obtain ⟨em, hem⟩ : ∃ em, EM[t]? = some em := ⟨_, List.getElem?_eq_getElem (by have := HLen.out; omega)⟩
                have HEm := Lib.hid hem
                have cH5 : w5.cell? ⟨H, t, none⟩ = some (.int .i64 p.has) := bH5.cell _ _ (rowI_at (by simp [hasU, HU.out]))
                clear k5 k5a bA5 bE5 bH5 bM5 hem
                cases p with
                | idle =>
                  have cH6 : w5.cell? ⟨H, t, none⟩ = some (.int .i64 (-1)) := cH5
                  have cE5 : w5.cell? ⟨E, t, none⟩ = some (.bool em) := HE5.out.cell _ _ (rowB_at HEm.out)
                  have fE5 := HE5.out.free t
                  clear cH5
                  go_wp2_with fail
                  go_meet
                  refine ⟨.tw, EM.set t false, TA.set t (some q1), _, q1, HL1.out.make (k := q1) (p := .idle) (p' := .tw) (HK5.out.mono (fun _ _ h => .inl (by rw [HG.out.2.2.2.2.1]; exact h)) |>.set (p := ⟨E, t, none⟩) (fun _ => .inr (by rw [HG.out.2.2.2.2.2.2.2.1])) _) ?_ ?_ ?_ HU.out hd3 HA.out (.inl ⟨rfl, rfl⟩), List.getElem?_set_self (by have := HLen.out; omega), ?_, HB5.out.setCell (p := ⟨E, t, none⟩) (by show w.heap.size ≤ E; omega) _⟩
                  · rw [HG.out.2.2.1]
                    exact HW5.out.keep ((Keep.refl (fun b => b = E) w5).set (p := ⟨E, t, none⟩) (fun _ => rfl) _) (fun b hb => .inr (.inr (.inr (.inr (.inr (by rw [HG.out.2.2.2.2.2.2.2.1]; exact hb))))))
                  · rw [HG.out.2.2.2.2.1]
                    exact HA5.out.far (by omega) _ _
                  · rw [HG.out.2.2.2.2.2.2.2.1, ← rowB_set]
                    exact HE5.out.set t (.bool false)
                  · rw [rankU_set]
                    have := rankU_at HU.out
                    exact set_same3 (show (rankU U)[t]? = some (d, Ph.rank .tw) from this)
                | hold xx =>
                  have hxr := (HL1.out.inv.heldr (x := xx) HU.out (by simp [Ph.held])).1
                  rw [HG.out.2.2.2.2.2.2.2.2.2.2] at hxr
                  have hx0 : (0 : Int) ≤ xx := hxr.1
                  have hxk : xx < (k : Int) := hxr.2
                  have hms : mm.length = sizeN (shM n k) := by rw [HL1.out.msz, HG.out.2.2.2.2.2.2.2.2.2.2]
                  have HBk := Lib.hid fun W (hW : Below w5.heap.size w5 W) => (HW5.out.below hW).back' hn2 hk3 hms t xx ⟨hx0, hxk⟩
                  have cH6 : w5.cell? ⟨H, t, none⟩ = some (.int .i64 xx) := cH5
                  have SK := Lib.hid (show ∀ W, Below w5.heap.size w5 W → (W.cell? ⟨M, 0, none⟩ = some (.int .i64 (n : Int)) ∧ W.cell? ⟨M, 1, none⟩ = some (.int .i64 1) ∧ W.cell? ⟨M, 2, none⟩ = some (.int .i64 (k : Int))) ∧ W.cell? ⟨H, t, none⟩ = some (.int .i64 xx) from fun W hW => ⟨shC (HM5.out.below hW hlM5), (hW.cell (p := ⟨H, t, none⟩) hlH5).trans cH6⟩)
                  have bd := bdrewP w5
                  clear cH5 hxr hms
                  go_upto_region 25 with fail
                  clear cH6
                  go_region_held3 (fun W : World => (W.cell? ⟨M, 0, none⟩ = some (.int .i64 (n : Int)) ∧ W.cell? ⟨M, 1, none⟩ = some (.int .i64 1) ∧ W.cell? ⟨M, 2, none⟩ = some (.int .i64 (k : Int))) ∧ W.cell? ⟨H, t, none⟩ = some (.int .i64 xx)) (first | exact SK.out _ b6 | exact SK.out _ bd | exact h6) (first
                    | (go_at_call 35; (with_reducible refine (HBk.out _ bd).mono ?_); rintro e wb ⟨q2, rfl, hWb, bb⟩; have b6 : Below w5.heap.size w5 wb := bd.trans bb; have HWb := Lib.hid hWb; have hbA2 := HA5.out.below b6 hlA5; have HbA2 := Lib.hid hbA2; have c4 : wb.cell? ⟨A, t, none⟩ = some (ptH (some q1)) := hbA2.cell _ _ (rowP_at (List.getElem?_set_self (by have := HLen.out; omega))); have f4 := hbA2.free t; have HM6 := Lib.hid ((HM5.out.below b6 hlM5).far (C := A) (by omega) t (pV q2)); have HH6 := Lib.hid ((HH5.out.below b6 hlH5).far (C := A) (by omega) t (pV q2)); have HE6 := Lib.hid ((HE5.out.below b6 hlE5).far (C := A) (by omega) t (pV q2)); have h6 : ((wb.setCell ⟨A, t, none⟩ (pV q2)).cell? ⟨M, 0, none⟩ = some (.int .i64 (n : Int)) ∧ (wb.setCell ⟨A, t, none⟩ (pV q2)).cell? ⟨M, 1, none⟩ = some (.int .i64 1) ∧ (wb.setCell ⟨A, t, none⟩ (pV q2)).cell? ⟨M, 2, none⟩ = some (.int .i64 (k : Int))) ∧ (wb.setCell ⟨A, t, none⟩ (pV q2)).cell? ⟨H, t, none⟩ = some (.int .i64 xx) := ⟨shC HM6.out, HH6.out.cell _ _ (rowI_at (by simp [hasU, HU.out, Ph.has]))⟩; clear hWb hbA2))
                  have k6 : Keep (fun b => b = A) w5 wb := Keep.ofBelow b6
                  have K6 := Lib.hid (HK5.out.trans (k6.set (p := ⟨A, t, none⟩) (fun _ => rfl) (pV q2)))
                  have bA6 : Blk (wb.setCell ⟨A, t, none⟩ (pV q2)) A 40 (rowP (TA.set t (some q2))) := by
                    have := HbA2.out.set t (pV q2)
                    rw [show (pV q2 : Value) = ptH (some q2) from rfl, rowP_set, List.set_set] at this
                    exact this
                  have HA6 := Lib.hid bA6
                  have HW6 := Lib.hid (HWb.out.keep ((Keep.refl (fun b => b = A) wb).set (p := ⟨A, t, none⟩) (fun _ => rfl) (pV q2)) (fun b hb => .inr (.inr (.inl (by rw [HG.out.2.2.2.2.1]; exact hb)))))
                  have HB6 := Lib.hid ((HB5.out.trans (b6.mono HB5.out.size)).setCell (p := ⟨A, t, none⟩) (by show w.heap.size ≤ A; omega) (pV q2))
                  clear c4 f4 h6 bA6 k6 bd b6 bb HbA2 HWb HBk SK
                  generalize wb.setCell ⟨A, t, none⟩ (pV q2) = w6 at *
                  have cE6 : w6.cell? ⟨E, t, none⟩ = some (.bool em) := HE6.out.cell _ _ (rowB_at HEm.out)
                  have fE6 := HE6.out.free t
                  go_wp2_with fail
                  go_meet
                  have eτ : upd (upd τ t (some (q1, takeT g.m t))) t (some (q2, backT (shM n k) t xx)) = upd τ t (some (q2, (Ph.bw xx).tree g.m t)) := by
                    rw [HG.out.2.2.2.2.2.2.2.2.2.2]
                    funext u
                    by_cases e : u = t
                    · rw [e, upd_same, upd_same]; rfl
                    · rw [upd_ne _ _ _ _ e, upd_ne _ _ _ _ e, upd_ne _ _ _ _ e]
                  rw [eτ] at HW6
                  refine ⟨.bw xx, EM.set t false, TA.set t (some q2), _, q2, HL1.out.make (k := q2) (p := .hold xx) (p' := .bw xx) (K6.out.mono (fun _ _ h => .inl (by rw [HG.out.2.2.2.2.1]; exact h)) |>.set (p := ⟨E, t, none⟩) (fun _ => .inr (by rw [HG.out.2.2.2.2.2.2.2.1])) _) ?_ ?_ ?_ HU.out hd3 HA.out (.inr ⟨xx, rfl, rfl⟩), List.getElem?_set_self (by have := HLen.out; omega), ?_, HB6.out.setCell (p := ⟨E, t, none⟩) (by show w.heap.size ≤ E; omega) _⟩
                  · have := HW6.out.keep ((Keep.refl (fun b => b = E) w6).set (p := ⟨E, t, none⟩) (fun _ => rfl) (.bool false)) (fun b hb => .inr (.inr (.inr (.inr (.inr (by rw [HG.out.2.2.2.2.2.2.2.1]; exact hb))))))
                    rw [HG.out.2.2.1]
                    exact this
                  · rw [HG.out.2.2.2.2.1]
                    exact HA6.out.far (by omega) _ _
                  · rw [HG.out.2.2.2.2.2.2.2.1, ← rowB_set]
                    exact HE6.out.set t (.bool false)
                  · rw [rankU_set]
                    have := rankU_at HU.out
                    exact set_same3 (show (rankU U)[t]? = some (d, Ph.rank (.bw xx)) from this)
                | _ => exact absurd HPb.out (by simp [Ph.busy])
            case rest =>
              obtain ⟨p1, EM1, TA1, τ1, q0, hL2, hA2, hR2, hb2⟩ := hcut
              have hU2 : (U.set t (d, p1))[t]? = some (d, p1) := List.getElem?_set_self (by have := HLen.out; omega)
              have HL2 := Lib.hid hL2
              have HA2 := Lib.hid hA2
              have HR2 := Lib.hid hR2
              have HB2 := Lib.hid hb2
              have HU2 := Lib.hid hU2
              clear hL2 hA2 hR2 hb2 hU2 cD cA cH
              generalize U.set t (d, p1) = U1 at *
              go_wp2_with fail
              go_loopw [19] (fun v19 wr => ∃ (u : Nat) (EM2 : List Bool), u ≤ n ∧ v19 = .int .i64 (u : Int) ∧ L3 g wr U1 TA1 o mm L EM2 (j + 1) τ1 nn ∧ (headOf L = 0 → ∀ v, v < u → EM2[v]? = some true) ∧ Below w.heap.size w wr)
                (fun v19 _ => n - (intOf v19).toNat)
              case atStart => exact ⟨0, EM1, by omega, rfl, HL2.out, fun _ v h => by omega, HB2.out⟩
              case round =>
                clear HL2 HB2
                obtain ⟨u, EM2, hu, rfl, hL3, hE3, hb3⟩ := hrel
                have HL3 := Lib.hid hL3
                have HE3 := Lib.hid hE3
                have HB3 := Lib.hid hb3
                have hle : EM2.length = n := by rw [hL3.lene]; exact HG.out.2.2.2.2.2.2.2.2.1
                clear hL3 hE3 hb3
                by_cases hun : u < n
                · obtain ⟨em, hem⟩ : ∃ em, EM2[u]? = some em := ⟨_, List.getElem?_eq_getElem (by omega)⟩
                  have eG := HG.out
                  have hM : Blk wr M 24 #[.int .i64 ((shM n k).t : Int), .int .i64 ((shM n k).o : Int), .int .i64 ((shM n k).n : Int)] := by have := HL3.out.bm; rw [eG.2.1, eG.2.2.2.2.2.2.2.2.2.2] at this; exact this
                  have hbE : Blk wr E 4 (rowB EM2) := by have := HL3.out.be; rw [eG.2.2.2.2.2.2.2.1] at this; exact this
                  have hml : (1 : Int) < (mm.length : Int) := by have := HL3.out.msz; unfold sizeN at this; omega
                  have hEM : w.heap.size ≤ E := by
                    have h1 := HL3.out.ne
                    have h2 := HL3.out.low
                    rw [eG.2.1, eG.2.2.2.1, eG.2.2.2.2.1, eG.2.2.2.2.2.1, eG.2.2.2.2.2.2.1, eG.2.2.2.2.2.2.2.1] at h1
                    rw [eG.1, eG.2.1] at h2
                    omega
                  have hunI : (u : Int) < (n : Int) := by omega
                  have ixE := idxB n E u hun
                  have HEm := Lib.hid hem
                  have HM := Lib.hid hM
                  have HbE := Lib.hid hbE
                  have hlM := hM.lt
                  have hlE := hbE.lt
                  have HAl := Lib.hid fun W (hW : Below wr.heap.size wr W) => HL3.out.all' W hW
                  rw [eG.2.2.1] at HAl
                  have cE : wr.cell? ⟨E, u, none⟩ = some (.bool em) := hbE.cell _ _ (rowB_at hem)
                  have SK := Lib.hid (show ∀ W, Below wr.heap.size wr W → (W.cell? ⟨M, 0, none⟩ = some (.int .i64 (n : Int)) ∧ W.cell? ⟨M, 1, none⟩ = some (.int .i64 1) ∧ W.cell? ⟨M, 2, none⟩ = some (.int .i64 (k : Int))) ∧ W.cell? ⟨E, u, none⟩ = some (.bool em) ∧ W.frozen? ⟨E, u, none⟩ = false from fun W hW => ⟨shC (HM.out.below hW hlM), (hW.cell (p := ⟨E, u, none⟩) hlE).trans cE, (HbE.out.below hW hlE).free u⟩)
                  have bd := bdrewP wr
                  clear hM hbE hem eG cE
                  go_upto_region 30 with fail
                  have HStep := Lib.hid (show ∀ (W : World) (e2 : Bool), Below wr.heap.size wr W → (em = true → e2 = true) → (headOf L = 0 → e2 = true) → L3 g (W.setCell ⟨E, u, none⟩ (.bool e2)) U1 TA1 o mm L (EM2.set u e2) (j + 1) τ1 nn ∧ (headOf L = 0 → ∀ v, v < u + 1 → (EM2.set u e2)[v]? = some true) ∧ Below w.heap.size w (W.setCell ⟨E, u, none⟩ (.bool e2)) from fun W e2 hW h1 h2 => by
                    have eG := HG.out
                    have k0 : Keep (fun b => b = g.E) wr W := Keep.ofBelow hW
                    refine ⟨HL3.out.em (k0.set (p := ⟨E, u, none⟩) (fun _ => eG.2.2.2.2.2.2.2.1.symm) _) ?_ (by simp) (fun v hv => ?_), fun hh v hv => ?_, (HB3.out.trans (hW.mono HB3.out.size)).setCell (p := ⟨E, u, none⟩) (by show w.heap.size ≤ E; omega) _⟩
                    · rw [eG.2.2.2.2.2.2.2.1, ← rowB_set]
                      exact (HbE.out.below hW hlE).set u (.bool e2)
                    · by_cases e : u = v
                      · subst e
                        rw [HEm.out] at hv
                        rw [List.getElem?_set_self (by omega), h1 (Option.some.inj hv)]
                      · rw [List.getElem?_set_ne e]; exact hv
                    · by_cases e : u = v
                      · subst e
                        rw [List.getElem?_set_self (by omega), h2 hh]
                      · rw [List.getElem?_set_ne e]; exact HE3.out hh v (by omega))
                  cases em with
                  | true =>
                    have c0 : wr.cell? ⟨E, u, none⟩ = some (.bool true) := (SK.out _ (Below.refl _ _)).2.1
                    obtain ⟨⟨d0, d1, d2⟩, d3, d4⟩ := SK.out _ bd
                    clear c0 d0 d1 d2
                    refine wp_region_still_tail 16 (by kernel_rfl) (by kernel_rfl) ?_
                    simp only [List.take_succ_cons, List.take_zero, List.drop_succ_cons, List.drop_zero]
                    refine @wpStill_step _ _ _ _ _ _ _ (fun K hK => ?_)
                    go_simp
                    refine hK _ ?_
                    clear hK K
                    refine @wpStill_step _ _ _ _ _ _ _ (fun K hK => ?_)
                    go_simp
                    refine hK _ ?_
                    clear hK K
                    refine @wpStill_step _ _ _ _ _ _ _ (fun K hK => ?_)
                    go_simp
                    refine hK _ ?_
                    clear hK K
                    refine @wpStill_step _ _ _ _ _ _ _ (fun K hK => ?_)
                    go_simp
                    refine hK _ ?_
                    clear hK K
                    refine @wpStill_step _ _ _ _ _ _ _ (fun K hK => ?_)
                    go_simp
                    refine hK _ ?_
                    clear hK K
                    refine @wpStill_step _ _ _ _ _ _ _ (fun K hK => ?_)
                    go_simp
                    refine hK _ ?_
                    clear hK K
                    refine @wpStill_step _ _ _ _ _ _ _ (fun K hK => ?_)
                    go_simp
                    refine hK _ ?_
                    clear hK K
                    refine @still_skip _ _ _ _ _ _ _ ?_ ?_
                    · kernel_rfl
                    simp only [Act.put, List.setIfInBounds_toArray, List.set_cons_zero, List.set_cons_succ]
                    refine @still_skip _ _ _ _ _ _ _ ?_ ?_
                    · kernel_rfl
                    simp only [Act.put, List.setIfInBounds_toArray, List.set_cons_zero, List.set_cons_succ]
                    refine @still_skip _ _ _ _ _ _ _ ?_ ?_
                    · kernel_rfl
                    simp only [Act.put, List.setIfInBounds_toArray, List.set_cons_zero, List.set_cons_succ]
                    refine @still_skip _ _ _ _ _ _ _ ?_ ?_
                    · kernel_rfl
                    simp only [Act.put, List.setIfInBounds_toArray, List.set_cons_zero, List.set_cons_succ]
                    refine @still_skip _ _ _ _ _ _ _ ?_ ?_
                    · kernel_rfl
                    simp only [Act.put, List.setIfInBounds_toArray, List.set_cons_zero, List.set_cons_succ]
                    refine @still_skip _ _ _ _ _ _ _ ?_ ?_
                    · kernel_rfl
                    simp only [Act.put, List.setIfInBounds_toArray, List.set_cons_zero, List.set_cons_succ]
                    refine @still_skip _ _ _ _ _ _ _ ?_ ?_
                    · kernel_rfl
                    simp only [Act.put, List.setIfInBounds_toArray, List.set_cons_zero, List.set_cons_succ]
                    refine @still_go _ _ _ _ _ _ _ (.bool true) ?_ ?_ ?_
                    · kernel_rfl
                    · kernel_rfl
                    simp only [Act.put, List.setIfInBounds_toArray, List.set_cons_zero, List.set_cons_succ]
                    refine @still_go _ _ _ _ _ _ _ (.pointer (some ⟨E, u, none⟩)) ?_ ?_ ?_
                    · kernel_rfl
                    · go_simp
                    simp only [Act.put, List.setIfInBounds_toArray, List.set_cons_zero, List.set_cons_succ]
                    refine @wpStill_nil _ _ _ _ _ ?_
                    change wpList _ _ _ _ _ wr.drew
                    go_wp2
                    go_roundw
                    case rel =>
                      have h9 := HStep.out wr.drew true bd (fun _ => rfl) (fun _ => rfl)
                      exact ⟨u + 1, EM2.set u true, by omega, by go_num, h9.1, h9.2.1, h9.2.2⟩
                    case measure => simp [intOf]; omega
                  | false =>
                    obtain ⟨⟨d0, d1, d2⟩, d3, d4⟩ := SK.out _ bd
                    go_region_with (first
                      | (go_at_call 17; (refine (HAl.out _ (by assumption)).mono ?_); rintro e w5 ⟨bq, cap5, rfl, h5, hl5, b5⟩; have b6 : Below wr.heap.size wr w5 := Below.trans (by assumption) (b5.mono (Below.size (by assumption))); obtain ⟨⟨e0, e1, e2⟩, e3, e4⟩ := SK.out _ b6)
                      | (go_at_call 36; (refine (shhead n k _).mono ?_); rintro e w7 ⟨rfl, b7⟩; have b8 : Below wr.heap.size wr w7 := Below.trans (by assumption) (b7.mono (Below.size (by assumption))); obtain ⟨⟨f0, f1, f2⟩, f3, f4⟩ := SK.out _ b8; (try have h7 := (b7.cell (p := ⟨bq, 1, none⟩) hl5).trans h5)))
                    all_goals
                      clear d0 d1 d2 d3 d4 e0 e1 e2 e3 e4 f0 f1 f2 f3 f4 h5 h7
                      go_wp2
                      go_roundw
                      case rel =>
                        have h9 := HStep.out w7 (headOf L == 0) b8 (fun h => by cases h) (fun h => by rw [beq_iff_eq]; exact h)
                        exact ⟨u + 1, EM2.set u (headOf L == 0), by omega, by go_num, h9.1, h9.2.1, h9.2.2⟩
                      case measure => simp [intOf]; omega
                · have hEmp := Lib.hid (show mm[1]? = some 0 → EM2[t]? = some true from fun h => by
                    have h1 := HL3.out.inv.pis.head
                    rw [h1] at h
                    exact HE3.out (Option.some.inj h) t (by omega))
                  have hunI : ¬ (u : Int) < (n : Int) := by omega
                  have hCnt := HL3.out.cnt
                  have eG := HG.out
                  have hmn : g.m.n ≤ 4096 := by rw [eG.2.2.2.2.2.2.2.2.2.2]; show k ≤ 4096; omega
                  obtain ⟨mm', T', hOut, hz', hStep⟩ := HL3.out.step (by omega) hmn HU2.out HA2.out hd3 hEmp.out
                  have HSt := Lib.hid hStep
                  have HZ := Lib.hid hz'
                  have cA1 : wr.cell? ⟨A, t, none⟩ = some (pV q0) := by rw [← eG.2.2.2.2.1]; exact HL3.out.ba.cell _ _ (rowP_at HA2.out)
                  have hne : M < Y ∧ Y < A ∧ A < H ∧ H < D ∧ D < E := by have := HL3.out.ne; rw [eG.2.1, eG.2.2.2.1, eG.2.2.2.2.1, eG.2.2.2.2.2.1, eG.2.2.2.2.2.2.1, eG.2.2.2.2.2.2.2.1] at this; exact this
                  have HR := Lib.hid (show ∀ W, Keep (fun b => g.n0 ≤ b ∧ ¬ g.X b) wr W → Blk W A 40 (rowP TA1) ∧ Blk W H 3 (rowI (hasU U1)) ∧ Blk W D 3 (rowI (doneU U1)) ∧ Blk W E 4 (rowB EM2) from fun W hW => by
                    have := HL3.out.rows hW
                    rw [HG.out.2.2.2.2.1, HG.out.2.2.2.2.2.1, HG.out.2.2.2.2.2.2.1, HG.out.2.2.2.2.2.2.2.1] at this
                    exact this)
                  have HBel := Lib.hid (show ∀ W, Below g.n0 wr W → Below w.heap.size w W from fun W hW => HB3.out.trans (by rw [HG.out.1] at hW; exact hW))
                  have HBudL := Lib.hid (show ∀ U', potL 11 3 (rankU U') + 1 ≤ potL 11 3 (rankU U1) → Bud 165 n Lb 11 3 none (rankU U') (j + 1) from fun U' hp => HBud.out.less (by omega) (by rw [rankU_len]; exact HLen.out.1) HT.out (.inl (by rw [HR2.out] at hp; exact hp)))
                  have hhas : (hasU U1)[t]? = some p1.has := by simp [hasU, HU2.out]
                  have hdone : (doneU U1)[t]? = some (d : Int) := by simp [doneU, HU2.out]
                  have HHas := Lib.hid hhas
                  have HDone := Lib.hid hdone
                  clear hStep hz' eG hCnt hmn hhas hdone hu hun hle
                  rcases hOut with ⟨p', o', L', rfl, hb', hh, hi, hp⟩ | ⟨v, L', rfl, hv, hh, hnev, hi, hp⟩ | ⟨L', rfl, hh, he, hi, hp⟩ | ⟨L', rfl, hh, hi, hp⟩
                  · have HI := Lib.hid (And.intro hb' (And.intro hh (And.intro hi hp)))
                    clear hb' hh hi hp
                    go_upto_region 33 with (go_at_call 37; (with_reducible refine HSt.out.mono ?_); rintro e w2 ⟨rfl, hW2, k2⟩)
                    have cA2 : w2.cell? ⟨A, t, none⟩ = some (pV q0) := (HR.out w2 k2).1.cell _ _ (rowP_at HA2.out)
                    have HD2 := Lib.hid (pdone false t hW2 (upd_same _ _ _) (finp_tree g.m t HI.out.1))
                    have HW2 := Lib.hid hW2
                    have HK2 := Lib.hid k2
                    clear cA1 hW2 k2
                    go_wp2_with (go_at_call 38; (with_reducible refine HD2.out.mono ?_); rintro e w3 ⟨rfl, rfl⟩)
                    go_roundw
                    case rel =>
                      refine ⟨U1.set t (d, p'), TA1, o', mm', L', EM2, j + 1, _, nn + 1, by omega, by go_num, HL3.out.on HK2.out HW2.out HU2.out HA2.out HI.out.1 HI.out.2.1 HZ.out HI.out.2.2.1 HNN.out, ?_, HBel.out _ (HK2.out.below HL3.out.wld.lo.2.2 fun b _ hb => hb.1)⟩
                      refine HBud.out.less (by omega) (by rw [rankU_len]; exact HLen.out.1) HT.out ?_
                      rcases HI.out.2.2.2 with hp | ⟨e1, e2, e3, e4⟩
                      · exact .inl (by rw [HR2.out] at hp; exact hp)
                      · exact .inr ⟨e1.trans HR2.out, e2, fun h => (e3 h).elim, fun u hu => ⟨by have := (e4 u hu).1; rw [HG.out.2.2.2.2.2.2.2.2.1] at this; exact this, (e4 u hu).2⟩⟩
                    case measure => simp [intOf]; omega
                  · have HI := Lib.hid (And.intro hi (And.intro hp hnev))
                    have HHas2 := Lib.hid (show (hasU U1)[t]? = some (-1) from by rw [← hh]; exact HHas.out)
                    obtain ⟨vn, rfl⟩ : ∃ vn : Nat, v = (vn : Int) := ⟨v.toNat, by omega⟩
                    clear hh hi hp hnev hv
                    go_upto_region 33 with (go_at_call 37; (with_reducible refine HSt.out.mono ?_); rintro e w2 ⟨rfl, hW2, k2⟩)
                    have hF := HL3.out.took k2 hW2 HU2.out HZ.out HI.out.1 HNN.out
                    rw [HG.out.2.2.2.2.1, HG.out.2.2.2.2.2.1] at hF
                    have HF := Lib.hid hF
                    obtain ⟨bA, bH, bD, bE⟩ := HR.out w2 k2
                    have cA2 : w2.cell? ⟨A, t, none⟩ = some (pV q0) := bA.cell _ _ (rowP_at HA2.out)
                    have fA2 := bA.free t
                    have bH3 := bH.far (C := A) (by omega) t (.pointer none)
                    have HD2 := Lib.hid (pdone true t hW2 (upd_same _ _ _) (finp_ret _))
                    have HV2 := Lib.hid (wvalue_ret t hW2 (upd_same _ _ _))
                    have HBH := Lib.hid bH3
                    clear cA1 hW2 k2 bA bH bD bE bH3 hF
                    go_upto_region 36 with (first | (go_at_call 38; (with_reducible refine HD2.out.mono ?_); rintro e w3 ⟨rfl, rfl⟩) | (go_at_call 27; (with_reducible refine HV2.out.mono ?_); rintro e w4 ⟨rfl, rfl⟩))
                    clear cA2 fA2 HD2 HV2
                    generalize w2.setCell ⟨A, t, none⟩ (.pointer none) = w5 at *
                    have cH5 : w5.cell? ⟨H, t, none⟩ = some (.int .i64 (-1)) := HBH.out.cell _ _ (rowI_at HHas2.out)
                    have fH5 := HBH.out.free t
                    have hvn : ¬ ((vn : Int) < 0) := by omega
                    obtain ⟨wt, hwt⟩ : ∃ wt, wt = wr := ⟨_, rfl⟩
                    subst hwt
                    go_wp2_with fail
                    go_loopw [21] (fun v21 wr => ∃ u : Nat, u ≤ n ∧ v21 = .int .i64 (u : Int) ∧ wr = w5) (fun v21 _ => n - (intOf v21).toNat)
                    case atStart => exact ⟨0, by omega, rfl, rfl⟩
                    case round =>
                      obtain ⟨u5, hu5, rfl, rfl⟩ := hrel
                      by_cases hu6 : u5 < n
                      · have hu7 : (u5 : Int) < (n : Int) := by omega
                        have i5 := idxI n H u5 hu6
                        obtain ⟨y, hy⟩ : ∃ y, U1[u5]? = some y := ⟨_, List.getElem?_eq_getElem (by have := HL3.out.inv.len; rw [HG.out.2.2.2.2.2.2.2.2.1] at this; omega)⟩
                        have cU5 : wr.cell? ⟨H, u5, none⟩ = some (.int .i64 y.2.has) := HBH.out.cell _ _ (rowI_at (by simp [hasU, hy]))
                        have hyv : ((y.2.has : Int) == (vn : Int)) = false := by
                          rw [beq_eq_false_iff_ne]
                          exact HI.out.2.2 y (List.mem_of_getElem? hy)
                        generalize y.2.has = hyy at *
                        clear hy cH5
                        go_wp2_with fail
                        go_roundw
                        case rel => exact ⟨u5 + 1, by omega, by go_num, trivial⟩
                        case measure => simp [intOf]; omega
                      · have hu7 : ¬ (u5 : Int) < (n : Int) := by omega
                        clear hu5 hu6
                        go_wp2_with fail
                        go_roundw
                        case rel => exact ⟨U1.set t (d, .hold vn), TA1.set t none, none, mm', L', EM2, j + 1, _, nn + 1, by omega, by go_num, HF.out.1, HBudL.out _ HI.out.2.1, HBel.out _ HF.out.2⟩
                        case measure => simp [intOf]; omega
                  · have HI := Lib.hid (And.intro hi (And.intro hp he))
                    have HHas2 := Lib.hid (show (hasU U1)[t]? = some (-1) from by rw [← hh]; exact HHas.out)
                    have HHh := Lib.hid hh
                    clear hh hi hp he
                    go_upto_region 33 with (go_at_call 37; (with_reducible refine HSt.out.mono ?_); rintro e w2 ⟨rfl, hW2, k2⟩)
                    have hF := HL3.out.nope k2 hW2 HU2.out HHh.out HZ.out HI.out.1 HNN.out (d1 := (d : Int) + 1) rfl
                    rw [HG.out.2.2.2.2.1, HG.out.2.2.2.2.2.2.1] at hF
                    have HF := Lib.hid hF
                    obtain ⟨bA, bH, bD, bE⟩ := HR.out w2 k2
                    have cA2 : w2.cell? ⟨A, t, none⟩ = some (pV q0) := bA.cell _ _ (rowP_at HA2.out)
                    have fA2 := bA.free t
                    have HBH := Lib.hid (bH.far (C := A) (by omega) t (.pointer none))
                    have HBD := Lib.hid (bD.far (C := A) (by omega) t (.pointer none))
                    have HBE := Lib.hid (bE.far (C := A) (by omega) t (.pointer none))
                    have HD2 := Lib.hid (pdone true t hW2 (upd_same _ _ _) (finp_ret _))
                    have HV2 := Lib.hid (wvalue_ret t hW2 (upd_same _ _ _))
                    clear cA1 hW2 k2 bA bH bD bE hF
                    go_upto_region 36 with (first | (go_at_call 38; (with_reducible refine HD2.out.mono ?_); rintro e w3 ⟨rfl, rfl⟩) | (go_at_call 27; (with_reducible refine HV2.out.mono ?_); rintro e w4 ⟨rfl, rfl⟩))
                    clear cA2 fA2 HD2 HV2
                    generalize w2.setCell ⟨A, t, none⟩ (.pointer none) = w5 at *
                    have cH5 : w5.cell? ⟨H, t, none⟩ = some (.int .i64 (-1)) := HBH.out.cell _ _ (rowI_at HHas2.out)
                    have cD5 : w5.cell? ⟨D, t, none⟩ = some (.int .i64 (d : Int)) := HBD.out.cell _ _ (rowI_at HDone.out)
                    have fD5 := HBD.out.free t
                    have cE5 : w5.cell? ⟨E, t, none⟩ = some (.bool true) := HBE.out.cell _ _ (rowB_at HI.out.2.2)
                    have hd4 : (d : Int) < 3 := by omega
                    go_wp2_with fail
                    go_roundw
                    case rel => exact ⟨U1.set t (d + 1, .idle), TA1.set t none, none, mm', L', EM2, j + 1, _, nn + 1, by omega, by go_num, HF.out.1, HBudL.out _ HI.out.2.1, HBel.out _ HF.out.2⟩
                    case measure => simp [intOf]; omega
                  · have HI := Lib.hid (And.intro hi hp)
                    obtain ⟨xn, hxn⟩ : ∃ xn : Nat, p1.has = (xn : Int) := ⟨p1.has.toNat, by omega⟩
                    have HHas2 := Lib.hid (show (hasU U1)[t]? = some (xn : Int) from by rw [← hxn]; exact HHas.out)
                    clear hh hi hp hxn
                    go_upto_region 33 with (go_at_call 37; (with_reducible refine HSt.out.mono ?_); rintro e w2 ⟨rfl, hW2, k2⟩)
                    have hF := HL3.out.gave k2 hW2 HU2.out HZ.out HI.out.1 HNN.out (d1 := (d : Int) + 1) rfl
                    rw [HG.out.2.2.2.2.1, HG.out.2.2.2.2.2.1, HG.out.2.2.2.2.2.2.1] at hF
                    have HF := Lib.hid hF
                    obtain ⟨bA, bH, bD, bE⟩ := HR.out w2 k2
                    have cA2 : w2.cell? ⟨A, t, none⟩ = some (pV q0) := bA.cell _ _ (rowP_at HA2.out)
                    have fA2 := bA.free t
                    have HBH := Lib.hid (bH.far (C := A) (by omega) t (.pointer none))
                    have HBD := Lib.hid ((bD.far (C := A) (by omega) t (.pointer none)).far (C := H) (by omega) t (.int .i64 (-1)))
                    have HD2 := Lib.hid (pdone true t hW2 (upd_same _ _ _) (finp_ret _))
                    have HV2 := Lib.hid (wvalue_ret t hW2 (upd_same _ _ _))
                    clear cA1 hW2 k2 bA bH bD bE hF
                    go_upto_region 36 with (first | (go_at_call 38; (with_reducible refine HD2.out.mono ?_); rintro e w3 ⟨rfl, rfl⟩) | (go_at_call 27; (with_reducible refine HV2.out.mono ?_); rintro e w4 ⟨rfl, rfl⟩))
                    clear cA2 fA2 HD2 HV2
                    generalize w2.setCell ⟨A, t, none⟩ (.pointer none) = w5 at *
                    have cH5 : w5.cell? ⟨H, t, none⟩ = some (.int .i64 (xn : Int)) := HBH.out.cell _ _ (rowI_at HHas2.out)
                    have fH5 := HBH.out.free t
                    have hxn0 : (0 : Int) ≤ (xn : Int) := by omega
                    go_upto_region 40 with fail
                    clear cH5 fH5
                    generalize w5.setCell ⟨H, t, none⟩ (.int .i64 (-1)) = w6 at *
                    have cD5 : w6.cell? ⟨D, t, none⟩ = some (.int .i64 (d : Int)) := HBD.out.cell _ _ (rowI_at HDone.out)
                    have fD5 := HBD.out.free t
                    have hd4 : (d : Int) < 3 := by omega
                    go_wp2_with fail
                    go_roundw
                    case rel => exact ⟨U1.set t (d + 1, .idle), TA1.set t none, none, mm', L', EM2, j + 1, _, nn + 1, by omega, by go_num, HF.out.1, HBudL.out _ HI.out.2, HBel.out _ HF.out.2⟩
                    case measure => simp [intOf]; omega
        · have hj4 : ¬ (j : Int) < 6000 := by omega
          have hP0 : potL 11 3 (rankU U) = 0 := hBud.end (by omega) hL2 (by omega)
          obtain ⟨hU9, hPerm⟩ := hL.inv.over hP0
          rw [g11] at hPerm
          have hPerm : L.Perm (upL k) := hPerm
          have hLk : k = L.length := by have := hPerm.length_eq; rw [upL_len] at this; exact this.symm
          have hFr := hL.free' (n := n) (k := k) g11 k hLk
          rw [g3] at hFr
          have hHD : Blk wr H 3 (rowI (hasU U)) ∧ Blk wr D 3 (rowI (doneU U)) := by
            have h1 := hL.bh
            have h2 := hL.bd
            rw [g6] at h1
            rw [g7] at h2
            exact ⟨h1, h2⟩
          have hUl : U.length = n := by have := hL.inv.len; rw [g9] at this; exact this
          have hM : Blk wr M 24 #[.int .i64 ((shM n k).t : Int), .int .i64 ((shM n k).o : Int), .int .i64 ((shM n k).n : Int)] := by have := hL.bm; rw [g2, g11] at this; exact this
          have HFr := Lib.hid hFr
          have HHD := Lib.hid hHD
          have HU9 := Lib.hid (And.intro hU9 hUl)
          have HPm := Lib.hid (And.intro hPerm hLk)
          have Hb := Lib.hid hb
          have hlH := hHD.1.lt
          have hlD := hHD.2.lt
          obtain ⟨d0, d1, d2⟩ := shC hM
          have hm2' := makeI k
          clear g1 g2 g3 g4 g5 g6 g7 g8 g9 g10 g11 hL hBud hb hFr hHD hU9 hUl hPerm hLk hM hP0 hlt hj
          go_upto_region 52 with (go_at_call 39; (with_reducible refine HFr.out.mono ?_); rintro e w2 ⟨af, cf, rfl, hrow, bf⟩)
          have HRow := Lib.hid hrow
          have HBf := Lib.hid bf
          have hmk := hm2' w2 (by omega)
          have hsf := bf.size
          clear d0 d1 d2 hrow bf hm2'
          go_upto_region 53 with fail
          clear hmk
          generalize hW3 : (w2.alloc _) = w3
          have bS3 : Blk w3 w2.heap.size 3 (rowI (List.replicate k 0)) := by rw [← hW3]; exact Blk.new w2 _ _
          have b3 : Below w2.heap.size w2 w3 := by rw [← hW3]; go_grown
          clear hW3
          generalize hSB : w2.heap.size = SB at *
          have HBS := Lib.hid bS3
          have HB3 := Lib.hid (show Below w.heap.size w w3 from (Hb.out.trans (HBf.out.mono Hb.out.size)).trans (b3.mono (by have := Hb.out.size; omega)))
          have HRow3 := Lib.hid (show RowN w3 (fun b => wr.heap.size ≤ b ∧ b ≠ SB) (.slice af k cf) L from by
            obtain ⟨a1, c1, e1, e2, e3⟩ := HRow.out
            refine ⟨a1, c1, e1, e2, fun i x hx => ?_⟩
            obtain ⟨b, o, q1, q2, q3, q4⟩ := e3 i x hx
            exact ⟨b, o, q1, ⟨q2, by omega⟩, Nat.lt_of_lt_of_le q3 b3.size, (b3.cell (p := ⟨b, o + i, none⟩) (by rw [← hSB]; exact q3)).trans q4⟩)
          have hlH2 : H < SB := by omega
          have hlD2 : D < SB := by omega
          have HH3 := Lib.hid ((HHD.out.1.below HBf.out hlH).below (hSB ▸ b3) (by rw [hSB]; exact hlH2))
          have HD3 := Lib.hid ((HHD.out.2.below HBf.out hlD).below (hSB ▸ b3) (by rw [hSB]; exact hlD2))
          have hSw : w.heap.size ≤ SB := by have := Hb.out.size; omega
          clear bS3 b3 HRow HBf hSB hsf
          go_wp2_with fail
          go_loopw [24] (fun v24 wr => ∃ (i : Nat) (s : List Int), i ≤ k ∧ v24 = .int .i64 (i : Int) ∧ s.length = k ∧ (∀ x : Nat, x < k → s[x]? = some (((L.take i).count (x : Int) : Nat) : Int)) ∧ Blk wr SB 3 (rowI s) ∧ Keep (fun b => b = SB) w3 wr) (fun v24 _ => k - (intOf v24).toNat)
          case atStart => exact ⟨0, _, by omega, rfl, by simp, fun x hx => by simp [hx], HBS.out, Keep.refl _ _⟩
          case round =>
            obtain ⟨i, s, hi, rfl, hsl, hsv, hbS, hkS⟩ := hrel
            have HS0 := Lib.hid (And.intro hsl (And.intro hsv (And.intro hbS hkS)))
            by_cases hik : i < k
            · have hikI : (i : Int) < (k : Int) := by omega
              obtain ⟨x, hx⟩ : ∃ x, L[i]? = some x := ⟨_, List.getElem?_eq_getElem (by have := HPm.out.2; omega)⟩
              have hxr := upL_mem.1 (HPm.out.1.mem_iff.1 (List.mem_of_getElem? hx))
              obtain ⟨xn, rfl⟩ : ∃ xn : Nat, x = (xn : Int) := ⟨x.toNat, by omega⟩
              have hxk : xn < k := by omega
              have hcell : ∃ b o, af = some ⟨b, o, none⟩ ∧ b ≠ SB ∧ wr.cell? ⟨b, o + i, none⟩ = some (.int .i64 (xn : Int)) := by
                obtain ⟨a1, c1, e1, e2, e3⟩ := HRow3.out
                obtain ⟨b, o, q1, q2, q3, q4⟩ := e3 i _ hx
                obtain rfl : af = a1 := by injection e1
                exact ⟨b, o, q1, q2.2, cell_keep6 q4 hkS (fun h => q2.2 h)⟩
              have hcf : k ≤ cf := by
                obtain ⟨a1, c1, e1, e2, e3⟩ := HRow3.out
                injection e1 with e1 e4 e5
                have := HPm.out.2
                omega
              obtain ⟨bl, ol, rfl, hbl, hcl⟩ := hcell
              have ixL : ∀ W, (Instr.indexAt 37 (.slice (some ⟨bl, ol, none⟩) k cf) (.int .i64 (i : Int))).run Tryz.prog W = .ok (.pointer (some ⟨bl, ol + i, none⟩)) W := by
                intro W
                go_simp
              have ixS := idxI k SB xn hxk
              obtain ⟨c, hc⟩ : ∃ c : Nat, c = (L.take i).count (xn : Int) := ⟨_, rfl⟩
              have hcs : s[xn]? = some (c : Int) := by rw [hc]; exact hsv xn hxk
              have hc6 : c ≤ 6 := by
                have h1 : c ≤ (L.take i).length := by rw [hc]; exact List.count_le_length
                simp at h1
                omega
              have cS : wr.cell? ⟨SB, xn, none⟩ = some (.int .i64 (c : Int)) := hbS.cell _ _ (rowI_at hcs)
              have fS := hbS.free xn
              have HX := Lib.hid (And.intro hx hc)
              clear hsl hsv hbS hkS hx hc hcs hxr hcf
              go_wp2_with fail
              go_roundw
              case rel =>
                obtain ⟨hsl, hsv, hbS, hkS⟩ := HS0.out
                refine ⟨i + 1, s.set xn ((c : Int) + 1), by omega, by go_num, by simpa using hsl, fun y hy => ?_, by rw [← rowI_set]; exact hbS.set xn _, hkS.set (p := ⟨SB, xn, none⟩) (fun _ => rfl) _⟩
                have e1 : L.take (i + 1) = L.take i ++ [(xn : Int)] := by rw [List.take_add_one, HX.out.1]; rfl
                rw [e1, List.count_append]
                by_cases e : xn = y
                · subst e
                  rw [List.getElem?_set_self (by omega), HX.out.2]
                  simp
                · rw [List.getElem?_set_ne e, hsv y hy]
                  have : ¬ ((xn : Int) == (y : Int)) = true := by simp; omega
                  simp [List.count_cons, this]
              case measure => simp [intOf]; omega
            · have hikI : ¬ (i : Int) < (k : Int) := by omega
              have hik2 : i = L.length := by have := HPm.out.2; omega
              have hs1 : ∀ x : Nat, x < k → s[x]? = some 1 := fun x hx => by
                rw [hsv x hx, hik2, List.take_length, perm_one HPm.out.1 ⟨by omega, by omega⟩]
                rfl
              have HS1 := Lib.hid (And.intro hsl (And.intro hs1 hbS))
              have HH4 := Lib.hid (HH3.out.keep hkS (by omega))
              have HD4 := Lib.hid (HD3.out.keep hkS (by omega))
              have HB4 := Lib.hid (HB3.out.trans (hkS.below HB3.out.size (fun b _ h => by omega)))
              clear hsl hsv hbS hkS hik2 hs1 hik hi HS0
              obtain ⟨wt, hwt⟩ : ∃ wt, wt = wr := ⟨_, rfl⟩
              subst hwt
              go_wp2_with fail
              go_loopw [25] (fun v25 wr => ∃ u : Nat, u ≤ n ∧ v25 = .int .i64 (u : Int) ∧ wr = wt) (fun v25 _ => n - (intOf v25).toNat)
              case atStart => exact ⟨0, by omega, rfl, rfl⟩
              case round =>
                obtain ⟨u5, hu5, rfl, rfl⟩ := hrel
                by_cases hu6 : u5 < n
                · have hu7 : (u5 : Int) < (n : Int) := by omega
                  have i5 := idxI n H u5 hu6
                  have i6 := idxI n D u5 hu6
                  obtain ⟨y, hy⟩ : ∃ y, U[u5]? = some y := ⟨_, List.getElem?_eq_getElem (by have := HU9.out.2; omega)⟩
                  have hy2 := HU9.out.1 y (List.mem_of_getElem? hy)
                  subst hy2
                  have cH5 : wr.cell? ⟨H, u5, none⟩ = some (.int .i64 (-1)) := HH4.out.cell _ _ (rowI_at (by simp [hasU, hy, Ph.has]))
                  have cD5 : wr.cell? ⟨D, u5, none⟩ = some (.int .i64 3) := HD4.out.cell _ _ (rowI_at (by simp [doneU, hy]))
                  clear hy
                  go_wp2_with fail
                  go_roundw
                  case rel => exact ⟨u5 + 1, by omega, by go_num, trivial⟩
                  case measure => simp [intOf]; omega
                · have hu7 : ¬ (u5 : Int) < (n : Int) := by omega
                  clear hu5 hu6
                  obtain ⟨ws, hws⟩ : ∃ ws, ws = wr := ⟨_, rfl⟩
                  subst hws
                  go_wp2_with fail
                  go_loopw [26] (fun v26 wr => ∃ u : Nat, u ≤ k ∧ v26 = .int .i64 (u : Int) ∧ wr = ws) (fun v26 _ => k - (intOf v26).toNat)
                  case atStart => exact ⟨0, by omega, rfl, rfl⟩
                  case round =>
                    obtain ⟨u8, hu8, rfl, rfl⟩ := hrel
                    by_cases hu9 : u8 < k
                    · have hu10 : (u8 : Int) < (k : Int) := by omega
                      have i8 := idxI k SB u8 hu9
                      have c8 : wr.cell? ⟨SB, u8, none⟩ = some (.int .i64 1) := HS1.out.2.2.cell _ _ (rowI_at (HS1.out.2.1 u8 hu9))
                      go_wp2_with fail
                      go_roundw
                      case rel => exact ⟨u8 + 1, by omega, by go_num, trivial⟩
                      case measure => simp [intOf]; omega
                    · have hu10 : ¬ (u8 : Int) < (k : Int) := by omega
                      clear hu8 hu9
                      go_wp2_with fail
                      go_ret
                      exact ⟨rfl, HB4.out⟩
end Go.Proofs.YtldofbkjjmnooaaGreat
