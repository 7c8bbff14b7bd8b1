/- A region's condition, strengthened on the way. No program is named here. -/
import Derived.Test.YtldofbkjjmnooaaGreatMgGSlA
import Derived.Test.YtldofbkjjmnooaaGreatMgGSlL
namespace Go.Proofs.YtldofbkjjmnooaaGreat
open Go.ChangeShapes Go.WideShapes Go.ChangeAt Go.RowKit
theorem wpAnyH_moreP {P : Program} {md : Region.Mode} {ops : Array Oper} {Q : Exit → Act → World → Prop} {S S' : World → Prop} (h : ∀ w, S' w → S w) :
    ∀ (fuel : Nat) (listed : Array Bool) (a : Act) (w : World), wpAnyH P md ops Q S' fuel listed a w → wpAnyH P md ops Q S fuel listed a w
  | 0, _, _, _, hh => hh
  | fuel + 1, _, _, _, hh => ⟨hh.1, fun i hi => wpOp_mono (fun a' w' h' => ⟨h _ h'.1, wpAnyH_moreP h fuel _ a' w' h'.2⟩) (hh.2 i hi)⟩
end Go.Proofs.YtldofbkjjmnooaaGreat
/- Tasks over a ground: Begin, End, Sleep. -/
namespace Go.Proofs.YtldofbkjjmnooaaGreat
open Go.ChangeShapes Go.WideShapes Go.ChangeAt Go.RowKit
set_option linter.unusedVariables false
set_option maxRecDepth 100000
set_option linter.unusedSimpArgs false
theorem gSpin (C P : Nat) (m : Mp) (u : Int) (Q : Nat → Prop) (w : World) (hQ : ∀ k, w.heap.size ≤ k → Q k) : Calls Tryz.prog 136 #[cellsV C, .int .i64 (safeN m u : Nat), .int .u64 1, .int .u64 0] w fun e w' => ∃ t, e = .returned (pV t) ∧ MadeQ (cellOps C P) w Q (spinT (begI m u)) t w' := by
  refine (tspin_any C P Q (begI m u) w rfl hQ).mono ?_
  rintro e w' ⟨t, rfl, h⟩
  have h1 := h.madeQ
  rw [show itmT [begI m u] 0 = spinT (begI m u) from spin_end (begI m u)] at h1
  exact ⟨t, rfl, h1⟩
theorem gStore (C P : Nat) (b : Nat) (v : Int) (Q : Nat → Prop) (w : World) (hQ : ∀ k, w.heap.size ≤ k → Q k) : Calls Tryz.prog 178 #[cellsV C, .int .i64 (b : Int), .int .u64 v] w fun e w' => ∃ t, e = .returned (pV t) ∧ MadeQ (cellOps C P) w Q (putT b v) t w' := poStore C P Q b v w hQ
theorem park_eq (u : Nat) (timed : Bool) : itmT [parkN u timed] 0 = opT (parkN u timed) retT := by
  cases timed <;> simp [itmT] <;> rfl
theorem gPark (C P : Nat) (u : Nat) (timed : Bool) (Q : Nat → Prop) (w : World) (hQ : ∀ k, w.heap.size ≤ k → Q k) : Calls Tryz.prog 140 #[permitsV P, .int .i64 (u : Int), .bool timed] w fun e w' => ∃ t, e = .returned (pV t) ∧ MadeQ (cellOps C P) w Q (opT (parkN u timed) retT) t w' := by
  have := tpark_any C P Q (parkN u timed) w (by cases timed <;> simp) hQ
  rw [show ((parkN u timed).kind == 6) = timed by cases timed <;> rfl] at this
  refine this.mono ?_
  rintro e w' ⟨t, rfl, h⟩
  have h1 := h.madeQ
  rw [park_eq] at h1
  exact ⟨t, rfl, h1⟩
section
variable {w : World} {g : GrP} {m : Mp} {mm : List Int} {k : Int} {l : List Bool} {vo : Value} {E : List Ev}
theorem GrAt.c5 (h : GrAt w g m mm k l vo E) : (w.cell? ⟨g.G, 0, none⟩ = some (.int .i64 (m.t : Int)) ∧ w.cell? ⟨g.G, 1, none⟩ = some (.int .i64 (m.o : Int)) ∧ w.cell? ⟨g.G, 2, none⟩ = some (.int .i64 (m.n : Int))) ∧ w.cell? ⟨g.G, 3, none⟩ = some (cellsV g.C) ∧ w.cell? ⟨g.G, 4, none⟩ = some (permitsV g.P) :=
  ⟨⟨h.own.cell 0 _ rfl, h.own.cell 1 _ rfl, h.own.cell 2 _ rfl⟩, h.own.cell 3 _ rfl, h.own.cell 4 _ rfl⟩
set_option maxHeartbeats 2000000 in
theorem gbegin_any (u : Nat) (hu : u < m.t) (h : GrAt w g m mm k l vo E) (Q : Nat → Prop) (hQ : ∀ k, w.heap.size ≤ k → Q k) :
    Calls Tryz.prog 55 #[grV g, .int .i64 (u : Int)] w fun e w' => ∃ t, e = .returned (pV t) ∧ MadeQ (cellOps g.C g.P) w Q (spinT (begI m u)) t w' := by
  have HT := Lib.hid (gisT_any u hu h)
  have HSf := Lib.hid fun V => safe_any m (u : Int) V h.ok ⟨by omega, by omega⟩
  have HSp := Lib.hid fun V (hV : w.heap.size ≤ V.heap.size) => gSpin g.C g.P m u Q V (fun k hk => hQ k (by omega))
  have SK := Lib.hid (show ∀ V, Below w.heap.size w V → ((V.cell? ⟨g.G, 0, none⟩ = some (.int .i64 (m.t : Int)) ∧ V.cell? ⟨g.G, 1, none⟩ = some (.int .i64 (m.o : Int)) ∧ V.cell? ⟨g.G, 2, none⟩ = some (.int .i64 (m.n : Int))) ∧ V.cell? ⟨g.G, 3, none⟩ = some (cellsV g.C)) from fun V hV => ⟨(h.below hV).c5.1, (h.below hV).c5.2.1⟩)
  have bd := bdrewP w
  clear h hQ hu
  go_enter Tryz.func55, Tryz.ntmps55
  go_upto_region 3 with (go_at_call 135; (with_reducible refine HT.out.mono ?_); rintro e w1 ⟨rfl, rfl⟩)
  go_region_held3 (fun V : World => ((V.cell? ⟨g.G, 0, none⟩ = some (.int .i64 (m.t : Int)) ∧ V.cell? ⟨g.G, 1, none⟩ = some (.int .i64 (m.o : Int)) ∧ V.cell? ⟨g.G, 2, none⟩ = some (.int .i64 (m.n : Int))) ∧ V.cell? ⟨g.G, 3, none⟩ = some (cellsV g.C)))
    (first | exact SK.out _ (Below.refl _ _) | exact SK.out _ bd | exact SK.out _ b2 | exact SK.out _ (b2.trans (h3.2.2.mono b2.size)))
    (first
    | (go_at_call 54; (with_reducible refine (HSf.out _).mono ?_); rintro e w2 ⟨rfl, b2'⟩; have b2 := bd.trans b2')
    | (go_at_call 136; (with_reducible refine (HSp.out _ b2.size).mono ?_); rintro e w3 ⟨t, rfl, h3⟩))
  go_wp2
  go_ret
  exact ⟨t, rfl, h3.of b2⟩
set_option maxHeartbeats 2000000 in
theorem gend_any (u : Nat) (hu : u < m.t) (h : GrAt w g m mm k l vo E) (Q : Nat → Prop) (hQ : ∀ k, w.heap.size ≤ k → Q k) :
    Calls Tryz.prog 139 #[grV g, .int .i64 (u : Int)] w fun e w' => ∃ t, e = .returned (pV t) ∧ MadeQ (cellOps g.C g.P) w Q (putT (safeN m u) 1) t w' := by
  have HT := Lib.hid (gisT_any u hu h)
  have HSf := Lib.hid fun V => safe_any m (u : Int) V h.ok ⟨by omega, by omega⟩
  have HSp := Lib.hid fun V (hV : w.heap.size ≤ V.heap.size) => gStore g.C g.P (safeN m u) 1 Q V (fun k hk => hQ k (by omega))
  have SK := Lib.hid (show ∀ V, Below w.heap.size w V → ((V.cell? ⟨g.G, 0, none⟩ = some (.int .i64 (m.t : Int)) ∧ V.cell? ⟨g.G, 1, none⟩ = some (.int .i64 (m.o : Int)) ∧ V.cell? ⟨g.G, 2, none⟩ = some (.int .i64 (m.n : Int))) ∧ V.cell? ⟨g.G, 3, none⟩ = some (cellsV g.C)) from fun V hV => ⟨(h.below hV).c5.1, (h.below hV).c5.2.1⟩)
  have bd := bdrewP w
  clear h hQ hu
  go_enter Tryz.func139, Tryz.ntmps139
  go_upto_region 3 with (go_at_call 135; (with_reducible refine HT.out.mono ?_); rintro e w1 ⟨rfl, rfl⟩)
  go_region_held3 (fun V : World => ((V.cell? ⟨g.G, 0, none⟩ = some (.int .i64 (m.t : Int)) ∧ V.cell? ⟨g.G, 1, none⟩ = some (.int .i64 (m.o : Int)) ∧ V.cell? ⟨g.G, 2, none⟩ = some (.int .i64 (m.n : Int))) ∧ V.cell? ⟨g.G, 3, none⟩ = some (cellsV g.C)))
    (first | exact SK.out _ (Below.refl _ _) | exact SK.out _ bd | exact SK.out _ b2 | exact SK.out _ (b2.trans (h3.2.2.mono b2.size)))
    (first
    | (go_at_call 54; (with_reducible refine (HSf.out _).mono ?_); rintro e w2 ⟨rfl, b2'⟩; have b2 := bd.trans b2')
    | (go_at_call 178; (with_reducible refine (HSp.out _ b2.size).mono ?_); rintro e w3 ⟨t, rfl, h3⟩))
  go_wp2
  go_ret
  exact ⟨t, rfl, h3.of b2⟩
theorem call_sleep1 : ∀ (W : World) (args : Array Value), (callFunc 141 args).run Tryz.prog W = .ok (.enter 141 args) W := by
  intro W args
  go_simp
theorem wake_seq (m : Mp) (u : Int) (how : Int) : seqT [spinT (begI m u), retT how] = wakeT m u how := by
  simp only [seqT, bindT_ret, wakeT]
/-- Sleep's closure -/
theorem gsleep1_any (u : Nat) (hu : u < m.t) (how : Int) (bg bt : Nat) (h : GrAt w g m mm k l vo E) (hg : Blk w bg 64 #[grV g]) (ht : Blk w bt 3 #[.int .i64 (u : Int)]) :
    Calls Tryz.prog 141 #[.int .i64 how, pV bg, pV bt] w fun e w' => ∃ t, e = .returned (pV t) ∧ MadeQ (cellOps g.C g.P) w (fun b => w.heap.size ≤ b) (wakeT m u how) t w' := by
  have c0 : w.cell? ⟨bg, 0, none⟩ = some (grV g) := hg.cell 0 _ rfl
  have c1 : w.cell? ⟨bt, 0, none⟩ = some (.int .i64 (u : Int)) := ht.cell 0 _ rfl
  have HB := Lib.hid (gbegin_any u hu h (fun b => w.heap.size ≤ b) (fun k hk => hk))
  have HR := Lib.hid fun V => poReady g.C g.P (fun b => w.heap.size ≤ b) how V
  have HS := Lib.hid fun V t1 t2 (h1 : TaskF (cellOps g.C g.P) V (fun b => w.heap.size ≤ b) (some ⟨t1, 0, none⟩) (spinT (begI m u))) (h2 : TaskF (cellOps g.C g.P) V (fun b => w.heap.size ≤ b) (some ⟨t2, 0, none⟩) (retT how)) (q1 : w.heap.size ≤ t1) (q2 : w.heap.size ≤ t2) (hV : w.heap.size ≤ V.heap.size) => seqT_two (cellOps g.C g.P) (fun b => w.heap.size ≤ b) (spinT (begI m u)) (retT how) t1 t2 V h1 h2 q1 q2 (fun k hk => Nat.le_trans hV hk)
  clear h hg ht hu
  go_enter Tryz.func141, Tryz.ntmps141
  go_wp2_with (first
    | (go_at_call 55; (with_reducible refine HB.out.mono ?_); rintro e w2 ⟨t1, rfl, h1⟩)
    | (go_at_call 102; (with_reducible refine (HR.out _).mono ?_); rintro e w3 ⟨t2, rfl, h2⟩; have b3 := h1.2.2.trans (h2.2.2.mono h1.2.2.size); have HS2 := Lib.hid (HS.out w3 t1 t2 (h1.task.at h2.2.2) h2.task h1.1 (by have := h2.1; have := h1.2.2.size; omega) b3.size))
    | (go_at_call 138; refine HS2.out.mono ?_; rintro e w4 ⟨t, rfl, h4⟩))
  go_ret
  rw [wake_seq] at h4
  exact ⟨t, rfl, h4.of b3⟩
/-- a new task over a ground, of blocks from n0 on -/
def MadeG (g : GrP) (m : Mp) (n0 : Nat) (w : World) (B : Nat → Prop) (s : GS) (T : TrE GOp Ev) (t : Nat) (w' : World) : Prop :=
  w.heap.size ≤ t ∧ ∃ M2 B2, JeF (grH g m) (gOps g m) w' (fun b => (n0 ≤ b ∧ b ≠ t) ∧ ¬ B2 b) M2 (some ⟨t, 0, none⟩) [] T ∧ (grH g m).at' w' B2 s ∧ (∀ b, b < w.heap.size → B2 b → B b) ∧ Keep (fun b => n0 ≤ b ∨ B b) w w' ∧ ¬ B2 t
set_option maxHeartbeats 4000000 in
theorem gsleep_any (u : Nat) (hu : u < m.t) (timed : Bool) (B : Nat → Prop) (s : GS) (hB : (grH g m).at' w B s) :
    Calls Tryz.prog 56 #[grV g, .int .i64 (u : Int), .bool timed] w fun e w' => ∃ t, e = .returned (pV t) ∧ MadeG g m w.heap.size w B s (sleepE m u timed) t w' := by
  have hmf : ∀ (fn : Fn) (first cap : Array Value) (w : World), (Instr.makeFunc fn first cap).run Tryz.prog w = .ok (.func fn first cap) w := fun _ _ _ _ => rfl
  have HB := Lib.hid hB
  have hBl := Lib.hid ((grH g m).lt hB)
  clear hB
  go_enter Tryz.func56, Tryz.ntmps56
  go_upto_region 1 with fail
  generalize hW : ((w.alloc _).alloc _) = W
  have bW : Below w.heap.size w W := by rw [← hW]; go_grown
  have sW : W.heap.size = w.heap.size + 2 := by rw [← hW]; simp
  have q0 : Blk W w.heap.size 64 #[grV g] := by rw [← hW]; exact (Blk.new w _ _).alloc _
  have q1 : Blk W (w.heap.size + 1) 3 #[.int .i64 (u : Int)] := by rw [← hW]; exact blk_two w _ _ _
  clear hW
  have kW : Keep (fun _ => False) w W := Keep.ofBelow bW
  have HBW := Lib.hid ((grH g m).keep HB.out kW (fun _ _ h => h))
  obtain ⟨vo, hG, hBb⟩ := HBW.out
  have HT := Lib.hid (gisT_any u hu hG)
  have HE := Lib.hid fun V (hV : Below W.heap.size W V) => gend_any u hu (hG.below hV) (fun b => w.heap.size ≤ b) (fun k hk => by have := hV.size; omega)
  have HP := Lib.hid fun V (hV : w.heap.size ≤ V.heap.size) => gPark g.C g.P u timed (fun b => w.heap.size ≤ b) V (fun k hk => by omega)
  have HS := Lib.hid fun V t1 t2 (h1 : TaskF (cellOps g.C g.P) V (fun b => w.heap.size ≤ b) (some ⟨t1, 0, none⟩) (putT (safeN m u) 1)) (h2 : TaskF (cellOps g.C g.P) V (fun b => w.heap.size ≤ b) (some ⟨t2, 0, none⟩) (opT (parkN u timed) retT)) (q1 : w.heap.size ≤ t1) (q2 : w.heap.size ≤ t2) (hV : w.heap.size ≤ V.heap.size) => seqT_two (cellOps g.C g.P) (fun b => w.heap.size ≤ b) (putT (safeN m u) 1) (opT (parkN u timed) retT) t1 t2 V h1 h2 q1 q2 (fun k hk => Nat.le_trans hV hk)
  have HTh := Lib.hid fun V t3 (hV : Below W.heap.size W V) (hM : TaskF (cellOps g.C g.P) V (fun b => w.heap.size ≤ b) (some ⟨t3, 0, none⟩) (seqT [putT (safeN m u) 1, opT (parkN u timed) retT])) =>
    gThen (g := g) (m := m) w.heap.size t3 141 #[pV w.heap.size, pV (w.heap.size + 1)] (itE (seqT [putT (safeN m u) 1, opT (parkN u timed) retT])) (fun how => itE (wakeT m u how)) (fun _ => False) (fun b => b = w.heap.size ∨ b = w.heap.size + 1) B s V ((grH g m).keep HBW.out (Keep.ofBelow (Q := fun _ => False) hV) (fun _ _ h => h)) hBl.out (by have := hV.size; omega) (jeF_pure g m hM) (fun b hb => ⟨by omega, by have := hV.size; omega, fun h => h⟩) call_sleep1 (fun v w4 B4 s4 hk hB4 hd => by
      obtain ⟨vo4, hG4, hb4⟩ := id hB4
      refine (gsleep1_any u hu v w.heap.size (w.heap.size + 1) hG4 ((q0.below hV q0.lt).keep hk (fun h => h (.inl rfl))) ((q1.below hV q1.lt).keep hk (fun h => h (.inr rfl)))).mono ?_
      rintro e w5 ⟨t, rfl, h5⟩
      exact AnsE.of hB4 h5)
  have SK := Lib.hid (show ∀ V, Below W.heap.size W V → V.cell? ⟨w.heap.size, 0, none⟩ = some (grV g) ∧ V.cell? ⟨w.heap.size + 1, 0, none⟩ = some (.int .i64 (u : Int)) ∧ V.cell? ⟨g.G, 4, none⟩ = some (permitsV g.P) from fun V hV => ⟨(q0.below hV q0.lt).cell 0 _ rfl, (q1.below hV q1.lt).cell 0 _ rfl, (hG.below hV).c5.2.2⟩)
  have SK5 := Lib.hid (show ∀ V V5 B5 s5, Below W.heap.size W V → (grH g m).at' V5 B5 s5 → Keep (fun b => False ∨ B b) V V5 → V5.cell? ⟨w.heap.size, 0, none⟩ = some (grV g) ∧ V5.cell? ⟨w.heap.size + 1, 0, none⟩ = some (.int .i64 (u : Int)) ∧ V5.cell? ⟨g.G, 4, none⟩ = some (permitsV g.P) from fun V V5 B5 s5 hV h5 hk => by
    obtain ⟨vo5, hG5, _⟩ := h5
    have hn : ∀ b, w.heap.size ≤ b → ¬ (False ∨ B b) := fun b hb h => h.elim id fun h => by have := hBl.out b h; omega
    exact ⟨((q0.below hV q0.lt).keep hk (hn _ (Nat.le_refl _))).cell 0 _ rfl, ((q1.below hV q1.lt).keep hk (hn _ (by omega))).cell 0 _ rfl, hG5.c5.2.2⟩)
  have c0 : W.cell? ⟨w.heap.size, 0, none⟩ = some (grV g) := q0.cell 0 _ rfl
  have c1 : W.cell? ⟨w.heap.size + 1, 0, none⟩ = some (.int .i64 (u : Int)) := q1.cell 0 _ rfl
  have bd := bdrewP W
  clear q0 q1 hG hBb hu
  go_upto_region 3 with (go_at_call 135; (with_reducible refine HT.out.mono ?_); rintro e w1 ⟨rfl, rfl⟩)
  clear c0 c1
  go_region_held3 (fun V : World => V.cell? ⟨w.heap.size, 0, none⟩ = some (grV g) ∧ V.cell? ⟨w.heap.size + 1, 0, none⟩ = some (.int .i64 (u : Int)) ∧ V.cell? ⟨g.G, 4, none⟩ = some (permitsV g.P))
    (first | exact SK.out _ (Below.refl _ _) | exact SK.out _ bd | exact SK.out _ b2 | exact SK.out _ b3 | exact SK.out _ b4 | exact SK.out _ ba | exact hS5)
    (first
    | (go_at_call 139; (with_reducible refine (HE.out _ bd).mono ?_); rintro e w2 ⟨t1, rfl, h1⟩; have b2 := bd.trans (h1.2.2.mono bd.size))
    | (go_at_call 140; (with_reducible refine (HP.out _ (by have := b2.size; omega)).mono ?_); rintro e w3 ⟨t2, rfl, h2⟩; have b3 := b2.trans (h2.2.2.mono b2.size); have HS2 := Lib.hid (HS.out w3 t1 t2 (h1.task.at h2.2.2) h2.task (by have := h1.1; have := bd.size; omega) (by have := h2.1; have := b2.size; omega) (by have := b3.size; omega)); have ba := b3.alloc b3.size (.cells #[pV t1, pV t2] 40))
    | (go_at_call 138; refine HS2.out.mono ?_; rintro e w4 ⟨t3, rfl, h3⟩; have b4 := b3.trans (h3.2.2.mono b3.size); have HT2 := Lib.hid (HTh.out w4 t3 b4 h3.task))
    | (go_at_call 137; refine HT2.out.mono ?_; rintro e w5 ⟨t, M2, B2, l2, R2, rfl, hx⟩; have hS5 := SK5.out w4 w5 B2 _ b4 hx.2.2.1 hx.2.2.2.2.2.1))
  all_goals
    go_wp2
    go_ret
    obtain ⟨k1, k2, k3, k4, k5, k6, k7⟩ := hx
    have e5 := sleepE_eq m u timed
    rw [park_eq] at e5
    rw [e5] at k5
    obtain ⟨rfl, rfl⟩ := emE_root k2 k5
    rw [(grH g m).nil] at k3
    have hs4 := b4.size
    exact ⟨t, rfl, by omega, M2, B2, k2, k3, fun b hb h => k4 b (by omega) h, (Keep.ofBelow (bW.trans (b4.mono (by omega)))).step k6 (fun i hi h => h.elim False.elim .inr), k7⟩
end
end Go.Proofs.YtldofbkjjmnooaaGreat
/- Package pool: Take and Back. -/
namespace Go.Proofs.YtldofbkjjmnooaaGreat
open Go.ChangeShapes Go.WideShapes Go.ChangeAt Go.RowKit
set_option linter.unusedVariables false
set_option maxRecDepth 100000
set_option linter.unusedSimpArgs false
/-- Back's work behind the load of the generation -/
def backK (m : Mp) (n : Int) (v : Int) : Tre Itm := if 4095 ≤ IntKind.u64.wrap v then retT 0 else seqT [mvT 1 (linkN m n), putT 1 (n + 1), retT 1]
def backB (m : Mp) (n : Int) : Tre Itm := opT (loadI (genN m n)) (backK m n)
theorem call_back11 : ∀ (W : World) (args : Array Value), (callFunc 198 args).run Tryz.prog W = .ok (.enter 198 args) W := by
  intro W args
  go_simp
theorem call_back1 : ∀ (W : World) (args : Array Value), (callFunc 197 args).run Tryz.prog W = .ok (.enter 197 args) W := by
  intro W args
  go_simp
set_option maxHeartbeats 4000000 in
theorem back11_any (C P : Nat) (m : Mp) (Q : Nat → Prop) (n v : Int) (bs bn : Nat) (w : World) (hm : m.ok) (hn : 0 ≤ n ∧ n < m.n) (hs : Blk w bs 170 (stockCs C m)) (hb : Blk w bn 3 #[.int .i64 n]) (hQ : ∀ k, w.heap.size ≤ k → Q k) :
    Calls Tryz.prog 198 #[.int .i64 v, pV bs, pV bn] w fun e w' => ∃ t, e = .returned (pV t) ∧ MadeQ (cellOps C P) w Q (backK m n v) t w' := by
  have hu := u64_range v
  have hmn := hm.n
  have HX := Lib.hid fun V => link_any m n V hm ⟨hn.1, by omega⟩
  have HH := Lib.hid fun V => head_any m V
  have HK := Lib.hid fun V => pmark_any n V (by omega)
  have SK := Lib.hid (show ∀ V, Below w.heap.size w V → (V.cell? ⟨bs, 0, none⟩ = some (cellsV C) ∧ V.cell? ⟨bs, 1, none⟩ = some (.int .i64 (m.t : Int)) ∧ V.cell? ⟨bs, 2, none⟩ = some (.int .i64 (m.o : Int)) ∧ V.cell? ⟨bs, 3, none⟩ = some (.int .i64 (m.n : Int))) ∧ V.cell? ⟨bn, 0, none⟩ = some (.int .i64 n) from fun V hk => ⟨stock4 (hs.below hk hs.lt), (hb.below hk hb.lt).cell 0 _ rfl⟩)
  have HQ := Lib.hid hQ
  unfold backK
  clear hs hb hQ hm hmn hn hu
  by_cases hv : 4095 ≤ IntKind.u64.wrap v
  · go_enter Tryz.func198, Tryz.ntmps198
    go_wp2_with (go_at_call 102; refine (poReady C P Q 0 _).mono ?_; rintro e w2 ⟨t', rfl, h1⟩)
    go_ret
    exact ⟨t', rfl, h1⟩
  · have HMv := Lib.hid fun V (hV : Below w.heap.size w V) => move_any C P m Q 1 (linkN m n) V (fun k hk => HQ.out k (by have := hV.size; omega)) (aI := 1) rfl rfl
    have HS := Lib.hid fun V (hV : Below w.heap.size w V) => (show Calls Tryz.prog 178 #[cellsV C, .int .i64 1, .int .u64 (n + 1)] V fun e w' => ∃ t, e = .returned (pV t) ∧ MadeQ (cellOps C P) V Q (putT 1 (n + 1)) t w' from poStore C P Q 1 (n + 1) V (fun k hk => HQ.out k (by have := hV.size; omega)))
    have HR := Lib.hid fun V => poReady C P Q 1 V
    have HSQ := Lib.hid fun V t1 t2 t3 (hV : Below w.heap.size w V) h1 h2 h3 q1 q2 q3 => seqT_three (cellOps C P) Q (mvT 1 (linkN m n)) (putT 1 (n + 1)) (retT 1) t1 t2 t3 V h1 h2 h3 q1 q2 q3 (fun k hk => HQ.out k (by have := hV.size; omega))
    have bd : Below w.heap.size w w.drew := bdrewP w
    go_enter Tryz.func198, Tryz.ntmps198
    go_upto_region 3 with fail
    go_region_held3 (fun V => (V.cell? ⟨bs, 0, none⟩ = some (cellsV C) ∧ V.cell? ⟨bs, 1, none⟩ = some (.int .i64 (m.t : Int)) ∧ V.cell? ⟨bs, 2, none⟩ = some (.int .i64 (m.o : Int)) ∧ V.cell? ⟨bs, 3, none⟩ = some (.int .i64 (m.n : Int))) ∧ V.cell? ⟨bn, 0, none⟩ = some (.int .i64 n)) (first | exact SK.out _ b9 | exact SK.out _ bA | exact SK.out _ b7 | exact SK.out _ b6 | exact SK.out _ b5 | exact SK.out _ b4 | exact SK.out _ b3 | exact SK.out _ b2 | exact SK.out _ bd) (first
      | (go_at_call 36; (with_reducible refine (HH.out _).mono ?_); rintro e w2 ⟨rfl, hb2⟩; have b2 : Below w.heap.size w w2 := bd.trans (hb2.mono bd.size))
      | (go_at_call 47; (with_reducible refine (HX.out _).mono ?_); rintro e w3 ⟨rfl, hb3⟩; have b3 : Below w.heap.size w w3 := b2.trans (hb3.mono b2.size); have HMv2 := Lib.hid (HMv.out w3 b3))
      | (go_at_call 196; (with_reducible refine HMv2.out.mono ?_); rintro e w4 ⟨t1, rfl, hM1⟩; have b4 : Below w.heap.size w w4 := b3.trans (hM1.2.2.mono b3.size); have HH2 := Lib.hid (HH.out w4))
      | (go_at_call 36; (with_reducible refine HH2.out.mono ?_); rintro e w5 ⟨rfl, hb5⟩; have b5 : Below w.heap.size w w5 := b4.trans (hb5.mono b4.size); have HS2 := Lib.hid (HS.out w5 b5))
      | (go_at_call 114; (with_reducible refine (HK.out _).mono ?_); rintro e w5b ⟨rfl, rfl⟩)
      | (go_at_call 178; (with_reducible refine HS2.out.mono ?_); rintro e w6 ⟨t2, rfl, hM2⟩; have b6 : Below w.heap.size w w6 := b5.trans (hM2.2.2.mono b5.size); have HR2 := Lib.hid (HR.out w6))
      | (go_at_call 102; (with_reducible refine HR2.out.mono ?_); rintro e w7 ⟨t3, rfl, hM3⟩; have b7 : Below w.heap.size w w7 := b6.trans (hM3.2.2.mono b6.size); have b47 : Below w4.heap.size w4 w7 := (hb5.trans (hM2.2.2.mono hb5.size)).trans (hM3.2.2.mono (Nat.le_trans hb5.size hM2.2.2.size)); have HSQ2 := Lib.hid (HSQ.out w7 t1 t2 t3 b7 (hM1.task.at b47) (hM2.task.at hM3.2.2) hM3.task (HQ.out _ (by have := b3.size; have := hM1.1; omega)) (HQ.out _ (by have := b5.size; have := hM2.1; omega)) (HQ.out _ (by have := b6.size; have := hM3.1; omega))); have bA : Below w.heap.size w (w7.alloc (.cells #[pV t1, pV t2, pV t3] 40)) := b7.trans (((Below.refl _ w7).alloc (Nat.le_refl _) _).mono b7.size))
      | (go_at_call 138; (with_reducible refine HSQ2.out.mono ?_); rintro e w9 ⟨t4, rfl, hM4⟩; have b9 : Below w.heap.size w w9 := b7.trans (hM4.2.2.mono b7.size)))
    all_goals go_wp2
    all_goals go_ret
    all_goals exact ⟨t4, rfl, hM4.of b7⟩
set_option maxHeartbeats 2000000 in
theorem take1_any (C P : Nat) (m : Mp) (Q : Nat → Prop) (bs : Nat) (w : World) (hm : m.ok) (hs : Blk w bs 170 (stockCs C m)) (hqs : Q bs) (hQ : ∀ k, w.heap.size ≤ k → Q k) :
    Calls Tryz.prog 192 #[pV bs] w fun e w' => ∃ t, e = .returned (pV t) ∧ MadeQ (cellOps C P) w Q (takeB m) t w' := by
  have hmf : ∀ (fn : Fn) (first cap : Array Value) (w : World), (Instr.makeFunc fn first cap).run Tryz.prog w = .ok (.func fn first cap) w := fun _ _ _ _ => rfl
  have HH := Lib.hid fun V => head_any m V
  have SK := Lib.hid (show ∀ V, Below w.heap.size w V → (V.cell? ⟨bs, 0, none⟩ = some (cellsV C) ∧ V.cell? ⟨bs, 1, none⟩ = some (.int .i64 (m.t : Int)) ∧ V.cell? ⟨bs, 2, none⟩ = some (.int .i64 (m.o : Int)) ∧ V.cell? ⟨bs, 3, none⟩ = some (.int .i64 (m.n : Int))) from fun V hk => stock4 (hs.below hk hs.lt))
  have HQ := Lib.hid hQ
  have HL := Lib.hid fun V (hV : Below w.heap.size w V) => (show Calls Tryz.prog 193 #[cellsV C, .int .i64 1] V fun e w' => ∃ t, e = .returned (pV t) ∧ MadeQ (cellOps C P) V Q (opT (loadI 1) retT) t w' from poLoad C P Q 1 V (fun k hk => HQ.out k (by have := hV.size; omega)))
  have HT := Lib.hid fun w2 t1 (hV : Below w.heap.size w w2) hM => poThen C P Q t1 194 #[pV bs] (opT (loadI 1) retT) (takeK m) w2 hM (fun k hk => HQ.out k (by have := hV.size; omega)) call_take11 (fun v w4 hk => take11_any C P m _ v bs w4 hm ((hs.below hV hs.lt).keep hk (fun h => h ⟨hqs, Nat.lt_of_lt_of_le hs.lt hV.size⟩)) (fun k hk => hk))
  have bd := bdrewP w
  clear hs hQ hm hqs
  go_enter Tryz.func192, Tryz.ntmps192
  go_upto_region 1 with fail
  go_region_held3 (fun V => V.cell? ⟨bs, 0, none⟩ = some (cellsV C) ∧ V.cell? ⟨bs, 1, none⟩ = some (.int .i64 (m.t : Int)) ∧ V.cell? ⟨bs, 2, none⟩ = some (.int .i64 (m.o : Int)) ∧ V.cell? ⟨bs, 3, none⟩ = some (.int .i64 (m.n : Int))) (first | exact SK.out _ b5 | exact SK.out _ b4 | exact SK.out _ b3 | exact SK.out _ b2 | exact SK.out _ bd) (first
    | (go_at_call 36; (with_reducible refine (HH.out _).mono ?_); rintro e w2 ⟨rfl, hb2⟩; have b2 : Below w.heap.size w w2 := bd.trans hb2; have HL2 := Lib.hid (HL.out w2 b2))
    | (go_at_call 193; (with_reducible refine HL2.out.mono ?_); rintro e w3 ⟨t1, rfl, hM1⟩; have b3 : Below w.heap.size w w3 := b2.trans (hM1.2.2.mono b2.size); have HT2 := Lib.hid (HT.out w3 t1 b3 hM1.task))
    | (go_at_call 137; (with_reducible refine HT2.out.mono ?_); rintro e w4 ⟨t2, rfl, hM2⟩; have b4 : Below w.heap.size w w4 := b3.trans (hM2.2.2.mono b3.size)))
  all_goals go_wp2
  all_goals go_ret
  all_goals rw [bind_load] at hM2
  all_goals exact ⟨t2, rfl, hM2.of b3⟩
set_option maxHeartbeats 2000000 in
theorem back1_any (C P : Nat) (m : Mp) (Q : Nat → Prop) (n : Int) (bs bn : Nat) (w : World) (hm : m.ok) (hn : 0 ≤ n ∧ n < m.n) (hs : Blk w bs 170 (stockCs C m)) (hb : Blk w bn 3 #[.int .i64 n]) (hqs : Q bs) (hqb : Q bn) (hQ : ∀ k, w.heap.size ≤ k → Q k) :
    Calls Tryz.prog 197 #[pV bs, pV bn] w fun e w' => ∃ t, e = .returned (pV t) ∧ MadeQ (cellOps C P) w Q (backB m n) t w' := by
  have hmf : ∀ (fn : Fn) (first cap : Array Value) (w : World), (Instr.makeFunc fn first cap).run Tryz.prog w = .ok (.func fn first cap) w := fun _ _ _ _ => rfl
  have hmn := hm.n
  have HG := Lib.hid fun V => gen_any m n V hm ⟨hn.1, by omega⟩
  have SK := Lib.hid (show ∀ V, Below w.heap.size w V → (V.cell? ⟨bs, 0, none⟩ = some (cellsV C) ∧ V.cell? ⟨bs, 1, none⟩ = some (.int .i64 (m.t : Int)) ∧ V.cell? ⟨bs, 2, none⟩ = some (.int .i64 (m.o : Int)) ∧ V.cell? ⟨bs, 3, none⟩ = some (.int .i64 (m.n : Int))) ∧ V.cell? ⟨bn, 0, none⟩ = some (.int .i64 n) from fun V hk => ⟨stock4 (hs.below hk hs.lt), (hb.below hk hb.lt).cell 0 _ rfl⟩)
  have HQ := Lib.hid hQ
  have HL := Lib.hid fun V (hV : Below w.heap.size w V) => poLoad C P Q (genN m n) V (fun k hk => HQ.out k (by have := hV.size; omega))
  have HT := Lib.hid fun w2 t1 (hV : Below w.heap.size w w2) hM => poThen C P Q t1 198 #[pV bs, pV bn] (opT (loadI (genN m n)) retT) (backK m n) w2 hM (fun k hk => HQ.out k (by have := hV.size; omega)) call_back11 (fun v w4 hk => back11_any C P m _ n v bs bn w4 hm hn ((hs.below hV hs.lt).keep hk (fun h => h ⟨hqs, Nat.lt_of_lt_of_le hs.lt hV.size⟩)) ((hb.below hV hb.lt).keep hk (fun h => h ⟨hqb, Nat.lt_of_lt_of_le hb.lt hV.size⟩)) (fun k hk => hk))
  have bd := bdrewP w
  clear hs hb hQ hm hqs hqb hmn hn
  go_enter Tryz.func197, Tryz.ntmps197
  go_upto_region 1 with fail
  go_region_held3 (fun V => (V.cell? ⟨bs, 0, none⟩ = some (cellsV C) ∧ V.cell? ⟨bs, 1, none⟩ = some (.int .i64 (m.t : Int)) ∧ V.cell? ⟨bs, 2, none⟩ = some (.int .i64 (m.o : Int)) ∧ V.cell? ⟨bs, 3, none⟩ = some (.int .i64 (m.n : Int))) ∧ V.cell? ⟨bn, 0, none⟩ = some (.int .i64 n)) (first | exact SK.out _ b5 | exact SK.out _ b4 | exact SK.out _ b3 | exact SK.out _ b2 | exact SK.out _ bd) (first
    | (go_at_call 112; (with_reducible refine (HG.out _).mono ?_); rintro e w2 ⟨rfl, hb2⟩; have b2 : Below w.heap.size w w2 := bd.trans hb2; have HL2 := Lib.hid (HL.out w2 b2))
    | (go_at_call 193; (with_reducible refine HL2.out.mono ?_); rintro e w3 ⟨t1, rfl, hM1⟩; have b3 : Below w.heap.size w w3 := b2.trans (hM1.2.2.mono b2.size); have HT2 := Lib.hid (HT.out w3 t1 b3 hM1.task))
    | (go_at_call 137; (with_reducible refine HT2.out.mono ?_); rintro e w4 ⟨t2, rfl, hM2⟩; have b4 : Below w.heap.size w w4 := b3.trans (hM2.2.2.mono b3.size)))
  all_goals go_wp2
  all_goals go_ret
  all_goals rw [bind_load] at hM2
  all_goals exact ⟨t2, rfl, hM2.of b3⟩
/-- under the latch -/
theorem under_any (C P : Nat) (m : Mp) (Q : Nat → Prop) (t : Int) (F : Nat) (caps : Array Value) (B : Tre Itm) (w : World) (hB : BodyIs (cellOps C P) w Q (cloV F caps) B) (hQ : ∀ k, w.heap.size ≤ k → Q k) :
    Calls Tryz.prog 191 #[stockV C m, .int .i64 t, cloV F caps] w fun e w' => ∃ k, e = .returned (pV k) ∧ MadeT (cellOps C P) w Q (guardT 0 t B) k w' := by
  have HL := Lib.hid fun V => latch_any m V
  have HQ := Lib.hid hQ
  have HG := Lib.hid fun V (hV : Below w.heap.size w V) => guard_any C P Q 0 t (cloV F caps) B V (.inr ⟨_, _, rfl⟩) (hB.later (Keep.ofBelow hV) (fun _ _ h => h)) (fun k hk => HQ.out k (by have := hV.size; omega))
  clear hB hQ
  go_enter Tryz.func191, Tryz.ntmps191
  go_upto_region 1 with fail
  generalize hW : (w.alloc _) = W
  have bW : Below w.heap.size w W := by rw [← hW]; go_grown
  have q0 : Blk W w.heap.size 170 (stockCs C m) := by rw [← hW]; exact Blk.new w _ _
  clear hW
  have hl := q0.lt
  have SK := Lib.hid (show ∀ V, Below W.heap.size W V → (V.cell? ⟨w.heap.size, 0, none⟩ = some (cellsV C) ∧ V.cell? ⟨w.heap.size, 1, none⟩ = some (.int .i64 (m.t : Int)) ∧ V.cell? ⟨w.heap.size, 2, none⟩ = some (.int .i64 (m.o : Int)) ∧ V.cell? ⟨w.heap.size, 3, none⟩ = some (.int .i64 (m.n : Int))) from fun V hk => stock4 (q0.below hk hl))
  have bd := bdrewP W
  clear q0
  go_region_held3 (fun V => V.cell? ⟨w.heap.size, 0, none⟩ = some (cellsV C) ∧ V.cell? ⟨w.heap.size, 1, none⟩ = some (.int .i64 (m.t : Int)) ∧ V.cell? ⟨w.heap.size, 2, none⟩ = some (.int .i64 (m.o : Int)) ∧ V.cell? ⟨w.heap.size, 3, none⟩ = some (.int .i64 (m.n : Int))) (first | exact SK.out _ b3 | exact SK.out _ b2 | exact SK.out _ bd) (first
    | (go_at_call 276; (with_reducible refine (HL.out _).mono ?_); rintro e w2 ⟨rfl, hb2⟩; have b2 : Below W.heap.size W w2 := bd.trans hb2; have HG2 := Lib.hid (HG.out w2 (bW.trans (b2.mono bW.size))))
    | (go_at_call 275; refine HG2.out.mono ?_; rintro e w3 ⟨k, rfl, hM⟩; have b3 : Below W.heap.size W w3 := b2.trans (hM.2.2.mono b2.size)))
  all_goals go_wp2
  all_goals go_ret
  all_goals exact ⟨k, rfl, hM.from (bW.trans (b2.mono bW.size))⟩
theorem stake_any (C P : Nat) (m : Mp) (Q : Nat → Prop) (t : Int) (w : World) (hm : m.ok) (hQ : ∀ k, w.heap.size ≤ k → Q k) :
    Calls Tryz.prog 116 #[stockV C m, .int .i64 t] w fun e w' => ∃ k, e = .returned (pV k) ∧ MadeT (cellOps C P) w Q (guardT 0 t (takeB m)) k w' := by
  have hmf : ∀ (fn : Fn) (first cap : Array Value) (w : World), (Instr.makeFunc fn first cap).run Tryz.prog w = .ok (.func fn first cap) w := fun _ _ _ _ => rfl
  have HQ := Lib.hid hQ
  clear hQ
  go_enter Tryz.func116, Tryz.ntmps116
  go_upto_region 1 with fail
  generalize hW : (w.alloc _) = W
  have bW : Below w.heap.size w W := by rw [← hW]; go_grown
  have q0 : Blk W w.heap.size 170 (stockCs C m) := by rw [← hW]; exact Blk.new w _ _
  clear hW
  have sW := bW.size
  obtain ⟨d0, d1, d2, d3⟩ := stock4 q0
  have HU := Lib.hid (under_any C P m Q t 192 #[pV w.heap.size] (takeB m) W (by
    intro V hV
    have qa := HQ.out w.heap.size (Nat.le_refl _)
    have hlt := q0.lt
    refine called_some 192 _ V _ call_take1 ((take1_any C P m (fun b => (Q b ∧ b < W.heap.size) ∨ V.heap.size ≤ b) w.heap.size V hm (q0.keep hV (fun h => h qa)) (.inl ⟨qa, hlt⟩) (fun k hk => .inr hk)).mono ?_)
    rintro e V' ⟨t', rfl, hM⟩
    exact ⟨some ⟨t', 0, none⟩, rfl, hM.2.2, hM.task, fun j e => by injection e with e; injection e with e; rw [← e]; exact .inr hM.1⟩) (fun k hk => HQ.out k (by omega)))
  clear q0
  go_wp2_with (go_at_call 191; refine HU.out.mono ?_; rintro e w2 ⟨k, rfl, hM⟩)
  go_ret
  exact ⟨k, rfl, hM.from bW⟩
theorem sback_any (C P : Nat) (m : Mp) (Q : Nat → Prop) (t n : Int) (w : World) (hm : m.ok) (hn : 0 ≤ n ∧ n < m.n) (hQ : ∀ k, w.heap.size ≤ k → Q k) :
    Calls Tryz.prog 117 #[stockV C m, .int .i64 t, .int .i64 n] w fun e w' => ∃ k, e = .returned (pV k) ∧ MadeT (cellOps C P) w Q (guardT 0 t (backB m n)) k w' := by
  have hmf : ∀ (fn : Fn) (first cap : Array Value) (w : World), (Instr.makeFunc fn first cap).run Tryz.prog w = .ok (.func fn first cap) w := fun _ _ _ _ => rfl
  have HQ := Lib.hid hQ
  clear hQ
  go_enter Tryz.func117, Tryz.ntmps117
  go_upto_region 1 with fail
  generalize hW : ((w.alloc _).alloc _) = W
  have bW : Below w.heap.size w W := by rw [← hW]; go_grown
  have sW : W.heap.size = w.heap.size + 2 := by rw [← hW]; simp
  have q0 : Blk W w.heap.size 170 (stockCs C m) := by rw [← hW]; exact (Blk.new w _ _).alloc _
  have q1 : Blk W (w.heap.size + 1) 3 #[.int .i64 n] := by rw [← hW]; exact blk_two w _ _ _
  clear hW
  obtain ⟨d0, d1, d2, d3⟩ := stock4 q0
  have HU := Lib.hid (under_any C P m Q t 197 #[pV w.heap.size, pV (w.heap.size + 1)] (backB m n) W (by
    intro V hV
    have qa := HQ.out w.heap.size (Nat.le_refl _)
    have qb := HQ.out (w.heap.size + 1) (by omega)
    refine called_some 197 _ V _ call_back1 ((back1_any C P m (fun b => (Q b ∧ b < W.heap.size) ∨ V.heap.size ≤ b) n w.heap.size (w.heap.size + 1) V hm hn (q0.keep hV (fun h => h qa)) (q1.keep hV (fun h => h qb)) (.inl ⟨qa, q0.lt⟩) (.inl ⟨qb, q1.lt⟩) (fun k hk => .inr hk)).mono ?_)
    rintro e V' ⟨t', rfl, hM⟩
    exact ⟨some ⟨t', 0, none⟩, rfl, hM.2.2, hM.task, fun j e => by injection e with e; injection e with e; rw [← e]; exact .inr hM.1⟩) (fun k hk => HQ.out k (by omega)))
  clear q0 q1 sW
  go_wp2_with (go_at_call 191; refine HU.out.mono ?_; rintro e w2 ⟨k, rfl, hM⟩)
  go_ret
  exact ⟨k, rfl, hM.from bW⟩
def takeT (m : Mp) (t : Int) : Tre Itm := guardT 0 t (takeB m)
def backT (m : Mp) (t n : Int) : Tre Itm := guardT 0 t (backB m n)
theorem ptake_any (C P : Nat) (m : Mp) (Q : Nat → Prop) (t : Int) (N : Nat) (w : World) (hm : m.ok) (ht : 0 ≤ t) (hN : sizeN m ≤ N) (hL : ∀ W, Below w.heap.size w W → Calls Tryz.prog 101 #[cellsV C] W fun e w' => e = .returned (.int .i64 (N : Int)) ∧ Below W.heap.size W w') (hQ : ∀ k, w.heap.size ≤ k → Q k) :
    Calls Tryz.prog 34 #[cellsV C, mapV m, .int .i64 t] w fun e w' => ∃ k, e = .returned (pV k) ∧ MadeT (cellOps C P) w Q (takeT m t) k w' := by
  have HQ := Lib.hid hQ
  have HO := Lib.hid fun V (hV : Below w.heap.size w V) => popen_yes (cellsV C) m t N V hm ht hN (fun W hW => hL W (hV.trans (hW.mono hV.size)))
  have HS := Lib.hid fun V (hV : Below w.heap.size w V) => stake_any C P m Q t V hm (fun k hk => HQ.out k (by have := hV.size; omega))
  clear hQ hm hL
  go_enter Tryz.func34, Tryz.ntmps34
  go_upto_region 1 with fail
  generalize hW : (w.alloc _) = W
  have bW : Below w.heap.size w W := by rw [← hW]; go_grown
  have m0 : Blk W w.heap.size 24 #[.int .i64 (m.t : Int), .int .i64 (m.o : Int), .int .i64 (m.n : Int)] := by rw [← hW]; exact Blk.new w _ _
  clear hW
  have c0 := m0.cell 0 _ rfl
  have c1 := m0.cell 1 _ rfl
  have c2 := m0.cell 2 _ rfl
  have HO1 := Lib.hid (HO.out W bW)
  go_wp2_with (first
    | (go_at_call 115; refine HO1.out.mono ?_; rintro e w2 ⟨rfl, b2⟩; have m2 := m0.below b2 m0.lt; clear c0 c1 c2; have c0 := m2.cell 0 _ rfl; have c1 := m2.cell 1 _ rfl; have c2 := m2.cell 2 _ rfl; have HS2 := Lib.hid (HS.out w2 (bW.trans (b2.mono bW.size))))
    | (go_at_call 116; refine HS2.out.mono ?_; rintro e w3 ⟨k, rfl, hM⟩))
  go_ret
  exact ⟨k, rfl, hM.from (bW.trans (b2.mono bW.size))⟩
theorem pback_any (C P : Nat) (m : Mp) (Q : Nat → Prop) (t n : Int) (N : Nat) (w : World) (hm : m.ok) (ht : 0 ≤ t) (hn : 0 ≤ n ∧ n < m.n) (hN : sizeN m ≤ N) (hL : ∀ W, Below w.heap.size w W → Calls Tryz.prog 101 #[cellsV C] W fun e w' => e = .returned (.int .i64 (N : Int)) ∧ Below W.heap.size W w') (hQ : ∀ k, w.heap.size ≤ k → Q k) :
    Calls Tryz.prog 35 #[cellsV C, mapV m, .int .i64 t, .int .i64 n] w fun e w' => ∃ k, e = .returned (pV k) ∧ MadeT (cellOps C P) w Q (backT m t n) k w' := by
  have HQ := Lib.hid hQ
  have HO := Lib.hid fun V (hV : Below w.heap.size w V) => popen_yes (cellsV C) m t N V hm ht hN (fun W hW => hL W (hV.trans (hW.mono hV.size)))
  have HS := Lib.hid fun V (hV : Below w.heap.size w V) => sback_any C P m Q t n V hm hn (fun k hk => HQ.out k (by have := hV.size; omega))
  have hn1 := hn.1
  have hn2 := hn.2
  clear hQ hm hL hn
  go_enter Tryz.func35, Tryz.ntmps35
  go_upto_region 1 with fail
  generalize hW : (w.alloc _) = W
  have bW : Below w.heap.size w W := by rw [← hW]; go_grown
  have m0 : Blk W w.heap.size 24 #[.int .i64 (m.t : Int), .int .i64 (m.o : Int), .int .i64 (m.n : Int)] := by rw [← hW]; exact Blk.new w _ _
  clear hW
  have c0 := m0.cell 0 _ rfl
  have c1 := m0.cell 1 _ rfl
  have c2 := m0.cell 2 _ rfl
  have HO1 := Lib.hid (HO.out W bW)
  go_wp2_with (first
    | (go_at_call 115; refine HO1.out.mono ?_; rintro e w2 ⟨rfl, b2⟩; have m2 := m0.below b2 m0.lt; clear c0 c1 c2; have c0 := m2.cell 0 _ rfl; have c1 := m2.cell 1 _ rfl; have c2 := m2.cell 2 _ rfl; have HS2 := Lib.hid (HS.out w2 (bW.trans (b2.mono bW.size))))
    | (go_at_call 117; refine HS2.out.mono ?_; rintro e w3 ⟨k, rfl, hM⟩))
  go_ret
  exact ⟨k, rfl, hM.from (bW.trans (b2.mono bW.size))⟩
end Go.Proofs.YtldofbkjjmnooaaGreat
/- Layer 10: what a queue is in cells, and what its changes come to; no program is named here. 'nx t' is the cell Next of thread t; f reads the cells. -/
namespace Go.Proofs.YtldofbkjjmnooaaGreat
set_option linter.unusedVariables false
set_option linter.unusedSimpArgs false
/-- the first of a row, in the cells' form -/
def headOf : List Int → Int
  | [] => 0
  | t :: _ => t + 1
def lastOf (l : List Int) : Int := headOf l.reverse
theorem headOf_zero {l : List Int} (h : ∀ t ∈ l, 0 ≤ t) : headOf l = 0 ↔ l = [] := by
  cases l with
  | nil => simp [headOf]
  | cons t r =>
    have := h t (by simp)
    simp [headOf]; omega
theorem lastOf_zero {l : List Int} (h : ∀ t ∈ l, 0 ≤ t) : lastOf l = 0 ↔ l = [] := by
  rw [lastOf, headOf_zero (by simpa using h)]; simp
theorem lastOf_snoc (l : List Int) (t : Int) : lastOf (l ++ [t]) = t + 1 := by simp [lastOf, headOf]
theorem headOf_append {l : List Int} (h : l ≠ []) (r : List Int) : headOf (l ++ r) = headOf l := by
  cases l with
  | nil => exact absurd rfl h
  | cons t l => rfl
theorem lastOf_append {r : List Int} (h : r ≠ []) (l : List Int) : lastOf (l ++ r) = lastOf r := by
  rw [lastOf, List.reverse_append, headOf_append (by simpa using h)]; rfl
/-- a queue at cell a -/
structure QIs (nx : Int → Nat) (f : Nat → Int) (a : Nat) (l : List Int) : Prop where
  first : f a = headOf l
  last : f (a + 1) = lastOf l
  next : ∀ p t s, l = p ++ t :: s → f (nx t) = headOf s
theorem QIs.nil {nx : Int → Nat} {f : Nat → Int} {a : Nat} (h : f a = 0) (h1 : f (a + 1) = 0) : QIs nx f a [] :=
  ⟨h, h1, fun p t s e => by simp at e⟩
/-- cells that are not its own -/
theorem QIs.congr {nx : Int → Nat} {f g : Nat → Int} {a : Nat} {l : List Int} (h : QIs nx f a l) (h1 : g a = f a) (h2 : g (a + 1) = f (a + 1)) (h3 : ∀ t ∈ l, g (nx t) = f (nx t)) : QIs nx g a l :=
  ⟨h1.trans h.first, h2.trans h.last, fun p t s e => (h3 t (by rw [e]; simp)).trans (h.next p t s e)⟩
theorem QIs.push {nx : Int → Nat} {f g : Nat → Int} {a : Nat} {l : List Int} {t : Int} (h : QIs nx f a l) (h1 : g a = headOf (l ++ [t])) (h2 : g (a + 1) = t + 1) (h3 : g (nx t) = 0)
    (h4 : ∀ p u, l = p ++ [u] → g (nx u) = t + 1) (h5 : ∀ p u s, l = p ++ u :: s → s ≠ [] → g (nx u) = f (nx u)) : QIs nx g a (l ++ [t]) := by
  refine ⟨h1, by rw [h2, lastOf_snoc], fun p u s e => ?_⟩
  rcases List.eq_nil_or_concat s with rfl | ⟨s', z, rfl⟩
  · obtain ⟨_, e2⟩ := List.append_inj' e rfl
    obtain rfl : t = u := by simpa using e2
    exact h3
  · rw [List.concat_eq_append] at e ⊢
    rw [show p ++ u :: (s' ++ [z]) = (p ++ u :: s') ++ [z] by simp] at e
    obtain ⟨e1, e2⟩ := List.append_inj' e rfl
    obtain rfl : t = z := by simpa using e2
    by_cases hs : s' = []
    · subst hs
      exact h4 p u e1
    · rw [h5 p u s' e1 hs, h.next p u s' e1, headOf_append hs]
theorem QIs.pop {nx : Int → Nat} {f g : Nat → Int} {a : Nat} {r : List Int} {t : Int} (h : QIs nx f a (t :: r)) (h1 : g a = headOf r) (h2 : g (a + 1) = lastOf r) (h3 : ∀ u ∈ r, g (nx u) = f (nx u)) : QIs nx g a r :=
  ⟨h1, h2, fun p u s e => (h3 u (by rw [e]; simp)).trans (h.next (t :: p) u s (by rw [e]; rfl))⟩
theorem QIs.remove {nx : Int → Nat} {f g : Nat → Int} {a : Nat} {p s : List Int} {t : Int} (h : QIs nx f a (p ++ t :: s)) (h1 : g a = headOf (p ++ s)) (h2 : g (a + 1) = lastOf (p ++ s))
    (h3 : ∀ q u, p = q ++ [u] → g (nx u) = headOf s) (h4 : ∀ q u r, p = q ++ u :: r → r ≠ [] → g (nx u) = f (nx u)) (h5 : ∀ u ∈ s, g (nx u) = f (nx u)) : QIs nx g a (p ++ s) := by
  refine ⟨h1, h2, fun q u r e => ?_⟩
  rcases List.append_eq_append_iff.1 e with ⟨a', e1, e2⟩ | ⟨c', e1, e2⟩
  · -- u lies in s
    rw [h5 u (by rw [e2]; simp)]
    refine h.next (p ++ t :: a') u r ?_
    rw [e2]; simp
  · cases c' with
    | nil =>
      simp at e1 e2
      rw [h5 u (by rw [← e2]; simp)]
      exact h.next (p ++ [t]) u r (by rw [← e2]; simp)
    | cons x c' =>
      simp at e2
      obtain ⟨rfl, rfl⟩ := e2
      by_cases hc : c' = []
      · subst hc
        simpa using h3 q u e1
      · rw [h4 q u c' e1 hc, h.next q u (c' ++ t :: s) (by rw [e1]; simp), headOf_append hc, headOf_append hc]
/-- where a walk stands -/
theorem QIs.walk {nx : Int → Nat} {f : Nat → Int} {a k : Nat} {l : List Int} {t : Int} (h : QIs nx f a l) (hk : l[k]? = some t) : headOf (l.drop k) = t + 1 ∧ f (nx t) = headOf (l.drop (k + 1)) := by
  obtain ⟨hlt, e⟩ := List.getElem?_eq_some_iff.1 hk
  have e1 : l.drop k = t :: l.drop (k + 1) := by rw [List.drop_eq_getElem_cons hlt, e]
  refine ⟨by rw [e1]; rfl, h.next (l.take k) t _ ?_⟩
  rw [← e1, List.take_append_drop]
/-- cells read from a row of numbers -/
def rdL (m : List Int) (i : Nat) : Int := (m[i]?).getD 0
theorem rdL_set (m : List Int) (i j : Nat) (v : Int) (h : i < m.length) : rdL (m.set i v) j = if j = i then v else rdL m j := by
  unfold rdL
  rw [List.getElem?_set]
  by_cases e : i = j
  · subst e; simp [h]
  · simp [e, Ne.symm e]
end Go.Proofs.YtldofbkjjmnooaaGreat
