/- Layer 10's laws: works; QueueKnown. Written by tools/gen_qknown.py. -/
import Derived.Test.YtldofbkjjmnooaaGreatMgQTLK
import Derived.Test.YtldofbkjjmnooaaGreatMgQTLE
import Derived.Test.YtldofbkjjmnooaaGreatProg
import Derived.WalkKit
import Derived.ProofKit
import Derived.OpenShut
import Derived.Below
import Derived.Deep.Slices
import Derived.Deep.Fields
import Derived.ChangeSame
namespace Go.Proofs.YtldofbkjjmnooaaGreat
open Go.ChangeShapes Go.WideShapes Go.ChangeAt Go.RowKit
set_option linter.unusedVariables false
set_option maxRecDepth 100000
set_option linter.unusedSimpArgs false
abbrev hereCs : Array Value := #[.int .i64 (hereM.t : Int), .int .i64 (hereM.o : Int), .int .i64 (hereM.n : Int)]
theorem hereC {w : World} {b : Nat} (h : Blk w b 24 hereCs) : w.cell? ⟨b, 0, none⟩ = some (.int .i64 (hereM.t : Int)) ∧ w.cell? ⟨b, 1, none⟩ = some (.int .i64 (hereM.o : Int)) ∧ w.cell? ⟨b, 2, none⟩ = some (.int .i64 (hereM.n : Int)) := ⟨h.cell 0 _ rfl, h.cell 1 _ rfl, h.cell 2 _ rfl⟩
theorem nofC {b C S : Nat} (h : b ≠ C ∧ b ≠ S) : ¬ ofCells C S b := fun e => e.elim h.1 h.2
set_option maxHeartbeats 8000000 in
theorem works_any (w : World) : Calls Tryz.prog 15 #[] w fun e w' => e = .returned (.bool true) ∧ Below w.heap.size w w' := by
  go_enter Tryz.func15, Tryz.ntmps15
  go_upto_region 2 with (go_at_call 12; refine (here_any _).mono ?_; rintro e w1 ⟨rfl, b1⟩)
  have m1 : Blk (w1.alloc (.cells hereCs 24)) w1.heap.size 24 hereCs := Blk.new w1 _ _
  generalize hV : (w1.alloc _) = V at *
  have bV : Below w.heap.size w V := by rw [← hV]; exact b1.alloc b1.size _
  clear hV
  have HM := Lib.hid m1
  obtain ⟨d0, d1, d2⟩ := hereC m1
  clear m1
  generalize w1.heap.size = bm at *
  have HSz := Lib.hid (size_any hereM V here_ok)
  go_upto_region 3 with (first
    | (go_at_call 14; (with_reducible refine HSz.out.mono ?_); rintro e w2 ⟨rfl, b2⟩; have HNw := Lib.hid (vnew w2 rfl))
    | (go_at_call 13; (with_reducible refine HNw.out.mono ?_); rintro e w3 ⟨C, S, mm, rfl, hq, b3, hC, hS⟩))
  have HB := Lib.hid ((bV.trans (b2.mono bV.size)).trans (b3.mono (by have := bV.size; have := b2.size; omega)))
  have HMC := Lib.hid (show bm ≠ C ∧ bm ≠ S by have := HM.out.lt; have := b2.size; omega)
  have HCS := Lib.hid (show ∀ i, ofCells C S i → w.heap.size ≤ i from fun i hi => by have := bV.size; have := b2.size; rcases hi with hi | hi <;> omega)
  have HM := Lib.hid ((HM.out.below b2 HM.out.lt).below b3 (by have := HM.out.lt; have := b2.size; omega))
  have HQ := Lib.hid hq
  have HN := Lib.hid (show (0 : Int) ≤ 0 ∧ (0 : Int) ≤ 0 by decide)
  clear d0 d1 d2 hq b1 b2 b3 bV hC hS
  obtain ⟨d0, d1, d2⟩ := hereC HM.out
  have HP0 := Lib.hid fun W => place_any 0 W (by omega) (kI := 0) rfl
  have HP1 := Lib.hid fun W => place_any 1 W (by omega) (kI := 1) rfl
  obtain ⟨a0, ha0⟩ : ∃ a : Int, a = (placeN 0 : Nat) := ⟨_, rfl⟩
  obtain ⟨a1, ha1⟩ : ∃ a : Int, a = (placeN 1 : Nat) := ⟨_, rfl⟩
  have A0B : 0 ≤ a0 ∧ a0 ≤ 1000 := by rw [ha0]; decide
  have HA0 := Lib.hid ha0
  have HA1 := Lib.hid ha1
  rw [← ha0] at HP0
  rw [← ha1] at HP1
  clear ha0 ha1
  go_upto_region 6 with (first
    | (go_at_call 16; (with_reducible refine (HP0.out _).mono ?_); rintro e w4 ⟨rfl, hb⟩; have HQ := Lib.hid (HQ.out.below hb); have HM := Lib.hid (HM.out.below hb HM.out.lt); have HB := Lib.hid (HB.out.trans (hb.mono HB.out.size)); clear d0 d1 d2 hb; obtain ⟨d0, d1, d2⟩ := hereC HM.out))
  have HC0 := Lib.hid (vpush 0 0 (by omega) HA0.out (2) (by omega) (L4 [2] [] [] []) (by intro j hj; rcases four hj with rfl | rfl | rfl | rfl <;> rfl) (l4_not (by decide) (by decide) (by decide) (by decide)) HQ.out HN.out (by omega))
  go_wp2_with (first
    | (go_at_call 92; (with_reducible refine HC0.out.mono ?_); rintro e w10 ⟨rfl, ⟨⟨mm0, n0, hq, hn⟩, hk⟩⟩; have HQ := Lib.hid hq; have HN := Lib.hid (show 0 ≤ n0 ∧ n0 ≤ 50 from hn); have HM := Lib.hid (HM.out.keep hk (nofC HMC.out)); have HB := Lib.hid (HB.out.trans (hk.below HB.out.size (fun i _ hi => HCS.out i hi))); clear d0 d1 d2 hq hn hk HC0; obtain ⟨d0, d1, d2⟩ := hereC HM.out; have HC1 := Lib.hid (vpush 50 0 (by omega) HA0.out (0) (by omega) (L4 [2, 0] [] [] []) (by intro j hj; rcases four hj with rfl | rfl | rfl | rfl <;> rfl) (l4_not (by decide) (by decide) (by decide) (by decide)) HQ.out HN.out (by omega)))
    | (go_at_call 92; (with_reducible refine HC1.out.mono ?_); rintro e w11 ⟨rfl, ⟨⟨mm1, n1, hq, hn⟩, hk⟩⟩; have HQ := Lib.hid hq; have HN := Lib.hid (show 0 ≤ n1 ∧ n1 ≤ 100 from hn); have HM := Lib.hid (HM.out.keep hk (nofC HMC.out)); have HB := Lib.hid (HB.out.trans (hk.below HB.out.size (fun i _ hi => HCS.out i hi))); clear d0 d1 d2 hq hn hk HC1; obtain ⟨d0, d1, d2⟩ := hereC HM.out; have HC2 := Lib.hid (vpush 100 0 (by omega) HA0.out (1) (by omega) (L4 [2, 0, 1] [] [] []) (by intro j hj; rcases four hj with rfl | rfl | rfl | rfl <;> rfl) (l4_not (by decide) (by decide) (by decide) (by decide)) HQ.out HN.out (by omega)))
    | (go_at_call 92; (with_reducible refine HC2.out.mono ?_); rintro e w12 ⟨rfl, ⟨⟨mm2, n2, hq, hn⟩, hk⟩⟩; have HQ := Lib.hid hq; have HN := Lib.hid (show 0 ≤ n2 ∧ n2 ≤ 150 from hn); have HM := Lib.hid (HM.out.keep hk (nofC HMC.out)); have HB := Lib.hid (HB.out.trans (hk.below HB.out.size (fun i _ hi => HCS.out i hi))); clear d0 d1 d2 hq hn hk HC2; obtain ⟨d0, d1, d2⟩ := hereC HM.out; have HC3 := Lib.hid (vlook 0 (by omega) HA0.out [2, 0, 1] rfl 3 rfl HQ.out))
    | (go_at_call 29; (with_reducible refine HC3.out.mono ?_); rintro e w13 ⟨va, vc, rfl, hrow, hb⟩; have HQ := Lib.hid (HQ.out.below hb); have HR := Lib.hid hrow; have HM := Lib.hid (HM.out.below hb HM.out.lt); have HB := Lib.hid (HB.out.trans (hb.mono HB.out.size)); clear d0 d1 d2 hrow hb HC3; obtain ⟨d0, d1, d2⟩ := hereC HM.out; have HC4 := Lib.hid (vints _ [2, 0, 1] _ w13 #[.int .i64 2, .int .i64 0, .int .i64 1] HR.out (by decide) rfl (k := 3) rfl))
    | (go_at_call 28; (with_reducible refine HC4.out.mono ?_); rintro e w14 ⟨rfl, hb⟩; have HQ := Lib.hid (HQ.out.below hb); have HM := Lib.hid (HM.out.below hb HM.out.lt); have HB := Lib.hid (HB.out.trans (hb.mono HB.out.size)); clear d0 d1 d2 hb HC4; obtain ⟨d0, d1, d2⟩ := hereC HM.out; have HC5 := Lib.hid (vrem 150 0 (by omega) HA0.out (0) 1 (by omega) (L4 [2, 1] [] [] []) (by decide) (by intro j hj; rcases four hj with rfl | rfl | rfl | rfl <;> rfl) HQ.out HN.out (by omega)))
    | (go_at_call 93; (with_reducible refine HC5.out.mono ?_); rintro e w15 ⟨rfl, ⟨⟨mm5, n5, hq, hn⟩, hk⟩⟩; have HQ := Lib.hid hq; have HN := Lib.hid (show 0 ≤ n5 ∧ n5 ≤ 200 from hn); have HM := Lib.hid (HM.out.keep hk (nofC HMC.out)); have HB := Lib.hid (HB.out.trans (hk.below HB.out.size (fun i _ hi => HCS.out i hi))); clear d0 d1 d2 hq hn hk HC5; obtain ⟨d0, d1, d2⟩ := hereC HM.out; have HC6 := Lib.hid (vrem 200 0 (by omega) HA0.out (0) 0 (by omega) (L4 [2, 1] [] [] []) (by decide) (by intro j hj; rcases four hj with rfl | rfl | rfl | rfl <;> rfl) HQ.out HN.out (by omega)))
    | (go_at_call 93; (with_reducible refine HC6.out.mono ?_); rintro e w16 ⟨rfl, ⟨⟨mm6, n6, hq, hn⟩, hk⟩⟩; have HQ := Lib.hid hq; have HN := Lib.hid (show 0 ≤ n6 ∧ n6 ≤ 250 from hn); have HM := Lib.hid (HM.out.keep hk (nofC HMC.out)); have HB := Lib.hid (HB.out.trans (hk.below HB.out.size (fun i _ hi => HCS.out i hi))); clear d0 d1 d2 hq hn hk HC6; obtain ⟨d0, d1, d2⟩ := hereC HM.out; have HC7 := Lib.hid (vlook 0 (by omega) HA0.out [2, 1] rfl 2 rfl HQ.out))
    | (go_at_call 29; (with_reducible refine HC7.out.mono ?_); rintro e w17 ⟨va, vc, rfl, hrow, hb⟩; have HQ := Lib.hid (HQ.out.below hb); have HR := Lib.hid hrow; have HM := Lib.hid (HM.out.below hb HM.out.lt); have HB := Lib.hid (HB.out.trans (hb.mono HB.out.size)); clear d0 d1 d2 hrow hb HC7; obtain ⟨d0, d1, d2⟩ := hereC HM.out; have HC8 := Lib.hid (vints _ [2, 1] _ w17 #[.int .i64 2, .int .i64 1] HR.out (by decide) rfl (k := 2) rfl))
    | (go_at_call 28; (with_reducible refine HC8.out.mono ?_); rintro e w18 ⟨rfl, hb⟩; have HQ := Lib.hid (HQ.out.below hb); have HM := Lib.hid (HM.out.below hb HM.out.lt); have HB := Lib.hid (HB.out.trans (hb.mono HB.out.size)); clear d0 d1 d2 hb HC8; obtain ⟨d0, d1, d2⟩ := hereC HM.out; have HC9 := Lib.hid (vpop 250 0 (by omega) HA0.out (2) (L4 [1] [] [] []) (by decide) (by intro j hj; rcases four hj with rfl | rfl | rfl | rfl <;> rfl) HQ.out HN.out (by omega)))
    | (go_at_call 94; (with_reducible refine HC9.out.mono ?_); rintro e w19 ⟨rfl, ⟨⟨mm9, n9, hq, hn⟩, hk⟩⟩; have HQ := Lib.hid hq; have HN := Lib.hid (show 0 ≤ n9 ∧ n9 ≤ 300 from hn); have HM := Lib.hid (HM.out.keep hk (nofC HMC.out)); have HB := Lib.hid (HB.out.trans (hk.below HB.out.size (fun i _ hi => HCS.out i hi))); clear d0 d1 d2 hq hn hk HC9; obtain ⟨d0, d1, d2⟩ := hereC HM.out; have HC10 := Lib.hid (vpop 300 0 (by omega) HA0.out (1) (L4 [] [] [] []) (by decide) (by intro j hj; rcases four hj with rfl | rfl | rfl | rfl <;> rfl) HQ.out HN.out (by omega)))
    | (go_at_call 94; (with_reducible refine HC10.out.mono ?_); rintro e w20 ⟨rfl, ⟨⟨mm10, n10, hq, hn⟩, hk⟩⟩; have HQ := Lib.hid hq; have HN := Lib.hid (show 0 ≤ n10 ∧ n10 ≤ 350 from hn); have HM := Lib.hid (HM.out.keep hk (nofC HMC.out)); have HB := Lib.hid (HB.out.trans (hk.below HB.out.size (fun i _ hi => HCS.out i hi))); clear d0 d1 d2 hq hn hk HC10; obtain ⟨d0, d1, d2⟩ := hereC HM.out; have HC11 := Lib.hid (vpop 350 0 (by omega) HA0.out (-1) (L4 [] [] [] []) (by decide) (by intro j hj; rcases four hj with rfl | rfl | rfl | rfl <;> rfl) HQ.out HN.out (by omega)))
    | (go_at_call 94; (with_reducible refine HC11.out.mono ?_); rintro e w21 ⟨rfl, ⟨⟨mm11, n11, hq, hn⟩, hk⟩⟩; have HQ := Lib.hid hq; have HN := Lib.hid (show 0 ≤ n11 ∧ n11 ≤ 400 from hn); have HM := Lib.hid (HM.out.keep hk (nofC HMC.out)); have HB := Lib.hid (HB.out.trans (hk.below HB.out.size (fun i _ hi => HCS.out i hi))); clear d0 d1 d2 hq hn hk HC11; obtain ⟨d0, d1, d2⟩ := hereC HM.out; have HC12 := Lib.hid (vlook 0 (by omega) HA0.out [] rfl 0 rfl HQ.out))
    | (go_at_call 29; (with_reducible refine HC12.out.mono ?_); rintro e w22 ⟨va, vc, rfl, hrow, hb⟩; have HQ := Lib.hid (HQ.out.below hb); have HR := Lib.hid hrow; have HM := Lib.hid (HM.out.below hb HM.out.lt); have HB := Lib.hid (HB.out.trans (hb.mono HB.out.size)); clear d0 d1 d2 hrow hb HC12; obtain ⟨d0, d1, d2⟩ := hereC HM.out))
  go_ret
  exact ⟨rfl, HB.out⟩
end Go.Proofs.YtldofbkjjmnooaaGreat
/- QueueTells: queues in cells and the document's, beside each other; a task that is on its way. -/
namespace Go.Proofs.YtldofbkjjmnooaaGreat
open Go.ChangeShapes Go.WideShapes Go.ChangeAt Go.RowKit
set_option linter.unusedVariables false
set_option maxRecDepth 100000
set_option linter.unusedSimpArgs false
/-- X: blocks that nothing touches -/
structure QT (n0 : Nat) (X : Nat → Prop) (w : World) (C S Q B : Nat) (O : Nat → Prop) (mm : List Int) (n : Int) (LL : List (List Int)) : Prop where
  cells : CellsAt w C S mm n
  rq : RQ w Q B O LL
  ob : ∀ b, O b → n0 ≤ b ∧ b ≠ C ∧ b ≠ S ∧ ¬ X b
  cs : n0 ≤ C ∧ n0 ≤ S ∧ ¬ X C ∧ ¬ X S
  lo : n0 ≤ w.heap.size
/-- .. and a task -/
def QM (n0 : Nat) (X : Nat → Prop) (w : World) (C S Q B : Nat) (O : Nat → Prop) (mm : List Int) (n : Int) (LL : List (List Int)) (t : Nat) (T : Tre Itm) : Prop :=
  QT n0 X w C S Q B O mm n LL ∧ ∃ TB : Nat → Prop, TkM (cellOps C 0) w t TB T ∧ ∀ b, TB b → n0 ≤ b ∧ b ≠ C ∧ b ≠ S ∧ ¬ X b ∧ ¬ O b
section
variable {n0 : Nat} {X : Nat → Prop} {w w1 : World} {C S Q B t : Nat} {O : Nat → Prop} {mm mm' : List Int} {n : Int} {LL LL' : List (List Int)} {T : Tre Itm}
theorem QT.below (h : QT n0 X w C S Q B O mm n LL) (hb : Below w.heap.size w w1) : QT n0 X w1 C S Q B O mm n LL := by
  have k : Keep (fun _ => False) w w1 := Keep.ofBelow hb
  exact ⟨h.cells.keep k id id, h.rq.keep k (fun _ _ h => h), h.ob, h.cs, Nat.le_trans h.lo hb.size⟩
theorem QM.below (h : QM n0 X w C S Q B O mm n LL t T) (hb : Below w.heap.size w w1) : QM n0 X w1 C S Q B O mm n LL t T := by
  obtain ⟨h1, TB, h2, h3⟩ := h
  exact ⟨h1.below hb, TB, h2.keep (Keep.ofBelow (Q := fun _ => False) hb) (fun _ _ h => h), h3⟩
/-- more blocks that nothing touches: new ones -/
theorem QT.more {X' : Nat → Prop} (h : QT n0 X w C S Q B O mm n LL) (hX : ∀ b, X' b → X b ∨ w.heap.size ≤ b) (hb : Below w.heap.size w w1) : QT n0 X' w1 C S Q B O mm n LL := by
  have h1 := h.below hb
  have c1 := h.cells.own.lt
  have c2 := h.cells.row.lt
  refine ⟨h1.cells, h1.rq, fun b hO => ⟨(h.ob b hO).1, (h.ob b hO).2.1, (h.ob b hO).2.2.1, fun hx => ?_⟩, ⟨h.cs.1, h.cs.2.1, fun hx => ?_, fun hx => ?_⟩, h1.lo⟩
  · rcases hX b hx with hx | hx
    · exact (h.ob b hO).2.2.2 hx
    · have := h.rq.lt b hO; omega
  · rcases hX _ hx with hx | hx
    · exact h.cs.2.2.1 hx
    · omega
  · rcases hX _ hx with hx | hx
    · exact h.cs.2.2.2 hx
    · omega
/-- fewer -/
theorem QT.fewer {X' : Nat → Prop} (h : QT n0 X w C S Q B O mm n LL) (hX : ∀ b, X' b → X b) : QT n0 X' w C S Q B O mm n LL :=
  ⟨h.cells, h.rq, fun b hO => ⟨(h.ob b hO).1, (h.ob b hO).2.1, (h.ob b hO).2.2.1, fun hx => (h.ob b hO).2.2.2 (hX b hx)⟩, ⟨h.cs.1, h.cs.2.1, fun hx => h.cs.2.2.1 (hX _ hx), fun hx => h.cs.2.2.2 (hX _ hx)⟩, h.lo⟩
/-- a task was made -/
theorem QT.made (h : QT n0 X w C S Q B O mm n LL) (hX : ∀ b, X b → b < w.heap.size) (hM : MadeM (cellOps C 0) w (fun b => w.heap.size ≤ b) T t w1) : QM n0 X w1 C S Q B O mm n LL t T := by
  obtain ⟨M, hJ⟩ := hM.2.1
  have c1 := h.cells.own.lt
  have c2 := h.cells.row.lt
  have := h.lo
  refine ⟨h.below hM.2.2, _, TkM.new hJ hM.1, fun b hb => ⟨by omega, by omega, by omega, fun hx => by have := hX b hx; omega, fun hO => by have := h.rq.lt b hO; omega⟩⟩
/-- the document's queues turn -/
theorem QM.turn {O' : Nat → Prop} (h : QM n0 X w C S Q B O mm n LL t T) (hX : ∀ b, X b → b < w.heap.size) (hR : RQ w1 Q B O' LL') (hO : ∀ b, O' b → O b ∨ (w.heap.size ≤ b ∧ b < w1.heap.size)) (hk : Keep (fun b => b = B) w w1) : QM n0 X w1 C S Q B O' mm n LL' t T ∧ Keep (fun b => n0 ≤ b ∧ ¬ X b) w w1 := by
  obtain ⟨h1, TB, h2, h3⟩ := h
  have c1 := h1.cells.own.lt
  have c2 := h1.cells.row.lt
  have hB := h1.ob B h1.rq.mine.2
  have := h1.lo
  refine ⟨⟨⟨h1.cells.keep hk (fun e => hB.2.1 e.symm) (fun e => hB.2.2.1 e.symm), hR, fun b hb => ?_, h1.cs, Nat.le_trans h1.lo hk.size⟩, TB, h2.keep hk (fun b hb e => (h3 b hb).2.2.2.2 (by rw [e]; exact h1.rq.mine.2)), fun b hb => ⟨(h3 b hb).1, (h3 b hb).2.1, (h3 b hb).2.2.1, (h3 b hb).2.2.2.1, fun hO' => ?_⟩⟩, hk.mono fun b _ e => by rw [e]; exact ⟨hB.1, hB.2.2.2⟩⟩
  · rcases hO b hb with hb | hb
    · exact h1.ob b hb
    · exact ⟨by omega, by omega, by omega, fun hx => by have := hX b hx; omega⟩
  · rcases hO b hO' with hO' | hO'
    · exact (h3 b hb).2.2.2.2 hO'
    · have := h2.lt b hb; omega
/-- the task goes to its end -/
theorem QM.run (h : QM n0 X w C S Q B O mm n LL t T) (hX : ∀ b, X b → b < w.heap.size) {c most : Nat} {v : Int} (hG : Goes mm T c mm' v) (hc : c ≤ most) (hm : most ≤ 1000) (hn : 0 ≤ n ∧ n ≤ 1000000) {mI : Int} (hI : mI = most) :
    Calls Tryz.prog 26 #[pV t, .int .i64 mI] w fun e w' => e = .returned (.int .i64 (c : Int)) ∧ QM n0 X w' C S Q B O mm' (n + c) LL t (retT v) ∧ Keep (fun b => n0 ≤ b ∧ ¬ X b) w w' := by
  obtain ⟨h1, TB, h2, h3⟩ := h
  refine (qendsM_any C 0 S t TB T c most mm mm' v n w hG hc hm h2 h1.cells (fun b hb => ⟨(h3 b hb).2.1, (h3 b hb).2.2.1⟩) hn hI).mono ?_
  rintro e w' ⟨rfl, ⟨Q', g1, g2⟩, g3, g4⟩
  have := h1.lo
  have s4 := g4.size
  have kk : Keep (fun b => n0 ≤ b ∧ ¬ X b) w w' := g4.mono fun b _ hb => by
    rcases hb with hb | rfl | rfl
    · exact ⟨(h3 b hb).1, (h3 b hb).2.2.2.1⟩
    · exact ⟨h1.cs.1, h1.cs.2.2.1⟩
    · exact ⟨h1.cs.2.1, h1.cs.2.2.2⟩
  have c1 := h1.cells.own.lt
  have c2 := h1.cells.row.lt
  refine ⟨rfl, ⟨⟨g3, h1.rq.keep g4 (fun b hO hb => ?_), h1.ob, h1.cs, by omega⟩, Q', g1, fun b hb => ?_⟩, kk⟩
  · rcases hb with hb | rfl | rfl
    · exact (h3 b hb).2.2.2.2 hO
    · exact (h1.ob _ hO).2.1 rfl
    · exact (h1.ob _ hO).2.2.1 rfl
  · rcases g2 b hb with hb | hb
    · exact h3 b hb
    · exact ⟨by omega, by omega, by omega, fun hx => by have := hX b hx; omega, fun hO => by have := h1.rq.lt b hO; omega⟩
end
end Go.Proofs.YtldofbkjjmnooaaGreat
/- QueueTells: what its walk wants of lists, and the document's queues at the start; Pop of an empty one. -/
namespace Go.Proofs.YtldofbkjjmnooaaGreat
open Go.ChangeShapes Go.WideShapes Go.ChangeAt Go.RowKit
set_option linter.unusedVariables false
set_option maxRecDepth 100000
set_option linter.unusedSimpArgs false
def rowsL (L : Nat → List Int) : List (List Int) := [L 0, L 1, L 2, L 3]
theorem rowsL_at (L : Nat → List Int) {k : Nat} (h : k < 4) : (rowsL L)[k]? = some (L k) := by
  rcases four h with rfl | rfl | rfl | rfl <;> rfl
theorem rowsL_set (L : Nat → List Int) {k : Nat} (h : k < 4) (x : List Int) : (rowsL L).set k x = rowsL (updL L k x) := by
  rcases four h with rfl | rfl | rfl | rfl <;> rfl
theorem rowsL_in (L : Nat → List Int) (t : Int) : (∃ l ∈ rowsL L, t ∈ l) ↔ ∃ j, j < 4 ∧ t ∈ L j := by
  constructor
  · rintro ⟨l, hl, ht⟩
    simp only [rowsL, List.mem_cons, List.not_mem_nil, or_false] at hl
    rcases hl with rfl | rfl | rfl | rfl
    · exact ⟨0, by omega, ht⟩
    · exact ⟨1, by omega, ht⟩
    · exact ⟨2, by omega, ht⟩
    · exact ⟨3, by omega, ht⟩
  · rintro ⟨j, hj, ht⟩
    exact ⟨L j, List.mem_of_getElem? (rowsL_at L hj), ht⟩
theorem rem_list {l : List Int} {k : Nat} {t : Int} (hk : l[k]? = some t) (hn : l.Nodup) : l.take k ++ l.drop (k + 1) = l.filter (· ≠ t) := by
  obtain ⟨hlt, e⟩ := List.getElem?_eq_some_iff.1 hk
  have h1 : l = l.take k ++ t :: l.drop (k + 1) := by
    conv => lhs; rw [← List.take_append_drop k l]
    rw [List.drop_eq_getElem_cons hlt, e]
  have h2 := filter_mid (P := l.take k) (s := l.drop (k + 1)) (t := t) (by rw [← h1]; exact hn)
  rw [← h1] at h2
  exact h2.symm
theorem QS.few {mm : List Int} {L : Nat → List Int} (h : QS mm L) {k : Nat} (hk : k < 4) : (L k).length ≤ 8 :=
  nodup_len0 (k := 8) (h.thr k hk).1 (h.thr k hk).2
theorem QS.least {mm : List Int} (h : mm = List.replicate 67 0) : QS mm (fun _ => []) := QS.none mm h
theorem slice_zeroQ : (Tryz.prog.info? 37).map (fun i => (i.zero, i.size, i.bytes)) = some (some (.slice none 0 0), 1, 24) := by kernel_rfl
theorem make_4q (w : World) : (Instr.makeSlice 31 (.int .i64 4) (.int .i64 4)).run Tryz.prog w = .ok (.slice (some ⟨w.heap.size, 0, none⟩) 4 4) (w.alloc (.cells #[.slice none 0 0, .slice none 0 0, .slice none 0 0, .slice none 0 0] 37)) := by
  obtain ⟨i, hi, hz0, hz1, hz2⟩ := info_parts slice_zeroQ
  have h := run_make (P := Tryz.prog) w 31 37 i _ Tryz.underlying31 hi hz0 .i64 .i64 4 4 (by omega) (by omega) (by rw [hz2]; omega) (by omega)
  have e : madeCells #[Value.slice none 0 0] 4 = #[.slice none 0 0, .slice none 0 0, .slice none 0 0, .slice none 0 0] := by
    rw [← Array.toList_inj, toList_madeCells_one]
    simp [List.replicate_succ]
  rw [h, hz1, Nat.mul_one]
  simp only [← e]
  rfl
/-- the document's queues at the start -/
theorem RQ.start (w : World) : RQ ((w.alloc (.cells #[.slice none 0 0, .slice none 0 0, .slice none 0 0, .slice none 0 0] 37)).alloc (.cells #[.slice (some ⟨w.heap.size, 0, none⟩) 4 4] 33)) (w.heap.size + 1) w.heap.size (fun b => w.heap.size ≤ b ∧ b < w.heap.size + 2) (rowsL fun _ => []) := by
  have m0 := Blk.new w 37 #[.slice none 0 0, .slice none 0 0, .slice none 0 0, .slice none 0 0]
  have m1 := Blk.new (w.alloc (.cells #[.slice none 0 0, .slice none 0 0, .slice none 0 0, .slice none 0 0] 37)) 33 #[.slice (some ⟨w.heap.size, 0, none⟩) 4 4]
  have m0' := m0.below ((Below.refl _ _).alloc (Nat.le_refl _) (.cells #[.slice (some ⟨w.heap.size, 0, none⟩) 4 4] 33)) (by rw [World.size_alloc]; omega)
  rw [World.size_alloc] at m1
  refine ⟨⟨4, m1⟩, ⟨[.slice none 0 0, .slice none 0 0, .slice none 0 0, .slice none 0 0], m0', rfl, fun i l hl => ?_⟩, ⟨by simp [rowsL], fun l hl => ?_⟩, ⟨by omega, by omega⟩, fun b hb => ?_⟩
  · have hi : i < 4 := by have := (List.getElem?_eq_some_iff.1 hl).1; simpa [rowsL] using this
    rw [rowsL_at _ hi] at hl
    obtain rfl := Option.some.inj hl
    refine ⟨.slice none 0 0, by rcases four hi with rfl | rfl | rfl | rfl <;> rfl, none, 0, rfl, by simp, fun i x hx => by simp at hx⟩
  · simp [rowsL] at hl
    subst hl
    simp
  · rw [World.size_alloc, World.size_alloc]; omega
set_option maxHeartbeats 2000000 in
theorem rpop_nil (Q B : Nat) (O : Nat → Prop) (L : List (List Int)) (i : Nat) (w : World) (h : RQ w Q B O L) (hi : L[i]? = some []) :
    Calls Tryz.prog 23 #[qV Q, .int .i64 (i : Int)] w fun e w' => e = .returned (.int .i64 (-1)) ∧ Below w.heap.size w w' := by
  obtain ⟨c, h1⟩ := h.own
  obtain ⟨ar, cr, cB, hcr, hrow⟩ := h.row hi
  have hil : i < L.length := (List.getElem?_eq_some_iff.1 hi).1
  obtain ⟨ll, hll⟩ : ∃ ll, L.length = ll := ⟨_, rfl⟩
  rw [hll] at h1 hil
  have cQ := h1.cell 0 _ rfl
  have hx1 := idx_qintss ll c B 0 i hil
  simp only [Nat.zero_add] at hx1
  simp only [List.length_nil] at cB
  have hf := h.few.1
  rw [hll] at hf
  have hilI : (0 : Int) ≤ (i : Int) ∧ (i : Int) < (ll : Int) := by omega
  clear h h1 hi hll hrow hcr
  go_enter Tryz.func23, Tryz.ntmps23
  go_wp2_with fail
  try (go_quiet (fail); go_wp2_with fail)
  go_ret
  exact ⟨rfl, by go_grown⟩
theorem set_same_at {A : Type} {L : List A} {i : Nat} {x : A} (h : L[i]? = some x) : L.set i x = L := by
  apply List.ext_getElem?
  intro j
  by_cases e : i = j
  · subst e; rw [List.getElem?_set_self (List.getElem?_eq_some_iff.1 h).1, h]
  · rw [List.getElem?_set_ne e]
theorem rpop_one (Q B : Nat) (O : Nat → Prop) (L : List (List Int)) (i : Nat) (l : List Int) (w : World) (h : RQ w Q B O L) (hi : L[i]? = some l) (hl : l.length + 1 ≤ 1000) :
    Calls Tryz.prog 23 #[qV Q, .int .i64 (i : Int)] w fun e w' => e = .returned (.int .i64 (if l = [] then -1 else l.headD 0)) ∧ ∃ O' : Nat → Prop, RQ w' Q B O' (L.set i l.tail) ∧ (∀ b, O' b → O b ∨ (w.heap.size ≤ b ∧ b < w'.heap.size)) ∧ Keep (fun b => b = B) w w' := by
  cases l with
  | nil =>
    refine (rpop_nil Q B O L i w h hi).mono ?_
    rintro e w' ⟨rfl, hb⟩
    refine ⟨rfl, O, ?_, fun b hb => .inl hb, Keep.ofBelow hb⟩
    rw [List.tail_nil, set_same_at hi]
    exact h.keep (Keep.ofBelow (Q := fun _ => False) hb) (fun _ _ h => h)
  | cons x l0 =>
    refine (rpop_any Q B O L i (x :: l0) x l0 w h hi hl rfl).mono ?_
    rintro e w' ⟨rfl, h1, h2⟩
    exact ⟨rfl, _, h1, fun b hb => hb, h2⟩
theorem rrem_one (Q B : Nat) (O : Nat → Prop) (L : List (List Int)) (i : Nat) (l : List Int) (t : Int) (w : World) (h : RQ w Q B O L) (hi : L[i]? = some l) (hl : l.length ≤ 1000) (hn : l.Nodup) :
    Calls Tryz.prog 25 #[qV Q, .int .i64 (i : Int), .int .i64 t] w fun e w' => e = .returned (.int .i64 (if t ∈ l then 1 else 0)) ∧ ∃ O' : Nat → Prop, RQ w' Q B O' (L.set i (l.filter (· ≠ t))) ∧ (∀ b, O' b → O b ∨ (w.heap.size ≤ b ∧ b < w'.heap.size)) ∧ Keep (fun b => b = B) w w' := by
  refine (rrem_any Q B O L i l t w h hi hl).mono ?_
  rintro e w' (⟨rfl, k, hk, _, h1, h2⟩ | ⟨rfl, ht, rfl⟩)
  · rw [if_pos (List.mem_of_getElem? hk)]
    rw [rem_list hk hn] at h1
    exact ⟨rfl, _, h1, fun b hb => hb, h2⟩
  · rw [if_neg ht, filter_out ht, set_same_at hi]
    exact ⟨rfl, O, h, fun b hb => .inl hb, Keep.refl _ _⟩
end Go.Proofs.YtldofbkjjmnooaaGreat
/- QueueTells: its acts that came in. -/
namespace Go.Proofs.YtldofbkjjmnooaaGreat
open Go.ChangeShapes Go.WideShapes Go.ChangeAt Go.RowKit
set_option linter.unusedVariables false
set_option maxRecDepth 100000
/-- a slice of acts that came in -/
def ActsQ (w : World) (n0 : Nat) (a : Option Addr) (len : Nat) : Prop :=
  ∀ i, i < len → ∃ b off, a = some ⟨b, off, none⟩ ∧ b < n0 ∧ ∃ X Y Z : Int, (0 ≤ X ∧ X ≤ 255) ∧ (0 ≤ Y ∧ Y ≤ 255) ∧ (0 ≤ Z ∧ Z ≤ 255) ∧
    w.cell? ⟨b, off + i * 3, none⟩ = some (.int .u8 X) ∧ w.cell? ⟨b, off + i * 3 + 1, none⟩ = some (.int .u8 Y) ∧ w.cell? ⟨b, off + i * 3 + 2, none⟩ = some (.int .u8 Z)
theorem actq_cells : Tryz.prog.cellsOf 35 = 3 := by kernel_rfl
theorem cellsq_u8 : Tryz.prog.cellsOf 5 = 1 := by kernel_rfl
theorem wfq_u8 {z : Int} (h : (Lit.int .u8 z).wf = true) : 0 ≤ z ∧ z ≤ 255 := by
  simpa [Lit.wf, IntKind.min, IntKind.max, IntKind.signed, IntKind.bits] using h
theorem qacell_lt {w : World} {b o : Nat} {v : Value} (h : w.cell? ⟨b, o, none⟩ = some v) : b < w.heap.size := by
  by_cases hb : b < w.heap.size
  · exact hb
  · have : w.heap[b]? = none := by simp; omega
    simp [World.cell?, this] at h
theorem open_actsq {H : Type} {enc : TypeId × Value → H} {W : World} {base : Nat} {spare : Nat → Bool} {held : Bool} {a : Option Addr} {len cap : Nat} {d : DataW H} {p : List MemPlace}
    (h : DataW.Trod enc Tryz.prog W base spare held 22 (.slice a len cap) d p) : len ≤ 9223372036854775807 ∧ ActsQ W W.heap.size a len := by
  obtain ⟨fuel, hf⟩ := h
  rcases Go.Deep.open_slice Tryz.underlying22 hf with ⟨hcs, _⟩ | ⟨x, l, c, m, n, D, Pl, hcs, _, hl, hm, hmm, _, hi⟩
  · simp [Value.cells] at hcs
    obtain ⟨rfl, rfl, rfl⟩ := hcs
    exact ⟨by omega, fun i h => by omega⟩
  · simp [Value.cells] at hcs
    obtain ⟨rfl, rfl, rfl⟩ := hcs
    refine ⟨by unfold maxLen at hm; omega, fun i hil => ?_⟩
    obtain ⟨b, off, sp⟩ := x
    have hsp : sp = none := by
      obtain ⟨cs', hc, _⟩ := hi 0 (by rw [hmm]; split <;> omega)
      rw [actq_cells] at hc
      obtain ⟨_, hcl, hat⟩ := World.cells?_some hc
      have e := hat 0 (by omega)
      match cs', hcl with
      | [c0, c1, c2], _ =>
        have e : W.cell? ((Addr.mk b off sp).add (0 * 3) |>.add 0) = some c0 := e
        simpa [Addr.add] using World.cell?_spot e
    subst hsp
    obtain ⟨cs', hc, ht⟩ := hi i (by rw [hmm]; split <;> omega)
    rw [actq_cells] at hc
    obtain ⟨_, hcl, hat⟩ := World.cells?_some hc
    obtain ⟨xs, k, _, _, _, hlen, hg⟩ := DataW.trod_struct Tryz.underlying35 ht
    match cs', hcl, xs, hlen with
    | [c0, c1, c2], _, [y0, y1, y2], _ =>
      have g0 : DataW.trod enc Tryz.prog W base spare held k 5 (List.take (Tryz.prog.cellsOf 5) (List.drop 0 [c0, c1, c2])) = some y0 := hg 0 _ rfl
      rw [cellsq_u8] at g0
      have g1 : DataW.trod enc Tryz.prog W base spare held k 5 (List.take (Tryz.prog.cellsOf 5) (List.drop 1 [c0, c1, c2])) = some y1 := hg 1 _ rfl
      rw [cellsq_u8] at g1
      have g2 : DataW.trod enc Tryz.prog W base spare held k 5 (List.take (Tryz.prog.cellsOf 5) (List.drop 2 [c0, c1, c2])) = some y2 := hg 2 _ rfl
      rw [cellsq_u8] at g2
      obtain ⟨z0, e0, _, w0⟩ := DataW.trod_int Tryz.underlying5 g0
      obtain rfl : c0 = .int .u8 z0 := by simpa using e0
      obtain ⟨z1, e1, _, w1⟩ := DataW.trod_int Tryz.underlying5 g1
      obtain rfl : c1 = .int .u8 z1 := by simpa using e1
      obtain ⟨z2, e2, _, w2⟩ := DataW.trod_int Tryz.underlying5 g2
      obtain rfl : c2 = .int .u8 z2 := by simpa using e2
      have h0 := hat 0 (by omega)
      have h1 := hat 1 (by omega)
      have h2 := hat 2 (by omega)
      rw [Go.WideShapes.add_plain, Go.WideShapes.add_plain] at h0 h1 h2
      exact ⟨b, off, rfl, qacell_lt h0, z0, z1, z2, wfq_u8 w0, wfq_u8 w1, wfq_u8 w2, h0, h1, h2⟩
end Go.Proofs.YtldofbkjjmnooaaGreat
