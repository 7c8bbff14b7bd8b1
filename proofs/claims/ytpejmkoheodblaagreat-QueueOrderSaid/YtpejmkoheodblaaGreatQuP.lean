/- Package queue: remove; Push, Pop, Remove. Written by tools/gen_qup.py. -/
import Derived.Test.YtpejmkoheodblaaGreatQuO
import Derived.Test.YtpejmkoheodblaaGreatQuD
import Derived.Test.YtpejmkoheodblaaGreatQuRight
import Derived.Test.YtpejmkoheodblaaGreatCellsB
namespace Go.Proofs.YtpejmkoheodblaaGreat
open Go.ChangeShapes Go.WideShapes Go.ChangeAt Go.RowKit
set_option linter.unusedVariables false
set_option maxRecDepth 100000
set_option linter.unusedSimpArgs false
/-- a new task, with a state -/
def MadeM {A : Type} (O : Ops A) (w : World) (Q : Nat → Prop) (T : Tre A) (t : Nat) (w' : World) : Prop := w.heap.size ≤ t ∧ (∃ M, JmF O w' (fun b => Q b ∧ b ≠ t) M (some ⟨t, 0, none⟩) [] T) ∧ Below w.heap.size w w'
theorem MadeQ.madeM {A : Type} {O : Ops A} {w w' : World} {Q : Nat → Prop} {T : Tre A} {t : Nat} (h : MadeQ O w Q T t w') : MadeM O w Q T t w' := ⟨h.1, ⟨_, jmF_pure O h.2.1⟩, h.2.2⟩
theorem MadeM.of {A : Type} {O : Ops A} {w w1 w' : World} {Q : Nat → Prop} {T : Tre A} {t : Nat} (h : MadeM O w1 Q T t w') (hb : Below w.heap.size w w1) : MadeM O w Q T t w' := ⟨Nat.le_trans hb.size h.1, h.2.1, hb.trans (h.2.2.mono hb.size)⟩
set_option maxHeartbeats 1000000 in
theorem lrem_any (C P a : Nat) (m : Mp) (Q : Nat → Prop) (t : Int) (w : World) (hm : m.ok) (ht : 0 ≤ t ∧ t < m.t) (hQ : ∀ k, w.heap.size ≤ k → Q k) :
    Calls Tryz.prog 57 #[lineV C a m, .int .i64 t] w fun e w' => ∃ t', e = .returned (pV t') ∧ MadeM (cellOps C P) w Q (remT m a t (-1) []) t' w' := by
  have hmf : ∀ (fn : Fn) (first cap : Array Value) (w : World), (Instr.makeFunc fn first cap).run Tryz.prog w = .ok (.func fn first cap) w := fun _ _ _ _ => rfl
  have hmm := @run_makeMap Tryz.prog
  have HQ := Lib.hid hQ
  have HM := Lib.hid hm
  have Ht := Lib.hid ht
  clear hQ hm ht
  go_enter Tryz.func57, Tryz.ntmps57
  go_upto_region 2 with fail
  generalize hW : ((((w.alloc _).alloc _).alloc _).alloc _).alloc _ = W
  have bW : Below w.heap.size w W := by rw [← hW]; go_grown
  have sW : W.heap.size = w.heap.size + 5 := by rw [← hW]; simp
  have q0 : Blk W w.heap.size 88 (lineCs C a m) := by rw [← hW]; exact (((((Blk.new w _ _).alloc _).alloc _).alloc _).alloc _)
  have q1 : Blk W (w.heap.size + 1) 3 #[.int .i64 t] := by rw [← hW]; exact ((((blk_two w _ _ _).alloc _).alloc _).alloc _)
  have hs : SetAt W (w.heap.size + 2) [] := by
    rw [← hW]
    have := SetAt.made ((w.alloc (.cells (lineCs C a m) 88)).alloc (.cells #[.int .i64 t] 3))
    simp only [World.size_alloc] at this
    exact this.keep (F := fun _ => False) (((Keep.refl _ _).alloc _).alloc _) (fun h => h)
  have q3 : Blk W (w.heap.size + 3) 3 #[.int .i64 (-1)] := by
    rw [← hW]
    have h := Blk.new (((w.alloc (.cells (lineCs C a m) 88)).alloc (.cells #[.int .i64 t] 3)).alloc (.map #[] 0)) 3 #[.int .i64 (-1)]
    simp only [World.size_alloc] at h
    exact h.alloc _
  have q4 : Blk W (w.heap.size + 4) 120 #[.map (some (w.heap.size + 2))] := by
    rw [← hW]
    have h := Blk.new ((((w.alloc (.cells (lineCs C a m) 88)).alloc (.cells #[.int .i64 t] 3)).alloc (.map #[] 0)).alloc (.cells #[.int .i64 (-1)] 3)) 120 #[.map (some (w.heap.size + 2))]
    simp only [World.size_alloc] at h
    exact h
  clear hW
  have hR : RemAt W C a m t w.heap.size (w.heap.size + 1) (w.heap.size + 3) (w.heap.size + 4) (w.heap.size + 2) (-1) [] := ⟨q0, q1, q3, q4, hs, by omega, by omega, by omega, by omega, by omega, by omega, by omega⟩
  have HL := Lib.hid (loopR_any C a m Q t (-1) [] w.heap.size (w.heap.size + 1) (w.heap.size + 3) (w.heap.size + 4) (w.heap.size + 2) W hR ⟨by omega, by have := HM.out.t; omega⟩ HM.out (fun k hk => HQ.out k (by omega)))
  go_wp2_with (go_at_call 88; refine HL.out.mono ?_; rintro e w2 ⟨t', d, r, f, br, bl2, f2, bb, rfl, hA, hb⟩)
  go_ret
  have hk : Keep (fun _ => False) W w2 := Keep.ofBelow hb
  obtain ⟨n1, n2, n3, n4, n5, n6⟩ := hA.new
  obtain ⟨e1, e2, e3, e4, e5⟩ := hA.ne
  obtain ⟨b, F, caps, x1, x2, x3, x4, x5⟩ := hA.op
  have nm : ∀ b, W.heap.size ≤ b → ¬ remM (w.heap.size + 3) (w.heap.size + 2) b := fun b hb h => by rcases h with h | h <;> omega
  have qq : ∀ b, W.heap.size ≤ b → b ≠ t' → Q b ∧ b ≠ t' := fun b h h2 => ⟨HQ.out b (by omega), h2⟩
  have qo : ∀ b, w.heap.size ≤ b → b < W.heap.size → Q b ∧ b ≠ t' := fun b h h2 => ⟨HQ.out b h, by omega⟩
  refine ⟨t', rfl, by omega, ⟨remM (w.heap.size + 3) (w.heap.size + 2), .inr ⟨ldI (behN m a (-1)), ansR m a t (-1) [], t', d, _, r, [f, f2], remT_eq _ _ _ _ _, rfl, hA.live, hA.tree, .inl ⟨b, F, caps, x1, rfl, ⟨x2, x3⟩, x4, x5⟩, ?_⟩⟩, bW.trans (hb.mono bW.size)⟩
  refine remK_conts HM.out Ht.out (.inl ⟨w.heap.size, w.heap.size + 1, w.heap.size + 3, w.heap.size + 4, w.heap.size + 2, -1, [], f2, bb, rfl, hR.keep hk (fun h => h) (fun h => h) (fun h => h) (fun h => h) (fun h => h), ⟨qo _ (by omega) (by omega), qo _ (by omega) (by omega), qo _ (by omega) (by omega), qo _ (by omega) (by omega), qo _ (by omega) (by omega), qq _ n5 e4, ?_⟩, ⟨nm _ n5, nm _ n6⟩, ⟨by omega, by have := HM.out.t; omega⟩, ⟨List.nodup_nil, fun u hu => by cases hu⟩, hA.box2, hA.body, .inr ⟨f, br, bl2, rfl, rfl, ⟨qq _ n2 e1, qq _ n3 e2, qq _ n4 e3⟩, ⟨nm _ n2, nm _ n3, nm _ n4⟩, hA.box, hA.fn, hA.line⟩⟩)
  exact qq _ n6 e5
set_option maxHeartbeats 2000000 in
theorem push_yes (C P : Nat) (a : Nat) (m : Mp) (n : Int) (u : Int) (Q : Nat → Prop) (w : World) (hm : m.ok) (hu : 0 ≤ u ∧ u < m.t) (ha : a ≤ 100000000) (hlen : ∀ W, Below w.heap.size w W → Calls Tryz.prog 52 #[cellsV C] W fun e w' => e = .returned (.int .i64 n) ∧ Below W.heap.size W w') (hright : ∀ (W : World) (B : Nat), B < W.heap.size → W.cell? ⟨B, 0, none⟩ = some (.int .i64 u) → Calls Tryz.prog 51 #[.int .i64 n, mapV m, .int .i64 (a : Int), .slice (some ⟨B, 0, none⟩) 1 1] W fun e w' => e = .returned (.bool true) ∧ Below W.heap.size W w') (hQ : ∀ k, w.heap.size ≤ k → Q k) :
    Calls Tryz.prog 16 #[cellsV C, mapV m, .int .i64 (a : Int), .int .i64 u] w fun e w' => ∃ t', e = .returned (pV t') ∧ MadeM (cellOps C P) w Q (pushT m a u) t' w' := by
  have HL := Lib.hid hlen
  have HR := Lib.hid hright
  have HQ := Lib.hid hQ
  have HX := Lib.hid fun W => lineAt_any C a m W ha
  have HI := Lib.hid fun W (h : w.heap.size ≤ W.heap.size) => lpush_any C P a m Q u W hm hu (fun k hk => hQ k (by omega))
  clear hm hu ha
  clear hlen hright hQ
  go_enter Tryz.func16, Tryz.ntmps16
  go_upto_region 1 with fail
  generalize hW : (w.alloc _) = W
  have bW : Below w.heap.size w W := by rw [← hW]; go_grown
  have sW : W.heap.size = w.heap.size + 1 := by rw [← hW]; simp
  have q0 : Blk W w.heap.size 24 #[.int .i64 (m.t : Int), .int .i64 (m.o : Int), .int .i64 (m.n : Int)] := by rw [← hW]; exact Blk.new w _ _
  clear hW
  have SK := Lib.hid (show ∀ V, Below W.heap.size W V → (V.cell? ⟨w.heap.size, 0, none⟩ = some (.int .i64 (m.t : Int)) ∧ V.cell? ⟨w.heap.size, 1, none⟩ = some (.int .i64 (m.o : Int)) ∧ V.cell? ⟨w.heap.size, 2, none⟩ = some (.int .i64 (m.n : Int))) from fun V hk => ⟨(q0.below hk q0.lt).cell 0 _ rfl, (q0.below hk q0.lt).cell 1 _ rfl, (q0.below hk q0.lt).cell 2 _ rfl⟩)
  have bd := bdrewE W
  clear sW
  have bA : Below W.heap.size W (W.alloc (.cells #[.int .i64 u] 3)).drew := ((Below.refl _ W).alloc (Nat.le_refl _) _).trans ((bdrewE _).mono (by rw [World.size_alloc]; omega))
  have HL1 := Lib.hid (HL.out W.drew (bW.trans (bd.mono bW.size)))
  have HL2 := Lib.hid (HL.out (W.alloc (.cells #[.int .i64 u] 3)).drew (bW.trans (bA.mono bW.size)))
  clear HL
  have HQ1 := Lib.hid fun w2 => HR.out (w2.alloc (.cells #[.int .i64 u] 3)) w2.heap.size (by rw [World.size_alloc]; omega) ((Blk.new w2 3 #[.int .i64 u]).cell 0 _ rfl)
  have hA0 : Blk (W.alloc (.cells #[.int .i64 u] 3)).drew W.heap.size 3 #[.int .i64 u] := (Blk.new W 3 #[.int .i64 u]).keep ((Keep.refl (fun _ => False) (W.alloc (.cells #[.int .i64 u] 3))).drew) (fun h => h)
  have HQ2 := Lib.hid fun w2 (hb2 : Below (W.alloc (.cells #[.int .i64 u] 3)).drew.heap.size (W.alloc (.cells #[.int .i64 u] 3)).drew w2) => HR.out w2 W.heap.size (Nat.lt_of_lt_of_le hA0.lt hb2.size) ((hA0.below hb2 hA0.lt).cell 0 _ rfl)
  go_region_held3 (fun V => (V.cell? ⟨w.heap.size, 0, none⟩ = some (.int .i64 (m.t : Int)) ∧ V.cell? ⟨w.heap.size, 1, none⟩ = some (.int .i64 (m.o : Int)) ∧ V.cell? ⟨w.heap.size, 2, none⟩ = some (.int .i64 (m.n : Int)))) (first | exact SK.out _ b4 | exact SK.out _ b3 | exact SK.out _ b2 | exact SK.out _ bA | exact SK.out _ bd) (first
    | (go_at_call 52; (with_reducible refine HL1.out.mono ?_); rintro e w2 ⟨rfl, hb2⟩; have b2 : Below W.heap.size W w2 := bd.trans hb2; have b3 : Below W.heap.size W (w2.alloc (.cells #[.int .i64 u] 3)) := b2.trans (((Below.refl _ w2).alloc (Nat.le_refl _) _).mono b2.size); have HR2 := Lib.hid (HQ1.out w2))
    | (go_at_call 52; (with_reducible refine HL2.out.mono ?_); rintro e w2 ⟨rfl, hb2⟩; have b3 : Below W.heap.size W w2 := bA.trans (hb2.mono bA.size); have HR2 := Lib.hid (HQ2.out w2 hb2))
    | (go_at_call 51; (with_reducible refine HR2.out.mono ?_); rintro e w4 ⟨rfl, hb4⟩; have b4 : Below W.heap.size W w4 := b3.trans (hb4.mono b3.size)))
  all_goals obtain ⟨c0, c1, c2⟩ := SK.out _ b4
  all_goals go_wp2_with (first | (go_at_call 54; refine (HX.out _).mono ?_; rintro e w5 ⟨rfl, hb5⟩; have b5 : Below W.heap.size W w5 := b4.trans (hb5.mono b4.size); have HI2 := Lib.hid (HI.out w5 (by have := b5.size; have := bW.size; omega))) | (go_at_call 55; refine HI2.out.mono ?_; rintro e w6 ⟨t', rfl, hM⟩))
  all_goals go_ret
  all_goals exact ⟨t', rfl, hM.madeM.of (bW.trans (b5.mono bW.size))⟩
set_option maxHeartbeats 2000000 in
theorem push_no (C P : Nat) (cv : Value) (t o k a : Int) (n : Int) (u : Int) (Q : Nat → Prop) (w : World) (hcv : cv = .pointer none ∨ ∃ c, cv = cellsV c) (hlen : ∀ W, Below w.heap.size w W → Calls Tryz.prog 52 #[cv] W fun e w' => e = .returned (.int .i64 n) ∧ Below W.heap.size W w') (hright : ∀ (W : World) (B : Nat), B < W.heap.size → W.cell? ⟨B, 0, none⟩ = some (.int .i64 u) → Calls Tryz.prog 51 #[.int .i64 n, .agg #[.int .i64 t, .int .i64 o, .int .i64 k], .int .i64 a, .slice (some ⟨B, 0, none⟩) 1 1] W fun e w' => e = .returned (.bool false) ∧ Below W.heap.size W w') (hQ : ∀ k, w.heap.size ≤ k → Q k) :
    Calls Tryz.prog 16 #[cv, .agg #[.int .i64 t, .int .i64 o, .int .i64 k], .int .i64 a, .int .i64 u] w fun e w' => ∃ t', e = .returned (pV t') ∧ MadeM (cellOps C P) w Q (retT (-1)) t' w' := by
  have HL := Lib.hid hlen
  have HR := Lib.hid hright
  have HQ := Lib.hid hQ
  have HY := Lib.hid fun W => readyQ C P Q (-1) W
  obtain ⟨cp, rfl⟩ : ∃ cp, cv = .pointer cp := by rcases hcv with rfl | ⟨c, rfl⟩ <;> exact ⟨_, rfl⟩
  clear hcv
  clear hlen hright hQ
  go_enter Tryz.func16, Tryz.ntmps16
  go_upto_region 1 with fail
  generalize hW : (w.alloc _) = W
  have bW : Below w.heap.size w W := by rw [← hW]; go_grown
  have sW : W.heap.size = w.heap.size + 1 := by rw [← hW]; simp
  have q0 : Blk W w.heap.size 24 #[.int .i64 t, .int .i64 o, .int .i64 k] := by rw [← hW]; exact Blk.new w _ _
  clear hW
  have SK := Lib.hid (show ∀ V, Below W.heap.size W V → (V.cell? ⟨w.heap.size, 0, none⟩ = some (.int .i64 t) ∧ V.cell? ⟨w.heap.size, 1, none⟩ = some (.int .i64 o) ∧ V.cell? ⟨w.heap.size, 2, none⟩ = some (.int .i64 k)) from fun V hk => ⟨(q0.below hk q0.lt).cell 0 _ rfl, (q0.below hk q0.lt).cell 1 _ rfl, (q0.below hk q0.lt).cell 2 _ rfl⟩)
  have bd := bdrewE W
  clear sW
  have bA : Below W.heap.size W (W.alloc (.cells #[.int .i64 u] 3)).drew := ((Below.refl _ W).alloc (Nat.le_refl _) _).trans ((bdrewE _).mono (by rw [World.size_alloc]; omega))
  have HL1 := Lib.hid (HL.out W.drew (bW.trans (bd.mono bW.size)))
  have HL2 := Lib.hid (HL.out (W.alloc (.cells #[.int .i64 u] 3)).drew (bW.trans (bA.mono bW.size)))
  clear HL
  have HQ1 := Lib.hid fun w2 => HR.out (w2.alloc (.cells #[.int .i64 u] 3)) w2.heap.size (by rw [World.size_alloc]; omega) ((Blk.new w2 3 #[.int .i64 u]).cell 0 _ rfl)
  have hA0 : Blk (W.alloc (.cells #[.int .i64 u] 3)).drew W.heap.size 3 #[.int .i64 u] := (Blk.new W 3 #[.int .i64 u]).keep ((Keep.refl (fun _ => False) (W.alloc (.cells #[.int .i64 u] 3))).drew) (fun h => h)
  have HQ2 := Lib.hid fun w2 (hb2 : Below (W.alloc (.cells #[.int .i64 u] 3)).drew.heap.size (W.alloc (.cells #[.int .i64 u] 3)).drew w2) => HR.out w2 W.heap.size (Nat.lt_of_lt_of_le hA0.lt hb2.size) ((hA0.below hb2 hA0.lt).cell 0 _ rfl)
  go_region_held3 (fun V => (V.cell? ⟨w.heap.size, 0, none⟩ = some (.int .i64 t) ∧ V.cell? ⟨w.heap.size, 1, none⟩ = some (.int .i64 o) ∧ V.cell? ⟨w.heap.size, 2, none⟩ = some (.int .i64 k))) (first | exact SK.out _ b4 | exact SK.out _ b3 | exact SK.out _ b2 | exact SK.out _ bA | exact SK.out _ bd) (first
    | (go_at_call 52; (with_reducible refine HL1.out.mono ?_); rintro e w2 ⟨rfl, hb2⟩; have b2 : Below W.heap.size W w2 := bd.trans hb2; have b3 : Below W.heap.size W (w2.alloc (.cells #[.int .i64 u] 3)) := b2.trans (((Below.refl _ w2).alloc (Nat.le_refl _) _).mono b2.size); have HR2 := Lib.hid (HQ1.out w2))
    | (go_at_call 52; (with_reducible refine HL2.out.mono ?_); rintro e w2 ⟨rfl, hb2⟩; have b3 : Below W.heap.size W w2 := bA.trans (hb2.mono bA.size); have HR2 := Lib.hid (HQ2.out w2 hb2))
    | (go_at_call 51; (with_reducible refine HR2.out.mono ?_); rintro e w4 ⟨rfl, hb4⟩; have b4 : Below W.heap.size W w4 := b3.trans (hb4.mono b3.size)))
  all_goals go_wp2_with (go_at_call 53; refine (HY.out _).mono ?_; rintro e w6 ⟨t', rfl, hM⟩)
  all_goals go_ret
  all_goals exact ⟨t', rfl, hM.madeM.of (bW.trans (b4.mono bW.size))⟩
set_option maxHeartbeats 2000000 in
theorem rem_yes (C P : Nat) (a : Nat) (m : Mp) (n : Int) (u : Int) (Q : Nat → Prop) (w : World) (hm : m.ok) (hu : 0 ≤ u ∧ u < m.t) (ha : a ≤ 100000000) (hlen : ∀ W, Below w.heap.size w W → Calls Tryz.prog 52 #[cellsV C] W fun e w' => e = .returned (.int .i64 n) ∧ Below W.heap.size W w') (hright : ∀ (W : World) (B : Nat), B < W.heap.size → W.cell? ⟨B, 0, none⟩ = some (.int .i64 u) → Calls Tryz.prog 51 #[.int .i64 n, mapV m, .int .i64 (a : Int), .slice (some ⟨B, 0, none⟩) 1 1] W fun e w' => e = .returned (.bool true) ∧ Below W.heap.size W w') (hQ : ∀ k, w.heap.size ≤ k → Q k) :
    Calls Tryz.prog 20 #[cellsV C, mapV m, .int .i64 (a : Int), .int .i64 u] w fun e w' => ∃ t', e = .returned (pV t') ∧ MadeM (cellOps C P) w Q (remT m a u (-1) []) t' w' := by
  have HL := Lib.hid hlen
  have HR := Lib.hid hright
  have HQ := Lib.hid hQ
  have HX := Lib.hid fun W => lineAt_any C a m W ha
  have HI := Lib.hid fun W (h : w.heap.size ≤ W.heap.size) => lrem_any C P a m Q u W hm hu (fun k hk => hQ k (by omega))
  clear hm hu ha
  clear hlen hright hQ
  go_enter Tryz.func20, Tryz.ntmps20
  go_upto_region 1 with fail
  generalize hW : (w.alloc _) = W
  have bW : Below w.heap.size w W := by rw [← hW]; go_grown
  have sW : W.heap.size = w.heap.size + 1 := by rw [← hW]; simp
  have q0 : Blk W w.heap.size 24 #[.int .i64 (m.t : Int), .int .i64 (m.o : Int), .int .i64 (m.n : Int)] := by rw [← hW]; exact Blk.new w _ _
  clear hW
  have SK := Lib.hid (show ∀ V, Below W.heap.size W V → (V.cell? ⟨w.heap.size, 0, none⟩ = some (.int .i64 (m.t : Int)) ∧ V.cell? ⟨w.heap.size, 1, none⟩ = some (.int .i64 (m.o : Int)) ∧ V.cell? ⟨w.heap.size, 2, none⟩ = some (.int .i64 (m.n : Int))) from fun V hk => ⟨(q0.below hk q0.lt).cell 0 _ rfl, (q0.below hk q0.lt).cell 1 _ rfl, (q0.below hk q0.lt).cell 2 _ rfl⟩)
  have bd := bdrewE W
  clear sW
  have bA : Below W.heap.size W (W.alloc (.cells #[.int .i64 u] 3)).drew := ((Below.refl _ W).alloc (Nat.le_refl _) _).trans ((bdrewE _).mono (by rw [World.size_alloc]; omega))
  have HL1 := Lib.hid (HL.out W.drew (bW.trans (bd.mono bW.size)))
  have HL2 := Lib.hid (HL.out (W.alloc (.cells #[.int .i64 u] 3)).drew (bW.trans (bA.mono bW.size)))
  clear HL
  have HQ1 := Lib.hid fun w2 => HR.out (w2.alloc (.cells #[.int .i64 u] 3)) w2.heap.size (by rw [World.size_alloc]; omega) ((Blk.new w2 3 #[.int .i64 u]).cell 0 _ rfl)
  have hA0 : Blk (W.alloc (.cells #[.int .i64 u] 3)).drew W.heap.size 3 #[.int .i64 u] := (Blk.new W 3 #[.int .i64 u]).keep ((Keep.refl (fun _ => False) (W.alloc (.cells #[.int .i64 u] 3))).drew) (fun h => h)
  have HQ2 := Lib.hid fun w2 (hb2 : Below (W.alloc (.cells #[.int .i64 u] 3)).drew.heap.size (W.alloc (.cells #[.int .i64 u] 3)).drew w2) => HR.out w2 W.heap.size (Nat.lt_of_lt_of_le hA0.lt hb2.size) ((hA0.below hb2 hA0.lt).cell 0 _ rfl)
  go_region_held3 (fun V => (V.cell? ⟨w.heap.size, 0, none⟩ = some (.int .i64 (m.t : Int)) ∧ V.cell? ⟨w.heap.size, 1, none⟩ = some (.int .i64 (m.o : Int)) ∧ V.cell? ⟨w.heap.size, 2, none⟩ = some (.int .i64 (m.n : Int)))) (first | exact SK.out _ b4 | exact SK.out _ b3 | exact SK.out _ b2 | exact SK.out _ bA | exact SK.out _ bd) (first
    | (go_at_call 52; (with_reducible refine HL1.out.mono ?_); rintro e w2 ⟨rfl, hb2⟩; have b2 : Below W.heap.size W w2 := bd.trans hb2; have b3 : Below W.heap.size W (w2.alloc (.cells #[.int .i64 u] 3)) := b2.trans (((Below.refl _ w2).alloc (Nat.le_refl _) _).mono b2.size); have HR2 := Lib.hid (HQ1.out w2))
    | (go_at_call 52; (with_reducible refine HL2.out.mono ?_); rintro e w2 ⟨rfl, hb2⟩; have b3 : Below W.heap.size W w2 := bA.trans (hb2.mono bA.size); have HR2 := Lib.hid (HQ2.out w2 hb2))
    | (go_at_call 51; (with_reducible refine HR2.out.mono ?_); rintro e w4 ⟨rfl, hb4⟩; have b4 : Below W.heap.size W w4 := b3.trans (hb4.mono b3.size)))
  all_goals obtain ⟨c0, c1, c2⟩ := SK.out _ b4
  all_goals go_wp2_with (first | (go_at_call 54; refine (HX.out _).mono ?_; rintro e w5 ⟨rfl, hb5⟩; have b5 : Below W.heap.size W w5 := b4.trans (hb5.mono b4.size); have HI2 := Lib.hid (HI.out w5 (by have := b5.size; have := bW.size; omega))) | (go_at_call 57; refine HI2.out.mono ?_; rintro e w6 ⟨t', rfl, hM⟩))
  all_goals go_ret
  all_goals exact ⟨t', rfl, hM.of (bW.trans (b5.mono bW.size))⟩
set_option maxHeartbeats 2000000 in
theorem rem_no (C P : Nat) (cv : Value) (t o k a : Int) (n : Int) (u : Int) (Q : Nat → Prop) (w : World) (hcv : cv = .pointer none ∨ ∃ c, cv = cellsV c) (hlen : ∀ W, Below w.heap.size w W → Calls Tryz.prog 52 #[cv] W fun e w' => e = .returned (.int .i64 n) ∧ Below W.heap.size W w') (hright : ∀ (W : World) (B : Nat), B < W.heap.size → W.cell? ⟨B, 0, none⟩ = some (.int .i64 u) → Calls Tryz.prog 51 #[.int .i64 n, .agg #[.int .i64 t, .int .i64 o, .int .i64 k], .int .i64 a, .slice (some ⟨B, 0, none⟩) 1 1] W fun e w' => e = .returned (.bool false) ∧ Below W.heap.size W w') (hQ : ∀ k, w.heap.size ≤ k → Q k) :
    Calls Tryz.prog 20 #[cv, .agg #[.int .i64 t, .int .i64 o, .int .i64 k], .int .i64 a, .int .i64 u] w fun e w' => ∃ t', e = .returned (pV t') ∧ MadeM (cellOps C P) w Q (retT (-1)) t' w' := by
  have HL := Lib.hid hlen
  have HR := Lib.hid hright
  have HQ := Lib.hid hQ
  have HY := Lib.hid fun W => readyQ C P Q (-1) W
  obtain ⟨cp, rfl⟩ : ∃ cp, cv = .pointer cp := by rcases hcv with rfl | ⟨c, rfl⟩ <;> exact ⟨_, rfl⟩
  clear hcv
  clear hlen hright hQ
  go_enter Tryz.func20, Tryz.ntmps20
  go_upto_region 1 with fail
  generalize hW : (w.alloc _) = W
  have bW : Below w.heap.size w W := by rw [← hW]; go_grown
  have sW : W.heap.size = w.heap.size + 1 := by rw [← hW]; simp
  have q0 : Blk W w.heap.size 24 #[.int .i64 t, .int .i64 o, .int .i64 k] := by rw [← hW]; exact Blk.new w _ _
  clear hW
  have SK := Lib.hid (show ∀ V, Below W.heap.size W V → (V.cell? ⟨w.heap.size, 0, none⟩ = some (.int .i64 t) ∧ V.cell? ⟨w.heap.size, 1, none⟩ = some (.int .i64 o) ∧ V.cell? ⟨w.heap.size, 2, none⟩ = some (.int .i64 k)) from fun V hk => ⟨(q0.below hk q0.lt).cell 0 _ rfl, (q0.below hk q0.lt).cell 1 _ rfl, (q0.below hk q0.lt).cell 2 _ rfl⟩)
  have bd := bdrewE W
  clear sW
  have bA : Below W.heap.size W (W.alloc (.cells #[.int .i64 u] 3)).drew := ((Below.refl _ W).alloc (Nat.le_refl _) _).trans ((bdrewE _).mono (by rw [World.size_alloc]; omega))
  have HL1 := Lib.hid (HL.out W.drew (bW.trans (bd.mono bW.size)))
  have HL2 := Lib.hid (HL.out (W.alloc (.cells #[.int .i64 u] 3)).drew (bW.trans (bA.mono bW.size)))
  clear HL
  have HQ1 := Lib.hid fun w2 => HR.out (w2.alloc (.cells #[.int .i64 u] 3)) w2.heap.size (by rw [World.size_alloc]; omega) ((Blk.new w2 3 #[.int .i64 u]).cell 0 _ rfl)
  have hA0 : Blk (W.alloc (.cells #[.int .i64 u] 3)).drew W.heap.size 3 #[.int .i64 u] := (Blk.new W 3 #[.int .i64 u]).keep ((Keep.refl (fun _ => False) (W.alloc (.cells #[.int .i64 u] 3))).drew) (fun h => h)
  have HQ2 := Lib.hid fun w2 (hb2 : Below (W.alloc (.cells #[.int .i64 u] 3)).drew.heap.size (W.alloc (.cells #[.int .i64 u] 3)).drew w2) => HR.out w2 W.heap.size (Nat.lt_of_lt_of_le hA0.lt hb2.size) ((hA0.below hb2 hA0.lt).cell 0 _ rfl)
  go_region_held3 (fun V => (V.cell? ⟨w.heap.size, 0, none⟩ = some (.int .i64 t) ∧ V.cell? ⟨w.heap.size, 1, none⟩ = some (.int .i64 o) ∧ V.cell? ⟨w.heap.size, 2, none⟩ = some (.int .i64 k))) (first | exact SK.out _ b4 | exact SK.out _ b3 | exact SK.out _ b2 | exact SK.out _ bA | exact SK.out _ bd) (first
    | (go_at_call 52; (with_reducible refine HL1.out.mono ?_); rintro e w2 ⟨rfl, hb2⟩; have b2 : Below W.heap.size W w2 := bd.trans hb2; have b3 : Below W.heap.size W (w2.alloc (.cells #[.int .i64 u] 3)) := b2.trans (((Below.refl _ w2).alloc (Nat.le_refl _) _).mono b2.size); have HR2 := Lib.hid (HQ1.out w2))
    | (go_at_call 52; (with_reducible refine HL2.out.mono ?_); rintro e w2 ⟨rfl, hb2⟩; have b3 : Below W.heap.size W w2 := bA.trans (hb2.mono bA.size); have HR2 := Lib.hid (HQ2.out w2 hb2))
    | (go_at_call 51; (with_reducible refine HR2.out.mono ?_); rintro e w4 ⟨rfl, hb4⟩; have b4 : Below W.heap.size W w4 := b3.trans (hb4.mono b3.size)))
  all_goals go_wp2_with (go_at_call 53; refine (HY.out _).mono ?_; rintro e w6 ⟨t', rfl, hM⟩)
  all_goals go_ret
  all_goals exact ⟨t', rfl, hM.madeM.of (bW.trans (b4.mono bW.size))⟩
set_option maxHeartbeats 2000000 in
theorem pop_yes (C P : Nat) (a : Nat) (m : Mp) (n : Int) (Q : Nat → Prop) (w : World) (hm : m.ok) (ha : a ≤ 100000000) (hlen : ∀ W, Below w.heap.size w W → Calls Tryz.prog 52 #[cellsV C] W fun e w' => e = .returned (.int .i64 n) ∧ Below W.heap.size W w') (hright : ∀ (W : World), Calls Tryz.prog 51 #[.int .i64 n, mapV m, .int .i64 (a : Int), .slice none 0 0] W fun e w' => e = .returned (.bool true) ∧ Below W.heap.size W w') (hQ : ∀ k, w.heap.size ≤ k → Q k) :
    Calls Tryz.prog 18 #[cellsV C, mapV m, .int .i64 (a : Int)] w fun e w' => ∃ t', e = .returned (pV t') ∧ MadeM (cellOps C P) w Q (popT m a) t' w' := by
  have HL := Lib.hid hlen
  have HR := Lib.hid hright
  have HQ := Lib.hid hQ
  have HX := Lib.hid fun W => lineAt_any C a m W ha
  have HI := Lib.hid fun W (h : w.heap.size ≤ W.heap.size) => lpop_any C P a m Q W hm (fun k hk => hQ k (by omega))
  clear hm ha
  clear hlen hright hQ
  go_enter Tryz.func18, Tryz.ntmps18
  go_upto_region 1 with fail
  generalize hW : (w.alloc _) = W
  have bW : Below w.heap.size w W := by rw [← hW]; go_grown
  have sW : W.heap.size = w.heap.size + 1 := by rw [← hW]; simp
  have q0 : Blk W w.heap.size 24 #[.int .i64 (m.t : Int), .int .i64 (m.o : Int), .int .i64 (m.n : Int)] := by rw [← hW]; exact Blk.new w _ _
  clear hW
  have SK := Lib.hid (show ∀ V, Below W.heap.size W V → (V.cell? ⟨w.heap.size, 0, none⟩ = some (.int .i64 (m.t : Int)) ∧ V.cell? ⟨w.heap.size, 1, none⟩ = some (.int .i64 (m.o : Int)) ∧ V.cell? ⟨w.heap.size, 2, none⟩ = some (.int .i64 (m.n : Int))) from fun V hk => ⟨(q0.below hk q0.lt).cell 0 _ rfl, (q0.below hk q0.lt).cell 1 _ rfl, (q0.below hk q0.lt).cell 2 _ rfl⟩)
  have bd := bdrewE W
  clear sW
  go_region_held3 (fun V => (V.cell? ⟨w.heap.size, 0, none⟩ = some (.int .i64 (m.t : Int)) ∧ V.cell? ⟨w.heap.size, 1, none⟩ = some (.int .i64 (m.o : Int)) ∧ V.cell? ⟨w.heap.size, 2, none⟩ = some (.int .i64 (m.n : Int)))) (first | exact SK.out _ b4 | exact SK.out _ b2 | exact SK.out _ bd) (first
    | (go_at_call 52; refine (HL.out _ (bW.trans (bd.mono bW.size))).mono ?_; rintro e w2 ⟨rfl, hb2⟩; have b2 : Below W.heap.size W w2 := bd.trans hb2)
    | (go_at_call 51; refine (HR.out _).mono ?_; rintro e w4 ⟨rfl, hb4⟩; have b4 : Below W.heap.size W w4 := b2.trans (hb4.mono b2.size)))
  all_goals obtain ⟨c0, c1, c2⟩ := SK.out _ b4
  all_goals go_wp2_with (first | (go_at_call 54; refine (HX.out _).mono ?_; rintro e w5 ⟨rfl, hb5⟩; have b5 : Below W.heap.size W w5 := b4.trans (hb5.mono b4.size); have HI2 := Lib.hid (HI.out w5 (by have := b5.size; have := bW.size; omega))) | (go_at_call 56; refine HI2.out.mono ?_; rintro e w6 ⟨t', rfl, hM⟩))
  all_goals go_ret
  all_goals exact ⟨t', rfl, hM.madeM.of (bW.trans (b5.mono bW.size))⟩
set_option maxHeartbeats 2000000 in
theorem pop_no (C P : Nat) (cv : Value) (t o k a : Int) (n : Int) (Q : Nat → Prop) (w : World) (hcv : cv = .pointer none ∨ ∃ c, cv = cellsV c) (hlen : ∀ W, Below w.heap.size w W → Calls Tryz.prog 52 #[cv] W fun e w' => e = .returned (.int .i64 n) ∧ Below W.heap.size W w') (hright : ∀ (W : World), Calls Tryz.prog 51 #[.int .i64 n, .agg #[.int .i64 t, .int .i64 o, .int .i64 k], .int .i64 a, .slice none 0 0] W fun e w' => e = .returned (.bool false) ∧ Below W.heap.size W w') (hQ : ∀ k, w.heap.size ≤ k → Q k) :
    Calls Tryz.prog 18 #[cv, .agg #[.int .i64 t, .int .i64 o, .int .i64 k], .int .i64 a] w fun e w' => ∃ t', e = .returned (pV t') ∧ MadeM (cellOps C P) w Q (retT (-1)) t' w' := by
  have HL := Lib.hid hlen
  have HR := Lib.hid hright
  have HQ := Lib.hid hQ
  have HY := Lib.hid fun W => readyQ C P Q (-1) W
  obtain ⟨cp, rfl⟩ : ∃ cp, cv = .pointer cp := by rcases hcv with rfl | ⟨c, rfl⟩ <;> exact ⟨_, rfl⟩
  clear hcv
  clear hlen hright hQ
  go_enter Tryz.func18, Tryz.ntmps18
  go_upto_region 1 with fail
  generalize hW : (w.alloc _) = W
  have bW : Below w.heap.size w W := by rw [← hW]; go_grown
  have sW : W.heap.size = w.heap.size + 1 := by rw [← hW]; simp
  have q0 : Blk W w.heap.size 24 #[.int .i64 t, .int .i64 o, .int .i64 k] := by rw [← hW]; exact Blk.new w _ _
  clear hW
  have SK := Lib.hid (show ∀ V, Below W.heap.size W V → (V.cell? ⟨w.heap.size, 0, none⟩ = some (.int .i64 t) ∧ V.cell? ⟨w.heap.size, 1, none⟩ = some (.int .i64 o) ∧ V.cell? ⟨w.heap.size, 2, none⟩ = some (.int .i64 k)) from fun V hk => ⟨(q0.below hk q0.lt).cell 0 _ rfl, (q0.below hk q0.lt).cell 1 _ rfl, (q0.below hk q0.lt).cell 2 _ rfl⟩)
  have bd := bdrewE W
  clear sW
  go_region_held3 (fun V => (V.cell? ⟨w.heap.size, 0, none⟩ = some (.int .i64 t) ∧ V.cell? ⟨w.heap.size, 1, none⟩ = some (.int .i64 o) ∧ V.cell? ⟨w.heap.size, 2, none⟩ = some (.int .i64 k))) (first | exact SK.out _ b4 | exact SK.out _ b2 | exact SK.out _ bd) (first
    | (go_at_call 52; refine (HL.out _ (bW.trans (bd.mono bW.size))).mono ?_; rintro e w2 ⟨rfl, hb2⟩; have b2 : Below W.heap.size W w2 := bd.trans hb2)
    | (go_at_call 51; refine (HR.out _).mono ?_; rintro e w4 ⟨rfl, hb4⟩; have b4 : Below W.heap.size W w4 := b2.trans (hb4.mono b2.size)))
  all_goals go_wp2_with (go_at_call 53; refine (HY.out _).mono ?_; rintro e w6 ⟨t', rfl, hM⟩)
  all_goals go_ret
  all_goals exact ⟨t', rfl, hM.madeM.of (bW.trans (b4.mono bW.size))⟩
end Go.Proofs.YtpejmkoheodblaaGreat
