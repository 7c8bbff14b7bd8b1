/- Package queue: the threads that were seen; remove's own functions. -/
import Derived.Test.YtmknnjjmmfbppaaGreatMgBegBF
import Derived.Test.YtmknnjjmmfbppaaGreatMgBegBG
import Derived.Maps.Own
import Derived.Maps.OwnSet
import Derived.Maps.Views
import Derived.Test.YtmknnjjmmfbppaaGreatMgBegAA
import Derived.RangeFuncNested
import Derived.RangeFuncBound
import Derived.RangeFuncCalls
import Derived.RangeFuncLeaves
namespace Go.Proofs.YtmknnjjmmfbppaaGreat
open Go.ChangeShapes Go.WideShapes Go.ChangeAt Go.RowKit Go.Maps
set_option linter.unusedVariables false
set_option maxRecDepth 100000
set_option linter.unusedSimpArgs false
/-- a map of the call's own in which these numbers are true -/
def SetAt (w : World) (bm : Nat) (L : List Int) : Prop := ∃ D : DataW Unit, w.ownsMap Tryz.prog 3 (plainElem Tryz.prog 4) bm L.length D ∧ IsMap D ∧ ∀ u : Int, -9223372036854775808 ≤ u ∧ u ≤ 9223372036854775807 → D.atKey (.int .i64 u) (.lit (.bool false)) = .lit (.bool (decide (u ∈ L)))
theorem lawSet : Keyed Tryz.prog 3 := int_keyed Tryz.underlying3
theorem zeroB (w : World) : (zeroValue 4).run Tryz.prog w = .ok (.bool false) w := by kernel_rfl
theorem int_wf {u : Int} (h : -9223372036854775808 ≤ u ∧ u ≤ 9223372036854775807) : (Lit.int .i64 u).wf = true := by
  simp [Lit.wf, IntKind.min, IntKind.max, IntKind.signed, IntKind.bits]
  omega
theorem SetAt.lt {w : World} {bm : Nat} {L : List Int} (h : SetAt w bm L) : bm < w.heap.size := by
  obtain ⟨D, h1, _⟩ := h
  exact h1.lt
theorem SetAt.keep {w w1 : World} {F : Nat → Prop} {bm : Nat} {L : List Int} (h : SetAt w bm L) (hk : Keep F w w1) (hn : ¬ F bm) : SetAt w1 bm L := by
  obtain ⟨D, h1, h2, h3⟩ := h
  have hlt := h1.lt
  obtain ⟨es, clock, hb, hr⟩ := h1
  exact ⟨D, ⟨es, clock, (hk.block bm hlt hn).trans hb, hr⟩, h2, h3⟩
theorem SetAt.made (w : World) : SetAt (w.alloc (.map #[] 0)) w.heap.size [] :=
  ⟨.map [], World.ownsMap_made w _ _ _, isMap_empty, fun u _ => by simp [DataW.atKey]⟩
theorem SetAt.look {w : World} {bm : Nat} {L : List Int} (h : SetAt w bm L) {u : Int} (hu : -9223372036854775808 ≤ u ∧ u ≤ 9223372036854775807) :
    (Instr.lookup 191 (.map (some bm)) (.int .i64 u) false).run Tryz.prog w = .ok (.bool (decide (u ∈ L))) w := by
  obtain ⟨D, h1, h2, h3⟩ := h
  obtain ⟨v, ps, hrun, hv⟩ := h1.lookup lawSet Tryz.underlying191 (zeroB w) (plainElem_bool Tryz.underlying4 false) (keyOf_int_mk Tryz.underlying3 (int_wf hu))
  rw [h3 u hu] at hv
  rw [hrun]
  cases v <;> simp [plainElem, Tryz.underlying4] at hv
  rw [hv.1]
theorem SetAt.put {w : World} {bm : Nat} {L : List Int} (h : SetAt w bm L) {u : Int} (hu : -9223372036854775808 ≤ u ∧ u ≤ 9223372036854775807) (hL : L.length < maxLen) :
    ∃ w', (Instr.mapUpdate 191 (.map (some bm)) (.int .i64 u) (.bool true)).run Tryz.prog w = .ok () w' ∧ SetAt w' bm (u :: L) ∧ w.grownBy w' (some bm) := by
  obtain ⟨D, h1, h2, h3⟩ := h
  obtain ⟨w', hrun, h4, h5⟩ := h1.update lawSet Tryz.underlying191 hL (keyOf_int_mk Tryz.underlying3 (int_wf hu)) (plainElem_bool Tryz.underlying4 true)
  refine ⟨w', hrun, ⟨_, h4, h2.put _ _, fun x hx => ?_⟩, h5⟩
  by_cases e : x = u
  · subst e
    rw [atKey_put_same h2 (by exact trivial)]
    simp
  · rw [atKey_put_other (by simpa using e), h3 x hx]
    simp [e]
/-- what remove's functions share: the line, the thread, the thread ahead, those that were seen -/
structure RemAt (w : World) (C a : Nat) (m : Mp) (t : Int) (bl bt ba bs bm : Nat) (p : Int) (L : List Int) : Prop where
  line : Blk w bl 163 (lineCs C a m)
  thr : Blk w bt 3 #[.int .i64 t]
  ahead : Blk w ba 3 #[.int .i64 p]
  seen : Blk w bs 191 #[.map (some bm)]
  set : SetAt w bm L
  ne : ba ≠ bl ∧ ba ≠ bt ∧ ba ≠ bs ∧ ba ≠ bm ∧ bm ≠ bl ∧ bm ≠ bt ∧ bm ≠ bs
theorem RemAt.keep {w w1 : World} {F : Nat → Prop} {C a : Nat} {m : Mp} {t : Int} {bl bt ba bs bm : Nat} {p : Int} {L : List Int} (h : RemAt w C a m t bl bt ba bs bm p L) (hk : Keep F w w1) (h1 : ¬ F bl) (h2 : ¬ F bt) (h3 : ¬ F ba) (h4 : ¬ F bs) (h5 : ¬ F bm) : RemAt w1 C a m t bl bt ba bs bm p L :=
  ⟨h.line.keep hk h1, h.thr.keep hk h2, h.ahead.keep hk h3, h.seen.keep hk h4, h.set.keep hk h5, h.ne⟩
theorem rem11_on (C P a : Nat) (m : Mp) (Q : Nat → Prop) (t p u : Int) (L : List Int) (bl bt ba bs bm : Nat) (w : World) (hR : RemAt w C a m t bl bt ba bs bm p L) (hu : -1 ≤ u ∧ u < m.t) (hm : m.ok) (h1 : u ≠ t) (h2 : u ≠ -1) (h3 : u ∉ L) (hL : L.length < maxLen) :
    Calls Tryz.prog 293 #[.int .i64 u, pV bt, pV bl, pV ba, pV bs] w fun e w' => ∃ t', e = .returned (pV t') ∧ w.heap.size ≤ t' ∧ DoneV w' (some ⟨t', 0, none⟩) (-2147483648) ∧ RemAt w' C a m t bl bt ba bs bm u (u :: L) ∧ Keep (fun b => b = ba ∨ b = bm) w w' := by
  have hmt := hm.t
  have hub : -9223372036854775808 ≤ u ∧ u ≤ 9223372036854775807 := by omega
  have c0 : w.cell? ⟨bt, 0, none⟩ = some (.int .i64 t) := hR.thr.cell 0 _ rfl
  have c1 : w.cell? ⟨bs, 0, none⟩ = some (.map (some bm)) := hR.seen.cell 0 _ rfl
  have hlk := hR.set.look hub
  rw [show decide (u ∈ L) = false by simpa using h3] at hlk
  have e1 : (u == t) = false := by simpa using h1
  have e2 : (u == -1) = false := by simpa using h2
  have HR := Lib.hid hR
  have HL := Lib.hid hL
  clear hR hL h3 hu hmt hm h1 h2
  go_enter Tryz.func293, Tryz.ntmps293
  go_upto_region 5 with fail
  have z0 := HR.out.ahead.free 0
  obtain ⟨n1, n2, n3, n4, n5, n6, n7⟩ := HR.out.ne
  have ks : Keep (fun b => b = ba) w ((w.setCell ⟨ba, 0, none⟩ (.int .i64 u)).drew) := ((Keep.refl (fun b => b = ba) w).set (p := ⟨ba, 0, none⟩) (fun _ => rfl) _).drew
  have hSa : SetAt ((w.setCell ⟨ba, 0, none⟩ (.int .i64 u)).drew) bm L := HR.out.set.keep ks (fun e => n4 e.symm)
  have c2 : w.cell? ⟨ba, 0, none⟩ = some (.int .i64 p) := HR.out.ahead.cell 0 _ rfl
  obtain ⟨w5, hup, hs5, hg5⟩ := hSa.put hub HL.out
  clear hSa hlk
  go_region
  have k5 : Keep (fun b => b = bm) ((w.setCell ⟨ba, 0, none⟩ (.int .i64 u)).drew) w5 := ⟨hg5.os, hg5.tape, hg5.output, hg5.size, fun k hk hn => hg5.block k hk (fun e => hn (by injection e))⟩
  have kA : Keep (fun b => b = ba ∨ b = bm) w w5 := (ks.mono (fun _ _ h => .inl h)).trans (k5.mono (fun _ _ h => .inr h))
  have hA : Blk w5 ba 3 #[.int .i64 u] := ((HR.out.ahead.set 0 (.int .i64 u)).keep ((Keep.refl (fun _ => False) _).drew) (fun h => h)).keep k5 n4
  have HA := Lib.hid hA
  have HS5 := Lib.hid hs5
  clear hup hA hs5 hg5 c0 c1 c2 z0 ks k5
  go_wp2_with (go_at_call 88; refine (ready_any _ _).mono ?_; rintro e w6 ⟨t', rfl, h1, h2, h3⟩)
  go_ret
  have k6 : Keep (fun _ => False) w5 w6 := Keep.ofBelow h3
  refine ⟨t', rfl, Nat.le_trans kA.size h1, .inr ⟨t', rfl, h2⟩, ⟨(HR.out.line.keep kA ?_).keep k6 (fun h => h), (HR.out.thr.keep kA ?_).keep k6 (fun h => h), HA.out.keep k6 (fun h => h), (HR.out.seen.keep kA ?_).keep k6 (fun h => h), HS5.out.keep k6 (fun h => h), HR.out.ne⟩, kA.trans (Keep.ofBelow h3)⟩
  · exact fun h => h.elim (fun e => n1 e.symm) (fun e => n5 e.symm)
  · exact fun h => h.elim (fun e => n2 e.symm) (fun e => n6 e.symm)
  · exact fun h => h.elim (fun e => n3 e.symm) (fun e => n7 e.symm)
theorem rem11_end (C P a : Nat) (m : Mp) (Q : Nat → Prop) (t p u : Int) (L : List Int) (bl bt ba bs bm : Nat) (w : World) (hR : RemAt w C a m t bl bt ba bs bm p L) (hu : -1 ≤ u ∧ u < m.t) (hm : m.ok) (h1 : u ≠ t) (h2 : u = -1 ∨ u ∈ L) :
    Calls Tryz.prog 293 #[.int .i64 u, pV bt, pV bl, pV ba, pV bs] w fun e w' => ∃ t', e = .returned (pV t') ∧ w.heap.size ≤ t' ∧ DoneV w' (some ⟨t', 0, none⟩) 0 ∧ Below w.heap.size w w' := by
  have hmt := hm.t
  have hub : -9223372036854775808 ≤ u ∧ u ≤ 9223372036854775807 := by omega
  have c0 : w.cell? ⟨bt, 0, none⟩ = some (.int .i64 t) := hR.thr.cell 0 _ rfl
  have c1 : w.cell? ⟨bs, 0, none⟩ = some (.map (some bm)) := hR.seen.cell 0 _ rfl
  have hlk := hR.set.look hub
  have e1 : (u == t) = false := by simpa using h1
  clear hR hu hmt hm
  by_cases h : u = -1
  · subst h
    clear h2 h1 hlk c1
    go_enter Tryz.func293, Tryz.ntmps293
    go_wp2_with (go_at_call 88; refine (ready_any _ _).mono ?_; rintro e w6 ⟨t', rfl, h1, h2, h3⟩)
    go_ret
    exact ⟨t', rfl, h1, .inr ⟨t', rfl, h2⟩, h3⟩
  · have e2 : (u == -1) = false := by simpa using h
    rw [show decide (u ∈ L) = true by simpa using h2.resolve_left h] at hlk
    clear h2 h1 h
    go_enter Tryz.func293, Tryz.ntmps293
    go_wp2_with (go_at_call 88; refine (ready_any _ _).mono ?_; rintro e w6 ⟨t', rfl, h1, h2, h3⟩)
    go_ret
    exact ⟨t', rfl, h1, .inr ⟨t', rfl, h2⟩, h3⟩
theorem rem11_is (C P a : Nat) (m : Mp) (Q : Nat → Prop) (t p : Int) (L : List Int) (bl bt ba bs bm : Nat) (w : World) (hR : RemAt w C a m t bl bt ba bs bm p L) (hp : -1 ≤ p ∧ p < m.t) (ht : 0 ≤ t ∧ t < m.t) (hm : m.ok) (hQ : ∀ k, w.heap.size ≤ k → Q k) :
    Calls Tryz.prog 293 #[.int .i64 t, pV bt, pV bl, pV ba, pV bs] w fun e w' => ∃ t', e = .returned (pV t') ∧ MadeQ (cellOps C P) w Q (seqT [unlinkT m a p t, retT 1]) t' w' := by
  have c0 : w.cell? ⟨bt, 0, none⟩ = some (.int .i64 t) := hR.thr.cell 0 _ rfl
  have c1 : w.cell? ⟨ba, 0, none⟩ = some (.int .i64 p) := hR.ahead.cell 0 _ rfl
  have d0 : w.cell? ⟨bl, 0, none⟩ = some (cellsV C) := hR.line.cell 0 _ rfl
  have d1 : w.cell? ⟨bl, 1, none⟩ = some (.int .i64 (a : Int)) := hR.line.cell 1 _ rfl
  have d2 : w.cell? ⟨bl, 2, none⟩ = some (.int .i64 ((a : Int) + 1)) := hR.line.cell 2 _ rfl
  have d3 : w.cell? ⟨bl, 3, none⟩ = some (nextV m) := hR.line.cell 3 _ rfl
  have d4 : w.cell? ⟨bl, 4, none⟩ = some (.int .i64 (m.t : Int)) := hR.line.cell 4 _ rfl
  have HU := Lib.hid (unlink_any C P a m Q p t w hm hp ht hQ)
  have HR := Lib.hid fun W => readyQ C P Q 1 W
  have HQ := Lib.hid hQ
  have HSQ := Lib.hid fun V t1 t2 (hV : Below w.heap.size w V) h1 h2 q1 q2 => seqT_two (cellOps C P) Q (unlinkT m a p t) (retT 1) t1 t2 V h1 h2 q1 q2 (fun k hk => HQ.out k (by have := hV.size; omega))
  clear hR hm hp ht hQ
  go_enter Tryz.func293, Tryz.ntmps293
  go_wp2_with (first
    | (go_at_call 294; refine HU.out.mono ?_; rintro e w2 ⟨t1, rfl, hM1⟩; have HR2 := Lib.hid (HR.out w2))
    | (go_at_call 88; refine HR2.out.mono ?_; rintro e w3 ⟨t2, rfl, hM2⟩; have b3 : Below w.heap.size w w3 := hM1.2.2.trans (hM2.2.2.mono hM1.2.2.size); have HSQ2 := Lib.hid (HSQ.out w3 t1 t2 b3 (hM1.task.at hM2.2.2) hM2.task (HQ.out _ hM1.1) (HQ.out _ (Nat.le_trans hM1.2.2.size hM2.1))))
    | (go_at_call 138; refine HSQ2.out.mono ?_; rintro e w5 ⟨t3, rfl, hM3⟩))
  go_ret
  exact ⟨t3, rfl, hM3.of b3⟩
theorem call_rem1 : ∀ (W : World) (args : Array Value), (callFunc 292 args).run Tryz.prog W = .ok (.enter 292 args) W := by
  intro W args
  go_simp
theorem call_rem11 : ∀ (W : World) (args : Array Value), (callFunc 293 args).run Tryz.prog W = .ok (.enter 293 args) W := by
  intro W args
  go_simp
abbrev rem1V (bl bt ba bs : Nat) : Value := cloV 292 #[pV bl, pV ba, pV bt, pV bs]
abbrev rem11V (bl bt ba bs : Nat) : Value := cloV 293 #[pV bt, pV bl, pV ba, pV bs]
theorem rem1_any (C a : Nat) (m : Mp) (Q : Nat → Prop) (t p : Int) (L : List Int) (bl bt ba bs bm : Nat) (w : World) (hR : RemAt w C a m t bl bt ba bs bm p L) (hp : -1 ≤ p ∧ p < m.t) (hm : m.ok) (hQ : ∀ k, w.heap.size ≤ k → Q k) :
    Calls Tryz.prog 292 #[pV bl, pV ba, pV bt, pV bs] w fun e w' => ∃ t' W d r f br bl2, e = .returned (pV t') ∧ Below w.heap.size w W ∧ ReadAt W w' C a m Q (behN m a p) (rem11V bl bt ba bs) t' d r f br bl2 ∧ Below w.heap.size w w' := by
  have hmf : ∀ (fn : Fn) (first cap : Array Value) (w : World), (Instr.makeFunc fn first cap).run Tryz.prog w = .ok (.func fn first cap) w := fun _ _ _ _ => rfl
  have HB := Lib.hid fun W => behind_any C a m p W hm hp
  have HD := Lib.hid fun W (h : w.heap.size ≤ W.heap.size) => read_raw C a m (behN m a p) 293 #[pV bt, pV bl, pV ba, pV bs] Q W (fun k hk => hQ k (by omega))
  have SK := Lib.hid (show ∀ V, Below w.heap.size w V → (V.cell? ⟨bl, 0, none⟩ = some (cellsV C) ∧ V.cell? ⟨bl, 1, none⟩ = some (.int .i64 (a : Int)) ∧ V.cell? ⟨bl, 2, none⟩ = some (.int .i64 ((a : Int) + 1)) ∧ V.cell? ⟨bl, 3, none⟩ = some (nextV m) ∧ V.cell? ⟨bl, 4, none⟩ = some (.int .i64 (m.t : Int))) ∧ V.cell? ⟨ba, 0, none⟩ = some (.int .i64 p) from fun V hk => ⟨lineE_of (hR.line.below hk hR.line.lt), (hR.ahead.below hk hR.ahead.lt).cell 0 _ rfl⟩)
  have bd := bdrewE w
  clear hR hp hm hQ
  go_enter Tryz.func292, Tryz.ntmps292
  go_upto_region 1 with fail
  go_region_held3 (fun V => (V.cell? ⟨bl, 0, none⟩ = some (cellsV C) ∧ V.cell? ⟨bl, 1, none⟩ = some (.int .i64 (a : Int)) ∧ V.cell? ⟨bl, 2, none⟩ = some (.int .i64 ((a : Int) + 1)) ∧ V.cell? ⟨bl, 3, none⟩ = some (nextV m) ∧ V.cell? ⟨bl, 4, none⟩ = some (.int .i64 (m.t : Int))) ∧ V.cell? ⟨ba, 0, none⟩ = some (.int .i64 p)) (first | exact SK.out _ b3 | exact SK.out _ b2 | exact SK.out _ bd) (first
    | (go_at_call 265; refine (HB.out _).mono ?_; rintro e w2 ⟨rfl, hb2⟩; have b2 : Below w.heap.size w w2 := bd.trans hb2; have HD2 := Lib.hid (HD.out w2 b2.size))
    | (go_at_call 289; refine HD2.out.mono ?_; rintro e w3 ⟨t', d, r, f, br, bl2, rfl, hA, hb3⟩; have b3 : Below w.heap.size w w3 := b2.trans (hb3.mono b2.size)))
  all_goals go_wp2
  all_goals go_ret
  all_goals exact ⟨t', w2, d, r, f, br, bl2, rfl, b2, hA, b3⟩
end Go.Proofs.YtmknnjjmmfbppaaGreat
/- A range over a function whose iterator turns blocks of its own (Z), and whose body makes new ones: what the body holds stands while those are turned; the body keeps them. The body never leaves. No program is named here. (After XScRange.) -/
namespace Go.Proofs.YtmknnjjmmfbppaaGreat
open Go.ChangeShapes Go.WideShapes Go.ChangeAt Go.RowKit
set_option linter.unusedVariables false
theorem keep_put {W : World} {l : Nat} (o : Obj) : Keep (fun i => i = l) W (W.putObj l o) :=
  ⟨rfl, rfl, rfl, by simp [World.putObj], fun i _ hi => World.putObj_heap_other (fun e => hi (by first | exact e | exact e.symm))⟩
/-- what a round keeps: all but the caller's own blocks and the loop's two -/
abbrev RKeep (Qb : Nat → Prop) (B : Nat) := Keep (fun i => Qb i ∨ (B ≤ i ∧ i < B + 2))
/-- the contract of such an iterator, called where the loop's two blocks were laid last -/
def SeqOwnZ {α : Type} (F : Fence) (n : Nat) (P : Program) (g : Nat) (lb : Array Value) (encs : α → Array Value) (xs : List α) (Qb Z : Nat → Prop) (B : Nat) (w : World) : Prop :=
  ∀ (J : List α → World → Prop) (W : World), Below w.heap.size w W → W.heap.size = B + 2 → (∀ s A A', J s A → Keep Z A A' → J s A') →
    (∀ pre x A, J pre A → pre.length < xs.length → (∀ i, Z i → i < A.heap.size) → YieldAt F (n - 1) P (B + 1) (encs x) A fun e A' => e = .returned (.bool true) ∧ J (pre ++ [x]) A' ∧ RKeep Qb B A A') →
    J [] W → CallsIn F n P g (#[.func (.yield (B + 1)) #[] #[]] ++ lb) W fun e W' => (∃ v, e = .returned v) ∧ J xs W'
theorem wpIn_range_ownZ {α : Type} {F : Fence} {n : Nat} {P : Program} {g : Operand} {ps : Array Tmp} {assign body : Code} {Q : Exit → Act → World → Prop} {a : Act} {w : World}
    (hro : F.round = none) (h1 : 1 ≤ n) {gf : Nat} {lb : Array Value} (hg : a.eval g = .func (.func gf) #[] lb) (hFg : F.fn gf) (eg : ∀ args w, (callFunc gf args).run P w = .ok (.enter gf args) w)
    {encs : α → Array Value} {xs : List α} {Qb Z : Nat → Prop} (hQ : ∀ i, Qb i → i < w.heap.size ∨ w.heap.size + 2 ≤ i) (hZ : ∀ i, Z i → w.heap.size + 2 ≤ i) (hseq : SeqOwnZ F (n - 1) P gf lb encs xs Qb Z w.heap.size w) (hps : ∀ x, (encs x).size = ps.size)
    (I : List α → World → Prop) (hI : ∀ s A A', I s A → Keep (fun i => Z i ∨ (w.heap.size ≤ i ∧ i < w.heap.size + 2)) A A' → I s A') (h0 : I [] w)
    (Ax : α → Act → World → Prop) (hAx : ∀ x a' A A', Ax x a' A → Keep (fun i => i = w.heap.size + 1) A A' → Ax x a' A')
    (hassign : ∀ (pre : List α) (x : α) (W : World) (K : Act → World → Prop), I pre W → w.heap.size + 2 ≤ W.heap.size → (∀ a' W', Below W.heap.size W W' → Ax x a' W' → K a' W') →
      assign.wpIn (F.inRound (w.heap.size + 1)) (n - 1 - 1) P (Exit.then K (fun _ _ _ => False)) { tmps := (ps.zip (encs x)).foldl (fun t (p, v) => t.setIfInBounds p v) a.tmps, defers := [] } W)
    (hbody : ∀ (pre : List α) (x : α) (a' : Act) (W : World), I pre W → Ax x a' W → w.heap.size + 2 ≤ W.heap.size → pre.length < xs.length → (∀ i, Z i → i < W.heap.size) →
      body.wpIn (F.inRound (w.heap.size + 1)) (n - 1 - 1) P (fun e _ W' => e = .normal ∧ I (pre ++ [x]) W' ∧ Keep Qb W W') a' W)
    (hdone : ∀ (W : World), I xs W → w.heap.size < W.heap.size → W.heap[w.heap.size]? = some (.deferred (some [])) → Q .normal { a with defers := { target := .collected w.heap.size, args := #[] } :: a.defers } W) :
    (Code.rangeFunc g ps assign body).wpIn F n P Q a w := by
  refine wpIn_rangeFunc ?_
  intro fn hfn
  rw [hro]
  obtain ⟨mk, hmk⟩ : ∃ mk : LoopState → Loop, mk = fun st => { state := st, pending := none, fn, tmps := a.tmps, params := ps, assign, body, defers := w.heap.size } := ⟨_, rfl⟩
  obtain ⟨W1, hW1⟩ : ∃ W1, (w.alloc (.deferred (some []))).alloc (.loop (mk .ready)) = W1 := ⟨_, rfl⟩
  have sW1 : W1.heap.size = w.heap.size + 2 := by rw [← hW1]; simp
  have hL1 : W1.heap[w.heap.size + 1]? = some (.loop (mk .ready)) := by
    rw [← hW1]; have := World.alloc_heap_new (w.alloc (.deferred (some []))) (.loop (mk .ready)); rwa [World.size_alloc] at this
  have hK1 : W1.heap[w.heap.size]? = some (.deferred (some [])) := by
    rw [← hW1]; exact (Below.heap_alloc _ _ _ (by simp)).trans (World.alloc_heap_new w _)
  have hb1 : Below w.heap.size w W1 := by rw [← hW1]; exact ((Below.refl _ w).alloc (Nat.le_refl _) _).alloc (by simp) _
  refine ⟨w.heap.size + 1, [{ target := .collected w.heap.size, args := #[] }], W1, { target := .fn (.func gf) lb, args := #[.func (.yield (w.heap.size + 1)) #[] #[]] }, W1, gf,
    #[.func (.yield (w.heap.size + 1)) #[] #[]] ++ lb, W1, ?_, ?_, ?_, ?_, fun _ => h1, ?_⟩
  · rw [← hW1, hmk]; exact run_enterLoop_outer _ _ _ _ _
  · simp only [resolve, hg]
    simp [go_sem]
  · intro f' hf'; simp [Target.leads] at hf'; subst hf'; exact hFg
  · simp [invoke, go_sem, eg]
  · refine (hseq (fun pre W => I pre W ∧ W.heap[w.heap.size + 1]? = some (.loop (mk .ready)) ∧ W.heap[w.heap.size]? = some (.deferred (some []))) W1 hb1 sW1 ?_ ?_ ⟨hI _ _ _ h0 (Keep.ofBelow hb1), hL1, hK1⟩).mono ?_
    · rintro s A A' ⟨i1, i2, i3⟩ hb
      exact ⟨hI _ _ _ i1 (hb.mono fun _ _ h => .inl h), (hb.block _ (Array.getElem?_eq_some_iff.1 i2).1 (fun h => by have := hZ _ h; omega)).trans i2, (hb.block _ (Array.getElem?_eq_some_iff.1 i3).1 (fun h => by have := hZ _ h; omega)).trans i3⟩
    · rintro pre x W ⟨hi, hl, hk⟩ hlen hzl
      have hlt : w.heap.size + 1 < W.heap.size := (Array.getElem?_eq_some_iff.1 hl).1
      have hy := run_yield (P := P) (args := encs x) hl (by rw [hmk]; exact hps x)
      rw [hmk] at hy
      refine ⟨fn, _, assign, body, hy, roundIn_of_wpIn hfn (hassign pre x W _ hi (by omega) ?_)⟩
      intro a' Wa hba hax
      have hla := (hba.block _ hlt).trans hl
      have hka := (hba.block (w.heap.size) (by omega)).trans hk
      have hsa := hba.size
      refine ⟨_, run_beginRound hla (by rw [hmk]), ?_⟩
      obtain ⟨Wb, hWb⟩ : ∃ Wb, Wa.putObj (w.heap.size + 1) (.loop { mk .ready with state := .busy }) = Wb := ⟨_, rfl⟩
      rw [hWb]
      have kb : Keep (fun i => i = w.heap.size + 1) Wa Wb := by rw [← hWb]; exact keep_put _
      have hlb : Wb.heap[w.heap.size + 1]? = some (.loop { mk .ready with state := .busy }) := by rw [← hWb]; exact World.putObj_heap_same (by omega)
      have hkb : Wb.heap[w.heap.size]? = some (.deferred (some [])) := (kb.block _ (by omega) (by omega)).trans hka
      have hib : I pre Wb := hI _ _ _ (hI _ _ _ hi (Keep.ofBelow hba)) (kb.mono fun i _ e => .inr (by omega))
      refine wpIn_mono (hbody pre x a' Wb hib (hAx _ _ _ _ hax kb) (by have := kb.size; omega) hlen (fun i hz => by have := hzl i hz; have := hba.size; have := kb.size; omega)) ?_
      rintro e a3 W3 ⟨rfl, hi3, k3⟩
      have hl3 : W3.heap[w.heap.size + 1]? = some (.loop { mk .ready with state := .busy }) := (k3.block _ (by have := kb.size; omega) (fun e => by have := hQ _ e; omega)).trans hlb
      have hk3 : W3.heap[w.heap.size]? = some (.deferred (some [])) := (k3.block _ (by have := kb.size; omega) (fun e => by have := hQ _ e; omega)).trans hkb
      have hr := run_endRound (P := P) none hl3
      obtain ⟨W4, hW4⟩ : ∃ W4, W3.putObj (w.heap.size + 1) (.loop (mk .ready)) = W4 := ⟨_, rfl⟩
      have k4 : Keep (fun i => i = w.heap.size + 1) W3 W4 := by rw [← hW4]; exact keep_put _
      have hs3 : w.heap.size + 1 < W3.heap.size := (Array.getElem?_eq_some_iff.1 hl3).1
      have hl4 : W4.heap[w.heap.size + 1]? = some (.loop (mk .ready)) := by rw [← hW4]; exact World.putObj_heap_same hs3
      refine ⟨.bool true, W4, ?_, rfl, ⟨hI _ _ _ hi3 (k4.mono fun i _ e => .inr (by omega)), hl4, (k4.block _ (by omega) (by omega)).trans hk3⟩, ?_⟩
      · rw [← hW4]
        rw [hmk] at hr ⊢
        exact hr
      · have ka : RKeep Qb w.heap.size W Wa := Keep.ofBelow hba
        exact ((ka.trans (kb.mono (fun i _ e => .inr (by omega)))).trans (k3.mono (fun i _ e => .inl e))).trans (k4.mono (fun i _ e => .inr (by omega)))
    · rintro e W2 ⟨⟨v, rfl⟩, hi, hl, hk⟩
      have he := run_endLoop (P := P) hl (by rw [hmk]; simp)
      have hs2 : w.heap.size + 1 < W2.heap.size := (Array.getElem?_eq_some_iff.1 hl).1
      have k5 : Keep (fun i => i = w.heap.size + 1) W2 (W2.putObj (w.heap.size + 1) (.loop { mk .ready with state := .exhausted })) := keep_put _
      refine ⟨none, _, ?_, hdone _ (hI _ _ _ hi (k5.mono fun i _ e => .inr (by omega))) (by have := k5.size; omega) ((k5.block _ (by omega) (by omega)).trans hk)⟩
      rw [hmk] at he ⊢
      exact he
end Go.Proofs.YtmknnjjmmfbppaaGreat
