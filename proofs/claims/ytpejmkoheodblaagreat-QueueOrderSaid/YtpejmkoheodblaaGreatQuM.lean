/- Package queue: the threads that were seen; remove's own functions. -/
import Derived.Test.YtpejmkoheodblaaGreatQuE
import Derived.Test.YtpejmkoheodblaaGreatTreM
import Derived.Maps.Own
import Derived.Maps.OwnSet
import Derived.Maps.Views
namespace Go.Proofs.YtpejmkoheodblaaGreat
open Go.ChangeShapes Go.WideShapes Go.ChangeAt Go.RowKit Go.Maps
set_option linter.unusedVariables false
set_option maxRecDepth 100000
set_option linter.unusedSimpArgs false
/-- a map of the call's own in which these numbers are true -/
def SetAt (w : World) (bm : Nat) (L : List Int) : Prop := ∃ D : DataW Unit, w.ownsMap Tryz.prog 3 (plainElem Tryz.prog 4) bm L.length D ∧ IsMap D ∧ ∀ u : Int, -9223372036854775808 ≤ u ∧ u ≤ 9223372036854775807 → D.atKey (.int .i64 u) (.lit (.bool false)) = .lit (.bool (decide (u ∈ L)))
theorem lawSet : Keyed Tryz.prog 3 := int_keyed Tryz.underlying3
theorem zeroB (w : World) : (zeroValue 4).run Tryz.prog w = .ok (.bool false) w := by kernel_rfl
theorem int_wf {u : Int} (h : -9223372036854775808 ≤ u ∧ u ≤ 9223372036854775807) : (Lit.int .i64 u).wf = true := by
  simp [Lit.wf, IntKind.min, IntKind.max, IntKind.signed, IntKind.bits]
  omega
theorem SetAt.lt {w : World} {bm : Nat} {L : List Int} (h : SetAt w bm L) : bm < w.heap.size := by
  obtain ⟨D, h1, _⟩ := h
  exact h1.lt
theorem SetAt.keep {w w1 : World} {F : Nat → Prop} {bm : Nat} {L : List Int} (h : SetAt w bm L) (hk : Keep F w w1) (hn : ¬ F bm) : SetAt w1 bm L := by
  obtain ⟨D, h1, h2, h3⟩ := h
  have hlt := h1.lt
  obtain ⟨es, clock, hb, hr⟩ := h1
  exact ⟨D, ⟨es, clock, (hk.block bm hlt hn).trans hb, hr⟩, h2, h3⟩
theorem SetAt.made (w : World) : SetAt (w.alloc (.map #[] 0)) w.heap.size [] :=
  ⟨.map [], World.ownsMap_made w _ _ _, isMap_empty, fun u _ => by simp [DataW.atKey]⟩
theorem SetAt.look {w : World} {bm : Nat} {L : List Int} (h : SetAt w bm L) {u : Int} (hu : -9223372036854775808 ≤ u ∧ u ≤ 9223372036854775807) :
    (Instr.lookup 120 (.map (some bm)) (.int .i64 u) false).run Tryz.prog w = .ok (.bool (decide (u ∈ L))) w := by
  obtain ⟨D, h1, h2, h3⟩ := h
  obtain ⟨v, ps, hrun, hv⟩ := h1.lookup lawSet Tryz.underlying120 (zeroB w) (plainElem_bool Tryz.underlying4 false) (keyOf_int_mk Tryz.underlying3 (int_wf hu))
  rw [h3 u hu] at hv
  rw [hrun]
  cases v <;> simp [plainElem, Tryz.underlying4] at hv
  rw [hv.1]
theorem SetAt.put {w : World} {bm : Nat} {L : List Int} (h : SetAt w bm L) {u : Int} (hu : -9223372036854775808 ≤ u ∧ u ≤ 9223372036854775807) (hL : L.length < maxLen) :
    ∃ w', (Instr.mapUpdate 120 (.map (some bm)) (.int .i64 u) (.bool true)).run Tryz.prog w = .ok () w' ∧ SetAt w' bm (u :: L) ∧ w.grownBy w' (some bm) := by
  obtain ⟨D, h1, h2, h3⟩ := h
  obtain ⟨w', hrun, h4, h5⟩ := h1.update lawSet Tryz.underlying120 hL (keyOf_int_mk Tryz.underlying3 (int_wf hu)) (plainElem_bool Tryz.underlying4 true)
  refine ⟨w', hrun, ⟨_, h4, h2.put _ _, fun x hx => ?_⟩, h5⟩
  by_cases e : x = u
  · subst e
    rw [atKey_put_same h2 (by exact trivial)]
    simp
  · rw [atKey_put_other (by simpa using e), h3 x hx]
    simp [e]
/-- what remove's functions share: the line, the thread, the thread ahead, those that were seen -/
structure RemAt (w : World) (C a : Nat) (m : Mp) (t : Int) (bl bt ba bs bm : Nat) (p : Int) (L : List Int) : Prop where
  line : Blk w bl 88 (lineCs C a m)
  thr : Blk w bt 3 #[.int .i64 t]
  ahead : Blk w ba 3 #[.int .i64 p]
  seen : Blk w bs 120 #[.map (some bm)]
  set : SetAt w bm L
  ne : ba ≠ bl ∧ ba ≠ bt ∧ ba ≠ bs ∧ ba ≠ bm ∧ bm ≠ bl ∧ bm ≠ bt ∧ bm ≠ bs
theorem RemAt.keep {w w1 : World} {F : Nat → Prop} {C a : Nat} {m : Mp} {t : Int} {bl bt ba bs bm : Nat} {p : Int} {L : List Int} (h : RemAt w C a m t bl bt ba bs bm p L) (hk : Keep F w w1) (h1 : ¬ F bl) (h2 : ¬ F bt) (h3 : ¬ F ba) (h4 : ¬ F bs) (h5 : ¬ F bm) : RemAt w1 C a m t bl bt ba bs bm p L :=
  ⟨h.line.keep hk h1, h.thr.keep hk h2, h.ahead.keep hk h3, h.seen.keep hk h4, h.set.keep hk h5, h.ne⟩
theorem rem11_on (C P a : Nat) (m : Mp) (Q : Nat → Prop) (t p u : Int) (L : List Int) (bl bt ba bs bm : Nat) (w : World) (hR : RemAt w C a m t bl bt ba bs bm p L) (hu : -1 ≤ u ∧ u < m.t) (hm : m.ok) (h1 : u ≠ t) (h2 : u ≠ -1) (h3 : u ∉ L) (hL : L.length < maxLen) :
    Calls Tryz.prog 90 #[.int .i64 u, pV bt, pV bl, pV ba, pV bs] w fun e w' => ∃ t', e = .returned (pV t') ∧ w.heap.size ≤ t' ∧ DoneV w' (some ⟨t', 0, none⟩) (-2147483648) ∧ RemAt w' C a m t bl bt ba bs bm u (u :: L) ∧ Keep (fun b => b = ba ∨ b = bm) w w' := by
  have hmt := hm.t
  have hub : -9223372036854775808 ≤ u ∧ u ≤ 9223372036854775807 := by omega
  have c0 : w.cell? ⟨bt, 0, none⟩ = some (.int .i64 t) := hR.thr.cell 0 _ rfl
  have c1 : w.cell? ⟨bs, 0, none⟩ = some (.map (some bm)) := hR.seen.cell 0 _ rfl
  have hlk := hR.set.look hub
  rw [show decide (u ∈ L) = false by simpa using h3] at hlk
  have e1 : (u == t) = false := by simpa using h1
  have e2 : (u == -1) = false := by simpa using h2
  have HR := Lib.hid hR
  have HL := Lib.hid hL
  clear hR hL h3 hu hmt hm h1 h2
  go_enter Tryz.func90, Tryz.ntmps90
  go_upto_region 5 with fail
  have z0 := HR.out.ahead.free 0
  obtain ⟨n1, n2, n3, n4, n5, n6, n7⟩ := HR.out.ne
  have ks : Keep (fun b => b = ba) w ((w.setCell ⟨ba, 0, none⟩ (.int .i64 u)).drew) := ((Keep.refl (fun b => b = ba) w).set (p := ⟨ba, 0, none⟩) (fun _ => rfl) _).drew
  have hSa : SetAt ((w.setCell ⟨ba, 0, none⟩ (.int .i64 u)).drew) bm L := HR.out.set.keep ks (fun e => n4 e.symm)
  have c2 : w.cell? ⟨ba, 0, none⟩ = some (.int .i64 p) := HR.out.ahead.cell 0 _ rfl
  obtain ⟨w5, hup, hs5, hg5⟩ := hSa.put hub HL.out
  clear hSa hlk
  go_region
  have k5 : Keep (fun b => b = bm) ((w.setCell ⟨ba, 0, none⟩ (.int .i64 u)).drew) w5 := ⟨hg5.os, hg5.tape, hg5.output, hg5.size, fun k hk hn => hg5.block k hk (fun e => hn (by injection e))⟩
  have kA : Keep (fun b => b = ba ∨ b = bm) w w5 := (ks.mono (fun _ _ h => .inl h)).trans (k5.mono (fun _ _ h => .inr h))
  have hA : Blk w5 ba 3 #[.int .i64 u] := ((HR.out.ahead.set 0 (.int .i64 u)).keep ((Keep.refl (fun _ => False) _).drew) (fun h => h)).keep k5 n4
  have HA := Lib.hid hA
  have HS5 := Lib.hid hs5
  clear hup hA hs5 hg5 c0 c1 c2 z0 ks k5
  go_wp2_with (go_at_call 53; refine (ready_any _ _).mono ?_; rintro e w6 ⟨t', rfl, h1, h2, h3⟩)
  go_ret
  have k6 : Keep (fun _ => False) w5 w6 := Keep.ofBelow h3
  refine ⟨t', rfl, Nat.le_trans kA.size h1, .inr ⟨t', rfl, h2⟩, ⟨(HR.out.line.keep kA ?_).keep k6 (fun h => h), (HR.out.thr.keep kA ?_).keep k6 (fun h => h), HA.out.keep k6 (fun h => h), (HR.out.seen.keep kA ?_).keep k6 (fun h => h), HS5.out.keep k6 (fun h => h), HR.out.ne⟩, kA.trans (Keep.ofBelow h3)⟩
  · exact fun h => h.elim (fun e => n1 e.symm) (fun e => n5 e.symm)
  · exact fun h => h.elim (fun e => n2 e.symm) (fun e => n6 e.symm)
  · exact fun h => h.elim (fun e => n3 e.symm) (fun e => n7 e.symm)
theorem rem11_end (C P a : Nat) (m : Mp) (Q : Nat → Prop) (t p u : Int) (L : List Int) (bl bt ba bs bm : Nat) (w : World) (hR : RemAt w C a m t bl bt ba bs bm p L) (hu : -1 ≤ u ∧ u < m.t) (hm : m.ok) (h1 : u ≠ t) (h2 : u = -1 ∨ u ∈ L) :
    Calls Tryz.prog 90 #[.int .i64 u, pV bt, pV bl, pV ba, pV bs] w fun e w' => ∃ t', e = .returned (pV t') ∧ w.heap.size ≤ t' ∧ DoneV w' (some ⟨t', 0, none⟩) 0 ∧ Below w.heap.size w w' := by
  have hmt := hm.t
  have hub : -9223372036854775808 ≤ u ∧ u ≤ 9223372036854775807 := by omega
  have c0 : w.cell? ⟨bt, 0, none⟩ = some (.int .i64 t) := hR.thr.cell 0 _ rfl
  have c1 : w.cell? ⟨bs, 0, none⟩ = some (.map (some bm)) := hR.seen.cell 0 _ rfl
  have hlk := hR.set.look hub
  have e1 : (u == t) = false := by simpa using h1
  clear hR hu hmt hm
  by_cases h : u = -1
  · subst h
    clear h2 h1 hlk c1
    go_enter Tryz.func90, Tryz.ntmps90
    go_wp2_with (go_at_call 53; refine (ready_any _ _).mono ?_; rintro e w6 ⟨t', rfl, h1, h2, h3⟩)
    go_ret
    exact ⟨t', rfl, h1, .inr ⟨t', rfl, h2⟩, h3⟩
  · have e2 : (u == -1) = false := by simpa using h
    rw [show decide (u ∈ L) = true by simpa using h2.resolve_left h] at hlk
    clear h2 h1 h
    go_enter Tryz.func90, Tryz.ntmps90
    go_wp2_with (go_at_call 53; refine (ready_any _ _).mono ?_; rintro e w6 ⟨t', rfl, h1, h2, h3⟩)
    go_ret
    exact ⟨t', rfl, h1, .inr ⟨t', rfl, h2⟩, h3⟩
theorem rem11_is (C P a : Nat) (m : Mp) (Q : Nat → Prop) (t p : Int) (L : List Int) (bl bt ba bs bm : Nat) (w : World) (hR : RemAt w C a m t bl bt ba bs bm p L) (hp : -1 ≤ p ∧ p < m.t) (ht : 0 ≤ t ∧ t < m.t) (hm : m.ok) (hQ : ∀ k, w.heap.size ≤ k → Q k) :
    Calls Tryz.prog 90 #[.int .i64 t, pV bt, pV bl, pV ba, pV bs] w fun e w' => ∃ t', e = .returned (pV t') ∧ MadeQ (cellOps C P) w Q (seqT [unlinkT m a p t, retT 1]) t' w' := by
  have c0 : w.cell? ⟨bt, 0, none⟩ = some (.int .i64 t) := hR.thr.cell 0 _ rfl
  have c1 : w.cell? ⟨ba, 0, none⟩ = some (.int .i64 p) := hR.ahead.cell 0 _ rfl
  have d0 : w.cell? ⟨bl, 0, none⟩ = some (cellsV C) := hR.line.cell 0 _ rfl
  have d1 : w.cell? ⟨bl, 1, none⟩ = some (.int .i64 (a : Int)) := hR.line.cell 1 _ rfl
  have d2 : w.cell? ⟨bl, 2, none⟩ = some (.int .i64 ((a : Int) + 1)) := hR.line.cell 2 _ rfl
  have d3 : w.cell? ⟨bl, 3, none⟩ = some (nextV m) := hR.line.cell 3 _ rfl
  have d4 : w.cell? ⟨bl, 4, none⟩ = some (.int .i64 (m.t : Int)) := hR.line.cell 4 _ rfl
  have HU := Lib.hid (unlink_any C P a m Q p t w hm hp ht hQ)
  have HR := Lib.hid fun W => readyQ C P Q 1 W
  have HQ := Lib.hid hQ
  have HSQ := Lib.hid fun V t1 t2 (hV : Below w.heap.size w V) h1 h2 q1 q2 => seqT_two (cellOps C P) Q (unlinkT m a p t) (retT 1) t1 t2 V h1 h2 q1 q2 (fun k hk => HQ.out k (by have := hV.size; omega))
  clear hR hm hp ht hQ
  go_enter Tryz.func90, Tryz.ntmps90
  go_wp2_with (first
    | (go_at_call 87; refine HU.out.mono ?_; rintro e w2 ⟨t1, rfl, hM1⟩; have HR2 := Lib.hid (HR.out w2))
    | (go_at_call 53; refine HR2.out.mono ?_; rintro e w3 ⟨t2, rfl, hM2⟩; have b3 : Below w.heap.size w w3 := hM1.2.2.trans (hM2.2.2.mono hM1.2.2.size); have HSQ2 := Lib.hid (HSQ.out w3 t1 t2 b3 (hM1.task.at hM2.2.2) hM2.task (HQ.out _ hM1.1) (HQ.out _ (Nat.le_trans hM1.2.2.size hM2.1))))
    | (go_at_call 78; refine HSQ2.out.mono ?_; rintro e w5 ⟨t3, rfl, hM3⟩))
  go_ret
  exact ⟨t3, rfl, hM3.of b3⟩
theorem call_rem1 : ∀ (W : World) (args : Array Value), (callFunc 89 args).run Tryz.prog W = .ok (.enter 89 args) W := by
  intro W args
  go_simp
theorem call_rem11 : ∀ (W : World) (args : Array Value), (callFunc 90 args).run Tryz.prog W = .ok (.enter 90 args) W := by
  intro W args
  go_simp
abbrev rem1V (bl bt ba bs : Nat) : Value := cloV 89 #[pV bl, pV ba, pV bt, pV bs]
abbrev rem11V (bl bt ba bs : Nat) : Value := cloV 90 #[pV bt, pV bl, pV ba, pV bs]
theorem rem1_any (C a : Nat) (m : Mp) (Q : Nat → Prop) (t p : Int) (L : List Int) (bl bt ba bs bm : Nat) (w : World) (hR : RemAt w C a m t bl bt ba bs bm p L) (hp : -1 ≤ p ∧ p < m.t) (hm : m.ok) (hQ : ∀ k, w.heap.size ≤ k → Q k) :
    Calls Tryz.prog 89 #[pV bl, pV ba, pV bt, pV bs] w fun e w' => ∃ t' W d r f br bl2, e = .returned (pV t') ∧ Below w.heap.size w W ∧ ReadAt W w' C a m Q (behN m a p) (rem11V bl bt ba bs) t' d r f br bl2 ∧ Below w.heap.size w w' := by
  have hmf : ∀ (fn : Fn) (first cap : Array Value) (w : World), (Instr.makeFunc fn first cap).run Tryz.prog w = .ok (.func fn first cap) w := fun _ _ _ _ => rfl
  have HB := Lib.hid fun W => behind_any C a m p W hm hp
  have HD := Lib.hid fun W (h : w.heap.size ≤ W.heap.size) => read_raw C a m (behN m a p) 90 #[pV bt, pV bl, pV ba, pV bs] Q W (fun k hk => hQ k (by omega))
  have SK := Lib.hid (show ∀ V, Below w.heap.size w V → (V.cell? ⟨bl, 0, none⟩ = some (cellsV C) ∧ V.cell? ⟨bl, 1, none⟩ = some (.int .i64 (a : Int)) ∧ V.cell? ⟨bl, 2, none⟩ = some (.int .i64 ((a : Int) + 1)) ∧ V.cell? ⟨bl, 3, none⟩ = some (nextV m) ∧ V.cell? ⟨bl, 4, none⟩ = some (.int .i64 (m.t : Int))) ∧ V.cell? ⟨ba, 0, none⟩ = some (.int .i64 p) from fun V hk => ⟨lineE_of (hR.line.below hk hR.line.lt), (hR.ahead.below hk hR.ahead.lt).cell 0 _ rfl⟩)
  have bd := bdrewE w
  clear hR hp hm hQ
  go_enter Tryz.func89, Tryz.ntmps89
  go_upto_region 1 with fail
  go_region_held3 (fun V => (V.cell? ⟨bl, 0, none⟩ = some (cellsV C) ∧ V.cell? ⟨bl, 1, none⟩ = some (.int .i64 (a : Int)) ∧ V.cell? ⟨bl, 2, none⟩ = some (.int .i64 ((a : Int) + 1)) ∧ V.cell? ⟨bl, 3, none⟩ = some (nextV m) ∧ V.cell? ⟨bl, 4, none⟩ = some (.int .i64 (m.t : Int))) ∧ V.cell? ⟨ba, 0, none⟩ = some (.int .i64 p)) (first | exact SK.out _ b3 | exact SK.out _ b2 | exact SK.out _ bd) (first
    | (go_at_call 84; refine (HB.out _).mono ?_; rintro e w2 ⟨rfl, hb2⟩; have b2 : Below w.heap.size w w2 := bd.trans hb2; have HD2 := Lib.hid (HD.out w2 b2.size))
    | (go_at_call 85; refine HD2.out.mono ?_; rintro e w3 ⟨t', d, r, f, br, bl2, rfl, hA, hb3⟩; have b3 : Below w.heap.size w w3 := b2.trans (hb3.mono b2.size)))
  all_goals go_wp2
  all_goals go_ret
  all_goals exact ⟨t', w2, d, r, f, br, bl2, rfl, b2, hA, b3⟩
end Go.Proofs.YtpejmkoheodblaaGreat
