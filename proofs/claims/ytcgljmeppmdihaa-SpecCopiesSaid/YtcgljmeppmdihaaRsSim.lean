/- The document's automaton and package spec's: what the one takes the other takes. No program is named here. -/
import Derived.Test.YtcgljmeppmdihaaRsSpec
namespace Go.Proofs.Ytcgljmeppmdihaa
open Go.RowKit
set_option linter.unusedVariables false
set_option linter.unusedSimpArgs false
theorem validR_mod {r : RS} {t : Nat} {f : RTh → RTh} {a b c : Int} : validR (r.mod t f) a b c ↔ validR r a b c := validR_congr (r := r) (r' := r.mod t f) rfl (by simp [RS.mod])
theorem ThR.finM {r : RS} {t u : Nat} {x : RTh} {y : Th} (q : ThR r t x y) (ho : x.opn = true) (hv : validR r x.op x.obj x.arg) (c v : Int) (f : RTh → RTh) : ThR (r.mod u f) t (finR c v x) (endTh y c v) := q.fin (r' := r.mod u f) rfl (by simp [RS.mod]) ho hv c v
theorem takeS_act {s : SS} {e : Ev} {t o : Nat} {y : Th} {b : Ob} (he : e.thr = t) (hy : s.T[t]? = some y) (hk : e.kind = 1) (hi : e.idx = 0) (hc : e.code = 0) (hv : e.val = 0) (p0 : y.pr ≠ 0) (p5 : y.pr ≠ 5) (ho : e.obj = y.obj) (hoo : y.obj = o) (hb : s.O[o]? = some b) : takeS s e = handS s t y o b e := by
  unfold takeS
  rw [he, if_neg (by omega), Int.toNat_natCast, hy]
  simp only
  rw [if_neg (by omega), if_pos hk]
  unfold actS
  rw [if_neg (by omega), hoo, Int.toNat_natCast, hb]
theorem sim_act {n : Nat} {r r' : RS} {s : SS} {e : Ev} (h : Sim n r s) (hwf : WF s) (hn : (n : Int) + 1 ≤ 4611686018427387904) {t o : Nat} {x : RTh} {own dep : Int} (he : e.thr = t) (hx : r.T[t]? = some x) (hk : e.kind = 1) (hi : e.idx = 0) (hc : e.code = 0) (hv : e.val = 0)
    (hop : x.opn = true) (hva : validR r x.op x.obj x.arg) (hob : e.obj = x.obj) (hf5 : x.far ≠ 5) (hoo : x.obj = o) (hW : r.W[o]? = some own) (hD : r.D[o]? = some dep) (ha : ActR r t x o own dep e r') :
    ∃ s', takeS s e = some s' ∧ Sim (n + 1) r' s' := by
  have hn1 : n ≤ n + 1 := Nat.le_succ n
  obtain ⟨y, hy⟩ : ∃ y, s.T[t]? = some y := ⟨_, List.getElem?_eq_getElem (by rw [← h.lt]; exact (List.getElem?_eq_some_iff.1 hx).1)⟩
  obtain ⟨b, hb⟩ : ∃ b, s.O[o]? = some b := ⟨_, List.getElem?_eq_getElem (by rw [← h.lw]; exact (List.getElem?_eq_some_iff.1 hW).1)⟩
  have q := h.th t x y hx hy
  obtain ⟨b1, b2, b3⟩ := h.ob o b hb
  rw [hW] at b1
  rw [hD] at b2
  obtain rfl := Option.some.inj b1
  obtain rfl := Option.some.inj b2
  obtain ⟨o1, o2, o3, o4⟩ := q.open' hop
  obtain ⟨g1, g2, g3, g4, g5⟩ := q.good hop hva
  have w0 := hwf.toWF0
  have hp : y.pr ≠ 0 ∧ y.pr ≠ 5 := by unfold FarOk at g1; omega
  rw [takeS_act he hy hk hi hc hv hp.1 hp.2 (by omega) (by omega) hb]
  have hnl : y.pr ≠ 2 → y.pr ≠ 3 → ∀ (k : Nat) c, s.O[k]? = some c → ¬ (t : Int) ∈ c.line := fun p2 p3 k c hc => w0.out hy ⟨p2, p3⟩ hc
  have fin : ∀ c v, Sim (n + 1) (r.mod t (finR c v)) (endS s t c v) := fun c v => by
    rw [endS_at hy]
    exact h.one w0 hn1 hx hy (q.finM hop hva c v _) (.inl rfl)
  have two : ∀ (wo wd c v : Int), (wo = b.own ∨ b.own < 0 ∨ b.own = t) → -1 ≤ wo → Sim (n + 1) (((r.setW o wo).setD o wd).mod t (finR c v)) (endS (s.setO o { b with own := wo, dep := wd }) t c v) := fun wo wd c v h1 h2 => by
    rw [endS_at (show (s.setO o _).T[t]? = some y from hy)]
    exact h.two w0 hn1 hx hy hb wo wd h1 h2 (q.fin (by simp [RS.mod, RS.setW, RS.setD]) (by simp [RS.mod, RS.setW, RS.setD]) hop hva c v) rfl
  cases ha with
  | enter hop0 ha ho hw =>
    refine ⟨_, ?_, two (t : Int) (wrap64 (b.dep + 1)) 0 0 (by omega) (by omega)⟩
    unfold handS enterS
    rw [if_pos (by omega), if_pos ⟨ha, ho, by omega⟩]
  | noenter hop0 ha ho =>
    refine ⟨_, ?_, fin _ _⟩
    unfold handS enterS
    rw [if_pos (by omega), if_neg (by omega), if_pos ⟨ha, ho⟩]
  | exit hop0 ha ho hw =>
    refine ⟨endS (s.setO o { b with own := if wrap64 (b.dep - 1) = 0 then -1 else t, dep := wrap64 (b.dep - 1) }) t 0 0, ?_, ?_⟩
    · unfold handS exitS
      rw [if_neg (by omega), if_pos (by omega), if_pos ⟨ha, ho, hw⟩]
    · have := two (if wrap64 (b.dep - 1) = 0 then -1 else (t : Int)) (wrap64 (b.dep - 1)) 0 0 (by omega) (by split <;> omega)
      by_cases hz : wrap64 (b.dep - 1) = 0
      · rw [if_pos hz] at this
        rw [if_pos hz, if_pos hz]
        exact this
      · rw [if_neg hz] at this
        rw [if_neg hz, if_neg hz]
        have e1 : (r.setW o (t : Int)).setD o (wrap64 (b.dep - 1)) = r.setD o (wrap64 (b.dep - 1)) := by
          unfold RS.setW RS.setD
          simp only [RS.mk.injEq, and_true, true_and]
          exact set_id (hw ▸ hW)
        rw [e1] at this
        exact this
  | noexit hop0 ha ho hw =>
    refine ⟨_, ?_, fin 4 0⟩
    unfold handS exitS
    rw [if_neg (by omega), if_pos (by omega), if_neg (by omega), if_pos ⟨ha, ho, hw⟩, ho]
  | look hop0 ha ho =>
    refine ⟨_, ?_, fin 0 e.oth⟩
    have e1 : e.oth = if b.own = (t : Int) then 1 else 0 := by
      rcases ho with ⟨h1, h2⟩ | ⟨h1, h2⟩
      · rw [if_pos h2, h1]
      · rw [if_neg h2, h1]
    unfold handS lookS
    rw [if_neg (by omega), if_neg (by omega), if_neg (by omega), if_neg (by omega), if_neg (by omega), if_pos (by omega), if_pos ⟨ha, e1⟩, ← e1]
  | nonotify hop0 ha hw hf ho =>
    refine ⟨_, ?_, fin 4 0⟩
    unfold handS notifyS
    rw [if_neg (by omega), if_neg (by omega), if_neg (by omega), if_pos (by omega), if_pos ⟨ha, ho, hw⟩, ho]
  | notifyNone hop0 ha hw hl hlt =>
    refine ⟨_, ?_, fin 0 0⟩
    have e1 := longest_both h hwf hb (by rw [← hoo, ← hob]; exact hl)
    have e2 : e.oth = -1 := by
      rcases hl with ⟨e2, _⟩ | ⟨u, _, e2, _⟩
      · exact e2
      · omega
    unfold handS notifyS
    rw [if_neg (by omega), if_neg (by omega), if_neg (by omega), if_pos (by omega), if_neg (by omega), if_pos ⟨hw, ha, e1.symm⟩]
    simp [e2]
  | notifyOne u hop0 ha hw hl hu =>
    have e1 := longest_both h hwf hb (by rw [← hoo, ← hob]; exact hl)
    have hne : longestS s b.line ≠ -1 := by rw [e1, hu]; omega
    obtain ⟨k, z, hk1, hz, hzp, hzo⟩ := w0.longest hb hne
    obtain rfl : u = k := by omega
    obtain ⟨xz, hxz⟩ : ∃ xz, r.T[u]? = some xz := ⟨_, List.getElem?_eq_getElem (by rw [h.lt]; exact (List.getElem?_eq_some_iff.1 hz).1)⟩
    have qz := h.th u xz z hxz hz
    have hzop : xz.opn = true := by
      cases e : xz.opn with
      | true => rfl
      | false => have := (qz.closed e).1; omega
    have hzv : validR r xz.op xz.obj xz.arg := Classical.byContradiction fun hn => by have := (qz.bad hzop hn).2.1; omega
    obtain ⟨k1, k2, k3, k4, k5⟩ := qz.good hzop hzv
    have hut : t ≠ u := by
      rintro rfl
      rw [hy] at hz
      obtain rfl := Option.some.inj hz
      have := (w0.rg t y hy).2 (.inl hzp)
      omega
    have hth : ThR (r.mod u fun y => { y with far := 4, code := 0, val := 0 }) u { xz with far := 4, code := 0, val := 0 } { z with pr := 4, code := 0, val := 0 } := by
      refine ⟨qz.flag, qz.cr, fun h => ?_, qz.open', fun _ h => absurd (validR_mod.2 hzv) h, fun _ _ => ⟨.inr (.inr (.inr (.inl ⟨rfl, rfl⟩))), rfl, rfl, fun _ => k4 ?_, fun h => ?_⟩, fun _ _ h => ?_⟩
      · exact absurd (show xz.opn = false from h) (by rw [hzop]; simp)
      · unfold FarOk at k1; omega
      · simp at h
      · simp at h
    have s1 := h.awake w0 hn1 hxz hz hb hzo hth
    have hy1 : (awakeS s u 0).T[t]? = some y := by
      rw [awakeS_at hz (by rw [hzo, Int.toNat_natCast]; exact hb)]
      exact (set_other hut).trans hy
    have hx1 : (r.mod u fun y => { y with far := 4, code := 0, val := 0 }).T[t]? = some x := (mod_other hut).trans hx
    have q1 := s1.th t x y hx1 hy1
    have w1 := w0.awake hz (.inl hzp) 0
    refine ⟨endS (awakeS s u 0) t 0 0, ?_, ?_⟩
    · unfold handS notifyS
      rw [if_neg (by omega), if_neg (by omega), if_neg (by omega), if_pos (by omega), if_neg (by omega), if_pos ⟨hw, ha, e1.symm⟩]
      have e4 : y.op = 4 := by omega
      rw [hu]
      simp only [e4, or_true, if_true, Int.toNat_natCast]
      rw [if_neg (by omega)]
    · rw [endS_at hy1]
      exact s1.one w1 (Nat.le_refl _) hx1 hy1 (q1.finM hop (validR_mod.2 hva) 0 0 _) (.inl rfl)
  | notifyMore u hop0 ha hw hl hu =>
    have e1 := longest_both h hwf hb (by rw [← hoo, ← hob]; exact hl)
    have hne : longestS s b.line ≠ -1 := by rw [e1, hu]; omega
    obtain ⟨k, z, hk1, hz, hzp, hzo⟩ := w0.longest hb hne
    obtain rfl : u = k := by omega
    obtain ⟨xz, hxz⟩ : ∃ xz, r.T[u]? = some xz := ⟨_, List.getElem?_eq_getElem (by rw [h.lt]; exact (List.getElem?_eq_some_iff.1 hz).1)⟩
    have qz := h.th u xz z hxz hz
    have hzop : xz.opn = true := by
      cases e : xz.opn with
      | true => rfl
      | false => have := (qz.closed e).1; omega
    have hzv : validR r xz.op xz.obj xz.arg := Classical.byContradiction fun hn => by have := (qz.bad hzop hn).2.1; omega
    obtain ⟨k1, k2, k3, k4, k5⟩ := qz.good hzop hzv
    have hut : t ≠ u := by
      rintro rfl
      rw [hy] at hz
      obtain rfl := Option.some.inj hz
      have := (w0.rg t y hy).2 (.inl hzp)
      omega
    have hth : ThR (r.mod u fun y => { y with far := 4, code := 0, val := 0 }) u { xz with far := 4, code := 0, val := 0 } { z with pr := 4, code := 0, val := 0 } := by
      refine ⟨qz.flag, qz.cr, fun h => ?_, qz.open', fun _ h => absurd (validR_mod.2 hzv) h, fun _ _ => ⟨.inr (.inr (.inr (.inl ⟨rfl, rfl⟩))), rfl, rfl, fun _ => k4 ?_, fun h => ?_⟩, fun _ _ h => ?_⟩
      · exact absurd (show xz.opn = false from h) (by rw [hzop]; simp)
      · unfold FarOk at k1; omega
      · simp at h
      · simp at h
    have s1 := h.awake w0 hn1 hxz hz hb hzo hth
    have hy1 : (awakeS s u 0).T[t]? = some y := by
      rw [awakeS_at hz (by rw [hzo, Int.toNat_natCast]; exact hb)]
      exact (set_other hut).trans hy
    have hx1 : (r.mod u fun y => { y with far := 4, code := 0, val := 0 }).T[t]? = some x := (mod_other hut).trans hx
    have q1 := s1.th t x y hx1 hy1
    have w1 := w0.awake hz (.inl hzp) 0
    have hp1 : y.pr = 1 := by
      have := (w0.rg t y hy)
      omega
    refine ⟨awakeS s u 0, ?_, ?_⟩
    · unfold handS notifyS
      rw [if_neg (by omega), if_neg (by omega), if_neg (by omega), if_pos (by omega), if_neg (by omega), if_pos ⟨hw, ha, e1.symm⟩]
      have e4 : ¬ (e.oth = -1 ∨ y.op = 4) := by omega
      simp only [if_neg e4]
      rw [if_neg (by omega), hu, Int.toNat_natCast]
    · have hv1 : validR (r.mod u fun y => { y with far := 4, code := 0, val := 0 }) x.op x.obj x.arg := validR_mod.2 hva
      have hv2 : validR ((r.mod u fun y => { y with far := 4, code := 0, val := 0 }).mod t fun y => { y with far := 1 }) x.op x.obj x.arg := validR_mod.2 hv1
      have := s1.one (f := fun y => { y with far := 1 }) (y' := y) w1 (Nat.le_refl _) hx1 hy1 (by
        refine ⟨q1.flag, q1.cr, fun h => ?_, q1.open', fun _ h => absurd hv2 h, fun _ _ => ⟨.inl ⟨.inr rfl, hp1⟩, g2, g3, fun h => ?_, fun h => ?_⟩, fun _ _ h => ⟨hop0, ?_⟩⟩
        · exact absurd (show x.opn = false from h) (by rw [hop]; simp)
        · simp at h
        · simp at h
        · show r.W[x.obj.toNat]? = _
          rw [hoo, Int.toNat_natCast, hW, hw]) (.inl rfl)
      have e9 : (awakeS s u 0).setT t y = awakeS s u 0 := by
        unfold SS.setT
        rw [set_id hy1]
      rw [e9] at this
      exact this
  | nowait hop0 ha hf ho =>
    refine ⟨_, ?_, fin e.oth 0⟩
    have p1 : y.pr = 1 := by unfold FarOk at g1; omega
    unfold handS waitS beginS
    rw [if_neg (by omega), if_neg (by omega), if_pos (by omega), if_pos p1, if_pos ⟨ha, ho⟩]
  | clear0 hop0 ha ho hf hw hfl =>
    have p1 : y.pr = 1 := by unfold FarOk at g1; omega
    refine ⟨endS (s.setT t { y with flag := false }) t 0 2, ?_, ?_⟩
    · unfold handS waitS beginS
      rw [if_neg (by omega), if_neg (by omega), if_pos (by omega), if_pos p1, if_neg (by omega), if_pos ⟨ha, ho, hw, by rw [← q.flag]; exact hfl⟩]
    · have hyt : (s.setT t { y with flag := false }).T[t]? = some { y with flag := false } := set_same hy
      have e1 : endS (s.setT t { y with flag := false }) t 0 2 = s.setT t (endTh { y with flag := false } 0 2) := by
        rw [endS_at hyt]
        simp [SS.setT]
      rw [e1, mod_mod]
      refine h.one w0 hn1 hx hy ?_ (.inl rfl)
      have q1 : ThR r t { x with flag := false } { y with flag := false } := ⟨rfl, q.cr, q.closed, q.open', q.bad, q.good, q.more⟩
      exact q1.finM hop hva 0 2 _
  | release hop0 ha ho hf hw =>
    have p1 : y.pr = 1 := by unfold FarOk at g1; omega
    obtain ⟨hr0, hr1⟩ := h.rel
    have hwr : wrap64 (r.rel + 1) = r.rel + 1 := IntWalk.wrap64_in _ ⟨by omega, by omega⟩
    refine ⟨(s.setT t { y with dep := b.dep, pr := 2 }).setO o ⟨-1, 0, b.line ++ [(t : Int)]⟩, ?_, ?_⟩
    · unfold handS waitS beginS
      rw [if_neg (by omega), if_neg (by omega), if_pos (by omega), if_pos p1, if_neg (by omega), if_neg (by omega), if_pos ⟨ha, ho, hw⟩]
    · rw [hwr]
      have eR : ({ (((r.mod t fun y => { y with saved := b.dep }).setW o (-1)).setD o 0) with rel := r.rel + 1 } : RS).mod t (fun y => { y with since := r.rel + 1, far := 2 }) = ⟨r.W.set o (-1), r.D.set o 0, r.T.modify t (fun y => { y with saved := b.dep, since := r.rel + 1, far := 2 }), r.rel + 1⟩ := by
        have := congrArg RS.T (mod_mod r t (fun y => { y with saved := b.dep }) (fun y => { y with since := r.rel + 1, far := 2 }))
        unfold RS.mod RS.setW RS.setD at *
        simp only [RS.mk.injEq, true_and, and_true]
        exact this
      rw [eR]
      have hx2 : (⟨r.W.set o (-1), r.D.set o 0, r.T.modify t (fun y => { y with saved := b.dep, since := r.rel + 1, far := 2 }), r.rel + 1⟩ : RS).T[t]? = some { x with saved := b.dep, since := r.rel + 1, far := 2 } := mod_same hx
      have hnt := hnl (by omega) (by omega)
      refine Sim.gen (b' := ⟨-1, 0, b.line ++ [(t : Int)]⟩) (y' := { y with dep := b.dep, pr := 2 }) (f := fun y => { y with saved := b.dep, since := r.rel + 1, far := 2 }) (rel' := r.rel + 1) h w0 hx hy hb ⟨by omega, by omega⟩ (.inr (.inr hw)) (by simp) ?_ (.inr hnt) ?_
      · have hva2 : validR (⟨r.W.set o (-1), r.D.set o 0, r.T.modify t (fun y => { y with saved := b.dep, since := r.rel + 1, far := 2 }), r.rel + 1⟩ : RS) x.op x.obj x.arg := (validR_congr (by simp) (by simp)).2 hva
        refine ⟨q.flag, q.cr, fun h => ?_, q.open', fun _ h => absurd hva2 h, fun _ _ => ⟨.inr (.inl ⟨rfl, rfl⟩), g2, g3, fun _ => rfl, fun _ => ⟨?_, Int.le_refl _⟩⟩, fun _ _ h => ?_⟩
        · exact absurd (show x.opn = false from h) (by rw [hop]; simp)
        · show 0 ≤ r.rel + 1; omega
        · simp at h
      · rw [List.pairwise_append]
        refine ⟨lines_keep (f := fun y => { y with saved := b.dep, since := r.rel + 1, far := 2 }) h w0 hx rfl (.inr hnt) hb, by simp, fun a ha2 c hc2 => ?_⟩
        simp at hc2
        subst hc2
        rw [since_at hx2 (Int.toNat_natCast t), since_mod (r := r) hx rfl]
        obtain ⟨k, z, rfl, hz, hzp, hzo⟩ := (w0.ln o b hb).2 a ha2
        have hkt : k ≠ t := by rintro rfl; exact hnt o b hb ha2
        rw [Int.toNat_natCast, if_neg hkt]
        obtain ⟨xz, hxz⟩ : ∃ xz, r.T[k]? = some xz := ⟨_, List.getElem?_eq_getElem (by rw [h.lt]; exact (List.getElem?_eq_some_iff.1 hz).1)⟩
        have qz := h.th k xz z hxz hz
        have hzop : xz.opn = true := by
          cases e : xz.opn with
          | true => rfl
          | false => have := (qz.closed e).1; omega
        have hzv : validR r xz.op xz.obj xz.arg := Classical.byContradiction fun hn => by have := (qz.bad hzop hn).2.1; omega
        obtain ⟨k1, _, _, _, k5⟩ := qz.good hzop hzv
        have := (k5 (by unfold FarOk at k1; omega)).2
        rw [since_at hxz (Int.toNat_natCast k)]
        show xz.since < r.rel + 1
        omega
  | clear2 hop0 ha ho hf hfl =>
    have p2 : y.pr = 2 := by unfold FarOk at g1; omega
    refine ⟨s.setT t { y with flag := false, pr := 3 }, ?_, ?_⟩
    · unfold handS waitS endWaitS
      rw [if_neg (by omega), if_neg (by omega), if_pos (by omega), if_neg (by omega), if_neg (by omega), if_pos ⟨ha, ho, by rw [← q.flag]; exact hfl, p2⟩]
    · refine h.one w0 hn1 hx hy ⟨rfl, q.cr, fun h => ?_, q.open', fun _ h => absurd (validR_mod.2 hva) h, fun _ _ => ⟨.inr (.inr (.inl ⟨rfl, rfl⟩)), g2, g3, fun _ => g4 (.inl hf), fun _ => g5 (.inl hf)⟩, fun _ _ h => ?_⟩ (.inl rfl)
      · exact absurd (show x.opn = false from h) (by rw [hop]; simp)
      · simp at h
  | leave hop0 ha hl =>
    have p2 : (x.far = 2 ∧ y.pr = 2) ∨ (x.far = 3 ∧ y.pr = 3) := by unfold FarOk at g1; omega
    have hlv : leavesS y e.oth = true := by
      unfold leavesS
      rcases hl with ⟨h1, h2 | ⟨h2, h3⟩⟩ | ⟨h1, h2⟩
      · have e : y.pr = 2 := by omega
        rw [h2]
        simp [e]
      · have e : y.pr = 2 := by omega
        have e2 : y.op = 3 := by omega
        rw [h2]
        simp [e, e2]
      · have e : y.pr = 3 := by omega
        rw [h2]
        simp [e]
    refine ⟨awakeS s t e.oth, ?_, ?_⟩
    · unfold handS waitS endWaitS
      rw [if_neg (by omega), if_neg (by omega), if_pos (by omega), if_neg (by omega), if_neg (by omega), if_neg (by omega), if_pos ⟨ha, hlv⟩]
    · refine h.awake w0 hn1 hx hy hb (by omega) ⟨q.flag, q.cr, fun h => ?_, q.open', fun _ h => absurd (validR_mod.2 hva) h, fun _ _ => ⟨.inr (.inr (.inr (.inl ⟨rfl, rfl⟩))), rfl, rfl, fun _ => g4 (by omega), fun h => ?_⟩, fun _ _ h => ?_⟩
      · exact absurd (show x.opn = false from h) (by rw [hop]; simp)
      · simp at h
      · simp at h
  | grant hop0 ha ho hf hw =>
    have p4 : y.pr = 4 := by unfold FarOk at g1; omega
    have e1 := g4 (.inr (.inr hf))
    refine ⟨endS (s.setO o { b with own := t, dep := y.dep }) t y.code y.val, ?_, ?_⟩
    · unfold handS waitS grantS
      rw [if_neg (by omega), if_neg (by omega), if_pos (by omega), if_neg (by omega), if_pos p4, if_pos ⟨ha, ho, by omega⟩]
    · rw [endS_at (show (s.setO o _).T[t]? = some y from hy), e1]
      have hva2 : validR (((r.setW o (t : Int)).setD o x.saved).mod t fun y => { y with far := 5 }) x.op x.obj x.arg := (validR_congr (by simp [RS.mod, RS.setW, RS.setD]) (by simp [RS.mod, RS.setW, RS.setD])).2 hva
      refine h.two w0 hn1 hx hy hb (t : Int) x.saved (by omega) (by omega) ⟨q.flag, q.cr, fun h => ?_, q.open', fun _ h => absurd hva2 h, fun _ _ => ⟨.inr (.inr (.inr (.inr ⟨rfl, rfl⟩))), g2, g3, fun h => ?_, fun h => ?_⟩, fun _ _ h => ?_⟩ rfl
      · exact absurd (show x.opn = false from h) (by rw [hop]; simp)
      · simp at h
      · simp at h
      · simp at h
  | interrupt u hop0 ha ho hu =>
    have hul : u < s.T.length := by
      obtain ⟨_, _, _, h4⟩ := hva
      have := h.lt
      omega
    obtain ⟨z, hz⟩ : ∃ z, s.T[u]? = some z := ⟨_, List.getElem?_eq_getElem hul⟩
    obtain ⟨xz, hxz⟩ : ∃ xz, r.T[u]? = some xz := ⟨_, List.getElem?_eq_getElem (by rw [h.lt]; exact hul)⟩
    have qz := h.th u xz z hxz hz
    have hlen : (r.mod u fun y => { y with flag := true }).T.length = r.T.length := by simp [RS.mod]
    have s1 : Sim n (r.mod u fun y => { y with flag := true }) (s.setT u { z with flag := true }) := by
      refine h.one w0 (Nat.le_refl _) hxz hz ⟨rfl, qz.cr, qz.closed, qz.open', fun h1 h2 => qz.bad h1 (fun k => h2 (validR_mod.2 k)), fun h1 h2 => qz.good h1 (validR_mod.1 h2), fun h1 h2 h3 => qz.more h1 (validR_mod.1 h2) h3⟩ (.inl rfl)
    have hfl : flagS s y.arg.toNat = s.setT u { z with flag := true } := by
      unfold flagS
      rw [show y.arg.toNat = u by omega, hz]
    have w1 : WF0 (s.setT u { z with flag := true }) := w0.setT (x' := { z with flag := true }) hz (w0.th _ z hz) (w0.rg _ z hz) (fun k c hc hm => by
      obtain ⟨j, z2, hj, hz2, hzp, hzo⟩ := (w0.ln k c hc).2 _ hm
      obtain rfl : u = j := by omega
      rw [hz] at hz2
      obtain rfl := Option.some.inj hz2
      exact ⟨hzp, hzo⟩)
    obtain ⟨y1, hy1⟩ : ∃ y1, (s.setT u { z with flag := true }).T[t]? = some y1 := ⟨_, List.getElem?_eq_getElem (by simp [SS.setT]; exact (List.getElem?_eq_some_iff.1 hy).1)⟩
    obtain ⟨x1, hx1⟩ : ∃ x1, (r.mod u fun y => { y with flag := true }).T[t]? = some x1 := ⟨_, List.getElem?_eq_getElem (by rw [hlen]; exact (List.getElem?_eq_some_iff.1 hx).1)⟩
    have hx1e : x1.opn = x.opn ∧ x1.op = x.op ∧ x1.obj = x.obj ∧ x1.arg = x.arg := by
      rcases mod_at hxz hx1 with ⟨rfl, rfl⟩ | ⟨_, h2⟩
      · rw [hx] at hxz
        obtain rfl := Option.some.inj hxz
        exact ⟨rfl, rfl, rfl, rfl⟩
      · rw [hx] at h2
        obtain rfl := Option.some.inj h2
        exact ⟨rfl, rfl, rfl, rfl⟩
    have q1 := s1.th t x1 y1 hx1 hy1
    refine ⟨endS (flagS s y.arg.toNat) t 0 0, ?_, ?_⟩
    · unfold handS interruptS
      rw [if_neg (by omega), if_neg (by omega), if_neg (by omega), if_neg (by omega), if_pos (by omega), if_pos ⟨ha, by omega⟩]
    · rw [hfl, endS_at hy1]
      exact s1.one w1 hn1 hx1 hy1 (q1.finM (by rw [hx1e.1]; exact hop) (by rw [hx1e.2.1, hx1e.2.2.1, hx1e.2.2.2]; exact validR_mod.2 hva) 0 0 _) (.inl rfl)
  | deflate hop0 ha ho =>
    refine ⟨_, ?_, fin 0 0⟩
    unfold handS deflateS
    rw [if_neg (by omega), if_neg (by omega), if_neg (by omega), if_neg (by omega), if_neg (by omega), if_neg (by omega), if_pos ⟨ha, ho⟩]
theorem sim_step {n : Nat} {r r' : RS} {s : SS} {e : Ev} (h : Sim n r s) (hwf : WF s) (hn : (n : Int) + 1 ≤ 4611686018427387904) (hs : StepR r e r') : ∃ s', takeS s e = some s' ∧ Sim (n + 1) r' s' := by
  have hn1 : n ≤ n + 1 := Nat.le_succ n
  have w0 := hwf.toWF0
  cases hs with
  | call t x he hx hk hop hi hc hv =>
    obtain ⟨y, hy⟩ : ∃ y, s.T[t]? = some y := ⟨_, List.getElem?_eq_getElem (by rw [← h.lt]; exact (List.getElem?_eq_some_iff.1 hx).1)⟩
    have q := h.th t x y hx hy
    obtain ⟨c1, c2, c3, c4⟩ := q.closed hop
    refine ⟨s.setT t (if validS s e.act e.obj e.oth then begTh y e else endTh (begTh y e) 2 0), ?_, ?_⟩
    · unfold takeS
      rw [he, if_neg (by omega), Int.toNat_natCast, hy]
      simp only
      rw [if_pos hk]
      unfold openS
      rw [if_neg (by omega)]
    · refine h.one w0 hn1 hx hy ?_ (.inl rfl)
      have hvv := @valid_both n r s h e.act e.obj e.oth
      by_cases hva : validS s e.act e.obj e.oth
      · rw [if_pos hva]
        refine ⟨q.flag, q.cr, fun h => by simp at h, fun _ => ⟨rfl, rfl, rfl, ?_⟩, fun _ h => absurd (validR_mod.2 (hvv.2 hva)) h, fun _ _ => ⟨.inl ⟨.inl rfl, rfl⟩, c3, c4, fun h => by simp at h, fun h => by simp at h⟩, fun _ _ h => by simp at h⟩
        show wrap64 (x.calls + 1) = wrap64 (y.calls + 1)
        rw [c2]
      · rw [if_neg hva]
        refine ⟨q.flag, q.cr, fun h => by simp at h, fun _ => ⟨rfl, rfl, rfl, ?_⟩, fun _ _ => ⟨rfl, rfl, rfl, rfl⟩, fun _ h => absurd (hvv.1 (validR_mod.1 h)) hva, fun _ _ h => by simp at h⟩
        show wrap64 (x.calls + 1) = wrap64 (y.calls + 1)
        rw [c2]
  | act t x o own dep _ he hx hk hi hc hv hop hva hob hf5 hoo hW hD ha => exact sim_act h hwf hn he hx hk hi hc hv hop hva hob hf5 hoo hW hD ha
  | ret t x he hx hk hop hi h1 h2 h3 hr =>
    obtain ⟨y, hy⟩ : ∃ y, s.T[t]? = some y := ⟨_, List.getElem?_eq_getElem (by rw [← h.lt]; exact (List.getElem?_eq_some_iff.1 hx).1)⟩
    have q := h.th t x y hx hy
    obtain ⟨o1, o2, o3, o4⟩ := q.open' hop
    have hcr := q.cr
    have hw : wrap64 (x.calls - 1) = y.calls := by
      rw [o4]
      unfold wrap64 at hcr ⊢
      omega
    have hd : doneS y ∧ e.code = y.code ∧ e.val = y.val := by
      rcases hr with ⟨hnv, h4, h5⟩ | ⟨hva, h4, h5, h6⟩
      · obtain ⟨_, b1, b2, b3⟩ := q.bad hop hnv
        exact ⟨.inl b1, by omega, by omega⟩
      · obtain ⟨g1, g2, g3, _⟩ := q.good hop hva
        refine ⟨?_, by omega, by omega⟩
        unfold doneS
        unfold FarOk at g1
        omega
    have hdn := hd.1
    refine ⟨s.setT t ⟨0, 0, 0, 0, wrap64 (y.calls + 1), y.flag, 0, 0, 0⟩, ?_, ?_⟩
    · unfold takeS
      rw [he, if_neg (by omega), Int.toNat_natCast, hy]
      simp only
      rw [if_neg (by omega), if_neg (by omega), if_pos hk]
      unfold closeS
      rw [if_neg (fun hc => by rcases hc with hc | hc; exact hc hdn; omega)]
    · refine h.one w0 hn1 hx hy ⟨q.flag, ?_, fun _ => ⟨rfl, o4, rfl, rfl⟩, fun h => by simp at h, fun h => by simp at h, fun h => by simp at h, fun h => by simp at h⟩ (.inl rfl)
      show wrap64 (wrap64 (y.calls + 1)) = wrap64 (y.calls + 1)
      unfold wrap64
      omega
theorem sim_new (m n : Nat) (hn : 1 ≤ n) : Sim 0 (newR m n) (newS m n) := by
  refine ⟨by simp [newS]; exact hn, by simp [newR, newS], by simp [newR, newS], by simp [newR, newS], ⟨by simp [newR], by simp [newR]⟩, fun t x y hx hy => ?_, fun o b hb => ?_, fun o b hb => ?_⟩
  · simp [newR, List.getElem?_replicate] at hx
    simp [newS, List.getElem?_replicate] at hy
    obtain ⟨_, rfl⟩ := hx
    obtain ⟨_, rfl⟩ := hy
    exact ⟨rfl, by unfold th0 wrap64; simp, fun _ => ⟨rfl, rfl, rfl, rfl⟩, fun h => by simp [rth0] at h, fun h => by simp [rth0] at h, fun h => by simp [rth0] at h, fun h => by simp [rth0] at h⟩
  · simp [newS, List.getElem?_replicate] at hb
    obtain ⟨ho, rfl⟩ := hb
    exact ⟨by simp [newR, List.getElem?_replicate, ho], by simp [newR, List.getElem?_replicate, ho], by simp⟩
  · simp [newS, List.getElem?_replicate] at hb
    obtain ⟨ho, rfl⟩ := hb
    simp
/-- events, one behind the other, that the document's automaton takes -/
inductive RunR (r : RS) : List Ev → RS → Prop
  | nil : RunR r [] r
  | snoc {l : List Ev} {r1 r2 : RS} {e : Ev} : RunR r l r1 → StepR r1 e r2 → RunR r (l ++ [e]) r2
end Go.Proofs.Ytcgljmeppmdihaa
