/- Owners and depths, told by the acts (pure): the law's own numbers beside package spec's automaton. No program is named here. -/
import Derived.Test.YtcgljmeppmdihaaRsSim
namespace Go.Proofs.Ytcgljmeppmdihaa
open Go.RowKit
set_option linter.unusedVariables false
set_option linter.unusedSimpArgs false
/-- the law's numbers: depth and saved, by thread and object -/
abbrev Tab := Nat → Nat → Int
def Tab.put (D : Tab) (t o : Nat) (v : Int) : Tab := fun u k => if u = t ∧ k = o then v else D u k
theorem Tab.put_at (D : Tab) (t o : Nat) (v : Int) : D.put t o v t o = v := by unfold Tab.put; rw [if_pos ⟨rfl, rfl⟩]
theorem Tab.put_far (D : Tab) {t o u k : Nat} (v : Int) (h : u ≠ t ∨ k ≠ o) : D.put t o v u k = D u k := by unfold Tab.put; rw [if_neg (by omega)]
def nextD (D V : Tab) (e : Ev) : Tab :=
  if e.kind = 1 then
    if e.act = 0 then D.put e.thr.toNat e.obj.toNat (D e.thr.toNat e.obj.toNat + 1)
    else if e.act = 1 then D.put e.thr.toNat e.obj.toNat (D e.thr.toNat e.obj.toNat - 1)
    else if e.act = 2 then D.put e.thr.toNat e.obj.toNat 0
    else if e.act = 5 then D.put e.thr.toNat e.obj.toNat (V e.thr.toNat e.obj.toNat)
    else D
  else D
def nextV (D V : Tab) (e : Ev) : Tab :=
  if e.kind = 1 ∧ e.act = 2 then V.put e.thr.toNat e.obj.toNat (D e.thr.toNat e.obj.toNat) else V
structure OI (n : Nat) (s : SS) (D V : Tab) : Prop where
  own : ∀ (o : Nat) (b : Ob), s.O[o]? = some b → (b.own = -1 ∧ b.dep = 0) ∨ ∃ t : Nat, t < s.T.length ∧ b.own = t ∧ 1 ≤ b.dep ∧ b.dep ≤ n
  dep : ∀ (o : Nat) (b : Ob), s.O[o]? = some b → ∀ t, t < s.T.length → D t o = if b.own = (t : Int) then b.dep else 0
  sav : ∀ (t : Nat) (y : Th), s.T[t]? = some y → (y.pr = 2 ∨ y.pr = 3 ∨ y.pr = 4) → ∀ o : Nat, y.obj = o → V t o = y.dep ∧ 1 ≤ y.dep ∧ y.dep ≤ n ∧ ∀ b, s.O[o]? = some b → b.own ≠ t
theorem OI.gen {n n' : Nat} {s : SS} {D V D' V' : Tab} (h : OI n s D V) (hn : n ≤ n') {t o : Nat} {y y' : Th} {b b' : Ob} (hy : s.T[t]? = some y) (hb : s.O[o]? = some b)
    (hD : ∀ u k, u ≠ t ∨ k ≠ o → D' u k = D u k) (hV : ∀ u k, u ≠ t ∨ k ≠ o → V' u k = V u k)
    (hown : (b'.own = b.own ∧ b'.dep = b.dep ∧ D' t o = D t o) ∨ ((b.own = -1 ∨ b.own = t) ∧ (b'.own = -1 ∧ b'.dep = 0 ∧ D' t o = 0 ∨ b'.own = t ∧ 1 ≤ b'.dep ∧ b'.dep ≤ n' ∧ D' t o = b'.dep)))
    (hth : (y'.pr = 2 ∨ y'.pr = 3 ∨ y'.pr = 4) → y'.obj = o ∧ V' t o = y'.dep ∧ 1 ≤ y'.dep ∧ y'.dep ≤ n' ∧ b'.own ≠ t) :
    OI n' ⟨s.T.set t y', s.O.set o b'⟩ D' V' := by
  have htl := (List.getElem?_eq_some_iff.1 hy).1
  refine ⟨fun k c hc => ?_, fun k c hc u hu => ?_, fun u z hz hp k hk => ?_⟩
  · simp only [List.length_set]
    rcases set_at hc with ⟨rfl, rfl, _⟩ | ⟨hne, hc⟩
    · have := h.own k b hb
      rcases hown with ⟨e1, e2, _⟩ | ⟨_, ⟨e1, e2, _⟩ | ⟨e1, e2, e3, _⟩⟩
      · rcases this with ⟨a1, a2⟩ | ⟨u, a1, a2, a3, a4⟩
        · exact .inl ⟨by omega, by omega⟩
        · exact .inr ⟨u, a1, by omega, by omega, by omega⟩
      · exact .inl ⟨e1, e2⟩
      · exact .inr ⟨t, htl, e1, e2, e3⟩
    · rcases h.own k c hc with a | ⟨u, a1, a2, a3, a4⟩
      · exact .inl a
      · exact .inr ⟨u, a1, a2, a3, by omega⟩
  · simp only [List.length_set] at hu
    rcases set_at hc with ⟨rfl, rfl, _⟩ | ⟨hne, hc⟩
    · have hd := h.dep k b hb u hu
      by_cases hut : u = t
      · subst hut
        rcases hown with ⟨e1, e2, e3⟩ | ⟨_, ⟨e1, e2, e3⟩ | ⟨e1, e2, e3, e4⟩⟩
        · rw [e3, hd, e1, e2]
        · rw [e3, e1, if_neg (by omega)]
        · rw [e4, if_pos e1]
      · rw [hD u k (.inl hut), hd]
        rcases hown with ⟨e1, e2, e3⟩ | ⟨e0, ⟨e1, e2, e3⟩ | ⟨e1, e2, e3, e4⟩⟩
        · rw [e1, e2]
        · rw [if_neg (by omega), if_neg (by omega)]
        · rw [if_neg (by omega), if_neg (by omega)]
    · rw [hD u k (.inr hne)]
      exact h.dep k c hc u hu
  · rcases set_at hz with ⟨rfl, rfl, _⟩ | ⟨hne, hz⟩
    · obtain ⟨h1, h2, h3, h4, h5⟩ := hth hp
      obtain rfl : k = o := by omega
      refine ⟨h2, h3, h4, fun c hc => ?_⟩
      rw [set_same hb] at hc
      obtain rfl := Option.some.inj hc
      exact h5
    · obtain ⟨h1, h2, h3, h4⟩ := h.sav u z hz hp k hk
      refine ⟨by rw [hV u k (.inl hne)]; exact h1, h2, by omega, fun c hc => ?_⟩
      rcases set_at hc with ⟨rfl, rfl, _⟩ | ⟨_, hc⟩
      · have := h4 b hb
        omega
      · exact h4 c hc
theorem OI.keep {n n' : Nat} {s : SS} {D V : Tab} (h : OI n s D V) (hn : n ≤ n') {t : Nat} {y y' : Th} (hy : s.T[t]? = some y) (hne : 1 ≤ s.O.length)
    (hth : (y'.pr = 2 ∨ y'.pr = 3 ∨ y'.pr = 4) → (y.pr = 2 ∨ y.pr = 3 ∨ y.pr = 4) ∧ y'.obj = y.obj ∧ y'.dep = y.dep) (hob : 0 ≤ y'.obj ∧ y'.obj < s.O.length ∨ ¬ (y'.pr = 2 ∨ y'.pr = 3 ∨ y'.pr = 4)) : OI n' (s.setT t y') D V := by
  by_cases hp : y'.pr = 2 ∨ y'.pr = 3 ∨ y'.pr = 4
  · obtain ⟨h1, h2, h3⟩ := hth hp
    obtain ⟨o, ho⟩ : ∃ o : Nat, y'.obj = o := ⟨y'.obj.toNat, by omega⟩
    obtain ⟨b, hb⟩ : ∃ b, s.O[o]? = some b := ⟨_, List.getElem?_eq_getElem (by omega)⟩
    obtain ⟨k1, k2, k3, k4⟩ := h.sav t y hy h1 o (by omega)
    have := OI.gen (D' := D) (V' := V) (b' := b) (y' := y') h hn hy hb (fun _ _ _ => rfl) (fun _ _ _ => rfl) (.inl ⟨rfl, rfl, rfl⟩) (fun _ => ⟨ho, by omega, by omega, by omega, k4 b hb⟩)
    rw [set_id hb] at this
    exact this
  · obtain ⟨b, hb⟩ : ∃ b, s.O[0]? = some b := ⟨_, List.getElem?_eq_getElem hne⟩
    have := OI.gen (D' := D) (V' := V) (b' := b) (y' := y') h hn hy hb (fun _ _ _ => rfl) (fun _ _ _ => rfl) (.inl ⟨rfl, rfl, rfl⟩) (fun h => absurd h hp)
    rw [set_id hb] at this
    exact this
theorem OI.endS {n n' : Nat} {s : SS} {D V : Tab} (h : OI n s D V) (hn : n ≤ n') {t : Nat} {y : Th} (hy : s.T[t]? = some y) (hne : 1 ≤ s.O.length) (c v : Int) : OI n' (endS s t c v) D V := by
  rw [endS_at hy]
  exact h.keep hn hy hne (fun h => by simp [endTh] at h) (.inr (by simp [endTh]))
theorem OI.awake {n n' : Nat} {s : SS} {D V : Tab} (h : OI n s D V) (hn : n ≤ n') {u o : Nat} {y : Th} {b : Ob} (hy : s.T[u]? = some y) (hb : s.O[o]? = some b) (ho : y.obj = (o : Int)) (hp : y.pr = 2 ∨ y.pr = 3 ∨ y.pr = 4) (how : Int) : OI n' (awakeS s u how) D V := by
  have eo : y.obj.toNat = o := by omega
  rw [awakeS_at hy (by rw [eo]; exact hb), eo]
  obtain ⟨k1, k2, k3, k4⟩ := h.sav u y hy hp o ho
  exact OI.gen (D' := D) (V' := V) (b' := { b with line := b.line.filter fun v => !(v == (u : Int)) }) (y' := { y with pr := 4, code := 0, val := how }) h hn hy hb (fun _ _ _ => rfl) (fun _ _ _ => rfl) (.inl ⟨rfl, rfl, rfl⟩) (fun _ => ⟨ho, k1, k2, by show y.dep ≤ _; omega, k4 b hb⟩)
theorem OI.hand {n : Nat} {s s' : SS} {D V : Tab} {t o : Nat} {x : Th} {b : Ob} {e : Ev} (h : OI n s D V) (hwf : WF0 s) (hn : (n : Int) + 1 ≤ 4611686018427387904) (hx : s.T[t]? = some x) (hb : s.O[o]? = some b) (ho : x.obj = o) (h0 : x.pr ≠ 0) (h5 : x.pr ≠ 5) (he : e.thr = t) (heo : e.obj = o) (hk : e.kind = 1) (hs : handS s t x o b e = some s') : OI (n + 1) s' (nextD D V e) (nextV D V e) := by
  have hn1 : n ≤ n + 1 := Nat.le_succ n
  have hne : 1 ≤ s.O.length := by have := (List.getElem?_eq_some_iff.1 hb).1; omega
  have hr := hwf.rg t x hx
  have htl := (List.getElem?_eq_some_iff.1 hx).1
  have hwn : (b.own = -1 ∧ b.dep = 0) ∨ (0 ≤ b.own ∧ 1 ≤ b.dep ∧ b.dep ≤ n) := by
    rcases h.own o b hb with a | ⟨u, _, h1, h2, h3⟩
    · exact .inl a
    · exact .inr ⟨by omega, h2, h3⟩
  have hdt := h.dep o b hb t htl
  have et : e.thr.toNat = t := by omega
  have eo : e.obj.toNat = o := by omega
  have stay : e.act ≠ 0 → e.act ≠ 1 → e.act ≠ 2 → e.act ≠ 5 → nextD D V e = D ∧ nextV D V e = V := fun a0 a1 a2 a5 => by
    unfold nextD nextV
    rw [if_pos hk, if_neg a0, if_neg a1, if_neg a2, if_neg a5, if_neg (fun h => a2 h.2)]
    exact ⟨rfl, rfl⟩
  unfold handS at hs
  by_cases c0 : x.op = 0
  · rw [if_pos c0] at hs
    unfold enterS at hs
    split at hs
    · rename_i hc
      obtain rfl := Option.some.inj hs
      have hw : wrap64 (b.dep + 1) = b.dep + 1 := IntWalk.wrap64_in _ (by omega)
      rw [endS_at (show (s.setO o _).T[t]? = some x from hx), hw]
      have hnd : nextD D V e = D.put t o (D t o + 1) := by unfold nextD; rw [if_pos hk, if_pos hc.1, et, eo]
      have hnv : nextV D V e = V := by unfold nextV; rw [if_neg (by omega)]
      rw [hnd, hnv]
      refine OI.gen (b' := { b with own := (t : Int), dep := b.dep + 1 }) h hn1 hx hb (fun u k hd => Tab.put_far D _ hd) (fun _ _ _ => rfl) (.inr ⟨by omega, .inr ⟨rfl, ?_, ?_, ?_⟩⟩) (fun h => by simp [endTh] at h)
      · show 1 ≤ b.dep + 1
        omega
      · show b.dep + 1 ≤ ((n + 1 : Nat) : Int)
        omega
      · rw [Tab.put_at, hdt]
        show _ = b.dep + 1
        split
        · rfl
        · omega
    · split at hs
      · rename_i hc
        obtain rfl := Option.some.inj hs
        obtain ⟨e1, e2⟩ := stay (by omega) (by omega) (by omega) (by omega)
        rw [e1, e2]
        exact h.endS hn1 hx hne _ _
      · cases hs
  rw [if_neg c0] at hs
  by_cases c1 : x.op = 1
  · rw [if_pos c1] at hs
    unfold exitS at hs
    split at hs
    · rename_i hc
      obtain rfl := Option.some.inj hs
      have hdp : 1 ≤ b.dep ∧ b.dep ≤ n := by omega
      have hw : wrap64 (b.dep - 1) = b.dep - 1 := IntWalk.wrap64_in _ (by omega)
      rw [endS_at (show (s.setO o _).T[t]? = some x from hx), hw]
      have hnd : nextD D V e = D.put t o (D t o - 1) := by unfold nextD; rw [if_pos hk, if_neg (by omega), if_pos hc.1, et, eo]
      have hnv : nextV D V e = V := by unfold nextV; rw [if_neg (by omega)]
      rw [hnd, hnv]
      rw [if_pos hc.2.2] at hdt
      refine OI.gen (b' := { b with own := if b.dep - 1 = 0 then -1 else (t : Int), dep := b.dep - 1 }) h hn1 hx hb (fun u k hd => Tab.put_far D _ hd) (fun _ _ _ => rfl) (.inr ⟨.inr hc.2.2, ?_⟩) (fun h => by simp [endTh] at h)
      rw [Tab.put_at, hdt]
      by_cases hz : b.dep - 1 = 0
      · left
        simp only [hz, if_true]
        exact ⟨trivial, trivial, trivial⟩
      · right
        simp only [hz, if_false]
        exact ⟨trivial, by omega, by omega, trivial⟩
    · split at hs
      · rename_i hc
        obtain rfl := Option.some.inj hs
        obtain ⟨e1, e2⟩ := stay (by omega) (by omega) (by omega) (by omega)
        rw [e1, e2]
        exact h.endS hn1 hx hne _ _
      · cases hs
  rw [if_neg c1] at hs
  by_cases c2 : x.op = 2 ∨ x.op = 3
  · rw [if_pos c2] at hs
    unfold waitS at hs
    split at hs
    · rename_i p1
      unfold beginS at hs
      split at hs
      · rename_i hc
        obtain rfl := Option.some.inj hs
        obtain ⟨e1, e2⟩ := stay (by omega) (by omega) (by omega) (by omega)
        rw [e1, e2]
        exact h.endS hn1 hx hne _ _
      · split at hs
        · rename_i hc
          obtain rfl := Option.some.inj hs
          obtain ⟨e1, e2⟩ := stay (by omega) (by omega) (by omega) (by omega)
          rw [e1, e2]
          exact OI.endS (h.keep (n' := n) (y' := { x with flag := false }) (Nat.le_refl _) hx hne (fun h => by simp [p1] at h) (.inr (by simp [p1]))) hn1 (set_same hx) hne _ _
        · split at hs
          · rename_i hc
            obtain rfl := Option.some.inj hs
            have hdp : 1 ≤ b.dep ∧ b.dep ≤ n := by omega
            have hnd : nextD D V e = D.put t o 0 := by unfold nextD; rw [if_pos hk, if_neg (by omega), if_neg (by omega), if_pos hc.1, et, eo]
            have hnv : nextV D V e = V.put t o (D t o) := by unfold nextV; rw [if_pos ⟨hk, hc.1⟩, et, eo]
            rw [hnd, hnv]
            rw [if_pos hc.2.2] at hdt
            exact OI.gen (b' := ⟨-1, 0, b.line ++ [(t : Int)]⟩) (y' := { x with dep := b.dep, pr := 2 }) h hn1 hx hb (fun u k hd => Tab.put_far D _ hd) (fun u k hd => Tab.put_far V _ hd) (.inr ⟨.inr hc.2.2, .inl ⟨rfl, rfl, Tab.put_at _ _ _ _⟩⟩) (fun _ => ⟨ho, by rw [Tab.put_at]; exact hdt, hdp.1, by show b.dep ≤ _; omega, by show (-1 : Int) ≠ t; omega⟩)
          · cases hs
    · split at hs
      · rename_i p4
        unfold grantS at hs
        split at hs
        · rename_i hc
          obtain rfl := Option.some.inj hs
          obtain ⟨k1, k2, k3, k4⟩ := h.sav t x hx (.inr (.inr p4)) o ho
          rw [endS_at (show (s.setO o _).T[t]? = some x from hx)]
          have hnd : nextD D V e = D.put t o (V t o) := by unfold nextD; rw [if_pos hk, if_neg (by omega), if_neg (by omega), if_neg (by omega), if_pos hc.1, et, eo]
          have hnv : nextV D V e = V := by unfold nextV; rw [if_neg (by omega)]
          rw [hnd, hnv]
          exact OI.gen (b' := { b with own := (t : Int), dep := x.dep }) h hn1 hx hb (fun u k hd => Tab.put_far D _ hd) (fun _ _ _ => rfl) (.inr ⟨.inl hc.2.2, .inr ⟨rfl, k2, by show x.dep ≤ _; omega, by rw [Tab.put_at]; exact k1⟩⟩) (fun h => by simp [endTh] at h)
        · cases hs
      · rename_i p1 p4
        have hw : x.pr = 2 ∨ x.pr = 3 := by omega
        unfold endWaitS at hs
        split at hs
        · rename_i hc
          obtain rfl := Option.some.inj hs
          obtain ⟨e1, e2⟩ := stay (by omega) (by omega) (by omega) (by omega)
          rw [e1, e2]
          exact h.keep hn1 hx hne (fun _ => ⟨by omega, rfl, rfl⟩) (.inl ⟨by show 0 ≤ x.obj; omega, by show x.obj < _; have := (List.getElem?_eq_some_iff.1 hb).1; omega⟩)
        · split at hs
          · rename_i hc
            obtain rfl := Option.some.inj hs
            obtain ⟨e1, e2⟩ := stay (by omega) (by omega) (by omega) (by omega)
            rw [e1, e2]
            exact h.awake hn1 hx hb ho (by omega) _
          · cases hs
  rw [if_neg c2] at hs
  by_cases c4 : x.op = 4 ∨ x.op = 5
  · rw [if_pos c4] at hs
    unfold notifyS at hs
    split at hs
    · rename_i hc
      obtain rfl := Option.some.inj hs
      obtain ⟨e1, e2⟩ := stay (by omega) (by omega) (by omega) (by omega)
      rw [e1, e2]
      exact h.endS hn1 hx hne _ _
    · split at hs
      · rename_i hc
        obtain ⟨hown, ha, hu⟩ := hc
        obtain rfl := Option.some.inj hs
        obtain ⟨e1, e2⟩ := stay (by omega) (by omega) (by omega) (by omega)
        rw [e1, e2]
        by_cases hz : e.oth = -1
        · simp only [hz, if_true, true_or]
          exact h.endS hn1 hx hne _ _
        · simp only [hz, if_false, false_or]
          rw [hu] at hz
          obtain ⟨u, y, e1, hy, hpy, hoy⟩ := hwf.longest hb hz
          rw [hu, e1, Int.toNat_natCast]
          have h1 : OI (n + 1) (awakeS s u 0) D V := h.awake hn1 hy hb hoy (.inl hpy) 0
          have htu : t ≠ u := by rintro rfl; rw [hx] at hy; obtain rfl := Option.some.inj hy; omega
          split
          · refine OI.endS (y := x) h1 (Nat.le_refl _) ?_ ?_ _ _
            · rw [awakeS_at hy (by rw [hoy, Int.toNat_natCast]; exact hb)]
              exact (set_other htu).trans hx
            · rw [awakeS_at hy (by rw [hoy, Int.toNat_natCast]; exact hb)]
              simpa [SS.setT, SS.setO] using hne
          · exact h1
      · cases hs
  rw [if_neg c4] at hs
  by_cases c6 : x.op = 6
  · rw [if_pos c6] at hs
    unfold interruptS at hs
    split at hs
    · rename_i hc
      obtain rfl := Option.some.inj hs
      obtain ⟨e1, e2⟩ := stay (by omega) (by omega) (by omega) (by omega)
      rw [e1, e2]
      have ha := (hwf.th t x hx h0 h5).2.2.2.2 c6
      obtain ⟨y, hy⟩ : ∃ y, s.T[x.arg.toNat]? = some y := ⟨_, List.getElem?_eq_getElem (by omega)⟩
      have hfl : flagS s x.arg.toNat = s.setT x.arg.toNat { y with flag := true } := by
        unfold flagS
        rw [hy]
      rw [hfl]
      have h1 : OI n (s.setT x.arg.toNat { y with flag := true }) D V := by
        refine h.keep (Nat.le_refl _) hy hne (fun hp => ⟨hp, rfl, rfl⟩) ?_
        by_cases hp : y.pr = 2 ∨ y.pr = 3 ∨ y.pr = 4
        · have := hwf.th _ y hy (by omega) (by omega)
          exact .inl ⟨this.2.2.1, this.2.2.2.1⟩
        · exact .inr hp
      obtain ⟨x1, hx1⟩ : ∃ x1, (s.setT x.arg.toNat { y with flag := true }).T[t]? = some x1 := ⟨_, List.getElem?_eq_getElem (by simp [SS.setT]; exact htl)⟩
      exact h1.endS hn1 hx1 hne _ _
    · cases hs
  rw [if_neg c6] at hs
  by_cases c7 : x.op = 7
  · rw [if_pos c7] at hs
    unfold lookS at hs
    generalize (if b.own = (t : Int) then (1 : Int) else 0) = z at hs
    split at hs
    · rename_i hc
      obtain rfl := Option.some.inj hs
      obtain ⟨e1, e2⟩ := stay (by omega) (by omega) (by omega) (by omega)
      rw [e1, e2]
      exact h.endS hn1 hx hne _ _
    · cases hs
  rw [if_neg c7] at hs
  unfold deflateS at hs
  split at hs
  · rename_i hc
    obtain rfl := Option.some.inj hs
    obtain ⟨e1, e2⟩ := stay (by omega) (by omega) (by omega) (by omega)
    rw [e1, e2]
    exact h.endS hn1 hx hne _ _
  · cases hs
theorem OI.take {n : Nat} {s s' : SS} {D V : Tab} {e : Ev} (h : OI n s D V) (hwf : WF0 s) (hne : 1 ≤ s.O.length) (hn : (n : Int) + 1 ≤ 4611686018427387904) (hs : takeS s e = some s') : OI (n + 1) s' (nextD D V e) (nextV D V e) := by
  have hn1 : n ≤ n + 1 := Nat.le_succ n
  have stay : e.kind ≠ 1 → nextD D V e = D ∧ nextV D V e = V := fun hk => by
    unfold nextD nextV
    rw [if_neg hk, if_neg (fun h => hk h.1)]
    exact ⟨rfl, rfl⟩
  unfold takeS at hs
  split at hs
  · cases hs
  · rename_i ht
    split at hs
    · cases hs
    · rename_i x hx
      split at hs
      · rename_i hk
        obtain ⟨e1, e2⟩ := stay (by omega)
        rw [e1, e2]
        unfold openS at hs
        split at hs
        · cases hs
        · rename_i hc
          obtain rfl := Option.some.inj hs
          refine h.keep hn1 hx hne (fun hp => ?_) (.inr ?_)
          · exfalso
            revert hp
            split <;> simp [begTh, endTh]
          · split <;> simp [begTh, endTh]
      · split at hs
        · rename_i hk
          unfold actS at hs
          split at hs
          · cases hs
          · rename_i hc
            split at hs
            · cases hs
            · rename_i b hb
              have hv := hwf.th _ x hx (by omega) (by omega)
              exact h.hand hwf hn hx hb (by omega) (by omega) (by omega) (by omega) (by omega) hk hs
        · rename_i hk0 hk1
          split at hs
          · obtain ⟨e1, e2⟩ := stay hk1
            rw [e1, e2]
            unfold closeS at hs
            split at hs
            · cases hs
            · obtain rfl := Option.some.inj hs
              exact h.keep hn1 hx hne (fun hp => by simp at hp) (.inr (by simp))
          · cases hs
theorem OI.new (m n : Nat) : OI 0 (newS m n) (fun _ _ => 0) (fun _ _ => 0) := by
  refine ⟨fun o b hb => ?_, fun o b hb t ht => ?_, fun t y hy hp => ?_⟩
  · simp [newS, List.getElem?_replicate] at hb
    obtain ⟨_, rfl⟩ := hb
    exact .inl ⟨rfl, rfl⟩
  · simp [newS, List.getElem?_replicate] at hb
    obtain ⟨_, rfl⟩ := hb
    simp
  · simp [newS, List.getElem?_replicate] at hy
    obtain ⟨_, rfl⟩ := hy
    simp [th0] at hp
end Go.Proofs.Ytcgljmeppmdihaa
