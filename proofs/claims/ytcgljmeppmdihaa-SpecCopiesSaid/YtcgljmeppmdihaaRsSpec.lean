/- The document's automaton (doorkeeperref12) as plain numbers: what may come, and what becomes of it; and package spec's beside it. No program is named here. -/
import Derived.Test.YtcgljmeppmdihaaSpSpec
namespace Go.Proofs.Ytcgljmeppmdihaa
open Go.RowKit
set_option linter.unusedVariables false
structure RTh where
  calls : Int
  opn : Bool
  op : Int
  obj : Int
  arg : Int
  far : Int
  code : Int
  val : Int
  flag : Bool
  saved : Int
  since : Int
structure RS where
  W : List Int
  D : List Int
  T : List RTh
  rel : Int
def rth0 : RTh := ⟨0, false, 0, 0, 0, 0, 0, 0, false, 0, 0⟩
def newR (m n : Nat) : RS := ⟨List.replicate n (-1), List.replicate n 0, List.replicate m rth0, 0⟩
def RS.mod (s : RS) (t : Nat) (f : RTh → RTh) : RS := { s with T := s.T.modify t f }
def RS.setW (s : RS) (o : Nat) (v : Int) : RS := { s with W := s.W.set o v }
def RS.setD (s : RS) (o : Nat) (v : Int) : RS := { s with D := s.D.set o v }
def finR (c v : Int) (x : RTh) : RTh := { x with far := 5, code := c, val := v }
def validR (s : RS) (op obj arg : Int) : Prop := 0 ≤ op ∧ op < 9 ∧ (0 ≤ obj ∧ obj < s.W.length) ∧ (op ≠ 6 ∨ (0 ≤ arg ∧ arg < s.T.length))
instance (s : RS) (op obj arg : Int) : Decidable (validR s op obj arg) := by unfold validR; exact inferInstance
/-- who may be the longest -/
def QR (s : RS) (o : Int) (u : Nat) (x : RTh) : Prop := s.T[u]? = some x ∧ x.opn = true ∧ x.obj = o ∧ x.far = 2
/-- the thread that waits the longest -/
def LongR (s : RS) (o best : Int) : Prop :=
  (best = -1 ∧ ∀ u x, ¬ QR s o u x) ∨ ∃ (u : Nat) (x : RTh), best = (u : Int) ∧ QR s o u x ∧ ∀ v y, QR s o v y → x.since ≤ y.since
/-- an act that is taken -/
inductive ActR (s : RS) (t : Nat) (x : RTh) (o : Nat) (own dep : Int) (e : Ev) : RS → Prop
  | enter : x.op = 0 → e.act = 0 → e.oth = 0 → (own = t ∨ own < 0) → ActR s t x o own dep e (((s.setW o t).setD o (wrap64 (dep + 1))).mod t (finR 0 0))
  | noenter : x.op = 0 → e.act = 8 → (e.oth = 5 ∧ own = t ∨ e.oth = 3) → ActR s t x o own dep e (s.mod t (finR e.oth 0))
  | exit : x.op = 1 → e.act = 1 → e.oth = 0 → own = t → ActR s t x o own dep e ((if wrap64 (dep - 1) = 0 then (s.setD o (wrap64 (dep - 1))).setW o (-1) else s.setD o (wrap64 (dep - 1))).mod t (finR 0 0))
  | noexit : x.op = 1 → e.act = 8 → e.oth = 4 → own ≠ t → ActR s t x o own dep e (s.mod t (finR 4 0))
  | look : x.op = 7 → e.act = 9 → (e.oth = 1 ∧ own = t ∨ e.oth = 0 ∧ own ≠ t) → ActR s t x o own dep e (s.mod t (finR 0 e.oth))
  | nonotify : (x.op = 4 ∨ x.op = 5) → e.act = 8 → own ≠ t → x.far = 0 → e.oth = 4 → ActR s t x o own dep e (s.mod t (finR 4 0))
  | notifyNone : (x.op = 4 ∨ x.op = 5) → e.act = 3 → own = t → LongR s e.obj e.oth → e.oth < 0 → ActR s t x o own dep e (s.mod t (finR 0 0))
  | notifyOne (u : Nat) : x.op = 4 → e.act = 3 → own = t → LongR s e.obj e.oth → e.oth = u → ActR s t x o own dep e ((s.mod u fun y => { y with far := 4, code := 0, val := 0 }).mod t (finR 0 0))
  | notifyMore (u : Nat) : x.op = 5 → e.act = 3 → own = t → LongR s e.obj e.oth → e.oth = u → ActR s t x o own dep e ((s.mod u fun y => { y with far := 4, code := 0, val := 0 }).mod t fun y => { y with far := 1 })
  | nowait : (x.op = 2 ∨ x.op = 3) → e.act = 8 → x.far = 0 → (e.oth = 4 ∧ own ≠ t ∨ e.oth = 3) → ActR s t x o own dep e (s.mod t (finR e.oth 0))
  | clear0 : (x.op = 2 ∨ x.op = 3) → e.act = 7 → e.oth = 0 → x.far = 0 → own = t → x.flag = true → ActR s t x o own dep e ((s.mod t fun y => { y with flag := false }).mod t (finR 0 2))
  | release : (x.op = 2 ∨ x.op = 3) → e.act = 2 → e.oth = 0 → x.far = 0 → own = t → ActR s t x o own dep e ({ (((s.mod t fun y => { y with saved := dep }).setW o (-1)).setD o 0) with rel := wrap64 (s.rel + 1) }.mod t fun y => { y with since := wrap64 (s.rel + 1), far := 2 })
  | clear2 : (x.op = 2 ∨ x.op = 3) → e.act = 7 → e.oth = 0 → x.far = 2 → x.flag = true → ActR s t x o own dep e (s.mod t fun y => { y with flag := false, far := 3 })
  | leave : (x.op = 2 ∨ x.op = 3) → e.act = 4 → (x.far = 2 ∧ (e.oth = 3 ∨ e.oth = 1 ∧ x.op = 3) ∨ x.far = 3 ∧ e.oth = 2) → ActR s t x o own dep e (s.mod t fun y => { y with far := 4, code := 0, val := e.oth })
  | grant : (x.op = 2 ∨ x.op = 3) → e.act = 5 → e.oth = 0 → x.far = 4 → own < 0 → ActR s t x o own dep e (((s.setW o t).setD o x.saved).mod t fun y => { y with far := 5 })
  | interrupt (u : Nat) : x.op = 6 → e.act = 6 → e.oth = x.arg → x.arg = u → ActR s t x o own dep e ((s.mod u fun y => { y with flag := true }).mod t (finR 0 0))
  | deflate : x.op = 8 → e.act = 10 → e.oth = 0 → ActR s t x o own dep e (s.mod t (finR 0 0))
/-- an event that is taken -/
inductive StepR (s : RS) (e : Ev) : RS → Prop
  | call (t : Nat) (x : RTh) : e.thr = t → s.T[t]? = some x → e.kind = 0 → x.opn = false → e.idx = x.calls → e.code = 0 → e.val = 0 → StepR s e (s.mod t fun y => { y with opn := true, calls := wrap64 (y.calls + 1), op := e.act, obj := e.obj, arg := e.oth, far := 0, code := 0, val := 0 })
  | act (t : Nat) (x : RTh) (o : Nat) (own dep : Int) (r : RS) : e.thr = t → s.T[t]? = some x → e.kind = 1 → e.idx = 0 → e.code = 0 → e.val = 0 → x.opn = true → validR s x.op x.obj x.arg → e.obj = x.obj → x.far ≠ 5 → x.obj = o → s.W[o]? = some own → s.D[o]? = some dep → ActR s t x o own dep e r → StepR s e r
  | ret (t : Nat) (x : RTh) : e.thr = t → s.T[t]? = some x → e.kind = 2 → x.opn = true → e.idx = wrap64 (x.calls - 1) → e.act = 0 → e.obj = 0 → e.oth = 0 →
      (¬ validR s x.op x.obj x.arg ∧ e.code = 2 ∧ e.val = 0 ∨ validR s x.op x.obj x.arg ∧ (x.far = 5 ∨ x.op = 8 ∧ x.far = 0) ∧ e.code = x.code ∧ e.val = x.val) → StepR s e (s.mod t fun y => { y with opn := false })
/-- how far a thread is, in both -/
def FarOk (f p : Int) : Prop := ((f = 0 ∨ f = 1) ∧ p = 1) ∨ (f = 2 ∧ p = 2) ∨ (f = 3 ∧ p = 3) ∨ (f = 4 ∧ p = 4) ∨ (f = 5 ∧ p = 5)
structure ThR (r : RS) (t : Nat) (x : RTh) (y : Th) : Prop where
  flag : x.flag = y.flag
  cr : wrap64 y.calls = y.calls
  closed : x.opn = false → y.pr = 0 ∧ x.calls = y.calls ∧ y.code = 0 ∧ y.val = 0
  open' : x.opn = true → y.op = x.op ∧ y.obj = x.obj ∧ y.arg = x.arg ∧ x.calls = wrap64 (y.calls + 1)
  bad : x.opn = true → ¬ validR r x.op x.obj x.arg → x.far = 0 ∧ y.pr = 5 ∧ y.code = 2 ∧ y.val = 0
  good : x.opn = true → validR r x.op x.obj x.arg → FarOk x.far y.pr ∧ y.code = x.code ∧ y.val = x.val ∧ (x.far = 2 ∨ x.far = 3 ∨ x.far = 4 → y.dep = x.saved) ∧ (x.far = 2 ∨ x.far = 3 → 0 ≤ x.since ∧ x.since ≤ r.rel)
  more : x.opn = true → validR r x.op x.obj x.arg → x.far = 1 → x.op = 5 ∧ r.W[x.obj.toNat]? = some (t : Int)
def sinceR (r : RS) (u : Int) : Int := match r.T[u.toNat]? with
  | some x => x.since
  | none => 0
/-- both are in one state -/
structure Sim (n : Nat) (r : RS) (s : SS) : Prop where
  ne : 1 ≤ s.O.length
  lt : r.T.length = s.T.length
  lw : r.W.length = s.O.length
  ld : r.D.length = s.O.length
  rel : 0 ≤ r.rel ∧ r.rel ≤ n
  th : ∀ (t : Nat) (x : RTh) (y : Th), r.T[t]? = some x → s.T[t]? = some y → ThR r t x y
  ob : ∀ (o : Nat) (b : Ob), s.O[o]? = some b → r.W[o]? = some b.own ∧ r.D[o]? = some b.dep ∧ -1 ≤ b.own
  ord : ∀ (o : Nat) (b : Ob), s.O[o]? = some b → b.line.Pairwise fun u v => sinceR r u < sinceR r v
theorem obj_lt' {s : SS} {t : Nat} {x : Ob} (h : s.O[t]? = some x) : t < s.O.length := (List.getElem?_eq_some_iff.1 h).1
theorem validR_congr {r r' : RS} (h1 : r'.W.length = r.W.length) (h2 : r'.T.length = r.T.length) {a b c : Int} : validR r' a b c ↔ validR r a b c := by
  unfold validR; rw [h1, h2]
theorem valid_both {n : Nat} {r : RS} {s : SS} (h : Sim n r s) {a b c : Int} : validR r a b c ↔ validS s a b c := by
  unfold validR validS; rw [h.lw, h.lt]
theorem mod_at {l : List RTh} {t u : Nat} {f : RTh → RTh} {x y : RTh} (hx : l[t]? = some x) (h : (l.modify t f)[u]? = some y) : (u = t ∧ y = f x) ∨ (u ≠ t ∧ l[u]? = some y) := by
  rw [List.getElem?_modify] at h
  by_cases e : t = u
  · subst e
    rw [hx] at h
    simp at h
    exact .inl ⟨rfl, h.symm⟩
  · simp [e] at h
    exact .inr ⟨fun k => e k.symm, h⟩
theorem mod_same {l : List RTh} {t : Nat} {f : RTh → RTh} {x : RTh} (hx : l[t]? = some x) : (l.modify t f)[t]? = some (f x) := by
  rw [List.getElem?_modify, hx]; simp
theorem mod_other {l : List RTh} {t u : Nat} {f : RTh → RTh} (h : u ≠ t) : (l.modify t f)[u]? = l[u]? := by
  rw [List.getElem?_modify]; cases l[u]? with
  | none => rfl
  | some y => simp [Ne.symm h]
theorem since_mod {r r' : RS} {t : Nat} {f : RTh → RTh} {x : RTh} (hx : r.T[t]? = some x) (hT : r'.T = r.T.modify t f) (u : Int) : sinceR r' u = if u.toNat = t then (f x).since else sinceR r u := by
  unfold sinceR
  rw [hT]
  by_cases e : u.toNat = t
  · rw [if_pos e, e, mod_same hx]
  · rw [if_neg e, mod_other e]
theorem since_at {r : RS} {t : Nat} {x : RTh} (hx : r.T[t]? = some x) {u : Int} (h : u.toNat = t) : sinceR r u = x.since := by
  unfold sinceR; rw [h, hx]
theorem lines_keep {n : Nat} {r r' : RS} {s : SS} (h : Sim n r s) (hwf : WF0 s) {t : Nat} {x : RTh} {f : RTh → RTh} (hx : r.T[t]? = some x) (hT : r'.T = r.T.modify t f)
    (hs : (f x).since = x.since ∨ ∀ (k : Nat) c, s.O[k]? = some c → ¬ (t : Int) ∈ c.line) {k : Nat} {c : Ob} (hc : s.O[k]? = some c) : c.line.Pairwise fun u v => sinceR r' u < sinceR r' v := by
  refine (h.ord k c hc).imp_of_mem fun {a d} ha hd hlt => ?_
  have sw : ∀ a, a ∈ c.line → sinceR r' a = sinceR r a := fun a ha => by
    rw [since_mod (r := r) hx hT]
    split
    · rename_i e
      rcases hs with e2 | hn
      · rw [e2, since_at hx e]
      · obtain ⟨k1, _, e3, _⟩ := (hwf.ln k c hc).2 a ha
        refine absurd ?_ (hn k c hc)
        rw [← e, e3, Int.toNat_natCast, ← e3]
        exact ha
    · rfl
  rw [sw a ha, sw d hd]
  exact hlt
/-- one thread and one object turn -/
theorem Sim.gen {n n' : Nat} {r : RS} {s : SS} (h : Sim n r s) (hwf : WF0 s) {t o : Nat} {x : RTh} {y : Th} {b b' : Ob} {y' : Th} {f : RTh → RTh} {rel' : Int} (hx : r.T[t]? = some x) (hy : s.T[t]? = some y) (hb : s.O[o]? = some b)
    (hrel : r.rel ≤ rel' ∧ rel' ≤ n') (hown : b'.own = b.own ∨ b.own < 0 ∨ b.own = t) (hge : -1 ≤ b'.own)
    (hth : ThR ⟨r.W.set o b'.own, r.D.set o b'.dep, r.T.modify t f, rel'⟩ t (f x) y')
    (hs : (f x).since = x.since ∨ ∀ (k : Nat) c, s.O[k]? = some c → ¬ (t : Int) ∈ c.line)
    (hline : b'.line.Pairwise fun u v => sinceR ⟨r.W.set o b'.own, r.D.set o b'.dep, r.T.modify t f, rel'⟩ u < sinceR ⟨r.W.set o b'.own, r.D.set o b'.dep, r.T.modify t f, rel'⟩ v) :
    Sim n' ⟨r.W.set o b'.own, r.D.set o b'.dep, r.T.modify t f, rel'⟩ ⟨s.T.set t y', s.O.set o b'⟩ := by
  have hol := obj_lt' hb
  refine ⟨by simp; exact h.ne, by simp [h.lt], by simp [h.lw], by simp [h.ld], ⟨by have := h.rel; show 0 ≤ rel'; omega, hrel.2⟩, fun u x1 y1 hx1 hy1 => ?_, fun k c hc => ?_, fun k c hc => ?_⟩
  · rcases mod_at hx hx1 with ⟨rfl, rfl⟩ | ⟨hne, hx1⟩
    · rcases set_at hy1 with ⟨_, rfl, _⟩ | ⟨hn, _⟩
      · exact hth
      · exact absurd rfl hn
    · replace hy1 := (set_other hne).symm.trans hy1
      have q := h.th u x1 y1 hx1 hy1
      have hv : ∀ a b c, validR ⟨r.W.set o b'.own, r.D.set o b'.dep, r.T.modify t f, rel'⟩ a b c ↔ validR r a b c := fun a b c => validR_congr (by simp) (by simp)
      refine ⟨q.flag, q.cr, q.closed, q.open', fun h1 h2 => q.bad h1 (fun k => h2 ((hv _ _ _).2 k)), fun h1 h2 => ?_, fun h1 h2 h3 => ?_⟩
      · obtain ⟨a1, a2, a3, a4, a5⟩ := q.good h1 ((hv _ _ _).1 h2)
        exact ⟨a1, a2, a3, a4, fun k => ⟨(a5 k).1, by have := (a5 k).2; show x1.since ≤ rel'; omega⟩⟩
      · obtain ⟨a1, a2⟩ := q.more h1 ((hv _ _ _).1 h2) h3
        refine ⟨a1, ?_⟩
        show (r.W.set o b'.own)[x1.obj.toNat]? = some (u : Int)
        by_cases e : x1.obj.toNat = o
        · rw [e] at a2 ⊢
          have e2 := (h.ob o b hb).1
          rw [a2] at e2
          have e3 := Option.some.inj e2
          rw [set_same a2]
          congr 1
          omega
        · rw [set_other e]
          exact a2
  · rcases set_at hc with ⟨rfl, rfl, _⟩ | ⟨hne, hc⟩
    · have e1 := h.ob k b hb
      exact ⟨set_same e1.1, set_same e1.2.1, hge⟩
    · have e1 := h.ob k c hc
      exact ⟨(set_other hne).trans e1.1, (set_other hne).trans e1.2.1, e1.2.2⟩
  · rcases set_at hc with ⟨rfl, rfl, _⟩ | ⟨hne, hc⟩
    · exact hline
    · exact lines_keep h hwf hx rfl hs hc
theorem set_id {α : Type} {l : List α} {o : Nat} {v : α} (h : l[o]? = some v) : l.set o v = l := by
  refine List.ext_getElem? fun i => ?_
  by_cases e : i = o
  · subst e; rw [set_same h, h]
  · rw [set_other e]
theorem mod_mod (r : RS) (t : Nat) (f g : RTh → RTh) : (r.mod t f).mod t g = r.mod t (g ∘ f) := by
  unfold RS.mod
  congr 1
  refine List.ext_getElem? fun i => ?_
  rw [List.getElem?_modify, List.getElem?_modify, List.getElem?_modify]
  cases r.T[i]? with
  | none => rfl
  | some y =>
    by_cases e : t = i
    · simp [e]
    · simp [e]
/-- one thread turns -/
theorem Sim.one {n n' : Nat} {r : RS} {s : SS} (h : Sim n r s) (hwf : WF0 s) (hn : n ≤ n') {t : Nat} {x : RTh} {y y' : Th} {f : RTh → RTh} (hx : r.T[t]? = some x) (hy : s.T[t]? = some y)
    (hth : ThR (r.mod t f) t (f x) y') (hs : (f x).since = x.since ∨ ∀ (k : Nat) c, s.O[k]? = some c → ¬ (t : Int) ∈ c.line) : Sim n' (r.mod t f) (s.setT t y') := by
  obtain ⟨b, hb⟩ : ∃ b, s.O[0]? = some b := ⟨_, List.getElem?_eq_getElem h.ne⟩
  obtain ⟨e1, e2, e3⟩ := h.ob 0 b hb
  have eR : (⟨r.W.set 0 b.own, r.D.set 0 b.dep, r.T.modify t f, r.rel⟩ : RS) = r.mod t f := by rw [set_id e1, set_id e2]; rfl
  have eS : (⟨s.T.set t y', s.O.set 0 b⟩ : SS) = s.setT t y' := by rw [set_id hb]; rfl
  have := Sim.gen (n' := n') (b' := b) (y' := y') (f := f) (rel' := r.rel) h hwf hx hy hb ⟨Int.le_refl _, by have := h.rel; omega⟩ (.inl rfl) e3 (by rw [eR]; exact hth) hs (by rw [eR]; exact lines_keep h hwf hx rfl hs hb)
  rw [eR, eS] at this
  exact this
/-- one thread turns, and an object's owner and depth -/
theorem Sim.two {n n' : Nat} {r : RS} {s : SS} (h : Sim n r s) (hwf : WF0 s) (hn : n ≤ n') {t o : Nat} {x : RTh} {y y' : Th} {b : Ob} {f : RTh → RTh} (hx : r.T[t]? = some x) (hy : s.T[t]? = some y) (hb : s.O[o]? = some b) (wo wd : Int)
    (hown : wo = b.own ∨ b.own < 0 ∨ b.own = t) (hge : -1 ≤ wo)
    (hth : ThR (((r.setW o wo).setD o wd).mod t f) t (f x) y') (hs : (f x).since = x.since) : Sim n' (((r.setW o wo).setD o wd).mod t f) ((s.setO o { b with own := wo, dep := wd }).setT t y') := by
  have hl := lines_keep (r' := ((r.setW o wo).setD o wd).mod t f) h hwf hx rfl (.inl hs) hb
  exact Sim.gen (n' := n') (b' := { b with own := wo, dep := wd }) (y' := y') (f := f) (rel' := r.rel) h hwf hx hy hb ⟨Int.le_refl _, by have := h.rel; omega⟩ hown hge hth (.inl hs) hl
/-- a thread leaves its line -/
theorem Sim.awake {n n' : Nat} {r : RS} {s : SS} (h : Sim n r s) (hwf : WF0 s) (hn : n ≤ n') {t o : Nat} {x : RTh} {y : Th} {b : Ob} {how : Int} (hx : r.T[t]? = some x) (hy : s.T[t]? = some y) (hb : s.O[o]? = some b) (ho : y.obj = (o : Int))
    (hth : ThR (r.mod t fun y => { y with far := 4, code := 0, val := how }) t { x with far := 4, code := 0, val := how } { y with pr := 4, code := 0, val := how }) : Sim n' (r.mod t fun y => { y with far := 4, code := 0, val := how }) (awakeS s t how) := by
  have eo : y.obj.toNat = o := by omega
  rw [awakeS_at hy (by rw [eo]; exact hb), eo]
  obtain ⟨e1, e2, e3⟩ := h.ob o b hb
  have eR : (⟨r.W.set o b.own, r.D.set o b.dep, r.T.modify t fun y => { y with far := 4, code := 0, val := how }, r.rel⟩ : RS) = r.mod t fun y => { y with far := 4, code := 0, val := how } := by rw [set_id e1, set_id e2]; rfl
  have := Sim.gen (n' := n') (b' := { b with line := b.line.filter fun v => !(v == (t : Int)) }) (y' := { y with pr := 4, code := 0, val := how }) (f := fun y => { y with far := 4, code := 0, val := how }) (rel' := r.rel) h hwf hx hy hb ⟨Int.le_refl _, by have := h.rel; omega⟩ (.inl rfl) e3 (by rw [eR]; exact hth) (.inl rfl)
    (by rw [eR]; exact (lines_keep h hwf hx rfl (.inl rfl) hb).sublist List.filter_sublist)
  rw [eR] at this
  exact this
theorem ThR.fin {r r' : RS} {t : Nat} {x : RTh} {y : Th} (q : ThR r t x y) (hw : r'.W.length = r.W.length) (ht : r'.T.length = r.T.length) (ho : x.opn = true) (hv : validR r x.op x.obj x.arg) (c v : Int) : ThR r' t (finR c v x) (endTh y c v) := by
  have hc := fun a b c => @validR_congr r r' hw ht a b c
  refine ⟨q.flag, q.cr, fun h => ?_, q.open', fun _ h => absurd ((hc _ _ _).2 hv) h, fun _ _ => ⟨.inr (.inr (.inr (.inr ⟨rfl, rfl⟩))), rfl, rfl, fun h => ?_, fun h => ?_⟩, fun _ _ h => ?_⟩
  · exact absurd (show x.opn = false from h) (by rw [ho]; simp)
  · simp [finR] at h
  · simp [finR] at h
  · simp [finR] at h
/-- the one that is woken is in both the same -/
theorem longest_both {n : Nat} {r : RS} {s : SS} (h : Sim n r s) (hwf : WF s) {o : Nat} {b : Ob} (hb : s.O[o]? = some b) {best : Int} (hl : LongR r o best) : longestS s b.line = best := by
  have key : ∀ (u : Nat) (x : RTh), QR r o u x → (u : Int) ∈ b.line ∧ prOf s u = 2 := fun u x ⟨hx, ho, hobj, hf⟩ => by
    obtain ⟨y, hy⟩ : ∃ y, s.T[u]? = some y := ⟨_, List.getElem?_eq_getElem (by rw [← h.lt]; exact (List.getElem?_eq_some_iff.1 hx).1)⟩
    have q := h.th u x y hx hy
    have hv : validR r x.op x.obj x.arg := Classical.byContradiction fun hn => by have := (q.bad ho hn).1; omega
    have hp : y.pr = 2 := by have := (q.good ho hv).1; unfold FarOk at this; omega
    have eo := q.open' ho
    refine ⟨hwf.inl hy hb (by omega) (.inl hp), ?_⟩
    unfold prOf
    rw [Int.toNat_natCast, hy]
    exact hp
  have back : ∀ u ∈ b.line, prOf s u = 2 → ∃ (k : Nat) (x : RTh), u = (k : Int) ∧ QR r o k x ∧ sinceR r u = x.since := fun u hu hp => by
    obtain ⟨k, y, rfl, hy, hp2, ho⟩ := (hwf.ln o b hb).2 u hu
    have e2 : y.pr = 2 := by unfold prOf at hp; rw [Int.toNat_natCast, hy] at hp; exact hp
    obtain ⟨x, hx⟩ : ∃ x, r.T[k]? = some x := ⟨_, List.getElem?_eq_getElem (by rw [h.lt]; exact (List.getElem?_eq_some_iff.1 hy).1)⟩
    have q := h.th k x y hx hy
    have hop : x.opn = true := by
      cases e : x.opn with
      | true => rfl
      | false => have := (q.closed e).1; omega
    have hv : validR r x.op x.obj x.arg := Classical.byContradiction fun hn => by have := (q.bad hop hn).2.1; omega
    have hf : x.far = 2 := by have := (q.good hop hv).1; unfold FarOk at this; omega
    have eo := q.open' hop
    exact ⟨k, x, rfl, ⟨hx, hop, by omega, hf⟩, since_at hx (Int.toNat_natCast k)⟩
  rcases hl with ⟨rfl, hn⟩ | ⟨u, x, rfl, hq, hmin⟩
  · refine Classical.byContradiction fun hne => ?_
    obtain ⟨hm, hp⟩ := longest_mem hne
    obtain ⟨k, x, _, hq, _⟩ := back _ hm hp
    exact hn k x hq
  · obtain ⟨hu, hp⟩ := key u x hq
    have hs := h.ord o b hb
    have hsu : sinceR r u = x.since := since_at hq.1 (Int.toNat_natCast u)
    have hm : ∀ v ∈ b.line, prOf s v = 2 → sinceR r u ≤ sinceR r v := fun v hv hp => by
      obtain ⟨k, y, rfl, hq2, e⟩ := back v hv hp
      rw [e, hsu]
      exact hmin k y hq2
    clear key back hmin hq
    generalize b.line = l at *
    clear hb
    induction l with
    | nil => simp at hu
    | cons a l ih =>
      unfold longestS
      by_cases ha : prOf s a = 2
      · rw [if_pos ha]
        rcases List.mem_cons.1 hu with e | e
        · exact e.symm
        · have h1 := (List.pairwise_cons.1 hs).1 _ e
          have h2 := hm a List.mem_cons_self ha
          omega
      · rw [if_neg ha]
        have hu2 : (u : Int) ∈ l := by
          rcases List.mem_cons.1 hu with e | e
          · rw [e] at hp; exact absurd hp ha
          · exact e
        exact ih hu2 (List.pairwise_cons.1 hs).2 (fun v hv => hm v (List.mem_cons_of_mem _ hv))
end Go.Proofs.Ytcgljmeppmdihaa
