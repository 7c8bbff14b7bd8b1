/- Package spec as plain numbers: threads, objects, events; what may come, and what becomes of it. No program is named here. -/
import Derived.Test.YtcgljmeppmdihaaEv
import Derived.WalkKit
import Derived.ProofKit
import Derived.Handy
import Derived.IntWalk
namespace Go.Proofs.Ytcgljmeppmdihaa
open Go.RowKit
set_option linter.unusedVariables false
structure Th where
  op : Int
  obj : Int
  arg : Int
  pr : Int
  calls : Int
  flag : Bool
  dep : Int
  code : Int
  val : Int
structure Ob where
  own : Int
  dep : Int
  line : List Int
structure SS where
  T : List Th
  O : List Ob
def th0 : Th := ⟨0, 0, 0, 0, 0, false, 0, 0, 0⟩
def newS (m n : Nat) : SS := ⟨List.replicate m th0, List.replicate n ⟨-1, 0, []⟩⟩
def SS.setT (s : SS) (t : Nat) (x : Th) : SS := ⟨s.T.set t x, s.O⟩
def SS.setO (s : SS) (o : Nat) (b : Ob) : SS := ⟨s.T, s.O.set o b⟩
def endTh (x : Th) (c v : Int) : Th := { x with pr := 5, code := c, val := v }
def endS (s : SS) (t : Nat) (c v : Int) : SS :=
  match s.T[t]? with
  | some x => s.setT t (endTh x c v)
  | none => s
def prOf (s : SS) (u : Int) : Int :=
  match s.T[u.toNat]? with
  | some x => x.pr
  | none => 0
def longestS (s : SS) : List Int → Int
  | [] => -1
  | u :: l => if prOf s u = 2 then u else longestS s l
def awakeS (s : SS) (u : Nat) (how : Int) : SS :=
  match s.T[u]? with
  | none => s
  | some y =>
    match s.O[y.obj.toNat]? with
    | none => s
    | some ob => (s.setO y.obj.toNat { ob with line := ob.line.filter fun v => !(v == (u : Int)) }).setT u { y with pr := 4, code := 0, val := how }
def flagS (s : SS) (a : Nat) : SS :=
  match s.T[a]? with
  | none => s
  | some y => s.setT a { y with flag := true }
def enterS (s : SS) (t o : Nat) (b : Ob) (e : Ev) : Option SS :=
  if e.act = 0 ∧ e.oth = 0 ∧ (b.own = t ∨ b.own = -1) then some (endS (s.setO o { b with own := t, dep := wrap64 (b.dep + 1) }) t 0 0)
  else if e.act = 8 ∧ (e.oth = 5 ∧ b.own = t ∨ e.oth = 3) then some (endS s t e.oth 0)
  else none
def exitS (s : SS) (t o : Nat) (b : Ob) (e : Ev) : Option SS :=
  if e.act = 1 ∧ e.oth = 0 ∧ b.own = t then some (endS (s.setO o { b with own := if wrap64 (b.dep - 1) = 0 then -1 else t, dep := wrap64 (b.dep - 1) }) t 0 0)
  else if e.act = 8 ∧ e.oth = 4 ∧ b.own ≠ t then some (endS s t e.oth 0)
  else none
def beginS (s : SS) (t : Nat) (x : Th) (o : Nat) (b : Ob) (e : Ev) : Option SS :=
  if e.act = 8 ∧ (e.oth = 4 ∧ b.own ≠ t ∨ e.oth = 3) then some (endS s t e.oth 0)
  else if e.act = 7 ∧ e.oth = 0 ∧ b.own = t ∧ x.flag = true then some (endS (s.setT t { x with flag := false }) t 0 2)
  else if e.act = 2 ∧ e.oth = 0 ∧ b.own = t then some ((s.setT t { x with dep := b.dep, pr := 2 }).setO o ⟨-1, 0, b.line ++ [(t : Int)]⟩)
  else none
def leavesS (x : Th) (how : Int) : Bool :=
  if how = 1 then decide (x.pr = 2) && decide (x.op = 3)
  else if how = 2 then decide (x.pr = 3)
  else if how = 3 then decide (x.pr = 2)
  else false
def endWaitS (s : SS) (t : Nat) (x : Th) (e : Ev) : Option SS :=
  if e.act = 7 ∧ e.oth = 0 ∧ x.flag = true ∧ x.pr = 2 then some (s.setT t { x with flag := false, pr := 3 })
  else if e.act = 4 ∧ leavesS x e.oth = true then some (awakeS s t e.oth)
  else none
def grantS (s : SS) (t : Nat) (x : Th) (o : Nat) (b : Ob) (e : Ev) : Option SS :=
  if e.act = 5 ∧ e.oth = 0 ∧ b.own = -1 then some (endS (s.setO o { b with own := t, dep := x.dep }) t x.code x.val)
  else none
def waitS (s : SS) (t : Nat) (x : Th) (o : Nat) (b : Ob) (e : Ev) : Option SS :=
  if x.pr = 1 then beginS s t x o b e else if x.pr = 4 then grantS s t x o b e else endWaitS s t x e
def notifyS (s : SS) (t : Nat) (x : Th) (b : Ob) (e : Ev) : Option SS :=
  if e.act = 8 ∧ e.oth = 4 ∧ b.own ≠ t then some (endS s t e.oth 0)
  else if b.own = t ∧ e.act = 3 ∧ e.oth = longestS s b.line then
    let s1 := if e.oth = -1 then s else awakeS s e.oth.toNat 0
    some (if e.oth = -1 ∨ x.op = 4 then endS s1 t 0 0 else s1)
  else none
def interruptS (s : SS) (t : Nat) (x : Th) (e : Ev) : Option SS :=
  if e.act = 6 ∧ e.oth = x.arg then some (endS (flagS s x.arg.toNat) t 0 0) else none
def lookS (s : SS) (t : Nat) (b : Ob) (e : Ev) : Option SS :=
  if e.act = 9 ∧ e.oth = (if b.own = t then 1 else 0) then some (endS s t 0 (if b.own = t then 1 else 0)) else none
def deflateS (s : SS) (t : Nat) (e : Ev) : Option SS :=
  if e.act = 10 ∧ e.oth = 0 then some (endS s t 0 0) else none
def handS (s : SS) (t : Nat) (x : Th) (o : Nat) (b : Ob) (e : Ev) : Option SS :=
  if x.op = 0 then enterS s t o b e
  else if x.op = 1 then exitS s t o b e
  else if x.op = 2 ∨ x.op = 3 then waitS s t x o b e
  else if x.op = 4 ∨ x.op = 5 then notifyS s t x b e
  else if x.op = 6 then interruptS s t x e
  else if x.op = 7 then lookS s t b e
  else deflateS s t e
def actS (s : SS) (t : Nat) (x : Th) (e : Ev) : Option SS :=
  if x.pr = 0 ∨ x.pr = 5 ∨ e.obj ≠ x.obj ∨ e.idx ≠ 0 ∨ e.code ≠ 0 ∨ e.val ≠ 0 then none
  else match s.O[x.obj.toNat]? with
    | none => none
    | some b => handS s t x x.obj.toNat b e
def validS (s : SS) (op obj arg : Int) : Prop := 0 ≤ op ∧ op < 9 ∧ (0 ≤ obj ∧ obj < s.O.length) ∧ (op ≠ 6 ∨ (0 ≤ arg ∧ arg < s.T.length))
instance (s : SS) (op obj arg : Int) : Decidable (validS s op obj arg) := by unfold validS; exact inferInstance
def begTh (x : Th) (e : Ev) : Th := { x with op := e.act, obj := e.obj, arg := e.oth, pr := 1 }
def openS (s : SS) (t : Nat) (x : Th) (e : Ev) : Option SS :=
  if x.pr ≠ 0 ∨ e.idx ≠ x.calls ∨ e.code ≠ 0 ∨ e.val ≠ 0 then none
  else some (s.setT t (if validS s e.act e.obj e.oth then begTh x e else endTh (begTh x e) 2 0))
def doneS (x : Th) : Prop := x.pr = 5 ∨ (x.pr = 1 ∧ x.op = 8)
instance (x : Th) : Decidable (doneS x) := by unfold doneS; exact inferInstance
def closeS (s : SS) (t : Nat) (x : Th) (e : Ev) : Option SS :=
  if ¬ doneS x ∨ e.idx ≠ x.calls ∨ e.code ≠ x.code ∨ e.val ≠ x.val ∨ e.act ≠ 0 ∨ e.obj ≠ 0 ∨ e.oth ≠ 0 then none
  else some (s.setT t ⟨0, 0, 0, 0, wrap64 (x.calls + 1), x.flag, 0, 0, 0⟩)
def takeS (s : SS) (e : Ev) : Option SS :=
  if e.thr < 0 then none
  else match s.T[e.thr.toNat]? with
    | none => none
    | some x =>
      if e.kind = 0 then openS s e.thr.toNat x e
      else if e.kind = 1 then actS s e.thr.toNat x e
      else if e.kind = 2 then closeS s e.thr.toNat x e
      else none
/-- what holds of each automaton that was made and then took events -/
structure WF0 (s : SS) : Prop where
  th : ∀ (t : Nat) (x : Th), s.T[t]? = some x → x.pr ≠ 0 → x.pr ≠ 5 → 0 ≤ x.op ∧ x.op < 9 ∧ 0 ≤ x.obj ∧ x.obj < s.O.length ∧ (x.op = 6 → 0 ≤ x.arg ∧ x.arg < s.T.length)
  rg : ∀ (t : Nat) (x : Th), s.T[t]? = some x → (0 ≤ x.pr ∧ x.pr ≤ 5) ∧ (x.pr = 2 ∨ x.pr = 3 ∨ x.pr = 4 → x.op = 2 ∨ x.op = 3)
  ln : ∀ (o : Nat) (b : Ob), s.O[o]? = some b → b.line.Nodup ∧ ∀ u ∈ b.line, ∃ (t : Nat) (x : Th), u = (t : Int) ∧ s.T[t]? = some x ∧ (x.pr = 2 ∨ x.pr = 3) ∧ x.obj = o
  sz : s.T.length ≤ 32766 ∧ s.O.length ≤ 65536
theorem setT_len (s : SS) (t : Nat) (x : Th) : (s.setT t x).T.length = s.T.length ∧ (s.setT t x).O = s.O := ⟨by simp [SS.setT], rfl⟩
theorem setO_len (s : SS) (o : Nat) (b : Ob) : (s.setO o b).T = s.T ∧ (s.setO o b).O.length = s.O.length := ⟨rfl, by simp [SS.setO]⟩
theorem set_at {α : Type} {l : List α} {t u : Nat} {x y : α} (h : (l.set t x)[u]? = some y) : (u = t ∧ y = x ∧ t < l.length) ∨ (u ≠ t ∧ l[u]? = some y) := by
  rw [List.getElem?_set] at h
  split at h
  · subst_vars
    split at h
    · left; exact ⟨rfl, by simpa using h.symm, by assumption⟩
    · cases h
  · right; exact ⟨fun e => by subst e; contradiction, h⟩
theorem set_same {α : Type} {l : List α} {t : Nat} {x y : α} (h : l[t]? = some x) : (l.set t y)[t]? = some y := by
  have := (List.getElem?_eq_some_iff.1 h).1
  rw [List.getElem?_set]; simp [this]
theorem set_other {α : Type} {l : List α} {t u : Nat} {y : α} (h : u ≠ t) : (l.set t y)[u]? = l[u]? := by
  rw [List.getElem?_set]; rw [if_neg (fun e => h e.symm)]
theorem WF0.setT {s : SS} (h : WF0 s) {t : Nat} {x x' : Th} (hx : s.T[t]? = some x)
    (hv : x'.pr ≠ 0 → x'.pr ≠ 5 → 0 ≤ x'.op ∧ x'.op < 9 ∧ 0 ≤ x'.obj ∧ x'.obj < s.O.length ∧ (x'.op = 6 → 0 ≤ x'.arg ∧ x'.arg < s.T.length))
    (hr : (0 ≤ x'.pr ∧ x'.pr ≤ 5) ∧ (x'.pr = 2 ∨ x'.pr = 3 ∨ x'.pr = 4 → x'.op = 2 ∨ x'.op = 3))
    (hl : ∀ (o : Nat) (b : Ob), s.O[o]? = some b → (t : Int) ∈ b.line → (x'.pr = 2 ∨ x'.pr = 3) ∧ x'.obj = o) : WF0 (s.setT t x') := by
  refine ⟨fun u y hy h0 h5 => ?_, fun u y hy => ?_, fun o b hb => ?_, by rw [(setT_len s t x').1]; exact h.sz⟩
  · rw [(setT_len s t x').1]
    rcases set_at hy with ⟨rfl, rfl, _⟩ | ⟨_, hy⟩
    · exact hv h0 h5
    · exact h.th u y hy h0 h5
  · rcases set_at hy with ⟨rfl, rfl, _⟩ | ⟨_, hy⟩
    · exact hr
    · exact h.rg u y hy
  · refine ⟨(h.ln o b hb).1, fun u hu => ?_⟩
    obtain ⟨k, y, rfl, hy, hp, ho⟩ := (h.ln o b hb).2 u hu
    by_cases hk : k = t
    · subst hk
      obtain ⟨h1, h2⟩ := hl o b hb hu
      exact ⟨k, x', rfl, set_same hx, h1, h2⟩
    · exact ⟨k, y, rfl, (set_other hk).trans hy, hp, ho⟩
theorem WF0.setO {s : SS} (h : WF0 s) {o : Nat} {b b' : Ob} (hb : s.O[o]? = some b)
    (hl : b'.line.Nodup ∧ ∀ u ∈ b'.line, ∃ (t : Nat) (x : Th), u = (t : Int) ∧ s.T[t]? = some x ∧ (x.pr = 2 ∨ x.pr = 3) ∧ x.obj = o) : WF0 (s.setO o b') := by
  refine ⟨fun u y hy h0 h5 => ?_, fun u y hy => h.rg u y hy, fun k c hc => ?_, by rw [(setO_len s o b').2]; exact h.sz⟩
  · rw [(setO_len s o b').2]
    exact h.th u y hy h0 h5
  · rcases set_at hc with ⟨rfl, rfl, _⟩ | ⟨_, hc⟩
    · exact hl
    · exact h.ln k c hc
theorem WF0.setO' {s : SS} (h : WF0 s) {o : Nat} {b b' : Ob} (hb : s.O[o]? = some b) (hl : b'.line = b.line) : WF0 (s.setO o b') := h.setO hb (by rw [hl]; exact h.ln o b hb)
/-- a thread that does not wait is in no line -/
theorem WF0.out {s : SS} (h : WF0 s) {t : Nat} {x : Th} (hx : s.T[t]? = some x) (hp : x.pr ≠ 2 ∧ x.pr ≠ 3) {o : Nat} {b : Ob} (hb : s.O[o]? = some b) : ¬ (t : Int) ∈ b.line := fun hm => by
  obtain ⟨k, y, hk, hy, hp2, _⟩ := (h.ln o b hb).2 _ hm
  obtain rfl : t = k := by omega
  rw [hx] at hy
  obtain rfl := Option.some.inj hy
  omega
theorem WF0.endS {s : SS} (h : WF0 s) {t : Nat} {x : Th} (hx : s.T[t]? = some x) (hp : x.pr ≠ 2 ∧ x.pr ≠ 3) (c v : Int) : WF0 (endS s t c v) := by
  unfold Go.Proofs.Ytcgljmeppmdihaa.endS
  rw [hx]
  exact h.setT hx (fun _ h5 => absurd rfl h5) ⟨⟨by simp [endTh], by simp [endTh]⟩, by simp [endTh]⟩ (fun o b hb hm => absurd hm (h.out hx hp hb))
theorem WF0.ends {s : SS} {t : Nat} {x : Th} {o : Nat} {b b' : Ob} (h : WF0 s) (hx : s.T[t]? = some x) (hp : x.pr ≠ 2 ∧ x.pr ≠ 3) (hb : s.O[o]? = some b) (hl : b'.line = b.line) (c v : Int) : WF0 (Go.Proofs.Ytcgljmeppmdihaa.endS (s.setO o b') t c v) :=
  (h.setO' hb hl).endS (x := x) hx hp c v
theorem WF0.awake {s : SS} (h : WF0 s) {u : Nat} {y : Th} (hy : s.T[u]? = some y) (hp : y.pr = 2 ∨ y.pr = 3) (how : Int) : WF0 (awakeS s u how) := by
  unfold awakeS
  rw [hy]
  simp only
  have hv := h.th u y hy (by omega) (by omega)
  obtain ⟨b, hb⟩ : ∃ b, s.O[y.obj.toNat]? = some b := ⟨_, List.getElem?_eq_getElem (by omega)⟩
  rw [hb]
  simp only
  have h1 : WF0 (s.setO y.obj.toNat { b with line := b.line.filter fun v => !(v == (u : Int)) }) :=
    h.setO hb ⟨(h.ln _ _ hb).1.filter _, fun v hv => (h.ln _ _ hb).2 v ((List.mem_filter.1 hv).1)⟩
  refine h1.setT (x := y) hy (fun _ _ => ?_) ⟨⟨by simp, by simp⟩, fun _ => (h.rg u y hy).2 (by omega)⟩ (fun o c hc hm => ?_)
  · rw [(setO_len _ _ _).2]
    exact hv
  · exfalso
    rcases set_at hc with ⟨rfl, rfl, _⟩ | ⟨ho, hc⟩
    · simp at hm
    · obtain ⟨k, z, hk, hz, _, hzo⟩ := (h.ln o c hc).2 _ hm
      obtain rfl : u = k := by omega
      rw [hy] at hz
      obtain rfl := Option.some.inj hz
      omega
theorem endS_at {s : SS} {t : Nat} {x : Th} (hx : s.T[t]? = some x) (c v : Int) : endS s t c v = s.setT t (endTh x c v) := by
  unfold endS; rw [hx]
theorem awakeS_at {s : SS} {u : Nat} {y : Th} {b : Ob} (hy : s.T[u]? = some y) (hb : s.O[y.obj.toNat]? = some b) (how : Int) : awakeS s u how = (s.setO y.obj.toNat { b with line := b.line.filter fun v => !(v == (u : Int)) }).setT u { y with pr := 4, code := 0, val := how } := by
  unfold awakeS; rw [hy]; simp only; rw [hb]
theorem longest_mem {s : SS} : ∀ {l : List Int}, longestS s l ≠ -1 → longestS s l ∈ l ∧ prOf s (longestS s l) = 2
  | [], h => absurd rfl h
  | u :: l, h => by
    unfold longestS at h ⊢
    split
    · exact ⟨List.mem_cons_self, by assumption⟩
    · rename_i hn
      rw [if_neg hn] at h
      have := longest_mem h
      exact ⟨List.mem_cons_of_mem _ this.1, this.2⟩
/-- the thread that is woken -/
theorem WF0.longest {s : SS} (h : WF0 s) {o : Nat} {b : Ob} (hb : s.O[o]? = some b) (hn : longestS s b.line ≠ -1) : ∃ (u : Nat) (y : Th), longestS s b.line = (u : Int) ∧ s.T[u]? = some y ∧ y.pr = 2 ∧ y.obj = o := by
  have hm := longest_mem hn
  obtain ⟨k, y, hk, hy, hp, ho⟩ := (h.ln o b hb).2 _ hm.1
  refine ⟨k, y, hk, hy, ?_, ho⟩
  have := hm.2
  unfold prOf at this
  rw [hk, Int.toNat_natCast, hy] at this
  exact this
theorem handS_wf0 {s s' : SS} {t : Nat} {x : Th} {o : Nat} {b : Ob} {e : Ev} (h : WF0 s) (hx : s.T[t]? = some x) (hb : s.O[o]? = some b) (ho : x.obj = o) (h0 : x.pr ≠ 0) (h5 : x.pr ≠ 5) (hs : handS s t x o b e = some s') : WF0 s' := by
  have hv := h.th t x hx h0 h5
  have hr := h.rg t x hx
  have hp : ¬ (x.op = 2 ∨ x.op = 3) → x.pr ≠ 2 ∧ x.pr ≠ 3 := fun hn => ⟨fun e => hn (hr.2 (.inl e)), fun e => hn (hr.2 (.inr (.inl e)))⟩
  unfold handS at hs
  by_cases c0 : x.op = 0
  · rw [if_pos c0] at hs
    have hq := hp (by omega)
    unfold enterS at hs
    split at hs
    · obtain rfl := Option.some.inj hs
      exact WF0.ends (b' := { b with own := (t : Int), dep := wrap64 (b.dep + 1) }) h hx hq hb rfl _ _
    · split at hs
      · obtain rfl := Option.some.inj hs
        exact h.endS hx hq _ _
      · cases hs
  rw [if_neg c0] at hs
  by_cases c1 : x.op = 1
  · rw [if_pos c1] at hs
    have hq := hp (by omega)
    unfold exitS at hs
    split at hs
    · obtain rfl := Option.some.inj hs
      exact WF0.ends (b' := { b with own := if wrap64 (b.dep - 1) = 0 then -1 else (t : Int), dep := wrap64 (b.dep - 1) }) h hx hq hb rfl _ _
    · split at hs
      · obtain rfl := Option.some.inj hs
        exact h.endS hx hq _ _
      · cases hs
  rw [if_neg c1] at hs
  by_cases c2 : x.op = 2 ∨ x.op = 3
  · rw [if_pos c2] at hs
    unfold waitS at hs
    split at hs
    · rename_i p1
      have hq : x.pr ≠ 2 ∧ x.pr ≠ 3 := by omega
      unfold beginS at hs
      split at hs
      · obtain rfl := Option.some.inj hs
        exact h.endS hx hq _ _
      · split at hs
        · obtain rfl := Option.some.inj hs
          have h1 : WF0 (s.setT t { x with flag := false }) := h.setT hx (fun _ _ => hv) hr (fun k c hc hm => absurd hm (h.out hx hq hc))
          exact WF0.endS (x := { x with flag := false }) h1 (set_same hx) hq _ _
        · split at hs
          · obtain rfl := Option.some.inj hs
            have h1 : WF0 (s.setT t { x with dep := b.dep, pr := 2 }) := h.setT hx (fun _ _ => hv) ⟨⟨by simp, by simp⟩, fun _ => c2⟩ (fun k c hc hm => absurd hm (h.out hx hq hc))
            refine h1.setO (b := b) hb ⟨?_, fun u hu => ?_⟩
            · rw [List.nodup_append]
              refine ⟨(h.ln o b hb).1, by simp, fun a ha c hc => ?_⟩
              simp at hc
              subst hc
              rintro rfl
              exact h.out hx hq hb ha
            · rcases List.mem_append.1 hu with hu | hu
              · exact (h1.ln o b hb).2 u hu
              · simp at hu
                exact ⟨t, _, hu, set_same hx, .inl rfl, ho⟩
          · cases hs
    · split at hs
      · rename_i p4
        unfold grantS at hs
        split at hs
        · obtain rfl := Option.some.inj hs
          exact WF0.ends (b' := { b with own := (t : Int), dep := x.dep }) h hx ⟨by omega, by omega⟩ hb rfl _ _
        · cases hs
      · rename_i p1 p4
        have hw : x.pr = 2 ∨ x.pr = 3 := by omega
        unfold endWaitS at hs
        split at hs
        · obtain rfl := Option.some.inj hs
          refine h.setT hx (fun _ _ => hv) ⟨⟨by simp, by simp⟩, fun _ => c2⟩ (fun k c hc hm => ⟨.inr rfl, ?_⟩)
          obtain ⟨j, z, hj, hz, _, hzo⟩ := (h.ln k c hc).2 _ hm
          obtain rfl : t = j := by omega
          rw [hx] at hz
          obtain rfl := Option.some.inj hz
          exact hzo
        · split at hs
          · obtain rfl := Option.some.inj hs
            exact h.awake hx hw _
          · cases hs
  rw [if_neg c2] at hs
  have hq := hp c2
  by_cases c4 : x.op = 4 ∨ x.op = 5
  · rw [if_pos c4] at hs
    unfold notifyS at hs
    split at hs
    · obtain rfl := Option.some.inj hs
      exact h.endS hx hq _ _
    · split at hs
      · rename_i hc
        obtain ⟨hown, _, hu⟩ := hc
        obtain rfl := Option.some.inj hs
        by_cases hz : e.oth = -1
        · simp only [hz, if_true, true_or]
          exact h.endS hx hq _ _
        · simp only [hz, if_false, false_or]
          rw [hu] at hz
          obtain ⟨u, y, e1, hy, hpy, hoy⟩ := h.longest hb hz
          rw [hu, e1, Int.toNat_natCast]
          have h1 := h.awake hy (.inl hpy) 0
          have htu : t ≠ u := by rintro rfl; rw [hx] at hy; obtain rfl := Option.some.inj hy; omega
          split
          · refine WF0.endS (x := x) h1 ?_ hq _ _
            rw [awakeS_at hy (by rw [hoy, Int.toNat_natCast]; exact hb)]
            exact (set_other htu).trans hx
          · exact h1
      · cases hs
  rw [if_neg c4] at hs
  by_cases c6 : x.op = 6
  · rw [if_pos c6] at hs
    unfold interruptS at hs
    split at hs
    · obtain rfl := Option.some.inj hs
      have ha := hv.2.2.2.2 c6
      obtain ⟨y, hy⟩ : ∃ y, s.T[x.arg.toNat]? = some y := ⟨_, List.getElem?_eq_getElem (by omega)⟩
      have h1 : WF0 (flagS s x.arg.toNat) := by
        unfold flagS
        rw [hy]
        refine h.setT (x' := { y with flag := true }) hy (h.th _ y hy) (h.rg _ y hy) (fun k c hc hm => ?_)
        obtain ⟨j, z, hj, hz, hzp, hzo⟩ := (h.ln k c hc).2 _ hm
        obtain rfl : x.arg.toNat = j := by omega
        rw [hy] at hz
        obtain rfl := Option.some.inj hz
        exact ⟨hzp, hzo⟩
      by_cases hta : t = x.arg.toNat
      · rw [← hta] at h1 hy ⊢
        rw [hx] at hy
        obtain rfl := Option.some.inj hy
        refine WF0.endS (x := { x with flag := true }) h1 ?_ hq _ _
        unfold flagS
        rw [hx]
        exact set_same hx
      · refine WF0.endS (x := x) h1 ?_ hq _ _
        unfold flagS
        rw [hy]
        exact (set_other hta).trans hx
    · cases hs
  rw [if_neg c6] at hs
  by_cases c7 : x.op = 7
  · rw [if_pos c7] at hs
    unfold lookS at hs
    generalize (if b.own = (t : Int) then (1 : Int) else 0) = z at hs
    split at hs
    · obtain rfl := Option.some.inj hs
      exact h.endS hx hq _ _
    · cases hs
  rw [if_neg c7] at hs
  unfold deflateS at hs
  split at hs
  · obtain rfl := Option.some.inj hs
    exact h.endS hx hq _ _
  · cases hs
theorem takeS_wf0 {s s' : SS} {e : Ev} (h : WF0 s) (hs : takeS s e = some s') : WF0 s' := by
  unfold takeS at hs
  split at hs
  · cases hs
  · split at hs
    · cases hs
    · rename_i x hx
      split at hs
      · unfold openS at hs
        split at hs
        · cases hs
        · rename_i hc
          obtain rfl := Option.some.inj hs
          have hp : x.pr = 0 := by omega
          have hl : ∀ (o : Nat) (b : Ob), s.O[o]? = some b → ((e.thr.toNat : Nat) : Int) ∈ b.line → False := fun o b hb hm => h.out hx (by omega) hb hm
          split
          · rename_i hv
            obtain ⟨a1, a2, ⟨a3, a4⟩, a5⟩ := hv
            exact h.setT hx (fun _ _ => ⟨a1, a2, a3, a4, fun e6 => a5.resolve_left (fun k => k e6)⟩) ⟨⟨by simp [begTh], by simp [begTh]⟩, by simp [begTh]⟩ (fun o b hb hm => (hl o b hb hm).elim)
          · exact h.setT hx (fun _ h5 => absurd rfl h5) ⟨⟨by simp [endTh], by simp [endTh]⟩, by simp [endTh]⟩ (fun o b hb hm => (hl o b hb hm).elim)
      · split at hs
        · unfold actS at hs
          split at hs
          · cases hs
          · rename_i hc
            split at hs
            · cases hs
            · rename_i b hb
              have hv := h.th _ x hx (by omega) (by omega)
              exact handS_wf0 h hx hb (by omega) (by omega) (by omega) hs
        · split at hs
          · unfold closeS at hs
            split at hs
            · cases hs
            · rename_i hc
              obtain rfl := Option.some.inj hs
              have hd : doneS x := Classical.byContradiction fun hn => hc (.inl hn)
              refine h.setT hx (fun h0 => absurd rfl h0) ⟨⟨by simp, by simp⟩, by simp⟩ (fun o b hb hm => (h.out hx ?_ hb hm).elim)
              unfold doneS at hd
              omega
          · cases hs
theorem newS_wf0 (m n : Nat) (hm : m ≤ 32766) (hn : n ≤ 65536) : WF0 (newS m n) := by
  refine ⟨fun t x hx h0 => ?_, fun t x hx => ?_, fun o b hb => ?_, by simp [newS, hm, hn]⟩
  · simp [newS, List.getElem?_replicate] at hx
    obtain ⟨_, rfl⟩ := hx
    exact absurd rfl h0
  · simp [newS, List.getElem?_replicate] at hx
    obtain ⟨_, rfl⟩ := hx
    simp [th0]
  · simp [newS, List.getElem?_replicate] at hb
    obtain ⟨_, rfl⟩ := hb
    simp
theorem nodup_lenS {k : Nat} {L : List Int} (hn : L.Nodup) (h : ∀ u ∈ L, 0 ≤ u ∧ u < (k : Int)) : L.length ≤ k := by
  induction k generalizing L with
  | zero =>
    cases L with
    | nil => simp
    | cons u L => have := h u (by simp); omega
  | succ k ih =>
    by_cases hk : (k : Int) ∈ L
    · have h1 := ih (L := L.erase (k : Int)) (hn.erase _) (fun u hu => by
        have h2 := (hn.mem_erase_iff).1 hu
        have := h u h2.2
        have h3 := h2.1
        omega)
      rw [List.length_erase_of_mem hk] at h1
      omega
    · have := ih hn (fun u hu => by
        have h1 := h u hu
        have h2 : u ≠ k := fun e => hk (e ▸ hu)
        omega)
      omega
theorem WF0.len {s : SS} (h : WF0 s) {o : Nat} {b : Ob} (hb : s.O[o]? = some b) : b.line.length ≤ s.T.length :=
  nodup_lenS (h.ln o b hb).1 (fun u hu => by
    obtain ⟨t, x, rfl, hx, _⟩ := (h.ln o b hb).2 u hu
    have := (List.getElem?_eq_some_iff.1 hx).1
    omega)
/-- who waits stands in the line of its object -/
def IL (s : SS) : Prop := ∀ (t : Nat) (x : Th), s.T[t]? = some x → (x.pr = 2 ∨ x.pr = 3) → ∀ b, s.O[x.obj.toNat]? = some b → (t : Int) ∈ b.line
theorem IL.setT {s : SS} (h : IL s) {t : Nat} {x' : Th} (hx : (x'.pr = 2 ∨ x'.pr = 3) → ∀ b, s.O[x'.obj.toNat]? = some b → (t : Int) ∈ b.line) : IL (s.setT t x') := by
  intro u y hy hp b hb
  rcases set_at hy with ⟨rfl, rfl, _⟩ | ⟨_, hy⟩
  · exact hx hp b hb
  · exact h u y hy hp b hb
theorem IL.setO {s : SS} (h : IL s) {o : Nat} {b b' : Ob} (hb : s.O[o]? = some b) (hl : ∀ (u : Nat) (x : Th), s.T[u]? = some x → (x.pr = 2 ∨ x.pr = 3) → x.obj.toNat = o → (u : Int) ∈ b.line → (u : Int) ∈ b'.line) : IL (s.setO o b') := by
  intro u y hy hp c hc
  rcases set_at hc with ⟨he, rfl, _⟩ | ⟨_, hc⟩
  · exact hl u y hy hp he (h u y hy hp b (by rw [he]; exact hb))
  · exact h u y hy hp c hc
theorem IL.setO' {s : SS} (h : IL s) {o : Nat} {b b' : Ob} (hb : s.O[o]? = some b) (hl : b'.line = b.line) : IL (s.setO o b') := h.setO hb (fun u x _ _ _ hm => by rw [hl]; exact hm)
theorem IL.endS {s : SS} (h : IL s) (t : Nat) (c v : Int) : IL (endS s t c v) := by
  unfold Go.Proofs.Ytcgljmeppmdihaa.endS
  split
  · exact h.setT (fun hp => by simp [endTh] at hp)
  · exact h
theorem IL.awake {s : SS} (h : IL s) {u : Nat} {how : Int} : IL (awakeS s u how) := by
  unfold awakeS
  split
  · exact h
  · rename_i y hy
    split
    · exact h
    · rename_i b hb
      have h1 : IL (s.setT u { y with pr := 4, code := 0, val := how }) := h.setT (fun hp => by simp at hp)
      refine IL.setO (s := s.setT u { y with pr := 4, code := 0, val := how }) h1 hb (fun v x hx hp _ hm => ?_)
      refine List.mem_filter.2 ⟨hm, ?_⟩
      rcases set_at hx with ⟨rfl, rfl, _⟩ | ⟨hne, _⟩
      · simp at hp
      · simp; omega
theorem IL.flag {s : SS} (h : IL s) (a : Nat) : IL (flagS s a) := by
  unfold flagS
  split
  · exact h
  · rename_i y hy
    exact h.setT (fun hp b hb => h a y hy hp b hb)
theorem handS_il {s s' : SS} {t : Nat} {x : Th} {o : Nat} {b : Ob} {e : Ev} (h : WF0 s) (hi : IL s) (hx : s.T[t]? = some x) (hb : s.O[o]? = some b) (ho : x.obj = o) (hs : handS s t x o b e = some s') : IL s' := by
  unfold handS at hs
  split at hs
  · unfold enterS at hs
    split at hs
    · obtain rfl := Option.some.inj hs
      exact IL.endS (hi.setO' (b' := { b with own := (t : Int), dep := wrap64 (b.dep + 1) }) hb rfl) _ _ _
    · split at hs
      · obtain rfl := Option.some.inj hs
        exact hi.endS _ _ _
      · cases hs
  split at hs
  · unfold exitS at hs
    split at hs
    · obtain rfl := Option.some.inj hs
      exact IL.endS (hi.setO' (b' := { b with own := if wrap64 (b.dep - 1) = 0 then -1 else (t : Int), dep := wrap64 (b.dep - 1) }) hb rfl) _ _ _
    · split at hs
      · obtain rfl := Option.some.inj hs
        exact hi.endS _ _ _
      · cases hs
  split at hs
  · unfold waitS at hs
    split at hs
    · unfold beginS at hs
      split at hs
      · obtain rfl := Option.some.inj hs
        exact hi.endS _ _ _
      · split at hs
        · obtain rfl := Option.some.inj hs
          refine IL.endS (hi.setT ?_) _ _ _
          exact fun hp c hc => hi t x hx hp c hc
        · split at hs
          · obtain rfl := Option.some.inj hs
            have h1 : IL (s.setO o ⟨-1, 0, b.line ++ [(t : Int)]⟩) := hi.setO hb (fun u y _ _ _ hm => List.mem_append_left _ hm)
            refine IL.setT (s := s.setO o ⟨-1, 0, b.line ++ [(t : Int)]⟩) h1 (fun _ c hc => ?_)
            have e1 : (x.obj.toNat) = o := by omega
            change (s.O.set o _)[x.obj.toNat]? = some c at hc
            rw [e1, set_same hb] at hc
            obtain rfl := Option.some.inj hc
            simp
          · cases hs
    · split at hs
      · unfold grantS at hs
        split at hs
        · obtain rfl := Option.some.inj hs
          exact IL.endS (hi.setO' (b' := { b with own := (t : Int), dep := x.dep }) hb rfl) _ _ _
        · cases hs
      · unfold endWaitS at hs
        split at hs
        · rename_i hc
          obtain rfl := Option.some.inj hs
          exact hi.setT (fun _ c hc2 => hi t x hx (.inl hc.2.2.2) c hc2)
        · split at hs
          · obtain rfl := Option.some.inj hs
            exact hi.awake
          · cases hs
  split at hs
  · unfold notifyS at hs
    split at hs
    · obtain rfl := Option.some.inj hs
      exact hi.endS _ _ _
    · split at hs
      · obtain rfl := Option.some.inj hs
        have h1 : IL (if e.oth = -1 then s else awakeS s e.oth.toNat 0) := by
          split
          · exact hi
          · exact hi.awake
        split
        · exact h1.endS _ _ _
        · exact h1
      · cases hs
  split at hs
  · unfold interruptS at hs
    split at hs
    · obtain rfl := Option.some.inj hs
      exact (hi.flag _).endS _ _ _
    · cases hs
  split at hs
  · unfold lookS at hs
    generalize (if b.own = (t : Int) then (1 : Int) else 0) = z at hs
    split at hs
    · obtain rfl := Option.some.inj hs
      exact hi.endS _ _ _
    · cases hs
  unfold deflateS at hs
  split at hs
  · obtain rfl := Option.some.inj hs
    exact hi.endS _ _ _
  · cases hs
theorem takeS_il {s s' : SS} {e : Ev} (h : WF0 s) (hi : IL s) (hs : takeS s e = some s') : IL s' := by
  unfold takeS at hs
  split at hs
  · cases hs
  · split at hs
    · cases hs
    · rename_i x hx
      split at hs
      · unfold openS at hs
        split at hs
        · cases hs
        · obtain rfl := Option.some.inj hs
          refine hi.setT (fun hp => ?_)
          split at hp
          · simp [begTh] at hp
          · simp [endTh] at hp
      · split at hs
        · unfold actS at hs
          split at hs
          · cases hs
          · rename_i hc
            split at hs
            · cases hs
            · rename_i b hb
              have hv := h.th _ x hx (by omega) (by omega)
              exact handS_il h hi hx hb (by omega) hs
        · split at hs
          · unfold closeS at hs
            split at hs
            · cases hs
            · obtain rfl := Option.some.inj hs
              exact hi.setT (fun hp => by simp at hp)
          · cases hs
structure WF (s : SS) : Prop extends WF0 s where
  il : IL s
theorem takeS_wf {s s' : SS} {e : Ev} (h : WF s) (hs : takeS s e = some s') : WF s' := ⟨takeS_wf0 h.toWF0 hs, takeS_il h.toWF0 h.il hs⟩
theorem newS_wf (m n : Nat) (hm : m ≤ 32766) (hn : n ≤ 65536) : WF (newS m n) := ⟨newS_wf0 m n hm hn, fun t x hx hp => by
  simp [newS, List.getElem?_replicate] at hx
  obtain ⟨_, rfl⟩ := hx
  simp [th0] at hp⟩
theorem WF.inl {s : SS} (h : WF s) {t o : Nat} {x : Th} {b : Ob} (hx : s.T[t]? = some x) (hb : s.O[o]? = some b) (ho : x.obj = (o : Int)) (hp : x.pr = 2 ∨ x.pr = 3) : (t : Int) ∈ b.line :=
  h.il t x hx hp b (by rw [ho, Int.toNat_natCast]; exact hb)
end Go.Proofs.Ytcgljmeppmdihaa
