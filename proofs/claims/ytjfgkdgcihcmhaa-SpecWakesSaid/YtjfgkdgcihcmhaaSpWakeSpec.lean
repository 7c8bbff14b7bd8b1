/- SpecWakes' pure side: seven threads, one object: who enters, waits, is woken, is granted, and leaves. No program is named here. -/
import Derived.Test.YtjfgkdgcihcmhaaSpU
namespace Go.Proofs.Ytjfgkdgcihcmhaa
open Go.ChangeShapes Go.WideShapes Go.ChangeAt Go.RowKit
set_option linter.unusedVariables false
set_option linter.unusedSimpArgs false
def mkS (f : Nat → Th) (b : Ob) : SS := ⟨(List.range 7).map f, [b]⟩
def upd (f : Nat → Th) (t : Nat) (x : Th) : Nat → Th := fun u => if u = t then x else f u
theorem mk_at {f : Nat → Th} {b : Ob} {t : Nat} (h : t < 7) : (mkS f b).T[t]? = some (f t) := by
  show ((List.range 7).map f)[t]? = _
  rw [List.getElem?_map, List.getElem?_range h]
  rfl
theorem mk_ob (f : Nat → Th) (b : Ob) : (mkS f b).O[0]? = some b := rfl
theorem mk_setT {f : Nat → Th} {b : Ob} {t : Nat} (h : t < 7) (x : Th) : (mkS f b).setT t x = mkS (upd f t x) b := by
  unfold SS.setT mkS
  congr 1
  apply List.ext_getElem?
  intro i
  rw [List.getElem?_set]
  by_cases hi : i < 7
  · rw [List.getElem?_map, List.getElem?_map, List.getElem?_range hi]
    by_cases e : t = i
    · subst e; simp [upd, h]
    · rw [if_neg e]; simp [upd, show ¬ i = t from fun k => e k.symm]
  · rw [List.getElem?_eq_none (by simp; omega), List.getElem?_eq_none (by simp; omega)]
    split
    · omega
    · rfl
theorem mk_setO (f : Nat → Th) (b c : Ob) : (mkS f b).setO 0 c = mkS f c := rfl
theorem mk_end {f : Nat → Th} {b : Ob} {t : Nat} (h : t < 7) (c v : Int) : endS (mkS f b) t c v = mkS (upd f t (endTh (f t) c v)) b := by
  rw [endS_at (mk_at h), mk_setT h]
/-- idle, behind c calls -/
@[reducible] def idle (c : Int) : Th := ⟨0, 0, 0, 0, c, false, 0, 0, 0⟩
/-- a call is open -/
@[reducible] def busyT (op c : Int) : Th := ⟨op, 0, 0, 1, c, false, 0, 0, 0⟩
/-- it waits, d deep -/
@[reducible] def waitT (c d : Int) : Th := ⟨2, 0, 0, 2, c, false, d, 0, 0⟩
/-- it was woken -/
@[reducible] def wokeT (c d : Int) : Th := ⟨2, 0, 0, 4, c, false, d, 0, 0⟩
theorem take_mk {f : Nat → Th} {b : Ob} {t : Nat} (h : t < 7) (kind idx act obj oth code val : Int) :
    takeS (mkS f b) ⟨kind, (t : Int), idx, act, obj, oth, code, val⟩ = (if kind = 0 then openS (mkS f b) t (f t) ⟨kind, (t : Int), idx, act, obj, oth, code, val⟩ else if kind = 1 then actS (mkS f b) t (f t) ⟨kind, (t : Int), idx, act, obj, oth, code, val⟩ else if kind = 2 then closeS (mkS f b) t (f t) ⟨kind, (t : Int), idx, act, obj, oth, code, val⟩ else none) := by
  unfold takeS
  simp only [Int.toNat_natCast]
  rw [if_neg (by omega), mk_at h]
theorem upd_self (f : Nat → Th) (t : Nat) (x : Th) : upd f t x t = x := if_pos rfl
theorem upd_upd (f : Nat → Th) (t : Nat) (x y : Th) : upd (upd f t x) t y = upd f t y := by
  funext u
  unfold upd
  split <;> rfl
theorem upd_same {f : Nat → Th} {t : Nat} {x : Th} (h : f t = x) : upd f t x = f := by
  funext u
  unfold upd
  split
  · rename_i e; rw [e, h]
  · rfl
/-- a call is opened -/
theorem do_call {f : Nat → Th} {b : Ob} {t : Nat} {c : Int} (h : t < 7) (hf : f t = idle c) (op : Int) (ho : 0 ≤ op ∧ op < 6) :
    takeS (mkS f b) ⟨0, (t : Int), c, op, 0, 0, 0, 0⟩ = some (mkS (upd f t (busyT op c)) b) := by
  rw [take_mk h, if_pos rfl, hf]
  unfold openS
  rw [if_neg (by simp [idle])]
  rw [if_pos (by unfold validS; simp [mkS]; omega), mk_setT h]
  rfl
theorem do_hand {f : Nat → Th} {b : Ob} {t : Nat} {op c : Int} (h : t < 7) (hf : f t = busyT op c) (act oth : Int) :
    takeS (mkS f b) ⟨1, (t : Int), 0, act, 0, oth, 0, 0⟩ = handS (mkS f b) t (busyT op c) 0 b ⟨1, (t : Int), 0, act, 0, oth, 0, 0⟩ := by
  rw [take_mk h, if_neg (by omega), if_pos rfl, hf]
  unfold actS
  rw [if_neg (by simp [busyT])]
  rfl
theorem do_enter {f : Nat → Th} {own dep : Int} {l : List Int} {t : Nat} {c : Int} (h : t < 7) (hf : f t = busyT 0 c) (ho : own = t ∨ own = -1) (hd : 0 ≤ dep ∧ dep < 1000) :
    takeS (mkS f ⟨own, dep, l⟩) ⟨1, (t : Int), 0, 0, 0, 0, 0, 0⟩ = some (mkS (upd f t (endTh (busyT 0 c) 0 0)) ⟨t, dep + 1, l⟩) := by
  rw [do_hand h hf]
  unfold handS
  rw [if_pos rfl]
  unfold enterS
  rw [if_pos ⟨rfl, rfl, ho⟩, mk_setO, mk_end h, hf, IntWalk.wrap64_in _ ⟨by dsimp only; omega, by dsimp only; omega⟩]
theorem do_exit {f : Nat → Th} {dep : Int} {l : List Int} {t : Nat} {c : Int} (h : t < 7) (hf : f t = busyT 1 c) (hd : 1 ≤ dep ∧ dep < 1000) :
    takeS (mkS f ⟨t, dep, l⟩) ⟨1, (t : Int), 0, 1, 0, 0, 0, 0⟩ = some (mkS (upd f t (endTh (busyT 1 c) 0 0)) ⟨if dep - 1 = 0 then -1 else t, dep - 1, l⟩) := by
  rw [do_hand h hf]
  unfold handS
  rw [if_neg (by simp [busyT]), if_pos rfl]
  unfold exitS
  rw [if_pos ⟨rfl, rfl, rfl⟩, mk_setO, mk_end h, hf, IntWalk.wrap64_in _ ⟨by dsimp only; omega, by dsimp only; omega⟩]
theorem do_back {f : Nat → Th} {b : Ob} {t : Nat} {x : Th} {c : Int} (h : t < 7) (hf : f t = endTh x 0 0) (hc : x.calls = c) (hfl : x.flag = false) (hb : 0 ≤ c ∧ c < 1000) :
    takeS (mkS f b) ⟨2, (t : Int), c, 0, 0, 0, 0, 0⟩ = some (mkS (upd f t (idle (c + 1))) b) := by
  rw [take_mk h, if_neg (by omega), if_neg (by omega), if_pos rfl, hf]
  unfold closeS
  rw [if_neg (by simp [endTh, doneS, hc]), mk_setT h]
  simp only [endTh, hc, hfl]
  rw [IntWalk.wrap64_in _ ⟨by omega, by omega⟩]
theorem do_release {f : Nat → Th} {dep : Int} {l : List Int} {t : Nat} {c : Int} (h : t < 7) (hf : f t = busyT 2 c) :
    takeS (mkS f ⟨t, dep, l⟩) ⟨1, (t : Int), 0, 2, 0, 0, 0, 0⟩ = some (mkS (upd f t (waitT c dep)) ⟨-1, 0, l ++ [(t : Int)]⟩) := by
  rw [do_hand h hf]
  unfold handS
  rw [if_neg (by simp [busyT]), if_neg (by simp [busyT]), if_pos (.inl rfl)]
  unfold waitS
  rw [if_pos rfl]
  unfold beginS
  rw [if_neg (by simp), if_neg (by simp), if_pos ⟨rfl, rfl, rfl⟩, mk_setT h, mk_setO]
/-- one thread enters once more -/
theorem enter3 {f : Nat → Th} {own dep : Int} {l : List Int} {t : Nat} {c : Int} (h : t < 7) (hf : f t = idle c) (ho : own = t ∨ own = -1) (hd : 0 ≤ dep ∧ dep < 1000) (hc : 0 ≤ c ∧ c < 1000) :
    takesS (mkS f ⟨own, dep, l⟩) [⟨0, (t : Int), c, 0, 0, 0, 0, 0⟩, ⟨1, (t : Int), 0, 0, 0, 0, 0, 0⟩, ⟨2, (t : Int), c, 0, 0, 0, 0, 0⟩] = (mkS (upd f t (idle (c + 1))) ⟨t, dep + 1, l⟩, true) := by
  simp only [takesS]
  rw [do_call h hf 0 (by omega)]
  simp only
  rw [do_enter (c := c) h (upd_self _ _ _) ho hd]
  simp only
  rw [do_back (x := busyT 0 c) h (upd_self _ _ _) rfl rfl hc]
  simp only [upd_upd]
theorem wait2 {f : Nat → Th} {dep : Int} {l : List Int} {t : Nat} {c : Int} (h : t < 7) (hf : f t = idle c) :
    takesS (mkS f ⟨t, dep, l⟩) [⟨0, (t : Int), c, 2, 0, 0, 0, 0⟩, ⟨1, (t : Int), 0, 2, 0, 0, 0, 0⟩] = (mkS (upd f t (waitT c dep)) ⟨-1, 0, l ++ [(t : Int)]⟩, true) := by
  simp only [takesS]
  rw [do_call h hf 2 (by omega)]
  simp only
  rw [do_release h (upd_self _ _ _)]
  simp only [upd_upd]
theorem exit3 {f : Nat → Th} {dep : Int} {l : List Int} {t : Nat} {c : Int} (h : t < 7) (hf : f t = idle c) (hd : 1 ≤ dep ∧ dep < 1000) (hc : 0 ≤ c ∧ c < 1000) :
    takesS (mkS f ⟨t, dep, l⟩) [⟨0, (t : Int), c, 1, 0, 0, 0, 0⟩, ⟨1, (t : Int), 0, 1, 0, 0, 0, 0⟩, ⟨2, (t : Int), c, 0, 0, 0, 0, 0⟩] = (mkS (upd f t (idle (c + 1))) ⟨if dep - 1 = 0 then -1 else t, dep - 1, l⟩, true) := by
  simp only [takesS]
  rw [do_call h hf 1 (by omega)]
  simp only
  rw [do_exit (c := c) h (upd_self _ _ _) hd]
  simp only
  rw [do_back (x := busyT 1 c) h (upd_self _ _ _) rfl rfl hc]
  simp only [upd_upd]
/-- thread 6 enters, and wakes all -/
theorem all4 {f : Nat → Th} {l : List Int} (hf : f 6 = idle 0) :
    takesS (mkS f ⟨-1, 0, l⟩) [⟨0, 6, 0, 0, 0, 0, 0, 0⟩, ⟨1, 6, 0, 0, 0, 0, 0, 0⟩, ⟨2, 6, 0, 0, 0, 0, 0, 0⟩, ⟨0, 6, 1, 5, 0, 0, 0, 0⟩] = (mkS (upd f 6 (busyT 5 1)) ⟨6, 1, l⟩, true) := by
  show takesS (mkS f ⟨-1, 0, l⟩) [⟨0, ((6 : Nat) : Int), 0, 0, 0, 0, 0, 0⟩, ⟨1, ((6 : Nat) : Int), 0, 0, 0, 0, 0, 0⟩, ⟨2, ((6 : Nat) : Int), 0, 0, 0, 0, 0, 0⟩, ⟨0, ((6 : Nat) : Int), 0 + 1, 5, 0, 0, 0, 0⟩] = (mkS (upd f 6 (busyT 5 (0 + 1))) ⟨((6 : Nat) : Int), 0 + 1, l⟩, true)
  simp only [takesS]
  rw [do_call (t := 6) (by omega) hf 0 (by omega)]
  simp only
  rw [do_enter (t := 6) (c := 0) (by omega) (upd_self _ _ _) (.inr rfl) (by omega)]
  simp only
  rw [do_back (t := 6) (x := busyT 0 0) (c := 0) (by omega) (upd_self _ _ _) rfl rfl (by omega)]
  simp only
  rw [do_call (t := 6) (c := 0 + 1) (by omega) (upd_self _ _ _) 5 (by omega)]
  simp only [upd_upd]
/-- nobody else may be woken -/
theorem notify_no {f : Nat → Th} {l : List Int} {u v : Int} (hf : f 6 = busyT 5 1) (hu : longestS (mkS f ⟨6, 1, l⟩) l = u) (hv : v ≠ u) :
    takeS (mkS f ⟨6, 1, l⟩) ⟨1, 6, 0, 3, 0, v, 0, 0⟩ = none := by
  have := do_hand (f := f) (b := ⟨6, 1, l⟩) (t := 6) (by omega) hf 3 v
  rw [show ((6 : Nat) : Int) = 6 from rfl] at this
  rw [this]
  unfold handS
  rw [if_neg (by simp [busyT]), if_neg (by simp [busyT]), if_neg (by simp [busyT]), if_pos (.inr rfl)]
  unfold notifyS
  rw [if_neg (by simp), if_neg]
  rintro ⟨_, _, h⟩
  exact hv (h.trans hu)
theorem longest_head {f : Nat → Th} {b : Ob} {t : Nat} {l : List Int} {c d : Int} (h : t < 7) (hf : f t = waitT c d) : longestS (mkS f b) ((t : Int) :: l) = t := by
  unfold longestS
  rw [if_pos]
  unfold prOf
  rw [Int.toNat_natCast, mk_at h, hf]
theorem notify_yes {f : Nat → Th} {l : List Int} {t : Nat} {c d : Int} (hf : f 6 = busyT 5 1) (h : t < 6) (ht : f t = waitT c d) (hn : (t : Int) ∉ l) :
    takeS (mkS f ⟨6, 1, (t : Int) :: l⟩) ⟨1, 6, 0, 3, 0, (t : Int), 0, 0⟩ = some (mkS (upd f t (wokeT c d)) ⟨6, 1, l⟩) := by
  have := do_hand (f := f) (b := ⟨6, 1, (t : Int) :: l⟩) (t := 6) (by omega) hf 3 (t : Int)
  rw [show ((6 : Nat) : Int) = 6 from rfl] at this
  rw [this]
  unfold handS
  rw [if_neg (by simp [busyT]), if_neg (by simp [busyT]), if_neg (by simp [busyT]), if_pos (.inr rfl)]
  unfold notifyS
  rw [if_neg (by simp), if_pos ⟨rfl, rfl, (longest_head (by omega) ht).symm⟩]
  have e1 : ¬ (t : Int) = -1 := by omega
  simp only [e1, if_false, Int.toNat_natCast, false_or]
  rw [if_neg (by simp [busyT])]
  rw [awakeS_at (b := ⟨6, 1, (t : Int) :: l⟩) (mk_at (by omega)) (by rw [ht]; rfl)]
  rw [ht]
  have e2 : (((t : Int) :: l).filter fun v => !(v == (t : Int))) = l := by
    rw [List.filter_cons_of_neg (by simp)]
    rw [List.filter_eq_self]
    intro v hv
    simp
    rintro rfl
    exact hn hv
  show some (((mkS f ⟨6, 1, (t : Int) :: l⟩).setO 0 _).setT t _) = _
  rw [mk_setO, mk_setT (by omega)]
  simp only [e2]
theorem grant_no {f : Nat → Th} {l : List Int} {t : Nat} {c d : Int} (h : t < 7) (ht : f t = wokeT c d) (act oth : Int) :
    takeS (mkS f ⟨6, 1, l⟩) ⟨1, (t : Int), 0, act, 0, oth, 0, 0⟩ = none := by
  rw [take_mk h, if_neg (by omega), if_pos rfl, ht]
  unfold actS
  rw [if_neg (by simp [wokeT])]
  show handS (mkS f ⟨6, 1, l⟩) t (wokeT c d) 0 ⟨6, 1, l⟩ _ = none
  unfold handS
  rw [if_neg (by simp [wokeT]), if_neg (by simp [wokeT]), if_pos (.inl rfl)]
  unfold waitS
  rw [if_neg (by simp [wokeT]), if_pos rfl]
  unfold grantS
  rw [if_neg (by simp)]
/-- thread 6 is through -/
theorem through5 {f : Nat → Th} (hf : f 6 = busyT 5 1) :
    takesS (mkS f ⟨6, 1, []⟩) [⟨1, 6, 0, 3, 0, -1, 0, 0⟩, ⟨2, 6, 1, 0, 0, 0, 0, 0⟩, ⟨0, 6, 2, 1, 0, 0, 0, 0⟩, ⟨1, 6, 0, 1, 0, 0, 0, 0⟩, ⟨2, 6, 2, 0, 0, 0, 0, 0⟩] = (mkS (upd f 6 (idle 3)) ⟨-1, 0, []⟩, true) := by
  have h1 : takeS (mkS f ⟨6, 1, []⟩) ⟨1, 6, 0, 3, 0, -1, 0, 0⟩ = some (mkS (upd f 6 (endTh (busyT 5 1) 0 0)) ⟨6, 1, []⟩) := by
    have := do_hand (f := f) (b := ⟨6, 1, []⟩) (t := 6) (by omega) hf 3 (-1)
    rw [show ((6 : Nat) : Int) = 6 from rfl] at this
    rw [this]
    unfold handS
    rw [if_neg (by simp [busyT]), if_neg (by simp [busyT]), if_neg (by simp [busyT]), if_pos (.inr rfl)]
    unfold notifyS
    rw [if_neg (by simp), if_pos ⟨rfl, rfl, rfl⟩]
    simp only [if_true, true_or]
    rw [mk_end (by omega), hf]
  simp only [takesS]
  rw [h1]
  simp only
  have h2 := do_back (f := upd f 6 (endTh (busyT 5 1) 0 0)) (b := ⟨6, 1, []⟩) (t := 6) (x := busyT 5 1) (c := 1) (by omega) (upd_self _ _ _) rfl rfl (by omega)
  rw [show ((6 : Nat) : Int) = 6 from rfl] at h2
  rw [h2]
  simp only
  have h3 := exit3 (f := upd (upd f 6 (endTh (busyT 5 1) 0 0)) 6 (idle (1 + 1))) (dep := 1) (l := []) (t := 6) (c := 2) (by omega) (upd_self _ _ _) (by omega) (by omega)
  simp only [takesS, upd_upd] at h3 ⊢
  rw [show ((6 : Nat) : Int) = 6 from rfl] at h3
  exact h3
theorem grant_yes {f : Nat → Th} {t : Nat} {c d : Int} (h : t < 7) (ht : f t = wokeT c d) :
    takeS (mkS f ⟨-1, 0, []⟩) ⟨1, (t : Int), 0, 5, 0, 0, 0, 0⟩ = some (mkS (upd f t (endTh (wokeT c d) 0 0)) ⟨t, d, []⟩) := by
  rw [take_mk h, if_neg (by omega), if_pos rfl, ht]
  unfold actS
  rw [if_neg (by simp [wokeT])]
  show handS (mkS f ⟨-1, 0, []⟩) t (wokeT c d) 0 ⟨-1, 0, []⟩ _ = _
  unfold handS
  rw [if_neg (by simp [wokeT]), if_neg (by simp [wokeT]), if_pos (.inl rfl)]
  unfold waitS
  rw [if_neg (by simp [wokeT]), if_pos rfl]
  unfold grantS
  rw [if_pos ⟨rfl, rfl, rfl⟩, mk_setO, mk_end h, ht]
theorem back_no {f : Nat → Th} {b : Ob} {t : Nat} {x : Th} {c : Int} (h : t < 7) (hf : f t = endTh x 0 0) : takeS (mkS f b) ⟨2, (t : Int), c, 0, 0, 0, 0, 1⟩ = none := by
  rw [take_mk h, if_neg (by omega), if_neg (by omega), if_pos rfl, hf]
  unfold closeS
  rw [if_pos (by simp [endTh])]
end Go.Proofs.Ytjfgkdgcihcmhaa
