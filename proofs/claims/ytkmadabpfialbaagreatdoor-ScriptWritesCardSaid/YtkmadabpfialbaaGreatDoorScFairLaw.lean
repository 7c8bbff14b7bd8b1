/- What ScriptFair reckons with: fair by more picks, of fewer threads, a part; a row of picks, turned one by one. -/
import Derived.Test.YtkmadabpfialbaaGreatDoorScKnown
namespace Go.Proofs.YtkmadabpfialbaaGreatDoor
open Go.ChangeShapes Go.WideShapes Go.ChangeAt Go.RowKit Go.Maps
set_option linter.unusedVariables false
set_option linter.unusedSimpArgs false
theorem pkCells_set : ∀ (l : List Pk) (k : Nat) (p : Pk) (x : Int), l[k]? = some p → (pkCells l).set (k * 2) (.int .i64 x) = pkCells (l.set k (x, p.2))
  | [], k, p, x, h => by simp at h
  | q :: t, 0, p, x, h => by
    simp at h; subst h
    simp [pkCells]
  | q :: t, k + 1, p, x, h => by
    have ih := pkCells_set t k p x (by simpa using h)
    have e : ∀ (q : Pk) (t : List Pk), pkCells (q :: t) = Value.int .i64 q.1 :: Value.int .i64 q.2 :: pkCells t := fun q t => by simp [pkCells]
    rw [e, show (k + 1) * 2 = k * 2 + 1 + 1 by omega, List.set_cons_succ, List.set_cons_succ, ih, List.set_cons_succ, e]
theorem FairP.more {l : List Pk} {t : Int} {K : Nat} (h : FairP l t K) : FairP l t ((K + 1 : Nat) : Int) := by
  refine ⟨h.1, by omega, fun a ha u u0 u1 => ?_⟩
  rw [Int.toNat_natCast] at ha ⊢
  have := h.2.2 a (by rw [Int.toNat_natCast]; omega) u u0 u1
  rw [Int.toNat_natCast] at this
  obtain ⟨i, h1, h2, h3⟩ := this
  exact ⟨i, h1, by omega, h3⟩
theorem FairP.fewer {l : List Pk} {t t' : Int} {K : Nat} (h : FairP l t K) (h1 : 1 ≤ t') (h2 : t' ≤ t) : FairP l t' K :=
  ⟨h1, h.2.1, fun a ha u u0 u1 => h.2.2 a ha u u0 (by omega)⟩
theorem FairP.part {l : List Pk} {t : Int} {K : Nat} (h : FairP l t K) (a m : Nat) : FairP ((l.drop a).take m) t K := by
  refine ⟨h.1, h.2.1, fun i hi u u0 u1 => ?_⟩
  rw [Int.toNat_natCast] at hi ⊢
  rw [List.length_take, List.length_drop] at hi
  have hk := h.2.1
  have := h.2.2 (a + i) (by rw [Int.toNat_natCast]; omega) u u0 u1
  rw [Int.toNat_natCast] at this
  obtain ⟨j, h1, h2, h3⟩ := this
  refine ⟨j - a, by omega, by omega, ?_⟩
  rw [List.getElem?_take, if_pos (by omega), List.getElem?_drop, show a + (j - a) = j by omega, h3]
theorem PicksAt.sub {w : World} {n len c g o : Nat} {l : List Pk} (h : PicksAt w n (.slice (some ⟨g, o, none⟩) len c) l) (a m : Nat) (h2 : a + m ≤ len) :
    PicksAt w n (.slice (some ⟨g, o + a * 2, none⟩) m (c - a)) ((l.drop a).take m) := by
  obtain ⟨a', c', e, hc, hp⟩ := h
  simp at e
  obtain ⟨rfl, rfl, rfl⟩ := e
  have hl : ((l.drop a).take m).length = m := by rw [List.length_take, List.length_drop]; omega
  refine ⟨some ⟨g, o + a * 2, none⟩, c - a, by rw [hl], by rw [hl]; omega, fun i p hi => ?_⟩
  have him : i < m := by
    have := (List.getElem?_eq_some_iff.1 hi).1
    omega
  rw [List.getElem?_take, if_pos him, List.getElem?_drop] at hi
  obtain ⟨b, o', e', hb, hbs, c1, c2⟩ := hp (a + i) p hi
  simp at e'
  obtain ⟨rfl, rfl⟩ := e'
  refine ⟨g, o + a * 2, rfl, hb, hbs, ?_, ?_⟩
  · rw [show o + a * 2 + i * 2 = o + (a + i) * 2 by omega]; exact c1
  · rw [show o + a * 2 + (i * 2 + 1) = o + ((a + i) * 2 + 1) by omega]; exact c2
theorem PicksAt.cutOf {w : World} {n len c : Nat} {a : Option Addr} {l : List Pk} (h : PicksAt w n (.slice a len c) l) (A D : Nat) (h2 : A + D ≤ len) :
    PicksAt w n (.slice (if c = A then a else a.map (·.add (A * 2))) D (c - A)) ((l.drop A).take D) := by
  obtain ⟨a', c', e, hc, hp⟩ := id h
  simp at e
  obtain ⟨rfl, rfl, rfl⟩ := e
  rcases Nat.eq_zero_or_pos D with rfl | hD
  · exact ⟨if c = A then a else a.map (·.add (A * 2)), c - A, by simp, by simp, fun i p hi => by simp at hi⟩
  · obtain ⟨p, hpl⟩ : ∃ p, l[0]? = some p := ⟨_, List.getElem?_eq_getElem (by omega)⟩
    obtain ⟨g, o, rfl, _⟩ := hp 0 p hpl
    rw [if_neg (by omega), Option.map_some, Lib.add_plain]
    exact h.sub A D h2
end Go.Proofs.YtkmadabpfialbaaGreatDoor
