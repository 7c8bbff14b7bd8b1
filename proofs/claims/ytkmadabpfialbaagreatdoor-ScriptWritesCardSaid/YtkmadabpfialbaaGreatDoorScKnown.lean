/- ScriptKnown returns true. -/
import Derived.Test.YtkmadabpfialbaaGreatDoorScWorksB
namespace Go.Proofs.YtkmadabpfialbaaGreatDoor
open Go.ChangeShapes Go.WideShapes Go.ChangeAt Go.RowKit Go.Maps
set_option linter.unusedVariables false
set_option maxRecDepth 100000
set_option linter.unusedSimpArgs false
theorem parse_lit (s : ByteArray) (l : List Pk) (w : World) (hs : s.size ≤ 100000) (ht : TieW w) (hb : badAt (fieldsB s.data.toList) = none) (hl : picksOf (fieldsB s.data.toList) = l) :
    Calls Tryz.prog 15 #[.string s] w fun e w' => ∃ a c, e = .returned (.tuple #[.slice a l.length c, .nilIface]) ∧ Left7 w (.slice a l.length c) l w' := by
  have HP := parse_any s w hs ht
  unfold ParsePost at HP
  rw [hb, hl] at HP
  refine HP.mono ?_
  rintro e w' ⟨b1, v, rfl, ho, hn⟩
  obtain ⟨a, c, rfl, hc, hp⟩ := id (PicksAt.own ho)
  exact ⟨a, c, rfl, b1, PicksAt.own ho⟩
theorem decode_nil (w : World) : Calls Tryz.prog 5 #[.string ⟨#[]⟩] w fun e w' => ∃ a c, e = .returned (.slice a 0 c) ∧ Below w.heap.size w w' :=
  (decode_lit ⟨#[]⟩ [] w (by decide) (by decide)).mono fun e w' ⟨v, h1, h2, h3⟩ => by
    obtain ⟨a, c, rfl, _⟩ := h3
    exact ⟨a, c, h1, h2⟩
theorem fair_p (v : Value) (l : List Pk) (t' : Int) (K : Nat) (K' : Int) (e2 : K' = (K : Int)) (b : Bool) (w : World) (hv : PicksAt w w.heap.size v l) (hl : l.length ≤ 1000) (ht1 : 1 ≤ t') (ht2 : t' ≤ 9223372036854775807) (hk1 : 1 ≤ K) (hk2 : K ≤ 1000) (hb : b = true ↔ FairP l t' K) :
    Calls Tryz.prog 9 #[v, .int .i64 t', .int .i64 K'] w fun e w' => e = .returned (.bool b) ∧ Below w.heap.size w w' := by
  subst e2
  refine (fair_yes v l t' K w hv (by omega) ht1 ht2 hk1 (by omega)).mono ?_
  rintro e w' ⟨h1, b', h2, h3⟩
  refine ⟨?_, h1⟩
  have : b' = b := by
    rw [Bool.eq_iff_iff]
    exact h3.trans hb.symm
  rw [h2, this]
theorem fair_bad (v : Value) (t k : Int) (w : World) (h : t < 1 ∨ k < 1) : Calls Tryz.prog 9 #[v, .int .i64 t, .int .i64 k] w fun e w' => e = .returned (.bool false) ∧ Below w.heap.size w w' :=
  (fair_no v [] t k w h).mono fun e w' ⟨h1, h2⟩ => ⟨h1, by rw [← h2]; exact Below.refl _ _⟩
theorem fair_none (t : Int) (K : Nat) (h1 : 1 ≤ t) (hK : 1 ≤ K) : (true = true) ↔ FairP [] t K :=
  ⟨fun _ => ⟨h1, by omega, fun a ha => by rw [Int.toNat_natCast] at ha; simp at ha; omega⟩, fun _ => rfl⟩
theorem fair_few (t : Int) (h : 2 ≤ t) : (false = true) ↔ FairP [(0, 0)] t (1 : Nat) := by
  refine ⟨fun e => (by cases e), fun hF => ?_⟩
  obtain ⟨i, h1, h2, h3⟩ := hF.2.2 0 (by decide) 1 (by omega) (by omega)
  have hi : i = 0 := by simp at h2; omega
  subst hi
  simp at h3
def oddW : List (List UInt8) := [[45], [116], [49, 116, 116], [49, 116, 115], [49, 48, 48, 48, 48, 48], [49, 84], [43, 49], [49, 44, 50], [48, 116, 48], [48, 48]]
theorem odd_bad : ∀ (k : Nat) (u : List UInt8), oddW[k]? = some u → badAt (fieldsB ([55, 32] ++ u ++ [32, 56])) = some 1 ∧ u.length ≤ 6 := by
  have h : (oddW.all fun u => decide (badAt (fieldsB ([55, 32] ++ u ++ [32, 56])) = some 1 ∧ u.length ≤ 6)) = true := by decide +kernel
  intro k u hu
  exact of_decide_eq_true (List.all_eq_true.1 h u (List.mem_of_getElem? hu))
theorem odd_wrong (k : Nat) (u : ByteArray) (hu : oddW[k]? = some u.data.toList) (w : World) (ht : TieW w) :
    Calls Tryz.prog 20 #[.string ((⟨#[55, 32]⟩ : ByteArray) ++ u ++ ⟨#[32, 56]⟩), .int .i64 1] w fun e w' => e = .returned (.bool true) ∧ Below w.heap.size w w' := by
  obtain ⟨h1, h2⟩ := odd_bad k _ hu
  have e : ((⟨#[55, 32]⟩ : ByteArray) ++ u ++ ⟨#[32, 56]⟩).data.toList = [55, 32] ++ u.data.toList ++ [32, 56] := by simp
  refine wrong_lit _ 1 1 rfl w ?_ ht (by rw [e]; exact h1)
  have h3 : ((⟨#[55, 32]⟩ : ByteArray) ++ u ++ ⟨#[32, 56]⟩).size = ((⟨#[55, 32]⟩ : ByteArray) ++ u ++ ⟨#[32, 56]⟩).data.toList.length := by rw [Array.length_toList]; rfl
  rw [h3, e]
  simp only [List.length_append, List.length_cons, List.length_nil]
  omega
def oddP : List Pk := [(-1, 0), (100000, 0), (0, 3), (0, -1), (99999, 2)]
theorem odd_print : printL oddP = [45, 32, 45, 32, 45, 32, 45, 32, 57, 57, 57, 57, 57, 115] := by
  have h5 : wordB (99999, 2) = [57, 57, 57, 57, 57, 115] := ((wordP_ok (w := [57, 57, 57, 57, 57, 115]) (p := (99999, 2)) (by decide +kernel)).2).symm
  have e : oddP.map wordB = [[45], [45], [45], [45], [57, 57, 57, 57, 57, 115]] := by
    simp only [oddP, List.map_cons, List.map_nil, h5]
    rfl
  unfold printL
  rw [e]
  decide +kernel
end Go.Proofs.YtkmadabpfialbaaGreatDoor
