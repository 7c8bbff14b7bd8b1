/- The document's own answers of layer 7 (doorkeeperref07): Fair, window by window. -/
import Derived.Test.YtkmadabpfialbaaGreatDoorScRefB
namespace Go.Proofs.YtkmadabpfialbaaGreatDoor
open Go.ChangeShapes Go.WideShapes Go.ChangeAt Go.RowKit Go.Maps
set_option linter.unusedVariables false
set_option maxRecDepth 100000
set_option linter.unusedSimpArgs false
def FairPost (l : List Pk) (t k : Int) (w : World) (e : Ending) (w' : World) : Prop := ∃ b, e = .returned (.bool b) ∧ (b = true ↔ FairP l t k) ∧ Below w.heap.size w w'
set_option maxHeartbeats 8000000 in
theorem rfair_yes (v : Value) (l : List Pk) (T K : Nat) (w : World) (hv : PicksAt w w.heap.size v l) (hl : l.length ≤ 1000) (hT1 : 1 ≤ T) (hT2 : T ≤ 1000) (hK1 : 1 ≤ K) (hK2 : (K : Int) ≤ 9223372036854775807) :
    Calls Tryz.prog 10 #[v, .int .i64 (T : Int), .int .i64 (K : Int)] w (FairPost l T K w) := by
  obtain ⟨a, c, rfl, hc, hp⟩ := id hv
  have h3 : ¬ (T : Int) < 1 := by omega
  have h4 : ¬ (K : Int) < 1 := by omega
  have HP := Lib.hid hp
  clear hv hp
  go_enter Tryz.func10, Tryz.ntmps10
  go_wp2
  go_loopw [7] (fun v7 wr => ∃ f : Nat, v7 = .int .i64 (f : Int) ∧ (f = 0 ∨ f + K ≤ l.length + 1) ∧ Hid (∀ a, a < f → WinOk l a K T) ∧ wr = w)
    (fun v7 _ => l.length + 1 - (intOf v7).toNat)
  case atStart => exact ⟨0, rfl, .inl rfl, Lib.hid (fun a ha => by omega), rfl⟩
  case round =>
    obtain ⟨f, rfl, hf, hW, rfl⟩ := hrel
    have hfk : (f : Int) + (K : Int) ≤ 9223372036854775807 := by omega
    by_cases hlt : f + K ≤ l.length
    · have h5 : (f : Int) + (K : Int) ≤ (l.length : Int) := by omega
      go_wp2
      go_loopw [8] (fun v8 wq => ∃ t : Nat, v8 = .int .i64 (t : Int) ∧ t ≤ T ∧ Hid (∀ u, u < t → HasStep l f K (u : Int)) ∧ wq = wr)
        (fun v8 _ => T - (intOf v8).toNat)
      case atStart => exact ⟨0, rfl, by omega, Lib.hid (fun u hu => by omega), rfl⟩
      case round =>
        obtain ⟨t, rfl, ht, hS, rfl⟩ := hrel
        by_cases htT : t < T
        · have h6 : (t : Int) < (T : Int) := by omega
          go_wp2
          go_loopw [9, 10] (fun v9 v10 wq => ∃ (i : Nat) (b : Bool), v9 = .bool b ∧ v10 = .int .i64 (i : Int) ∧ f ≤ i ∧ i ≤ f + K ∧ Hid (b = true ↔ ∃ j, f ≤ j ∧ j < i ∧ l[j]? = some ((t : Int), 0)) ∧ wq = wr)
            (fun _ v10 _ => f + K - (intOf v10).toNat)
          case atStart => exact ⟨f, false, rfl, rfl, Nat.le_refl _, by omega, Lib.hid ⟨fun e => (by cases e), fun ⟨j, h1, h2, _⟩ => absurd h1 (by omega)⟩, rfl⟩
          case round =>
            obtain ⟨i, b, rfl, rfl, hi1, hi2, hb, rfl⟩ := hrel
            by_cases hik : i < f + K
            · have h7 : (i : Int) < (f : Int) + (K : Int) := by omega
              have hil : i < l.length := by omega
              obtain ⟨p, hpi⟩ : ∃ p, l[i]? = some p := ⟨_, List.getElem?_eq_getElem hil⟩
              obtain ⟨B, o, rfl, hB1, hB2, c0, c1⟩ := HP.out i p hpi
              rw [← Nat.add_assoc] at c1
              have hix := idx_nat l.length c B o i hil
              obtain ⟨pu, pq⟩ := p
              simp only at c0 c1
              have hnx : (∃ j, f ≤ j ∧ j < i + 1 ∧ l[j]? = some ((t : Int), (0 : Int))) ↔ (b = true ∨ (pu = (t : Int) ∧ pq = 0)) := by
                rw [hb.out]
                constructor
                · rintro ⟨j, h1, h2, h3⟩
                  rcases Nat.lt_or_ge j i with h | h
                  · exact .inl ⟨j, h1, h, h3⟩
                  · obtain rfl : j = i := by omega
                    rw [hpi] at h3
                    have := Option.some.inj h3
                    simp at this
                    exact .inr this
                · rintro (⟨j, h1, h2, h3⟩ | ⟨rfl, rfl⟩)
                  · exact ⟨j, h1, by omega, h3⟩
                  · exact ⟨i, hi1, by omega, hpi⟩
              have HNX := Lib.hid hnx
              clear hnx hpi
              cases b with
              | true =>
                have HB2 : Hid (true = true ↔ ∃ j, f ≤ j ∧ j < i + 1 ∧ l[j]? = some ((t : Int), (0 : Int))) := Lib.hid (by rw [HNX.out]; simp)
                go_wp2
                go_roundw
                case rel => exact ⟨i + 1, true, rfl, by go_num, by omega, by omega, HB2.out, trivial⟩
                case measure => simp [intOf]; omega
              | false =>
                by_cases hu : pu = (t : Int)
                · subst hu
                  by_cases hq : pq = 0
                  · subst hq
                    have HB2 : Hid (true = true ↔ ∃ j, f ≤ j ∧ j < i + 1 ∧ l[j]? = some ((t : Int), (0 : Int))) := Lib.hid (by rw [HNX.out]; simp)
                    go_wp2
                    go_roundw
                    case rel => exact ⟨i + 1, true, rfl, by go_num, by omega, by omega, HB2.out, trivial⟩
                    case measure => simp [intOf]; omega
                  · have HB2 : Hid (false = true ↔ ∃ j, f ≤ j ∧ j < i + 1 ∧ l[j]? = some ((t : Int), (0 : Int))) := Lib.hid (by rw [HNX.out]; simp [hq])
                    have hq2 : (pq == 0) = false := by simpa using hq
                    clear hq
                    go_wp2
                    go_roundw
                    case rel => exact ⟨i + 1, false, rfl, by go_num, by omega, by omega, HB2.out, trivial⟩
                    case measure => simp [intOf]; omega
                · have HB2 : Hid (false = true ↔ ∃ j, f ≤ j ∧ j < i + 1 ∧ l[j]? = some ((t : Int), (0 : Int))) := Lib.hid (by rw [HNX.out]; simp [hu])
                  have hu2 : (pu == (t : Int)) = false := by simpa using hu
                  clear hu
                  go_wp2
                  go_roundw
                  case rel => exact ⟨i + 1, false, rfl, by go_num, by omega, by omega, HB2.out, trivial⟩
                  case measure => simp [intOf]; omega
            · have hie : i = f + K := by omega
              have hST : Hid (b = true ↔ HasStep l f K (t : Int)) := Lib.hid (by rw [hb.out, hie]; rfl)
              have h7 : ¬ (i : Int) < (f : Int) + (K : Int) := by omega
              cases b with
              | true =>
                go_wp2
                go_roundw
                case rel => exact ⟨t + 1, by go_num, by omega, Lib.hid (fun u hu => by
                  rcases Nat.lt_or_ge u t with h | h
                  · exact hS.out u h
                  · obtain rfl : u = t := by omega
                    exact hST.out.1 rfl), trivial⟩
                case measure => simp [intOf]; omega
              | false =>
                go_wp2
                go_ret
                refine ⟨false, rfl, ⟨(fun e => by cases e), fun hF => ?_⟩, Below.refl _ _⟩
                have hh := hF.2.2 f (by rw [Int.toNat_natCast]; exact hlt) (t : Int) (by omega) (by omega)
                rw [Int.toNat_natCast] at hh
                exact hST.out.2 hh
        · have hte : t = T := by omega
          have h6 : ¬ (t : Int) < (T : Int) := by omega
          go_wp2
          go_roundw
          case rel => exact ⟨f + 1, by go_num, .inr (by omega), Lib.hid (fun a ha => by
            rcases Nat.lt_or_ge a f with h | h
            · exact hW.out a h
            · obtain rfl : a = f := by omega
              intro u h0 h1
              obtain ⟨n, rfl⟩ := Int.eq_ofNat_of_zero_le h0
              exact hS.out n (by omega)), trivial⟩
          case measure => simp [intOf]; omega
    · have h5 : ¬ (f : Int) + (K : Int) ≤ (l.length : Int) := by omega
      go_wp2
      go_ret
      refine ⟨true, rfl, ⟨fun _ => ⟨by omega, by omega, fun a ha => ?_⟩, fun _ => rfl⟩, Below.refl _ _⟩
      rw [Int.toNat_natCast] at ha ⊢
      exact hW.out a (by omega)
theorem rfair_no (v : Value) (l : List Pk) (t k : Int) (w : World) (h : t < 1 ∨ k < 1) :
    Calls Tryz.prog 10 #[v, .int .i64 t, .int .i64 k] w (FairPost l t k w) := by
  have hn : Hid (¬ FairP l t k) := Lib.hid (fun hF => by have := hF.1; have := hF.2.1; omega)
  rcases Int.lt_or_le t 1 with h1 | h1
  · clear h
    go_enter Tryz.func10, Tryz.ntmps10
    go_wp2
    go_ret
    exact ⟨false, rfl, ⟨(fun e => by cases e), fun hF => absurd hF hn.out⟩, Below.refl _ _⟩
  · have h2 : k < 1 := by omega
    have h1' : ¬ t < 1 := by omega
    clear h h1
    go_enter Tryz.func10, Tryz.ntmps10
    go_wp2
    go_ret
    exact ⟨false, rfl, ⟨(fun e => by cases e), fun hF => absurd hF hn.out⟩, Below.refl _ _⟩
end Go.Proofs.YtkmadabpfialbaaGreatDoor
