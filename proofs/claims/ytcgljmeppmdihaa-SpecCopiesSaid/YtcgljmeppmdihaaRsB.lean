/- The document's automaton: who waits the longest. -/
import Derived.Test.YtcgljmeppmdihaaRsA
namespace Go.Proofs.Ytcgljmeppmdihaa
open Go.ChangeShapes Go.WideShapes Go.ChangeAt Go.RowKit
set_option linter.unusedVariables false
set_option maxRecDepth 100000
set_option linter.unusedSimpArgs false
/-- the longest, of the first ones -/
def LongN (s : RS) (o : Int) (k : Nat) (best : Int) : Prop :=
  (best = -1 ∧ ∀ u x, u < k → ¬ QR s o u x) ∨ ∃ (u : Nat) (x : RTh), best = (u : Int) ∧ u < k ∧ QR s o u x ∧ ∀ v y, v < k → QR s o v y → x.since ≤ y.since
theorem QR.at {s : RS} {o : Int} {u : Nat} {x y : RTh} (hx : s.T[u]? = some x) (h : QR s o u y) : y = x := by
  have := h.1
  rw [hx] at this
  exact (Option.some.inj this).symm
theorem LongN.skip {s : RS} {o b : Int} {k : Nat} {x : RTh} (h : LongN s o k b) (hx : s.T[k]? = some x) (hn : ¬ (x.opn = true ∧ x.obj = o ∧ x.far = 2)) : LongN s o (k + 1) b := by
  have hk : ∀ y, ¬ QR s o k y := fun y hq => by
    have := hq.at hx
    subst this
    exact hn hq.2
  rcases h with ⟨rfl, h⟩ | ⟨u, z, rfl, h1, h2, h3⟩
  · refine .inl ⟨rfl, fun u y hu hq => ?_⟩
    by_cases e : u = k
    · subst e; exact hk y hq
    · exact h u y (by omega) hq
  · refine .inr ⟨u, z, rfl, by omega, h2, fun v y hv hq => ?_⟩
    by_cases e : v = k
    · subst e; exact absurd hq (hk y)
    · exact h3 v y (by omega) hq
theorem LongN.first {s : RS} {o : Int} {k : Nat} {x : RTh} (h : LongN s o k (-1)) (hx : s.T[k]? = some x) (hn : x.opn = true ∧ x.obj = o ∧ x.far = 2) : LongN s o (k + 1) (k : Int) := by
  rcases h with ⟨_, h⟩ | ⟨u, z, e, h1, h2, h3⟩
  · refine .inr ⟨k, x, rfl, by omega, ⟨hx, hn⟩, fun v y hv hq => ?_⟩
    by_cases e : v = k
    · subst e; rw [hq.at hx]; exact Int.le_refl _
    · exact absurd hq (h v y (by omega))
  · omega
theorem LongN.step {s : RS} {o : Int} {k u : Nat} {x z : RTh} (h : LongN s o k (u : Int)) (hx : s.T[k]? = some x) (hz : s.T[u]? = some z) (hn : x.opn = true ∧ x.obj = o ∧ x.far = 2) :
    LongN s o (k + 1) (if x.since < z.since then (k : Int) else (u : Int)) := by
  rcases h with ⟨e, h⟩ | ⟨u', z', e, h1, h2, h3⟩
  · omega
  · obtain rfl : u = u' := by omega
    obtain rfl := h2.at hz
    split
    · rename_i hlt
      refine .inr ⟨k, x, rfl, by omega, ⟨hx, hn⟩, fun v y hv hq => ?_⟩
      by_cases e : v = k
      · subst e; rw [hq.at hx]; exact Int.le_refl _
      · have := h3 v y (by omega) hq
        omega
    · rename_i hlt
      refine .inr ⟨u, _, rfl, by omega, h2, fun v y hv hq => ?_⟩
      by_cases e : v = k
      · subst e; rw [hq.at hx]; omega
      · exact h3 v y (by omega) hq
set_option maxHeartbeats 4000000 in
theorem rlongest_any {w : World} {p : RPl} {s : RS} (h : RsAt w p s) (o : Int) (hl : s.T.length ≤ 100000) :
    Calls Try.prog 81 #[rspV p, .int .i64 o] w fun e w' => ∃ b : Int, e = .returned (.int .i64 b) ∧ LongR s o b ∧ Below w.heap.size w w' := by
  have H := Lib.hid h
  obtain ⟨lT, hlT⟩ : ∃ lT, lT = s.T.length := ⟨_, rfl⟩
  have HC := Lib.hid (show ∀ V, Below w.heap.size w V → V.cell? ⟨p.P, 2, none⟩ = some (.slice (some ⟨p.T, 0, none⟩) lT p.cT) from fun V hV => by rw [hlT]; exact (h.below hV).c.c2)
  have HL := Lib.hid hlT
  rw [← hlT] at hl
  clear h hlT
  go_enter Try.func81, Try.ntmps81
  go_upto_region 3 with fail
  go_loopw [5, 6] (fun v5 v6 wr => ∃ (k : Nat) (b : Int), k ≤ lT ∧ v6 = .int .i64 (k : Int) ∧ v5 = .int .i64 b ∧ LongN s o k b ∧ Below w.heap.size w wr) (fun _ v6 _ => (lT - intOf v6).toNat)
  case atStart => exact ⟨0, -1, by omega, rfl, rfl, .inl ⟨rfl, fun u x hu => by omega⟩, Below.refl _ _⟩
  case round =>
    obtain ⟨k, b, hk, rfl, rfl, hln, hbr⟩ := hrel
    have HLN := Lib.hid hln
    have HBR := Lib.hid hbr
    have c2 := HC.out _ hbr
    clear hln hbr
    by_cases hlt : k < lT
    · have hkI : (k : Int) < (lT : Int) := by omega
      obtain ⟨x, hx⟩ : ∃ x, s.T[k]? = some x := ⟨_, List.getElem?_eq_getElem (by rw [← HL.out]; exact hlt)⟩
      have HX := Lib.hid hx
      have q := (H.out.below HBR.out).t hx
      have d1 := q.opn
      have d3 := q.obj
      have d5 := q.far
      have d10 := q.since
      have ix := idx_rthrs p.T lT p.cT k hlt
      clear q hx
      rcases x with ⟨xcalls, xopn, xop, xobj, xarg, xfar, xcode, xval, xflag, xsaved, xsince⟩
      dsimp only at d1 d3 d5 d10
      by_cases hq : xopn = true ∧ xobj = o ∧ xfar = 2
      · obtain ⟨rfl, ho, rfl⟩ := hq
        have e3 : (xobj == o) = true := beq_iff_eq.2 ho
        have HO := Lib.hid ho
        clear ho
        by_cases hb : b = -1
        · have hb0 : b < 0 := by omega
          have HB := Lib.hid hb
          clear hb
          go_upto_region 5 with fail
          go_quiet (fail)
          go_wp2_with fail
          go_roundw
          case rel =>
            refine ⟨k + 1, (k : Int), by omega, by go_num, by go_num, ?_, HBR.out.trans ⟨rfl, rfl, rfl, Nat.le_refl _, fun _ _ => rfl⟩⟩
            have := HLN.out
            rw [HB.out] at this
            exact this.first HX.out ⟨rfl, HO.out, rfl⟩
          case measure => simp [intOf]; omega
        · obtain ⟨u, z, hbu, hul, hz⟩ : ∃ (u : Nat) (z : RTh), b = (u : Int) ∧ u < lT ∧ s.T[u]? = some z := by
            rcases HLN.out with ⟨e, _⟩ | ⟨u, z, e, h1, h2, _⟩
            · exact absurd e hb
            · exact ⟨u, z, e, by omega, h2.1⟩
          subst hbu
          clear hb
          have d11 := ((H.out.below HBR.out).t hz).since
          have iz := idx_rthrs p.T lT p.cT u hul
          have hb0 : ¬ (u : Int) < 0 := by omega
          have hulI : (u : Int) < (lT : Int) := by omega
          have HZ := Lib.hid hz
          clear hz
          have hst := HLN.out.step HX.out HZ.out ⟨rfl, HO.out, rfl⟩
          dsimp only at hst
          generalize z.since = zs at *
          by_cases hlt2 : xsince < zs
          · rw [if_pos hlt2] at hst
            have HST := Lib.hid hst
            clear hst
            go_upto_region 5 with fail
            go_quiet (fail)
            go_wp2_with fail
            go_roundw
            case rel => exact ⟨k + 1, (k : Int), by omega, by go_num, by go_num, HST.out, HBR.out.trans ⟨rfl, rfl, rfl, Nat.le_refl _, fun _ _ => rfl⟩⟩
            case measure => simp [intOf]; omega
          · rw [if_neg hlt2] at hst
            have HST := Lib.hid hst
            clear hst
            go_upto_region 5 with fail
            go_quiet (fail)
            go_wp2_with fail
            go_roundw
            case rel => exact ⟨k + 1, (u : Int), by omega, by go_num, by go_num, HST.out, HBR.out.trans ⟨rfl, rfl, rfl, Nat.le_refl _, fun _ _ => rfl⟩⟩
            case measure => simp [intOf]; omega
      · have HS := Lib.hid (HLN.out.skip HX.out hq)
        have hcs : xopn = false ∨ (xopn = true ∧ (xobj == o) = false) ∨ (xopn = true ∧ (xobj == o) = true ∧ (xfar == 2) = false) := by
          cases xopn with
          | false => exact .inl rfl
          | true =>
            by_cases e1 : xobj = o
            · refine .inr (.inr ⟨rfl, beq_iff_eq.2 e1, beq_eq_false_iff_ne.2 fun e2 => hq ⟨rfl, e1, e2⟩⟩)
            · exact .inr (.inl ⟨rfl, beq_eq_false_iff_ne.2 e1⟩)
        clear hq
        rcases hcs with rfl | ⟨rfl, e1⟩ | ⟨rfl, e1, e2⟩
        all_goals
          go_upto_region 5 with fail
          go_quiet (fail)
          go_wp2_with fail
          go_roundw
          case rel => exact ⟨k + 1, b, by omega, by go_num, by go_num, HS.out, HBR.out.trans ⟨rfl, rfl, rfl, Nat.le_refl _, fun _ _ => rfl⟩⟩
          case measure => simp [intOf]; omega
    · obtain rfl : k = lT := by omega
      go_wp2_with fail
      go_ret
      refine ⟨b, rfl, ?_, HBR.out⟩
      have hl := HL.out
      rcases HLN.out with ⟨rfl, h⟩ | ⟨u, z, rfl, h1, h2, h3⟩
      · exact .inl ⟨rfl, fun u x hq => h u x (by rw [hl]; exact (List.getElem?_eq_some_iff.1 hq.1).1) hq⟩
      · exact .inr ⟨u, z, rfl, h2, fun v y hq => h3 v y (by rw [hl]; exact (List.getElem?_eq_some_iff.1 hq.1).1) hq⟩
end Go.Proofs.Ytcgljmeppmdihaa
