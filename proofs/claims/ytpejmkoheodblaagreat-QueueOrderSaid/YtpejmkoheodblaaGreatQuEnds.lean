/- Layer 10's laws: ends: a task's steps, alone; ints: rows that read alike. -/
import Derived.Test.YtpejmkoheodblaaGreatTreC
import Derived.Test.YtpejmkoheodblaaGreatQuRef
namespace Go.Proofs.YtpejmkoheodblaaGreat
open Go.ChangeShapes Go.WideShapes Go.ChangeAt Go.RowKit
set_option linter.unusedVariables false
set_option maxRecDepth 100000
set_option linter.unusedSimpArgs false
/-- how a task goes to its end, alone: so many operations, what the cells hold then, its value -/
inductive Goes : List Int → Tre Itm → Nat → List Int → Int → Prop
  | ret (m : List Int) (v : Int) : Goes m (retT v) 0 m v
  | op {m m' : List Int} {x : Itm} {κ : Int → Tre Itm} {k : Nat} {v : Int} (h1 : x.kind < 5) (h2 : countS m x = 1) (h3 : Goes (operS m x).1 (κ (operS m x).2.1) k m' v) : Goes m (opT x κ) (k + 1) m' v
theorem Goes.cases' {m m' : List Int} {T : Tre Itm} {k : Nat} {v : Int} (h : Goes m T k m' v) :
    (k = 0 ∧ T = retT v ∧ m' = m) ∨ ∃ x κ j, k = j + 1 ∧ T = opT x κ ∧ x.kind < 5 ∧ countS m x = 1 ∧ Goes (operS m x).1 (κ (operS m x).2.1) j m' v := by
  cases h with
  | ret m v => exact .inl ⟨rfl, rfl, rfl⟩
  | op h1 h2 h3 => exact .inr ⟨_, _, _, rfl, rfl, h1, h2, h3⟩
set_option maxHeartbeats 1000000 in
theorem qends_any (C P S t : Nat) (Q : Nat → Prop) (T : Tre Itm) (L most : Nat) (m m' : List Int) (v n : Int) (w : World) (hG : Goes m T L m' v) (hL : L ≤ most) (hm : most ≤ 1000)
    (h : TkT (cellOps C P) w t Q T) (hC : CellsAt w C S m n) (hQ : ∀ b, Q b → b ≠ C ∧ b ≠ S) (hn : 0 ≤ n ∧ n ≤ 1000000) {mI : Int} (hI : mI = most) :
    Calls Tryz.prog 22 #[pV t, .int .i64 mI] w fun e w' => e = .returned (.int .i64 L) ∧ (∃ Q', TkT (cellOps C P) w' t Q' (retT v) ∧ ∀ b, Q' b → Q b ∨ w.heap.size ≤ b) ∧ CellsAt w' C S m' (n + L) ∧ Keep (fun b => Q b ∨ ofCells C S b) w w' := by
  subst hI
  have H := Lib.hid h
  have HG := Lib.hid hG
  have HC := Lib.hid hC
  have HQ := Lib.hid hQ
  have HL := Lib.hid hL
  have hCl := hC.own.lt
  have hSl := hC.row.lt
  clear h hG hC hQ hL
  go_enter Tryz.func22, Tryz.ntmps22
  go_wp2_with fail
  go_loopw [5] (fun v5 wr => ∃ (I : Nat) (m1 : List Int) (T1 : Tre Itm) (Q1 : Nat → Prop) (j : Nat), I + j = L ∧ v5 = .int .i64 (I : Int) ∧ Goes m1 T1 j m' v ∧ TkT (cellOps C P) wr t Q1 T1 ∧ (∀ b, Q1 b → Q b ∨ w.heap.size ≤ b) ∧ CellsAt wr C S m1 (n + I) ∧ Keep (fun b => Q b ∨ ofCells C S b) w wr)
    (fun v5 _ => L - (intOf v5).toNat)
  case atStart => exact ⟨0, m, T, Q, L, by omega, rfl, HG.out, H.out, fun _ h => .inl h, by simpa using HC.out, Keep.refl _ _⟩
  case round =>
    obtain ⟨I, m1, T1, Q1, j, hIj, rfl, hG, hT, hq, hC, hk⟩ := hrel
    have hLm := HL.out
    have hsz := hk.size
    have hQ1 : ∀ b, Q1 b → b ≠ C ∧ b ≠ S := fun b hb => by
      rcases hq b hb with h | h
      · exact HQ.out b h
      · omega
    rcases hG.cases' with ⟨rfl, rfl, rfl⟩ | ⟨x, κ, j, rfl, rfl, e1, e2, e3⟩
    · obtain rfl : I = L := by omega
      have hD := Lib.hid (tdoneT_ret t Q1 v wr hT)
      have HX := Lib.hid (And.intro (⟨Q1, hT, hq⟩ : ∃ Q', TkT (cellOps C P) wr t Q' (retT v) ∧ ∀ b, Q' b → Q b ∨ w.heap.size ≤ b) (And.intro hC hk))
      clear hG hT hq hC hk hQ1 H HG HC HQ HL
      go_wp2_with (go_at_call 37; (with_reducible refine hD.out.mono ?_); rintro e w2 ⟨rfl, rfl⟩)
      go_ret
      exact ⟨rfl, HX.out⟩
    · have hD := Lib.hid (tdoneT_op t Q1 x κ wr hT)
      have hS := Lib.hid (tstepT_op C P S t Q1 x κ m1 (n + I) wr hT hC e1 hQ1 ⟨by omega, by omega⟩)
      have hQt := hT.own
      have HX := Lib.hid (And.intro e2 (And.intro e3 (And.intro hq (And.intro hk (And.intro (hq t hQt) (And.intro hsz (HC.out.own.lt)))))))
      have ht : t < w.heap.size ∧ Q t := ⟨H.out.lt t H.out.own, H.out.own⟩
      have h4 : ¬ ((most : Int) ≤ (I : Int)) := by omega
      have h5 : (I : Int) < (most : Int) := by omega
      clear hG hT hq hC hk hQ1 e1 e2 e3
      go_wp2_with (first
        | (go_at_call 37; (with_reducible refine hD.out.mono ?_); rintro e w2 ⟨rfl, rfl⟩)
        | (go_at_call 36; (with_reducible refine hS.out.mono ?_); rintro e w3 ⟨rfl, ⟨Q3, g1, g2⟩, g3, g4⟩))
      obtain ⟨e2, e3, hq, hk, _, _, _⟩ := HX.out
      rw [e2] at g3
      go_roundw
      case rel =>
        refine ⟨I + 1, _, _, Q3, j, by omega, by go_num, e3, g1, fun b hb => ?_, by rw [Int.natCast_add, ← Int.add_assoc]; exact g3, hk.trans (g4.mono fun b _ hb => ?_)⟩
        · rcases g2 b hb with h | h
          · exact hq b h
          · exact .inr (by omega)
        · rcases hb with rfl | hb
          · exact .inl ht.2
          · exact .inr hb
      case measure => simp [intOf]; omega
set_option maxHeartbeats 4000000 in
theorem qints_same (u v : Value) (N N' : Nat → Prop) (l : List Int) (w : World) (hu : RowN w N u l) (hv : RowN w N' v l) (hl : l.length ≤ 100000) :
    Calls Tryz.prog 24 #[u, v] w fun e w' => e = .returned (.bool true) ∧ Below w.heap.size w w' := by
  obtain ⟨a, c, rfl, _, hp⟩ := id hu
  obtain ⟨a', c', rfl, _, hp'⟩ := id hv
  have HP := Lib.hid hp
  have HP' := Lib.hid hp'
  clear hu hv hp hp'
  go_enter Tryz.func24, Tryz.ntmps24
  go_upto_region 4 with fail
  go_loopw [5] (fun vi wr => ∃ I : Nat, I ≤ l.length ∧ vi = .int .i64 (I : Int) ∧ Below w.heap.size w wr)
    (fun vi _ => l.length - (intOf vi).toNat)
  case atStart => exact ⟨0, by omega, rfl, Below.refl _ _⟩
  case round =>
    obtain ⟨I, hI, rfl, hb⟩ := hrel
    by_cases hlt : I < l.length
    · obtain ⟨p, hpi⟩ : ∃ p, l[I]? = some p := ⟨_, List.getElem?_eq_getElem hlt⟩
      obtain ⟨B, o, rfl, _, hB1, c0⟩ := HP.out I p hpi
      obtain ⟨B', o', rfl, _, hB1', d0⟩ := HP'.out I p hpi
      replace c0 := (hb.cell (p := ⟨B, o + I, none⟩) hB1).trans c0
      replace d0 := (hb.cell (p := ⟨B', o' + I, none⟩) hB1').trans d0
      have hix := idx_qints l.length c B o I hlt
      have hix' := idx_qints l.length c' B' o' I hlt
      have hI3 : (I : Int) < (l.length : Int) := by omega
      clear hpi
      go_upto_region 6 with fail
      go_quiet (fail)
      go_wp2
      go_roundw
      case rel => exact ⟨I + 1, by omega, by go_num, bdrewN hb nq⟩
      case measure => simp [intOf]; omega
    · have hIe : I = l.length := by omega
      subst hIe
      go_wp2
      go_ret
      exact ⟨rfl, hb⟩
end Go.Proofs.YtpejmkoheodblaaGreat
