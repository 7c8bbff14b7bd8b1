/- The document's queues (doorkeeperref10): what they are in memory; In. -/
import Derived.Test.YtldofbkjjmnooaaGreatProg
import Derived.Test.YtldofbkjjmnooaaGreatMgPShE
import Derived.WalkKit
import Derived.StillTailTactics
import Derived.Deep.CutBlock
import Derived.Deep.RegionHeld3
import Derived.BigGuardPart
import Derived.WalkSpells
import Derived.OwnWalk
import Derived.Lib.Hide
import Derived.Test.YtldofbkjjmnooaaGreatMgPShH
import Derived.LoopTactic
import Derived.Test.YtldofbkjjmnooaaGreatMgPShJ
namespace Go.Proofs.YtldofbkjjmnooaaGreat
open Go.ChangeShapes Go.WideShapes Go.ChangeAt Go.RowKit
set_option linter.unusedVariables false
set_option maxRecDepth 100000
set_option linter.unusedSimpArgs false
abbrev qV (T : Nat) : Value := .pointer (some ⟨T, 0, none⟩)
theorem qcell_keep {w w1 : World} {F : Nat → Prop} {p : Addr} {v : Value} (h : w.cell? p = some v) (hk : Keep F w w1) (hn : ¬ F p.block) : w1.cell? p = some v := by
  have hb : p.block < w.heap.size := by
    unfold World.cell? at h
    cases hb : w.heap[p.block]? with
    | none => rw [hb] at h; cases h
    | some y => exact (Array.getElem?_eq_some_iff.1 hb).1
  unfold World.cell? at h ⊢
  rw [hk.block p.block hb hn]
  exact h
/-- a row of numbers that is read, of blocks of which N is said -/
def RowN (w : World) (N : Nat → Prop) (v : Value) (l : List Int) : Prop :=
  ∃ a c, v = .slice a l.length c ∧ l.length ≤ c ∧ ∀ (i : Nat) x, l[i]? = some x → ∃ b o, a = some ⟨b, o, none⟩ ∧ N b ∧ b < w.heap.size ∧ w.cell? ⟨b, o + i, none⟩ = some (.int .i64 x)
theorem RowN.keep {w w1 : World} {N F : Nat → Prop} {v : Value} {l : List Int} (h : RowN w N v l) (hk : Keep F w w1) (hF : ∀ b, N b → ¬ F b) : RowN w1 N v l := by
  obtain ⟨a, c, e, hc, h⟩ := h
  refine ⟨a, c, e, hc, fun i x hx => ?_⟩
  obtain ⟨b, o, e, hN, hl, hc⟩ := h i x hx
  exact ⟨b, o, e, hN, Nat.lt_of_lt_of_le hl hk.size, qcell_keep hc hk (hF b hN)⟩
theorem RowN.mono {w : World} {N N' : Nat → Prop} {v : Value} {l : List Int} (h : RowN w N v l) (hN : ∀ b, N b → N' b) : RowN w N' v l := by
  obtain ⟨a, c, e, hc, h⟩ := h
  refine ⟨a, c, e, hc, fun i x hx => ?_⟩
  obtain ⟨b, o, e, h1, hl, hc⟩ := h i x hx
  exact ⟨b, o, e, hN b h1, hl, hc⟩
/-- queues at block Q, their rows in block B, of the blocks of which O is said -/
structure RQ (w : World) (Q B : Nat) (O : Nat → Prop) (L : List (List Int)) : Prop where
  own : ∃ c, Blk w Q 33 #[.slice (some ⟨B, 0, none⟩) L.length c]
  rows : ∃ vs : List Value, Blk w B 37 vs.toArray ∧ vs.length = L.length ∧ ∀ (i : Nat) l, L[i]? = some l → ∃ v, vs[i]? = some v ∧ RowN w (fun b => O b ∧ b ≠ B ∧ b ≠ Q) v l
  few : L.length ≤ 4 ∧ ∀ l ∈ L, l.length ≤ 1000
  mine : O Q ∧ O B
  lt : ∀ b, O b → b < w.heap.size
theorem RQ.keep {w w1 : World} {Q B : Nat} {O F : Nat → Prop} {L : List (List Int)} (h : RQ w Q B O L) (hk : Keep F w w1) (hF : ∀ b, O b → ¬ F b) : RQ w1 Q B O L := by
  obtain ⟨c, h1⟩ := h.own
  obtain ⟨vs, h2, h3, h4⟩ := h.rows
  refine ⟨⟨c, h1.keep hk (hF _ h.mine.1)⟩, ⟨vs, h2.keep hk (hF _ h.mine.2), h3, fun i l hl => ?_⟩, h.few, h.mine, fun b hb => Nat.lt_of_lt_of_le (h.lt b hb) hk.size⟩
  obtain ⟨v, hv, hr⟩ := h4 i l hl
  exact ⟨v, hv, hr.keep hk (fun b hb => hF b hb.1)⟩
/-- what is read of a queue -/
theorem RQ.at {w : World} {Q B : Nat} {O : Nat → Prop} {L : List (List Int)} (h : RQ w Q B O L) {i : Nat} {l : List Int} (hi : L[i]? = some l) : ∃ a c, w.cell? ⟨B, i, none⟩ = some (.slice a l.length c) ∧ l.length ≤ c ∧ ∀ (k : Nat) x, l[k]? = some x → ∃ b o, a = some ⟨b, o, none⟩ ∧ (O b ∧ b ≠ B ∧ b ≠ Q) ∧ w.cell? ⟨b, o + k, none⟩ = some (.int .i64 x) := by
  obtain ⟨vs, h2, h3, h4⟩ := h.rows
  obtain ⟨v, hv, a, c, rfl, hc, hr⟩ := h4 i l hi
  refine ⟨a, c, h2.cell i _ (by simpa using hv), hc, fun k x hx => ?_⟩
  obtain ⟨b, o, e, hN, _, hc⟩ := hr k x hx
  exact ⟨b, o, e, hN, hc⟩
theorem idx_qintss (len c B o i : Nat) (h : i < len) : ∀ W, (Instr.indexAt 31 (.slice (some ⟨B, o, none⟩) len c) (.int .i64 (i : Int))).run Tryz.prog W = .ok (.pointer (some ⟨B, o + i, none⟩)) W := by
  intro W
  go_simp
theorem idx_qints (len c B o i : Nat) (h : i < len) : ∀ W, (Instr.indexAt 37 (.slice (some ⟨B, o, none⟩) len c) (.int .i64 (i : Int))).run Tryz.prog W = .ok (.pointer (some ⟨B, o + i, none⟩)) W := by
  intro W
  go_simp
theorem not_in_next {l : List Int} {k : Nat} {x t : Int} (hx : l[k]? = some x) (h : ∀ y ∈ l.take k, y ≠ t) (hn : x ≠ t) : ∀ y ∈ l.take (k + 1), y ≠ t := by
  intro y hy
  rw [List.take_add_one, hx] at hy
  rcases List.mem_append.1 hy with hy | hy
  · exact h y hy
  · simp at hy; subst hy; exact hn
set_option maxHeartbeats 2000000 in
theorem rqin_any (Q B : Nat) (O : Nat → Prop) (L : List (List Int)) (t : Int) (w : World) (h : RQ w Q B O L) :
    Calls Tryz.prog 19 #[qV Q, .int .i64 t] w fun e w' => ∃ k : Int, e = .returned (.int .i64 k) ∧ (0 ≤ k ↔ ∃ l ∈ L, t ∈ l) ∧ w = w' := by
  obtain ⟨c, h1⟩ := h.own
  have c0 : w.cell? ⟨Q, 0, none⟩ = some (.slice (some ⟨B, 0, none⟩) L.length c) := h1.cell 0 _ rfl
  have H := Lib.hid h
  have hfew := h.few.1
  obtain ⟨ll, hll⟩ : ∃ ll, ll = L.length := ⟨_, rfl⟩
  have HLL := Lib.hid hll
  rw [← hll] at c0 hfew
  clear h h1 hll
  go_enter Tryz.func19, Tryz.ntmps19
  go_upto_region 2 with fail
  go_loopw [5] (fun vi wr => ∃ i : Nat, i ≤ ll ∧ vi = .int .i64 i ∧ Hid (∀ l ∈ L.take i, t ∉ l) ∧ wr = w) (fun vi _ => 5 - (intOf vi).toNat)
  case atStart => exact ⟨0, by omega, rfl, Lib.hid (by simp), rfl⟩
  case round =>
    obtain ⟨i, hi, rfl, hno, rfl⟩ := hrel
    by_cases hil : i < ll
    · obtain ⟨l, hl⟩ : ∃ l, L[i]? = some l := ⟨_, List.getElem?_eq_getElem (by rw [← HLL.out]; exact hil)⟩
      obtain ⟨a, cl, d0, hcl, hrow⟩ := H.out.at hl
      have HROW := Lib.hid hrow
      have hx1 := idx_qintss ll c B 0 i hil
      simp only [Nat.zero_add] at hx1
      have hj1 : (i : Int) < (ll : Int) := by omega
      have hl1 := H.out.few.2 l (List.mem_of_getElem? hl)
      have HL := Lib.hid hl
      obtain ⟨kl, hkl⟩ : ∃ kl, kl = l.length := ⟨_, rfl⟩
      have HKL := Lib.hid hkl
      rw [← hkl] at d0 hl1 hcl
      clear hrow hl hkl
      go_upto_region 5 with fail
      go_loopw [6] (fun vk wr2 => ∃ k : Nat, k ≤ kl ∧ vk = .int .i64 k ∧ Hid (∀ y ∈ l.take k, y ≠ t) ∧ wr2 = wr) (fun vk _ => 1001 - (intOf vk).toNat)
      case atStart => exact ⟨0, by omega, rfl, Lib.hid (by simp), rfl⟩
      case round =>
        obtain ⟨k, hk, rfl, hnk, rfl⟩ := hrel
        by_cases hkl1 : k < kl
        · obtain ⟨x, hx⟩ : ∃ x, l[k]? = some x := ⟨_, List.getElem?_eq_getElem (by rw [← HKL.out]; exact hkl1)⟩
          obtain ⟨b, o, rfl, _, e0⟩ := HROW.out k x hx
          have hx2 := idx_qints kl cl b o k hkl1
          have hj2 : (k : Int) < (kl : Int) := by omega
          have HX := Lib.hid hx
          clear hx
          by_cases hxt : x = t
          · subst hxt
            go_wp2
            go_ret
            exact ⟨_, rfl, ⟨fun _ => ⟨l, List.mem_of_getElem? HL.out, List.mem_of_getElem? HX.out⟩, fun _ => by omega⟩, rfl⟩
          · go_wp2
            go_roundw
            case rel => exact ⟨k + 1, by omega, by go_num, Lib.hid (not_in_next HX.out hnk.out hxt), by trivial⟩
            case measure => simp [intOf]; omega
        · obtain rfl : k = kl := by omega
          have hj2 : ¬ (k : Int) < (k : Int) := by omega
          go_wp2
          go_roundw
          case rel =>
            refine ⟨i + 1, by omega, by go_num, Lib.hid ?_, by trivial⟩
            intro z hz ht
            rw [List.take_add_one, HL.out] at hz
            rcases List.mem_append.1 hz with hz | hz
            · exact hno.out z hz ht
            · simp at hz
              subst hz
              have := hnk.out
              rw [HKL.out, List.take_length] at this
              exact this t ht rfl
          case measure => simp [intOf]; omega
    · obtain rfl : i = ll := by omega
      have hj1 : ¬ (i : Int) < (i : Int) := by omega
      go_wp2
      go_ret
      refine ⟨-1, rfl, ⟨fun h => by omega, fun ⟨l, hl, ht⟩ => ?_⟩, rfl⟩
      have := hno.out
      rw [HLL.out, List.take_length] at this
      exact absurd ht (this l hl)
end Go.Proofs.YtldofbkjjmnooaaGreat
/- Layer 10's laws: ends: a task's steps, alone; ints: rows that read alike. -/
namespace Go.Proofs.YtldofbkjjmnooaaGreat
open Go.ChangeShapes Go.WideShapes Go.ChangeAt Go.RowKit
set_option linter.unusedVariables false
set_option maxRecDepth 100000
set_option linter.unusedSimpArgs false
/-- how a task goes to its end, alone: so many operations, what the cells hold then, its value -/
inductive Goes : List Int → Tre Itm → Nat → List Int → Int → Prop
  | ret (m : List Int) (v : Int) : Goes m (retT v) 0 m v
  | op {m m' : List Int} {x : Itm} {κ : Int → Tre Itm} {k : Nat} {v : Int} (h1 : x.kind < 5) (h2 : countS m x = 1) (h3 : Goes (operS m x).1 (κ (operS m x).2.1) k m' v) : Goes m (opT x κ) (k + 1) m' v
theorem Goes.cases' {m m' : List Int} {T : Tre Itm} {k : Nat} {v : Int} (h : Goes m T k m' v) :
    (k = 0 ∧ T = retT v ∧ m' = m) ∨ ∃ x κ j, k = j + 1 ∧ T = opT x κ ∧ x.kind < 5 ∧ countS m x = 1 ∧ Goes (operS m x).1 (κ (operS m x).2.1) j m' v := by
  cases h with
  | ret m v => exact .inl ⟨rfl, rfl, rfl⟩
  | op h1 h2 h3 => exact .inr ⟨_, _, _, rfl, rfl, h1, h2, h3⟩
set_option maxHeartbeats 1000000 in
theorem qends_any (C P S t : Nat) (Q : Nat → Prop) (T : Tre Itm) (L most : Nat) (m m' : List Int) (v n : Int) (w : World) (hG : Goes m T L m' v) (hL : L ≤ most) (hm : most ≤ 1000)
    (h : TkT (cellOps C P) w t Q T) (hC : CellsAt w C S m n) (hQ : ∀ b, Q b → b ≠ C ∧ b ≠ S) (hn : 0 ≤ n ∧ n ≤ 1000000) {mI : Int} (hI : mI = most) :
    Calls Tryz.prog 26 #[pV t, .int .i64 mI] w fun e w' => e = .returned (.int .i64 L) ∧ (∃ Q', TkT (cellOps C P) w' t Q' (retT v) ∧ ∀ b, Q' b → Q b ∨ w.heap.size ≤ b) ∧ CellsAt w' C S m' (n + L) ∧ Keep (fun b => Q b ∨ ofCells C S b) w w' := by
  subst hI
  have H := Lib.hid h
  have HG := Lib.hid hG
  have HC := Lib.hid hC
  have HQ := Lib.hid hQ
  have HL := Lib.hid hL
  have hCl := hC.own.lt
  have hSl := hC.row.lt
  clear h hG hC hQ hL
  go_enter Tryz.func26, Tryz.ntmps26
  go_wp2_with fail
  go_loopw [5] (fun v5 wr => ∃ (I : Nat) (m1 : List Int) (T1 : Tre Itm) (Q1 : Nat → Prop) (j : Nat), I + j = L ∧ v5 = .int .i64 (I : Int) ∧ Goes m1 T1 j m' v ∧ TkT (cellOps C P) wr t Q1 T1 ∧ (∀ b, Q1 b → Q b ∨ w.heap.size ≤ b) ∧ CellsAt wr C S m1 (n + I) ∧ Keep (fun b => Q b ∨ ofCells C S b) w wr)
    (fun v5 _ => L - (intOf v5).toNat)
  case atStart => exact ⟨0, m, T, Q, L, by omega, rfl, HG.out, H.out, fun _ h => .inl h, by simpa using HC.out, Keep.refl _ _⟩
  case round =>
    obtain ⟨I, m1, T1, Q1, j, hIj, rfl, hG, hT, hq, hC, hk⟩ := hrel
    have hLm := HL.out
    have hsz := hk.size
    have hQ1 : ∀ b, Q1 b → b ≠ C ∧ b ≠ S := fun b hb => by
      rcases hq b hb with h | h
      · exact HQ.out b h
      · omega
    rcases hG.cases' with ⟨rfl, rfl, rfl⟩ | ⟨x, κ, j, rfl, rfl, e1, e2, e3⟩
    · obtain rfl : I = L := by omega
      have hD := Lib.hid (tdoneT_ret t Q1 v wr hT)
      have HX := Lib.hid (And.intro (⟨Q1, hT, hq⟩ : ∃ Q', TkT (cellOps C P) wr t Q' (retT v) ∧ ∀ b, Q' b → Q b ∨ w.heap.size ≤ b) (And.intro hC hk))
      clear hG hT hq hC hk hQ1 H HG HC HQ HL
      go_wp2_with (go_at_call 38; (with_reducible refine hD.out.mono ?_); rintro e w2 ⟨rfl, rfl⟩)
      go_ret
      exact ⟨rfl, HX.out⟩
    · have hD := Lib.hid (tdoneT_op t Q1 x κ wr hT)
      have hS := Lib.hid (tstepT_op C P S t Q1 x κ m1 (n + I) wr hT hC e1 hQ1 ⟨by omega, by omega⟩)
      have hQt := hT.own
      have HX := Lib.hid (And.intro e2 (And.intro e3 (And.intro hq (And.intro hk (And.intro (hq t hQt) (And.intro hsz (HC.out.own.lt)))))))
      have ht : t < w.heap.size ∧ Q t := ⟨H.out.lt t H.out.own, H.out.own⟩
      have h4 : ¬ ((most : Int) ≤ (I : Int)) := by omega
      have h5 : (I : Int) < (most : Int) := by omega
      clear hG hT hq hC hk hQ1 e1 e2 e3
      go_wp2_with (first
        | (go_at_call 38; (with_reducible refine hD.out.mono ?_); rintro e w2 ⟨rfl, rfl⟩)
        | (go_at_call 37; (with_reducible refine hS.out.mono ?_); rintro e w3 ⟨rfl, ⟨Q3, g1, g2⟩, g3, g4⟩))
      obtain ⟨e2, e3, hq, hk, _, _, _⟩ := HX.out
      rw [e2] at g3
      go_roundw
      case rel =>
        refine ⟨I + 1, _, _, Q3, j, by omega, by go_num, e3, g1, fun b hb => ?_, by rw [Int.natCast_add, ← Int.add_assoc]; exact g3, hk.trans (g4.mono fun b _ hb => ?_)⟩
        · rcases g2 b hb with h | h
          · exact hq b h
          · exact .inr (by omega)
        · rcases hb with rfl | hb
          · exact .inl ht.2
          · exact .inr hb
      case measure => simp [intOf]; omega
set_option maxHeartbeats 4000000 in
theorem qints_same (u v : Value) (N N' : Nat → Prop) (l : List Int) (w : World) (hu : RowN w N u l) (hv : RowN w N' v l) (hl : l.length ≤ 100000) :
    Calls Tryz.prog 28 #[u, v] w fun e w' => e = .returned (.bool true) ∧ Below w.heap.size w w' := by
  obtain ⟨a, c, rfl, _, hp⟩ := id hu
  obtain ⟨a', c', rfl, _, hp'⟩ := id hv
  have HP := Lib.hid hp
  have HP' := Lib.hid hp'
  clear hu hv hp hp'
  go_enter Tryz.func28, Tryz.ntmps28
  go_upto_region 4 with fail
  go_loopw [5] (fun vi wr => ∃ I : Nat, I ≤ l.length ∧ vi = .int .i64 (I : Int) ∧ Below w.heap.size w wr)
    (fun vi _ => l.length - (intOf vi).toNat)
  case atStart => exact ⟨0, by omega, rfl, Below.refl _ _⟩
  case round =>
    obtain ⟨I, hI, rfl, hb⟩ := hrel
    by_cases hlt : I < l.length
    · obtain ⟨p, hpi⟩ : ∃ p, l[I]? = some p := ⟨_, List.getElem?_eq_getElem hlt⟩
      obtain ⟨B, o, rfl, _, hB1, c0⟩ := HP.out I p hpi
      obtain ⟨B', o', rfl, _, hB1', d0⟩ := HP'.out I p hpi
      replace c0 := (hb.cell (p := ⟨B, o + I, none⟩) hB1).trans c0
      replace d0 := (hb.cell (p := ⟨B', o' + I, none⟩) hB1').trans d0
      have hix := idx_qints l.length c B o I hlt
      have hix' := idx_qints l.length c' B' o' I hlt
      have hI3 : (I : Int) < (l.length : Int) := by omega
      clear hpi
      go_upto_region 6 with fail
      go_quiet (fail)
      go_wp2
      go_roundw
      case rel => exact ⟨I + 1, by omega, by go_num, bdrewN hb nq⟩
      case measure => simp [intOf]; omega
    · have hIe : I = l.length := by omega
      subst hIe
      go_wp2
      go_ret
      exact ⟨rfl, hb⟩
end Go.Proofs.YtldofbkjjmnooaaGreat
/- Package pool: Lay. -/
namespace Go.Proofs.YtldofbkjjmnooaaGreat
open Go.ChangeShapes Go.WideShapes Go.ChangeAt Go.RowKit
set_option linter.unusedVariables false
set_option maxRecDepth 100000
set_option linter.unusedSimpArgs false
def bhN (n j : Nat) : Int := if j = 0 then 0 else (n : Int) - j + 1
def layGo (m : Mp) (mm : List Int) : Nat → List Int
  | 0 => mm
  | j + 1 => (layGo m mm j).set (linkN m ((m.n : Int) - 1 - j)) (bhN m.n j)
def layL (m : Mp) (mm : List Int) : List Int := (layGo m mm m.n).set 1 (bhN m.n m.n)
theorem layGo_len (m : Mp) (mm : List Int) : ∀ j, (layGo m mm j).length = mm.length
  | 0 => rfl
  | j + 1 => by simp [layGo, layGo_len m mm j]
theorem layL_len (m : Mp) (mm : List Int) : (layL m mm).length = mm.length := by simp [layL, layGo_len]
theorem layGo_other (m : Mp) (mm : List Int) (i : Nat) (h : ∀ k : Int, 0 ≤ k → k < m.n → i ≠ linkN m k) : ∀ j, j ≤ m.n → (layGo m mm j)[i]? = mm[i]?
  | 0, _ => rfl
  | j + 1, hj => by
    rw [layGo, List.getElem?_set_ne (Ne.symm (h _ (by omega) (by omega)))]
    exact layGo_other m mm i h j (by omega)
theorem layGo_link (m : Mp) (mm : List Int) (hs : sizeN m ≤ mm.length) (k : Nat) (hk : k < m.n) : ∀ j, j ≤ m.n → m.n - j ≤ k → (layGo m mm j)[linkN m (k : Int)]? = some (bhN m.n (m.n - 1 - k))
  | 0, _, h => by omega
  | j + 1, hj, h => by
    rw [layGo]
    by_cases e : k = m.n - 1 - j
    · have e2 : (m.n : Int) - 1 - (j : Int) = (k : Int) := by omega
      rw [e2, List.getElem?_set_self (by rw [layGo_len]; have := linkN_lt (m := m) (k := (k : Int)) ⟨by omega, by omega⟩; omega)]
      rw [show m.n - 1 - k = j by omega]
    · rw [List.getElem?_set_ne (fun h2 => e (by have := linkN_inj (m := m) (by omega) (by omega) h2; omega))]
      exact layGo_link m mm hs k hk j (by omega) (by omega)
abbrev mapCs (m : Mp) : Array Value := #[.int .i64 (m.t : Int), .int .i64 (m.o : Int), .int .i64 (m.n : Int)]
theorem map3 {w : World} {b : Nat} {m : Mp} (h : Blk w b 24 (mapCs m)) : w.cell? ⟨b, 0, none⟩ = some (.int .i64 (m.t : Int)) ∧ w.cell? ⟨b, 1, none⟩ = some (.int .i64 (m.o : Int)) ∧ w.cell? ⟨b, 2, none⟩ = some (.int .i64 (m.n : Int)) := ⟨h.cell 0 _ rfl, h.cell 1 _ rfl, h.cell 2 _ rfl⟩
theorem bhN_eq (n j : Nat) (h : 0 < j) : bhN n j = (n : Int) - j + 1 := by unfold bhN; rw [if_neg (by omega)]
set_option maxHeartbeats 4000000 in
theorem lay_any (C S : Nat) (m : Mp) (mm : List Int) (k0 : Int) (w : World) (hm : m.ok) (hC : CellsAt w C S mm k0) (hs : sizeN m ≤ mm.length) (h0 : 0 ≤ k0 ∧ k0 ≤ 1000000) :
    Calls Tryz.prog 32 #[cellsV C, mapV m] w fun e w' => e = .returned (.bool true) ∧ CellsAt w' C S (layL m mm) (k0 + m.n + 1) ∧ Keep (ofCells C S) w w' := by
  have HR := Lib.hid fun V => pright_yes m (mm.length : Int) V hm
  rw [show decide ((sizeN m : Int) ≤ (mm.length : Int)) = true by simp; omega] at HR
  have hmn := hm.n
  have HL := Lib.hid fun V (hV : Below w.heap.size w V) => len_any C S mm k0 V (hC.keep (Keep.ofBelow (Q := fun _ => False) hV) (fun h => h) (fun h => h))
  have HC := Lib.hid hC
  have HM := Lib.hid hm
  have HS := Lib.hid hs
  have hCl := hC.own.lt
  have hSl := hC.row.lt
  clear hC hm hs
  go_enter Tryz.func32, Tryz.ntmps32
  go_upto_region 1 with fail
  generalize hW : (w.alloc _) = W
  have bW : Below w.heap.size w W := by rw [← hW]; go_grown
  have m0 : Blk W w.heap.size 24 (mapCs m) := by rw [← hW]; exact Blk.new w _ _
  clear hW
  have hml := m0.lt
  have SK := Lib.hid (show ∀ V, Below W.heap.size W V → V.cell? ⟨w.heap.size, 0, none⟩ = some (.int .i64 (m.t : Int)) ∧ V.cell? ⟨w.heap.size, 1, none⟩ = some (.int .i64 (m.o : Int)) ∧ V.cell? ⟨w.heap.size, 2, none⟩ = some (.int .i64 (m.n : Int)) from fun V hk => map3 (m0.below hk hml))
  have bd := bdrewP W
  have HL1 := Lib.hid (HL.out W.drew (bW.trans (bd.mono bW.size)))
  go_region_held3 (fun V => V.cell? ⟨w.heap.size, 0, none⟩ = some (.int .i64 (m.t : Int)) ∧ V.cell? ⟨w.heap.size, 1, none⟩ = some (.int .i64 (m.o : Int)) ∧ V.cell? ⟨w.heap.size, 2, none⟩ = some (.int .i64 (m.n : Int))) (first | exact SK.out _ b3 | exact SK.out _ b2 | exact SK.out _ bd) (first
    | (go_at_call 101; refine HL1.out.mono ?_; rintro e w2 ⟨rfl, hb2⟩; have b2 : Below W.heap.size W w2 := bd.trans hb2)
    | (go_at_call 113; refine (HR.out _).mono ?_; rintro e w3 ⟨rfl, hb3⟩; have b3 : Below W.heap.size W w3 := b2.trans (hb3.mono b2.size)))
  have m3 := m0.below b3 hml
  have kW : Keep (ofCells C S) w w3 := (Keep.ofBelow bW).trans (Keep.ofBelow b3)
  have C3 := HC.out.keep (Keep.ofBelow (Q := fun _ => False) (bW.trans (b3.mono bW.size))) (fun h => h) (fun h => h)
  obtain ⟨c0, c1, c2⟩ := map3 m3
  clear m0 SK HL HL1 bd b2 b3 hb2 hb3 bW
  go_wp2_with (go_at_call 114; refine (pmark_any (-1) _ (by omega)).mono ?_; rintro e w4 ⟨rfl, rfl⟩)
  have HM3 := Lib.hid m3
  have HC3 := Lib.hid C3
  have HKW := Lib.hid kW
  clear m3 C3 kW c0 c1 c2
  go_loopw [5, 6] (fun v5 v6 wr => ∃ (j : Nat) (b z : Int), j ≤ m.n ∧ b = bhN m.n j ∧ z = (m.n : Int) - 1 - j ∧ v5 = .int .u64 b ∧ v6 = .int .i64 z ∧ CellsAt wr C S (layGo m mm j) (k0 + j) ∧ Blk wr w.heap.size 24 (mapCs m) ∧ Keep (ofCells C S) w wr)
    (fun _ v6 _ => (intOf v6 + 1).toNat)
  case atStart => exact ⟨0, 0, (m.n : Int) - 1, by omega, rfl, by omega, rfl, rfl, by simpa [layGo] using HC3.out, HM3.out, HKW.out⟩
  case round =>
    obtain ⟨j, b, z, hj, hb, hz, rfl, rfl, hC, hB, hk⟩ := hrel
    obtain ⟨c0, c1, c2⟩ := map3 hB
    have HCr := Lib.hid hC
    have HBr := Lib.hid hB
    have HKr := Lib.hid hk
    by_cases hlt : j < m.n
    · have hzr : 0 ≤ z ∧ z ≤ 5000 := by omega
      have hzn : z < m.n := by omega
      have HX := Lib.hid fun V => link_any m z V HM.out hzr
      have hin : linkN m z < (layGo m mm j).length := by rw [layGo_len]; have := linkN_lt (m := m) ⟨hzr.1, hzn⟩; have := HS.out; omega
      have hbl : w.heap.size < wr.heap.size := hB.lt
      have HST := Lib.hid fun V (hV : Below wr.heap.size wr V) => store_yes C S (layGo m mm j) (k0 + j) (linkN m z) _ b V (HCr.out.keep (Keep.ofBelow (Q := fun _ => False) hV) (fun h => h) (fun h => h)) (List.getElem?_eq_getElem hin) (by omega) (by omega)
      have HK := Lib.hid fun V => pmark_any z V (by omega)
      have Hb := Lib.hid hb
      have Hz := Lib.hid hz
      have HJ := Lib.hid hlt
      clear hC hB hk hb hz hzn hin hlt hj
      go_wp2_with (first
        | (go_at_call 47; refine (HX.out _).mono ?_; rintro e w5 ⟨rfl, b5⟩; have HST2 := Lib.hid (HST.out w5 b5))
        | (go_at_call 59; refine HST2.out.mono ?_; rintro e w6 ⟨rfl, h6, k6⟩)
        | (go_at_call 114; refine (HK.out _).mono ?_; rintro e w7 ⟨rfl, rfl⟩))
      go_roundw
      case rel =>
        have hz := Hz.out
        have hb := Hb.out
        have hlt := HJ.out
        have k56 : Keep (ofCells C S) wr w6 := (Keep.ofBelow b5).trans k6
        refine ⟨j + 1, z + 1, z - 1, hlt, ?_, by omega, rfl, rfl, ?_, HBr.out.keep k56 (fun h => by rcases h with h | h <;> omega), HKr.out.trans k56⟩
        · rw [bhN_eq _ _ (by omega)]
          omega
        · rw [layGo, ← hz, ← hb, Int.natCast_add, ← Int.add_assoc]
          exact h6
      case measure => simp [intOf]; omega
    · obtain rfl : j = m.n := by omega
      have hzr : ¬ (0 ≤ z) := by omega
      have hin : 1 < (layGo m mm m.n).length := by rw [layGo_len]; have := HS.out; unfold sizeN at this; omega
      have HST := Lib.hid fun V (hV : Below wr.heap.size wr V) => (show Calls Tryz.prog 59 #[cellsV C, .int .i64 1, .int .u64 b] V fun e w' => e = .returned (.bool true) ∧ CellsAt w' C S ((layGo m mm m.n).set 1 b) (k0 + m.n + 1) ∧ Keep (ofCells C S) V w' from store_yes C S (layGo m mm m.n) (k0 + m.n) 1 _ b V (HCr.out.keep (Keep.ofBelow (Q := fun _ => False) hV) (fun h => h) (fun h => h)) (List.getElem?_eq_getElem hin) (by omega) (by omega))
      have Hb := Lib.hid hb
      clear hC hB hk hb hz hin hlt hj
      go_wp2_with (first
        | (go_at_call 36; refine (head_any m _).mono ?_; rintro e w5 ⟨rfl, b5⟩; have HST2 := Lib.hid (HST.out w5 b5))
        | (go_at_call 59; refine HST2.out.mono ?_; rintro e w6 ⟨rfl, h6, k6⟩))
      go_ret
      refine ⟨rfl, ?_, HKr.out.trans ((Keep.ofBelow b5).trans k6)⟩
      rw [Hb.out] at h6
      exact h6
end Go.Proofs.YtldofbkjjmnooaaGreat
/- Package pool: the pool as a list, in the values of cells. No program is walked here. -/
namespace Go.Proofs.YtldofbkjjmnooaaGreat
set_option linter.unusedVariables false
set_option linter.unusedSimpArgs false
/-- the numbers below n, in rising order -/
def upL (n : Nat) : List Int := (List.range n).map fun k : Nat => (k : Int)
theorem upL_len (n : Nat) : (upL n).length = n := by simp [upL]
theorem upL_at {n k : Nat} (h : k < n) : (upL n)[k]? = some (k : Int) := by simp [upL, h]
theorem upL_mem {n : Nat} {x : Int} : x ∈ upL n ↔ 0 ≤ x ∧ x < n := by
  unfold upL
  rw [List.mem_map]
  constructor
  · rintro ⟨k, hk, rfl⟩
    have := List.mem_range.1 hk
    omega
  · intro h
    exact ⟨x.toNat, List.mem_range.2 (by omega), by omega⟩
theorem upL_nodup (n : Nat) : (upL n).Nodup := by
  unfold upL
  rw [List.nodup_iff_pairwise_ne, List.pairwise_map]
  have := List.nodup_range (n := n)
  rw [List.nodup_iff_pairwise_ne] at this
  exact this.imp fun h e => h (by omega)
theorem upL_drop {n k : Nat} : headOf ((upL n).drop k) = if k < n then (k : Int) + 1 else 0 := by
  by_cases h : k < n
  · have hl : k < (upL n).length := by rw [upL_len]; exact h
    rw [List.drop_eq_getElem_cons hl, if_pos h]
    have := upL_at h
    rw [List.getElem?_eq_getElem hl] at this
    simp [headOf, Option.some.inj this]
  · rw [List.drop_eq_nil_of_le (by rw [upL_len]; omega), if_neg h]
    rfl
/-- the pool, in the cells -/
structure PIs (m : Mp) (mm : List Int) (L : List Int) : Prop where
  len : sizeN m ≤ mm.length
  head : mm[1]? = some (headOf L)
  next : ∀ (k : Nat) x, L[k]? = some x → mm[linkN m x]? = some (headOf (L.drop (k + 1)))
  nodup : L.Nodup
  low : ∀ x ∈ L, 0 ≤ x ∧ x < (m.n : Int)
theorem PIs.congr {m : Mp} {mm mm' L : List Int} (h : PIs m mm L) (hl : mm'.length = mm.length) (h1 : mm'[1]? = mm[1]?) (h2 : ∀ x ∈ L, mm'[linkN m x]? = mm[linkN m x]?) : PIs m mm' L :=
  ⟨by rw [hl]; exact h.len, h1.trans h.head, fun k x hx => (h2 x (List.mem_of_getElem? hx)).trans (h.next k x hx), h.nodup, h.low⟩
/-- a cell that is none of the pool's -/
theorem PIs.set {m : Mp} {mm L : List Int} (h : PIs m mm L) (i : Nat) (v : Int) (h1 : i ≠ 1) (h2 : ∀ x ∈ L, i ≠ linkN m x) : PIs m (mm.set i v) L :=
  h.congr (by simp) (by rw [List.getElem?_set_ne h1]) (fun x hx => by rw [List.getElem?_set_ne (h2 x hx)])
theorem PIs.pop {m : Mp} {mm r : List Int} {x : Int} (h : PIs m mm (x :: r)) : PIs m (mm.set 1 (headOf r)) r := by
  have hl := h.len
  have hs : 1 < mm.length := by unfold sizeN at hl; omega
  refine ⟨by simpa using hl, by rw [List.getElem?_set_self hs], fun k y hy => ?_, (List.nodup_cons.1 h.nodup).2, fun y hy => h.low y (List.mem_cons_of_mem _ hy)⟩
  have h9 := linkN_two (m := m) (k := y)
  rw [List.getElem?_set_ne (by omega)]
  exact h.next (k + 1) y (by simpa using hy)
theorem PIs.push {m : Mp} {mm L : List Int} {x : Int} (h : PIs m mm L) (hx : 0 ≤ x ∧ x < (m.n : Int)) (hn : x ∉ L) (hk : mm[linkN m x]? = some (headOf L)) : PIs m (mm.set 1 (x + 1)) (x :: L) := by
  have hl := h.len
  have hs : 1 < mm.length := by unfold sizeN at hl; omega
  refine ⟨by simpa using hl, by rw [List.getElem?_set_self hs]; rfl, fun k y hy => ?_, List.nodup_cons.2 ⟨hn, h.nodup⟩, fun y hy => ?_⟩
  · have h9 := linkN_two (m := m) (k := y)
    rw [List.getElem?_set_ne (by omega)]
    cases k with
    | zero =>
      simp at hy
      subst hy
      simpa using hk
    | succ k => simpa using h.next k y (by simpa using hy)
  · rcases List.mem_cons.1 hy with rfl | hy
    · exact hx
    · exact h.low y hy
theorem PIs.headr {m : Mp} {mm L : List Int} (h : PIs m mm L) : 0 ≤ headOf L ∧ headOf L ≤ m.n := by
  cases L with
  | nil => simp [headOf]
  | cons x r => have := h.low x (by simp); simp [headOf]; omega
theorem PIs.tailr {m : Mp} {mm r : List Int} {x : Int} (h : PIs m mm (x :: r)) : 0 ≤ headOf r ∧ headOf r ≤ m.n := by
  cases r with
  | nil => simp [headOf]
  | cons y r => have := h.low y (by simp); simp [headOf]; omega
/- what Lay does -/
theorem bhN_up (n k : Nat) (h : k < n) : bhN n (n - 1 - k) = headOf ((upL n).drop (k + 1)) := by
  rw [upL_drop]
  unfold bhN
  by_cases e : k + 1 < n
  · rw [if_pos e, if_neg (by omega)]
    omega
  · rw [if_neg e, if_pos (by omega)]
theorem layL_pis (m : Mp) (mm : List Int) (hs : sizeN m ≤ mm.length) : PIs m (layL m mm) (upL m.n) := by
  refine ⟨by rw [layL_len]; exact hs, ?_, fun k x hx => ?_, upL_nodup _, fun x hx => ?_⟩
  · unfold layL
    rw [List.getElem?_set_self (by rw [layGo_len]; unfold sizeN at hs; omega)]
    have := upL_drop (n := m.n) (k := 0)
    rw [List.drop_zero] at this
    rw [this]
    unfold bhN
    by_cases h : m.n = 0
    · simp [h]
    · rw [if_neg h, if_pos (by omega)]
      simp
  · have hk : k < m.n := by
      have := (List.getElem?_eq_some_iff.1 hx).1
      rwa [upL_len] at this
    rw [upL_at hk] at hx
    obtain rfl := Option.some.inj hx
    unfold layL
    rw [List.getElem?_set_ne (by have := linkN_two (m := m) (k := (k : Int)); omega), layGo_link m mm hs k hk m.n (Nat.le_refl _) (by omega), bhN_up _ _ hk]
  · exact upL_mem.1 hx
theorem layL_gen (m : Mp) (mm : List Int) (k : Int) (h : 0 ≤ k) : (layL m mm)[genN m k]? = mm[genN m k]? := by
  unfold layL
  rw [List.getElem?_set_ne (by have := genN_two (m := m) (k := k); omega)]
  exact layGo_other m mm _ (fun j h1 h2 e => linkN_gen h1 h e.symm) _ (Nat.le_refl _)
theorem layL_latch (m : Mp) (mm : List Int) : (layL m mm)[0]? = mm[0]? := by
  unfold layL
  rw [List.getElem?_set_ne (by omega)]
  exact layGo_other m mm _ (fun j h1 h2 e => by have := linkN_two (m := m) (k := j); omega) _ (Nat.le_refl _)
/- the trees, step by step -/
def tk3 (t x u : Int) : Tre Itm := opT (storeN 1 u) fun _ => outT 0 t x
def tk2 (m : Mp) (t x : Int) : Tre Itm := opT (loadI (linkN m x)) fun u => tk3 t x (IntKind.u64.wrap u)
def tk1 (m : Mp) (t : Int) : Tre Itm := opT (loadI 1) fun v => if pmS m (IntKind.u64.wrap v) = -1 then outT 0 t (-1) else tk2 m t (pmS m (IntKind.u64.wrap v))
def bk4 (t n : Int) : Tre Itm := opT (storeN 1 (n + 1)) fun _ => outT 0 t 1
def bk3 (m : Mp) (t n u : Int) : Tre Itm := opT (storeN (linkN m n) u) fun _ => bk4 t n
def bk2 (m : Mp) (t n : Int) : Tre Itm := opT (loadI 1) fun u => bk3 m t n (IntKind.u64.wrap u)
def bk1 (m : Mp) (t n : Int) : Tre Itm := opT (loadI (genN m n)) fun v => if 4095 ≤ IntKind.u64.wrap v then outT 0 t 0 else bk2 m t n
theorem seq2_ret (T : Tre Itm) (n : Int) : seqT [T, retT n] = bindT (fun _ => retT n) T := by
  show bindT (fun _ => bindT retT (retT n)) T = _
  congr 1
  funext u
  rw [bindT_ret]
theorem seq3_ret (T U : Tre Itm) (n : Int) : seqT [T, U, retT n] = bindT (fun _ => bindT (fun _ => retT n) U) T := by
  show bindT (fun _ => seqT [U, retT n]) T = _
  congr 1
  funext u
  exact seq2_ret U n
theorem mv_bind (a b : Nat) (k : Int → Tre Itm) : bindT k (mvT a b) = opT (loadI a) fun u => opT (storeN b (IntKind.u64.wrap u)) k := by
  unfold mvT
  rw [bindT_op]
  congr 1
  funext u
  unfold putT
  rw [bindT_op]
  congr 1
  funext q
  rw [bindT_ret]
theorem take_in (m : Mp) (t : Int) : bindT (fun v => outT 0 t v) (takeB m) = tk1 m t := by
  unfold takeB tk1
  rw [bindT_op]
  congr 1
  funext v
  unfold takeK
  split
  · rw [bindT_ret]
  · rw [seq2_ret, mv_bind, bindT_op]
    unfold tk2 tk3
    congr 1
    funext u
    rw [bindT_op]
    congr 1
    funext q
    rw [bindT_ret]
theorem back_in (m : Mp) (t n : Int) : bindT (fun v => outT 0 t v) (backB m n) = bk1 m t n := by
  unfold backB bk1
  rw [bindT_op]
  congr 1
  funext v
  unfold backK
  split
  · rw [bindT_ret]
  · rw [seq3_ret, mv_bind, bindT_op]
    unfold bk2 bk3 bk4
    congr 1
    funext u
    rw [bindT_op]
    congr 1
    funext q
    unfold putT
    rw [bindT_op, bindT_op]
    congr 1
    funext z
    rw [bindT_ret, bindT_ret]
theorem takeT_eq (m : Mp) (t : Int) : takeT m t = opT (takeI 0 t) (fun v => if v = 0 ∨ v = -2147483648 then takeT m t else tk1 m t) := by
  show guardT 0 t (takeB m) = opT (takeI 0 t) (fun v => if v = 0 ∨ v = -2147483648 then guardT 0 t (takeB m) else tk1 m t)
  conv => lhs; rw [guardT_eq, take_in]
theorem backT_eq (m : Mp) (t n : Int) : backT m t n = opT (takeI 0 t) (fun v => if v = 0 ∨ v = -2147483648 then backT m t n else bk1 m t n) := by
  show guardT 0 t (backB m n) = opT (takeI 0 t) (fun v => if v = 0 ∨ v = -2147483648 then guardT 0 t (backB m n) else bk1 m t n)
  conv => lhs; rw [guardT_eq, back_in]
/- what operations do -/
theorem oTake {mm : List Int} {t : Int} (h : mm[0]? = some 0) (ht : 0 ≤ t ∧ t ≤ 100000) : operS mm (takeI 0 t) = (mm.set 0 (t + 1), 1, true) ∧ countS mm (takeI 0 t) = 1 := ⟨by rw [oper_take h ht]; rfl, count_in h⟩
theorem oTakeNo {mm : List Int} {t c : Int} (h : mm[0]? = some c) (hc : c ≠ 0) (ht : 0 ≤ t ∧ t ≤ 100000) : operS mm (takeI 0 t) = (mm, 0, false) ∧ countS mm (takeI 0 t) = 1 := ⟨by rw [oper_take h ht, if_neg hc], count_in h⟩
theorem oDrop {mm : List Int} {t : Int} (h : mm[0]? = some (t + 1)) (ht : 0 ≤ t ∧ t ≤ 100000) : operS mm (dropI 0 t) = (mm.set 0 0, 1, true) ∧ countS mm (dropI 0 t) = 1 := ⟨by rw [oper_drop h ht]; simp, count_in h⟩
theorem oLoad {mm : List Int} {i : Nat} {c : Int} (h : mm[i]? = some c) (hc : 0 ≤ c ∧ c ≤ 1000000000000) : operS mm (loadI i) = (mm, c, true) ∧ countS mm (loadI i) = 1 := ⟨oper_load h hc, count_in h⟩
theorem oStore {mm : List Int} {i : Nat} {c v : Int} (h : mm[i]? = some c) : operS mm (storeN i v) = (mm.set i v, 1, true) ∧ countS mm (storeN i v) = 1 := ⟨by simp [operS, h], count_in h⟩
theorem wrap_small {v : Int} (h : 0 ≤ v ∧ v ≤ 1000000000000) : IntKind.u64.wrap v = v := by rw [IntKind.wrap_u64]; omega
end Go.Proofs.YtldofbkjjmnooaaGreat
