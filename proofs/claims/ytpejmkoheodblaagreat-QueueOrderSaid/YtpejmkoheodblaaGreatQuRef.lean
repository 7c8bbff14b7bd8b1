/- The document's queues (doorkeeperref10): what they are in memory; In. -/
import Derived.Test.YtpejmkoheodblaaGreatProg
import Derived.Test.YtpejmkoheodblaaGreatRowsOwn
import Derived.WalkKit
import Derived.StillTailTactics
import Derived.Deep.CutBlock
import Derived.Deep.RegionHeld3
import Derived.BigGuardPart
import Derived.WalkSpells
import Derived.OwnWalk
import Derived.Lib.Hide
namespace Go.Proofs.YtpejmkoheodblaaGreat
open Go.ChangeShapes Go.WideShapes Go.ChangeAt Go.RowKit
set_option linter.unusedVariables false
set_option maxRecDepth 100000
set_option linter.unusedSimpArgs false
abbrev qV (T : Nat) : Value := .pointer (some ⟨T, 0, none⟩)
theorem qcell_keep {w w1 : World} {F : Nat → Prop} {p : Addr} {v : Value} (h : w.cell? p = some v) (hk : Keep F w w1) (hn : ¬ F p.block) : w1.cell? p = some v := by
  have hb : p.block < w.heap.size := by
    unfold World.cell? at h
    cases hb : w.heap[p.block]? with
    | none => rw [hb] at h; cases h
    | some y => exact (Array.getElem?_eq_some_iff.1 hb).1
  unfold World.cell? at h ⊢
  rw [hk.block p.block hb hn]
  exact h
/-- a row of numbers that is read, of blocks of which N is said -/
def RowN (w : World) (N : Nat → Prop) (v : Value) (l : List Int) : Prop :=
  ∃ a c, v = .slice a l.length c ∧ l.length ≤ c ∧ ∀ (i : Nat) x, l[i]? = some x → ∃ b o, a = some ⟨b, o, none⟩ ∧ N b ∧ b < w.heap.size ∧ w.cell? ⟨b, o + i, none⟩ = some (.int .i64 x)
theorem RowN.keep {w w1 : World} {N F : Nat → Prop} {v : Value} {l : List Int} (h : RowN w N v l) (hk : Keep F w w1) (hF : ∀ b, N b → ¬ F b) : RowN w1 N v l := by
  obtain ⟨a, c, e, hc, h⟩ := h
  refine ⟨a, c, e, hc, fun i x hx => ?_⟩
  obtain ⟨b, o, e, hN, hl, hc⟩ := h i x hx
  exact ⟨b, o, e, hN, Nat.lt_of_lt_of_le hl hk.size, qcell_keep hc hk (hF b hN)⟩
theorem RowN.mono {w : World} {N N' : Nat → Prop} {v : Value} {l : List Int} (h : RowN w N v l) (hN : ∀ b, N b → N' b) : RowN w N' v l := by
  obtain ⟨a, c, e, hc, h⟩ := h
  refine ⟨a, c, e, hc, fun i x hx => ?_⟩
  obtain ⟨b, o, e, h1, hl, hc⟩ := h i x hx
  exact ⟨b, o, e, hN b h1, hl, hc⟩
/-- queues at block Q, their rows in block B, of the blocks of which O is said -/
structure RQ (w : World) (Q B : Nat) (O : Nat → Prop) (L : List (List Int)) : Prop where
  own : ∃ c, Blk w Q 33 #[.slice (some ⟨B, 0, none⟩) L.length c]
  rows : ∃ vs : List Value, Blk w B 37 vs.toArray ∧ vs.length = L.length ∧ ∀ (i : Nat) l, L[i]? = some l → ∃ v, vs[i]? = some v ∧ RowN w (fun b => O b ∧ b ≠ B ∧ b ≠ Q) v l
  few : L.length ≤ 4 ∧ ∀ l ∈ L, l.length ≤ 1000
  mine : O Q ∧ O B
  lt : ∀ b, O b → b < w.heap.size
theorem RQ.keep {w w1 : World} {Q B : Nat} {O F : Nat → Prop} {L : List (List Int)} (h : RQ w Q B O L) (hk : Keep F w w1) (hF : ∀ b, O b → ¬ F b) : RQ w1 Q B O L := by
  obtain ⟨c, h1⟩ := h.own
  obtain ⟨vs, h2, h3, h4⟩ := h.rows
  refine ⟨⟨c, h1.keep hk (hF _ h.mine.1)⟩, ⟨vs, h2.keep hk (hF _ h.mine.2), h3, fun i l hl => ?_⟩, h.few, h.mine, fun b hb => Nat.lt_of_lt_of_le (h.lt b hb) hk.size⟩
  obtain ⟨v, hv, hr⟩ := h4 i l hl
  exact ⟨v, hv, hr.keep hk (fun b hb => hF b hb.1)⟩
/-- what is read of a queue -/
theorem RQ.at {w : World} {Q B : Nat} {O : Nat → Prop} {L : List (List Int)} (h : RQ w Q B O L) {i : Nat} {l : List Int} (hi : L[i]? = some l) : ∃ a c, w.cell? ⟨B, i, none⟩ = some (.slice a l.length c) ∧ l.length ≤ c ∧ ∀ (k : Nat) x, l[k]? = some x → ∃ b o, a = some ⟨b, o, none⟩ ∧ (O b ∧ b ≠ B ∧ b ≠ Q) ∧ w.cell? ⟨b, o + k, none⟩ = some (.int .i64 x) := by
  obtain ⟨vs, h2, h3, h4⟩ := h.rows
  obtain ⟨v, hv, a, c, rfl, hc, hr⟩ := h4 i l hi
  refine ⟨a, c, h2.cell i _ (by simpa using hv), hc, fun k x hx => ?_⟩
  obtain ⟨b, o, e, hN, _, hc⟩ := hr k x hx
  exact ⟨b, o, e, hN, hc⟩
theorem idx_qintss (len c B o i : Nat) (h : i < len) : ∀ W, (Instr.indexAt 31 (.slice (some ⟨B, o, none⟩) len c) (.int .i64 (i : Int))).run Tryz.prog W = .ok (.pointer (some ⟨B, o + i, none⟩)) W := by
  intro W
  go_simp
theorem idx_qints (len c B o i : Nat) (h : i < len) : ∀ W, (Instr.indexAt 37 (.slice (some ⟨B, o, none⟩) len c) (.int .i64 (i : Int))).run Tryz.prog W = .ok (.pointer (some ⟨B, o + i, none⟩)) W := by
  intro W
  go_simp
theorem not_in_next {l : List Int} {k : Nat} {x t : Int} (hx : l[k]? = some x) (h : ∀ y ∈ l.take k, y ≠ t) (hn : x ≠ t) : ∀ y ∈ l.take (k + 1), y ≠ t := by
  intro y hy
  rw [List.take_add_one, hx] at hy
  rcases List.mem_append.1 hy with hy | hy
  · exact h y hy
  · simp at hy; subst hy; exact hn
set_option maxHeartbeats 2000000 in
theorem rqin_any (Q B : Nat) (O : Nat → Prop) (L : List (List Int)) (t : Int) (w : World) (h : RQ w Q B O L) :
    Calls Tryz.prog 15 #[qV Q, .int .i64 t] w fun e w' => ∃ k : Int, e = .returned (.int .i64 k) ∧ (0 ≤ k ↔ ∃ l ∈ L, t ∈ l) ∧ w = w' := by
  obtain ⟨c, h1⟩ := h.own
  have c0 : w.cell? ⟨Q, 0, none⟩ = some (.slice (some ⟨B, 0, none⟩) L.length c) := h1.cell 0 _ rfl
  have H := Lib.hid h
  have hfew := h.few.1
  obtain ⟨ll, hll⟩ : ∃ ll, ll = L.length := ⟨_, rfl⟩
  have HLL := Lib.hid hll
  rw [← hll] at c0 hfew
  clear h h1 hll
  go_enter Tryz.func15, Tryz.ntmps15
  go_upto_region 2 with fail
  go_loopw [5] (fun vi wr => ∃ i : Nat, i ≤ ll ∧ vi = .int .i64 i ∧ Hid (∀ l ∈ L.take i, t ∉ l) ∧ wr = w) (fun vi _ => 5 - (intOf vi).toNat)
  case atStart => exact ⟨0, by omega, rfl, Lib.hid (by simp), rfl⟩
  case round =>
    obtain ⟨i, hi, rfl, hno, rfl⟩ := hrel
    by_cases hil : i < ll
    · obtain ⟨l, hl⟩ : ∃ l, L[i]? = some l := ⟨_, List.getElem?_eq_getElem (by rw [← HLL.out]; exact hil)⟩
      obtain ⟨a, cl, d0, hcl, hrow⟩ := H.out.at hl
      have HROW := Lib.hid hrow
      have hx1 := idx_qintss ll c B 0 i hil
      simp only [Nat.zero_add] at hx1
      have hj1 : (i : Int) < (ll : Int) := by omega
      have hl1 := H.out.few.2 l (List.mem_of_getElem? hl)
      have HL := Lib.hid hl
      obtain ⟨kl, hkl⟩ : ∃ kl, kl = l.length := ⟨_, rfl⟩
      have HKL := Lib.hid hkl
      rw [← hkl] at d0 hl1 hcl
      clear hrow hl hkl
      go_upto_region 5 with fail
      go_loopw [6] (fun vk wr2 => ∃ k : Nat, k ≤ kl ∧ vk = .int .i64 k ∧ Hid (∀ y ∈ l.take k, y ≠ t) ∧ wr2 = wr) (fun vk _ => 1001 - (intOf vk).toNat)
      case atStart => exact ⟨0, by omega, rfl, Lib.hid (by simp), rfl⟩
      case round =>
        obtain ⟨k, hk, rfl, hnk, rfl⟩ := hrel
        by_cases hkl1 : k < kl
        · obtain ⟨x, hx⟩ : ∃ x, l[k]? = some x := ⟨_, List.getElem?_eq_getElem (by rw [← HKL.out]; exact hkl1)⟩
          obtain ⟨b, o, rfl, _, e0⟩ := HROW.out k x hx
          have hx2 := idx_qints kl cl b o k hkl1
          have hj2 : (k : Int) < (kl : Int) := by omega
          have HX := Lib.hid hx
          clear hx
          by_cases hxt : x = t
          · subst hxt
            go_wp2
            go_ret
            exact ⟨_, rfl, ⟨fun _ => ⟨l, List.mem_of_getElem? HL.out, List.mem_of_getElem? HX.out⟩, fun _ => by omega⟩, rfl⟩
          · go_wp2
            go_roundw
            case rel => exact ⟨k + 1, by omega, by go_num, Lib.hid (not_in_next HX.out hnk.out hxt), by trivial⟩
            case measure => simp [intOf]; omega
        · obtain rfl : k = kl := by omega
          have hj2 : ¬ (k : Int) < (k : Int) := by omega
          go_wp2
          go_roundw
          case rel =>
            refine ⟨i + 1, by omega, by go_num, Lib.hid ?_, by trivial⟩
            intro z hz ht
            rw [List.take_add_one, HL.out] at hz
            rcases List.mem_append.1 hz with hz | hz
            · exact hno.out z hz ht
            · simp at hz
              subst hz
              have := hnk.out
              rw [HKL.out, List.take_length] at this
              exact this t ht rfl
          case measure => simp [intOf]; omega
    · obtain rfl : i = ll := by omega
      have hj1 : ¬ (i : Int) < (i : Int) := by omega
      go_wp2
      go_ret
      refine ⟨-1, rfl, ⟨fun h => by omega, fun ⟨l, hl, ht⟩ => ?_⟩, rfl⟩
      have := hno.out
      rw [HLL.out, List.take_length] at this
      exact absurd ht (this l hl)
end Go.Proofs.YtpejmkoheodblaaGreat
