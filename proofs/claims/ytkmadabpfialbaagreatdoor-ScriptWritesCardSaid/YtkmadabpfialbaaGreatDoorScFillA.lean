/- The picks of a list with others between: the iterator. -/
import Derived.Test.YtkmadabpfialbaaGreatDoorScPicks
import Derived.Test.YtkmadabpfialbaaGreatDoorScRange
import Derived.RangeFuncNested
import Derived.RangeFuncBound
import Derived.RangeFuncCalls
import Derived.RangeFuncLeaves
import Derived.Shelf.Abstract
import Derived.Shelf.RegionOpen
import Derived.OwnWalkIn
import Derived.TacticsInMore
import Derived.LoopNIn
import Derived.LoopIn
import Derived.Maps.AppendAt
import Derived.StillTailTactics
import Derived.Deep.CutBlock
import Derived.Deep.RegionHeld3
import Derived.BigGuardPart
import Derived.WalkSpells
import Derived.Laws.EntriesVeiled
namespace Go.Proofs.YtkmadabpfialbaaGreatDoor
open Go.ChangeShapes Go.WideShapes Go.ChangeAt Go.RowKit Go.Shelf
set_option linter.unusedVariables false
set_option maxRecDepth 100000
set_option linter.unusedSimpArgs false
attribute [local go_sem] Oper.semAt_some
theorem due_any (Bc Bn : Nat) (c m : Int) (w : World) (hc : Blk w Bc 3 #[.int .i64 c]) (hm : Blk w Bn 3 #[.int .i64 m]) (hne : Bn ≠ Bc) (h0 : 0 ≤ c) (h1 : c < m) (h2 : m ≤ 1000000) :
    Calls Tryz.prog 49 #[.pointer (some ⟨Bc, 0, none⟩), .pointer (some ⟨Bn, 0, none⟩)] w fun e w' => e = .returned (.bool (decide (m ≤ c + 1))) ∧ Blk w' Bc 3 #[.int .i64 (if c + 1 < m then c + 1 else 0)] ∧ Keep (fun i => i = Bc) w w' := by
  have c0 := hc.cell 0 _ rfl
  have m0 := hm.cell 0 _ rfl
  have f0 := hc.free 0
  have c1 : (w.setCell ⟨Bc, 0, none⟩ (.int .i64 (c + 1))).cell? ⟨Bc, 0, none⟩ = some (.int .i64 (c + 1)) := (hc.set 0 _).cell 0 _ rfl
  have m1 : (w.setCell ⟨Bc, 0, none⟩ (.int .i64 (c + 1))).cell? ⟨Bn, 0, none⟩ = some (.int .i64 m) := (hm.far hne 0 _).cell 0 _ rfl
  have k1 : Keep (fun i => i = Bc) w (w.setCell ⟨Bc, 0, none⟩ (.int .i64 (c + 1))) := (Keep.refl (fun i => i = Bc) w).set (p := ⟨Bc, 0, none⟩) (fun _ => rfl) _
  have B1 : Blk (w.setCell ⟨Bc, 0, none⟩ (.int .i64 (c + 1))) Bc 3 #[.int .i64 (c + 1)] := hc.set 0 _
  by_cases h : c + 1 < m
  · rw [if_pos h, show decide (m ≤ c + 1) = false by simp; omega]
    go_enter Tryz.func49, Tryz.ntmps49
    go_wp2
    go_ret
    exact ⟨rfl, B1, k1⟩
  · rw [if_neg h, show decide (m ≤ c + 1) = true by simp; omega]
    have h3 : ¬ (c + 1 < m) := h
    go_enter Tryz.func49, Tryz.ntmps49
    go_wp2
    go_ret
    exact ⟨rfl, B1.set 0 _, k1.set (p := ⟨Bc, 0, none⟩) (fun _ => rfl) _⟩
theorem reached_any (m : Int) (w : World) : Calls Tryz.prog 36 #[.int .i64 m] w fun e w' => e = .returned (.func (.func 49) #[] #[.pointer (some ⟨w.heap.size + 1, 0, none⟩), .pointer (some ⟨w.heap.size, 0, none⟩)]) ∧ Below w.heap.size w w' ∧
    Blk w' w.heap.size 3 #[.int .i64 m] ∧ Blk w' (w.heap.size + 1) 3 #[.int .i64 0] := by
  have hmf : ∀ (fn : Fn) (first cap : Array Value) (w : World), (Instr.makeFunc fn first cap).run Tryz.prog w = .ok (.func fn first cap) w := fun _ _ _ _ => rfl
  go_enter Tryz.func36, Tryz.ntmps36
  go_wp2
  go_ret
  exact ⟨rfl, by go_grown, (Blk.new w _ _).alloc _, blk_two w _ _ _⟩
def roundL (t : Nat) : List Pk := (List.range t).map fun u : Nat => ((u : Int), (0 : Int))
theorem roundL_succ (t : Nat) : roundL (t + 1) = roundL t ++ [((t : Int), 0)] := by simp [roundL, List.range_succ]
theorem roundL_len (t : Nat) : (roundL t).length = t := by simp [roundL]
/-- a round of steps, handed to the loop -/
theorem round_in (n : Nat) (hn : 1 ≤ n) (t B N : Nat) (Qb : Nat → Prop) (hQ : ∀ i, Qb i → i < B) (J : List Pk → World → Prop)
    (hY : ∀ m pre x A, J pre A → pre.length < N → YieldAt Fence.wide m Tryz.prog (B + 1) #[pkV x] A fun e A' => e = .returned (.bool true) ∧ J (pre ++ [x]) A' ∧ RKeep Qb B A A')
    (pre : List Pk) (W : World) (hJ : J pre W) (hN : pre.length + t ≤ N) (ht : t ≤ 100000) :
    CallsIn Fence.wide n Tryz.prog 37 #[.int .i64 (t : Int), .func (.yield (B + 1)) #[] #[]] W fun e W' => e = .returned (.bool true) ∧ J (pre ++ roundL t) W' ∧ RKeep Qb B W W' := by
  have hro : Fence.wide.round = none := rfl
  refine callsIn_of_wp Tryz.func37 rfl trivial ?_ hro
  simp only [Tryz.ntmps37, List.size_toArray, List.length_cons, List.length_nil, Nat.reduceAdd, Nat.reduceSub, Array.replicate_succ, Array.replicate_zero, List.push_toArray, List.append_toArray, List.nil_append, List.cons_append]
  gi_wp2
  gi_loopw [7] (fun i wr => ∃ k : Nat, k ≤ t ∧ i = .int .i64 k ∧ J (pre ++ roundL k) wr ∧ RKeep Qb B W wr)
    (fun i wr => t - (intOf i).toNat)
  case atStart => exact ⟨0, Nat.zero_le _, rfl, by simpa [roundL] using hJ, Keep.refl _ _⟩
  case round =>
    obtain ⟨k, hk, rfl, hJ2, hK⟩ := hrel
    by_cases hlt : k < t
    · obtain ⟨fn, tmps, assign, body, hy, hR⟩ := hY (n - 1) (pre ++ roundL k) ((k : Int), 0) wr hJ2 (by rw [List.length_append, roundL_len]; omega)
      have HS := Lib.hid (show pre ++ roundL (k + 1) = pre ++ roundL k ++ [((k : Int), 0)] by rw [roundL_succ, List.append_assoc])
      gi_wp2
      refine hR.mono ?_
      rintro e W3 ⟨rfl, hJ3, hk3⟩
      rw [← HS.out] at hJ3
      have hK3 := hK.trans hk3
      gi_wp2
      go_roundw
      case rel => exact ⟨k + 1, by omega, by go_num, hJ3, hK3⟩
      case measure => simp [intOf]; omega
    · have hke : k = t := by omega
      subst hke
      gi_wp2
      go_ret
      exact ⟨rfl, hJ2, hK⟩
/-- the list, with a round after every m picks and at the end: what has come when i picks have -/
def fillPre (m t : Nat) (l : List Pk) : Nat → List Pk
  | 0 => []
  | i + 1 => fillPre m t l i ++ [l.getD i (0, 0)] ++ (if (i + 1) % m = 0 then roundL t else [])
def fillL (m t : Nat) (l : List Pk) : List Pk := fillPre m t l l.length ++ roundL t
theorem fillPre_len (m t : Nat) (l : List Pk) : ∀ i, (fillPre m t l i).length = i + t * (i / m)
  | 0 => by simp [fillPre]
  | i + 1 => by
    rw [fillPre, List.length_append, List.length_append, fillPre_len m t l i, Nat.succ_div]
    by_cases h : (i + 1) % m = 0
    · rw [if_pos h, if_pos (Nat.dvd_of_mod_eq_zero h), roundL_len, Nat.mul_add]
      simp
      omega
    · rw [if_neg h, if_neg (fun hd => h (Nat.mod_eq_zero_of_dvd hd))]
      simp
      omega
theorem fillL_len (m t : Nat) (l : List Pk) : (fillL m t l).length = l.length + t * (l.length / m + 1) := by
  unfold fillL
  rw [List.length_append, fillPre_len, roundL_len, Nat.mul_add]
  omega
theorem mod_next (i m : Nat) (hm : 0 < m) : ((i + 1) % m = 0 ↔ m ≤ i % m + 1) ∧ (if i % m + 1 < m then i % m + 1 else 0) = (i + 1) % m := by
  have h := Nat.mod_lt i hm
  have hd := Nat.div_add_mod i m
  by_cases hl : i % m + 1 < m
  · have e : (i + 1) % m = i % m + 1 := by
      conv => lhs; rw [← hd, Nat.add_assoc, Nat.mul_add_mod]
      exact Nat.mod_eq_of_lt hl
    rw [e, if_pos hl]
    exact ⟨by omega, rfl⟩
  · have e : (i + 1) % m = 0 := by
      have e2 : i + 1 = m * (i / m + 1) := by rw [Nat.mul_add]; omega
      rw [e2]
      exact Nat.mul_mod_right m _
    rw [e, if_neg hl]
    exact ⟨by omega, rfl⟩
theorem fill_room (m t : Nat) (l : List Pk) (i : Nat) (h : i ≤ l.length) : (fillPre m t l i).length + t ≤ (fillL m t l).length ∧ (fillPre m t l i).length + t + (l.length - i) ≤ (fillL m t l).length := by
  rw [fillPre_len, fillL_len, Nat.mul_add]
  have h1 : i / m ≤ l.length / m := Nat.div_le_div_right h
  have h2 : t * (i / m) ≤ t * (l.length / m) := Nat.mul_le_mul (Nat.le_refl t) h1
  omega
theorem cell_keep {w w1 : World} {Q : Nat → Prop} {p : Addr} {v : Value} (h : w.cell? p = some v) (hk : Keep Q w w1) (hn : ¬ Q p.block) : w1.cell? p = some v := by
  have hb : p.block < w.heap.size := by
    unfold World.cell? at h
    cases hb : w.heap[p.block]? with
    | none => rw [hb] at h; cases h
    | some y => exact (Array.getElem?_eq_some_iff.1 hb).1
  unfold World.cell? at h ⊢
  rw [hk.block p.block hb hn]
  exact h
set_option maxHeartbeats 4000000 in
theorem filledC_in (n : Nat) (hn : 1 ≤ n) (m t B N Be Bl Bt n₀ : Nat) (l : List Pk) (v : Value) (Qb : Nat → Prop) (hQ : ∀ i, Qb i → i < B ∧ n₀ ≤ i) (hn₀ : n₀ ≤ B) (J : List Pk → World → Prop) (W : World) (hWs : W.heap.size = B + 2)
    (hJs : ∀ s A A', J s A → Below W.heap.size A A' → J s A')
    (hY : ∀ m pre x A, J pre A → pre.length < N → YieldAt Fence.wide m Tryz.prog (B + 1) #[pkV x] A fun e A' => e = .returned (.bool true) ∧ J (pre ++ [x]) A' ∧ RKeep Qb B A A')
    (hBe : Blk W Be 3 #[.int .i64 (m : Int)]) (hBl : Blk W Bl 22 #[v]) (hBt : Blk W Bt 3 #[.int .i64 (t : Int)]) (he : Be < B ∧ ¬ Qb Be) (hl : Bl < B ∧ ¬ Qb Bl) (ht : Bt < B ∧ ¬ Qb Bt)
    (hv : PicksAt W n₀ v l) (hll : l.length ≤ 100000) (hm1 : 1 ≤ m) (hm2 : m ≤ 100000) (ht2 : t ≤ 1000) (hN : N = (fillL m t l).length) (h0 : J [] W) :
    CallsIn Fence.wide n Tryz.prog 35 #[.func (.yield (B + 1)) #[] #[], .pointer (some ⟨Be, 0, none⟩), .pointer (some ⟨Bl, 0, none⟩), .pointer (some ⟨Bt, 0, none⟩)] W fun e W' => (∃ v, e = .returned v) ∧ J (fillL m t l) W' := by
  have hro : Fence.wide.round = none := rfl
  obtain ⟨a, c, rfl, hc, hp⟩ := id hv
  have HP := Lib.hid hp
  have e0 := hBe.cell 0 _ rfl
  have l0 := hBl.cell 0 _ rfl
  have HR := Lib.hid (fun W => reached_any (m : Int) W)
  clear hp hv
  refine callsIn_of_wp Tryz.func35 rfl trivial ?_ hro
  simp only [Tryz.ntmps35, List.size_toArray, List.length_cons, List.length_nil, Nat.reduceAdd, Nat.reduceSub, Array.replicate_succ, Array.replicate_zero, List.push_toArray, List.append_toArray, List.nil_append, List.cons_append]
  gi_wp2_with (refine ⟨trivial, ?_⟩; gi_at_call 36; refine (callsIn_wide.2 (HR.out _)).mono ?_; rintro e w1 ⟨rfl, hb, hn1, hc1⟩; have l1 := (hBl.below hb hBl.lt).cell 0 _ rfl)
  rw [hWs] at hn1 hc1
  have K1 : Keep (fun i => Qb i ∨ B ≤ i) W w1 := Keep.ofBelow hb
  have J1 := hJs _ _ _ h0 hb
  clear e0 l0 l1
  gi_loopw [12] (fun i wr => ∃ k : Nat, k ≤ l.length ∧ i = .int .i64 k ∧ J (fillPre m t l k) wr ∧ Keep (fun i => Qb i ∨ B ≤ i) W wr ∧ B + 4 ≤ wr.heap.size ∧ Blk wr (B + 2) 3 #[.int .i64 (m : Int)] ∧ Blk wr (B + 2 + 1) 3 #[.int .i64 ((k % m : Nat) : Int)])
    (fun i wr => l.length - (intOf i).toNat)
  case atStart => exact ⟨0, Nat.zero_le _, rfl, J1, K1, by have := hc1.lt; omega, hn1, by simpa using hc1⟩
  case round =>
    obtain ⟨k, hk, rfl, hJ2, hK, hsz, hn2, hc2⟩ := hrel
    by_cases hlt : k < l.length
    · obtain ⟨p, hpk⟩ : ∃ p, l[k]? = some p := ⟨_, List.getElem?_eq_getElem hlt⟩
      obtain ⟨b0, o, rfl, hb0, hb1, c0, c1⟩ := HP.out k p hpk
      have hnq : ¬ (Qb b0 ∨ B ≤ b0) := fun e => by rcases e with e | e; have := (hQ _ e).2; omega; omega
      replace c0 := cell_keep c0 hK hnq
      replace c1 := cell_keep c1 hK hnq
      rw [← Nat.add_assoc] at c1
      have hroom := fill_room m t l k hk
      have hroom2 := fill_room m t l (k + 1) hlt
      have HG := Lib.hid (show fillPre m t l (k + 1) = fillPre m t l k ++ [p] ++ (if (k + 1) % m = 0 then roundL t else []) by
        rw [fillPre, List.getD_eq_getElem?_getD, hpk]; rfl)
      obtain ⟨u, q⟩ := p
      simp only at c0 c1
      obtain ⟨W2, hW2⟩ : ∃ W2, wr.alloc (.cells #[.int .i64 u, .int .i64 q] 46) = W2 := ⟨_, rfl⟩
      have b2 : Below wr.heap.size wr W2 := by rw [← hW2]; exact (Below.refl _ wr).alloc (Nat.le_refl _) _
      have J2 : J (fillPre m t l k) W2 := hJs _ _ _ hJ2 (b2.mono (by omega))
      have p0 : Blk W2 wr.heap.size 46 #[.int .i64 u, .int .i64 q] := by rw [← hW2]; exact Blk.new wr _ _
      obtain ⟨fn, tmps, assign, body, hy, hR⟩ := hY (n - 1) (fillPre m t l k) (u, q) W2 J2 (by omega)
      have hKn : Keep (fun i => Qb i ∨ B ≤ i) W W2 := hK.trans (Keep.ofBelow b2)
      have hn3 := hn2.below b2 hn2.lt
      have hc3 := hc2.below b2 hc2.lt
      have hs2 := b2.size
      have q0 := p0.cell 0 _ rfl
      have q1 := p0.cell 1 _ rfl
      have HM := Lib.hid (mod_next k m hm1)
      have hkm := Nat.mod_lt k hm1
      clear hpk hnq hJ2 b2 hc2 hn2
      gi_wp2
      refine hR.mono ?_
      rintro e W3 ⟨rfl, hJ3, hk3⟩
      have hs3 := hk3.size
      have hn4 := hn3.keep hk3 (fun e => by rcases e with e | e; have := (hQ _ e).1; omega; omega)
      have hc4 := hc3.keep hk3 (fun e => by rcases e with e | e; have := (hQ _ e).1; omega; omega)
      have hK3 : Keep (fun i => Qb i ∨ B ≤ i) W W3 := hKn.trans (hk3.mono (fun i _ e => by rcases e with e | e; exact .inl e; exact .inr (by omega)))
      have HD := Lib.hid (due_any (B + 2 + 1) (B + 2) ((k % m : Nat) : Int) (m : Int) W3 hc4 hn4 (by omega) (by omega) (by omega) (by omega))
      have hcw : (if ((k % m : Nat) : Int) + 1 < (m : Int) then ((k % m : Nat) : Int) + 1 else 0) = (((k + 1) % m : Nat) : Int) := by
        rw [← HM.out.2]
        by_cases hx : k % m + 1 < m
        · rw [if_pos hx, if_pos (by omega)]; omega
        · rw [if_neg hx, if_neg (by omega)]; rfl
      rw [hcw] at HD
      by_cases hdue : (k + 1) % m = 0
      · have hb : decide ((m : Int) ≤ ((k % m : Nat) : Int) + 1) = true := by
          have := HM.out.1.1 hdue
          simp; omega
        rw [hb] at HD
        rw [if_pos hdue] at HG
        have HT := Lib.hid (fun (W4 : World) (k4 : Keep (fun i => i = B + 2 + 1) W3 W4) => (show Blk W4 (B + 2) 3 #[.int .i64 (m : Int)] ∧ Blk W4 Bt 3 #[.int .i64 (t : Int)] ∧ J (fillPre m t l k ++ [(u, q)]) W4 ∧ Keep (fun i => Qb i ∨ B ≤ i) W W4 ∧ W3.heap.size ≤ W4.heap.size from
          ⟨hn4.keep k4 (by omega), hBt.keep (hK3.trans (k4.mono (fun i _ e => .inr (by omega)))) (fun e => by rcases e with e | e; exact ht.2 e; omega), hJs _ _ _ hJ3 (k4.below (by omega) (fun i _ e => by omega)), hK3.trans (k4.mono (fun i _ e => .inr (by omega))), k4.size⟩))
        have HRd := Lib.hid (fun (W4 : World) (hJ4 : J (fillPre m t l k ++ [(u, q)]) W4) => round_in (n - 1 + 1) (by omega) t B N Qb (fun i e => (hQ i e).1) J hY (fillPre m t l k ++ [(u, q)]) W4 hJ4 (by rw [HG.out, List.length_append, roundL_len] at hroom2; omega) (by omega))
        clear hb hcw hdue hn4 hc4 hJ3 hkm c0 c1 q0 q1
        gi_wp2_with (first
          | (refine ⟨trivial, ?_⟩; gi_at_call 49; refine (callsIn_wide.2 HD.out).mono ?_; rintro e W4 ⟨rfl, hc5, k4⟩; obtain ⟨hn5, hT5, hJ5, hK5, hs5⟩ := HT.out W4 k4; have t0 := hT5.cell 0 _ rfl)
          | (refine ⟨trivial, ?_⟩; gi_at_call 37; refine (callsIn_wide.2 (callsIn_wide.1 (HRd.out _ hJ5))).mono ?_; rintro e W5 ⟨rfl, hJ6, k5⟩))
        have hs6 := k5.size
        refine ⟨⟨k + 1, by omega, by go_num, ?_, hK5.trans (k5.mono (fun i _ e => by rcases e with e | e; exact .inl e; exact .inr (by omega))), by omega, hn5.keep k5 (fun e => by rcases e with e | e; have := (hQ _ e).1; omega; omega), hc5.keep k5 (fun e => by rcases e with e | e; have := (hQ _ e).1; omega; omega)⟩, by simp [intOf]; omega⟩
        rw [HG.out]
        exact hJ6
      · have hb : decide ((m : Int) ≤ ((k % m : Nat) : Int) + 1) = false := by
          have h1 : ¬ m ≤ k % m + 1 := fun e => hdue (HM.out.1.2 e)
          simp; omega
        rw [hb] at HD
        rw [if_neg hdue, List.append_nil] at HG
        have HT := Lib.hid (fun (W4 : World) (k4 : Keep (fun i => i = B + 2 + 1) W3 W4) => (show Blk W4 (B + 2) 3 #[.int .i64 (m : Int)] ∧ J (fillPre m t l k ++ [(u, q)]) W4 ∧ Keep (fun i => Qb i ∨ B ≤ i) W W4 ∧ W3.heap.size ≤ W4.heap.size from
          ⟨hn4.keep k4 (by omega), hJs _ _ _ hJ3 (k4.below (by omega) (fun i _ e => by omega)), hK3.trans (k4.mono (fun i _ e => .inr (by omega))), k4.size⟩))
        clear hb hcw hdue hn4 hc4 hJ3 hkm c0 c1 q0 q1
        gi_wp2_with (first
          | (refine ⟨trivial, ?_⟩; gi_at_call 49; refine (callsIn_wide.2 HD.out).mono ?_; rintro e W4 ⟨rfl, hc5, k4⟩; obtain ⟨hn5, hJ5, hK5, hs5⟩ := HT.out W4 k4))
        refine ⟨trivial, ?_⟩
        gi_wp2
        refine ⟨⟨k + 1, by omega, by go_num, ?_, hK5, by omega, hn5, hc5⟩, by simp [intOf]; omega⟩
        rw [HG.out]
        exact hJ5
    · have hke : k = l.length := by omega
      subst hke
      have hT2 := (hBt.keep hK (fun e => by rcases e with e | e; exact ht.2 e; omega)).cell 0 _ rfl
      have HRd := Lib.hid (round_in (n - 1 + 1) (by omega) t B N Qb (fun i e => (hQ i e).1) J hY (fillPre m t l l.length) wr hJ2 (by have := (fill_room m t l l.length (Nat.le_refl _)).1; omega) (by omega))
      clear hc2 hn2 hJ2
      gi_wp2_with (first
        | (refine ⟨trivial, ?_⟩; gi_at_call 37; refine (callsIn_wide.2 (callsIn_wide.1 HRd.out)).mono ?_; rintro e W5 ⟨rfl, hJ6, k5⟩))
      go_end0
      exact ⟨⟨_, rfl⟩, hJ6⟩
end Go.Proofs.YtkmadabpfialbaaGreatDoor
