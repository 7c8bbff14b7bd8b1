/- Package pool: monitors and marks; the cells of monitors. -/
import Derived.Test.YtpejmkoheodblaaGreatQuA
import Derived.Test.YtpejmkoheodblaaGreatLatB
import Derived.Test.YtpejmkoheodblaaGreatQuSpec
import Derived.Test.YtpejmkoheodblaaGreatLatC
import Derived.Test.YtpejmkoheodblaaGreatQuEnds
namespace Go.Proofs.YtpejmkoheodblaaGreat
open Go.ChangeShapes Go.WideShapes Go.ChangeAt Go.RowKit
set_option linter.unusedVariables false
set_option maxRecDepth 100000
set_option linter.unusedSimpArgs false
theorem bdrewP (w : World) : Below w.heap.size w w.drew := ⟨rfl, rfl, rfl, Nat.le_refl _, fun _ _ => rfl⟩
/-- the first cell of a monitor; its Link, its Gen -/
def monN (m : Mp) (k : Int) : Nat := 2 + m.o + 6 * m.t + 8 * k.toNat
def linkN (m : Mp) (k : Int) : Nat := monN m k + 7
def genN (m : Mp) (k : Int) : Nat := monN m k + 6
/-- the monitor that a cell's value names -/
def pmS (m : Mp) (v : Int) : Int := if (m.n : Int) < v then -1 else v - 1
theorem pmS_range {m : Mp} {v : Int} (h : 0 ≤ v) : -1 ≤ pmS m v ∧ pmS m v < m.n := by
  unfold pmS
  split <;> omega
theorem pmS_of {m : Mp} {v : Int} (h : v ≤ m.n) : pmS m v = v - 1 := by
  unfold pmS
  rw [if_neg (by omega)]
theorem linkN_eq {m : Mp} {k : Int} (h : 0 ≤ k) : ((linkN m k : Nat) : Int) = 2 + (m.o : Int) + 6 * (m.t : Int) + 8 * k + 7 := by unfold linkN monN; omega
theorem genN_eq {m : Mp} {k : Int} (h : 0 ≤ k) : ((genN m k : Nat) : Int) = 2 + (m.o : Int) + 6 * (m.t : Int) + 8 * k + 6 := by unfold genN monN; omega
theorem linkN_lt {m : Mp} {k : Int} (h : 0 ≤ k ∧ k < m.n) : linkN m k < sizeN m := by unfold linkN monN sizeN; omega
theorem genN_lt {m : Mp} {k : Int} (h : 0 ≤ k ∧ k < m.n) : genN m k < sizeN m := by unfold genN monN sizeN; omega
theorem linkN_inj {m : Mp} {j k : Int} (hj : 0 ≤ j) (hk : 0 ≤ k) (h : linkN m j = linkN m k) : j = k := by unfold linkN monN at h; omega
theorem linkN_gen {m : Mp} {j k : Int} (hj : 0 ≤ j) (hk : 0 ≤ k) : linkN m j ≠ genN m k := by unfold linkN genN monN; omega
theorem linkN_two {m : Mp} {k : Int} : 9 ≤ linkN m k := by unfold linkN monN; omega
theorem genN_two {m : Mp} {k : Int} : 8 ≤ genN m k := by unfold genN monN; omega
theorem mon_any (m : Mp) (k : Int) (w : World) (hm : m.ok) (h : 0 ≤ k ∧ k ≤ 5000) : Calls Tryz.prog 72 #[mapV m, .int .i64 k] w fun e w' => e = .returned (.int .i64 (2 + (m.o : Int) + 6 * (m.t : Int) + 8 * k)) ∧ Below w.heap.size w w' := by
  have h1 := hm.t
  have h2 := hm.o
  clear hm
  go_enter Tryz.func72, Tryz.ntmps72
  go_wp2
  go_ret
  exact ⟨rfl, by go_grown⟩
theorem link_any (m : Mp) (k : Int) (w : World) (hm : m.ok) (h : 0 ≤ k ∧ k ≤ 5000) : Calls Tryz.prog 41 #[mapV m, .int .i64 k] w fun e w' => e = .returned (.int .i64 (linkN m k : Nat)) ∧ Below w.heap.size w w' := by
  have h1 := hm.t
  have h2 := hm.o
  rw [linkN_eq h.1]
  have HT := Lib.hid fun W => mon_any m k W hm h
  clear hm
  go_enter Tryz.func41, Tryz.ntmps41
  go_wp2_with (go_at_call 72; refine (HT.out _).mono ?_; rintro e w2 ⟨rfl, b2⟩)
  go_ret
  exact ⟨rfl, ((Below.refl _ w).alloc (Nat.le_refl _) _).trans (b2.mono (by simp))⟩
theorem gen_any (m : Mp) (k : Int) (w : World) (hm : m.ok) (h : 0 ≤ k ∧ k ≤ 5000) : Calls Tryz.prog 61 #[mapV m, .int .i64 k] w fun e w' => e = .returned (.int .i64 (genN m k : Nat)) ∧ Below w.heap.size w w' := by
  have h1 := hm.t
  have h2 := hm.o
  rw [genN_eq h.1]
  have HT := Lib.hid fun W => mon_any m k W hm h
  clear hm
  go_enter Tryz.func61, Tryz.ntmps61
  go_wp2_with (go_at_call 72; refine (HT.out _).mono ?_; rintro e w2 ⟨rfl, b2⟩)
  go_ret
  exact ⟨rfl, ((Below.refl _ w).alloc (Nat.le_refl _) _).trans (b2.mono (by simp))⟩
theorem head_any (m : Mp) (w : World) : Calls Tryz.prog 35 #[mapV m] w fun e w' => e = .returned (.int .i64 1) ∧ Below w.heap.size w w' := by
  go_enter Tryz.func35, Tryz.ntmps35
  go_wp2
  go_ret
  exact ⟨rfl, by go_grown⟩
theorem latch_any (m : Mp) (w : World) : Calls Tryz.prog 43 #[mapV m] w fun e w' => e = .returned (.int .i64 0) ∧ Below w.heap.size w w' := by
  go_enter Tryz.func43, Tryz.ntmps43
  go_wp2
  go_ret
  exact ⟨rfl, by go_grown⟩
theorem pmark_any (u : Int) (w : World) (h : -1 ≤ u ∧ u ≤ 100000) : Calls Tryz.prog 63 #[.int .i64 u] w fun e w' => e = .returned (.int .u64 (u + 1)) ∧ w = w' := by
  have e1 : IntKind.u64.wrap (u + 1) = u + 1 := by rw [IntKind.wrap_u64]; omega
  go_enter Tryz.func63, Tryz.ntmps63
  go_wp2
  go_ret
  exact ⟨rfl, rfl⟩
abbrev stockV (C : Nat) (m : Mp) : Value := .agg #[cellsV C, .int .i64 (m.t : Int), .int .i64 (m.o : Int), .int .i64 (m.n : Int)]
abbrev stockCs (C : Nat) (m : Mp) : Array Value := #[cellsV C, .int .i64 (m.t : Int), .int .i64 (m.o : Int), .int .i64 (m.n : Int)]
theorem pmarked_any (C : Nat) (m : Mp) (v : Int) (w : World) (hm : m.ok) (hv : 0 ≤ v ∧ v < 18446744073709551616) : Calls Tryz.prog 97 #[stockV C m, .int .u64 v] w fun e w' => e = .returned (.int .i64 (pmS m v)) ∧ Below w.heap.size w w' := by
  have h1 := hm.n
  have e1 : IntKind.u64.wrap (m.n : Int) = m.n := by rw [IntKind.wrap_u64]; omega
  clear hm
  by_cases h : (m.n : Int) < v
  · have e : pmS m v = -1 := by simp [pmS, h]
    rw [e]
    clear e hv
    go_enter Tryz.func97, Tryz.ntmps97
    go_wp2
    go_ret
    exact ⟨rfl, by go_grown⟩
  · have e : pmS m v = v - 1 := by simp [pmS, h]
    have e2 : IntKind.i64.wrap v = v := IntWalk.i64_in _ ⟨by omega, by omega⟩
    rw [e]
    have hv2 : 0 ≤ v ∧ v ≤ 100000 := by omega
    clear e hv
    go_enter Tryz.func97, Tryz.ntmps97
    go_wp2
    go_ret
    exact ⟨rfl, by go_grown⟩
theorem pright_yes (m : Mp) (n : Int) (w : World) (hm : m.ok) : Calls Tryz.prog 62 #[.int .i64 n, mapV m] w fun e w' => e = .returned (.bool (decide ((sizeN m : Int) ≤ n))) ∧ Below w.heap.size w w' := by
  have HR := Lib.hid fun W => right_any (m.t : Int) (m.o : Int) (m.n : Int) W
  have e : rightS (m.t : Int) (m.o : Int) (m.n : Int) = true := by
    have h1 := hm.t
    have h2 := hm.o
    have h3 := hm.n
    simp [rightS]
    omega
  rw [e] at HR
  have HS := Lib.hid fun W => size_any m W hm
  clear hm e
  go_enter Tryz.func62, Tryz.ntmps62
  go_upto_region 1 with fail
  generalize hW : (w.alloc _) = W
  have bW : Below w.heap.size w W := by rw [← hW]; go_grown
  have m0 : Blk W w.heap.size 24 #[.int .i64 (m.t : Int), .int .i64 (m.o : Int), .int .i64 (m.n : Int)] := by rw [← hW]; exact Blk.new w _ _
  clear hW
  have c0 := m0.cell 0 _ rfl
  have c1 := m0.cell 1 _ rfl
  have c2 := m0.cell 2 _ rfl
  go_wp2_with (first
    | (go_at_call 76; refine (HR.out _).mono ?_; rintro e w2 ⟨rfl, b2⟩; have m2 := m0.below b2 m0.lt; clear c0 c1 c2; have c0 := m2.cell 0 _ rfl; have c1 := m2.cell 1 _ rfl; have c2 := m2.cell 2 _ rfl)
    | (go_at_call 10; refine (HS.out _).mono ?_; rintro e w3 ⟨rfl, b3⟩))
  go_ret
  exact ⟨rfl, bW.trans ((b2.trans (b3.mono b2.size)).mono bW.size)⟩
theorem pright_no (n t o k : Int) (w : World) (h : rightS t o k = false) : Calls Tryz.prog 62 #[.int .i64 n, .agg #[.int .i64 t, .int .i64 o, .int .i64 k]] w fun e w' => e = .returned (.bool false) ∧ Below w.heap.size w w' := by
  have HR := Lib.hid fun W => right_any t o k W
  rw [h] at HR
  clear h
  go_enter Tryz.func62, Tryz.ntmps62
  go_upto_region 1 with fail
  generalize hW : (w.alloc _) = W
  have bW : Below w.heap.size w W := by rw [← hW]; go_grown
  have m0 : Blk W w.heap.size 24 #[.int .i64 t, .int .i64 o, .int .i64 k] := by rw [← hW]; exact Blk.new w _ _
  clear hW
  have c0 := m0.cell 0 _ rfl
  have c1 := m0.cell 1 _ rfl
  have c2 := m0.cell 2 _ rfl
  go_wp2_with (first
    | (go_at_call 76; refine (HR.out _).mono ?_; rintro e w2 ⟨rfl, b2⟩))
  go_ret
  exact ⟨rfl, bW.trans (b2.mono bW.size)⟩
theorem popen_yes (cv : Value) (m : Mp) (t : Int) (n : Nat) (w : World) (hm : m.ok) (ht : 0 ≤ t) (hn : sizeN m ≤ n) (hL : ∀ W, Below w.heap.size w W → Calls Tryz.prog 52 #[cv] W fun e w' => e = .returned (.int .i64 (n : Int)) ∧ Below W.heap.size W w') :
    Calls Tryz.prog 64 #[cv, mapV m, .int .i64 t] w fun e w' => e = .returned (.bool true) ∧ Below w.heap.size w w' := by
  have HR := Lib.hid fun W => pright_yes m (n : Int) W hm
  rw [show decide ((sizeN m : Int) ≤ (n : Int)) = true by simp; omega] at HR
  have HL := Lib.hid hL
  clear hm hn hL
  go_enter Tryz.func64, Tryz.ntmps64
  go_upto_region 1 with fail
  generalize hW : (w.alloc _) = W
  have bW : Below w.heap.size w W := by rw [← hW]; go_grown
  have m0 : Blk W w.heap.size 24 #[.int .i64 (m.t : Int), .int .i64 (m.o : Int), .int .i64 (m.n : Int)] := by rw [← hW]; exact Blk.new w _ _
  clear hW
  have hml := m0.lt
  have SK := Lib.hid (show ∀ V, Below W.heap.size W V → V.cell? ⟨w.heap.size, 0, none⟩ = some (.int .i64 (m.t : Int)) ∧ V.cell? ⟨w.heap.size, 1, none⟩ = some (.int .i64 (m.o : Int)) ∧ V.cell? ⟨w.heap.size, 2, none⟩ = some (.int .i64 (m.n : Int)) from fun V hk => ⟨(m0.below hk hml).cell 0 _ rfl, (m0.below hk hml).cell 1 _ rfl, (m0.below hk hml).cell 2 _ rfl⟩)
  have bd := bdrewP W
  have HL1 := Lib.hid (HL.out W.drew (bW.trans (bd.mono bW.size)))
  clear m0 HL
  go_region_held3 (fun V => V.cell? ⟨w.heap.size, 0, none⟩ = some (.int .i64 (m.t : Int)) ∧ V.cell? ⟨w.heap.size, 1, none⟩ = some (.int .i64 (m.o : Int)) ∧ V.cell? ⟨w.heap.size, 2, none⟩ = some (.int .i64 (m.n : Int))) (first | exact SK.out _ b3 | exact SK.out _ b2 | exact SK.out _ bd) (first
    | (go_at_call 52; refine HL1.out.mono ?_; rintro e w2 ⟨rfl, hb2⟩; have b2 : Below W.heap.size W w2 := bd.trans hb2)
    | (go_at_call 62; refine (HR.out _).mono ?_; rintro e w3 ⟨rfl, hb3⟩; have b3 : Below W.heap.size W w3 := b2.trans (hb3.mono b2.size)))
  all_goals go_wp2
  all_goals go_ret
  all_goals exact ⟨rfl, bW.trans (b3.mono bW.size)⟩
end Go.Proofs.YtpejmkoheodblaaGreat
/- Package pool: what is done under the latch. -/
namespace Go.Proofs.YtpejmkoheodblaaGreat
open Go.ChangeShapes Go.WideShapes Go.ChangeAt Go.RowKit
set_option linter.unusedVariables false
set_option maxRecDepth 100000
set_option linter.unusedSimpArgs false
theorem poReady (C P : Nat) (Q : Nat → Prop) (v : Int) (w : World) : Calls Tryz.prog 53 #[.int .i64 v] w fun e w' => ∃ t, e = .returned (pV t) ∧ MadeQ (cellOps C P) w Q (retT v) t w' := by
  refine (tready_any C P Q v w).mono ?_
  rintro e w' ⟨t, rfl, h⟩
  exact ⟨t, rfl, h.madeQ⟩
abbrev storeN (b : Nat) (v : Int) : Itm := ⟨1, b, v, 0⟩
def putT (b : Nat) (v : Int) : Tre Itm := opT (storeN b v) fun u => retT u
theorem put_eq (b : Nat) (v : Int) : itmT [storeN b v] 0 = putT b v := rfl
theorem poStore (C P : Nat) (Q : Nat → Prop) (b : Nat) (v : Int) (w : World) (hQ : ∀ k, w.heap.size ≤ k → Q k) : Calls Tryz.prog 79 #[cellsV C, .int .i64 (b : Int), .int .u64 v] w fun e w' => ∃ t, e = .returned (pV t) ∧ MadeQ (cellOps C P) w Q (putT b v) t w' := by
  refine (tStore_any C P Q (storeN b v) w rfl hQ).mono ?_
  rintro e w' ⟨t, rfl, h⟩
  exact ⟨t, rfl, h.madeQ⟩
theorem poLoad (C P : Nat) (Q : Nat → Prop) (b : Nat) (w : World) (hQ : ∀ k, w.heap.size ≤ k → Q k) : Calls Tryz.prog 95 #[cellsV C, .int .i64 (b : Int)] w fun e w' => ∃ t, e = .returned (pV t) ∧ MadeQ (cellOps C P) w Q (opT (loadI b) retT) t w' := by
  refine (tLoad_any C P Q (loadI b) w rfl hQ).mono ?_
  rintro e w' ⟨t, rfl, h⟩
  exact ⟨t, rfl, h.madeQ⟩
/-- Then, with a closure that is told of by how it answers -/
theorem poThen (C P : Nat) (Q : Nat → Prop) (t1 F : Nat) (caps : Array Value) (T : Tre Itm) (k : Int → Tre Itm) (w : World) (hT : TaskF (cellOps C P) w Q (some ⟨t1, 0, none⟩) T) (hQ : ∀ k, w.heap.size ≤ k → Q k)
    (hcall : ∀ (W : World) (args : Array Value), (callFunc F args).run Tryz.prog W = .ok (.enter F args) W)
    (hG : ∀ v w4, Keep (fun b => ¬ (Q b ∧ b < w.heap.size)) w w4 → Calls Tryz.prog F (#[.int .i64 v] ++ caps) w4 fun e w' => ∃ t, e = .returned (pV t) ∧ MadeQ (cellOps C P) w4 (fun b => w4.heap.size ≤ b) (k v) t w') :
    Calls Tryz.prog 81 #[pV t1, cloV F caps] w fun e w' => ∃ t, e = .returned (pV t) ∧ MadeQ (cellOps C P) w Q (bindT k T) t w' := by
  refine (thenT_any (cellOps C P) (some ⟨t1, 0, none⟩) F caps T k Q w hT (fun j e => by injection e with e; injection e with e; rw [← e]; exact TaskT.lt hT) hQ ?_).mono ?_
  · intro w3 Q1 f hb hf hlo hqf hqq
    refine contT_of (cellOps C P) w3 Q1 f F _ _ hqf hf hcall fun v w4 hw => ?_
    have k4 : Keep (fun b => ¬ (Q b ∧ b < w.heap.size)) w w4 := ((Keep.ofBelow (Q := fun _ => False) hb).mono (fun _ _ h => h.elim)).step hw (fun i hi h hh => h (hqq i hi hh.1))
    refine (hG v w4 k4).mono ?_
    rintro e w5 ⟨t, rfl, hM⟩
    exact ⟨some ⟨t, 0, none⟩, rfl, hM.2.2, TaskF.keep hM.2.1 (Keep.refl (fun _ => False) w5) (fun _ _ h => h) (fun _ _ h => h) (fun b _ h => .inr h.1), fun j e => by injection e with e; injection e with e; rw [← e]; exact .inr hM.1⟩
  · rintro e w' ⟨t, rfl, h1, h2, h3⟩
    exact ⟨t, rfl, h1, h2, h3⟩
theorem bind_load (b : Nat) (k : Int → Tre Itm) : bindT k (opT (loadI b) retT) = opT (loadI b) k := by
  rw [bindT_op]
  congr 1
  funext v
  rw [bindT_ret]
theorem seqT_three {A : Type} (O : Ops A) (Q : Nat → Prop) (T1 T2 T3 : Tre A) (t1 t2 t3 : Nat) (w : World) (h1 : TaskF O w Q (some ⟨t1, 0, none⟩) T1) (h2 : TaskF O w Q (some ⟨t2, 0, none⟩) T2) (h3 : TaskF O w Q (some ⟨t3, 0, none⟩) T3) (q1 : Q t1) (q2 : Q t2) (q3 : Q t3) (hQ : ∀ k, w.heap.size ≤ k → Q k) :
    Calls Tryz.prog 78 #[.slice (some ⟨w.heap.size, 0, none⟩) 3 3] (w.alloc (.cells #[pV t1, pV t2, pV t3] 40)) fun e w' => ∃ t, e = .returned (pV t) ∧ MadeQ O w Q (seqT [T1, T2, T3]) t w' := by
  have hB := Blk.new w 40 #[pV t1, pV t2, pV t3]
  have hb : Below w.heap.size w (w.alloc (.cells #[pV t1, pV t2, pV t3] 40)) := (Below.refl _ w).alloc (Nat.le_refl _) _
  have l1 := TaskT.lt h1
  have l2 := TaskT.lt h2
  have l3 := TaskT.lt h3
  have hi : ∀ (P : Nat → Prop), P t1 → P t2 → P t3 → ∀ (i : Nat) (x : Option Addr × Tre A), [((some ⟨t1, 0, none⟩ : Option Addr), T1), (some ⟨t2, 0, none⟩, T2), (some ⟨t3, 0, none⟩, T3)][i]? = some x → InQ P x.1 := fun P p1 p2 p3 i x hx k e => by
    match i, hx with
    | 0, hx => simp at hx; subst hx; simp at e; exact e ▸ p1
    | 1, hx => simp at hx; subst hx; simp at e; exact e ▸ p2
    | 2, hx => simp at hx; subst hx; simp at e; exact e ▸ p3
    | (i + 3), hx => simp at hx
  refine (seqT_any O Q [((some ⟨t1, 0, none⟩ : Option Addr), T1), (some ⟨t2, 0, none⟩, T2), (some ⟨t3, 0, none⟩, T3)] w.heap.size 0 3 _ (by simp) (by simp) (fun i x hx => ?_) (hi Q q1 q2 q3) (fun k hk => hQ k (by rw [World.size_alloc] at hk; omega))).mono ?_
  · refine ⟨?_, ?_, fun k e => Nat.lt_of_lt_of_le (hi (fun k => k < w.heap.size) l1 l2 l3 i x hx k e) hb.size⟩
    · match i, hx with
      | 0, hx => simp at hx; subst hx; exact hB.cell 0 _ rfl
      | 1, hx => simp at hx; subst hx; exact hB.cell 1 _ rfl
      | 2, hx => simp at hx; subst hx; exact hB.cell 2 _ rfl
      | (i + 3), hx => simp at hx
    · match i, hx with
      | 0, hx => simp at hx; subst hx; exact h1.at hb
      | 1, hx => simp at hx; subst hx; exact h2.at hb
      | 2, hx => simp at hx; subst hx; exact h3.at hb
      | (i + 3), hx => simp at hx
  · rintro e w' ⟨t, rfl, h⟩
    exact ⟨t, rfl, h.of hb⟩
/-- a cell stored in another one -/
def mvT (a b : Nat) : Tre Itm := opT (loadI a) fun v => putT b (IntKind.u64.wrap v)
theorem call_move1 : ∀ (W : World) (args : Array Value), (callFunc 124 args).run Tryz.prog W = .ok (.enter 124 args) W := by
  intro W args
  go_simp
theorem move1_any (C P : Nat) (m : Mp) (Q : Nat → Prop) (b : Nat) (v : Int) (bs bt : Nat) (w : World) (hs : Blk w bs 104 (stockCs C m)) (ht : Blk w bt 3 #[.int .i64 (b : Int)]) (hQ : ∀ k, w.heap.size ≤ k → Q k) :
    Calls Tryz.prog 124 #[.int .i64 v, pV bs, pV bt] w fun e w' => ∃ t, e = .returned (pV t) ∧ MadeQ (cellOps C P) w Q (putT b (IntKind.u64.wrap v)) t w' := by
  have c0 : w.cell? ⟨bs, 0, none⟩ = some (cellsV C) := hs.cell 0 _ rfl
  have c1 : w.cell? ⟨bt, 0, none⟩ = some (.int .i64 (b : Int)) := ht.cell 0 _ rfl
  have HS := Lib.hid (poStore C P Q b (IntKind.u64.wrap v) w hQ)
  clear hQ hs ht
  go_enter Tryz.func124, Tryz.ntmps124
  go_wp2_with (go_at_call 79; refine HS.out.mono ?_; rintro e w2 ⟨t, rfl, h⟩)
  go_ret
  exact ⟨t, rfl, h⟩
theorem move_any (C P : Nat) (m : Mp) (Q : Nat → Prop) (a b : Nat) (w : World) (hQ : ∀ k, w.heap.size ≤ k → Q k) {aI bI : Int} (ha : aI = a) (hb : bI = b) :
    Calls Tryz.prog 98 #[stockV C m, .int .i64 aI, .int .i64 bI] w fun e w' => ∃ t, e = .returned (pV t) ∧ MadeQ (cellOps C P) w Q (mvT a b) t w' := by
  subst ha hb
  have hmf : ∀ (fn : Fn) (first cap : Array Value) (w : World), (Instr.makeFunc fn first cap).run Tryz.prog w = .ok (.func fn first cap) w := fun _ _ _ _ => rfl
  have HQ := Lib.hid hQ
  clear hQ
  go_enter Tryz.func98, Tryz.ntmps98
  go_upto_region 1 with fail
  generalize hW : ((w.alloc _).alloc _) = W
  have bW : Below w.heap.size w W := by rw [← hW]; go_grown
  have sW : W.heap.size = w.heap.size + 2 := by rw [← hW]; simp
  have q0 : Blk W w.heap.size 104 (stockCs C m) := by rw [← hW]; exact (Blk.new w _ _).alloc _
  have q1 : Blk W (w.heap.size + 1) 3 #[.int .i64 (b : Int)] := by rw [← hW]; exact blk_two w _ _ _
  clear hW
  have c0 : W.cell? ⟨w.heap.size, 0, none⟩ = some (cellsV C) := q0.cell 0 _ rfl
  have HL := Lib.hid (poLoad C P Q a W (fun k hk => HQ.out k (by omega)))
  have HT := Lib.hid fun w2 t1 (hM : MadeQ (cellOps C P) W Q (opT (loadI a) retT) t1 w2) => poThen C P Q t1 124 #[pV w.heap.size, pV (w.heap.size + 1)] (opT (loadI a) retT) (fun v => putT b (IntKind.u64.wrap v)) w2 hM.task (fun k hk => HQ.out k (by have := hM.2.2.size; omega)) call_move1 (fun v w4 hk => by
    have s2 := hM.2.2.size
    exact move1_any C P m _ b v _ _ w4 ((q0.below hM.2.2 q0.lt).keep hk (fun h => h ⟨HQ.out _ (by omega), by omega⟩)) ((q1.below hM.2.2 q1.lt).keep hk (fun h => h ⟨HQ.out _ (by omega), by omega⟩)) (fun k hk => hk))
  clear q0 q1
  go_wp2_with (first
    | (go_at_call 95; refine HL.out.mono ?_; rintro e w2 ⟨t1, rfl, h1⟩; have HT2 := Lib.hid (HT.out w2 t1 h1))
    | (go_at_call 81; refine HT2.out.mono ?_; rintro e w4 ⟨t, rfl, h2⟩))
  go_ret
  rw [bind_load] at h2
  exact ⟨t, rfl, h2.of (bW.trans (h1.2.2.mono bW.size))⟩
/-- Take's work behind the load of the head -/
def takeK (m : Mp) (v : Int) : Tre Itm := if pmS m (IntKind.u64.wrap v) = -1 then retT (-1) else seqT [mvT (linkN m (pmS m (IntKind.u64.wrap v))) 1, retT (pmS m (IntKind.u64.wrap v))]
def takeB (m : Mp) : Tre Itm := opT (loadI 1) (takeK m)
theorem call_take11 : ∀ (W : World) (args : Array Value), (callFunc 96 args).run Tryz.prog W = .ok (.enter 96 args) W := by
  intro W args
  go_simp
theorem call_take1 : ∀ (W : World) (args : Array Value), (callFunc 94 args).run Tryz.prog W = .ok (.enter 94 args) W := by
  intro W args
  go_simp
theorem stock4 {w : World} {b C : Nat} {m : Mp} (h : Blk w b 104 (stockCs C m)) : w.cell? ⟨b, 0, none⟩ = some (cellsV C) ∧ w.cell? ⟨b, 1, none⟩ = some (.int .i64 (m.t : Int)) ∧ w.cell? ⟨b, 2, none⟩ = some (.int .i64 (m.o : Int)) ∧ w.cell? ⟨b, 3, none⟩ = some (.int .i64 (m.n : Int)) := ⟨h.cell 0 _ rfl, h.cell 1 _ rfl, h.cell 2 _ rfl, h.cell 3 _ rfl⟩
set_option maxHeartbeats 2000000 in
theorem take11_any (C P : Nat) (m : Mp) (Q : Nat → Prop) (v : Int) (bs : Nat) (w : World) (hm : m.ok) (hs : Blk w bs 104 (stockCs C m)) (hQ : ∀ k, w.heap.size ≤ k → Q k) :
    Calls Tryz.prog 96 #[.int .i64 v, pV bs] w fun e w' => ∃ t, e = .returned (pV t) ∧ MadeQ (cellOps C P) w Q (takeK m v) t w' := by
  have hu := u64_range v
  have hr := pmS_range (m := m) hu.1
  have hn := hm.n
  have HK := Lib.hid fun V => pmarked_any C m (IntKind.u64.wrap v) V hm hu
  have HX := Lib.hid fun V => fun h => link_any m (pmS m (IntKind.u64.wrap v)) V hm h
  have HH := Lib.hid fun V => head_any m V
  unfold takeK
  generalize pmS m (IntKind.u64.wrap v) = n at *
  have SK := Lib.hid (show ∀ V, Below w.heap.size w V → (V.cell? ⟨bs, 0, none⟩ = some (cellsV C) ∧ V.cell? ⟨bs, 1, none⟩ = some (.int .i64 (m.t : Int)) ∧ V.cell? ⟨bs, 2, none⟩ = some (.int .i64 (m.o : Int)) ∧ V.cell? ⟨bs, 3, none⟩ = some (.int .i64 (m.n : Int))) from fun V hk => stock4 (hs.below hk hs.lt))
  obtain ⟨d0, d1, d2, d3⟩ := stock4 hs
  have HQ := Lib.hid hQ
  clear hs hQ hm hu
  go_enter Tryz.func96, Tryz.ntmps96
  go_upto_region 2 with (go_at_call 97; refine (HK.out _).mono ?_; rintro e w1 ⟨rfl, b1⟩)
  clear d0 d1 d2 d3
  by_cases hn1 : n = -1
  · subst hn1
    go_wp2_with (go_at_call 53; refine (poReady C P Q (-1) _).mono ?_; rintro e w2 ⟨t', rfl, h1⟩)
    go_ret
    exact ⟨t', rfl, h1.of b1⟩
  · have s1 := b1.size
    have HMv := Lib.hid fun V (hV : Below w.heap.size w V) => move_any C P m Q (linkN m n) 1 V (fun k hk => HQ.out k (by have := hV.size; omega)) rfl rfl
    have HR := Lib.hid fun V => poReady C P Q n V
    have HSQ := Lib.hid fun V t1 t2 (hV : Below w.heap.size w V) h1 h2 q1 q2 => seqT_two (cellOps C P) Q (mvT (linkN m n) 1) (retT n) t1 t2 V h1 h2 q1 q2 (fun k hk => HQ.out k (by have := hV.size; omega))
    have HX2 := Lib.hid fun V => HX.out V ⟨by omega, by omega⟩
    have hne : (n == -1) = false := by rw [beq_eq_false_iff_ne]; exact hn1
    have bd : Below w.heap.size w w1.drew := b1.trans ((bdrewP w1).mono s1)
    clear HX HK hr hn
    have HN1 := Lib.hid hn1
    go_upto_region 4 with fail
    go_region_held3 (fun V => V.cell? ⟨bs, 0, none⟩ = some (cellsV C) ∧ V.cell? ⟨bs, 1, none⟩ = some (.int .i64 (m.t : Int)) ∧ V.cell? ⟨bs, 2, none⟩ = some (.int .i64 (m.o : Int)) ∧ V.cell? ⟨bs, 3, none⟩ = some (.int .i64 (m.n : Int))) (first | exact SK.out _ b7 | exact SK.out _ bA | exact SK.out _ b5 | exact SK.out _ b4 | exact SK.out _ b3 | exact SK.out _ b2 | exact SK.out _ bd) (first
      | (go_at_call 41; (with_reducible refine (HX2.out _).mono ?_); rintro e w2 ⟨rfl, hb2⟩; have b2 : Below w.heap.size w w2 := bd.trans (hb2.mono bd.size))
      | (go_at_call 35; (with_reducible refine (HH.out _).mono ?_); rintro e w3 ⟨rfl, hb3⟩; have b3 : Below w.heap.size w w3 := b2.trans (hb3.mono b2.size); have HMv2 := Lib.hid (HMv.out w3 b3))
      | (go_at_call 98; refine HMv2.out.mono ?_; rintro e w4 ⟨t1, rfl, hM1⟩; have b4 : Below w.heap.size w w4 := b3.trans (hM1.2.2.mono b3.size); have HR2 := Lib.hid (HR.out w4))
      | (go_at_call 53; (with_reducible refine HR2.out.mono ?_); rintro e w5 ⟨t2, rfl, hM2⟩; have b5 : Below w.heap.size w w5 := b4.trans (hM2.2.2.mono b4.size); have HSQ2 := Lib.hid (HSQ.out w5 t1 t2 b5 (hM1.task.at hM2.2.2) hM2.task (HQ.out _ (by have := b3.size; have := hM1.1; omega)) (HQ.out _ (by have := b4.size; have := hM2.1; omega))); have bA : Below w.heap.size w (w5.alloc (.cells #[pV t1, pV t2] 40)) := b5.trans (((Below.refl _ w5).alloc (Nat.le_refl _) _).mono b5.size))
      | (go_at_call 78; (with_reducible refine HSQ2.out.mono ?_); rintro e w7 ⟨t3, rfl, hM3⟩; have b7 : Below w.heap.size w w7 := b5.trans (hM3.2.2.mono b5.size)))
    all_goals go_wp2
    all_goals go_ret
    all_goals exact ⟨t3, rfl, hM3.of b5⟩
end Go.Proofs.YtpejmkoheodblaaGreat
/- Package pool: Take and Back. -/
namespace Go.Proofs.YtpejmkoheodblaaGreat
open Go.ChangeShapes Go.WideShapes Go.ChangeAt Go.RowKit
set_option linter.unusedVariables false
set_option maxRecDepth 100000
set_option linter.unusedSimpArgs false
/-- Back's work behind the load of the generation -/
def backK (m : Mp) (n : Int) (v : Int) : Tre Itm := if 4095 ≤ IntKind.u64.wrap v then retT 0 else seqT [mvT 1 (linkN m n), putT 1 (n + 1), retT 1]
def backB (m : Mp) (n : Int) : Tre Itm := opT (loadI (genN m n)) (backK m n)
theorem call_back11 : ∀ (W : World) (args : Array Value), (callFunc 100 args).run Tryz.prog W = .ok (.enter 100 args) W := by
  intro W args
  go_simp
theorem call_back1 : ∀ (W : World) (args : Array Value), (callFunc 99 args).run Tryz.prog W = .ok (.enter 99 args) W := by
  intro W args
  go_simp
set_option maxHeartbeats 4000000 in
theorem back11_any (C P : Nat) (m : Mp) (Q : Nat → Prop) (n v : Int) (bs bn : Nat) (w : World) (hm : m.ok) (hn : 0 ≤ n ∧ n < m.n) (hs : Blk w bs 104 (stockCs C m)) (hb : Blk w bn 3 #[.int .i64 n]) (hQ : ∀ k, w.heap.size ≤ k → Q k) :
    Calls Tryz.prog 100 #[.int .i64 v, pV bs, pV bn] w fun e w' => ∃ t, e = .returned (pV t) ∧ MadeQ (cellOps C P) w Q (backK m n v) t w' := by
  have hu := u64_range v
  have hmn := hm.n
  have HX := Lib.hid fun V => link_any m n V hm ⟨hn.1, by omega⟩
  have HH := Lib.hid fun V => head_any m V
  have HK := Lib.hid fun V => pmark_any n V (by omega)
  have SK := Lib.hid (show ∀ V, Below w.heap.size w V → (V.cell? ⟨bs, 0, none⟩ = some (cellsV C) ∧ V.cell? ⟨bs, 1, none⟩ = some (.int .i64 (m.t : Int)) ∧ V.cell? ⟨bs, 2, none⟩ = some (.int .i64 (m.o : Int)) ∧ V.cell? ⟨bs, 3, none⟩ = some (.int .i64 (m.n : Int))) ∧ V.cell? ⟨bn, 0, none⟩ = some (.int .i64 n) from fun V hk => ⟨stock4 (hs.below hk hs.lt), (hb.below hk hb.lt).cell 0 _ rfl⟩)
  have HQ := Lib.hid hQ
  unfold backK
  clear hs hb hQ hm hmn hn hu
  by_cases hv : 4095 ≤ IntKind.u64.wrap v
  · go_enter Tryz.func100, Tryz.ntmps100
    go_wp2_with (go_at_call 53; refine (poReady C P Q 0 _).mono ?_; rintro e w2 ⟨t', rfl, h1⟩)
    go_ret
    exact ⟨t', rfl, h1⟩
  · have HMv := Lib.hid fun V (hV : Below w.heap.size w V) => move_any C P m Q 1 (linkN m n) V (fun k hk => HQ.out k (by have := hV.size; omega)) (aI := 1) rfl rfl
    have HS := Lib.hid fun V (hV : Below w.heap.size w V) => (show Calls Tryz.prog 79 #[cellsV C, .int .i64 1, .int .u64 (n + 1)] V fun e w' => ∃ t, e = .returned (pV t) ∧ MadeQ (cellOps C P) V Q (putT 1 (n + 1)) t w' from poStore C P Q 1 (n + 1) V (fun k hk => HQ.out k (by have := hV.size; omega)))
    have HR := Lib.hid fun V => poReady C P Q 1 V
    have HSQ := Lib.hid fun V t1 t2 t3 (hV : Below w.heap.size w V) h1 h2 h3 q1 q2 q3 => seqT_three (cellOps C P) Q (mvT 1 (linkN m n)) (putT 1 (n + 1)) (retT 1) t1 t2 t3 V h1 h2 h3 q1 q2 q3 (fun k hk => HQ.out k (by have := hV.size; omega))
    have bd : Below w.heap.size w w.drew := bdrewP w
    go_enter Tryz.func100, Tryz.ntmps100
    go_upto_region 3 with fail
    go_region_held3 (fun V => (V.cell? ⟨bs, 0, none⟩ = some (cellsV C) ∧ V.cell? ⟨bs, 1, none⟩ = some (.int .i64 (m.t : Int)) ∧ V.cell? ⟨bs, 2, none⟩ = some (.int .i64 (m.o : Int)) ∧ V.cell? ⟨bs, 3, none⟩ = some (.int .i64 (m.n : Int))) ∧ V.cell? ⟨bn, 0, none⟩ = some (.int .i64 n)) (first | exact SK.out _ b9 | exact SK.out _ bA | exact SK.out _ b7 | exact SK.out _ b6 | exact SK.out _ b5 | exact SK.out _ b4 | exact SK.out _ b3 | exact SK.out _ b2 | exact SK.out _ bd) (first
      | (go_at_call 35; (with_reducible refine (HH.out _).mono ?_); rintro e w2 ⟨rfl, hb2⟩; have b2 : Below w.heap.size w w2 := bd.trans (hb2.mono bd.size))
      | (go_at_call 41; (with_reducible refine (HX.out _).mono ?_); rintro e w3 ⟨rfl, hb3⟩; have b3 : Below w.heap.size w w3 := b2.trans (hb3.mono b2.size); have HMv2 := Lib.hid (HMv.out w3 b3))
      | (go_at_call 98; (with_reducible refine HMv2.out.mono ?_); rintro e w4 ⟨t1, rfl, hM1⟩; have b4 : Below w.heap.size w w4 := b3.trans (hM1.2.2.mono b3.size); have HH2 := Lib.hid (HH.out w4))
      | (go_at_call 35; (with_reducible refine HH2.out.mono ?_); rintro e w5 ⟨rfl, hb5⟩; have b5 : Below w.heap.size w w5 := b4.trans (hb5.mono b4.size); have HS2 := Lib.hid (HS.out w5 b5))
      | (go_at_call 63; (with_reducible refine (HK.out _).mono ?_); rintro e w5b ⟨rfl, rfl⟩)
      | (go_at_call 79; (with_reducible refine HS2.out.mono ?_); rintro e w6 ⟨t2, rfl, hM2⟩; have b6 : Below w.heap.size w w6 := b5.trans (hM2.2.2.mono b5.size); have HR2 := Lib.hid (HR.out w6))
      | (go_at_call 53; (with_reducible refine HR2.out.mono ?_); rintro e w7 ⟨t3, rfl, hM3⟩; have b7 : Below w.heap.size w w7 := b6.trans (hM3.2.2.mono b6.size); have b47 : Below w4.heap.size w4 w7 := (hb5.trans (hM2.2.2.mono hb5.size)).trans (hM3.2.2.mono (Nat.le_trans hb5.size hM2.2.2.size)); have HSQ2 := Lib.hid (HSQ.out w7 t1 t2 t3 b7 (hM1.task.at b47) (hM2.task.at hM3.2.2) hM3.task (HQ.out _ (by have := b3.size; have := hM1.1; omega)) (HQ.out _ (by have := b5.size; have := hM2.1; omega)) (HQ.out _ (by have := b6.size; have := hM3.1; omega))); have bA : Below w.heap.size w (w7.alloc (.cells #[pV t1, pV t2, pV t3] 40)) := b7.trans (((Below.refl _ w7).alloc (Nat.le_refl _) _).mono b7.size))
      | (go_at_call 78; (with_reducible refine HSQ2.out.mono ?_); rintro e w9 ⟨t4, rfl, hM4⟩; have b9 : Below w.heap.size w w9 := b7.trans (hM4.2.2.mono b7.size)))
    all_goals go_wp2
    all_goals go_ret
    all_goals exact ⟨t4, rfl, hM4.of b7⟩
set_option maxHeartbeats 2000000 in
theorem take1_any (C P : Nat) (m : Mp) (Q : Nat → Prop) (bs : Nat) (w : World) (hm : m.ok) (hs : Blk w bs 104 (stockCs C m)) (hqs : Q bs) (hQ : ∀ k, w.heap.size ≤ k → Q k) :
    Calls Tryz.prog 94 #[pV bs] w fun e w' => ∃ t, e = .returned (pV t) ∧ MadeQ (cellOps C P) w Q (takeB m) t w' := by
  have hmf : ∀ (fn : Fn) (first cap : Array Value) (w : World), (Instr.makeFunc fn first cap).run Tryz.prog w = .ok (.func fn first cap) w := fun _ _ _ _ => rfl
  have HH := Lib.hid fun V => head_any m V
  have SK := Lib.hid (show ∀ V, Below w.heap.size w V → (V.cell? ⟨bs, 0, none⟩ = some (cellsV C) ∧ V.cell? ⟨bs, 1, none⟩ = some (.int .i64 (m.t : Int)) ∧ V.cell? ⟨bs, 2, none⟩ = some (.int .i64 (m.o : Int)) ∧ V.cell? ⟨bs, 3, none⟩ = some (.int .i64 (m.n : Int))) from fun V hk => stock4 (hs.below hk hs.lt))
  have HQ := Lib.hid hQ
  have HL := Lib.hid fun V (hV : Below w.heap.size w V) => (show Calls Tryz.prog 95 #[cellsV C, .int .i64 1] V fun e w' => ∃ t, e = .returned (pV t) ∧ MadeQ (cellOps C P) V Q (opT (loadI 1) retT) t w' from poLoad C P Q 1 V (fun k hk => HQ.out k (by have := hV.size; omega)))
  have HT := Lib.hid fun w2 t1 (hV : Below w.heap.size w w2) hM => poThen C P Q t1 96 #[pV bs] (opT (loadI 1) retT) (takeK m) w2 hM (fun k hk => HQ.out k (by have := hV.size; omega)) call_take11 (fun v w4 hk => take11_any C P m _ v bs w4 hm ((hs.below hV hs.lt).keep hk (fun h => h ⟨hqs, Nat.lt_of_lt_of_le hs.lt hV.size⟩)) (fun k hk => hk))
  have bd := bdrewP w
  clear hs hQ hm hqs
  go_enter Tryz.func94, Tryz.ntmps94
  go_upto_region 1 with fail
  go_region_held3 (fun V => V.cell? ⟨bs, 0, none⟩ = some (cellsV C) ∧ V.cell? ⟨bs, 1, none⟩ = some (.int .i64 (m.t : Int)) ∧ V.cell? ⟨bs, 2, none⟩ = some (.int .i64 (m.o : Int)) ∧ V.cell? ⟨bs, 3, none⟩ = some (.int .i64 (m.n : Int))) (first | exact SK.out _ b5 | exact SK.out _ b4 | exact SK.out _ b3 | exact SK.out _ b2 | exact SK.out _ bd) (first
    | (go_at_call 35; (with_reducible refine (HH.out _).mono ?_); rintro e w2 ⟨rfl, hb2⟩; have b2 : Below w.heap.size w w2 := bd.trans hb2; have HL2 := Lib.hid (HL.out w2 b2))
    | (go_at_call 95; (with_reducible refine HL2.out.mono ?_); rintro e w3 ⟨t1, rfl, hM1⟩; have b3 : Below w.heap.size w w3 := b2.trans (hM1.2.2.mono b2.size); have HT2 := Lib.hid (HT.out w3 t1 b3 hM1.task))
    | (go_at_call 81; (with_reducible refine HT2.out.mono ?_); rintro e w4 ⟨t2, rfl, hM2⟩; have b4 : Below w.heap.size w w4 := b3.trans (hM2.2.2.mono b3.size)))
  all_goals go_wp2
  all_goals go_ret
  all_goals rw [bind_load] at hM2
  all_goals exact ⟨t2, rfl, hM2.of b3⟩
set_option maxHeartbeats 2000000 in
theorem back1_any (C P : Nat) (m : Mp) (Q : Nat → Prop) (n : Int) (bs bn : Nat) (w : World) (hm : m.ok) (hn : 0 ≤ n ∧ n < m.n) (hs : Blk w bs 104 (stockCs C m)) (hb : Blk w bn 3 #[.int .i64 n]) (hqs : Q bs) (hqb : Q bn) (hQ : ∀ k, w.heap.size ≤ k → Q k) :
    Calls Tryz.prog 99 #[pV bs, pV bn] w fun e w' => ∃ t, e = .returned (pV t) ∧ MadeQ (cellOps C P) w Q (backB m n) t w' := by
  have hmf : ∀ (fn : Fn) (first cap : Array Value) (w : World), (Instr.makeFunc fn first cap).run Tryz.prog w = .ok (.func fn first cap) w := fun _ _ _ _ => rfl
  have hmn := hm.n
  have HG := Lib.hid fun V => gen_any m n V hm ⟨hn.1, by omega⟩
  have SK := Lib.hid (show ∀ V, Below w.heap.size w V → (V.cell? ⟨bs, 0, none⟩ = some (cellsV C) ∧ V.cell? ⟨bs, 1, none⟩ = some (.int .i64 (m.t : Int)) ∧ V.cell? ⟨bs, 2, none⟩ = some (.int .i64 (m.o : Int)) ∧ V.cell? ⟨bs, 3, none⟩ = some (.int .i64 (m.n : Int))) ∧ V.cell? ⟨bn, 0, none⟩ = some (.int .i64 n) from fun V hk => ⟨stock4 (hs.below hk hs.lt), (hb.below hk hb.lt).cell 0 _ rfl⟩)
  have HQ := Lib.hid hQ
  have HL := Lib.hid fun V (hV : Below w.heap.size w V) => poLoad C P Q (genN m n) V (fun k hk => HQ.out k (by have := hV.size; omega))
  have HT := Lib.hid fun w2 t1 (hV : Below w.heap.size w w2) hM => poThen C P Q t1 100 #[pV bs, pV bn] (opT (loadI (genN m n)) retT) (backK m n) w2 hM (fun k hk => HQ.out k (by have := hV.size; omega)) call_back11 (fun v w4 hk => back11_any C P m _ n v bs bn w4 hm hn ((hs.below hV hs.lt).keep hk (fun h => h ⟨hqs, Nat.lt_of_lt_of_le hs.lt hV.size⟩)) ((hb.below hV hb.lt).keep hk (fun h => h ⟨hqb, Nat.lt_of_lt_of_le hb.lt hV.size⟩)) (fun k hk => hk))
  have bd := bdrewP w
  clear hs hb hQ hm hqs hqb hmn hn
  go_enter Tryz.func99, Tryz.ntmps99
  go_upto_region 1 with fail
  go_region_held3 (fun V => (V.cell? ⟨bs, 0, none⟩ = some (cellsV C) ∧ V.cell? ⟨bs, 1, none⟩ = some (.int .i64 (m.t : Int)) ∧ V.cell? ⟨bs, 2, none⟩ = some (.int .i64 (m.o : Int)) ∧ V.cell? ⟨bs, 3, none⟩ = some (.int .i64 (m.n : Int))) ∧ V.cell? ⟨bn, 0, none⟩ = some (.int .i64 n)) (first | exact SK.out _ b5 | exact SK.out _ b4 | exact SK.out _ b3 | exact SK.out _ b2 | exact SK.out _ bd) (first
    | (go_at_call 61; (with_reducible refine (HG.out _).mono ?_); rintro e w2 ⟨rfl, hb2⟩; have b2 : Below w.heap.size w w2 := bd.trans hb2; have HL2 := Lib.hid (HL.out w2 b2))
    | (go_at_call 95; (with_reducible refine HL2.out.mono ?_); rintro e w3 ⟨t1, rfl, hM1⟩; have b3 : Below w.heap.size w w3 := b2.trans (hM1.2.2.mono b2.size); have HT2 := Lib.hid (HT.out w3 t1 b3 hM1.task))
    | (go_at_call 81; (with_reducible refine HT2.out.mono ?_); rintro e w4 ⟨t2, rfl, hM2⟩; have b4 : Below w.heap.size w w4 := b3.trans (hM2.2.2.mono b3.size)))
  all_goals go_wp2
  all_goals go_ret
  all_goals rw [bind_load] at hM2
  all_goals exact ⟨t2, rfl, hM2.of b3⟩
/-- under the latch -/
theorem under_any (C P : Nat) (m : Mp) (Q : Nat → Prop) (t : Int) (F : Nat) (caps : Array Value) (B : Tre Itm) (w : World) (hB : BodyIs (cellOps C P) w Q (cloV F caps) B) (hQ : ∀ k, w.heap.size ≤ k → Q k) :
    Calls Tryz.prog 93 #[stockV C m, .int .i64 t, cloV F caps] w fun e w' => ∃ k, e = .returned (pV k) ∧ MadeT (cellOps C P) w Q (guardT 0 t B) k w' := by
  have HL := Lib.hid fun V => latch_any m V
  have HQ := Lib.hid hQ
  have HG := Lib.hid fun V (hV : Below w.heap.size w V) => guard_any C P Q 0 t (cloV F caps) B V (.inr ⟨_, _, rfl⟩) (hB.later (Keep.ofBelow hV) (fun _ _ h => h)) (fun k hk => HQ.out k (by have := hV.size; omega))
  clear hB hQ
  go_enter Tryz.func93, Tryz.ntmps93
  go_upto_region 1 with fail
  generalize hW : (w.alloc _) = W
  have bW : Below w.heap.size w W := by rw [← hW]; go_grown
  have q0 : Blk W w.heap.size 104 (stockCs C m) := by rw [← hW]; exact Blk.new w _ _
  clear hW
  have hl := q0.lt
  have SK := Lib.hid (show ∀ V, Below W.heap.size W V → (V.cell? ⟨w.heap.size, 0, none⟩ = some (cellsV C) ∧ V.cell? ⟨w.heap.size, 1, none⟩ = some (.int .i64 (m.t : Int)) ∧ V.cell? ⟨w.heap.size, 2, none⟩ = some (.int .i64 (m.o : Int)) ∧ V.cell? ⟨w.heap.size, 3, none⟩ = some (.int .i64 (m.n : Int))) from fun V hk => stock4 (q0.below hk hl))
  have bd := bdrewP W
  clear q0
  go_region_held3 (fun V => V.cell? ⟨w.heap.size, 0, none⟩ = some (cellsV C) ∧ V.cell? ⟨w.heap.size, 1, none⟩ = some (.int .i64 (m.t : Int)) ∧ V.cell? ⟨w.heap.size, 2, none⟩ = some (.int .i64 (m.o : Int)) ∧ V.cell? ⟨w.heap.size, 3, none⟩ = some (.int .i64 (m.n : Int))) (first | exact SK.out _ b3 | exact SK.out _ b2 | exact SK.out _ bd) (first
    | (go_at_call 43; (with_reducible refine (HL.out _).mono ?_); rintro e w2 ⟨rfl, hb2⟩; have b2 : Below W.heap.size W w2 := bd.trans hb2; have HG2 := Lib.hid (HG.out w2 (bW.trans (b2.mono bW.size))))
    | (go_at_call 121; refine HG2.out.mono ?_; rintro e w3 ⟨k, rfl, hM⟩; have b3 : Below W.heap.size W w3 := b2.trans (hM.2.2.mono b2.size)))
  all_goals go_wp2
  all_goals go_ret
  all_goals exact ⟨k, rfl, hM.from (bW.trans (b2.mono bW.size))⟩
theorem stake_any (C P : Nat) (m : Mp) (Q : Nat → Prop) (t : Int) (w : World) (hm : m.ok) (hQ : ∀ k, w.heap.size ≤ k → Q k) :
    Calls Tryz.prog 65 #[stockV C m, .int .i64 t] w fun e w' => ∃ k, e = .returned (pV k) ∧ MadeT (cellOps C P) w Q (guardT 0 t (takeB m)) k w' := by
  have hmf : ∀ (fn : Fn) (first cap : Array Value) (w : World), (Instr.makeFunc fn first cap).run Tryz.prog w = .ok (.func fn first cap) w := fun _ _ _ _ => rfl
  have HQ := Lib.hid hQ
  clear hQ
  go_enter Tryz.func65, Tryz.ntmps65
  go_upto_region 1 with fail
  generalize hW : (w.alloc _) = W
  have bW : Below w.heap.size w W := by rw [← hW]; go_grown
  have q0 : Blk W w.heap.size 104 (stockCs C m) := by rw [← hW]; exact Blk.new w _ _
  clear hW
  have sW := bW.size
  obtain ⟨d0, d1, d2, d3⟩ := stock4 q0
  have HU := Lib.hid (under_any C P m Q t 94 #[pV w.heap.size] (takeB m) W (by
    intro V hV
    have qa := HQ.out w.heap.size (Nat.le_refl _)
    have hlt := q0.lt
    refine called_some 94 _ V _ call_take1 ((take1_any C P m (fun b => (Q b ∧ b < W.heap.size) ∨ V.heap.size ≤ b) w.heap.size V hm (q0.keep hV (fun h => h qa)) (.inl ⟨qa, hlt⟩) (fun k hk => .inr hk)).mono ?_)
    rintro e V' ⟨t', rfl, hM⟩
    exact ⟨some ⟨t', 0, none⟩, rfl, hM.2.2, hM.task, fun j e => by injection e with e; injection e with e; rw [← e]; exact .inr hM.1⟩) (fun k hk => HQ.out k (by omega)))
  clear q0
  go_wp2_with (go_at_call 93; refine HU.out.mono ?_; rintro e w2 ⟨k, rfl, hM⟩)
  go_ret
  exact ⟨k, rfl, hM.from bW⟩
theorem sback_any (C P : Nat) (m : Mp) (Q : Nat → Prop) (t n : Int) (w : World) (hm : m.ok) (hn : 0 ≤ n ∧ n < m.n) (hQ : ∀ k, w.heap.size ≤ k → Q k) :
    Calls Tryz.prog 66 #[stockV C m, .int .i64 t, .int .i64 n] w fun e w' => ∃ k, e = .returned (pV k) ∧ MadeT (cellOps C P) w Q (guardT 0 t (backB m n)) k w' := by
  have hmf : ∀ (fn : Fn) (first cap : Array Value) (w : World), (Instr.makeFunc fn first cap).run Tryz.prog w = .ok (.func fn first cap) w := fun _ _ _ _ => rfl
  have HQ := Lib.hid hQ
  clear hQ
  go_enter Tryz.func66, Tryz.ntmps66
  go_upto_region 1 with fail
  generalize hW : ((w.alloc _).alloc _) = W
  have bW : Below w.heap.size w W := by rw [← hW]; go_grown
  have sW : W.heap.size = w.heap.size + 2 := by rw [← hW]; simp
  have q0 : Blk W w.heap.size 104 (stockCs C m) := by rw [← hW]; exact (Blk.new w _ _).alloc _
  have q1 : Blk W (w.heap.size + 1) 3 #[.int .i64 n] := by rw [← hW]; exact blk_two w _ _ _
  clear hW
  obtain ⟨d0, d1, d2, d3⟩ := stock4 q0
  have HU := Lib.hid (under_any C P m Q t 99 #[pV w.heap.size, pV (w.heap.size + 1)] (backB m n) W (by
    intro V hV
    have qa := HQ.out w.heap.size (Nat.le_refl _)
    have qb := HQ.out (w.heap.size + 1) (by omega)
    refine called_some 99 _ V _ call_back1 ((back1_any C P m (fun b => (Q b ∧ b < W.heap.size) ∨ V.heap.size ≤ b) n w.heap.size (w.heap.size + 1) V hm hn (q0.keep hV (fun h => h qa)) (q1.keep hV (fun h => h qb)) (.inl ⟨qa, q0.lt⟩) (.inl ⟨qb, q1.lt⟩) (fun k hk => .inr hk)).mono ?_)
    rintro e V' ⟨t', rfl, hM⟩
    exact ⟨some ⟨t', 0, none⟩, rfl, hM.2.2, hM.task, fun j e => by injection e with e; injection e with e; rw [← e]; exact .inr hM.1⟩) (fun k hk => HQ.out k (by omega)))
  clear q0 q1 sW
  go_wp2_with (go_at_call 93; refine HU.out.mono ?_; rintro e w2 ⟨k, rfl, hM⟩)
  go_ret
  exact ⟨k, rfl, hM.from bW⟩
def takeT (m : Mp) (t : Int) : Tre Itm := guardT 0 t (takeB m)
def backT (m : Mp) (t n : Int) : Tre Itm := guardT 0 t (backB m n)
theorem ptake_any (C P : Nat) (m : Mp) (Q : Nat → Prop) (t : Int) (N : Nat) (w : World) (hm : m.ok) (ht : 0 ≤ t) (hN : sizeN m ≤ N) (hL : ∀ W, Below w.heap.size w W → Calls Tryz.prog 52 #[cellsV C] W fun e w' => e = .returned (.int .i64 (N : Int)) ∧ Below W.heap.size W w') (hQ : ∀ k, w.heap.size ≤ k → Q k) :
    Calls Tryz.prog 33 #[cellsV C, mapV m, .int .i64 t] w fun e w' => ∃ k, e = .returned (pV k) ∧ MadeT (cellOps C P) w Q (takeT m t) k w' := by
  have HQ := Lib.hid hQ
  have HO := Lib.hid fun V (hV : Below w.heap.size w V) => popen_yes (cellsV C) m t N V hm ht hN (fun W hW => hL W (hV.trans (hW.mono hV.size)))
  have HS := Lib.hid fun V (hV : Below w.heap.size w V) => stake_any C P m Q t V hm (fun k hk => HQ.out k (by have := hV.size; omega))
  clear hQ hm hL
  go_enter Tryz.func33, Tryz.ntmps33
  go_upto_region 1 with fail
  generalize hW : (w.alloc _) = W
  have bW : Below w.heap.size w W := by rw [← hW]; go_grown
  have m0 : Blk W w.heap.size 24 #[.int .i64 (m.t : Int), .int .i64 (m.o : Int), .int .i64 (m.n : Int)] := by rw [← hW]; exact Blk.new w _ _
  clear hW
  have c0 := m0.cell 0 _ rfl
  have c1 := m0.cell 1 _ rfl
  have c2 := m0.cell 2 _ rfl
  have HO1 := Lib.hid (HO.out W bW)
  go_wp2_with (first
    | (go_at_call 64; refine HO1.out.mono ?_; rintro e w2 ⟨rfl, b2⟩; have m2 := m0.below b2 m0.lt; clear c0 c1 c2; have c0 := m2.cell 0 _ rfl; have c1 := m2.cell 1 _ rfl; have c2 := m2.cell 2 _ rfl; have HS2 := Lib.hid (HS.out w2 (bW.trans (b2.mono bW.size))))
    | (go_at_call 65; refine HS2.out.mono ?_; rintro e w3 ⟨k, rfl, hM⟩))
  go_ret
  exact ⟨k, rfl, hM.from (bW.trans (b2.mono bW.size))⟩
theorem pback_any (C P : Nat) (m : Mp) (Q : Nat → Prop) (t n : Int) (N : Nat) (w : World) (hm : m.ok) (ht : 0 ≤ t) (hn : 0 ≤ n ∧ n < m.n) (hN : sizeN m ≤ N) (hL : ∀ W, Below w.heap.size w W → Calls Tryz.prog 52 #[cellsV C] W fun e w' => e = .returned (.int .i64 (N : Int)) ∧ Below W.heap.size W w') (hQ : ∀ k, w.heap.size ≤ k → Q k) :
    Calls Tryz.prog 34 #[cellsV C, mapV m, .int .i64 t, .int .i64 n] w fun e w' => ∃ k, e = .returned (pV k) ∧ MadeT (cellOps C P) w Q (backT m t n) k w' := by
  have HQ := Lib.hid hQ
  have HO := Lib.hid fun V (hV : Below w.heap.size w V) => popen_yes (cellsV C) m t N V hm ht hN (fun W hW => hL W (hV.trans (hW.mono hV.size)))
  have HS := Lib.hid fun V (hV : Below w.heap.size w V) => sback_any C P m Q t n V hm hn (fun k hk => HQ.out k (by have := hV.size; omega))
  have hn1 := hn.1
  have hn2 := hn.2
  clear hQ hm hL hn
  go_enter Tryz.func34, Tryz.ntmps34
  go_upto_region 1 with fail
  generalize hW : (w.alloc _) = W
  have bW : Below w.heap.size w W := by rw [← hW]; go_grown
  have m0 : Blk W w.heap.size 24 #[.int .i64 (m.t : Int), .int .i64 (m.o : Int), .int .i64 (m.n : Int)] := by rw [← hW]; exact Blk.new w _ _
  clear hW
  have c0 := m0.cell 0 _ rfl
  have c1 := m0.cell 1 _ rfl
  have c2 := m0.cell 2 _ rfl
  have HO1 := Lib.hid (HO.out W bW)
  go_wp2_with (first
    | (go_at_call 64; refine HO1.out.mono ?_; rintro e w2 ⟨rfl, b2⟩; have m2 := m0.below b2 m0.lt; clear c0 c1 c2; have c0 := m2.cell 0 _ rfl; have c1 := m2.cell 1 _ rfl; have c2 := m2.cell 2 _ rfl; have HS2 := Lib.hid (HS.out w2 (bW.trans (b2.mono bW.size))))
    | (go_at_call 66; refine HS2.out.mono ?_; rintro e w3 ⟨k, rfl, hM⟩))
  go_ret
  exact ⟨k, rfl, hM.from (bW.trans (b2.mono bW.size))⟩
end Go.Proofs.YtpejmkoheodblaaGreat
/- Package pool: the pool as a list, in the values of cells. No program is walked here. -/
namespace Go.Proofs.YtpejmkoheodblaaGreat
set_option linter.unusedVariables false
set_option linter.unusedSimpArgs false
/-- the numbers below n, in rising order -/
def upL (n : Nat) : List Int := (List.range n).map fun k : Nat => (k : Int)
theorem upL_len (n : Nat) : (upL n).length = n := by simp [upL]
theorem upL_at {n k : Nat} (h : k < n) : (upL n)[k]? = some (k : Int) := by simp [upL, h]
theorem upL_mem {n : Nat} {x : Int} : x ∈ upL n ↔ 0 ≤ x ∧ x < n := by
  unfold upL
  rw [List.mem_map]
  constructor
  · rintro ⟨k, hk, rfl⟩
    have := List.mem_range.1 hk
    omega
  · intro h
    exact ⟨x.toNat, List.mem_range.2 (by omega), by omega⟩
theorem upL_nodup (n : Nat) : (upL n).Nodup := by
  unfold upL
  rw [List.nodup_iff_pairwise_ne, List.pairwise_map]
  have := List.nodup_range (n := n)
  rw [List.nodup_iff_pairwise_ne] at this
  exact this.imp fun h e => h (by omega)
theorem upL_drop {n k : Nat} : headOf ((upL n).drop k) = if k < n then (k : Int) + 1 else 0 := by
  by_cases h : k < n
  · have hl : k < (upL n).length := by rw [upL_len]; exact h
    rw [List.drop_eq_getElem_cons hl, if_pos h]
    have := upL_at h
    rw [List.getElem?_eq_getElem hl] at this
    simp [headOf, Option.some.inj this]
  · rw [List.drop_eq_nil_of_le (by rw [upL_len]; omega), if_neg h]
    rfl
/-- the pool, in the cells -/
structure PIs (m : Mp) (mm : List Int) (L : List Int) : Prop where
  len : sizeN m ≤ mm.length
  head : mm[1]? = some (headOf L)
  next : ∀ (k : Nat) x, L[k]? = some x → mm[linkN m x]? = some (headOf (L.drop (k + 1)))
  nodup : L.Nodup
  low : ∀ x ∈ L, 0 ≤ x ∧ x < (m.n : Int)
theorem PIs.congr {m : Mp} {mm mm' L : List Int} (h : PIs m mm L) (hl : mm'.length = mm.length) (h1 : mm'[1]? = mm[1]?) (h2 : ∀ x ∈ L, mm'[linkN m x]? = mm[linkN m x]?) : PIs m mm' L :=
  ⟨by rw [hl]; exact h.len, h1.trans h.head, fun k x hx => (h2 x (List.mem_of_getElem? hx)).trans (h.next k x hx), h.nodup, h.low⟩
/-- a cell that is none of the pool's -/
theorem PIs.set {m : Mp} {mm L : List Int} (h : PIs m mm L) (i : Nat) (v : Int) (h1 : i ≠ 1) (h2 : ∀ x ∈ L, i ≠ linkN m x) : PIs m (mm.set i v) L :=
  h.congr (by simp) (by rw [List.getElem?_set_ne h1]) (fun x hx => by rw [List.getElem?_set_ne (h2 x hx)])
theorem PIs.pop {m : Mp} {mm r : List Int} {x : Int} (h : PIs m mm (x :: r)) : PIs m (mm.set 1 (headOf r)) r := by
  have hl := h.len
  have hs : 1 < mm.length := by unfold sizeN at hl; omega
  refine ⟨by simpa using hl, by rw [List.getElem?_set_self hs], fun k y hy => ?_, (List.nodup_cons.1 h.nodup).2, fun y hy => h.low y (List.mem_cons_of_mem _ hy)⟩
  have h9 := linkN_two (m := m) (k := y)
  rw [List.getElem?_set_ne (by omega)]
  exact h.next (k + 1) y (by simpa using hy)
theorem PIs.push {m : Mp} {mm L : List Int} {x : Int} (h : PIs m mm L) (hx : 0 ≤ x ∧ x < (m.n : Int)) (hn : x ∉ L) (hk : mm[linkN m x]? = some (headOf L)) : PIs m (mm.set 1 (x + 1)) (x :: L) := by
  have hl := h.len
  have hs : 1 < mm.length := by unfold sizeN at hl; omega
  refine ⟨by simpa using hl, by rw [List.getElem?_set_self hs]; rfl, fun k y hy => ?_, List.nodup_cons.2 ⟨hn, h.nodup⟩, fun y hy => ?_⟩
  · have h9 := linkN_two (m := m) (k := y)
    rw [List.getElem?_set_ne (by omega)]
    cases k with
    | zero =>
      simp at hy
      subst hy
      simpa using hk
    | succ k => simpa using h.next k y (by simpa using hy)
  · rcases List.mem_cons.1 hy with rfl | hy
    · exact hx
    · exact h.low y hy
theorem PIs.headr {m : Mp} {mm L : List Int} (h : PIs m mm L) : 0 ≤ headOf L ∧ headOf L ≤ m.n := by
  cases L with
  | nil => simp [headOf]
  | cons x r => have := h.low x (by simp); simp [headOf]; omega
theorem PIs.tailr {m : Mp} {mm r : List Int} {x : Int} (h : PIs m mm (x :: r)) : 0 ≤ headOf r ∧ headOf r ≤ m.n := by
  cases r with
  | nil => simp [headOf]
  | cons y r => have := h.low y (by simp); simp [headOf]; omega
/- what Lay does -/
def bhN (n j : Nat) : Int := if j = 0 then 0 else (n : Int) - j + 1
def layGo (m : Mp) (mm : List Int) : Nat → List Int
  | 0 => mm
  | j + 1 => (layGo m mm j).set (linkN m ((m.n : Int) - 1 - j)) (bhN m.n j)
def layL (m : Mp) (mm : List Int) : List Int := (layGo m mm m.n).set 1 (bhN m.n m.n)
theorem layGo_len (m : Mp) (mm : List Int) : ∀ j, (layGo m mm j).length = mm.length
  | 0 => rfl
  | j + 1 => by simp [layGo, layGo_len m mm j]
theorem layL_len (m : Mp) (mm : List Int) : (layL m mm).length = mm.length := by simp [layL, layGo_len]
theorem layGo_other (m : Mp) (mm : List Int) (i : Nat) (h : ∀ k : Int, 0 ≤ k → k < m.n → i ≠ linkN m k) : ∀ j, j ≤ m.n → (layGo m mm j)[i]? = mm[i]?
  | 0, _ => rfl
  | j + 1, hj => by
    rw [layGo, List.getElem?_set_ne (Ne.symm (h _ (by omega) (by omega)))]
    exact layGo_other m mm i h j (by omega)
theorem layGo_link (m : Mp) (mm : List Int) (hs : sizeN m ≤ mm.length) (k : Nat) (hk : k < m.n) : ∀ j, j ≤ m.n → m.n - j ≤ k → (layGo m mm j)[linkN m (k : Int)]? = some (bhN m.n (m.n - 1 - k))
  | 0, _, h => by omega
  | j + 1, hj, h => by
    rw [layGo]
    by_cases e : k = m.n - 1 - j
    · have e2 : (m.n : Int) - 1 - (j : Int) = (k : Int) := by omega
      rw [e2, List.getElem?_set_self (by rw [layGo_len]; have := linkN_lt (m := m) (k := (k : Int)) ⟨by omega, by omega⟩; omega)]
      rw [show m.n - 1 - k = j by omega]
    · rw [List.getElem?_set_ne (fun h2 => e (by have := linkN_inj (m := m) (by omega) (by omega) h2; omega))]
      exact layGo_link m mm hs k hk j (by omega) (by omega)
theorem bhN_up (n k : Nat) (h : k < n) : bhN n (n - 1 - k) = headOf ((upL n).drop (k + 1)) := by
  rw [upL_drop]
  unfold bhN
  by_cases e : k + 1 < n
  · rw [if_pos e, if_neg (by omega)]
    omega
  · rw [if_neg e, if_pos (by omega)]
theorem layL_pis (m : Mp) (mm : List Int) (hs : sizeN m ≤ mm.length) : PIs m (layL m mm) (upL m.n) := by
  refine ⟨by rw [layL_len]; exact hs, ?_, fun k x hx => ?_, upL_nodup _, fun x hx => ?_⟩
  · unfold layL
    rw [List.getElem?_set_self (by rw [layGo_len]; unfold sizeN at hs; omega)]
    have := upL_drop (n := m.n) (k := 0)
    rw [List.drop_zero] at this
    rw [this]
    unfold bhN
    by_cases h : m.n = 0
    · simp [h]
    · rw [if_neg h, if_pos (by omega)]
      simp
  · have hk : k < m.n := by
      have := (List.getElem?_eq_some_iff.1 hx).1
      rwa [upL_len] at this
    rw [upL_at hk] at hx
    obtain rfl := Option.some.inj hx
    unfold layL
    rw [List.getElem?_set_ne (by have := linkN_two (m := m) (k := (k : Int)); omega), layGo_link m mm hs k hk m.n (Nat.le_refl _) (by omega), bhN_up _ _ hk]
  · exact upL_mem.1 hx
theorem layL_gen (m : Mp) (mm : List Int) (k : Int) (h : 0 ≤ k) : (layL m mm)[genN m k]? = mm[genN m k]? := by
  unfold layL
  rw [List.getElem?_set_ne (by have := genN_two (m := m) (k := k); omega)]
  exact layGo_other m mm _ (fun j h1 h2 e => linkN_gen h1 h e.symm) _ (Nat.le_refl _)
theorem layL_latch (m : Mp) (mm : List Int) : (layL m mm)[0]? = mm[0]? := by
  unfold layL
  rw [List.getElem?_set_ne (by omega)]
  exact layGo_other m mm _ (fun j h1 h2 e => by have := linkN_two (m := m) (k := j); omega) _ (Nat.le_refl _)
/- the trees, step by step -/
def tk3 (t x u : Int) : Tre Itm := opT (storeN 1 u) fun _ => outT 0 t x
def tk2 (m : Mp) (t x : Int) : Tre Itm := opT (loadI (linkN m x)) fun u => tk3 t x (IntKind.u64.wrap u)
def tk1 (m : Mp) (t : Int) : Tre Itm := opT (loadI 1) fun v => if pmS m (IntKind.u64.wrap v) = -1 then outT 0 t (-1) else tk2 m t (pmS m (IntKind.u64.wrap v))
def bk4 (t n : Int) : Tre Itm := opT (storeN 1 (n + 1)) fun _ => outT 0 t 1
def bk3 (m : Mp) (t n u : Int) : Tre Itm := opT (storeN (linkN m n) u) fun _ => bk4 t n
def bk2 (m : Mp) (t n : Int) : Tre Itm := opT (loadI 1) fun u => bk3 m t n (IntKind.u64.wrap u)
def bk1 (m : Mp) (t n : Int) : Tre Itm := opT (loadI (genN m n)) fun v => if 4095 ≤ IntKind.u64.wrap v then outT 0 t 0 else bk2 m t n
theorem seq2_ret (T : Tre Itm) (n : Int) : seqT [T, retT n] = bindT (fun _ => retT n) T := by
  show bindT (fun _ => bindT retT (retT n)) T = _
  congr 1
  funext u
  rw [bindT_ret]
theorem seq3_ret (T U : Tre Itm) (n : Int) : seqT [T, U, retT n] = bindT (fun _ => bindT (fun _ => retT n) U) T := by
  show bindT (fun _ => seqT [U, retT n]) T = _
  congr 1
  funext u
  exact seq2_ret U n
theorem mv_bind (a b : Nat) (k : Int → Tre Itm) : bindT k (mvT a b) = opT (loadI a) fun u => opT (storeN b (IntKind.u64.wrap u)) k := by
  unfold mvT
  rw [bindT_op]
  congr 1
  funext u
  unfold putT
  rw [bindT_op]
  congr 1
  funext q
  rw [bindT_ret]
theorem take_in (m : Mp) (t : Int) : bindT (fun v => outT 0 t v) (takeB m) = tk1 m t := by
  unfold takeB tk1
  rw [bindT_op]
  congr 1
  funext v
  unfold takeK
  split
  · rw [bindT_ret]
  · rw [seq2_ret, mv_bind, bindT_op]
    unfold tk2 tk3
    congr 1
    funext u
    rw [bindT_op]
    congr 1
    funext q
    rw [bindT_ret]
theorem back_in (m : Mp) (t n : Int) : bindT (fun v => outT 0 t v) (backB m n) = bk1 m t n := by
  unfold backB bk1
  rw [bindT_op]
  congr 1
  funext v
  unfold backK
  split
  · rw [bindT_ret]
  · rw [seq3_ret, mv_bind, bindT_op]
    unfold bk2 bk3 bk4
    congr 1
    funext u
    rw [bindT_op]
    congr 1
    funext q
    unfold putT
    rw [bindT_op, bindT_op]
    congr 1
    funext z
    rw [bindT_ret, bindT_ret]
theorem takeT_eq (m : Mp) (t : Int) : takeT m t = opT (takeI 0 t) (fun v => if v = 0 ∨ v = -2147483648 then takeT m t else tk1 m t) := by
  show guardT 0 t (takeB m) = opT (takeI 0 t) (fun v => if v = 0 ∨ v = -2147483648 then guardT 0 t (takeB m) else tk1 m t)
  conv => lhs; rw [guardT_eq, take_in]
theorem backT_eq (m : Mp) (t n : Int) : backT m t n = opT (takeI 0 t) (fun v => if v = 0 ∨ v = -2147483648 then backT m t n else bk1 m t n) := by
  show guardT 0 t (backB m n) = opT (takeI 0 t) (fun v => if v = 0 ∨ v = -2147483648 then guardT 0 t (backB m n) else bk1 m t n)
  conv => lhs; rw [guardT_eq, back_in]
/- what operations do -/
theorem oTake {mm : List Int} {t : Int} (h : mm[0]? = some 0) (ht : 0 ≤ t ∧ t ≤ 100000) : operS mm (takeI 0 t) = (mm.set 0 (t + 1), 1, true) ∧ countS mm (takeI 0 t) = 1 := ⟨by rw [oper_take h ht]; rfl, count_in h⟩
theorem oTakeNo {mm : List Int} {t c : Int} (h : mm[0]? = some c) (hc : c ≠ 0) (ht : 0 ≤ t ∧ t ≤ 100000) : operS mm (takeI 0 t) = (mm, 0, false) ∧ countS mm (takeI 0 t) = 1 := ⟨by rw [oper_take h ht, if_neg hc], count_in h⟩
theorem oDrop {mm : List Int} {t : Int} (h : mm[0]? = some (t + 1)) (ht : 0 ≤ t ∧ t ≤ 100000) : operS mm (dropI 0 t) = (mm.set 0 0, 1, true) ∧ countS mm (dropI 0 t) = 1 := ⟨by rw [oper_drop h ht]; simp, count_in h⟩
theorem oLoad {mm : List Int} {i : Nat} {c : Int} (h : mm[i]? = some c) (hc : 0 ≤ c ∧ c ≤ 1000000000000) : operS mm (loadI i) = (mm, c, true) ∧ countS mm (loadI i) = 1 := ⟨oper_load h hc, count_in h⟩
theorem oStore {mm : List Int} {i : Nat} {c v : Int} (h : mm[i]? = some c) : operS mm (storeN i v) = (mm.set i v, 1, true) ∧ countS mm (storeN i v) = 1 := ⟨by simp [operS, h], count_in h⟩
theorem wrap_small {v : Int} (h : 0 ≤ v ∧ v ≤ 1000000000000) : IntKind.u64.wrap v = v := by rw [IntKind.wrap_u64]; omega
end Go.Proofs.YtpejmkoheodblaaGreat
