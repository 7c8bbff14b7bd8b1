/- Package pool: Lay; layer 11's laws: laid, all. -/
import Derived.Test.YtldofbkjjmnooaaGreatMgPShK
import Derived.Test.YtldofbkjjmnooaaGreatMgPShA
namespace Go.Proofs.YtldofbkjjmnooaaGreat
open Go.ChangeShapes Go.WideShapes Go.ChangeAt Go.RowKit
set_option linter.unusedVariables false
set_option maxRecDepth 100000
set_option linter.unusedSimpArgs false
theorem lay_no (cv : Value) (m : Mp) (n : Nat) (w : World) (hm : m.ok) (hL : ∀ W, Below w.heap.size w W → Calls Tryz.prog 101 #[cv] W fun e w' => e = .returned (.int .i64 (n : Int)) ∧ Below W.heap.size W w') (hn : ¬ sizeN m ≤ n) :
    Calls Tryz.prog 32 #[cv, mapV m] w fun e w' => e = .returned (.bool false) ∧ Below w.heap.size w w' := by
  have HR := Lib.hid fun V => pright_yes m (n : Int) V hm
  rw [show decide ((sizeN m : Int) ≤ (n : Int)) = false by simp; omega] at HR
  have HL := Lib.hid hL
  clear hm hn hL
  go_enter Tryz.func32, Tryz.ntmps32
  go_upto_region 1 with fail
  generalize hW : (w.alloc _) = W
  have bW : Below w.heap.size w W := by rw [← hW]; go_grown
  have m0 : Blk W w.heap.size 24 (mapCs m) := by rw [← hW]; exact Blk.new w _ _
  clear hW
  have hml := m0.lt
  have SK := Lib.hid (show ∀ V, Below W.heap.size W V → V.cell? ⟨w.heap.size, 0, none⟩ = some (.int .i64 (m.t : Int)) ∧ V.cell? ⟨w.heap.size, 1, none⟩ = some (.int .i64 (m.o : Int)) ∧ V.cell? ⟨w.heap.size, 2, none⟩ = some (.int .i64 (m.n : Int)) from fun V hk => map3 (m0.below hk hml))
  have bd := bdrewP W
  have HL1 := Lib.hid (HL.out W.drew (bW.trans (bd.mono bW.size)))
  clear m0 HL
  go_region_held3 (fun V => V.cell? ⟨w.heap.size, 0, none⟩ = some (.int .i64 (m.t : Int)) ∧ V.cell? ⟨w.heap.size, 1, none⟩ = some (.int .i64 (m.o : Int)) ∧ V.cell? ⟨w.heap.size, 2, none⟩ = some (.int .i64 (m.n : Int))) (first | exact SK.out _ b3 | exact SK.out _ b2 | exact SK.out _ bd) (first
    | (go_at_call 101; refine HL1.out.mono ?_; rintro e w2 ⟨rfl, hb2⟩; have b2 : Below W.heap.size W w2 := bd.trans hb2)
    | (go_at_call 113; refine (HR.out _).mono ?_; rintro e w3 ⟨rfl, hb3⟩; have b3 : Below W.heap.size W w3 := b2.trans (hb3.mono b2.size)))
  all_goals go_wp2
  all_goals go_ret
  all_goals exact ⟨rfl, bW.trans (b3.mono bW.size)⟩
theorem lay_bad (cv : Value) (t o k : Int) (n : Nat) (w : World) (hr : rightS t o k = false) (hL : ∀ W, Below w.heap.size w W → Calls Tryz.prog 101 #[cv] W fun e w' => e = .returned (.int .i64 (n : Int)) ∧ Below W.heap.size W w') :
    Calls Tryz.prog 32 #[cv, .agg #[.int .i64 t, .int .i64 o, .int .i64 k]] w fun e w' => e = .returned (.bool false) ∧ Below w.heap.size w w' := by
  have HR := Lib.hid fun V => pright_no (n : Int) t o k V hr
  have HL := Lib.hid hL
  clear hr hL
  go_enter Tryz.func32, Tryz.ntmps32
  go_upto_region 1 with fail
  generalize hW : (w.alloc _) = W
  have bW : Below w.heap.size w W := by rw [← hW]; go_grown
  have m0 : Blk W w.heap.size 24 #[.int .i64 t, .int .i64 o, .int .i64 k] := by rw [← hW]; exact Blk.new w _ _
  clear hW
  have hml := m0.lt
  have SK := Lib.hid (show ∀ V, Below W.heap.size W V → V.cell? ⟨w.heap.size, 0, none⟩ = some (.int .i64 t) ∧ V.cell? ⟨w.heap.size, 1, none⟩ = some (.int .i64 o) ∧ V.cell? ⟨w.heap.size, 2, none⟩ = some (.int .i64 k) from fun V hk => ⟨(m0.below hk hml).cell 0 _ rfl, (m0.below hk hml).cell 1 _ rfl, (m0.below hk hml).cell 2 _ rfl⟩)
  have bd := bdrewP W
  have HL1 := Lib.hid (HL.out W.drew (bW.trans (bd.mono bW.size)))
  clear m0 HL
  go_region_held3 (fun V => V.cell? ⟨w.heap.size, 0, none⟩ = some (.int .i64 t) ∧ V.cell? ⟨w.heap.size, 1, none⟩ = some (.int .i64 o) ∧ V.cell? ⟨w.heap.size, 2, none⟩ = some (.int .i64 k)) (first | exact SK.out _ b3 | exact SK.out _ b2 | exact SK.out _ bd) (first
    | (go_at_call 101; refine HL1.out.mono ?_; rintro e w2 ⟨rfl, hb2⟩; have b2 : Below W.heap.size W w2 := bd.trans hb2)
    | (go_at_call 113; refine (HR.out _).mono ?_; rintro e w3 ⟨rfl, hb3⟩; have b3 : Below W.heap.size W w3 := b2.trans (hb3.mono b2.size)))
  all_goals go_wp2
  all_goals go_ret
  all_goals exact ⟨rfl, bW.trans (b3.mono bW.size)⟩
abbrev lawM (n : Nat) : Mp := ⟨3, 2, n⟩
abbrev lawV (n : Nat) : Value := .agg #[.int .i64 3, .int .i64 2, .int .i64 (n : Int)]
theorem lawV_eq (n : Nat) : mapV (lawM n) = lawV n := rfl
theorem lawM_ok {n : Nat} (h : n ≤ 4096) : (lawM n).ok := ⟨by show 1 ≤ 3 ∧ 3 ≤ 32766; omega, by show 1 ≤ 2 ∧ 2 ≤ 65536; omega, h⟩
set_option maxHeartbeats 2000000 in
theorem laid_any (n : Nat) (w : World) (hn : n ≤ 4096) {nI : Int} (hI : nI = n) :
    Calls Tryz.prog 109 #[.int .i64 nI] w fun e w' => ∃ C S, e = .returned (.tuple #[cellsV C, mapV (lawM n)]) ∧ CellsAt w' C S (layL (lawM n) (List.replicate (sizeN (lawM n)) 0)) (n + 1) ∧ Below w.heap.size w w' ∧ w.heap.size ≤ C ∧ w.heap.size ≤ S := by
  subst hI
  have HSz := Lib.hid fun V => size_any (lawM n) V (lawM_ok hn)
  have HN := Lib.hid fun V => new_some (sizeN (lawM n)) V (by unfold sizeN; show 2 + 2 + 6 * 3 + 8 * n ≤ 16777216; omega)
  have HL := Lib.hid fun V C S (hC : CellsAt V C S (List.replicate (sizeN (lawM n)) 0) 0) => lay_any C S (lawM n) (List.replicate (sizeN (lawM n)) 0) 0 V (lawM_ok hn) hC (by simp) (by omega)
  rw [lawV_eq] at HL HSz
  rw [lawV_eq]
  clear hn
  go_enter Tryz.func109, Tryz.ntmps109
  go_upto_region 2 with fail
  generalize hW : ((w.alloc _).alloc _) = W
  have bW : Below w.heap.size w W := by rw [← hW]; go_grown
  have sW : W.heap.size = w.heap.size + 2 := by rw [← hW]; simp
  have q0 : Blk W w.heap.size 24 #[.int .i64 0, .int .i64 0, .int .i64 0] := by rw [← hW]; exact (Blk.new w _ _).alloc _
  have q1 : Blk W (w.heap.size + 1) 24 #[.int .i64 3, .int .i64 2, .int .i64 (n : Int)] := by rw [← hW]; exact blk_two w _ _ _
  clear hW
  have d0 := q1.cell 0 _ rfl
  have d1 := q1.cell 1 _ rfl
  have d2 := q1.cell 2 _ rfl
  go_upto_region 3 with (first
    | (go_at_call 14; (with_reducible refine (HSz.out _).mono ?_); rintro e w2 ⟨rfl, b2⟩)
    | (go_at_call 13; (with_reducible refine (HN.out _).mono ?_); rintro e w3 ⟨rfl, hC, b3⟩; have HL2 := Lib.hid (HL.out _ _ _ hC)))
  have b23 : Below W.heap.size W w3 := b2.trans (b3.mono b2.size)
  have p0 := q0.below b23 q0.lt
  have p1 := q1.below b23 q1.lt
  have hC1 : w.heap.size + 2 ≤ w2.heap.size + 1 := by have := b2.size; omega
  have hS1 : w.heap.size + 2 ≤ w2.heap.size := by have := b2.size; omega
  have bw3 : Below w.heap.size w w3 := bW.trans (b23.mono bW.size)
  generalize w2.heap.size + 1 = C at *
  generalize w2.heap.size = S at *
  clear q0 q1 hC b2 b3 b23 d0 d1 d2
  have d0 := p1.cell 0 _ rfl
  have d1 := p1.cell 1 _ rfl
  have d2 := p1.cell 2 _ rfl
  have nC : ¬ ofCells C S (w.heap.size + 1) := fun h => by rcases h with h | h <;> omega
  have nC0 : ¬ ofCells C S w.heap.size := fun h => by rcases h with h | h <;> omega
  go_upto_region 5 with (go_at_call 32; (with_reducible refine HL2.out.mono ?_); rintro e w4 ⟨rfl, h4, k4⟩)
  have r0 := p0.keep k4 nC0
  have r1 := p1.keep k4 nC
  clear d0 d1 d2 p0 p1
  have d0 := r1.cell 0 _ rfl
  have d1 := r1.cell 1 _ rfl
  have d2 := r1.cell 2 _ rfl
  have e0 := r0.cell 0 _ rfl
  have e1 := r0.cell 1 _ rfl
  have e2 := r0.cell 2 _ rfl
  have z0 := r0.free 0
  have z1 := r0.free 1
  have z2 := r0.free 2
  go_region
  have s0 := ((r0.set 0 (.int .i64 3)).set 1 (.int .i64 2)).set 2 (.int .i64 (n : Int))
  have k0 : Keep (fun b => b = w.heap.size) w4 (((w4.setCell ⟨w.heap.size, 0, none⟩ (.int .i64 3)).setCell ⟨w.heap.size, 1, none⟩ (.int .i64 2)).setCell ⟨w.heap.size, 2, none⟩ (.int .i64 (n : Int))) := (((Keep.refl (fun b => b = w.heap.size) w4).set (p := ⟨w.heap.size, 0, none⟩) (fun _ => rfl) _).set (p := ⟨w.heap.size, 1, none⟩) (fun _ => rfl) _).set (p := ⟨w.heap.size, 2, none⟩) (fun _ => rfl) _
  clear d0 d1 d2 e0 e1 e2 z0 z1 z2
  generalize ((w4.setCell ⟨w.heap.size, 0, none⟩ (.int .i64 3)).setCell ⟨w.heap.size, 1, none⟩ (.int .i64 2)).setCell ⟨w.heap.size, 2, none⟩ (.int .i64 (n : Int)) = w5 at *
  have bd := bdrewP w5
  have s1 := s0.below bd s0.lt
  have f0 : w5.drew.cell? ⟨w.heap.size, 0, none⟩ = some (.int .i64 3) := s1.cell 0 _ rfl
  have f1 : w5.drew.cell? ⟨w.heap.size, 1, none⟩ = some (.int .i64 2) := s1.cell 1 _ rfl
  have f2 : w5.drew.cell? ⟨w.heap.size, 2, none⟩ = some (.int .i64 (n : Int)) := s1.cell 2 _ rfl
  have kb := k0.trans (Keep.ofBelow (Q := fun b => b = w.heap.size) bd)
  have h5 := h4.keep kb (by omega) (by omega)
  have hw5 : Below w.heap.size w w5.drew := (bw3.trans (k4.below bw3.size (fun i _ h => by rcases h with h | h <;> omega))).trans (kb.below (by have := bw3.size; have := k4.size; omega) (fun i _ h => by omega))
  generalize w5.drew = w6 at *
  go_wp2
  exact bodyPost_ret (v := .tuple #[cellsV C, lawV n]) (by simp [results, Tryz.results109, go_sem, f0, f1, f2]) rfl ⟨C, S, rfl, by rw [← Int.zero_add (n : Int)]; exact h5, hw5, by omega, by omega⟩
end Go.Proofs.YtldofbkjjmnooaaGreat
/- Layer 11's laws: all; Take and Back to their ends, alone. -/
namespace Go.Proofs.YtldofbkjjmnooaaGreat
open Go.ChangeShapes Go.WideShapes Go.ChangeAt Go.RowKit
set_option linter.unusedVariables false
set_option maxRecDepth 100000
set_option linter.unusedSimpArgs false
set_option maxHeartbeats 1000000 in
theorem pall_any (C P S t : Nat) (Q : Nat → Prop) (T : Tre Itm) (L most : Nat) (m m' : List Int) (v n : Int) (w : World) (hG : Goes m T L m' v) (hL : L ≤ most) (hm : most ≤ 1000)
    (h : TkT (cellOps C P) w t Q T) (hC : CellsAt w C S m n) (hQ : ∀ b, Q b → b ≠ C ∧ b ≠ S) (hn : 0 ≤ n ∧ n ≤ 1000000) {mI : Int} (hI : mI = most) :
    Calls Tryz.prog 111 #[pV t, .int .i64 mI] w fun e w' => e = .returned (.int .i64 v) ∧ CellsAt w' C S m' (n + L) ∧ Keep (fun b => Q b ∨ ofCells C S b) w w' := by
  subst hI
  have H := Lib.hid h
  have HG := Lib.hid hG
  have HC := Lib.hid hC
  have HQ := Lib.hid hQ
  have HL := Lib.hid hL
  have hCl := hC.own.lt
  have hSl := hC.row.lt
  clear h hG hC hQ hL
  go_enter Tryz.func111, Tryz.ntmps111
  go_wp2_with fail
  go_loopw [5] (fun v5 wr => ∃ (I : Nat) (m1 : List Int) (T1 : Tre Itm) (Q1 : Nat → Prop) (j : Nat), I + j = L ∧ v5 = .int .i64 (I : Int) ∧ Goes m1 T1 j m' v ∧ TkT (cellOps C P) wr t Q1 T1 ∧ (∀ b, Q1 b → Q b ∨ w.heap.size ≤ b) ∧ CellsAt wr C S m1 (n + I) ∧ Keep (fun b => Q b ∨ ofCells C S b) w wr)
    (fun v5 _ => L - (intOf v5).toNat)
  case atStart => exact ⟨0, m, T, Q, L, by omega, rfl, HG.out, H.out, fun _ h => .inl h, by simpa using HC.out, Keep.refl _ _⟩
  case round =>
    obtain ⟨I, m1, T1, Q1, j, hIj, rfl, hG, hT, hq, hC, hk⟩ := hrel
    have hLm := HL.out
    have hsz := hk.size
    have hQ1 : ∀ b, Q1 b → b ≠ C ∧ b ≠ S := fun b hb => by
      rcases hq b hb with h | h
      · exact HQ.out b h
      · omega
    rcases hG.cases' with ⟨rfl, rfl, rfl⟩ | ⟨x, κ, j, rfl, rfl, e1, e2, e3⟩
    · obtain rfl : I = L := by omega
      have hD := Lib.hid (tdoneT_ret t Q1 v wr hT)
      have hV := Lib.hid (tvalueT_ret t Q1 v wr hT)
      have HX := Lib.hid (And.intro hC hk)
      clear hG hT hq hC hk hQ1 H HG HC HQ HL
      have hor : (I : Int) < (most : Int) ∨ ¬ (I : Int) < (most : Int) := by omega
      rcases hor with h4 | h4
      all_goals
        go_wp2_with (first
          | (go_at_call 38; (with_reducible refine hD.out.mono ?_); rintro e w2 ⟨rfl, rfl⟩)
          | (go_at_call 27; (with_reducible refine hV.out.mono ?_); rintro e w2 ⟨rfl, rfl⟩))
        go_ret
        exact ⟨rfl, HX.out⟩
    · have hD := Lib.hid (tdoneT_op t Q1 x κ wr hT)
      have hS := Lib.hid (tstepT_op C P S t Q1 x κ m1 (n + I) wr hT hC e1 hQ1 ⟨by omega, by omega⟩)
      have hQt := hT.own
      have HX := Lib.hid (And.intro e2 (And.intro e3 (And.intro hq (And.intro hk (And.intro (hq t hQt) (And.intro hsz (HC.out.own.lt)))))))
      have ht : t < w.heap.size ∧ Q t := ⟨H.out.lt t H.out.own, H.out.own⟩
      have h5 : (I : Int) < (most : Int) := by omega
      clear hG hT hq hC hk hQ1 e1 e2 e3
      go_wp2_with (first
        | (go_at_call 38; (with_reducible refine hD.out.mono ?_); rintro e w2 ⟨rfl, rfl⟩)
        | (go_at_call 37; (with_reducible refine hS.out.mono ?_); rintro e w3 ⟨rfl, ⟨Q3, g1, g2⟩, g3, g4⟩))
      obtain ⟨e2, e3, hq, hk, _, _, _⟩ := HX.out
      rw [e2] at g3
      go_roundw
      case rel =>
        refine ⟨I + 1, _, _, Q3, j, by omega, by go_num, e3, g1, fun b hb => ?_, by rw [Int.natCast_add, ← Int.add_assoc]; exact g3, hk.trans (g4.mono fun b _ hb => ?_)⟩
        · rcases g2 b hb with h | h
          · exact hq b h
          · exact .inr (by omega)
        · rcases hb with rfl | hb
          · exact .inl ht.2
          · exact .inr hb
      case measure => simp [intOf]; omega
/-- cells hold words -/
def Rng (mm : List Int) : Prop := ∀ (i : Nat) c, mm[i]? = some c → 0 ≤ c ∧ c < 18446744073709551616
theorem Rng.set {mm : List Int} (h : Rng mm) (i : Nat) {v : Int} (hv : 0 ≤ v ∧ v < 18446744073709551616) : Rng (mm.set i v) := fun j c hc => by
  rw [List.getElem?_set] at hc
  split at hc
  · split at hc
    · obtain rfl := Option.some.inj hc
      exact hv
    · cases hc
  · exact h j c hc
/-- how Take goes, and Back, alone -/
theorem Goes.step {m m1 m' : List Int} {x : Itm} {κ : Int → Tre Itm} {T : Tre Itm} {u v : Int} {o : Bool} {k : Nat} (h1 : x.kind < 5) (h2 : operS m x = (m1, u, o) ∧ countS m x = 1) (hT : κ u = T) (h3 : Goes m1 T k m' v) : Goes m (opT x κ) (k + 1) m' v := by
  refine .op h1 h2.2 ?_
  rw [h2.1]
  simp only
  rw [hT]
  exact h3
/-- the pool, with its latch free -/
structure PFree (m : Mp) (mm : List Int) (L : List Int) : Prop where
  pool : PIs m mm L
  free : mm[0]? = some 0
def SameGen (m : Mp) (mm mm' : List Int) : Prop := mm'.length = mm.length ∧ ∀ k : Int, 0 ≤ k → mm'[genN m k]? = mm[genN m k]?
theorem PIs.latch {m : Mp} {mm L : List Int} (h : PIs m mm L) (v : Int) : PIs m (mm.set 0 v) L := h.set 0 v (by omega) (fun x _ e => by have := linkN_two (m := m) (k := x); omega)
theorem PIs.zero {m : Mp} {mm L : List Int} (h : PIs m mm L) : 0 < mm.length := by have := h.len; unfold sizeN at this; omega
theorem gen_ne {m : Mp} {k : Int} : genN m k ≠ 0 ∧ genN m k ≠ 1 := by have := genN_two (m := m) (k := k); omega
theorem goes_take {m : Mp} {mm r : List Int} {x t : Int} (hm : m.n ≤ 4096) (h : PFree m mm (x :: r)) (ht : 0 ≤ t ∧ t ≤ 100000) :
    ∃ mm', Goes mm (takeT m t) 5 mm' x ∧ PFree m mm' r ∧ SameGen m mm mm' ∧ (Rng mm → Rng mm') := by
  have hx := h.pool.low x (by simp)
  have hr := h.pool.tailr
  have p1 := h.pool.latch (t + 1)
  have h1 := p1.head
  have p2 := p1.pop
  have hz := p1.zero
  refine ⟨((mm.set 0 (t + 1)).set 1 (headOf r)).set 0 0, ?_, ⟨p2.latch 0, List.getElem?_set_self p2.zero⟩, ⟨by simp, fun k hk => ?_⟩, fun hr => ((hr.set 0 (by omega)).set 1 (by omega)).set 0 (by omega)⟩
  · rw [takeT_eq]
    refine Goes.step (show (4 : Nat) < 5 by omega) (oTake h.free ht) (if_neg (by decide)) ?_
    have e1 : IntKind.u64.wrap (headOf (x :: r)) = x + 1 := wrap_small (by simp [headOf]; omega)
    have e2 : pmS m (x + 1) = x := by rw [pmS_of (by omega)]; omega
    refine Goes.step (show (0 : Nat) < 5 by omega) (oLoad h1 (by simp [headOf]; omega)) ?_ (T := tk2 m t x) ?_
    · rw [e1, e2, if_neg (by omega)]
    refine Goes.step (show (0 : Nat) < 5 by omega) (oLoad (p1.next 0 x rfl) (by simpa using (show 0 ≤ headOf r ∧ headOf r ≤ 1000000000000 by omega))) (T := tk3 t x (headOf r)) ?_ ?_
    · exact congrArg (tk3 t x) (wrap_small (by show 0 ≤ headOf r ∧ headOf r ≤ 1000000000000; omega))
    refine Goes.step (show (1 : Nat) < 5 by omega) (oStore h1) rfl ?_
    refine Goes.step (show (2 : Nat) < 5 by omega) (oDrop (t := t) ?_ ht) rfl (.ret _ _)
    rw [List.getElem?_set_ne (by omega), List.getElem?_set_self (by simpa using hz)]
  · have hg := gen_ne (m := m) (k := k)
    rw [List.getElem?_set_ne (by omega), List.getElem?_set_ne (by omega), List.getElem?_set_ne (by omega)]
theorem goes_none {m : Mp} {mm : List Int} {t : Int} (h : PFree m mm []) (ht : 0 ≤ t ∧ t ≤ 100000) :
    ∃ mm', Goes mm (takeT m t) 3 mm' (-1) ∧ PFree m mm' [] ∧ SameGen m mm mm' ∧ (Rng mm → Rng mm') := by
  have p1 := h.pool.latch (t + 1)
  have hz := p1.zero
  refine ⟨(mm.set 0 (t + 1)).set 0 0, ?_, ⟨p1.latch 0, List.getElem?_set_self hz⟩, ⟨by simp, fun k hk => ?_⟩, fun hr => (hr.set 0 (by omega)).set 0 (by omega)⟩
  · rw [takeT_eq]
    refine Goes.step (show (4 : Nat) < 5 by omega) (oTake h.free ht) (if_neg (by decide)) ?_
    refine Goes.step (show (0 : Nat) < 5 by omega) (oLoad (p1.head) (by simp [headOf])) ?_ (T := outT 0 t (-1)) ?_
    · have e1 : IntKind.u64.wrap (headOf []) = 0 := wrap_small (by simp [headOf])
      have e2 : pmS m 0 = -1 := by rw [pmS_of (by omega)]; omega
      rw [e1, e2, if_pos rfl]
    refine Goes.step (show (2 : Nat) < 5 by omega) (oDrop (t := t) ?_ ht) rfl (.ret _ _)
    rw [List.getElem?_set_self (by simpa using hz)]
  · have hg := gen_ne (m := m) (k := k)
    rw [List.getElem?_set_ne (by omega), List.getElem?_set_ne (by omega)]
theorem goes_back {m : Mp} {mm L : List Int} {n t g : Int} (hm : m.n ≤ 4096) (h : PFree m mm L) (ht : 0 ≤ t ∧ t ≤ 100000) (hn : 0 ≤ n ∧ n < m.n) (hL : n ∉ L) (hg : mm[genN m n]? = some g) (hg2 : 0 ≤ g ∧ g < 4095) :
    ∃ mm', Goes mm (backT m t n) 6 mm' 1 ∧ PFree m mm' (n :: L) ∧ SameGen m mm mm' ∧ (Rng mm → Rng mm') := by
  have hr := h.pool.headr
  have p1 := h.pool.latch (t + 1)
  have hz := p1.zero
  have hne : ∀ x ∈ L, linkN m n ≠ linkN m x := fun x hx e => hL (by have := linkN_inj hn.1 (h.pool.low x hx).1 e; rw [this]; exact hx)
  have h9 := linkN_two (m := m) (k := n)
  have p2 := p1.set (linkN m n) (headOf L) (by omega) hne
  have hlk : linkN m n < (mm.set 0 (t + 1)).length := by have := linkN_lt hn; have := p1.len; omega
  have p3 := p2.push hn hL (List.getElem?_set_self hlk)
  refine ⟨(((mm.set 0 (t + 1)).set (linkN m n) (headOf L)).set 1 (n + 1)).set 0 0, ?_, ⟨p3.latch 0, List.getElem?_set_self p3.zero⟩, ⟨by simp, fun k hk => ?_⟩, fun hR => (((hR.set 0 (by omega)).set _ (by omega)).set 1 (by omega)).set 0 (by omega)⟩
  · rw [backT_eq]
    refine Goes.step (show (4 : Nat) < 5 by omega) (oTake h.free ht) (if_neg (by decide)) ?_
    have hgn := gen_ne (m := m) (k := n)
    refine Goes.step (show (0 : Nat) < 5 by omega) (oLoad (c := g) (by rw [List.getElem?_set_ne (by omega)]; exact hg) (by omega)) ?_ (T := bk2 m t n) ?_
    · rw [wrap_small (by omega), if_neg (by omega)]
    refine Goes.step (show (0 : Nat) < 5 by omega) (oLoad p1.head (by omega)) ?_ (T := bk3 m t n (headOf L)) ?_
    · rw [wrap_small (by omega)]
    refine Goes.step (show (1 : Nat) < 5 by omega) (oStore (List.getElem?_eq_getElem hlk)) rfl ?_
    refine Goes.step (show (1 : Nat) < 5 by omega) (oStore p2.head) rfl ?_
    refine Goes.step (show (2 : Nat) < 5 by omega) (oDrop (t := t) ?_ ht) rfl (.ret _ _)
    rw [List.getElem?_set_ne (by omega), List.getElem?_set_ne (by omega), List.getElem?_set_self (by simpa using hz)]
  · have hg := gen_ne (m := m) (k := k)
    rw [List.getElem?_set_ne (by omega), List.getElem?_set_ne (by omega), List.getElem?_set_ne (linkN_gen hn.1 hk), List.getElem?_set_ne (by omega)]
theorem goes_last {m : Mp} {mm L : List Int} {n t g : Int} (h : PFree m mm L) (ht : 0 ≤ t ∧ t ≤ 100000) (hg : mm[genN m n]? = some g) (hg2 : 4095 ≤ g ∧ g ≤ 1000000) :
    ∃ mm', Goes mm (backT m t n) 3 mm' 0 ∧ PFree m mm' L ∧ SameGen m mm mm' ∧ (Rng mm → Rng mm') := by
  have p1 := h.pool.latch (t + 1)
  have hz := p1.zero
  refine ⟨(mm.set 0 (t + 1)).set 0 0, ?_, ⟨p1.latch 0, List.getElem?_set_self hz⟩, ⟨by simp, fun k hk => ?_⟩, fun hr => (hr.set 0 (by omega)).set 0 (by omega)⟩
  · rw [backT_eq]
    refine Goes.step (show (4 : Nat) < 5 by omega) (oTake h.free ht) (if_neg (by decide)) ?_
    have hgn := gen_ne (m := m) (k := n)
    refine Goes.step (show (0 : Nat) < 5 by omega) (oLoad (c := g) (by rw [List.getElem?_set_ne (by omega)]; exact hg) (by omega)) ?_ (T := outT 0 t 0) ?_
    · rw [wrap_small (by omega), if_pos (by omega)]
    refine Goes.step (show (2 : Nat) < 5 by omega) (oDrop (t := t) ?_ ht) rfl (.ret _ _)
    rw [List.getElem?_set_self (by simpa using hz)]
  · have hg := gen_ne (m := m) (k := k)
    rw [List.getElem?_set_ne (by omega), List.getElem?_set_ne (by omega)]
/-- a new task, to its end -/
theorem prun_any {w w1 : World} {C S t' : Nat} {mm mm' : List Int} {n v : Int} {T : Tre Itm} (h : CellsAt w C S mm n) (hM : MadeT (cellOps C 0) w (fun b => w.heap.size ≤ b) T t' w1) {c most : Nat} (hG : Goes mm T c mm' v) (hc : c ≤ most) (hm : most ≤ 1000) (hn : 0 ≤ n ∧ n ≤ 1000000) {mI : Int} (hI : mI = most) :
    Calls Tryz.prog 111 #[pV t', .int .i64 mI] w1 fun e w' => e = .returned (.int .i64 v) ∧ CellsAt w' C S mm' (n + c) ∧ Keep (ofCells C S) w w' := by
  have hT : TkT (cellOps C 0) w1 t' (fun b => w.heap.size ≤ b ∧ b < w1.heap.size) T := TkT.new hM.2.1 hM.1
  have hC := h.keep (Keep.ofBelow (Q := fun _ => False) hM.2.2) (fun h => h) (fun h => h)
  have l1 := h.own.lt
  have l2 := h.row.lt
  refine (pall_any C 0 S t' _ T c most mm mm' v n w1 hG hc hm hT hC (fun b hb => by omega) hn hI).mono ?_
  rintro e w' ⟨rfl, h3, h4⟩
  have k1 : Keep (ofCells C S) w w1 := Keep.ofBelow hM.2.2
  exact ⟨rfl, h3, k1.step h4 fun i hi hh => hh.elim (fun hh => by omega) id⟩
section
variable {w : World} {C S : Nat} {m : Mp} {mm : List Int} {n : Int}
/-- Take, made -/
theorem vtake (hm : m.ok) (t : Int) (ht : 0 ≤ t) (hs : sizeN m ≤ mm.length) (h : CellsAt w C S mm n) :
    Calls Tryz.prog 34 #[cellsV C, mapV m, .int .i64 t] w fun e w' => ∃ k, e = .returned (pV k) ∧ MadeT (cellOps C 0) w (fun b => w.heap.size ≤ b) (takeT m t) k w' :=
  ptake_any C 0 m _ t mm.length w hm ht hs (fun W hW => len_any C S mm n W (h.keep (Keep.ofBelow (Q := fun _ => False) hW) (fun h => h) (fun h => h))) (fun _ h => h)
theorem vback (hm : m.ok) (t x : Int) (ht : 0 ≤ t) (hx : 0 ≤ x ∧ x < m.n) (hs : sizeN m ≤ mm.length) (h : CellsAt w C S mm n) :
    Calls Tryz.prog 35 #[cellsV C, mapV m, .int .i64 t, .int .i64 x] w fun e w' => ∃ k, e = .returned (pV k) ∧ MadeT (cellOps C 0) w (fun b => w.heap.size ≤ b) (backT m t x) k w' :=
  pback_any C 0 m _ t x mm.length w hm ht hx hs (fun W hW => len_any C S mm n W (h.keep (Keep.ofBelow (Q := fun _ => False) hW) (fun h => h) (fun h => h))) (fun _ h => h)
end
end Go.Proofs.YtldofbkjjmnooaaGreat
/- Turns of threads, as plain numbers: why all come to their ends. No program is named here. -/
namespace Go.Proofs.YtldofbkjjmnooaaGreat
set_option linter.unusedVariables false
/-- how many steps are still to come: of threads that have done so many times, and are so far in the next one -/
def potL (M K : Nat) (U : List (Nat × Nat)) : Nat := (U.map fun x => M * (K - x.1) - x.2).sum
theorem potL_cons (M K : Nat) (x : Nat × Nat) (U : List (Nat × Nat)) : potL M K (x :: U) = (M * (K - x.1) - x.2) + potL M K U := by simp [potL]
theorem potL_set {M K : Nat} : ∀ {U : List (Nat × Nat)} {t : Nat} {x y : Nat × Nat}, U[t]? = some x → (M * (K - y.1) - y.2) + 1 = M * (K - x.1) - x.2 → potL M K (U.set t y) + 1 = potL M K U
  | [], t, x, y, h, _ => by simp at h
  | z :: U, 0, x, y, h, e => by
    simp at h
    subst h
    rw [List.set_cons_zero, potL_cons, potL_cons]
    omega
  | z :: U, t + 1, x, y, h, e => by
    rw [List.set_cons_succ, potL_cons, potL_cons]
    have := potL_set (U := U) (by simpa using h) e
    omega
theorem potL_zero {M K : Nat} : ∀ {U : List (Nat × Nat)}, (∀ x ∈ U, x.1 = K) → potL M K U = 0
  | [], _ => rfl
  | z :: U, h => by
    rw [potL_cons, potL_zero (fun x hx => h x (List.mem_cons_of_mem _ hx)), h z (by simp)]
    simp
theorem potL_done {M K : Nat} (hM : 0 < M) : ∀ {U : List (Nat × Nat)}, potL M K U = 0 → (∀ x ∈ U, x.1 ≤ K ∧ x.2 < M ∧ (x.1 = K → x.2 = 0)) → ∀ x ∈ U, x = (K, 0)
  | [], _, _, x, hx => by simp at hx
  | z :: U, h, hp, x, hx => by
    rw [potL_cons] at h
    rcases List.mem_cons.1 hx with rfl | hx
    · obtain ⟨h1, h2, h3⟩ := hp x (by simp)
      have h0 : M * (K - x.1) - x.2 = 0 := by omega
      have hk : x.1 = K := by
        by_cases hlt : x.1 < K
        · exfalso
          have : M * 1 ≤ M * (K - x.1) := Nat.mul_le_mul_left M (by omega)
          omega
        · omega
      have := h3 hk
      obtain ⟨a, b⟩ := x
      simp_all
    · exact potL_done hM (by omega) (fun y hy => hp y (List.mem_cons_of_mem _ hy)) x hx
theorem potL_new (M K n : Nat) : potL M K (List.replicate n (0, 0)) = n * (M * K) := by
  induction n with
  | zero => simp [potL]
  | succ n ih => rw [List.replicate_succ, potL_cons, ih, Nat.succ_mul]; simp; omega
/-- in this round of turns nothing went on so far -/
def Waits (K : Nat) (o : Option Nat) (U : List (Nat × Nat)) (s : Nat) : Prop := match o with
  | some u => s ≤ u
  | none => ∀ u x, u < s → U[u]? = some x → x.1 = K
def Budget (Kb r0 P r : Nat) (W : Prop) : Prop := P = 0 ∨ P + r ≤ Kb + r0 ∨ (P + r ≤ Kb + r0 + 1 ∧ W)
/-- where the turns are: i of them are over; the first Lb are anyone's -/
def Bud (Kb n Lb M K : Nat) (o : Option Nat) (U : List (Nat × Nat)) (i : Nat) : Prop :=
  potL M K U ≤ Kb ∧ (Lb ≤ i → ∃ r s r0 s0, i + 1 = n * r + s ∧ s < n ∧ Lb + 1 = n * r0 + s0 ∧ s0 < n ∧ Budget Kb r0 (potL M K U) r (Waits K o U s))
theorem waits_zero (K : Nat) (o : Option Nat) (U : List (Nat × Nat)) : Waits K o U 0 := by
  cases o with
  | none => intro u x h; omega
  | some u => exact Nat.zero_le _
theorem split (n a : Nat) (hn : 0 < n) : ∃ r s, a = n * r + s ∧ s < n := ⟨a / n, a % n, (Nat.div_add_mod a n).symm, Nat.mod_lt _ hn⟩
/-- a turn: something went on, or nothing did, and then the thread was done, or another one was in -/
theorem Bud.turn {Kb n Lb M K : Nat} {o o' : Option Nat} {U U' : List (Nat × Nat)} {i t : Nat} (h : Bud Kb n Lb M K o U i) (hn : 0 < n) (hl : U.length = n) (ht : Lb ≤ i → t = (i + 1) % n)
    (hs : potL M K U' + 1 = potL M K U ∨ (U' = U ∧ o' = o ∧ (o = none → ∃ x, U[t]? = some x ∧ x.1 = K) ∧ ∀ u, o = some u → u < n ∧ u ≠ t)) : Bud Kb n Lb M K o' U' (i + 1) := by
  obtain ⟨h1, h2⟩ := h
  have hle : potL M K U' ≤ potL M K U := by
    rcases hs with hs | ⟨rfl, _⟩
    · omega
    · exact Nat.le_refl _
  refine ⟨by omega, fun hL => ?_⟩
  by_cases hi : Lb ≤ i
  · obtain ⟨r, s, r0, s0, e1, e2, e3, e4, hB⟩ := h2 hi
    have hts : t = s := by
      rw [ht hi, e1, Nat.mul_add_mod, Nat.mod_eq_of_lt e2]
    -- behind this turn, in this round
    have key : Budget Kb r0 (potL M K U') r (Waits K o' U' (s + 1)) := by
      rcases hs with hs | ⟨rfl, rfl, hd, ho⟩
      · rcases hB with hB | hB | ⟨hB, _⟩
        · omega
        · exact .inr (.inl (by omega))
        · exact .inr (.inl (by omega))
      · rcases hB with hB | hB | ⟨hB, hW⟩
        · exact .inl hB
        · exact .inr (.inl hB)
        · refine .inr (.inr ⟨hB, ?_⟩)
          cases o' with
          | none =>
            intro u x hu hx
            rcases Nat.lt_succ_iff_lt_or_eq.1 hu with hu | rfl
            · exact hW u x hu hx
            · obtain ⟨y, hy, hk⟩ := hd rfl
              rw [hts, hx] at hy
              exact (Option.some.inj hy) ▸ hk
          | some u =>
            have h3 : s ≤ u := hW
            have := ho u rfl
            show s + 1 ≤ u
            omega
    by_cases hend : s + 1 < n
    · exact ⟨r, s + 1, r0, s0, by omega, hend, e3, e4, key⟩
    · refine ⟨r + 1, 0, r0, s0, by rw [Nat.mul_succ]; omega, hn, e3, e4, ?_⟩
      have hl' : U'.length = n ∨ potL M K U' + 1 = potL M K U := by
        rcases hs with hs | ⟨rfl, _⟩
        · exact .inr hs
        · exact .inl hl
      rcases hs with hs | ⟨rfl, rfl, hd, ho⟩
      · rcases hB with hB | hB | ⟨hB, _⟩
        · omega
        · exact .inr (.inr ⟨by omega, waits_zero _ _ _⟩)
        · exact .inr (.inr ⟨by omega, waits_zero _ _ _⟩)
      · rcases key with hB | hB | ⟨hB, hW⟩
        · exact .inl hB
        · exact .inr (.inr ⟨by omega, waits_zero _ _ _⟩)
        · cases o' with
          | none =>
            refine .inl (potL_zero fun x hx => ?_)
            obtain ⟨u, hu⟩ := List.mem_iff_getElem?.1 hx
            have := (List.getElem?_eq_some_iff.1 hu).1
            exact hW u x (by omega) hu
          | some u =>
            exfalso
            have h3 : s + 1 ≤ u := hW
            have := (ho u rfl).1
            omega
  · obtain ⟨r, s, e1, e2⟩ := split n (i + 1 + 1) hn
    have hLi : Lb = i + 1 := by omega
    subst hLi
    exact ⟨r, s, r, s, e1, e2, e1, e2, .inr (.inl (by omega))⟩
/-- at the end all is done -/
theorem Bud.end {Kb n Lb M K : Nat} {o : Option Nat} {U : List (Nat × Nat)} {i : Nat} (h : Bud Kb n Lb M K o U i) (hn : 1 ≤ n ∧ n ≤ 6) (hL : Lb ≤ 200) (hi : 6 * Kb + 300 ≤ i) : potL M K U = 0 := by
  obtain ⟨r, s, r0, s0, e1, e2, e3, e4, hB⟩ := h.2 (by omega)
  have key : r0 + Kb + 1 < r := by
    obtain h6 | h6 | h6 | h6 | h6 | h6 : n = 1 ∨ n = 2 ∨ n = 3 ∨ n = 4 ∨ n = 5 ∨ n = 6 := by omega
    all_goals
      subst h6
      omega
  rcases hB with hB | hB | ⟨hB, _⟩ <;> omega
theorem Bud.new (Kb n Lb M K : Nat) (hn : 0 < n) (hK : n * (M * K) ≤ Kb) : Bud Kb n Lb M K none (List.replicate n (0, 0)) 0 := by
  rw [Bud, potL_new]
  refine ⟨hK, fun hL => ?_⟩
  obtain ⟨r, s, e1, e2⟩ := split n (0 + 1) hn
  have : Lb = 0 := by omega
  subst this
  exact ⟨r, s, r, s, e1, e2, e1, e2, .inr (.inl (by omega))⟩
end Go.Proofs.YtldofbkjjmnooaaGreat
/- PoolShares, as plain numbers: how the threads' turns go on. No program is walked here. -/
namespace Go.Proofs.YtldofbkjjmnooaaGreat
set_option linter.unusedVariables false
set_option linter.unusedSimpArgs false
/- turns of which each that goes on takes one or more off -/
theorem potL_less {M K : Nat} : ∀ {U : List (Nat × Nat)} {t : Nat} {x y : Nat × Nat}, U[t]? = some x → (M * (K - y.1) - y.2) + 1 ≤ M * (K - x.1) - x.2 → potL M K (U.set t y) + 1 ≤ potL M K U
  | [], t, x, y, h, _ => by simp at h
  | z :: U, 0, x, y, h, e => by
    simp at h
    subst h
    rw [List.set_cons_zero, potL_cons, potL_cons]
    omega
  | z :: U, t + 1, x, y, h, e => by
    rw [List.set_cons_succ, potL_cons, potL_cons]
    have := potL_less (U := U) (by simpa using h) e
    omega
theorem Bud.less {Kb n Lb M K : Nat} {o o' : Option Nat} {U U' : List (Nat × Nat)} {i t : Nat} (h : Bud Kb n Lb M K o U i) (hn : 0 < n) (hl : U.length = n) (ht : Lb ≤ i → t = (i + 1) % n)
    (hs : potL M K U' + 1 ≤ potL M K U ∨ (U' = U ∧ o' = o ∧ (o = none → ∃ x, U[t]? = some x ∧ x.1 = K) ∧ ∀ u, o = some u → u < n ∧ u ≠ t)) : Bud Kb n Lb M K o' U' (i + 1) := by
  obtain ⟨h1, h2⟩ := h
  have hle : potL M K U' ≤ potL M K U := by
    rcases hs with hs | ⟨rfl, _⟩
    · omega
    · exact Nat.le_refl _
  refine ⟨by omega, fun hL => ?_⟩
  by_cases hi : Lb ≤ i
  · obtain ⟨r, s, r0, s0, e1, e2, e3, e4, hB⟩ := h2 hi
    have hts : t = s := by
      rw [ht hi, e1, Nat.mul_add_mod, Nat.mod_eq_of_lt e2]
    have key : Budget Kb r0 (potL M K U') r (Waits K o' U' (s + 1)) := by
      rcases hs with hs | ⟨rfl, rfl, hd, ho⟩
      · rcases hB with hB | hB | ⟨hB, _⟩
        · omega
        · exact .inr (.inl (by omega))
        · exact .inr (.inl (by omega))
      · rcases hB with hB | hB | ⟨hB, hW⟩
        · exact .inl hB
        · exact .inr (.inl hB)
        · refine .inr (.inr ⟨hB, ?_⟩)
          cases o' with
          | none =>
            intro u x hu hx
            rcases Nat.lt_succ_iff_lt_or_eq.1 hu with hu | rfl
            · exact hW u x hu hx
            · obtain ⟨y, hy, hk⟩ := hd rfl
              rw [hts, hx] at hy
              exact (Option.some.inj hy) ▸ hk
          | some u =>
            have h3 : s ≤ u := hW
            have := ho u rfl
            show s + 1 ≤ u
            omega
    by_cases hend : s + 1 < n
    · exact ⟨r, s + 1, r0, s0, by omega, hend, e3, e4, key⟩
    · refine ⟨r + 1, 0, r0, s0, by rw [Nat.mul_succ]; omega, hn, e3, e4, ?_⟩
      rcases hs with hs | ⟨rfl, rfl, hd, ho⟩
      · rcases hB with hB | hB | ⟨hB, _⟩
        · omega
        · exact .inr (.inr ⟨by omega, waits_zero _ _ _⟩)
        · exact .inr (.inr ⟨by omega, waits_zero _ _ _⟩)
      · rcases key with hB | hB | ⟨hB, hW⟩
        · exact .inl hB
        · exact .inr (.inr ⟨by omega, waits_zero _ _ _⟩)
        · cases o' with
          | none =>
            refine .inl (potL_zero fun x hx => ?_)
            obtain ⟨u, hu⟩ := List.mem_iff_getElem?.1 hx
            have := (List.getElem?_eq_some_iff.1 hu).1
            exact hW u x (by omega) hu
          | some u =>
            exfalso
            have h3 : s + 1 ≤ u := hW
            have := (ho u rfl).1
            omega
  · obtain ⟨r, s, e1, e2⟩ := split n (i + 1 + 1) hn
    have hLi : Lb = i + 1 := by omega
    subst hLi
    exact ⟨r, s, r, s, e1, e2, e1, e2, .inr (.inl (by omega))⟩
/-- where a thread is: between tasks, or in one: idle and hold between, with no monitor and with one -/
inductive Ph
  | idle | tw | t1 | t2 (x : Int) | t3 (x u : Int) | t4 (v : Int) | hold (x : Int) | bw (x : Int) | b1 (x : Int) | b2 (x : Int) | b3 (x u : Int) | b4 (x : Int) | b5 (x : Int)
namespace Ph
def rank : Ph → Nat
  | idle => 0 | tw => 0 | t1 => 1 | t2 _ => 2 | t3 _ _ => 3 | t4 _ => 4 | hold _ => 5 | bw _ => 5 | b1 _ => 6 | b2 _ => 7 | b3 _ _ => 8 | b4 _ => 9 | b5 _ => 10
/-- what the law's row has -/
def has : Ph → Int
  | idle => -1 | tw => -1 | t1 => -1 | t2 _ => -1 | t3 _ _ => -1 | t4 _ => -1 | hold x => x | bw x => x | b1 x => x | b2 x => x | b3 x _ => x | b4 x => x | b5 x => x
/-- what is out of the pool with it -/
def held : Ph → List Int
  | idle => [] | tw => [] | t1 => [] | t2 _ => [] | t3 _ _ => [] | t4 v => if 0 ≤ v then [v] else [] | hold x => [x] | bw x => [x] | b1 x => [x] | b2 x => [x] | b3 x _ => [x] | b4 x => [x] | b5 _ => []
/-- within the latch -/
def inn : Ph → Bool
  | idle => false | tw => false | hold _ => false | bw _ => false | _ => true
/-- has a task -/
def busy : Ph → Bool
  | idle => false | hold _ => false | _ => true
def tree (m : Mp) (t : Int) : Ph → Tre Itm
  | idle => retT 0 | hold _ => retT 0 | tw => takeT m t | t1 => tk1 m t | t2 x => tk2 m t x | t3 x u => tk3 t x u | t4 v => outT 0 t v
  | bw x => backT m t x | b1 x => bk1 m t x | b2 x => bk2 m t x | b3 x u => bk3 m t x u | b4 x => bk4 t x | b5 _ => outT 0 t 1
/-- what it knows -/
def knows (m : Mp) (mm L : List Int) (em : Option Bool) : Ph → Prop
  | t2 x => ∃ r, L = x :: r
  | t3 x u => ∃ r, L = x :: r ∧ u = headOf r
  | t4 v => (v = -1 ∧ em = some true) ∨ 0 ≤ v
  | b3 _ u => u = headOf L
  | b4 x => mm[linkN m x]? = some (headOf L)
  | b5 x => 0 ≤ x
  | _ => True
end Ph
def cntH (x : Int) (U : List (Nat × Ph)) : Nat := (U.map fun y => y.2.held.count x).sum
theorem cntH_cons (x : Int) (z : Nat × Ph) (U : List (Nat × Ph)) : cntH x (z :: U) = z.2.held.count x + cntH x U := by simp [cntH]
theorem cntH_set (x : Int) : ∀ {U : List (Nat × Ph)} {t : Nat} {a b : Nat × Ph}, U[t]? = some a → cntH x (U.set t b) + a.2.held.count x = cntH x U + b.2.held.count x
  | [], t, a, b, h => by simp at h
  | z :: U, 0, a, b, h => by
    simp at h
    subst h
    rw [List.set_cons_zero, cntH_cons, cntH_cons]
    omega
  | z :: U, t + 1, a, b, h => by
    rw [List.set_cons_succ, cntH_cons, cntH_cons]
    have := cntH_set x (U := U) (b := b) (by simpa using h)
    omega
theorem cntH_ge (x : Int) : ∀ {U : List (Nat × Ph)} {t : Nat} {a : Nat × Ph}, U[t]? = some a → a.2.held.count x ≤ cntH x U
  | [], t, a, h => by simp at h
  | z :: U, 0, a, h => by
    simp at h
    subst h
    rw [cntH_cons]
    omega
  | z :: U, t + 1, a, h => by
    rw [cntH_cons]
    have := cntH_ge x (U := U) (t := t) (a := a) (by simpa using h)
    omega
theorem cntH_two (x : Int) : ∀ {U : List (Nat × Ph)} {t u : Nat} {a b : Nat × Ph}, t ≠ u → U[t]? = some a → U[u]? = some b → a.2.held.count x + b.2.held.count x ≤ cntH x U
  | [], t, u, a, b, _, h, _ => by simp at h
  | z :: U, 0, 0, a, b, hn, _, _ => absurd rfl hn
  | z :: U, 0, u + 1, a, b, hn, h, k => by
    simp at h
    subst h
    rw [cntH_cons]
    have := cntH_ge x (U := U) (t := u) (a := b) (by simpa using k)
    omega
  | z :: U, t + 1, 0, a, b, hn, h, k => by
    simp at k
    subst k
    rw [cntH_cons]
    have := cntH_ge x (U := U) (t := t) (a := a) (by simpa using h)
    omega
  | z :: U, t + 1, u + 1, a, b, hn, h, k => by
    rw [cntH_cons]
    have := cntH_two x (U := U) (t := t) (u := u) (fun e => hn (by rw [e])) (by simpa using h) (by simpa using k)
    omega
theorem cntH_none (x : Int) : ∀ {U : List (Nat × Ph)}, (∀ y ∈ U, y.2 = .idle) → cntH x U = 0
  | [], _ => rfl
  | z :: U, h => by
    rw [cntH_cons, cntH_none x (fun y hy => h y (List.mem_cons_of_mem _ hy)), h z (by simp)]
    simp [Ph.held]
/-- so far each thread is -/
def rankU (U : List (Nat × Ph)) : List (Nat × Nat) := U.map fun y => (y.1, y.2.rank)
theorem rankU_set (U : List (Nat × Ph)) (t : Nat) (y : Nat × Ph) : rankU (U.set t y) = (rankU U).set t (y.1, y.2.rank) := by simp [rankU, List.map_set]
theorem rankU_at {U : List (Nat × Ph)} {t : Nat} {y : Nat × Ph} (h : U[t]? = some y) : (rankU U)[t]? = some (y.1, y.2.rank) := by simp [rankU, h]
/-- what the latch has -/
def latO : Option Nat → Int
  | none => 0
  | some t => (t : Int) + 1
/-- what holds between turns -/
structure InvP (m : Mp) (n : Nat) (U : List (Nat × Ph)) (o : Option Nat) (mm L : List Int) (EM : List Bool) : Prop where
  len : U.length = n
  ok : ∀ y ∈ U, y.1 ≤ 3 ∧ (y.1 = 3 → y.2 = .idle)
  pis : PIs m mm L
  rng : Rng mm
  lk : mm[0]? = some (latO o)
  gen : ∀ k : Int, 0 ≤ k → k < m.n → mm[genN m k]? = some 0
  ow : ∀ (t : Nat) (y : Nat × Ph), U[t]? = some y → (y.2.inn = true ↔ o = some t)
  on : ∀ t, o = some t → t < n
  cnt : ∀ x : Int, L.count x + cntH x U = (upL m.n).count x
  kn : ∀ (t : Nat) (y : Nat × Ph), U[t]? = some y → y.2.knows m mm L EM[t]?
theorem Ph.knows_out {p : Ph} {m : Mp} {mm L : List Int} {em : Option Bool} (h : p.inn = false) : p.knows m mm L em := by
  cases p <;> first | trivial | (simp [Ph.inn] at h)
theorem Ph.rank_le (p : Ph) : p.rank ≤ 10 := by cases p <;> simp [Ph.rank]
theorem up_one (n : Nat) (x : Int) : (upL n).count x ≤ 1 := List.nodup_iff_count.1 (upL_nodup n) x
theorem up_pos {n : Nat} {x : Int} (h : 1 ≤ (upL n).count x) : 0 ≤ x ∧ x < n := upL_mem.1 (List.count_pos_iff.1 h)
theorem set_at3 {α : Type} {l : List α} {t u : Nat} {x y : α} (h : (l.set t x)[u]? = some y) : (u = t ∧ y = x) ∨ (u ≠ t ∧ l[u]? = some y) := by
  by_cases e : t = u
  · subst e
    left
    have hl : t < l.length := by
      have := (List.getElem?_eq_some_iff.1 h).1
      simpa using this
    rw [List.getElem?_set_self hl] at h
    exact ⟨rfl, (Option.some.inj h).symm⟩
  · right
    rw [List.getElem?_set_ne e] at h
    exact ⟨fun hh => e hh.symm, h⟩
theorem pot_on {U : List (Nat × Ph)} {t d : Nat} {p p' : Ph} (hU : U[t]? = some (d, p)) (hd : d < 3) (h : p.rank < p'.rank) : potL 11 3 (rankU (U.set t (d, p'))) + 1 ≤ potL 11 3 (rankU U) := by
  rw [rankU_set]
  refine potL_less (rankU_at hU) ?_
  have := p'.rank_le
  show 11 * (3 - d) - p'.rank + 1 ≤ 11 * (3 - d) - p.rank
  omega
theorem pot_done {U : List (Nat × Ph)} {t d : Nat} {p : Ph} (hU : U[t]? = some (d, p)) (hd : d < 3) : potL 11 3 (rankU (U.set t (d + 1, .idle))) + 1 ≤ potL 11 3 (rankU U) := by
  rw [rankU_set]
  refine potL_less (rankU_at hU) ?_
  have := p.rank_le
  show 11 * (3 - (d + 1)) - 0 + 1 ≤ 11 * (3 - d) - p.rank
  omega
/-- what a turn's step comes to -/
inductive OutP (m : Mp) (n : Nat) (U : List (Nat × Ph)) (o : Option Nat) (mm L : List Int) (EM : List Bool) (t d : Nat) (p : Ph) (mm' : List Int) (T' : Tre Itm) : Prop
  | on (p' : Ph) (o' : Option Nat) (L' : List Int) (hT : T' = p'.tree m t) (hb : p'.busy = true) (hh : p'.has = p.has) (hi : InvP m n (U.set t (d, p')) o' mm' L' EM)
      (hp : potL 11 3 (rankU (U.set t (d, p'))) + 1 ≤ potL 11 3 (rankU U) ∨ (rankU (U.set t (d, p')) = rankU U ∧ o' = o ∧ (o = none → False) ∧ ∀ u, o = some u → u < n ∧ u ≠ t))
  | took (v : Int) (L' : List Int) (hT : T' = retT v) (hv : 0 ≤ v ∧ v < m.n) (hh : p.has = -1) (hne : ∀ y ∈ U, y.2.has ≠ v) (hi : InvP m n (U.set t (d, .hold v)) none mm' L' EM)
      (hp : potL 11 3 (rankU (U.set t (d, .hold v))) + 1 ≤ potL 11 3 (rankU U))
  | none (L' : List Int) (hT : T' = retT (-1)) (hh : p.has = -1) (he : EM[t]? = some true) (hi : InvP m n (U.set t (d + 1, .idle)) none mm' L' EM) (hp : potL 11 3 (rankU (U.set t (d + 1, .idle))) + 1 ≤ potL 11 3 (rankU U))
  | back (L' : List Int) (hT : T' = retT 1) (hh : 0 ≤ p.has) (hi : InvP m n (U.set t (d + 1, .idle)) none mm' L' EM) (hp : potL 11 3 (rankU (U.set t (d + 1, .idle))) + 1 ≤ potL 11 3 (rankU U))
section
variable {m : Mp} {n : Nat} {U : List (Nat × Ph)} {o : Option Nat} {mm L : List Int} {EM : List Bool} {t d : Nat} {p : Ph}
theorem InvP.heldr (h : InvP m n U o mm L EM) {x : Int} (hU : U[t]? = some (d, p)) (hx : p.held.count x = 1) : (0 ≤ x ∧ x < m.n) ∧ x ∉ L := by
  have h1 := cntH_ge x hU
  have h2 := h.cnt x
  have h3 := up_one m.n x
  simp only at h1
  exact ⟨up_pos (by omega), fun hm => by have := List.count_pos_iff.2 hm; omega⟩
theorem InvP.go (h : InvP m n U o mm L EM) (hU : U[t]? = some (d, p)) (hd : d < 3) {d' : Nat} {p' : Ph} {o' : Option Nat} {mm' L' : List Int} (ho : o = some t ∨ o = none) (hd' : d' ≤ 3 ∧ (d' = 3 → p' = .idle)) (hp : PIs m mm' L') (hr : Rng mm') (hl : mm'[0]? = some (latO o'))
    (hg : ∀ k : Int, 0 ≤ k → k < m.n → mm'[genN m k]? = mm[genN m k]?) (ho' : (p'.inn = true ∧ o' = some t) ∨ (p'.inn = false ∧ o' = none)) (hc : ∀ x : Int, L'.count x + p'.held.count x = L.count x + p.held.count x) (hk : p'.knows m mm' L' EM[t]?) : InvP m n (U.set t (d', p')) o' mm' L' EM := by
  have htl : t < U.length := (List.getElem?_eq_some_iff.1 hU).1
  have hoth : ∀ (u : Nat) (y : Nat × Ph), u ≠ t → U[u]? = some y → y.2.inn = false := fun u y hu hy => by
    cases he : y.2.inn with
    | false => rfl
    | true =>
      have := (h.ow u y hy).1 he
      rcases ho with ho | ho
      · rw [ho] at this
        exact absurd (Option.some.inj this).symm hu
      · rw [ho] at this
        cases this
  refine ⟨by simpa using h.len, fun y hy => ?_, hp, hr, hl, fun k h1 h2 => (hg k h1 h2).trans (h.gen k h1 h2), fun u y hu => ?_, fun u hu => ?_, fun x => ?_, fun u y hu => ?_⟩
  · rcases List.mem_or_eq_of_mem_set hy with hy | rfl
    · exact h.ok y hy
    · exact hd'
  · rcases set_at3 hu with ⟨rfl, rfl⟩ | ⟨e, hu⟩
    · rcases ho' with ⟨h1, h2⟩ | ⟨h1, h2⟩
      · simp [h1, h2]
      · simp [h1, h2]
    · have h1 := hoth u y e hu
      rw [h1]
      constructor
      · intro h; cases h
      · intro h2
        rcases ho' with ⟨_, h3⟩ | ⟨_, h3⟩
        · rw [h3] at h2
          exact absurd (Option.some.inj h2).symm e
        · rw [h3] at h2
          cases h2
  · rcases ho' with ⟨_, h3⟩ | ⟨_, h3⟩
    · rw [h3] at hu
      obtain rfl := Option.some.inj hu
      have := h.len
      omega
    · rw [h3] at hu
      cases hu
  · have h1 := cntH_set x (b := (d', p')) hU
    have h2 := h.cnt x
    have h3 := hc x
    simp only at h1
    omega
  · rcases set_at3 hu with ⟨rfl, rfl⟩ | ⟨e, hu⟩
    · exact hk
    · exact Ph.knows_out (hoth u y e hu)
theorem InvP.turn (h : InvP m n U o mm L EM) (hn : n ≤ 5) (hm : m.n ≤ 4096) (hU : U[t]? = some (d, p)) (hd : d < 3) (hb : p.busy = true) (hE : mm[1]? = some 0 → EM[t]? = some true) :
    ∃ x κ mm' u ok T', p.tree m t = opT x κ ∧ x.kind < 5 ∧ operS mm x = (mm', u, ok) ∧ countS mm x = 1 ∧ κ u = T' ∧ OutP m n U o mm L EM t d p mm' T' := by
  have htl : t < n := by have := (List.getElem?_eq_some_iff.1 hU).1; have := h.len; omega
  have hu : 0 ≤ (t : Int) ∧ (t : Int) ≤ 100000 := ⟨by omega, by omega⟩
  have how := h.ow t _ hU
  have hkn := h.kn t _ hU
  have hlk := h.lk
  have hpis := h.pis
  have hsz := hpis.len
  have hhead := hpis.head
  have hhr := hpis.headr
  have h01 : (0 : Nat) < mm.length := by unfold sizeN at hsz; omega
  have g0 : ∀ (v : Int) (k : Int), 0 ≤ k → k < m.n → (mm.set 0 v)[genN m k]? = mm[genN m k]? := fun v k _ _ => List.getElem?_set_ne (by have := genN_two (m := m) (k := k); omega)
  have g1 : ∀ (v : Int) (k : Int), 0 ≤ k → k < m.n → (mm.set 1 v)[genN m k]? = mm[genN m k]? := fun v k _ _ => List.getElem?_set_ne (by have := genN_two (m := m) (k := k); omega)
  have p0 : ∀ v : Int, PIs m (mm.set 0 v) L := fun v => hpis.set 0 v (by omega) (fun x hx => by have := linkN_two (m := m) (k := x); omega)
  have l0 : ∀ v : Int, (mm.set 0 v)[0]? = some v := fun v => List.getElem?_set_self h01
  have hd3 : ∀ q : Ph, d ≤ 3 ∧ (d = 3 → q = .idle) := fun q => ⟨by omega, fun e => by omega⟩
  have hdd : d + 1 ≤ 3 ∧ (d + 1 = 3 → Ph.idle = .idle) := ⟨by omega, fun _ => rfl⟩
  have hin : p.inn = true → mm[0]? = some ((t : Int) + 1) ∧ o = some t := fun e => by
    have ho := how.1 e
    rw [ho] at hlk
    exact ⟨hlk, ho⟩
  have hout : p.inn = false → ¬ o = some t := fun e ho => by have := how.2 ho; rw [e] at this; cases this
  have blocked : ∀ u', o = some u' → p.inn = false → mm[0]? = some ((u' : Int) + 1) ∧ u' < n ∧ u' ≠ t := fun u' ho hi => by
    have h9 := h.on u' ho
    rw [ho] at hlk
    exact ⟨hlk, h9, fun e => hout hi (by rw [ho, e])⟩
  have free : o = none → mm[0]? = some 0 := fun ho => by rw [ho] at hlk; exact hlk
  cases p with
  | idle => cases hb
  | hold x => cases hb
  | tw =>
    cases o with
    | none =>
      have hO := oTake (t := (t : Int)) (free rfl) hu
      refine ⟨_, _, _, _, _, tk1 m t, takeT_eq m t, (show (4 : Nat) < 5 by omega), hO.1, hO.2, if_neg (by decide), .on .t1 (some t) L rfl rfl rfl ?_ (.inl (pot_on hU hd (by decide)))⟩
      exact h.go hU hd (.inr rfl) (hd3 _) (p0 _) (h.rng.set 0 ⟨by omega, by omega⟩) (l0 _) (g0 _) (.inl ⟨rfl, rfl⟩) (fun _ => rfl) trivial
    | some u' =>
      obtain ⟨hl, hu1, hu2⟩ := blocked u' rfl rfl
      have hO := oTakeNo (t := (t : Int)) hl (by omega) hu
      have hs : U.set t (d, Ph.tw) = U := by
        apply List.ext_getElem?
        intro j
        by_cases e : t = j
        · subst e; rw [List.getElem?_set_self (by have := h.len; omega), hU]
        · rw [List.getElem?_set_ne e]
      refine ⟨_, _, _, _, _, takeT m t, takeT_eq m t, (show (4 : Nat) < 5 by omega), hO.1, hO.2, if_pos (.inl rfl), .on .tw (some u') L rfl rfl rfl (by rw [hs]; exact h) (.inr ⟨by rw [hs], rfl, (fun e => by cases e), fun u'' e => ?_⟩)⟩
      obtain rfl := Option.some.inj e
      exact ⟨hu1, hu2⟩
  | t1 =>
    obtain ⟨hl, ho⟩ := hin rfl
    have hO := oLoad hhead ⟨hhr.1, by omega⟩
    have hw : IntKind.u64.wrap (headOf L) = headOf L := wrap_small ⟨hhr.1, by omega⟩
    cases L with
    | nil =>
      refine ⟨_, _, _, _, _, outT 0 t (-1), rfl, (show (0 : Nat) < 5 by omega), hO.1, hO.2, (if_pos (by rw [hw]; simp [headOf, pmS]; try omega)), .on (.t4 (-1)) (some t) [] rfl rfl rfl ?_ (.inl (pot_on hU hd (by simp [Ph.rank])))⟩
      exact h.go hU hd (.inl ho) (hd3 _) hpis h.rng hl (fun _ _ _ => rfl) (.inl ⟨rfl, rfl⟩) (fun _ => by simp [Ph.held]) (.inl ⟨rfl, hE hhead⟩)
    | cons x r =>
      have hx := hpis.low x (by simp)
      have e1 : pmS m (IntKind.u64.wrap (headOf (x :: r))) = x := by
        rw [hw]
        show (if (m.n : Int) < x + 1 then (-1 : Int) else x + 1 - 1) = x
        rw [if_neg (by omega)]
        omega
      refine ⟨_, _, _, _, _, tk2 m t x, rfl, (show (0 : Nat) < 5 by omega), hO.1, hO.2, (by rw [e1, if_neg (by omega)]), .on (.t2 x) (some t) (x :: r) rfl rfl rfl ?_ (.inl (pot_on hU hd (by simp [Ph.rank])))⟩
      exact h.go hU hd (.inl ho) (hd3 _) hpis h.rng hl (fun _ _ _ => rfl) (.inl ⟨rfl, rfl⟩) (fun _ => rfl) ⟨r, rfl⟩
  | t2 x =>
    obtain ⟨hl, ho⟩ := hin rfl
    obtain ⟨r, rfl⟩ := hkn
    have hx := hpis.low x (by simp)
    have ht := hpis.tailr
    have hn0 := hpis.next 0 x rfl
    have hO := oLoad hn0 (show 0 ≤ headOf r ∧ headOf r ≤ 1000000000000 from ⟨ht.1, by omega⟩)
    refine ⟨_, _, _, _, _, tk3 t x (headOf r), rfl, (show (0 : Nat) < 5 by omega), hO.1, hO.2, (by show tk3 t x (IntKind.u64.wrap (headOf r)) = _; rw [wrap_small ⟨ht.1, by omega⟩]), .on (.t3 x (headOf r)) (some t) (x :: r) rfl rfl rfl ?_ (.inl (pot_on hU hd (by simp [Ph.rank])))⟩
    exact h.go hU hd (.inl ho) (hd3 _) hpis h.rng hl (fun _ _ _ => rfl) (.inl ⟨rfl, rfl⟩) (fun _ => rfl) ⟨r, rfl, rfl⟩
  | t3 x u =>
    obtain ⟨hl, ho⟩ := hin rfl
    obtain ⟨r, rfl, rfl⟩ := hkn
    have hx := hpis.low x (by simp)
    have ht := hpis.tailr
    have hO := oStore (v := headOf r) hhead
    refine ⟨_, _, _, _, _, outT 0 t x, rfl, (show (1 : Nat) < 5 by omega), hO.1, hO.2, rfl, .on (.t4 x) (some t) r rfl rfl rfl ?_ (.inl (pot_on hU hd (by simp [Ph.rank])))⟩
    refine h.go hU hd (.inl ho) (hd3 _) hpis.pop (h.rng.set 1 ⟨ht.1, by omega⟩) (by rw [List.getElem?_set_ne (by omega)]; exact hl) (g1 _) (.inl ⟨rfl, rfl⟩) (fun y => ?_) (.inr hx.1)
    simp only [Ph.held, if_pos hx.1, List.count_cons, List.count_nil]
    omega
  | t4 v =>
    obtain ⟨hl, ho⟩ := hin rfl
    have hO := oDrop hl hu
    rcases hkn with ⟨rfl, he⟩ | hv
    · refine ⟨_, _, _, _, _, retT (-1), rfl, (show (2 : Nat) < 5 by omega), hO.1, hO.2, rfl, .none L rfl rfl he ?_ (pot_done hU hd)⟩
      exact h.go hU hd (.inl ho) hdd (p0 _) (h.rng.set 0 ⟨by omega, by omega⟩) (l0 _) (g0 _) (.inr ⟨rfl, rfl⟩) (fun y => by simp [Ph.held]) trivial
    · have hv' : 0 ≤ v := hv
      have hh : (Ph.t4 v).held = [v] := if_pos hv'
      have hr := h.heldr (x := v) hU (by rw [hh]; simp)
      refine ⟨_, _, _, _, _, retT v, rfl, (show (2 : Nat) < 5 by omega), hO.1, hO.2, rfl, .took v L rfl hr.1 rfl (fun y hy e => ?_) ?_ (pot_on hU hd (by simp [Ph.rank]))⟩
      · obtain ⟨u, hu'⟩ := List.mem_iff_getElem?.1 hy
        by_cases hut : u = t
        · subst hut
          rw [hU] at hu'
          obtain rfl := Option.some.inj hu'
          have : (-1 : Int) = v := e
          omega
        · have hni : y.2.inn = false := by
            cases hq : y.2.inn with
            | false => rfl
            | true =>
              have := (h.ow u y hu').1 hq
              rw [ho] at this
              exact absurd (Option.some.inj this).symm hut
          have hy1 : y.2.held.count v = 1 := by
            obtain ⟨a, q⟩ := y
            cases q <;> simp [Ph.inn, Ph.has] at hni e <;> first | omega | (subst e; simp [Ph.held])
          have h2 := cntH_two v hut hu' hU
          have h3 := h.cnt v
          have h4 := up_one m.n v
          simp only [hh, hy1] at h2
          simp at h2
          omega
      · exact h.go hU hd (.inl ho) (hd3 _) (p0 _) (h.rng.set 0 ⟨by omega, by omega⟩) (l0 _) (g0 _) (.inr ⟨rfl, rfl⟩) (fun y => by rw [hh]; rfl) trivial
  | bw x =>
    cases o with
    | none =>
      have hO := oTake (t := (t : Int)) (free rfl) hu
      refine ⟨_, _, _, _, _, bk1 m t x, backT_eq m t x, (show (4 : Nat) < 5 by omega), hO.1, hO.2, if_neg (by decide), .on (.b1 x) (some t) L rfl rfl rfl ?_ (.inl (pot_on hU hd (by simp [Ph.rank])))⟩
      exact h.go hU hd (.inr rfl) (hd3 _) (p0 _) (h.rng.set 0 ⟨by omega, by omega⟩) (l0 _) (g0 _) (.inl ⟨rfl, rfl⟩) (fun _ => rfl) trivial
    | some u' =>
      obtain ⟨hl, hu1, hu2⟩ := blocked u' rfl rfl
      have hO := oTakeNo (t := (t : Int)) hl (by omega) hu
      have hs : U.set t (d, Ph.bw x) = U := by
        apply List.ext_getElem?
        intro j
        by_cases e : t = j
        · subst e; rw [List.getElem?_set_self (by have := h.len; omega), hU]
        · rw [List.getElem?_set_ne e]
      refine ⟨_, _, _, _, _, backT m t x, backT_eq m t x, (show (4 : Nat) < 5 by omega), hO.1, hO.2, if_pos (.inl rfl), .on (.bw x) (some u') L rfl rfl rfl (by rw [hs]; exact h) (.inr ⟨by rw [hs], rfl, (fun e => by cases e), fun u'' e => ?_⟩)⟩
      obtain rfl := Option.some.inj e
      exact ⟨hu1, hu2⟩
  | b1 x =>
    obtain ⟨hl, ho⟩ := hin rfl
    have hr := h.heldr (x := x) hU (by simp [Ph.held])
    have hO := oLoad (h.gen x hr.1.1 hr.1.2) ⟨by omega, by omega⟩
    refine ⟨_, _, _, _, _, bk2 m t x, rfl, (show (0 : Nat) < 5 by omega), hO.1, hO.2, (if_neg (by decide)), .on (.b2 x) (some t) L rfl rfl rfl ?_ (.inl (pot_on hU hd (by simp [Ph.rank])))⟩
    exact h.go hU hd (.inl ho) (hd3 _) hpis h.rng hl (fun _ _ _ => rfl) (.inl ⟨rfl, rfl⟩) (fun _ => rfl) trivial
  | b2 x =>
    obtain ⟨hl, ho⟩ := hin rfl
    have hO := oLoad hhead ⟨hhr.1, by omega⟩
    refine ⟨_, _, _, _, _, bk3 m t x (headOf L), rfl, (show (0 : Nat) < 5 by omega), hO.1, hO.2, (by show bk3 m t x (IntKind.u64.wrap (headOf L)) = _; rw [wrap_small ⟨hhr.1, by omega⟩]), .on (.b3 x (headOf L)) (some t) L rfl rfl rfl ?_ (.inl (pot_on hU hd (by simp [Ph.rank])))⟩
    exact h.go hU hd (.inl ho) (hd3 _) hpis h.rng hl (fun _ _ _ => rfl) (.inl ⟨rfl, rfl⟩) (fun _ => rfl) rfl
  | b3 x u =>
    obtain ⟨hl, ho⟩ := hin rfl
    have hku : u = headOf L := hkn
    subst hku
    have hr := h.heldr (x := x) hU (by simp [Ph.held])
    have hlt := linkN_lt (m := m) (k := x) hr.1
    have h9 := linkN_two (m := m) (k := x)
    obtain ⟨c, hc⟩ : ∃ c, mm[linkN m x]? = some c := ⟨_, List.getElem?_eq_getElem (by omega)⟩
    have hO := oStore (v := headOf L) hc
    refine ⟨_, _, _, _, _, bk4 t x, rfl, (show (1 : Nat) < 5 by omega), hO.1, hO.2, rfl, .on (.b4 x) (some t) L rfl rfl rfl ?_ (.inl (pot_on hU hd (by simp [Ph.rank])))⟩
    refine h.go hU hd (.inl ho) (hd3 _) (hpis.set _ _ (by omega) fun y hy e => hr.2 ?_) (h.rng.set _ ⟨hhr.1, by omega⟩) (by rw [List.getElem?_set_ne (by omega)]; exact hl) (fun k h1 h2 => List.getElem?_set_ne (linkN_gen hr.1.1 h1)) (.inl ⟨rfl, rfl⟩) (fun _ => rfl) ?_
    · have := linkN_inj hr.1.1 (hpis.low y hy).1 e
      rw [this]; exact hy
    · exact List.getElem?_set_self (by omega)
  | b4 x =>
    obtain ⟨hl, ho⟩ := hin rfl
    have hr := h.heldr (x := x) hU (by simp [Ph.held])
    have hO := oStore (v := x + 1) hhead
    refine ⟨_, _, _, _, _, outT 0 t 1, rfl, (show (1 : Nat) < 5 by omega), hO.1, hO.2, rfl, .on (.b5 x) (some t) (x :: L) rfl rfl rfl ?_ (.inl (pot_on hU hd (by simp [Ph.rank])))⟩
    refine h.go hU hd (.inl ho) (hd3 _) (hpis.push hr.1 hr.2 hkn) (h.rng.set 1 ⟨by omega, by omega⟩) (by rw [List.getElem?_set_ne (by omega)]; exact hl) (g1 _) (.inl ⟨rfl, rfl⟩) (fun y => ?_) hr.1.1
    simp only [Ph.held, List.count_cons, List.count_nil]
    omega
  | b5 x =>
    obtain ⟨hl, ho⟩ := hin rfl
    have hO := oDrop hl hu
    have hx : 0 ≤ (Ph.b5 x).has := hkn
    refine ⟨_, _, _, _, _, retT 1, rfl, (show (2 : Nat) < 5 by omega), hO.1, hO.2, rfl, .back L rfl hx ?_ (pot_done hU hd)⟩
    exact h.go hU hd (.inl ho) hdd (p0 _) (h.rng.set 0 ⟨by omega, by omega⟩) (l0 _) (g0 _) (.inr ⟨rfl, rfl⟩) (fun y => rfl) trivial
/-- a task was made -/
theorem InvP.make (h : InvP m n U o mm L EM) (hU : U[t]? = some (d, p)) (hd : d < 3) {p' : Ph} {EM' : List Bool} (hi : p.inn = false) (hi' : p'.inn = false) (hh : p'.held = p.held) (he : ∀ u : Nat, u ≠ t → EM'[u]? = EM[u]?) : InvP m n (U.set t (d, p')) o mm L EM' := by
  have htl : t < U.length := (List.getElem?_eq_some_iff.1 hU).1
  refine ⟨by simpa using h.len, fun y hy => ?_, h.pis, h.rng, h.lk, h.gen, fun u y hu => ?_, h.on, fun x => ?_, fun u y hu => ?_⟩
  · rcases List.mem_or_eq_of_mem_set hy with hy | rfl
    · exact h.ok y hy
    · exact ⟨by show d ≤ 3; omega, fun e => (by have : d = 3 := e; omega)⟩
  · rcases set_at3 hu with ⟨rfl, rfl⟩ | ⟨e, hu⟩
    · have := h.ow u _ hU
      rw [← this]
      show (p'.inn = true ↔ p.inn = true)
      rw [hi, hi']
    · exact h.ow u y hu
  · have h1 := cntH_set x (b := (d, p')) hU
    have h2 := h.cnt x
    simp only [hh] at h1
    omega
  · rcases set_at3 hu with ⟨rfl, rfl⟩ | ⟨e, hu⟩
    · exact Ph.knows_out hi'
    · rw [he u e]
      exact h.kn u y hu
/-- more of the rows are true -/
theorem InvP.em (h : InvP m n U o mm L EM) {EM' : List Bool} (he : ∀ u : Nat, EM[u]? = some true → EM'[u]? = some true) : InvP m n U o mm L EM' := by
  refine ⟨h.len, h.ok, h.pis, h.rng, h.lk, h.gen, h.ow, h.on, h.cnt, fun u y hu => ?_⟩
  have := h.kn u y hu
  obtain ⟨a, q⟩ := y
  cases q <;> first | exact this | skip
  rcases this with ⟨h1, h2⟩ | h1
  · exact .inl ⟨h1, he u h2⟩
  · exact .inr h1
theorem InvP.new {m : Mp} {n : Nat} {mm : List Int} {EM : List Bool} (hp : PIs m mm (upL m.n)) (hr : Rng mm) (h0 : mm[0]? = some 0) (hg : ∀ k : Int, 0 ≤ k → k < m.n → mm[genN m k]? = some 0) : InvP m n (List.replicate n (0, .idle)) none mm (upL m.n) EM := by
  refine ⟨by simp, fun y hy => ?_, hp, hr, h0, hg, fun u y hu => ?_, fun u e => (by cases e), fun x => ?_, fun u y hu => ?_⟩
  · rw [List.eq_of_mem_replicate hy]
    exact ⟨Nat.zero_le _, fun e => rfl⟩
  · rw [List.eq_of_mem_replicate (List.mem_of_getElem? hu)]
    exact ⟨fun h => (by cases h), fun h => (by cases h)⟩
  · rw [cntH_none x (fun y hy => by rw [List.eq_of_mem_replicate hy])]
    rfl
  · rw [List.eq_of_mem_replicate (List.mem_of_getElem? hu)]
    exact Ph.knows_out rfl
/-- at the end all are at home -/
theorem InvP.over (h : InvP m n U o mm L EM) (hp : potL 11 3 (rankU U) = 0) : (∀ y ∈ U, y = (3, .idle)) ∧ L.Perm (upL m.n) := by
  have h1 : ∀ y ∈ U, y = (3, .idle) := fun y hy => by
    have hall := potL_done (by decide) hp (fun z hz => by
      obtain ⟨y', hy', rfl⟩ := List.mem_map.1 hz
      have := h.ok y' hy'
      refine ⟨this.1, by have := y'.2.rank_le; show y'.2.rank < 11; omega, fun e => ?_⟩
      show y'.2.rank = 0
      rw [this.2 e]
      rfl) (y.1, y.2.rank) (List.mem_map.2 ⟨y, hy, rfl⟩)
    obtain ⟨a, q⟩ := y
    have e1 : a = 3 := congrArg Prod.fst hall
    subst e1
    have := (h.ok _ hy).2 rfl
    rw [show q = .idle from this]
  refine ⟨h1, List.perm_iff_count.2 fun x => ?_⟩
  have := h.cnt x
  rw [cntH_none x (fun y hy => by rw [h1 y hy])] at this
  omega
theorem rankU_new (n : Nat) : rankU (List.replicate n (0, .idle)) = List.replicate n (0, 0) := by simp [rankU, Ph.rank]
theorem rankU_len (U : List (Nat × Ph)) : (rankU U).length = U.length := by simp [rankU]
theorem perm_one {k : Nat} {L : List Int} (h : L.Perm (upL k)) {x : Int} (hx : 0 ≤ x ∧ x < k) : L.count x = 1 := by
  have h1 := List.perm_iff_count.1 h x
  have h2 := up_one k x
  have h3 := List.count_pos_iff.2 (upL_mem.2 hx)
  omega
end
end Go.Proofs.YtldofbkjjmnooaaGreat
