/- The document's own machine (doorkeeperref08): Done, Parked, Can, Pick. -/
import Derived.Test.YtpopcallphbklaaGreatMgT
import Derived.Test.YtpopcallphbklaaGreatMacK
import Derived.Test.YtpopcallphbklaaGreatMgO
namespace Go.Proofs.YtpopcallphbklaaGreat
open Go.ChangeShapes Go.WideShapes Go.ChangeAt Go.RowKit
set_option linter.unusedVariables false
set_option maxRecDepth 100000
set_option linter.unusedSimpArgs false
theorem idx_rthreads (len c B o i : Nat) (h : i < len) : ∀ W, (Instr.indexAt 39 (.slice (some ⟨B, o, none⟩) len c) (.int .i64 (i : Int))).run Tryz.prog W = .ok (.pointer (some ⟨B, o + i, none⟩)) W := by
  intro W
  go_simp
/-- what is read of a thread that is there -/
theorem RMach.at {w : World} {R : Nat} {V : Nat → Prop} {L : List RTh} (h : RMach w R V L) {i : Nat} {k : RTh} (hi : L[i]? = some k) :
    ∃ g gc, w.cell? ⟨R, 0, none⟩ = some (.slice (some ⟨g, 0, none⟩) L.length gc) ∧ w.cell? ⟨g, i, none⟩ = some (ptrV k.H) ∧ V g ∧ V R := by
  obtain ⟨v, n0, h1, h2, h3, h4⟩ := h.own
  have hl := (List.getElem?_eq_some_iff.1 hi).1
  obtain ⟨g, gc, rfl⟩ := row_slice h2 (by omega)
  have c := h2.cells (g := g) rfl i (ptrV k.H) (by rw [List.getElem?_map, hi]; rfl)
  rw [addr_add, Nat.zero_add] at c
  exact ⟨g, gc, h1.cell 0 _ rfl, c, (h4 g rfl).1, h.mine.1⟩
theorem RMach.head {w : World} {R : Nat} {V : Nat → Prop} {L : List RTh} (h : RMach w R V L) : ∃ a gc, w.cell? ⟨R, 0, none⟩ = some (.slice a L.length gc) := by
  obtain ⟨v, n0, h1, h2, h3, h4⟩ := h.own
  rcases h2.2 with ⟨rfl, h0⟩ | ⟨g, cap, cur, rfl, _⟩
  · exact ⟨none, 0, by rw [h0]; exact h1.cell 0 _ rfl⟩
  · exact ⟨_, cap, h1.cell 0 _ rfl⟩
theorem RThr.head {w : World} {H : Nat} {O : Nat → Prop} {K : List RTk} {n : Nat} (h : RThr w H O K n) : ∃ a c u, w.cell? ⟨H, 0, none⟩ = some (.slice a K.length c) ∧ w.cell? ⟨H, 1, none⟩ = some (.int .i64 n) ∧ w.cell? ⟨H, 2, none⟩ = some u ∧
    RowI w u ((K.take n).map RTk.x) ∧ ∀ i k, K[i]? = some k → ∃ B, a = some ⟨B, 0, none⟩ ∧ w.cell? ⟨B, i, none⟩ = some (ptrV k.T) := by
  obtain ⟨v, u, n0, B, h1, h2, h3, h4, h5, h6⟩ := h.own
  obtain ⟨a, c, rfl, hs⟩ := h2.is
  have hle := h.le
  refine ⟨a, c, u, h1.cell 0 _ rfl, h1.cell 1 _ rfl, h1.cell 2 _ rfl, RowI.own (n0 := n0) ?_, fun i k hi => ⟨B, hs ?_, h2.cell i k hi⟩⟩
  · have e : ((K.take n).map RTk.x).length = n := by simp; omega
    rw [e, List.map_map]
    exact h4
  · have := (List.getElem?_eq_some_iff.1 hi).1
    omega
theorem isEmpty_thr (K : List RTk) (n : Nat) (h : n ≤ K.length) : (thrOf K n).1.isEmpty = decide (K.length ≤ n) := by
  unfold thrOf
  rw [Bool.eq_iff_iff]
  simp
/-- the number of a thread that is there -/
theorem thr_in {L : List RTh} {t : Int} (h : 0 ≤ t ∧ t < (L.length : Int)) : ∃ (i : Nat) (k : RTh), t = i ∧ L[i]? = some k ∧ thrAt (L.map RTh.x) t = k.x := by
  obtain ⟨i, rfl⟩ := Int.eq_ofNat_of_zero_le h.1
  have hi : L[i]? = some (L[i]'(by omega)) := by simp
  exact ⟨i, _, rfl, hi, thrAt_yes (by rw [List.getElem?_map, hi]; rfl)⟩
set_option maxHeartbeats 2000000 in
theorem rmdone_any (R : Nat) (V : Nat → Prop) (L : List RTh) (t : Int) (w : World) (h : RMach w R V L) :
    Calls Tryz.prog 31 #[ptrV R, .int .i64 t] w fun e w' => e = .returned (.bool (thrAt (L.map RTh.x) t).1.isEmpty) ∧ ∃ m, w' = w.drewN m := by
  by_cases h0 : t < 0
  · have e : (thrAt (L.map RTh.x) t).1.isEmpty = true := by rw [thrAt_no (.inl h0)]; rfl
    rw [e]
    clear h e
    go_enter Tryz.func31, Tryz.ntmps31
    go_upto_region 1 with fail
    go_quiet (fail)
    go_wp2
    go_ret
    exact ⟨rfl, _, rfl⟩
  · by_cases h1 : t < (L.length : Int)
    · obtain ⟨i, k, rfl, hi, ex⟩ := thr_in ⟨by omega, h1⟩
      obtain ⟨g, gc, c0, c1, _, _⟩ := h.at hi
      obtain ⟨hT, _, _⟩ := h.thr k (List.mem_of_getElem? hi)
      obtain ⟨a, c, u, d0, d1, _⟩ := hT.head
      have hle := hT.le
      have hf := hT.few
      have e : (thrAt (L.map RTh.x) (i : Int)).1.isEmpty = decide (k.K.length ≤ k.n) := by rw [ex]; exact isEmpty_thr k.K k.n hle
      have hix := idx_rthreads L.length gc g 0 i (by omega)
      simp only [Nat.zero_add] at hix
      rw [e]
      have hfew := h.few
      have hge : ¬ (L.length : Int) ≤ (i : Int) := by omega
      clear h hT ex e hi
      obtain ⟨H, O, K, n⟩ := k
      dsimp only at *
      generalize L.length = ll at *
      generalize K.length = kl at *
      by_cases hd : kl ≤ n
      · have hd1 : (kl : Int) ≤ (n : Int) := by omega
        go_enter Tryz.func31, Tryz.ntmps31
        go_upto_region 1 with fail
        go_quiet (fail)
        go_wp2
        go_ret
        exact ⟨by simp [hd], _, rfl⟩
      · have hd1 : ¬ (kl : Int) ≤ (n : Int) := by omega
        go_enter Tryz.func31, Tryz.ntmps31
        go_upto_region 1 with fail
        go_quiet (fail)
        go_wp2
        go_ret
        exact ⟨by simp [hd], _, rfl⟩
    · have e : (thrAt (L.map RTh.x) t).1.isEmpty = true := by rw [thrAt_no (.inr (by simpa using h1))]; rfl
      rw [e]
      obtain ⟨a, gc, c0⟩ := h.head
      clear h e
      generalize L.length = ll at *
      have hge : (ll : Int) ≤ t := by omega
      go_enter Tryz.func31, Tryz.ntmps31
      go_upto_region 1 with fail
      go_quiet (fail)
      go_wp2
      go_ret
      exact ⟨rfl, _, rfl⟩
end Go.Proofs.YtpopcallphbklaaGreat
/- The document's own machine (doorkeeperref08): Parked, Can. -/
namespace Go.Proofs.YtpopcallphbklaaGreat
open Go.ChangeShapes Go.WideShapes Go.ChangeAt Go.RowKit
set_option linter.unusedVariables false
set_option maxRecDepth 100000
set_option linter.unusedSimpArgs false
/-- what is read of a thread that is not done -/
theorem RMach.live {w : World} {R : Nat} {V : Nat → Prop} {L : List RTh} (h : RMach w R V L) {i : Nat} {k : RTh} (hi : L[i]? = some k) (hd : k.n < k.K.length) :
    ∃ g gc B bc y, w.cell? ⟨R, 0, none⟩ = some (.slice (some ⟨g, 0, none⟩) L.length gc) ∧ w.cell? ⟨g, i, none⟩ = some (ptrV k.H) ∧ w.cell? ⟨k.H, 0, none⟩ = some (.slice (some ⟨B, 0, none⟩) k.K.length bc) ∧ w.cell? ⟨k.H, 1, none⟩ = some (.int .i64 k.n) ∧
      w.cell? ⟨B, k.n, none⟩ = some (ptrV y.T) ∧ k.K[k.n]? = some y ∧ RTask w y.T y.I y.l y.r y.x ∧ y.r ≠ [] ∧ k.O y.T ∧ (y.l ≠ [] → k.O y.I) ∧ k.x = ((y.r, y.x) :: (thrOf k.K (k.n + 1)).1, (thrOf k.K k.n).2) := by
  obtain ⟨g, gc, c0, c1, _, _⟩ := h.at hi
  obtain ⟨hT, hok, _⟩ := h.thr k (List.mem_of_getElem? hi)
  obtain ⟨a, c, u, d0, d1, _, _, hB⟩ := hT.head
  obtain ⟨y, hy⟩ : ∃ y, k.K[k.n]? = some y := ⟨_, List.getElem?_eq_getElem hd⟩
  obtain ⟨B, rfl, d3⟩ := hB _ y hy
  obtain ⟨t1, t2, t3⟩ := hT.tk y (List.mem_of_getElem? hy)
  have hx : k.x = ((y.r, y.x) :: (thrOf k.K (k.n + 1)).1, (thrOf k.K k.n).2) := by
    have hdr : k.K.drop k.n = y :: k.K.drop (k.n + 1) := by
      rw [List.drop_eq_getElem_cons hd]; congr 1; exact (List.getElem?_eq_some_iff.1 hy).2
    unfold RTh.x thrOf
    rw [hdr]
    rfl
  refine ⟨g, gc, B, c, y, c0, c1, d0, d1, d3, hy, t1, ?_, t2, fun hl => (t3 hl).1, hx⟩
  exact hok (y.r, y.x) (by rw [hx]; rfl)
set_option maxHeartbeats 2000000 in
theorem rmparked_any (R : Nat) (V : Nat → Prop) (L : List RTh) (t : Int) (w : World) (h : RMach w R V L) :
    Calls Tryz.prog 34 #[ptrV R, .int .i64 t] w fun e w' => e = .returned (.bool (parkedT (thrAt (L.map RTh.x) t))) ∧ ∃ m, w' = w.drewN m := by
  have HD : Hid (∀ j, Calls Tryz.prog 31 #[ptrV R, .int .i64 t] (w.drewN j) fun e w' => e = .returned (.bool (thrAt (L.map RTh.x) t).1.isEmpty) ∧ ∃ m, w' = (w.drewN j).drewN m) := Lib.hid fun j => rmdone_any R V L t (w.drewN j) (h.keep (F := fun _ => False) ((Keep.refl _ _).drewN j) (fun _ _ h => h))
  by_cases hin : (thrAt (L.map RTh.x) t).1.isEmpty = true
  · have e : parkedT (thrAt (L.map RTh.x) t) = false := by
      unfold parkedT
      cases hh : (thrAt (L.map RTh.x) t).1 with
      | nil => rfl
      | cons a b => rw [hh] at hin; simp at hin
    rw [e]
    rw [hin] at HD
    clear h e hin
    go_enter Tryz.func34, Tryz.ntmps34
    go_upto_region 1 with fail
    go_quiet (first | (go_at_call 31; exact Calls.quiet_of (HD.out _)))
    go_wp2
    go_ret
    exact ⟨rfl, _, rfl⟩
  · have hin' : (thrAt (L.map RTh.x) t).1.isEmpty = false := by simpa using hin
    have hr : 0 ≤ t ∧ t < (L.length : Int) := by
      rcases Int.lt_or_le t 0 with h0 | h0
      · rw [thrAt_no (.inl h0)] at hin; exact absurd rfl hin
      · rcases Int.lt_or_le t L.length with h1 | h1
        · exact ⟨h0, h1⟩
        · rw [thrAt_no (.inr (by simpa using h1))] at hin; exact absurd rfl hin
    obtain ⟨i, k, rfl, hi, ex⟩ := thr_in hr
    have hT0 := (h.thr k (List.mem_of_getElem? hi)).1
    have hd : k.n < k.K.length := by
      rw [ex] at hin'
      unfold RTh.x at hin'
      rw [isEmpty_thr k.K k.n hT0.le] at hin'
      simpa using hin'
    have hf := hT0.few
    obtain ⟨g, gc, B, bc, y, c0, c1, d0, d1, d3, hy, hT, hne, _, _, hx⟩ := h.live hi hd
    have HP : Hid (∀ j, Calls Tryz.prog 68 #[ptrV y.T] (w.drewN j) fun e w' => e = .returned (.bool (parkedS y.r)) ∧ ∃ m, w' = (w.drewN j).drewN m) := Lib.hid fun j => rparked_any y.T y.I y.l y.r y.x (w.drewN j) (hT.keep (Q := fun _ => False) ((Keep.refl _ _).drewN j) (fun h => h) (fun h => h))
    have e : parkedT (thrAt (L.map RTh.x) (i : Int)) = parkedS y.r := by rw [ex, hx]; rfl
    have hix := idx_rthreads L.length gc g 0 i (by omega)
    have hiy := idx_rtasks k.K.length bc B 0 k.n hd
    simp only [Nat.zero_add] at hix hiy
    rw [e]
    rw [hin'] at HD
    have hfew := h.few
    clear h hT e ex hi hx hin hin' hne hy hT0
    obtain ⟨H, O, K, n⟩ := k
    dsimp only at *
    generalize L.length = ll at *
    generalize K.length = kl at *
    go_enter Tryz.func34, Tryz.ntmps34
    go_upto_region 1 with fail
    go_quiet (first | (go_at_call 31; exact Calls.quiet_of (HD.out _)) | (go_at_call 68; exact Calls.quiet_of (HP.out _)))
    go_wp2
    go_ret
    exact ⟨rfl, _, rfl⟩
set_option maxHeartbeats 4000000 in
theorem rmcan_any (R D C P : Nat) (V : Nat → Prop) (L : List RTh) (t kd n : Int) (m : List Int) (ps : List Bool) (w : World) (h : RMach w R V L) (hW : RWorld w D C P m ps n) (hok : AllOk ps (L.map RTh.x)) :
    Calls Tryz.prog 35 #[ptrV R, ptrV D, .agg #[.int .i64 t, .int .i64 kd]] w fun e w' => e = .returned (.bool (canT ps (thrAt (L.map RTh.x) t) kd)) ∧ Keep (fun _ => False) w w' := by
  have kA : Keep (fun _ => False) w (w.alloc (.cells #[.int .i64 t, .int .i64 kd] 37)) := (Keep.refl _ _).alloc _
  have hX : Blk (w.alloc (.cells #[.int .i64 t, .int .i64 kd] 37)) w.heap.size 37 #[.int .i64 t, .int .i64 kd] := Blk.new _ _ _
  have x0 := hX.cell 0 _ rfl
  have x1 := hX.cell 1 _ rfl
  have HD : Hid (∀ W, Keep (fun _ => False) w W → Calls Tryz.prog 31 #[ptrV R, .int .i64 t] W fun e w' => e = .returned (.bool (thrAt (L.map RTh.x) t).1.isEmpty) ∧ ∃ m, w' = W.drewN m) := Lib.hid fun W hk => rmdone_any R V L t W (h.keep hk (fun _ _ h => h))
  by_cases hr : 0 ≤ t ∧ t < (L.length : Int)
  · by_cases hin : (thrAt (L.map RTh.x) t).1.isEmpty = true
    · have e : canT ps (thrAt (L.map RTh.x) t) kd = false := by
        unfold canT
        cases hh : (thrAt (L.map RTh.x) t).1 with
        | nil => rfl
        | cons a b => rw [hh] at hin; simp at hin
      rw [e]
      rw [hin] at HD
      obtain ⟨a, gc, c0⟩ := h.head
      replace c0 := cell_keep c0 kA (fun h => h)
      obtain ⟨hr0, hr1⟩ := hr
      clear h e hin hW hok hX
      generalize L.length = ll at *
      go_enter Tryz.func35, Tryz.ntmps35
      go_upto_region 1 with fail
      generalize (w.alloc (.cells #[.int .i64 t, .int .i64 kd] 37)) = W0 at *
      go_quiet (first | (go_at_call 31; exact Calls.quiet_of (HD.out _ (kA.drewN _))))
      go_wp2
      go_ret
      exact ⟨rfl, kA.drewN _⟩
    · have hin' : (thrAt (L.map RTh.x) t).1.isEmpty = false := by simpa using hin
      obtain ⟨i, k, rfl, hi, ex⟩ := thr_in hr
      have hT0 := (h.thr k (List.mem_of_getElem? hi)).1
      have hd : k.n < k.K.length := by
        rw [ex] at hin'
        unfold RTh.x at hin'
        rw [isEmpty_thr k.K k.n hT0.le] at hin'
        simpa using hin'
      have hf := hT0.few
      obtain ⟨g, gc, B, bc, y, c0, c1, d0, d1, d3, hy, hT, hne, _, _, hx⟩ := h.live hi hd
      have hpk : ParkOk ps y.r := hok k.x (List.mem_map_of_mem (List.mem_of_getElem? hi)) (y.r, y.x) (by rw [hx]; simp)
      have HC : Hid (∀ W, Keep (fun _ => False) w W → Calls Tryz.prog 69 #[ptrV y.T, ptrV D, .int .i64 kd] W fun e w' => e = .returned (.bool (canS ps y.r kd)) ∧ Keep (fun _ => False) W w') := Lib.hid fun W hk => rcan_any y.T y.I D C P y.l y.r y.x kd n m ps W (hT.keep hk (fun h => h) (fun h => h)) (hW.keep hk (fun h => h) (fun h => h) (fun h => h)) hpk
      have e : canT ps (thrAt (L.map RTh.x) (i : Int)) kd = canS ps y.r kd := by rw [ex, hx]; rfl
      have hix := idx_rthreads L.length gc g 0 i (by omega)
      have hiy := idx_rtasks k.K.length bc B 0 k.n hd
      simp only [Nat.zero_add] at hix hiy
      rw [e]
      rw [hin'] at HD
      have hfew := h.few
      obtain ⟨hr0, hr1⟩ := hr
      have SK : Hid (∀ W, Keep (fun _ => False) (w.alloc (.cells #[.int .i64 i, .int .i64 kd] 37)) W → W.cell? ⟨w.heap.size, 0, none⟩ = some (.int .i64 i) ∧ W.cell? ⟨w.heap.size, 1, none⟩ = some (.int .i64 kd) ∧ W.cell? ⟨R, 0, none⟩ = some (.slice (some ⟨g, 0, none⟩) L.length gc) ∧ W.cell? ⟨g, i, none⟩ = some (ptrV k.H) ∧ W.cell? ⟨k.H, 0, none⟩ = some (.slice (some ⟨B, 0, none⟩) k.K.length bc) ∧ W.cell? ⟨k.H, 1, none⟩ = some (.int .i64 k.n) ∧ W.cell? ⟨B, k.n, none⟩ = some (ptrV y.T)) :=
        Lib.hid fun W hk => ⟨cell_keep x0 hk (fun h => h), cell_keep x1 hk (fun h => h), cell_keep c0 (kA.trans hk) (fun h => h), cell_keep c1 (kA.trans hk) (fun h => h), cell_keep d0 (kA.trans hk) (fun h => h), cell_keep d1 (kA.trans hk) (fun h => h), cell_keep d3 (kA.trans hk) (fun h => h)⟩
      clear h hT e ex hi hx hin hin' hne hy hT0 hW hok hX hpk x0 x1 c0 c1 d0 d1 d3
      obtain ⟨H, O, K, n⟩ := k
      dsimp only at *
      generalize L.length = ll at *
      generalize K.length = kl at *
      go_enter Tryz.func35, Tryz.ntmps35
      go_upto_region 1 with fail
      generalize (w.alloc (.cells #[.int .i64 i, .int .i64 kd] 37)) = W0 at *
      have k0 : Keep (fun _ => False) W0 W0.drew := (Keep.refl _ _).drew
      have HD0 := Lib.hid (HD.out W0.drew (kA.trans k0))
      go_region_held3 (fun W => W.cell? ⟨w.heap.size, 0, none⟩ = some (.int .i64 i) ∧ W.cell? ⟨w.heap.size, 1, none⟩ = some (.int .i64 kd) ∧ W.cell? ⟨R, 0, none⟩ = some (.slice (some ⟨g, 0, none⟩) ll gc) ∧ W.cell? ⟨g, i, none⟩ = some (ptrV H) ∧ W.cell? ⟨H, 0, none⟩ = some (.slice (some ⟨B, 0, none⟩) kl bc) ∧ W.cell? ⟨H, 1, none⟩ = some (.int .i64 n) ∧ W.cell? ⟨B, n, none⟩ = some (ptrV y.T)) (first | exact SK.out _ k3 | exact SK.out _ k2 | exact SK.out _ k0) (first
        | (go_at_call 31; refine HD0.out.mono ?_; rintro e w2 ⟨rfl, m2, rfl⟩; have k2 : Keep (fun _ => False) W0 (W0.drewN (1 + m2)) := (Keep.refl _ _).drewN _; have HC0 := Lib.hid (HC.out _ (kA.trans k2)))
        | (go_at_call 69; refine HC0.out.mono ?_; rintro e w3 ⟨rfl, k3'⟩; have k3 : Keep (fun _ => False) W0 w3 := k2.trans k3'))
      go_wp2
      go_ret
      exact ⟨rfl, kA.trans k3⟩
  · have e : canT ps (thrAt (L.map RTh.x) t) kd = false := by
      rw [thrAt_no (by simp; omega)]
      rfl
    rw [e]
    obtain ⟨a, gc, c0⟩ := h.head
    replace c0 := cell_keep c0 kA (fun h => h)
    clear h e hW hok hX HD
    generalize L.length = ll at *
    by_cases h0 : 0 ≤ t
    · have hge : ¬ t < (ll : Int) := by omega
      go_enter Tryz.func35, Tryz.ntmps35
      go_upto_region 1 with fail
      generalize (w.alloc (.cells #[.int .i64 t, .int .i64 kd] 37)) = W0 at *
      go_quiet (fail)
      go_wp2
      go_ret
      exact ⟨rfl, kA.drewN _⟩
    · go_enter Tryz.func35, Tryz.ntmps35
      go_upto_region 1 with fail
      generalize (w.alloc (.cells #[.int .i64 t, .int .i64 kd] 37)) = W0 at *
      go_quiet (fail)
      go_wp2
      go_ret
      exact ⟨rfl, kA.drewN _⟩
end Go.Proofs.YtpopcallphbklaaGreat
/- The document's own machine (doorkeeperref08): Pick. -/
namespace Go.Proofs.YtpopcallphbklaaGreat
open Go.ChangeShapes Go.WideShapes Go.ChangeAt Go.RowKit
set_option linter.unusedVariables false
set_option maxRecDepth 100000
set_option linter.unusedSimpArgs false
/-- the current task of a thread has taken a step -/
theorem RThr.turn {w w1 : World} {H : Nat} {O F : Nat → Prop} {K : List RTk} {n : Nat} {y : RTk} {r : List Itm} {x : Int} (h : RThr w H O K n) (hy : K[n]? = some y) (hk : Keep (fun b => b = y.T ∨ F b) w w1) (hF : ∀ b, O b → ¬ F b) (hT : RTask w1 y.T y.I y.l r x) :
    RThr w1 H O (K.set n ⟨y.T, y.I, y.l, r, x⟩) n := by
  obtain ⟨v, u, n0, B, h1, h2, h3, h4, h5, h6⟩ := h.own
  have hl := (List.getElem?_eq_some_iff.1 hy).1
  obtain ⟨t1, t2, t3⟩ := h.tk y (List.mem_of_getElem? hy)
  obtain ⟨vy, hyB, _⟩ := t1.own
  have hKne : K ≠ [] := by intro e; simp [e] at hl
  obtain ⟨oB, cB, bB⟩ := h3 hKne
  have nH : ¬ (H = y.T ∨ F H) := fun e => e.elim (h1.apart hyB (by decide)) (hF _ h.mine)
  have nB : ¬ (B = y.T ∨ F B) := fun e => e.elim (bB.apart hyB (by decide)) (hF _ oB)
  have each : ∀ j z, (K.set n ⟨y.T, y.I, y.l, r, x⟩)[j]? = some z → (j = n ∧ z = ⟨y.T, y.I, y.l, r, x⟩) ∨ (j ≠ n ∧ K[j]? = some z) := fun j z hj => by
    by_cases e : j = n
    · subst e
      rw [List.getElem?_set_self hl] at hj
      exact .inl ⟨rfl, (Option.some.inj hj).symm⟩
    · rw [List.getElem?_set_ne (Ne.symm e)] at hj
      exact .inr ⟨e, hj⟩
  have oth : ∀ (j : Nat) (z : RTk), K[j]? = some z → j ≠ n → z.T ≠ y.T := fun j z hj hjn => by
    have hjl := (List.getElem?_eq_some_iff.1 hj)
    have hnl := (List.getElem?_eq_some_iff.1 hy)
    rcases Nat.lt_or_gt_of_ne hjn with hc | hc
    · have := List.pairwise_iff_getElem.1 h.apart j n hjl.1 hnl.1 hc
      rwa [hjl.2, hnl.2] at this
    · have := List.pairwise_iff_getElem.1 h.apart n j hnl.1 hjl.1 hc
      rw [hjl.2, hnl.2] at this
      exact Ne.symm this
  have hrow2 : RRow w1 B v (K.set n ⟨y.T, y.I, y.l, r, x⟩) := by
    obtain ⟨a, c, rfl, hs⟩ := h2.is
    refine ⟨⟨a, c, by simp, fun h => hs (by simpa using h)⟩, fun i z hz => ?_⟩
    rcases each i z hz with ⟨rfl, rfl⟩ | ⟨_, hz⟩
    · exact cell_keep (h2.cell i y hy) hk nB
    · exact cell_keep (h2.cell i z hz) hk nB
  have htake : (K.set n ⟨y.T, y.I, y.l, r, x⟩).take n = K.take n := by
    apply List.ext_getElem?
    intro j
    by_cases hj : j < n
    · rw [List.getElem?_take_of_lt hj, List.getElem?_take_of_lt hj, List.getElem?_set_ne (by omega)]
    · rw [List.getElem?_take_eq_none (by omega), List.getElem?_take_eq_none (by omega)]
  refine ⟨⟨v, u, n0, B, h1.keep hk nH, hrow2, fun _ => ⟨oB, cB, bB.keep hk nB⟩, ?_, Nat.le_trans h5 hk.size, h6⟩, h.mine, fun z hz => ?_, by simpa using h.le, ?_, fun b hb => Nat.lt_of_lt_of_le (h.lt b hb) hk.size, by simpa using h.few⟩
  · rw [htake]
    exact row_ownkeep h4 hk (fun g hg e => e.elim (fun e => by obtain ⟨_, cur, hc⟩ := row_lt h4 hg; exact hc.apart hyB (by decide) e) (hF g (h6 g hg)))
  · obtain ⟨j, hj⟩ := List.mem_iff_getElem?.1 hz
    rcases each j z hj with ⟨_, rfl⟩ | ⟨hjn, hj⟩
    · refine ⟨hT, t2, fun hl => ⟨(t3 hl).1, ?_⟩⟩
      obtain ⟨_, cur, hc⟩ := t3 hl
      exact ⟨cur, hc.keep hk (fun e => e.elim (hc.apart hyB (by decide)) (hF _ (t3 hl).1))⟩
    · obtain ⟨z1, z2, z3⟩ := h.tk z (List.mem_of_getElem? hj)
      have nI : z.l ≠ [] → ¬ (z.I = y.T ∨ F z.I) := fun hl e => by
        obtain ⟨oI, cur, hc⟩ := z3 hl
        exact e.elim (hc.apart hyB (by decide)) (hF _ oI)
      refine ⟨z1.keepE hk (fun e => e.elim (oth j z hj hjn) (hF _ z2)) nI, z2, fun hl => ⟨(z3 hl).1, ?_⟩⟩
      obtain ⟨_, cur, hc⟩ := z3 hl
      exact ⟨cur, hc.keep hk (nI hl)⟩
  · rw [List.pairwise_iff_getElem]
    intro a b ha hb hab
    have ea := each a _ (List.getElem?_eq_getElem ha)
    have eb := each b _ (List.getElem?_eq_getElem hb)
    rcases ea with ⟨ea, e1⟩ | ⟨ea, e1⟩ <;> rcases eb with ⟨eb, e2⟩ | ⟨eb, e2⟩
    · omega
    · rw [e1]
      exact Ne.symm (oth b _ e2 eb)
    · rw [e2]
      exact oth a _ e1 ea
    · have ha' := (List.getElem?_eq_some_iff.1 e1)
      have hb' := (List.getElem?_eq_some_iff.1 e2)
      have := List.pairwise_iff_getElem.1 h.apart a b ha'.1 hb'.1 hab
      rwa [ha'.2, hb'.2] at this
theorem endOf_turn {K : List RTk} {n : Nat} {y y' : RTk} (hy : K[n]? = some y) : endOf (K.set n y') n = goS ((y'.r, y'.x) :: (thrOf K (n + 1)).1) (thrOf K n).2 := by
  have hl := (List.getElem?_eq_some_iff.1 hy).1
  have hd : (K.set n y').drop n = y' :: K.drop (n + 1) := by
    rw [List.drop_eq_getElem_cons (by simpa using hl)]
    congr 1
    · simp
    · apply List.ext_getElem?
      intro j
      rw [List.getElem?_drop, List.getElem?_drop, List.getElem?_set_ne (by omega)]
  have ht : (K.set n y').take n = K.take n := by
    apply List.ext_getElem?
    intro j
    by_cases hj : j < n
    · rw [List.getElem?_take_of_lt hj, List.getElem?_take_of_lt hj, List.getElem?_set_ne (by omega)]
    · rw [List.getElem?_take_eq_none (by omega), List.getElem?_take_eq_none (by omega)]
  unfold endOf thrOf
  rw [hd, ht]
  rfl
theorem rmpick_no (R D C P : Nat) (V : Nat → Prop) (L : List RTh) (t kd n : Int) (m : List Int) (ps : List Bool) (w : World) (h : RMach w R V L) (hW : RWorld w D C P m ps n) (hok : AllOk ps (L.map RTh.x)) (hc : canT ps (thrAt (L.map RTh.x) t) kd = false) :
    Calls Tryz.prog 9 #[ptrV R, ptrV D, .agg #[.int .i64 t, .int .i64 kd]] w fun e w' => e = .returned (.bool false) ∧ Keep (fun _ => False) w w' := by
  have kA : Keep (fun _ => False) w (w.alloc (.cells #[.int .i64 t, .int .i64 kd] 37)) := (Keep.refl _ _).alloc _
  have hX : Blk (w.alloc (.cells #[.int .i64 t, .int .i64 kd] 37)) w.heap.size 37 #[.int .i64 t, .int .i64 kd] := Blk.new _ _ _
  have x0 := hX.cell 0 _ rfl
  have x1 := hX.cell 1 _ rfl
  have HC := Lib.hid (rmcan_any R D C P V L t kd n m ps _ (h.keep kA (fun _ _ h => h)) (hW.keep kA (fun h => h) (fun h => h) (fun h => h)) hok)
  rw [hc] at HC
  clear h hW hok hX hc
  go_enter Tryz.func9, Tryz.ntmps9
  go_upto_region 1 with fail
  generalize (w.alloc (.cells #[.int .i64 t, .int .i64 kd] 37)) = W0 at *
  go_wp2_with (go_at_call 35; refine HC.out.mono ?_; rintro e w1 ⟨rfl, k1⟩)
  go_ret
  exact ⟨rfl, kA.trans k1⟩
set_option maxHeartbeats 4000000 in
theorem rmpick_yes (R D C P : Nat) (V : Nat → Prop) (L : List RTh) (i : Nat) (kd n : Int) (m : List Int) (ps : List Bool) (w : World) (h : RMach w R V L) (hW : RWorld w D C P m ps n) (hok : AllOk ps (L.map RTh.x)) (hV : ∀ b, V b → ¬ (b = D ∨ b = C ∨ b = P)) (hi : i < L.length)
    (hc : canT ps (thrAt (L.map RTh.x) i) kd = true) (hn : 0 ≤ n ∧ n ≤ 1000) :
    Calls Tryz.prog 9 #[ptrV R, ptrV D, .agg #[.int .i64 i, .int .i64 kd]] w fun e w' => e = .returned (.bool true) ∧
      (∃ V' L', RMach w' R V' L' ∧ L'.map RTh.x = (L.map RTh.x).set i (stepT m ps (thrAt (L.map RTh.x) i) kd).2.2 ∧ ∀ b, V' b → V b ∨ w.heap.size ≤ b) ∧
      RWorld w' D C P (stepT m ps (thrAt (L.map RTh.x) i) kd).1 (stepT m ps (thrAt (L.map RTh.x) i) kd).2.1 (n + countT m (thrAt (L.map RTh.x) i)) ∧ Keep (fun b => V b ∨ (b = D ∨ b = C ∨ b = P)) w w' := by
  have kA : Keep (fun _ => False) w (w.alloc (.cells #[.int .i64 i, .int .i64 kd] 37)) := (Keep.refl _ _).alloc _
  have hX : Blk (w.alloc (.cells #[.int .i64 i, .int .i64 kd] 37)) w.heap.size 37 #[.int .i64 i, .int .i64 kd] := Blk.new _ _ _
  have x0 := hX.cell 0 _ rfl
  have x1 := hX.cell 1 _ rfl
  have HC := Lib.hid (rmcan_any R D C P V L i kd n m ps _ (h.keep kA (fun _ _ h => h)) (hW.keep kA (fun h => h) (fun h => h) (fun h => h)) hok)
  rw [hc] at HC
  obtain ⟨k, hk⟩ : ∃ k, L[i]? = some k := ⟨_, List.getElem?_eq_getElem hi⟩
  have ex : thrAt (L.map RTh.x) (i : Int) = k.x := thrAt_yes (by rw [List.getElem?_map, hk]; rfl)
  obtain ⟨hT0, hok0, hO⟩ := h.thr k (List.mem_of_getElem? hk)
  have hd : k.n < k.K.length := by
    rw [ex] at hc
    rcases Nat.lt_or_ge k.n k.K.length with h' | h'
    · exact h'
    · have : (thrOf k.K k.n).1.isEmpty = true := by rw [isEmpty_thr k.K k.n hT0.le]; simpa using h'
      have e0 : (thrOf k.K k.n).1 = [] := List.isEmpty_iff.1 this
      unfold canT RTh.x at hc
      rw [e0] at hc
      cases hc
  have hf := hT0.few
  obtain ⟨g, gc, B, bc, y, c0, c1, d0, d1, d3, hy, hT, hne, hyO, hyI, hx⟩ := h.live hk hd
  have hyl : y.l ≠ [] := by
    intro e
    have := hT.rest
    rw [e] at this
    exact hne (List.suffix_nil.1 this)
  have hpk : ParkOk ps y.r := hok k.x (List.mem_map_of_mem (List.mem_of_getElem? hk)) (y.r, y.x) (by rw [hx]; simp)
  have hcy : canS ps y.r kd = true := by rw [ex, hx] at hc; exact hc
  have vT := hV _ (hO _ hyO)
  have vI := hV _ (hO _ (hyI hyl))
  simp only [not_or] at vT vI
  have HS : Hid (∀ W, Keep (fun _ => False) w W → Calls Tryz.prog 38 #[ptrV y.T, ptrV D, .int .i64 kd] W fun e w' => e = .returned (.bool true) ∧ RTask w' y.T y.I y.l (stepS m ps y.r y.x kd).2.2.1 (stepS m ps y.r y.x kd).2.2.2 ∧
      RWorld w' D C P (stepS m ps y.r y.x kd).1 (stepS m ps y.r y.x kd).2.1 (n + stepCount m y.r) ∧ Keep (fun b => b = y.T ∨ b = D ∨ b = C ∨ b = P) W w') := Lib.hid fun W hk' => rstep_yes y.T y.I D C P y.l y.r y.x kd n m ps W (hT.keep hk' (fun h => h) (fun h => h)) (hW.keep hk' (fun h => h) (fun h => h) (fun h => h)) hpk ⟨vT.1, vT.2.1, vT.2.2, vI.1, vI.2.1, vI.2.2⟩ hcy hn
  have e1 : (stepT m ps (thrAt (L.map RTh.x) (i : Int)) kd) = ((stepS m ps y.r y.x kd).1, (stepS m ps y.r y.x kd).2.1, goS ((stepS m ps y.r y.x kd).2.2 :: (thrOf k.K (k.n + 1)).1) (thrOf k.K k.n).2) := by rw [ex, hx]; rfl
  have e2 : countT m (thrAt (L.map RTh.x) (i : Int)) = stepCount m y.r := by rw [ex, hx]; rfl
  rw [e1, e2]
  have hTl : ∀ b, (b = y.T ∨ b = D ∨ b = C ∨ b = P) → b < w.heap.size := fun b hb => by
    rcases hb with rfl | rfl | rfl | rfl
    · exact h.lt _ (hO _ hyO)
    · obtain ⟨cp, ho⟩ := hW.own; exact ho.lt
    · obtain ⟨cur, ho, _⟩ := hW.cells; exact ho.lt
    · exact hW.perms.lt
  obtain ⟨vg, vR⟩ : V g ∧ V R := by
    obtain ⟨g', gc', c0', c1', v1, v2⟩ := h.at hk
    rw [c0] at c0'
    have := Option.some.inj c0'
    simp at this
    exact ⟨this.1 ▸ v1, v2⟩
  have HFin : Hid (∀ W w3, Keep (fun _ => False) w W → RTask w3 y.T y.I y.l (stepS m ps y.r y.x kd).2.2.1 (stepS m ps y.r y.x kd).2.2.2 → RWorld w3 D C P (stepS m ps y.r y.x kd).1 (stepS m ps y.r y.x kd).2.1 (n + stepCount m y.r) → Keep (fun b => b = y.T ∨ b = D ∨ b = C ∨ b = P) W w3 →
      Calls Tryz.prog 39 #[ptrV k.H] w3 fun e w' => e = .returned (.tuple #[]) ∧ (∃ V' L', RMach w' R V' L' ∧ L'.map RTh.x = (L.map RTh.x).set i (goS ((stepS m ps y.r y.x kd).2.2 :: (thrOf k.K (k.n + 1)).1) (thrOf k.K k.n).2) ∧ ∀ b, V' b → V b ∨ w.heap.size ≤ b) ∧
        RWorld w' D C P (stepS m ps y.r y.x kd).1 (stepS m ps y.r y.x kd).2.1 (n + stepCount m y.r) ∧ Keep (fun b => V b ∨ (b = D ∨ b = C ∨ b = P)) w w') := Lib.hid (by
    intro W w3 kW hT3 hW3 k3
    have sW := kW.size
    have s3 := k3.size
    have hTW := hT0.keep kW (fun _ _ h => h)
    have hMW := h.keep kW (fun _ _ h => h)
    have hThr := hTW.turn hy k3 (fun b hb => hV b (hO b hb)) hT3
    refine (on8_any k.H k.O _ k.n w3 hThr).mono ?_
    rintro e w' ⟨rfl, ⟨O', n', g1, g2, g3⟩, k4⟩
    have kk : Keep (fun b => k.O b ∨ (b = D ∨ b = C ∨ b = P)) W w' := (k3.mono (fun b _ e => e.imp (fun e => by rw [e]; exact hyO) id)).trans (k4.mono (fun b _ e => .inl e))
    obtain ⟨V', m1, m2⟩ := hMW.turn hk kk hV g1 (fun b hb => (g3 b hb).imp id (fun e => by omega)) (by rw [g2]; exact endOf_ok _ _)
    refine ⟨rfl, ⟨V', _, m1, ?_, fun b hb => (m2 b hb).imp id (fun e => by omega)⟩, hW3.keep k4 (fun e => hV _ (hO _ e) (.inl rfl)) (fun e => hV _ (hO _ e) (.inr (.inl rfl))) (fun e => hV _ (hO _ e) (.inr (.inr rfl))), (kW.mono (fun _ _ h => h.elim)).trans (kk.mono (fun b _ e => e.imp (hO b) id))⟩
    rw [List.map_set]
    congr 1
    show thrOf _ n' = _
    rw [g2]
    exact endOf_turn hy)
  have hix := idx_rthreads L.length gc g 0 i (by omega)
  have hiy := idx_rtasks k.K.length bc B 0 k.n hd
  simp only [Nat.zero_add] at hix hiy
  have hfew := h.few
  have hj0 : ¬ (i : Int) < 0 := by omega
  have hj1 : (i : Int) < (L.length : Int) := by omega
  have nP : ∀ b, (b = y.T ∨ b = D ∨ b = C ∨ b = P) → b ≠ w.heap.size := fun b hb => by have := hTl b hb; omega
  have hHblk := (hT0.own)
  obtain ⟨vv, uu, nn0, BB, b1, b2, b3, b4, b5, b6⟩ := hT0.own
  obtain ⟨vy, hyB, _⟩ := hT.own
  have nRF : ∀ b, V b → ¬ (b = D ∨ b = C ∨ b = P) := hV
  have nHT : k.H ≠ y.T := b1.apart hyB (by decide)
  have nRT : R ≠ y.T := by obtain ⟨v9, n9, hh, _⟩ := h.own; exact hh.apart hyB (by decide)
  have nBT : B ≠ y.T := by
    obtain ⟨a', c', hv', hs'⟩ := b2.is
    have e3 := b1.cell 0 _ rfl
    rw [hv'] at e3
    have e4 := d0
    have hkl : 0 < k.K.length := by omega
    rw [hs' hkl] at e3
    have e5 : w.cell? ⟨k.H, 0, none⟩ = some (.slice (some ⟨BB, 0, none⟩) k.K.length c') := e3
    rw [e5] at e4
    have := Option.some.inj e4
    simp at this
    obtain ⟨_, cur, hc'⟩ := b3 (by intro e; rw [e] at hkl; simp at hkl)
    rw [← this.1]
    exact hc'.apart hyB (by decide)
  have ngT : g ≠ y.T := by
    obtain ⟨v9, n9, hh, hrow9, _⟩ := h.own
    have e3 := hh.cell 0 _ rfl
    have e5 : w.cell? ⟨R, 0, none⟩ = some v9 := e3
    rw [e5] at c0
    obtain rfl := Option.some.inj c0
    obtain ⟨_, cur, hc'⟩ := row_lt hrow9 (g := g) rfl
    exact hc'.apart hyB (by decide)
  have vH := hO _ hT0.mine
  have oB : V B := by
    obtain ⟨a', c', hv', hs'⟩ := b2.is
    have e3 := b1.cell 0 _ rfl
    rw [hv'] at e3
    have e4 := d0
    have hkl : 0 < k.K.length := by omega
    rw [hs' hkl] at e3
    have e5 : w.cell? ⟨k.H, 0, none⟩ = some (.slice (some ⟨BB, 0, none⟩) k.K.length c') := e3
    rw [e5] at e4
    have := Option.some.inj e4
    simp at this
    obtain ⟨ob, _⟩ := b3 (by intro e; rw [e] at hkl; simp at hkl)
    exact hO _ (this.1 ▸ ob)
  have SK : Hid (∀ W, Keep (fun b => b = y.T ∨ b = D ∨ b = C ∨ b = P) (w.alloc (.cells #[.int .i64 i, .int .i64 kd] 37)) W → W.cell? ⟨w.heap.size, 0, none⟩ = some (.int .i64 i) ∧ W.cell? ⟨w.heap.size, 1, none⟩ = some (.int .i64 kd) ∧ W.cell? ⟨R, 0, none⟩ = some (.slice (some ⟨g, 0, none⟩) L.length gc) ∧ W.cell? ⟨g, i, none⟩ = some (ptrV k.H) ∧ W.cell? ⟨k.H, 0, none⟩ = some (.slice (some ⟨B, 0, none⟩) k.K.length bc) ∧ W.cell? ⟨k.H, 1, none⟩ = some (.int .i64 k.n) ∧ W.cell? ⟨B, k.n, none⟩ = some (ptrV y.T)) :=
    Lib.hid fun W hk' => ⟨cell_keep x0 hk' (fun e => nP _ e rfl), cell_keep x1 hk' (fun e => nP _ e rfl), cell_keep (cell_keep c0 kA (fun h => h)) hk' (fun e => e.elim nRT (nRF _ vR)), cell_keep (cell_keep c1 kA (fun h => h)) hk' (fun e => e.elim ngT (nRF _ vg)), cell_keep (cell_keep d0 kA (fun h => h)) hk' (fun e => e.elim nHT (nRF _ vH)), cell_keep (cell_keep d1 kA (fun h => h)) hk' (fun e => e.elim nHT (nRF _ vH)), cell_keep (cell_keep d3 kA (fun h => h)) hk' (fun e => e.elim nBT (nRF _ oB))⟩
  clear h hT ex hk hx hne hy hT0 hW hok hX hpk x0 x1 c0 c1 d0 d1 d3 hok0 hc hcy vT vI e1 e2 hTl vg vR hyO hyI hyl nP hHblk b1 b2 b3 b4 b5 b6 hyB nRF nHT nRT nBT ngT vH oB hV hO
  obtain ⟨H, O, K, kn⟩ := k
  dsimp only at *
  generalize hll : L.length = ll at *
  generalize hkl : K.length = kl at *
  clear hll hkl
  go_enter Tryz.func9, Tryz.ntmps9
  go_upto_region 1 with fail
  generalize (w.alloc (.cells #[.int .i64 i, .int .i64 kd] 37)) = W0 at *
  obtain ⟨x0, x1, c0, c1, d0, d1, d3⟩ := SK.out W0 (Keep.refl _ _)
  go_upto_region 3 with (go_at_call 35; refine HC.out.mono ?_; rintro e w1 ⟨rfl, k1⟩)
  obtain ⟨x0, x1, c0, c1, d0, d1, d3⟩ := SK.out w1 (k1.mono (fun _ _ h => h.elim))
  have kW1 := kA.trans k1
  go_quiet (fail)
  have kq : Keep (fun _ => False) w (w1.drewN nq) := kW1.drewN nq
  have kq0 : Keep (fun b => b = y.T ∨ b = D ∨ b = C ∨ b = P) W0 (w1.drewN nq) := (k1.mono (fun _ _ h => h.elim)).drewN nq
  obtain ⟨x0, x1, c0, c1, d0, d1, d3⟩ := SK.out _ kq0
  go_upto_region 4 with fail
  generalize w1.drewN nq = w2 at *
  have kd0 : Keep (fun b => b = y.T ∨ b = D ∨ b = C ∨ b = P) W0 w2.drew := kq0.drew
  have HS2 := Lib.hid (HS.out w2.drew kq.drew)
  go_region_held3 (fun W => W.cell? ⟨w.heap.size, 0, none⟩ = some (.int .i64 i) ∧ W.cell? ⟨w.heap.size, 1, none⟩ = some (.int .i64 kd) ∧ W.cell? ⟨R, 0, none⟩ = some (.slice (some ⟨g, 0, none⟩) ll gc) ∧ W.cell? ⟨g, i, none⟩ = some (ptrV H) ∧ W.cell? ⟨H, 0, none⟩ = some (.slice (some ⟨B, 0, none⟩) kl bc) ∧ W.cell? ⟨H, 1, none⟩ = some (.int .i64 kn) ∧ W.cell? ⟨B, kn, none⟩ = some (ptrV y.T)) (first | exact SK.out _ k30 | exact SK.out _ kd0) (first
    | (go_at_call 38; refine HS2.out.mono ?_; rintro e w3 ⟨rfl, hT3, hW3, k3⟩; have k30 : Keep (fun b => b = y.T ∨ b = D ∨ b = C ∨ b = P) W0 w3 := kd0.trans k3; have HF := Lib.hid (HFin.out w2.drew w3 kq.drew hT3 hW3 k3)))
  go_wp2_with (go_at_call 39; refine HF.out.mono ?_; rintro e w4 ⟨rfl, hM4, hW4, k4⟩)
  go_ret
  exact ⟨rfl, hM4, hW4, k4⟩
end Go.Proofs.YtpopcallphbklaaGreat
/- The document's machine, of both: what its methods do. -/
namespace Go.Proofs.YtpopcallphbklaaGreat
open Go.ChangeShapes Go.WideShapes Go.ChangeAt Go.RowKit
set_option linter.unusedVariables false
set_option maxRecDepth 100000
set_option linter.unusedSimpArgs false
theorem allOk_pick (s : St) (t k : Int) (h : AllOk s.ps s.ts) : AllOk (pickS s t k).1.ps (pickS s t k).1.ts := by
  unfold pickS
  split
  · next hc =>
    have hpx := parkOk_at h t
    dsimp only
    generalize hx : thrAt s.ts t = x at *
    obtain ⟨todo, vs⟩ := x
    cases todo with
    | nil => simp [canT] at hc
    | cons tk l =>
      obtain ⟨r, v⟩ := tk
      cases r with
      | nil => simp [canT, canS] at hc
      | cons y r =>
        dsimp only [stepT]
        have hlen := (stepS_len s.m s.ps (y :: r) v k).2
        intro z hz q hq
        rcases mem_set_or hz with hz | rfl
        · exact (h z hz q hq).len hlen
        · rcases List.mem_cons.1 (goS_mem _ _ q hq) with rfl | hq
          · intro b hb hk
            have := hpx (y :: r, v) (by simp) b (stepS_rest s.m s.ps y r v k b hb) hk
            omega
          · exact (hpx q (by simp [hq])).len hlen
  · exact h
section
variable {w : World} {c : PIds} {A : Nat → Prop} {s q : St}
theorem pl_rdone (h : Play w c A s q) (t : Int) : Calls Tryz.prog 31 #[ptrV c.G, .int .i64 t] w fun e w' => e = .returned (.bool (thrAt q.ts t).1.isEmpty) ∧ Keep (fun _ => False) w w' := by
  obtain ⟨U, V, L, h1, h2, h3, h4, h5⟩ := h.it
  have := rmdone_any c.G V L t w h2
  rw [h3] at this
  exact this.mono (by rintro e w' ⟨rfl, m, rfl⟩; exact ⟨rfl, (Keep.refl _ _).drewN m⟩)
theorem pl_rparked (h : Play w c A s q) (t : Int) : Calls Tryz.prog 34 #[ptrV c.G, .int .i64 t] w fun e w' => e = .returned (.bool (parkedT (thrAt q.ts t))) ∧ Keep (fun _ => False) w w' := by
  obtain ⟨U, V, L, h1, h2, h3, h4, h5⟩ := h.it
  have := rmparked_any c.G V L t w h2
  rw [h3] at this
  exact this.mono (by rintro e w' ⟨rfl, m, rfl⟩; exact ⟨rfl, (Keep.refl _ _).drewN m⟩)
theorem pl_rcan (h : Play w c A s q) (t k : Int) : Calls Tryz.prog 35 #[ptrV c.G, ptrV c.D, .agg #[.int .i64 t, .int .i64 k]] w fun e w' => e = .returned (.bool (canT q.ps (thrAt q.ts t) k)) ∧ Keep (fun _ => False) w w' := by
  obtain ⟨U, V, L, h1, h2, h3, h4, h5⟩ := h.it
  have := rmcan_any c.G c.D c.W c.V V L t k q.n q.m q.ps w h2 h.world (by rw [h3]; exact h.ok)
  rwa [h3] at this
theorem Play.rhead (h : Play w c A s q) : ∃ a gc, w.cell? ⟨c.G, 0, none⟩ = some (.slice a q.ts.length gc) := by
  obtain ⟨U, V, L, h1, h2, h3, h4, h5⟩ := h.it
  obtain ⟨a, gc, h6⟩ := h2.head
  rw [show L.length = q.ts.length by rw [← h3]; simp] at h6
  exact ⟨a, gc, h6⟩
theorem Play.rfew (h : Play w c A s q) : q.ts.length ≤ 6 := by
  obtain ⟨U, V, L, h1, h2, h3, h4, h5⟩ := h.it
  have := h2.few
  rw [← h3]
  simpa using this
theorem Play.rvalues (h : Play w c A s q) {i : Nat} (hi : i < q.ts.length) : ∃ g gc H u, w.cell? ⟨c.G, 0, none⟩ = some (.slice (some ⟨g, 0, none⟩) q.ts.length gc) ∧ w.cell? ⟨g, i, none⟩ = some (ptrV H) ∧ w.cell? ⟨H, 2, none⟩ = some u ∧ RowI w u (thrAt q.ts i).2 := by
  obtain ⟨U, V, L, h1, h2, h3, h4, h5⟩ := h.it
  have hl : L.length = q.ts.length := by rw [← h3]; simp
  obtain ⟨k, hk⟩ : ∃ k, L[i]? = some k := ⟨_, List.getElem?_eq_getElem (by omega)⟩
  obtain ⟨g, gc, c0, c1, _, _⟩ := h2.at hk
  obtain ⟨hT, _, _⟩ := h2.thr k (List.mem_of_getElem? hk)
  obtain ⟨a, cc, u, d0, d1, d2, hr, _⟩ := hT.head
  rw [hl] at c0
  refine ⟨g, gc, k.H, u, c0, c1, d2, ?_⟩
  rw [thrAt_yes (x := k.x) (by rw [← h3, List.getElem?_map, hk]; rfl)]
  exact hr
theorem pl_rpick (h : Play w c A s q) (t k : Int) (hn : 0 ≤ q.n ∧ q.n ≤ 1000) :
    Calls Tryz.prog 9 #[ptrV c.G, ptrV c.D, .agg #[.int .i64 t, .int .i64 k]] w fun e w' => e = .returned (.bool (pickS q t k).2) ∧ (∃ A', Play w' c A' s (pickS q t k).1 ∧ ∀ b, A' b → A b ∨ w.heap.size ≤ b) ∧ Keep A w w' := by
  obtain ⟨U, V, L, h1, h2, h3, h4, h5⟩ := h.it
  have hao := allOk_pick q t k h.ok
  have hll : L.length = q.ts.length := by rw [← h3]; simp
  by_cases hc : canT q.ps (thrAt q.ts t) k = true
  · have hin : 0 ≤ t ∧ t < (q.ts.length : Int) := by
      rcases Int.lt_or_le t 0 with h0 | h0
      · rw [thrAt_no (.inl h0)] at hc; simp [canT] at hc
      · rcases Int.lt_or_le t q.ts.length with h1 | h1
        · exact ⟨h0, h1⟩
        · rw [thrAt_no (.inr h1)] at hc; simp [canT] at hc
    obtain ⟨i, rfl⟩ := Int.eq_ofNat_of_zero_le hin.1
    have ep : pickS q (i : Int) k = (⟨(stepT q.m q.ps (thrAt q.ts (i : Int)) k).1, (stepT q.m q.ps (thrAt q.ts (i : Int)) k).2.1, q.ts.set i (stepT q.m q.ps (thrAt q.ts (i : Int)) k).2.2, q.n + countT q.m (thrAt q.ts (i : Int))⟩, true) := by
      unfold pickS
      rw [if_pos hc]
      rfl
    have := rmpick_yes c.G c.D c.W c.V V L i k q.n q.m q.ps w h2 h.world (by rw [h3]; exact h.ok) (fun b hb => (h5 b hb).2.2) (by omega) (by rw [h3]; exact hc) hn
    rw [h3] at this
    rw [ep] at hao ⊢
    refine this.mono ?_
    rintro e w' ⟨rfl, ⟨V', L', m1, m2, m3⟩, hW', kk⟩
    have hs := kk.size
    have hlt := h.lt
    have hV'l := m1.lt
    have nA : ∀ b, (V b ∨ (b = c.D ∨ b = c.W ∨ b = c.V)) → A b := fun b e => e.elim (fun e => (h5 b e).1) (fun e => h.dd b e)
    have nU : ∀ b, U b → ¬ (V b ∨ (b = c.D ∨ b = c.W ∨ b = c.V)) := fun b hb e => e.elim (h4 b hb).2.1 (h4 b hb).2.2
    have nf : ∀ b, c.fx b → ¬ (V b ∨ (b = c.D ∨ b = c.W ∨ b = c.V)) := fun b hb e => e.elim (fun e => (h5 b e).2.1 hb) (h.fd b hb).2
    have a5 : ∀ x ∈ c.cs, ¬ (V x ∨ (x = c.D ∨ x = c.W ∨ x = c.V)) := fun x hx => nf x (.inr (.inr (.inr (.inr hx))))
    refine ⟨rfl, ⟨fun b => (A b ∨ w.heap.size ≤ b) ∧ b < w'.heap.size, ⟨⟨U, V', L', h1.keep kk nU (nf _ (.inl rfl)) (nf _ (.inr (.inl rfl))) (nf _ (.inr (.inr (.inl rfl)))) (nf _ (.inr (.inr (.inr (.inl rfl))))) a5, m1, m2, fun b hb => ⟨⟨.inl (h4 b hb).1, by have := hlt b (h4 b hb).1; omega⟩, fun hv => ?_, (h4 b hb).2.2⟩, fun b hb => ⟨⟨(m3 b hb).imp (fun e => (h5 b e).1) id, hV'l b hb⟩, fun hd => ?_, fun hd => ?_⟩⟩,
      h.perm.keep kk (nf _ (.inr (.inr (.inl rfl)))) (nf _ (.inr (.inr (.inr (.inl rfl))))) a5, hW', hao, fun b hb => ⟨⟨.inl (h.fd b hb).1, by have := hlt b (h.fd b hb).1; omega⟩, (h.fd b hb).2⟩, fun b hb => ⟨.inl (h.dd b hb), by have := hlt b (h.dd b hb); omega⟩, fun b hb => hb.2⟩, fun b hb => hb.1⟩, kk.mono (fun b _ e => nA b e)⟩
    · rcases m3 b hv with e | e
      · exact (h4 b hb).2.1 e
      · have := hlt b (h4 b hb).1; omega
    · rcases m3 b hb with e | e
      · exact (h5 b e).2.1 hd
      · have := hlt b (h.fd b hd).1; omega
    · rcases m3 b hb with e | e
      · exact (h5 b e).2.2 hd
      · have := hlt b (h.dd b hd); omega
  · have hc' : canT q.ps (thrAt q.ts t) k = false := by simpa using hc
    have ep : pickS q t k = (q, false) := by unfold pickS; rw [if_neg hc]
    rw [ep]
    refine (rmpick_no c.G c.D c.W c.V V L t k q.n q.m q.ps w h2 h.world (by rw [h3]; exact h.ok) (by rw [h3]; exact hc')).mono ?_
    rintro e w' ⟨rfl, kk⟩
    exact ⟨rfl, ⟨A, h.still kk, fun b hb => .inl hb⟩, kk.mono (fun _ _ h => h.elim)⟩
end
end Go.Proofs.YtpopcallphbklaaGreat
