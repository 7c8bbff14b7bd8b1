/- The document's own tasks (doorkeeperref06): operate. -/
import Derived.Test.YtmkgbbbhmbejnaaTaskRefB
namespace Go.Proofs.Ytmkgbbbhmbejnaa
open Go.ChangeShapes Go.WideShapes Go.ChangeAt Go.RowKit
set_option linter.unusedVariables false
set_option maxRecDepth 100000
set_option linter.unusedSimpArgs false
theorem RWorld.step {w : World} {D C P : Nat} {m : List Int} {ps : List Bool} {n : Int} (h : RWorld w D C P m ps n) (n' : Int) : RWorld (w.setCell ⟨D, 1, none⟩ (.int .i64 n')) D C P m ps n' := by
  obtain ⟨cap, ho⟩ := h.own
  obtain ⟨cur, hc, ht⟩ := h.cells
  exact ⟨⟨cap, ho.set 1 _⟩, ⟨cur, hc.far (Ne.symm h.ne.1) _ _, ht⟩, h.perms.far (Ne.symm h.ne.2.1) _ _, h.few, h.ne⟩
theorem RWorld.put {w : World} {D C P : Nat} {m : List Int} {ps : List Bool} {n : Int} (h : RWorld w D C P m ps n) {i : Nat} (hi : i < m.length) (v : Int) : RWorld (w.setCell ⟨C, i, none⟩ (.int .u64 v)) D C P (m.set i v) ps n := by
  obtain ⟨cap, ho⟩ := h.own
  obtain ⟨cur, hc, ht⟩ := h.cells
  refine ⟨⟨cap, by rw [List.length_set]; exact ho.far h.ne.1 _ _⟩, ⟨_, hc.set i (.int .u64 v), ?_⟩, h.perms.far (Ne.symm h.ne.2.2) _ _, by rw [List.length_set]; exact h.few, h.ne⟩
  rw [Array.toList_setIfInBounds, List.length_set, List.take_set, ht, List.map_set]
theorem RWorld.grant {w : World} {D C P : Nat} {m : List Int} {ps : List Bool} {n : Int} (h : RWorld w D C P m ps n) (i : Nat) (b : Bool) : RWorld (w.setCell ⟨P, i, none⟩ (.int .i64 (if b then 1 else 0))) D C P m (ps.set i b) n := by
  obtain ⟨cap, ho⟩ := h.own
  obtain ⟨cur, hc, ht⟩ := h.cells
  refine ⟨⟨cap, by rw [List.length_set]; exact ho.far h.ne.2.1 _ _⟩, ⟨cur, hc.far h.ne.2.2 _ _, ht⟩, ?_, by rw [List.length_set]; exact h.few, h.ne⟩
  have := h.perms.set i (.int .i64 (if b then 1 else 0))
  rwa [permV_set] at this
theorem frozen_drew {w : World} {p : Addr} {b : Bool} (h : w.frozen? p = b) : w.drew.frozen? p = b := h
/-- an item, as a value -/
abbrev itmV (x : Itm) : Value := .agg #[.int .i64 x.kind, .int .i64 x.at', .int .u64 x.a, .int .u64 x.b]
set_option maxHeartbeats 2000000 in
theorem rop_any (D C P : Nat) (n : Int) (m : List Int) (ps : List Bool) (x : Itm) (w : World) (hW : RWorld w D C P m ps n) (hx : x.ok) (hn : 0 ≤ n ∧ n ≤ 1000) :
    Calls Try.prog 63 #[ptrV D, itmV x] w fun e w' => e = .returned (.tuple #[.int .i64 (operS m x).2.1, .bool (operS m x).2.2]) ∧ RWorld w' D C P (operS m x).1 ps (n + countS m x) ∧ Keep (fun k => k = D ∨ k = C) w w' := by
  obtain ⟨cap, hO⟩ := hW.own
  have hlt := hO.lt
  have hR0 : RWorld (w.alloc (.cells #[.int .i64 x.kind, .int .i64 x.at', .int .u64 x.a, .int .u64 x.b] 72)) D C P m ps n := hW.keep (Q := fun _ => False) ((Keep.refl _ _).alloc _) (fun h => h) (fun h => h) (fun h => h)
  have hX0 : Blk (w.alloc (.cells #[.int .i64 x.kind, .int .i64 x.at', .int .u64 x.a, .int .u64 x.b] 72)) w.heap.size 72 #[.int .i64 x.kind, .int .i64 x.at', .int .u64 x.a, .int .u64 x.b] := Blk.new _ _ _
  have k0 : Keep (fun k => k = D ∨ k = C) w (w.alloc (.cells #[.int .i64 x.kind, .int .i64 x.at', .int .u64 x.a, .int .u64 x.b] 72)) := (Keep.refl _ _).alloc _
  have hCx : C < w.heap.size := by obtain ⟨cur, hc, _⟩ := hW.cells; exact hc.lt
  clear hO hW
  obtain ⟨yk, ya, yv, yb⟩ := x
  dsimp only at hR0 hX0 k0
  go_enter Try.func63, Try.ntmps63
  go_upto_region 1 with fail
  generalize w.alloc (.cells #[.int .i64 yk, .int .i64 ya, .int .u64 yv, .int .u64 yb] 72) = W0 at *
  obtain ⟨cap, hO⟩ := hR0.own
  have c1 : W0.cell? ⟨D, 1, none⟩ = some (.int .i64 n) := hO.cell 1 _ rfl
  have z1 := hO.free 1
  go_upto_region 2 with fail
  have hR1 := hR0.step (n + 1)
  have hX1 : Blk (W0.setCell ⟨D, 1, none⟩ (.int .i64 (n + 1))) w.heap.size 72 _ := hX0.far (by omega) 1 (.int .i64 (n + 1))
  have k1 := k0.set (p := ⟨D, 1, none⟩) (fun _ => Or.inl rfl) (.int .i64 (n + 1))
  clear hR0 hX0 k0 c1 z1 hO
  generalize W0.setCell ⟨D, 1, none⟩ (.int .i64 (n + 1)) = W1 at *
  obtain ⟨cap, hO⟩ := hR1.own
  have d0 : W1.cell? ⟨D, 0, none⟩ = some (.slice (some ⟨C, 0, none⟩) m.length cap) := hO.cell 0 _ rfl
  have d1 : W1.cell? ⟨D, 1, none⟩ = some (.int .i64 (n + 1)) := hO.cell 1 _ rfl
  have z1 := hO.free 1
  have x0 : W1.cell? ⟨w.heap.size, 0, none⟩ = some (.int .i64 yk) := hX1.cell 0 _ rfl
  have x1 : W1.cell? ⟨w.heap.size, 1, none⟩ = some (.int .i64 ya) := hX1.cell 1 _ rfl
  have x2 : W1.cell? ⟨w.heap.size, 2, none⟩ = some (.int .u64 yv) := hX1.cell 2 _ rfl
  have x3 : W1.cell? ⟨w.heap.size, 3, none⟩ = some (.int .u64 yb) := hX1.cell 3 _ rfl
  obtain ⟨hm, hp⟩ := hR1.few
  have hya := hx.at'
  dsimp only at hya
  by_cases hi : ya < m.length
  · obtain ⟨c, hc⟩ : ∃ c, m[ya]? = some c := ⟨m[ya], by simp [hi]⟩
    obtain ⟨e0, e1⟩ := hR1.at hc
    have hct : countS m ⟨yk, ya, yv, yb⟩ = 1 := by simp [countS, hi]
    have hi0 : ¬ (ya : Int) < 0 := by omega
    have HC := Lib.hid hc
    have HI := Lib.hid hi
    rw [hm] at d0
    have hi3 : (ya : Int) < 4 := by omega
    have hi4 : ¬ (4 : Int) ≤ ya := by omega
    clear hc hi
    have HT := Lib.hid hct
    clear hct
    by_cases h1 : yk = 1
    · subst h1
      have HO : Hid (operS m ⟨1, ya, yv, yb⟩ = (m.set ya yv, 1, true)) := Lib.hid (by simp [operS, HC.out])
      go_wp2
      go_still_tail 8, (by kernel_rfl)
      change wpList _ _ _ _ _ (World.drew _)
      replace hR1 := hR1.keep (Q := fun _ => False) (Keep.refl _ _).drew (fun h => h) (fun h => h) (fun h => h)
      replace e0 := cell_keep e0 (Q := fun _ => False) (Keep.refl _ _).drew (fun h => h)
      replace e1 := frozen_drew e1
      replace k1 := k1.drew
      clear d0 d1 z1 x0 x1 x2 x3 hX1 hO
      generalize W1.drew = W2 at *
      go_wp2
      refine bodyPost_ret (v := .tuple #[.int .i64 1, .bool true]) (by simp [results, Try.results63, go_sem]) rfl ?_
      have hop := HO.out
      have hct := HT.out
      rw [hop, hct]
      exact ⟨rfl, hR1.put HI.out yv, k1.set (p := ⟨C, ya, none⟩) (fun _ => Or.inr rfl) _⟩
    · by_cases h2 : yk = 2 ∨ yk = 4
      · have b1 : ¬ (yk : Int) = 1 := by omega
        by_cases hca : c = yv
        · have HO : Hid (operS m ⟨yk, ya, yv, yb⟩ = (m.set ya yb, 1, true)) := Lib.hid (by simp [operS, HC.out, h1, h2, hca])
          have hca' : (c == yv) = true := by simp [hca]
          rcases h2 with rfl | rfl
          all_goals
            go_wp2
            go_quiet (fail)
            go_wp2
            have kq : Keep (fun _ => False) W1 (W1.drewN nq) := (Keep.refl _ _).drewN _
            replace hR1 := hR1.keep kq (fun h => h) (fun h => h) (fun h => h)
            replace e0 := cell_keep e0 kq (fun h => h)
            replace e1 : (W1.drewN nq).frozen? _ = _ := e1
            replace d0 := cell_keep d0 kq (fun h => h)
            replace x0 := cell_keep x0 kq (fun h => h)
            replace x2 := cell_keep x2 kq (fun h => h)
            replace x3 := cell_keep x3 kq (fun h => h)
            replace k1 := k1.drewN nq
            clear kq d1 z1 x1 hX1 hO
            generalize W1.drewN nq = W2 at *
            go_still_tail 8, (by kernel_rfl)
            change wpList _ _ _ _ _ (World.drew _)
            replace hR1 := hR1.keep (Q := fun _ => False) (Keep.refl _ _).drew (fun h => h) (fun h => h) (fun h => h)
            replace e0 := cell_keep e0 (Q := fun _ => False) (Keep.refl _ _).drew (fun h => h)
            replace e1 := frozen_drew e1
            replace k1 := k1.drew
            clear d0 x0 x2 x3
            generalize W2.drew = W3 at *
            go_wp2
            refine bodyPost_ret (v := .tuple #[.int .i64 1, .bool true]) (by simp [results, Try.results63, go_sem]) rfl ?_
            have hop := HO.out
            have hct := HT.out
            rw [hop, hct]
            exact ⟨rfl, hR1.put HI.out yb, k1.set (p := ⟨C, ya, none⟩) (fun _ => Or.inr rfl) _⟩
        · have hca' : (c == yv) = false := by simp [hca]
          have HO : Hid (operS m ⟨yk, ya, yv, yb⟩ = (m, 0, yk == 2)) := Lib.hid (by simp [operS, HC.out, h1, h2, hca])
          have hn0 : ¬ c = yv := hca
          rcases h2 with rfl | rfl
          · clear b1
            go_wp2
            go_quiet (fail)
            go_wp2
            go_quiet (fail)
            go_wp2
            refine bodyPost_ret (v := .tuple #[.int .i64 0, .bool true]) (by simp [results, Try.results63, go_sem]) rfl ?_
            have hop := HO.out
            have hct := HT.out
            rw [hop, hct]
            exact ⟨rfl, hR1.keep (Q := fun _ => False) (((Keep.refl _ _).drewN _).drewN _) (fun h => h) (fun h => h) (fun h => h), (k1.drewN _).drewN _⟩
          · clear b1
            go_wp2
            go_quiet (fail)
            go_wp2
            go_quiet (fail)
            go_wp2
            refine bodyPost_ret (v := .tuple #[.int .i64 0, .bool false]) (by simp [results, Try.results63, go_sem]) rfl ?_
            have hop := HO.out
            have hct := HT.out
            rw [hop, hct]
            exact ⟨rfl, hR1.keep (Q := fun _ => False) (((Keep.refl _ _).drewN _).drewN _) (fun h => h) (fun h => h) (fun h => h), (k1.drewN _).drewN _⟩
      · have b1 : ¬ (yk : Int) = 1 := by omega
        have b2 : ¬ (yk : Int) = 2 := by omega
        have b4 : ¬ (yk : Int) = 4 := by omega
        by_cases h3 : yk = 3
        · subst h3
          have HO : Hid (operS m ⟨3, ya, yv, yb⟩ = (m.set ya (IntKind.u64.wrap (c + yv)), wrap64 (IntKind.u64.wrap (c + yv)), true)) := Lib.hid (by simp [operS, HC.out])
          clear b1 b2 b4
          go_wp2
          go_still_tail 16, (by kernel_rfl)
          change wpList _ _ _ _ _ W1.drew
          replace hR1 := hR1.keep (Q := fun _ => False) (Keep.refl _ _).drew (w1 := W1.drew) (fun h => h) (fun h => h) (fun h => h)
          replace e0 : W1.drew.cell? _ = _ := e0
          replace e1 : W1.drew.frozen? _ = _ := e1
          replace k1 := k1.drew
          clear d0 d1 z1 x0 x1 x2 x3 hX1 hO
          generalize W1.drew = W2 at *
          go_upto_region 18 with fail
          have hR3 := hR1.put HI.out (IntKind.u64.wrap (c + yv))
          have k3 := k1.set (p := ⟨C, ya, none⟩) (fun _ => Or.inr rfl) (.int .u64 (IntKind.u64.wrap (c + yv)))
          clear hR1 e0 e1 k1
          generalize W2.setCell ⟨C, ya, none⟩ (.int .u64 (IntKind.u64.wrap (c + yv))) = W3 at *
          obtain ⟨cap3, hO3⟩ := hR3.own
          have d0 : W3.cell? ⟨D, 0, none⟩ = some (.slice (some ⟨C, 0, none⟩) 4 cap3) := by have := hO3.cell 0 _ rfl; rw [List.length_set, hm] at this; exact this
          have e3 := (hR3.at (i := ya) (c := IntKind.u64.wrap (c + yv)) (List.getElem?_set_self HI.out)).1
          clear hO3
          go_wp2
          refine bodyPost_ret (v := .tuple #[.int .i64 (wrap64 (IntKind.u64.wrap (c + yv))), .bool true]) (by simp [results, Try.results63, go_sem]) rfl ?_
          have hop := HO.out
          have hct := HT.out
          rw [hop, hct]
          exact ⟨rfl, hR3, k3⟩
        · have b3 : ¬ (yk : Int) = 3 := by omega
          have HO : Hid (operS m ⟨yk, ya, yv, yb⟩ = (m, wrap64 c, true)) := Lib.hid (by simp [operS, HC.out, h1, h2, h3])
          go_wp2
          refine bodyPost_ret (v := .tuple #[.int .i64 (wrap64 c), .bool true]) (by simp [results, Try.results63, go_sem]) rfl ?_
          have hop := HO.out
          have hct := HT.out
          rw [hop, hct]
          exact ⟨rfl, hR1, k1⟩
  · have hi2 : (4 : Int) ≤ ya := by omega
    have hop : operS m ⟨yk, ya, yv, yb⟩ = (m, 0, yk != 4) := by
      simp [operS, List.getElem?_eq_none (by omega : m.length ≤ ya)]
    have hct : countS m ⟨yk, ya, yv, yb⟩ = 0 := by simp [countS, hi]
    have HO := Lib.hid hop
    have HT := Lib.hid hct
    rw [hm] at d0
    clear hop hct
    go_upto_region 5 with fail
    have hR2 := hR1.step n
    have k2 := k1.set (p := ⟨D, 1, none⟩) (fun _ => Or.inl rfl) (.int .i64 n)
    have y0 := (hX1.far (C := D) (by omega) 1 (.int .i64 n)).cell 0 (.int .i64 yk) rfl
    go_quiet (fail)
    go_wp2
    have hop := HO.out
    have hct := HT.out
    have hne : ((yk : Int) != 4) = (yk != 4) := by rw [Bool.eq_iff_iff]; simp; omega
    refine bodyPost_ret (v := .tuple #[.int .i64 0, .bool ((yk : Int) != 4)]) (by simp [results, Try.results63, go_sem]) rfl ?_
    rw [hop, hct, hne]
    exact ⟨rfl, by rw [Int.add_zero]; exact hR2.keep (Q := fun _ => False) ((Keep.refl _ _).drewN _) (fun h => h) (fun h => h) (fun h => h), k2.drewN _⟩
end Go.Proofs.Ytmkgbbbhmbejnaa
