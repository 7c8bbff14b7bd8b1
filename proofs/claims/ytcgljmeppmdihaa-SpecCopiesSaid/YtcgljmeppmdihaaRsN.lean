/- The document's automaton: Copy (written by tools/gen_rsN.py). -/
import Derived.Test.YtcgljmeppmdihaaRsM
namespace Go.Proofs.Ytcgljmeppmdihaa
open Go.ChangeShapes Go.WideShapes Go.ChangeAt Go.RowKit
set_option linter.unusedVariables false
set_option maxRecDepth 100000
set_option linter.unusedSimpArgs false
theorem rthC_len (x : RTh) : (rthC x).length = 11 := rfl
theorem flat11 : ∀ (l : List RTh) (i : Nat) (x : RTh), l[i]? = some x → ∀ (j : Nat) (v : Value), (rthC x)[j]? = some v → (l.flatMap rthC)[i * 11 + j]? = some v
  | [], i, e, h, _, _, _ => by simp at h
  | a :: l, 0, e, h, j, v, hv => by
    simp at h
    subst h
    rw [List.flatMap_cons, Nat.zero_mul, Nat.zero_add, List.getElem?_append_left (List.getElem?_eq_some_iff.1 hv).1]
    exact hv
  | a :: l, i + 1, e, h, j, v, hv => by
    have h1 : l[i]? = some e := by simpa using h
    rw [List.flatMap_cons, List.getElem?_append_right (by rw [rthC_len]; omega), show (i + 1) * 11 + j - (rthC a).length = i * 11 + j by rw [rthC_len]; omega]
    exact flat11 l i e h1 j v hv
theorem flat11_len (l : List RTh) : (l.flatMap rthC).length = l.length * 11 := by
  induction l with
  | nil => rfl
  | cons a l ih => rw [List.flatMap_cons, List.length_append, ih, rthC_len, List.length_cons]; omega
theorem flat11_back (l : List RTh) (k : Nat) (v : Value) (h : (l.flatMap rthC)[k]? = some v) : ∃ (i : Nat) (x : RTh) (j : Nat), k = i * 11 + j ∧ l[i]? = some x ∧ (rthC x)[j]? = some v := by
  have hk : k < l.length * 11 := by rw [← flat11_len]; exact (List.getElem?_eq_some_iff.1 h).1
  have hi : k / 11 < l.length := by omega
  refine ⟨k / 11, l[k / 11], k % 11, by omega, List.getElem?_eq_getElem hi, ?_⟩
  have hj : k % 11 < (rthC l[k / 11]).length := by rw [rthC_len]; omega
  have := flat11 l (k / 11) _ (List.getElem?_eq_getElem hi) (k % 11) _ (List.getElem?_eq_getElem hj)
  rw [show k / 11 * 11 + k % 11 = k by omega, h] at this
  rw [List.getElem?_eq_getElem hj]
  exact this.symm
theorem RowRT.flat {w : World} {T : Nat} {l : List RTh} (h : RowRT w T l) (k : Nat) (v : Value) (hv : (l.flatMap rthC)[k]? = some v) : w.cell? ⟨T, k, none⟩ = some v := by
  obtain ⟨i, x, j, rfl, hx, hj⟩ := flat11_back l k v hv
  exact h.cell hx j v hj
theorem rowRT_own {w : World} {N g n cap : Nat} {l : List RTh} (h : w.ownsRow N 91 11 (.slice (some ⟨g, 0, none⟩) n cap) n (l.flatMap rthC)) : RowRT w g l := by
  obtain ⟨_, cur, hB⟩ := row_lt h rfl
  refine ⟨_, hB, fun t x hx j v hj => blk_at hB ?_⟩
  have := h.cells (g := g) rfl (t * 11 + j) v (flat11 l t x hx j v hj)
  rw [Go.WideShapes.add_plain, Nat.zero_add] at this
  exact this
/-- an automaton of the call's own, in that state -/
def RNewIn (w : World) (s : RS) (e : Ending) (w' : World) : Prop := ∃ p : RPl, e = .returned (rspV p) ∧ RsAt w' p s ∧ (∀ b, rB p b → w.heap.size ≤ b) ∧ Below w.heap.size w w'
theorem copy_done {w W : World} {s : RS} {gW gD gT cW cD cT lW lD lT : Nat} {rel : Int} (rW : W.ownsRow w.heap.size 3 1 (.slice (some ⟨gW, 0, none⟩) lW cW) lW (iL s.W)) (rD : W.ownsRow w.heap.size 3 1 (.slice (some ⟨gD, 0, none⟩) lD cD) lD (iL s.D)) (rT : W.ownsRow w.heap.size 91 11 (.slice (some ⟨gT, 0, none⟩) lT cT) lT (s.T.flatMap rthC))
    (eW : lW = s.W.length) (eD : lD = s.D.length) (eT : lT = s.T.length) (er : rel = s.rel) (hne : gW ≠ gD)
    (hP : Blk (W.alloc (.cells #[.slice (some ⟨gW, 0, none⟩) lW cW, .slice (some ⟨gD, 0, none⟩) lD cD, .slice (some ⟨gT, 0, none⟩) lT cT, .int .i64 rel] 89)) W.heap.size 89 #[.slice (some ⟨gW, 0, none⟩) lW cW, .slice (some ⟨gD, 0, none⟩) lD cD, .slice (some ⟨gT, 0, none⟩) lT cT, .int .i64 rel])
    (hW : w.heap.size ≤ gW) (hD : w.heap.size ≤ gD) (hT : w.heap.size ≤ gT) (hs : w.heap.size ≤ W.heap.size) (bw : Below w.heap.size w (W.alloc (.cells #[.slice (some ⟨gW, 0, none⟩) lW cW, .slice (some ⟨gD, 0, none⟩) lD cD, .slice (some ⟨gT, 0, none⟩) lT cT, .int .i64 rel] 89))) :
    RNewIn w s (.returned (.pointer (some ⟨W.heap.size, 0, none⟩))) (W.alloc (.cells #[.slice (some ⟨gW, 0, none⟩) lW cW, .slice (some ⟨gD, 0, none⟩) lD cD, .slice (some ⟨gT, 0, none⟩) lT cT, .int .i64 rel] 89)) := by
  subst eW
  subst eD
  subst eT
  subst er
  have kp : Keep (fun _ => False) W (W.alloc (.cells #[.slice (some ⟨gW, 0, none⟩) s.W.length cW, .slice (some ⟨gD, 0, none⟩) s.D.length cD, .slice (some ⟨gT, 0, none⟩) s.T.length cT, .int .i64 s.rel] 89)) := (Keep.refl _ _).alloc _
  refine ⟨⟨W.heap.size, gW, gD, gT, cW, cD, cT⟩, rfl, ⟨hP, (rowRI_own rW).keep kp (fun h => h), (rowRI_own rD).keep kp (fun h => h), (rowRT_own rT).keep kp (fun h => h), hne⟩, fun b hb => ?_, bw⟩
  rcases hb with rfl | rfl | rfl | rfl
  · exact hs
  · exact hW
  · exact hD
  · exact hT
theorem copy_fit {w W : World} {s : RS} {gW gD gT cW cD cT lW lD lT : Nat} {rel : Int} {NW ND NT : List Value} (hN : NW = iL s.W ∧ ND = iL s.D ∧ NT = s.T.flatMap rthC) (rW : W.ownsRow w.heap.size 3 1 (.slice (some ⟨gW, 0, none⟩) lW cW) lW NW) (rD : W.ownsRow w.heap.size 3 1 (.slice (some ⟨gD, 0, none⟩) lD cD) lD ND) (rT : W.ownsRow w.heap.size 91 11 (.slice (some ⟨gT, 0, none⟩) lT cT) lT NT)
    (eW : lW = s.W.length) (eD : lD = s.D.length) (eT : lT = s.T.length) (er : rel = s.rel) (hne : gW ≠ gD)
    (hP : Blk (W.alloc (.cells #[.slice (some ⟨gW, 0, none⟩) lW cW, .slice (some ⟨gD, 0, none⟩) lD cD, .slice (some ⟨gT, 0, none⟩) lT cT, .int .i64 rel] 89)) W.heap.size 89 #[.slice (some ⟨gW, 0, none⟩) lW cW, .slice (some ⟨gD, 0, none⟩) lD cD, .slice (some ⟨gT, 0, none⟩) lT cT, .int .i64 rel])
    (hW : w.heap.size ≤ gW) (hD : w.heap.size ≤ gD) (hT : w.heap.size ≤ gT) (hs : w.heap.size ≤ W.heap.size) (bw : Below w.heap.size w (W.alloc (.cells #[.slice (some ⟨gW, 0, none⟩) lW cW, .slice (some ⟨gD, 0, none⟩) lD cD, .slice (some ⟨gT, 0, none⟩) lT cT, .int .i64 rel] 89))) :
    RNewIn w s (.returned (.pointer (some ⟨W.heap.size, 0, none⟩))) (W.alloc (.cells #[.slice (some ⟨gW, 0, none⟩) lW cW, .slice (some ⟨gD, 0, none⟩) lD cD, .slice (some ⟨gT, 0, none⟩) lT cT, .int .i64 rel] 89)) := by
  obtain ⟨rfl, rfl, rfl⟩ := hN
  exact copy_done rW rD rT eW eD eT er hne hP hW hD hT hs bw
set_option maxHeartbeats 8000000 in
theorem rcopy_any {w : World} {p : RPl} {s : RS} (h : RsAt w p s) (h1 : 1 ≤ s.W.length ∧ s.W.length ≤ 65536) (h2 : 1 ≤ s.D.length ∧ s.D.length ≤ 65536) (h3 : 1 ≤ s.T.length ∧ s.T.length ≤ 32766) :
    Calls Try.prog 43 #[rspV p] w (RNewIn w s) := by
  obtain ⟨iW, hizW, hzzW, hszW, hbzW⟩ := info_parts rint_info
  obtain ⟨iT, hizT, hzzT, hszT, hbzT⟩ := info_parts rthr_info
  obtain ⟨lW, hlW⟩ : ∃ n, n = s.W.length := ⟨_, rfl⟩
  obtain ⟨lD, hlD⟩ : ∃ n, n = s.D.length := ⟨_, rfl⟩
  obtain ⟨lT, hlT⟩ : ∃ n, n = s.T.length := ⟨_, rfl⟩
  obtain ⟨rel, hrel⟩ : ∃ n, n = s.rel := ⟨_, rfl⟩
  obtain ⟨NW, hNW⟩ : ∃ n, n = iL s.W := ⟨_, rfl⟩
  obtain ⟨ND, hND⟩ : ∃ n, n = iL s.D := ⟨_, rfl⟩
  obtain ⟨NT, hNT⟩ : ∃ n, n = s.T.flatMap rthC := ⟨_, rfl⟩
  have SK := Lib.hid (show ∀ V, Below w.heap.size w V → (fun (V : World) => V.cell? ⟨p.P, 0, none⟩ = some (.slice (some ⟨p.W, 0, none⟩) lW p.cW) ∧ V.cell? ⟨p.P, 1, none⟩ = some (.slice (some ⟨p.D, 0, none⟩) lD p.cD) ∧ V.cell? ⟨p.P, 2, none⟩ = some (.slice (some ⟨p.T, 0, none⟩) lT p.cT) ∧ V.cell? ⟨p.P, 3, none⟩ = some (.int .i64 rel)) V from fun V hV => by
    rw [hlW, hlD, hlT, hrel]
    have z := (h.below hV).c
    exact ⟨z.c0, z.c1, z.c2, z.c3⟩)
  have HLW := Lib.hid (show NW.length = lW * 1 from by rw [hNW, hlW]; simp [iL])
  have HLD := Lib.hid (show ND.length = lD * 1 from by rw [hND, hlD]; simp [iL])
  have HLT := Lib.hid (show NT.length = lT * 11 from by rw [hNT, hlT]; exact flat11_len _)
  have HCW := Lib.hid (show ∀ V, Below w.heap.size w V → ∀ j u, NW[j]? = some u → V.cell? ((⟨p.W, 0, none⟩ : Addr).add j) = some u from fun V hV j u hj => by
    rw [hNW] at hj
    unfold iL at hj
    rw [List.getElem?_map] at hj
    rw [Go.WideShapes.add_plain, Nat.zero_add]
    cases e : s.W[j]? with
    | none => rw [e] at hj; cases hj
    | some x => rw [e] at hj; cases hj; exact (h.below hV).ow.cell e)
  have HCD := Lib.hid (show ∀ V, Below w.heap.size w V → ∀ j u, ND[j]? = some u → V.cell? ((⟨p.D, 0, none⟩ : Addr).add j) = some u from fun V hV j u hj => by
    rw [hND] at hj
    unfold iL at hj
    rw [List.getElem?_map] at hj
    rw [Go.WideShapes.add_plain, Nat.zero_add]
    cases e : s.D[j]? with
    | none => rw [e] at hj; cases hj
    | some x => rw [e] at hj; cases hj; exact (h.below hV).dp.cell e)
  have HCT := Lib.hid (show ∀ V, Below w.heap.size w V → ∀ j u, NT[j]? = some u → V.cell? ((⟨p.T, 0, none⟩ : Addr).add j) = some u from fun V hV j u hj => by
    rw [hNT] at hj
    rw [Go.WideShapes.add_plain, Nat.zero_add]
    exact (h.below hV).th.flat j u hj)
  have H1W := Lib.hid (show ∀ u ∈ NW, u.oneCell' = true from fun u hu => by rw [hNW] at hu; unfold iL at hu; obtain ⟨x, _, rfl⟩ := List.mem_map.1 hu; rfl)
  have H1D := Lib.hid (show ∀ u ∈ ND, u.oneCell' = true from fun u hu => by rw [hND] at hu; unfold iL at hu; obtain ⟨x, _, rfl⟩ := List.mem_map.1 hu; rfl)
  have H1T := Lib.hid (show ∀ u ∈ NT, u.oneCell' = true from fun u hu => by
    rw [hNT] at hu
    obtain ⟨x, _, hx⟩ := List.mem_flatMap.1 hu
    simp [rthC] at hx
    rcases hx with rfl | rfl | rfl | rfl | rfl | rfl | rfl | rfl | rfl | rfl | rfl <;> rfl)
  have HNs := Lib.hid (And.intro hNW (And.intro hND hNT))
  rw [← hlW] at h1
  rw [← hlD] at h2
  rw [← hlT] at h3
  have HEW := Lib.hid hlW
  have HED := Lib.hid hlD
  have HET := Lib.hid hlT
  have HRel := Lib.hid hrel
  have bd := rdrew w
  clear h hlW hlD hlT hrel hNW hND hNT
  go_enter Try.func43, Try.ntmps43
  go_upto_region 1 with fail
  refine wp_region_held_drew (S := (fun (V : World) => V.cell? ⟨p.P, 0, none⟩ = some (.slice (some ⟨p.W, 0, none⟩) lW p.cW) ∧ V.cell? ⟨p.P, 1, none⟩ = some (.slice (some ⟨p.D, 0, none⟩) lD p.cD) ∧ V.cell? ⟨p.P, 2, none⟩ = some (.slice (some ⟨p.T, 0, none⟩) lT p.cT) ∧ V.cell? ⟨p.P, 3, none⟩ = some (.int .i64 rel))) (by kernel_rfl) (SK.out _ bd) (fun hHeld => ?_)
  generalize hW0 : w.drew = W0 at bd hHeld ⊢
  clear hW0
  refine wpAnyH_take (i := 1) (oi := { dst := some 4, op := Op.move (Operand.tmp 0), type := 75, pos := "kit.go:9", after := #[], guard := none }) (v := ?_) rfl (by kernel_rfl) (by kernel_rfl) (by kernel_rfl) (fun _ _ _ h => h) (Or.inl ⟨by rfl, ?_⟩) (by assumption) ?_
  rotate_left
  · intro w hSw; (try dsimp only at hSw); go_simp; try with_reducible rfl
  (try simp only [Act.put, List.setIfInBounds_toArray, List.set_cons_zero, List.set_cons_succ])
  refine wpAnyH_take (i := 2) (oi := { dst := some 5, op := Op.nilCheck (Operand.tmp 4), type := 0, pos := "kit.go:9", after := #[{ on := 1, ground := Ground.data }], guard := none }) (v := ?_) rfl (by kernel_rfl) (by kernel_rfl) (by kernel_rfl) (fun _ _ _ h => h) (Or.inl ⟨by rfl, ?_⟩) (by assumption) ?_
  rotate_left
  · intro w hSw; (try dsimp only at hSw); go_simp; try with_reducible rfl
  (try simp only [Act.put, List.setIfInBounds_toArray, List.set_cons_zero, List.set_cons_succ])
  refine wpAnyH_take (i := 3) (oi := { dst := some 6, op := Op.fieldAddr 89 (Operand.tmp 5) 0, type := 0, pos := "kit.go:9", after := #[{ on := 2, ground := Ground.data }], guard := none }) (v := ?_) rfl (by kernel_rfl) (by kernel_rfl) (by kernel_rfl) (fun _ _ _ h => h) (Or.inl ⟨by rfl, ?_⟩) (by assumption) ?_
  rotate_left
  · intro w hSw; (try dsimp only at hSw); go_simp; try with_reducible rfl
  (try simp only [Act.put, List.setIfInBounds_toArray, List.set_cons_zero, List.set_cons_succ])
  refine wpAnyH_take (i := 4) (oi := { dst := some 7, op := Op.load 30 (Operand.tmp 6), type := 30, pos := "kit.go:9", after := #[{ on := 3, ground := Ground.data }], guard := none }) (v := ?_) rfl (by kernel_rfl) (by kernel_rfl) (by kernel_rfl) (fun _ _ _ h => h) (Or.inl ⟨by rfl, ?_⟩) (by assumption) ?_
  rotate_left
  · intro w hSw; (try dsimp only at hSw); go_simp; try with_reducible rfl
  (try simp only [Act.put, List.setIfInBounds_toArray, List.set_cons_zero, List.set_cons_succ])
  refine wpAnyH_take (i := 7) (oi := { dst := some 10, op := Op.move (Operand.tmp 0), type := 75, pos := "kit.go:9", after := #[], guard := none }) (v := ?_) rfl (by kernel_rfl) (by kernel_rfl) (by kernel_rfl) (fun _ _ _ h => h) (Or.inl ⟨by rfl, ?_⟩) (by assumption) ?_
  rotate_left
  · intro w hSw; (try dsimp only at hSw); go_simp; try with_reducible rfl
  (try simp only [Act.put, List.setIfInBounds_toArray, List.set_cons_zero, List.set_cons_succ])
  refine wpAnyH_take (i := 8) (oi := { dst := some 11, op := Op.nilCheck (Operand.tmp 10), type := 0, pos := "kit.go:9", after := #[{ on := 7, ground := Ground.data }], guard := none }) (v := ?_) rfl (by kernel_rfl) (by kernel_rfl) (by kernel_rfl) (fun _ _ _ h => h) (Or.inl ⟨by rfl, ?_⟩) (by assumption) ?_
  rotate_left
  · intro w hSw; (try dsimp only at hSw); go_simp; try with_reducible rfl
  (try simp only [Act.put, List.setIfInBounds_toArray, List.set_cons_zero, List.set_cons_succ])
  refine wpAnyH_take (i := 9) (oi := { dst := some 12, op := Op.fieldAddr 89 (Operand.tmp 11) 1, type := 0, pos := "kit.go:9", after := #[{ on := 8, ground := Ground.data }], guard := none }) (v := ?_) rfl (by kernel_rfl) (by kernel_rfl) (by kernel_rfl) (fun _ _ _ h => h) (Or.inl ⟨by rfl, ?_⟩) (by assumption) ?_
  rotate_left
  · intro w hSw; (try dsimp only at hSw); go_simp; try with_reducible rfl
  (try simp only [Act.put, List.setIfInBounds_toArray, List.set_cons_zero, List.set_cons_succ])
  refine wpAnyH_take (i := 10) (oi := { dst := some 13, op := Op.load 30 (Operand.tmp 12), type := 30, pos := "kit.go:9", after := #[{ on := 9, ground := Ground.data }], guard := none }) (v := ?_) rfl (by kernel_rfl) (by kernel_rfl) (by kernel_rfl) (fun _ _ _ h => h) (Or.inl ⟨by rfl, ?_⟩) (by assumption) ?_
  rotate_left
  · intro w hSw; (try dsimp only at hSw); go_simp; try with_reducible rfl
  (try simp only [Act.put, List.setIfInBounds_toArray, List.set_cons_zero, List.set_cons_succ])
  refine wpAnyH_take (i := 13) (oi := { dst := some 16, op := Op.move (Operand.tmp 0), type := 75, pos := "kit.go:9", after := #[], guard := none }) (v := ?_) rfl (by kernel_rfl) (by kernel_rfl) (by kernel_rfl) (fun _ _ _ h => h) (Or.inl ⟨by rfl, ?_⟩) (by assumption) ?_
  rotate_left
  · intro w hSw; (try dsimp only at hSw); go_simp; try with_reducible rfl
  (try simp only [Act.put, List.setIfInBounds_toArray, List.set_cons_zero, List.set_cons_succ])
  refine wpAnyH_take (i := 14) (oi := { dst := some 17, op := Op.nilCheck (Operand.tmp 16), type := 0, pos := "kit.go:9", after := #[{ on := 13, ground := Ground.data }], guard := none }) (v := ?_) rfl (by kernel_rfl) (by kernel_rfl) (by kernel_rfl) (fun _ _ _ h => h) (Or.inl ⟨by rfl, ?_⟩) (by assumption) ?_
  rotate_left
  · intro w hSw; (try dsimp only at hSw); go_simp; try with_reducible rfl
  (try simp only [Act.put, List.setIfInBounds_toArray, List.set_cons_zero, List.set_cons_succ])
  refine wpAnyH_take (i := 15) (oi := { dst := some 18, op := Op.fieldAddr 89 (Operand.tmp 17) 2, type := 0, pos := "kit.go:9", after := #[{ on := 14, ground := Ground.data }], guard := none }) (v := ?_) rfl (by kernel_rfl) (by kernel_rfl) (by kernel_rfl) (fun _ _ _ h => h) (Or.inl ⟨by rfl, ?_⟩) (by assumption) ?_
  rotate_left
  · intro w hSw; (try dsimp only at hSw); go_simp; try with_reducible rfl
  (try simp only [Act.put, List.setIfInBounds_toArray, List.set_cons_zero, List.set_cons_succ])
  refine wpAnyH_take (i := 16) (oi := { dst := some 19, op := Op.load 87 (Operand.tmp 18), type := 87, pos := "kit.go:9", after := #[{ on := 15, ground := Ground.data }], guard := none }) (v := ?_) rfl (by kernel_rfl) (by kernel_rfl) (by kernel_rfl) (fun _ _ _ h => h) (Or.inl ⟨by rfl, ?_⟩) (by assumption) ?_
  rotate_left
  · intro w hSw; (try dsimp only at hSw); go_simp; try with_reducible rfl
  (try simp only [Act.put, List.setIfInBounds_toArray, List.set_cons_zero, List.set_cons_succ])
  refine wpAnyH_take (i := 18) (oi := { dst := some 21, op := Op.move (Operand.tmp 0), type := 75, pos := "kit.go:9", after := #[], guard := none }) (v := ?_) rfl (by kernel_rfl) (by kernel_rfl) (by kernel_rfl) (fun _ _ _ h => h) (Or.inl ⟨by rfl, ?_⟩) (by assumption) ?_
  rotate_left
  · intro w hSw; (try dsimp only at hSw); go_simp; try with_reducible rfl
  (try simp only [Act.put, List.setIfInBounds_toArray, List.set_cons_zero, List.set_cons_succ])
  refine wpAnyH_take (i := 19) (oi := { dst := some 22, op := Op.nilCheck (Operand.tmp 21), type := 0, pos := "kit.go:9", after := #[{ on := 18, ground := Ground.data }], guard := none }) (v := ?_) rfl (by kernel_rfl) (by kernel_rfl) (by kernel_rfl) (fun _ _ _ h => h) (Or.inl ⟨by rfl, ?_⟩) (by assumption) ?_
  rotate_left
  · intro w hSw; (try dsimp only at hSw); go_simp; try with_reducible rfl
  (try simp only [Act.put, List.setIfInBounds_toArray, List.set_cons_zero, List.set_cons_succ])
  refine wpAnyH_take (i := 20) (oi := { dst := some 23, op := Op.fieldAddr 89 (Operand.tmp 22) 3, type := 0, pos := "kit.go:9", after := #[{ on := 19, ground := Ground.data }], guard := none }) (v := ?_) rfl (by kernel_rfl) (by kernel_rfl) (by kernel_rfl) (fun _ _ _ h => h) (Or.inl ⟨by rfl, ?_⟩) (by assumption) ?_
  rotate_left
  · intro w hSw; (try dsimp only at hSw); go_simp; try with_reducible rfl
  (try simp only [Act.put, List.setIfInBounds_toArray, List.set_cons_zero, List.set_cons_succ])
  refine wpAnyH_take (i := 21) (oi := { dst := some 24, op := Op.load 3 (Operand.tmp 23), type := 3, pos := "kit.go:9", after := #[{ on := 20, ground := Ground.data }], guard := none }) (v := ?_) rfl (by kernel_rfl) (by kernel_rfl) (by kernel_rfl) (fun _ _ _ h => h) (Or.inl ⟨by rfl, ?_⟩) (by assumption) ?_
  rotate_left
  · intro w hSw; (try dsimp only at hSw); go_simp; try with_reducible rfl
  (try simp only [Act.put, List.setIfInBounds_toArray, List.set_cons_zero, List.set_cons_succ])
  refine wpAnyH_ready (rs := [0, 6, 12]) (by kernel_rfl) (by simp) ?_
  refine AllReadyH.cons rfl (fun K hK => ?_) (AllReadyH.cons rfl (fun K hK => ?_) (AllReadyH.cons rfl (fun K hK => ?_) (AllReadyH.nil)))
  · go_simp
    have ba1 : Below W0.heap.size W0 (W0.alloc (.cells #[] 3)) := (Below.refl _ _).alloc (Nat.le_refl _) _
    have r1 := World.ownsRow_lit (base := w.heap.size) (e := 3) (size := 1) W0 #[] 0 bd.size (by unfold maxLen; omega) rfl
    have g1 : W0.heap.size < (W0.alloc (.cells #[] 3)).heap.size := by rw [World.size_alloc]; omega
    have b1 : w.heap.size ≤ W0.heap.size := bd.size
    have bw1 := bd.trans (ba1.mono bd.size)
    generalize hW1 : World.alloc _ _ = W1 at *
    generalize hB1 : W0.heap.size = B1 at *
    clear hW1
    refine hK.out _ _ (SK.out _ bw1) (fun hHeld => ?_)
    clear hK K
    (try dsimp only [Act.put]); (try simp only [Act.put, List.setIfInBounds_toArray, List.set_cons_zero, List.set_cons_succ])
    refine wpAnyH_ready (rs := [5, 6, 12]) (by kernel_rfl) (by simp) ?_
    refine AllReadyH.cons rfl (fun K hK => ?_) (AllReadyH.cons rfl (fun K hK => ?_) (AllReadyH.cons rfl (fun K hK => ?_) (AllReadyH.nil)))
    · refine wp_append_own2 W1 _ _ 30 rfl w.heap.size 3 iW (.int .i64 0) 1 8 Try.underlying30 hizW hzzW hszW hbzW rfl (by decide) (.slice (some ⟨B1, 0, none⟩) 0 0) 0 [] rfl (by simpa using r1) ⟨p.W, 0, none⟩ lW _ NW rfl HLW.out (fun j u hj => HCW.out _ bw1 j u hj) H1W.out (by unfold maxLen; omega) (by omega) bw1.size (by omega) ?_
      intro g2 cap2 W2 hr2 hg2 ho2
      have kp2 : Keep (fun b => b = B1) W1 W2 := ⟨hg2.os, hg2.tape, hg2.output, hg2.size, fun b hb hn => hg2.block b hb (fun e => hn (by simpa [Value.ownBlock] using e))⟩
      replace hr2 := (show W2.ownsRow w.heap.size 3 1 (.slice (some ⟨g2, 0, none⟩) lW cap2) lW NW from by simpa using hr2)
      have hq2 : g2 = B1 ∨ W1.heap.size ≤ g2 := by rcases ho2 with h | h; exact .inl (by simpa [Value.ownBlock, eq_comm] using h); exact .inr h
      have lt2 : g2 < W2.heap.size := (row_lt hr2 rfl).1
      have lo2 : w.heap.size ≤ g2 := by have := b1; have := bw1.size; omega
      have bw2 := bw1.trans (kp2.below bw1.size (fun b _ e => by have e2 : b = B1 := e; have := b1; omega))
      refine hK.out _ _ (SK.out _ bw2) (fun hHeld => ?_)
      clear hK K
      (try dsimp only [Act.put]); (try simp only [Act.put, List.setIfInBounds_toArray, List.set_cons_zero, List.set_cons_succ])
      refine wpAnyH_ready (rs := [6, 12]) (by kernel_rfl) (by simp) ?_
      refine AllReadyH.cons rfl (fun K hK => ?_) (AllReadyH.cons rfl (fun K hK => ?_) (AllReadyH.nil))
      · go_simp
        have ba3 : Below W2.heap.size W2 (W2.alloc (.cells #[] 3)) := (Below.refl _ _).alloc (Nat.le_refl _) _
        have r3 := World.ownsRow_lit (base := w.heap.size) (e := 3) (size := 1) W2 #[] 0 bw2.size (by unfold maxLen; omega) rfl
        have g3 : W2.heap.size < (W2.alloc (.cells #[] 3)).heap.size := by rw [World.size_alloc]; omega
        have r3W := row_ownkeep hr2 (Keep.ofBelow (Q := fun _ => False) ba3) (fun _ _ h => h)
        have n3W : g2 ≠ W2.heap.size := by have := lt2; omega
        have l3W : g2 < (W2.alloc (.cells #[] 3)).heap.size := by rw [World.size_alloc]; have := lt2; omega
        have b3 : w.heap.size ≤ W2.heap.size := bw2.size
        have bw3 := bw2.trans (ba3.mono bw2.size)
        generalize hW3 : World.alloc _ _ = W3 at *
        generalize hB3 : W2.heap.size = B3 at *
        clear hW3
        refine hK.out _ _ (SK.out _ bw3) (fun hHeld => ?_)
        clear hK K
        (try dsimp only [Act.put]); (try simp only [Act.put, List.setIfInBounds_toArray, List.set_cons_zero, List.set_cons_succ])
        refine wpAnyH_ready (rs := [11, 12]) (by kernel_rfl) (by simp) ?_
        refine AllReadyH.cons rfl (fun K hK => ?_) (AllReadyH.cons rfl (fun K hK => ?_) (AllReadyH.nil))
        · refine wp_append_own2 W3 _ _ 30 rfl w.heap.size 3 iW (.int .i64 0) 1 8 Try.underlying30 hizW hzzW hszW hbzW rfl (by decide) (.slice (some ⟨B3, 0, none⟩) 0 0) 0 [] rfl (by simpa using r3) ⟨p.D, 0, none⟩ lD _ ND rfl HLD.out (fun j u hj => HCD.out _ bw3 j u hj) H1D.out (by unfold maxLen; omega) (by omega) bw3.size (by omega) ?_
          intro g4 cap4 W4 hr4 hg4 ho4
          have kp4 : Keep (fun b => b = B3) W3 W4 := ⟨hg4.os, hg4.tape, hg4.output, hg4.size, fun b hb hn => hg4.block b hb (fun e => hn (by simpa [Value.ownBlock] using e))⟩
          replace hr4 := (show W4.ownsRow w.heap.size 3 1 (.slice (some ⟨g4, 0, none⟩) lD cap4) lD ND from by simpa using hr4)
          have hq4 : g4 = B3 ∨ W3.heap.size ≤ g4 := by rcases ho4 with h | h; exact .inl (by simpa [Value.ownBlock, eq_comm] using h); exact .inr h
          have lt4 : g4 < W4.heap.size := (row_lt hr4 rfl).1
          have lo4 : w.heap.size ≤ g4 := by have := b3; have := bw3.size; omega
          have r4W := row_ownkeep r3W kp4 (fun b hb e => by have e2 : g2 = b := (by simpa [Value.ownBlock] using hb); exact (n3W) (e2.trans e))
          have n4W : g2 ≠ g4 := by have := l3W; have := n3W; omega
          have l4W : g2 < W4.heap.size := by have := l3W; have := hg4.size; omega
          have bw4 := bw3.trans (kp4.below bw3.size (fun b _ e => by have e2 : b = B3 := e; have := b3; omega))
          refine hK.out _ _ (SK.out _ bw4) (fun hHeld => ?_)
          clear hK K
          (try dsimp only [Act.put]); (try simp only [Act.put, List.setIfInBounds_toArray, List.set_cons_zero, List.set_cons_succ])
          refine wpAnyH_ready (rs := [12]) (by kernel_rfl) (by simp) ?_
          refine AllReadyH.cons rfl (fun K hK => ?_) (AllReadyH.nil)
          go_simp
          have ba5 : Below W4.heap.size W4 (W4.alloc (.cells #[] 91)) := (Below.refl _ _).alloc (Nat.le_refl _) _
          have r5 := World.ownsRow_lit (base := w.heap.size) (e := 91) (size := 11) W4 #[] 0 bw4.size (by unfold maxLen; omega) rfl
          have g5 : W4.heap.size < (W4.alloc (.cells #[] 91)).heap.size := by rw [World.size_alloc]; omega
          have r5W := row_ownkeep r4W (Keep.ofBelow (Q := fun _ => False) ba5) (fun _ _ h => h)
          have n5W : g2 ≠ W4.heap.size := by have := l4W; omega
          have l5W : g2 < (W4.alloc (.cells #[] 91)).heap.size := by rw [World.size_alloc]; have := l4W; omega
          have r5D := row_ownkeep hr4 (Keep.ofBelow (Q := fun _ => False) ba5) (fun _ _ h => h)
          have n5D : g4 ≠ W4.heap.size := by have := lt4; omega
          have l5D : g4 < (W4.alloc (.cells #[] 91)).heap.size := by rw [World.size_alloc]; have := lt4; omega
          have b5 : w.heap.size ≤ W4.heap.size := bw4.size
          have bw5 := bw4.trans (ba5.mono bw4.size)
          generalize hW5 : World.alloc _ _ = W5 at *
          generalize hB5 : W4.heap.size = B5 at *
          clear hW5
          refine hK.out _ _ (SK.out _ bw5) (fun hHeld => ?_)
          clear hK K
          (try dsimp only [Act.put]); (try simp only [Act.put, List.setIfInBounds_toArray, List.set_cons_zero, List.set_cons_succ])
          refine wpAnyH_ready (rs := [17]) (by kernel_rfl) (by simp) ?_
          refine AllReadyH.cons rfl (fun K hK => ?_) (AllReadyH.nil)
          refine wp_append_own2 W5 _ _ 87 rfl w.heap.size 91 iT (.agg (rthC rth0).toArray) 11 88 Try.underlying87 hizT hzzT hszT hbzT rfl (by decide) (.slice (some ⟨B5, 0, none⟩) 0 0) 0 [] rfl (by simpa using r5) ⟨p.T, 0, none⟩ lT _ NT rfl HLT.out (fun j u hj => HCT.out _ bw5 j u hj) H1T.out (by unfold maxLen; omega) (by omega) bw5.size (by omega) ?_
          intro g6 cap6 W6 hr6 hg6 ho6
          have kp6 : Keep (fun b => b = B5) W5 W6 := ⟨hg6.os, hg6.tape, hg6.output, hg6.size, fun b hb hn => hg6.block b hb (fun e => hn (by simpa [Value.ownBlock] using e))⟩
          replace hr6 := (show W6.ownsRow w.heap.size 91 11 (.slice (some ⟨g6, 0, none⟩) lT cap6) lT NT from by simpa using hr6)
          have hq6 : g6 = B5 ∨ W5.heap.size ≤ g6 := by rcases ho6 with h | h; exact .inl (by simpa [Value.ownBlock, eq_comm] using h); exact .inr h
          have lt6 : g6 < W6.heap.size := (row_lt hr6 rfl).1
          have lo6 : w.heap.size ≤ g6 := by have := b5; have := bw5.size; omega
          have r6W := row_ownkeep r5W kp6 (fun b hb e => by have e2 : g2 = b := (by simpa [Value.ownBlock] using hb); exact (n5W) (e2.trans e))
          have n6W : g2 ≠ g6 := by have := l5W; have := n5W; omega
          have l6W : g2 < W6.heap.size := by have := l5W; have := hg6.size; omega
          have r6D := row_ownkeep r5D kp6 (fun b hb e => by have e2 : g4 = b := (by simpa [Value.ownBlock] using hb); exact (n5D) (e2.trans e))
          have n6D : g4 ≠ g6 := by have := l5D; have := n5D; omega
          have l6D : g4 < W6.heap.size := by have := l5D; have := hg6.size; omega
          have bw6 := bw5.trans (kp6.below bw5.size (fun b _ e => by have e2 : b = B5 := e; have := b5; omega))
          refine hK.out _ _ (SK.out _ bw6) (fun hHeld => ?_)
          clear hK K
          (try dsimp only [Act.put]); (try simp only [Act.put, List.setIfInBounds_toArray, List.set_cons_zero, List.set_cons_succ])
          refine wpAnyH_take (i := 22) (oi := { dst := some 25, op := Op.build 89 #[(0, Operand.tmp 8), (1, Operand.tmp 14), (2, Operand.tmp 20), (3, Operand.tmp 24)], type := 89, pos := "kit.go:9", after := #[{ on := 5, ground := Ground.data }, { on := 11, ground := Ground.data }, { on := 17, ground := Ground.data }, { on := 21, ground := Ground.data }], guard := none }) (v := ?_) rfl (by kernel_rfl) (by kernel_rfl) (by kernel_rfl) (fun _ _ _ h => h) (Or.inl ⟨by rfl, ?_⟩) (by assumption) ?_
          rotate_left
          · intro w hSw; (try dsimp only at hSw); go_simp; try with_reducible rfl
          (try simp only [Act.put, List.setIfInBounds_toArray, List.set_cons_zero, List.set_cons_succ])
          refine wpAnyH_ready (rs := [23]) (by kernel_rfl) (by simp) ?_
          refine AllReadyH.cons rfl (fun K hK => ?_) (AllReadyH.nil)
          go_simp
          have hP7 := Blk.new W6 89 #[.slice (some ⟨g2, 0, none⟩) lW cap2, .slice (some ⟨g4, 0, none⟩) lD cap4, .slice (some ⟨g6, 0, none⟩) lT cap6, .int .i64 rel]
          have bw7 : Below w.heap.size w (W6.alloc (.cells #[.slice (some ⟨g2, 0, none⟩) lW cap2, .slice (some ⟨g4, 0, none⟩) lD cap4, .slice (some ⟨g6, 0, none⟩) lT cap6, .int .i64 rel] 89)) := bw6.alloc bw6.size _
          have HZ7 := Lib.hid (copy_fit HNs.out r6W r6D hr6 HEW.out HED.out HET.out HRel.out (n4W) hP7 (lo2) (lo4) (lo6) bw6.size bw7)
          refine hK.out _ _ (SK.out _ bw7) (fun hHeld => ?_)
          clear hK K
          (try dsimp only [Act.put]); (try simp only [Act.put, List.setIfInBounds_toArray, List.set_cons_zero, List.set_cons_succ])
          refine wpAnyH_ready (rs := [24]) (by kernel_rfl) (by simp) ?_
          refine AllReadyH.cons rfl (fun K hK => ?_) (AllReadyH.nil)
          go_simp
          refine hK.out _ _ (by assumption) (fun hHeld => ?_)
          clear hK K
          (try dsimp only [Act.put]); (try simp only [Act.put, List.setIfInBounds_toArray, List.set_cons_zero, List.set_cons_succ])
          refine wpAnyH_done (by kernel_rfl) ?_ _
          go_wp2_with fail
          go_ret
          exact HZ7.out
        · go_simp
          have ba9 : Below W3.heap.size W3 (W3.alloc (.cells #[] 91)) := (Below.refl _ _).alloc (Nat.le_refl _) _
          have r9 := World.ownsRow_lit (base := w.heap.size) (e := 91) (size := 11) W3 #[] 0 bw3.size (by unfold maxLen; omega) rfl
          have g9 : W3.heap.size < (W3.alloc (.cells #[] 91)).heap.size := by rw [World.size_alloc]; omega
          have r9W := row_ownkeep r3W (Keep.ofBelow (Q := fun _ => False) ba9) (fun _ _ h => h)
          have n9W : g2 ≠ W3.heap.size := by have := l3W; omega
          have l9W : g2 < (W3.alloc (.cells #[] 91)).heap.size := by rw [World.size_alloc]; have := l3W; omega
          have r9D := row_ownkeep r3 (Keep.ofBelow (Q := fun _ => False) ba9) (fun _ _ h => h)
          have n9D : B3 ≠ W3.heap.size := by have := g3; omega
          have l9D : B3 < (W3.alloc (.cells #[] 91)).heap.size := by rw [World.size_alloc]; have := g3; omega
          have b9 : w.heap.size ≤ W3.heap.size := bw3.size
          have bw9 := bw3.trans (ba9.mono bw3.size)
          generalize hW9 : World.alloc _ _ = W9 at *
          generalize hB9 : W3.heap.size = B9 at *
          clear hW9
          refine hK.out _ _ (SK.out _ bw9) (fun hHeld => ?_)
          clear hK K
          (try dsimp only [Act.put]); (try simp only [Act.put, List.setIfInBounds_toArray, List.set_cons_zero, List.set_cons_succ])
          refine wpAnyH_ready (rs := [11]) (by kernel_rfl) (by simp) ?_
          refine AllReadyH.cons rfl (fun K hK => ?_) (AllReadyH.nil)
          refine wp_append_own2 W9 _ _ 30 rfl w.heap.size 3 iW (.int .i64 0) 1 8 Try.underlying30 hizW hzzW hszW hbzW rfl (by decide) (.slice (some ⟨B3, 0, none⟩) 0 0) 0 [] rfl (by simpa using r9D) ⟨p.D, 0, none⟩ lD _ ND rfl HLD.out (fun j u hj => HCD.out _ bw9 j u hj) H1D.out (by unfold maxLen; omega) (by omega) bw9.size (by omega) ?_
          intro g10 cap10 W10 hr10 hg10 ho10
          have kp10 : Keep (fun b => b = B3) W9 W10 := ⟨hg10.os, hg10.tape, hg10.output, hg10.size, fun b hb hn => hg10.block b hb (fun e => hn (by simpa [Value.ownBlock] using e))⟩
          replace hr10 := (show W10.ownsRow w.heap.size 3 1 (.slice (some ⟨g10, 0, none⟩) lD cap10) lD ND from by simpa using hr10)
          have hq10 : g10 = B3 ∨ W9.heap.size ≤ g10 := by rcases ho10 with h | h; exact .inl (by simpa [Value.ownBlock, eq_comm] using h); exact .inr h
          have lt10 : g10 < W10.heap.size := (row_lt hr10 rfl).1
          have lo10 : w.heap.size ≤ g10 := by have := b3; have := bw9.size; omega
          have r10W := row_ownkeep r9W kp10 (fun b hb e => by have e2 : g2 = b := (by simpa [Value.ownBlock] using hb); exact (n3W) (e2.trans e))
          have n10W : g2 ≠ g10 := by have := l9W; have := n3W; omega
          have l10W : g2 < W10.heap.size := by have := l9W; have := hg10.size; omega
          have r10T := row_ownkeep r9 kp10 (fun b hb e => by have e2 : B9 = b := (by simpa [Value.ownBlock] using hb); exact (n9D.symm) (e2.trans e))
          have n10T : B9 ≠ g10 := by have := g9; have := n9D.symm; omega
          have l10T : B9 < W10.heap.size := by have := g9; have := hg10.size; omega
          have bw10 := bw9.trans (kp10.below bw9.size (fun b _ e => by have e2 : b = B3 := e; have := b3; omega))
          refine hK.out _ _ (SK.out _ bw10) (fun hHeld => ?_)
          clear hK K
          (try dsimp only [Act.put]); (try simp only [Act.put, List.setIfInBounds_toArray, List.set_cons_zero, List.set_cons_succ])
          refine wpAnyH_ready (rs := [17]) (by kernel_rfl) (by simp) ?_
          refine AllReadyH.cons rfl (fun K hK => ?_) (AllReadyH.nil)
          refine wp_append_own2 W10 _ _ 87 rfl w.heap.size 91 iT (.agg (rthC rth0).toArray) 11 88 Try.underlying87 hizT hzzT hszT hbzT rfl (by decide) (.slice (some ⟨B9, 0, none⟩) 0 0) 0 [] rfl (by simpa using r10T) ⟨p.T, 0, none⟩ lT _ NT rfl HLT.out (fun j u hj => HCT.out _ bw10 j u hj) H1T.out (by unfold maxLen; omega) (by omega) bw10.size (by omega) ?_
          intro g11 cap11 W11 hr11 hg11 ho11
          have kp11 : Keep (fun b => b = B9) W10 W11 := ⟨hg11.os, hg11.tape, hg11.output, hg11.size, fun b hb hn => hg11.block b hb (fun e => hn (by simpa [Value.ownBlock] using e))⟩
          replace hr11 := (show W11.ownsRow w.heap.size 91 11 (.slice (some ⟨g11, 0, none⟩) lT cap11) lT NT from by simpa using hr11)
          have hq11 : g11 = B9 ∨ W10.heap.size ≤ g11 := by rcases ho11 with h | h; exact .inl (by simpa [Value.ownBlock, eq_comm] using h); exact .inr h
          have lt11 : g11 < W11.heap.size := (row_lt hr11 rfl).1
          have lo11 : w.heap.size ≤ g11 := by have := b9; have := bw10.size; omega
          have r11W := row_ownkeep r10W kp11 (fun b hb e => by have e2 : g2 = b := (by simpa [Value.ownBlock] using hb); exact (n9W) (e2.trans e))
          have n11W : g2 ≠ g11 := by have := l10W; have := n9W; omega
          have l11W : g2 < W11.heap.size := by have := l10W; have := hg11.size; omega
          have r11D := row_ownkeep hr10 kp11 (fun b hb e => by have e2 : g10 = b := (by simpa [Value.ownBlock] using hb); exact (n10T.symm) (e2.trans e))
          have n11D : g10 ≠ g11 := by have := lt10; have := n10T.symm; omega
          have l11D : g10 < W11.heap.size := by have := lt10; have := hg11.size; omega
          have bw11 := bw10.trans (kp11.below bw10.size (fun b _ e => by have e2 : b = B9 := e; have := b9; omega))
          refine hK.out _ _ (SK.out _ bw11) (fun hHeld => ?_)
          clear hK K
          (try dsimp only [Act.put]); (try simp only [Act.put, List.setIfInBounds_toArray, List.set_cons_zero, List.set_cons_succ])
          refine wpAnyH_take (i := 22) (oi := { dst := some 25, op := Op.build 89 #[(0, Operand.tmp 8), (1, Operand.tmp 14), (2, Operand.tmp 20), (3, Operand.tmp 24)], type := 89, pos := "kit.go:9", after := #[{ on := 5, ground := Ground.data }, { on := 11, ground := Ground.data }, { on := 17, ground := Ground.data }, { on := 21, ground := Ground.data }], guard := none }) (v := ?_) rfl (by kernel_rfl) (by kernel_rfl) (by kernel_rfl) (fun _ _ _ h => h) (Or.inl ⟨by rfl, ?_⟩) (by assumption) ?_
          rotate_left
          · intro w hSw; (try dsimp only at hSw); go_simp; try with_reducible rfl
          (try simp only [Act.put, List.setIfInBounds_toArray, List.set_cons_zero, List.set_cons_succ])
          refine wpAnyH_ready (rs := [23]) (by kernel_rfl) (by simp) ?_
          refine AllReadyH.cons rfl (fun K hK => ?_) (AllReadyH.nil)
          go_simp
          have hP12 := Blk.new W11 89 #[.slice (some ⟨g2, 0, none⟩) lW cap2, .slice (some ⟨g10, 0, none⟩) lD cap10, .slice (some ⟨g11, 0, none⟩) lT cap11, .int .i64 rel]
          have bw12 : Below w.heap.size w (W11.alloc (.cells #[.slice (some ⟨g2, 0, none⟩) lW cap2, .slice (some ⟨g10, 0, none⟩) lD cap10, .slice (some ⟨g11, 0, none⟩) lT cap11, .int .i64 rel] 89)) := bw11.alloc bw11.size _
          have HZ12 := Lib.hid (copy_fit HNs.out r11W r11D hr11 HEW.out HED.out HET.out HRel.out (n10W) hP12 (lo2) (lo10) (lo11) bw11.size bw12)
          refine hK.out _ _ (SK.out _ bw12) (fun hHeld => ?_)
          clear hK K
          (try dsimp only [Act.put]); (try simp only [Act.put, List.setIfInBounds_toArray, List.set_cons_zero, List.set_cons_succ])
          refine wpAnyH_ready (rs := [24]) (by kernel_rfl) (by simp) ?_
          refine AllReadyH.cons rfl (fun K hK => ?_) (AllReadyH.nil)
          go_simp
          refine hK.out _ _ (by assumption) (fun hHeld => ?_)
          clear hK K
          (try dsimp only [Act.put]); (try simp only [Act.put, List.setIfInBounds_toArray, List.set_cons_zero, List.set_cons_succ])
          refine wpAnyH_done (by kernel_rfl) ?_ _
          go_wp2_with fail
          go_ret
          exact HZ12.out
      · go_simp
        have ba14 : Below W2.heap.size W2 (W2.alloc (.cells #[] 91)) := (Below.refl _ _).alloc (Nat.le_refl _) _
        have r14 := World.ownsRow_lit (base := w.heap.size) (e := 91) (size := 11) W2 #[] 0 bw2.size (by unfold maxLen; omega) rfl
        have g14 : W2.heap.size < (W2.alloc (.cells #[] 91)).heap.size := by rw [World.size_alloc]; omega
        have r14W := row_ownkeep hr2 (Keep.ofBelow (Q := fun _ => False) ba14) (fun _ _ h => h)
        have n14W : g2 ≠ W2.heap.size := by have := lt2; omega
        have l14W : g2 < (W2.alloc (.cells #[] 91)).heap.size := by rw [World.size_alloc]; have := lt2; omega
        have b14 : w.heap.size ≤ W2.heap.size := bw2.size
        have bw14 := bw2.trans (ba14.mono bw2.size)
        generalize hW14 : World.alloc _ _ = W14 at *
        generalize hB14 : W2.heap.size = B14 at *
        clear hW14
        refine hK.out _ _ (SK.out _ bw14) (fun hHeld => ?_)
        clear hK K
        (try dsimp only [Act.put]); (try simp only [Act.put, List.setIfInBounds_toArray, List.set_cons_zero, List.set_cons_succ])
        refine wpAnyH_ready (rs := [6]) (by kernel_rfl) (by simp) ?_
        refine AllReadyH.cons rfl (fun K hK => ?_) (AllReadyH.nil)
        go_simp
        have ba15 : Below W14.heap.size W14 (W14.alloc (.cells #[] 3)) := (Below.refl _ _).alloc (Nat.le_refl _) _
        have r15 := World.ownsRow_lit (base := w.heap.size) (e := 3) (size := 1) W14 #[] 0 bw14.size (by unfold maxLen; omega) rfl
        have g15 : W14.heap.size < (W14.alloc (.cells #[] 3)).heap.size := by rw [World.size_alloc]; omega
        have r15W := row_ownkeep r14W (Keep.ofBelow (Q := fun _ => False) ba15) (fun _ _ h => h)
        have n15W : g2 ≠ W14.heap.size := by have := l14W; omega
        have l15W : g2 < (W14.alloc (.cells #[] 3)).heap.size := by rw [World.size_alloc]; have := l14W; omega
        have r15T := row_ownkeep r14 (Keep.ofBelow (Q := fun _ => False) ba15) (fun _ _ h => h)
        have n15T : B14 ≠ W14.heap.size := by have := g14; omega
        have l15T : B14 < (W14.alloc (.cells #[] 3)).heap.size := by rw [World.size_alloc]; have := g14; omega
        have b15 : w.heap.size ≤ W14.heap.size := bw14.size
        have bw15 := bw14.trans (ba15.mono bw14.size)
        generalize hW15 : World.alloc _ _ = W15 at *
        generalize hB15 : W14.heap.size = B15 at *
        clear hW15
        refine hK.out _ _ (SK.out _ bw15) (fun hHeld => ?_)
        clear hK K
        (try dsimp only [Act.put]); (try simp only [Act.put, List.setIfInBounds_toArray, List.set_cons_zero, List.set_cons_succ])
        refine wpAnyH_ready (rs := [11]) (by kernel_rfl) (by simp) ?_
        refine AllReadyH.cons rfl (fun K hK => ?_) (AllReadyH.nil)
        refine wp_append_own2 W15 _ _ 30 rfl w.heap.size 3 iW (.int .i64 0) 1 8 Try.underlying30 hizW hzzW hszW hbzW rfl (by decide) (.slice (some ⟨B15, 0, none⟩) 0 0) 0 [] rfl (by simpa using r15) ⟨p.D, 0, none⟩ lD _ ND rfl HLD.out (fun j u hj => HCD.out _ bw15 j u hj) H1D.out (by unfold maxLen; omega) (by omega) bw15.size (by omega) ?_
        intro g16 cap16 W16 hr16 hg16 ho16
        have kp16 : Keep (fun b => b = B15) W15 W16 := ⟨hg16.os, hg16.tape, hg16.output, hg16.size, fun b hb hn => hg16.block b hb (fun e => hn (by simpa [Value.ownBlock] using e))⟩
        replace hr16 := (show W16.ownsRow w.heap.size 3 1 (.slice (some ⟨g16, 0, none⟩) lD cap16) lD ND from by simpa using hr16)
        have hq16 : g16 = B15 ∨ W15.heap.size ≤ g16 := by rcases ho16 with h | h; exact .inl (by simpa [Value.ownBlock, eq_comm] using h); exact .inr h
        have lt16 : g16 < W16.heap.size := (row_lt hr16 rfl).1
        have lo16 : w.heap.size ≤ g16 := by have := b15; have := bw15.size; omega
        have r16W := row_ownkeep r15W kp16 (fun b hb e => by have e2 : g2 = b := (by simpa [Value.ownBlock] using hb); exact (n15W) (e2.trans e))
        have n16W : g2 ≠ g16 := by have := l15W; have := n15W; omega
        have l16W : g2 < W16.heap.size := by have := l15W; have := hg16.size; omega
        have r16T := row_ownkeep r15T kp16 (fun b hb e => by have e2 : B14 = b := (by simpa [Value.ownBlock] using hb); exact (n15T) (e2.trans e))
        have n16T : B14 ≠ g16 := by have := l15T; have := n15T; omega
        have l16T : B14 < W16.heap.size := by have := l15T; have := hg16.size; omega
        have bw16 := bw15.trans (kp16.below bw15.size (fun b _ e => by have e2 : b = B15 := e; have := b15; omega))
        refine hK.out _ _ (SK.out _ bw16) (fun hHeld => ?_)
        clear hK K
        (try dsimp only [Act.put]); (try simp only [Act.put, List.setIfInBounds_toArray, List.set_cons_zero, List.set_cons_succ])
        refine wpAnyH_ready (rs := [17]) (by kernel_rfl) (by simp) ?_
        refine AllReadyH.cons rfl (fun K hK => ?_) (AllReadyH.nil)
        refine wp_append_own2 W16 _ _ 87 rfl w.heap.size 91 iT (.agg (rthC rth0).toArray) 11 88 Try.underlying87 hizT hzzT hszT hbzT rfl (by decide) (.slice (some ⟨B14, 0, none⟩) 0 0) 0 [] rfl (by simpa using r16T) ⟨p.T, 0, none⟩ lT _ NT rfl HLT.out (fun j u hj => HCT.out _ bw16 j u hj) H1T.out (by unfold maxLen; omega) (by omega) bw16.size (by omega) ?_
        intro g17 cap17 W17 hr17 hg17 ho17
        have kp17 : Keep (fun b => b = B14) W16 W17 := ⟨hg17.os, hg17.tape, hg17.output, hg17.size, fun b hb hn => hg17.block b hb (fun e => hn (by simpa [Value.ownBlock] using e))⟩
        replace hr17 := (show W17.ownsRow w.heap.size 91 11 (.slice (some ⟨g17, 0, none⟩) lT cap17) lT NT from by simpa using hr17)
        have hq17 : g17 = B14 ∨ W16.heap.size ≤ g17 := by rcases ho17 with h | h; exact .inl (by simpa [Value.ownBlock, eq_comm] using h); exact .inr h
        have lt17 : g17 < W17.heap.size := (row_lt hr17 rfl).1
        have lo17 : w.heap.size ≤ g17 := by have := b14; have := bw16.size; omega
        have r17W := row_ownkeep r16W kp17 (fun b hb e => by have e2 : g2 = b := (by simpa [Value.ownBlock] using hb); exact (n14W) (e2.trans e))
        have n17W : g2 ≠ g17 := by have := l16W; have := n14W; omega
        have l17W : g2 < W17.heap.size := by have := l16W; have := hg17.size; omega
        have r17D := row_ownkeep hr16 kp17 (fun b hb e => by have e2 : g16 = b := (by simpa [Value.ownBlock] using hb); exact (n16T.symm) (e2.trans e))
        have n17D : g16 ≠ g17 := by have := lt16; have := n16T.symm; omega
        have l17D : g16 < W17.heap.size := by have := lt16; have := hg17.size; omega
        have bw17 := bw16.trans (kp17.below bw16.size (fun b _ e => by have e2 : b = B14 := e; have := b14; omega))
        refine hK.out _ _ (SK.out _ bw17) (fun hHeld => ?_)
        clear hK K
        (try dsimp only [Act.put]); (try simp only [Act.put, List.setIfInBounds_toArray, List.set_cons_zero, List.set_cons_succ])
        refine wpAnyH_take (i := 22) (oi := { dst := some 25, op := Op.build 89 #[(0, Operand.tmp 8), (1, Operand.tmp 14), (2, Operand.tmp 20), (3, Operand.tmp 24)], type := 89, pos := "kit.go:9", after := #[{ on := 5, ground := Ground.data }, { on := 11, ground := Ground.data }, { on := 17, ground := Ground.data }, { on := 21, ground := Ground.data }], guard := none }) (v := ?_) rfl (by kernel_rfl) (by kernel_rfl) (by kernel_rfl) (fun _ _ _ h => h) (Or.inl ⟨by rfl, ?_⟩) (by assumption) ?_
        rotate_left
        · intro w hSw; (try dsimp only at hSw); go_simp; try with_reducible rfl
        (try simp only [Act.put, List.setIfInBounds_toArray, List.set_cons_zero, List.set_cons_succ])
        refine wpAnyH_ready (rs := [23]) (by kernel_rfl) (by simp) ?_
        refine AllReadyH.cons rfl (fun K hK => ?_) (AllReadyH.nil)
        go_simp
        have hP18 := Blk.new W17 89 #[.slice (some ⟨g2, 0, none⟩) lW cap2, .slice (some ⟨g16, 0, none⟩) lD cap16, .slice (some ⟨g17, 0, none⟩) lT cap17, .int .i64 rel]
        have bw18 : Below w.heap.size w (W17.alloc (.cells #[.slice (some ⟨g2, 0, none⟩) lW cap2, .slice (some ⟨g16, 0, none⟩) lD cap16, .slice (some ⟨g17, 0, none⟩) lT cap17, .int .i64 rel] 89)) := bw17.alloc bw17.size _
        have HZ18 := Lib.hid (copy_fit HNs.out r17W r17D hr17 HEW.out HED.out HET.out HRel.out (n16W) hP18 (lo2) (lo16) (lo17) bw17.size bw18)
        refine hK.out _ _ (SK.out _ bw18) (fun hHeld => ?_)
        clear hK K
        (try dsimp only [Act.put]); (try simp only [Act.put, List.setIfInBounds_toArray, List.set_cons_zero, List.set_cons_succ])
        refine wpAnyH_ready (rs := [24]) (by kernel_rfl) (by simp) ?_
        refine AllReadyH.cons rfl (fun K hK => ?_) (AllReadyH.nil)
        go_simp
        refine hK.out _ _ (by assumption) (fun hHeld => ?_)
        clear hK K
        (try dsimp only [Act.put]); (try simp only [Act.put, List.setIfInBounds_toArray, List.set_cons_zero, List.set_cons_succ])
        refine wpAnyH_done (by kernel_rfl) ?_ _
        go_wp2_with fail
        go_ret
        exact HZ18.out
    · go_simp
      have ba20 : Below W1.heap.size W1 (W1.alloc (.cells #[] 3)) := (Below.refl _ _).alloc (Nat.le_refl _) _
      have r20 := World.ownsRow_lit (base := w.heap.size) (e := 3) (size := 1) W1 #[] 0 bw1.size (by unfold maxLen; omega) rfl
      have g20 : W1.heap.size < (W1.alloc (.cells #[] 3)).heap.size := by rw [World.size_alloc]; omega
      have r20W := row_ownkeep r1 (Keep.ofBelow (Q := fun _ => False) ba20) (fun _ _ h => h)
      have n20W : B1 ≠ W1.heap.size := by have := g1; omega
      have l20W : B1 < (W1.alloc (.cells #[] 3)).heap.size := by rw [World.size_alloc]; have := g1; omega
      have b20 : w.heap.size ≤ W1.heap.size := bw1.size
      have bw20 := bw1.trans (ba20.mono bw1.size)
      generalize hW20 : World.alloc _ _ = W20 at *
      generalize hB20 : W1.heap.size = B20 at *
      clear hW20
      refine hK.out _ _ (SK.out _ bw20) (fun hHeld => ?_)
      clear hK K
      (try dsimp only [Act.put]); (try simp only [Act.put, List.setIfInBounds_toArray, List.set_cons_zero, List.set_cons_succ])
      refine wpAnyH_ready (rs := [5, 12]) (by kernel_rfl) (by simp) ?_
      refine AllReadyH.cons rfl (fun K hK => ?_) (AllReadyH.cons rfl (fun K hK => ?_) (AllReadyH.nil))
      · refine wp_append_own2 W20 _ _ 30 rfl w.heap.size 3 iW (.int .i64 0) 1 8 Try.underlying30 hizW hzzW hszW hbzW rfl (by decide) (.slice (some ⟨B1, 0, none⟩) 0 0) 0 [] rfl (by simpa using r20W) ⟨p.W, 0, none⟩ lW _ NW rfl HLW.out (fun j u hj => HCW.out _ bw20 j u hj) H1W.out (by unfold maxLen; omega) (by omega) bw20.size (by omega) ?_
        intro g21 cap21 W21 hr21 hg21 ho21
        have kp21 : Keep (fun b => b = B1) W20 W21 := ⟨hg21.os, hg21.tape, hg21.output, hg21.size, fun b hb hn => hg21.block b hb (fun e => hn (by simpa [Value.ownBlock] using e))⟩
        replace hr21 := (show W21.ownsRow w.heap.size 3 1 (.slice (some ⟨g21, 0, none⟩) lW cap21) lW NW from by simpa using hr21)
        have hq21 : g21 = B1 ∨ W20.heap.size ≤ g21 := by rcases ho21 with h | h; exact .inl (by simpa [Value.ownBlock, eq_comm] using h); exact .inr h
        have lt21 : g21 < W21.heap.size := (row_lt hr21 rfl).1
        have lo21 : w.heap.size ≤ g21 := by have := b1; have := bw20.size; omega
        have r21D := row_ownkeep r20 kp21 (fun b hb e => by have e2 : B20 = b := (by simpa [Value.ownBlock] using hb); exact (n20W.symm) (e2.trans e))
        have n21D : B20 ≠ g21 := by have := g20; have := n20W.symm; omega
        have l21D : B20 < W21.heap.size := by have := g20; have := hg21.size; omega
        have bw21 := bw20.trans (kp21.below bw20.size (fun b _ e => by have e2 : b = B1 := e; have := b1; omega))
        refine hK.out _ _ (SK.out _ bw21) (fun hHeld => ?_)
        clear hK K
        (try dsimp only [Act.put]); (try simp only [Act.put, List.setIfInBounds_toArray, List.set_cons_zero, List.set_cons_succ])
        refine wpAnyH_ready (rs := [11, 12]) (by kernel_rfl) (by simp) ?_
        refine AllReadyH.cons rfl (fun K hK => ?_) (AllReadyH.cons rfl (fun K hK => ?_) (AllReadyH.nil))
        · refine wp_append_own2 W21 _ _ 30 rfl w.heap.size 3 iW (.int .i64 0) 1 8 Try.underlying30 hizW hzzW hszW hbzW rfl (by decide) (.slice (some ⟨B20, 0, none⟩) 0 0) 0 [] rfl (by simpa using r21D) ⟨p.D, 0, none⟩ lD _ ND rfl HLD.out (fun j u hj => HCD.out _ bw21 j u hj) H1D.out (by unfold maxLen; omega) (by omega) bw21.size (by omega) ?_
          intro g22 cap22 W22 hr22 hg22 ho22
          have kp22 : Keep (fun b => b = B20) W21 W22 := ⟨hg22.os, hg22.tape, hg22.output, hg22.size, fun b hb hn => hg22.block b hb (fun e => hn (by simpa [Value.ownBlock] using e))⟩
          replace hr22 := (show W22.ownsRow w.heap.size 3 1 (.slice (some ⟨g22, 0, none⟩) lD cap22) lD ND from by simpa using hr22)
          have hq22 : g22 = B20 ∨ W21.heap.size ≤ g22 := by rcases ho22 with h | h; exact .inl (by simpa [Value.ownBlock, eq_comm] using h); exact .inr h
          have lt22 : g22 < W22.heap.size := (row_lt hr22 rfl).1
          have lo22 : w.heap.size ≤ g22 := by have := b20; have := bw21.size; omega
          have r22W := row_ownkeep hr21 kp22 (fun b hb e => by have e2 : g21 = b := (by simpa [Value.ownBlock] using hb); exact (n21D.symm) (e2.trans e))
          have n22W : g21 ≠ g22 := by have := lt21; have := n21D.symm; omega
          have l22W : g21 < W22.heap.size := by have := lt21; have := hg22.size; omega
          have bw22 := bw21.trans (kp22.below bw21.size (fun b _ e => by have e2 : b = B20 := e; have := b20; omega))
          refine hK.out _ _ (SK.out _ bw22) (fun hHeld => ?_)
          clear hK K
          (try dsimp only [Act.put]); (try simp only [Act.put, List.setIfInBounds_toArray, List.set_cons_zero, List.set_cons_succ])
          refine wpAnyH_ready (rs := [12]) (by kernel_rfl) (by simp) ?_
          refine AllReadyH.cons rfl (fun K hK => ?_) (AllReadyH.nil)
          go_simp
          have ba23 : Below W22.heap.size W22 (W22.alloc (.cells #[] 91)) := (Below.refl _ _).alloc (Nat.le_refl _) _
          have r23 := World.ownsRow_lit (base := w.heap.size) (e := 91) (size := 11) W22 #[] 0 bw22.size (by unfold maxLen; omega) rfl
          have g23 : W22.heap.size < (W22.alloc (.cells #[] 91)).heap.size := by rw [World.size_alloc]; omega
          have r23W := row_ownkeep r22W (Keep.ofBelow (Q := fun _ => False) ba23) (fun _ _ h => h)
          have n23W : g21 ≠ W22.heap.size := by have := l22W; omega
          have l23W : g21 < (W22.alloc (.cells #[] 91)).heap.size := by rw [World.size_alloc]; have := l22W; omega
          have r23D := row_ownkeep hr22 (Keep.ofBelow (Q := fun _ => False) ba23) (fun _ _ h => h)
          have n23D : g22 ≠ W22.heap.size := by have := lt22; omega
          have l23D : g22 < (W22.alloc (.cells #[] 91)).heap.size := by rw [World.size_alloc]; have := lt22; omega
          have b23 : w.heap.size ≤ W22.heap.size := bw22.size
          have bw23 := bw22.trans (ba23.mono bw22.size)
          generalize hW23 : World.alloc _ _ = W23 at *
          generalize hB23 : W22.heap.size = B23 at *
          clear hW23
          refine hK.out _ _ (SK.out _ bw23) (fun hHeld => ?_)
          clear hK K
          (try dsimp only [Act.put]); (try simp only [Act.put, List.setIfInBounds_toArray, List.set_cons_zero, List.set_cons_succ])
          refine wpAnyH_ready (rs := [17]) (by kernel_rfl) (by simp) ?_
          refine AllReadyH.cons rfl (fun K hK => ?_) (AllReadyH.nil)
          refine wp_append_own2 W23 _ _ 87 rfl w.heap.size 91 iT (.agg (rthC rth0).toArray) 11 88 Try.underlying87 hizT hzzT hszT hbzT rfl (by decide) (.slice (some ⟨B23, 0, none⟩) 0 0) 0 [] rfl (by simpa using r23) ⟨p.T, 0, none⟩ lT _ NT rfl HLT.out (fun j u hj => HCT.out _ bw23 j u hj) H1T.out (by unfold maxLen; omega) (by omega) bw23.size (by omega) ?_
          intro g24 cap24 W24 hr24 hg24 ho24
          have kp24 : Keep (fun b => b = B23) W23 W24 := ⟨hg24.os, hg24.tape, hg24.output, hg24.size, fun b hb hn => hg24.block b hb (fun e => hn (by simpa [Value.ownBlock] using e))⟩
          replace hr24 := (show W24.ownsRow w.heap.size 91 11 (.slice (some ⟨g24, 0, none⟩) lT cap24) lT NT from by simpa using hr24)
          have hq24 : g24 = B23 ∨ W23.heap.size ≤ g24 := by rcases ho24 with h | h; exact .inl (by simpa [Value.ownBlock, eq_comm] using h); exact .inr h
          have lt24 : g24 < W24.heap.size := (row_lt hr24 rfl).1
          have lo24 : w.heap.size ≤ g24 := by have := b23; have := bw23.size; omega
          have r24W := row_ownkeep r23W kp24 (fun b hb e => by have e2 : g21 = b := (by simpa [Value.ownBlock] using hb); exact (n23W) (e2.trans e))
          have n24W : g21 ≠ g24 := by have := l23W; have := n23W; omega
          have l24W : g21 < W24.heap.size := by have := l23W; have := hg24.size; omega
          have r24D := row_ownkeep r23D kp24 (fun b hb e => by have e2 : g22 = b := (by simpa [Value.ownBlock] using hb); exact (n23D) (e2.trans e))
          have n24D : g22 ≠ g24 := by have := l23D; have := n23D; omega
          have l24D : g22 < W24.heap.size := by have := l23D; have := hg24.size; omega
          have bw24 := bw23.trans (kp24.below bw23.size (fun b _ e => by have e2 : b = B23 := e; have := b23; omega))
          refine hK.out _ _ (SK.out _ bw24) (fun hHeld => ?_)
          clear hK K
          (try dsimp only [Act.put]); (try simp only [Act.put, List.setIfInBounds_toArray, List.set_cons_zero, List.set_cons_succ])
          refine wpAnyH_take (i := 22) (oi := { dst := some 25, op := Op.build 89 #[(0, Operand.tmp 8), (1, Operand.tmp 14), (2, Operand.tmp 20), (3, Operand.tmp 24)], type := 89, pos := "kit.go:9", after := #[{ on := 5, ground := Ground.data }, { on := 11, ground := Ground.data }, { on := 17, ground := Ground.data }, { on := 21, ground := Ground.data }], guard := none }) (v := ?_) rfl (by kernel_rfl) (by kernel_rfl) (by kernel_rfl) (fun _ _ _ h => h) (Or.inl ⟨by rfl, ?_⟩) (by assumption) ?_
          rotate_left
          · intro w hSw; (try dsimp only at hSw); go_simp; try with_reducible rfl
          (try simp only [Act.put, List.setIfInBounds_toArray, List.set_cons_zero, List.set_cons_succ])
          refine wpAnyH_ready (rs := [23]) (by kernel_rfl) (by simp) ?_
          refine AllReadyH.cons rfl (fun K hK => ?_) (AllReadyH.nil)
          go_simp
          have hP25 := Blk.new W24 89 #[.slice (some ⟨g21, 0, none⟩) lW cap21, .slice (some ⟨g22, 0, none⟩) lD cap22, .slice (some ⟨g24, 0, none⟩) lT cap24, .int .i64 rel]
          have bw25 : Below w.heap.size w (W24.alloc (.cells #[.slice (some ⟨g21, 0, none⟩) lW cap21, .slice (some ⟨g22, 0, none⟩) lD cap22, .slice (some ⟨g24, 0, none⟩) lT cap24, .int .i64 rel] 89)) := bw24.alloc bw24.size _
          have HZ25 := Lib.hid (copy_fit HNs.out r24W r24D hr24 HEW.out HED.out HET.out HRel.out (n22W) hP25 (lo21) (lo22) (lo24) bw24.size bw25)
          refine hK.out _ _ (SK.out _ bw25) (fun hHeld => ?_)
          clear hK K
          (try dsimp only [Act.put]); (try simp only [Act.put, List.setIfInBounds_toArray, List.set_cons_zero, List.set_cons_succ])
          refine wpAnyH_ready (rs := [24]) (by kernel_rfl) (by simp) ?_
          refine AllReadyH.cons rfl (fun K hK => ?_) (AllReadyH.nil)
          go_simp
          refine hK.out _ _ (by assumption) (fun hHeld => ?_)
          clear hK K
          (try dsimp only [Act.put]); (try simp only [Act.put, List.setIfInBounds_toArray, List.set_cons_zero, List.set_cons_succ])
          refine wpAnyH_done (by kernel_rfl) ?_ _
          go_wp2_with fail
          go_ret
          exact HZ25.out
        · go_simp
          have ba27 : Below W21.heap.size W21 (W21.alloc (.cells #[] 91)) := (Below.refl _ _).alloc (Nat.le_refl _) _
          have r27 := World.ownsRow_lit (base := w.heap.size) (e := 91) (size := 11) W21 #[] 0 bw21.size (by unfold maxLen; omega) rfl
          have g27 : W21.heap.size < (W21.alloc (.cells #[] 91)).heap.size := by rw [World.size_alloc]; omega
          have r27W := row_ownkeep hr21 (Keep.ofBelow (Q := fun _ => False) ba27) (fun _ _ h => h)
          have n27W : g21 ≠ W21.heap.size := by have := lt21; omega
          have l27W : g21 < (W21.alloc (.cells #[] 91)).heap.size := by rw [World.size_alloc]; have := lt21; omega
          have r27D := row_ownkeep r21D (Keep.ofBelow (Q := fun _ => False) ba27) (fun _ _ h => h)
          have n27D : B20 ≠ W21.heap.size := by have := l21D; omega
          have l27D : B20 < (W21.alloc (.cells #[] 91)).heap.size := by rw [World.size_alloc]; have := l21D; omega
          have b27 : w.heap.size ≤ W21.heap.size := bw21.size
          have bw27 := bw21.trans (ba27.mono bw21.size)
          generalize hW27 : World.alloc _ _ = W27 at *
          generalize hB27 : W21.heap.size = B27 at *
          clear hW27
          refine hK.out _ _ (SK.out _ bw27) (fun hHeld => ?_)
          clear hK K
          (try dsimp only [Act.put]); (try simp only [Act.put, List.setIfInBounds_toArray, List.set_cons_zero, List.set_cons_succ])
          refine wpAnyH_ready (rs := [11]) (by kernel_rfl) (by simp) ?_
          refine AllReadyH.cons rfl (fun K hK => ?_) (AllReadyH.nil)
          refine wp_append_own2 W27 _ _ 30 rfl w.heap.size 3 iW (.int .i64 0) 1 8 Try.underlying30 hizW hzzW hszW hbzW rfl (by decide) (.slice (some ⟨B20, 0, none⟩) 0 0) 0 [] rfl (by simpa using r27D) ⟨p.D, 0, none⟩ lD _ ND rfl HLD.out (fun j u hj => HCD.out _ bw27 j u hj) H1D.out (by unfold maxLen; omega) (by omega) bw27.size (by omega) ?_
          intro g28 cap28 W28 hr28 hg28 ho28
          have kp28 : Keep (fun b => b = B20) W27 W28 := ⟨hg28.os, hg28.tape, hg28.output, hg28.size, fun b hb hn => hg28.block b hb (fun e => hn (by simpa [Value.ownBlock] using e))⟩
          replace hr28 := (show W28.ownsRow w.heap.size 3 1 (.slice (some ⟨g28, 0, none⟩) lD cap28) lD ND from by simpa using hr28)
          have hq28 : g28 = B20 ∨ W27.heap.size ≤ g28 := by rcases ho28 with h | h; exact .inl (by simpa [Value.ownBlock, eq_comm] using h); exact .inr h
          have lt28 : g28 < W28.heap.size := (row_lt hr28 rfl).1
          have lo28 : w.heap.size ≤ g28 := by have := b20; have := bw27.size; omega
          have r28W := row_ownkeep r27W kp28 (fun b hb e => by have e2 : g21 = b := (by simpa [Value.ownBlock] using hb); exact (n21D.symm) (e2.trans e))
          have n28W : g21 ≠ g28 := by have := l27W; have := n21D.symm; omega
          have l28W : g21 < W28.heap.size := by have := l27W; have := hg28.size; omega
          have r28T := row_ownkeep r27 kp28 (fun b hb e => by have e2 : B27 = b := (by simpa [Value.ownBlock] using hb); exact (n27D.symm) (e2.trans e))
          have n28T : B27 ≠ g28 := by have := g27; have := n27D.symm; omega
          have l28T : B27 < W28.heap.size := by have := g27; have := hg28.size; omega
          have bw28 := bw27.trans (kp28.below bw27.size (fun b _ e => by have e2 : b = B20 := e; have := b20; omega))
          refine hK.out _ _ (SK.out _ bw28) (fun hHeld => ?_)
          clear hK K
          (try dsimp only [Act.put]); (try simp only [Act.put, List.setIfInBounds_toArray, List.set_cons_zero, List.set_cons_succ])
          refine wpAnyH_ready (rs := [17]) (by kernel_rfl) (by simp) ?_
          refine AllReadyH.cons rfl (fun K hK => ?_) (AllReadyH.nil)
          refine wp_append_own2 W28 _ _ 87 rfl w.heap.size 91 iT (.agg (rthC rth0).toArray) 11 88 Try.underlying87 hizT hzzT hszT hbzT rfl (by decide) (.slice (some ⟨B27, 0, none⟩) 0 0) 0 [] rfl (by simpa using r28T) ⟨p.T, 0, none⟩ lT _ NT rfl HLT.out (fun j u hj => HCT.out _ bw28 j u hj) H1T.out (by unfold maxLen; omega) (by omega) bw28.size (by omega) ?_
          intro g29 cap29 W29 hr29 hg29 ho29
          have kp29 : Keep (fun b => b = B27) W28 W29 := ⟨hg29.os, hg29.tape, hg29.output, hg29.size, fun b hb hn => hg29.block b hb (fun e => hn (by simpa [Value.ownBlock] using e))⟩
          replace hr29 := (show W29.ownsRow w.heap.size 91 11 (.slice (some ⟨g29, 0, none⟩) lT cap29) lT NT from by simpa using hr29)
          have hq29 : g29 = B27 ∨ W28.heap.size ≤ g29 := by rcases ho29 with h | h; exact .inl (by simpa [Value.ownBlock, eq_comm] using h); exact .inr h
          have lt29 : g29 < W29.heap.size := (row_lt hr29 rfl).1
          have lo29 : w.heap.size ≤ g29 := by have := b27; have := bw28.size; omega
          have r29W := row_ownkeep r28W kp29 (fun b hb e => by have e2 : g21 = b := (by simpa [Value.ownBlock] using hb); exact (n27W) (e2.trans e))
          have n29W : g21 ≠ g29 := by have := l28W; have := n27W; omega
          have l29W : g21 < W29.heap.size := by have := l28W; have := hg29.size; omega
          have r29D := row_ownkeep hr28 kp29 (fun b hb e => by have e2 : g28 = b := (by simpa [Value.ownBlock] using hb); exact (n28T.symm) (e2.trans e))
          have n29D : g28 ≠ g29 := by have := lt28; have := n28T.symm; omega
          have l29D : g28 < W29.heap.size := by have := lt28; have := hg29.size; omega
          have bw29 := bw28.trans (kp29.below bw28.size (fun b _ e => by have e2 : b = B27 := e; have := b27; omega))
          refine hK.out _ _ (SK.out _ bw29) (fun hHeld => ?_)
          clear hK K
          (try dsimp only [Act.put]); (try simp only [Act.put, List.setIfInBounds_toArray, List.set_cons_zero, List.set_cons_succ])
          refine wpAnyH_take (i := 22) (oi := { dst := some 25, op := Op.build 89 #[(0, Operand.tmp 8), (1, Operand.tmp 14), (2, Operand.tmp 20), (3, Operand.tmp 24)], type := 89, pos := "kit.go:9", after := #[{ on := 5, ground := Ground.data }, { on := 11, ground := Ground.data }, { on := 17, ground := Ground.data }, { on := 21, ground := Ground.data }], guard := none }) (v := ?_) rfl (by kernel_rfl) (by kernel_rfl) (by kernel_rfl) (fun _ _ _ h => h) (Or.inl ⟨by rfl, ?_⟩) (by assumption) ?_
          rotate_left
          · intro w hSw; (try dsimp only at hSw); go_simp; try with_reducible rfl
          (try simp only [Act.put, List.setIfInBounds_toArray, List.set_cons_zero, List.set_cons_succ])
          refine wpAnyH_ready (rs := [23]) (by kernel_rfl) (by simp) ?_
          refine AllReadyH.cons rfl (fun K hK => ?_) (AllReadyH.nil)
          go_simp
          have hP30 := Blk.new W29 89 #[.slice (some ⟨g21, 0, none⟩) lW cap21, .slice (some ⟨g28, 0, none⟩) lD cap28, .slice (some ⟨g29, 0, none⟩) lT cap29, .int .i64 rel]
          have bw30 : Below w.heap.size w (W29.alloc (.cells #[.slice (some ⟨g21, 0, none⟩) lW cap21, .slice (some ⟨g28, 0, none⟩) lD cap28, .slice (some ⟨g29, 0, none⟩) lT cap29, .int .i64 rel] 89)) := bw29.alloc bw29.size _
          have HZ30 := Lib.hid (copy_fit HNs.out r29W r29D hr29 HEW.out HED.out HET.out HRel.out (n28W) hP30 (lo21) (lo28) (lo29) bw29.size bw30)
          refine hK.out _ _ (SK.out _ bw30) (fun hHeld => ?_)
          clear hK K
          (try dsimp only [Act.put]); (try simp only [Act.put, List.setIfInBounds_toArray, List.set_cons_zero, List.set_cons_succ])
          refine wpAnyH_ready (rs := [24]) (by kernel_rfl) (by simp) ?_
          refine AllReadyH.cons rfl (fun K hK => ?_) (AllReadyH.nil)
          go_simp
          refine hK.out _ _ (by assumption) (fun hHeld => ?_)
          clear hK K
          (try dsimp only [Act.put]); (try simp only [Act.put, List.setIfInBounds_toArray, List.set_cons_zero, List.set_cons_succ])
          refine wpAnyH_done (by kernel_rfl) ?_ _
          go_wp2_with fail
          go_ret
          exact HZ30.out
      · go_simp
        have ba32 : Below W20.heap.size W20 (W20.alloc (.cells #[] 91)) := (Below.refl _ _).alloc (Nat.le_refl _) _
        have r32 := World.ownsRow_lit (base := w.heap.size) (e := 91) (size := 11) W20 #[] 0 bw20.size (by unfold maxLen; omega) rfl
        have g32 : W20.heap.size < (W20.alloc (.cells #[] 91)).heap.size := by rw [World.size_alloc]; omega
        have r32W := row_ownkeep r20W (Keep.ofBelow (Q := fun _ => False) ba32) (fun _ _ h => h)
        have n32W : B1 ≠ W20.heap.size := by have := l20W; omega
        have l32W : B1 < (W20.alloc (.cells #[] 91)).heap.size := by rw [World.size_alloc]; have := l20W; omega
        have r32D := row_ownkeep r20 (Keep.ofBelow (Q := fun _ => False) ba32) (fun _ _ h => h)
        have n32D : B20 ≠ W20.heap.size := by have := g20; omega
        have l32D : B20 < (W20.alloc (.cells #[] 91)).heap.size := by rw [World.size_alloc]; have := g20; omega
        have b32 : w.heap.size ≤ W20.heap.size := bw20.size
        have bw32 := bw20.trans (ba32.mono bw20.size)
        generalize hW32 : World.alloc _ _ = W32 at *
        generalize hB32 : W20.heap.size = B32 at *
        clear hW32
        refine hK.out _ _ (SK.out _ bw32) (fun hHeld => ?_)
        clear hK K
        (try dsimp only [Act.put]); (try simp only [Act.put, List.setIfInBounds_toArray, List.set_cons_zero, List.set_cons_succ])
        refine wpAnyH_ready (rs := [5]) (by kernel_rfl) (by simp) ?_
        refine AllReadyH.cons rfl (fun K hK => ?_) (AllReadyH.nil)
        refine wp_append_own2 W32 _ _ 30 rfl w.heap.size 3 iW (.int .i64 0) 1 8 Try.underlying30 hizW hzzW hszW hbzW rfl (by decide) (.slice (some ⟨B1, 0, none⟩) 0 0) 0 [] rfl (by simpa using r32W) ⟨p.W, 0, none⟩ lW _ NW rfl HLW.out (fun j u hj => HCW.out _ bw32 j u hj) H1W.out (by unfold maxLen; omega) (by omega) bw32.size (by omega) ?_
        intro g33 cap33 W33 hr33 hg33 ho33
        have kp33 : Keep (fun b => b = B1) W32 W33 := ⟨hg33.os, hg33.tape, hg33.output, hg33.size, fun b hb hn => hg33.block b hb (fun e => hn (by simpa [Value.ownBlock] using e))⟩
        replace hr33 := (show W33.ownsRow w.heap.size 3 1 (.slice (some ⟨g33, 0, none⟩) lW cap33) lW NW from by simpa using hr33)
        have hq33 : g33 = B1 ∨ W32.heap.size ≤ g33 := by rcases ho33 with h | h; exact .inl (by simpa [Value.ownBlock, eq_comm] using h); exact .inr h
        have lt33 : g33 < W33.heap.size := (row_lt hr33 rfl).1
        have lo33 : w.heap.size ≤ g33 := by have := b1; have := bw32.size; omega
        have r33D := row_ownkeep r32D kp33 (fun b hb e => by have e2 : B20 = b := (by simpa [Value.ownBlock] using hb); exact (n20W.symm) (e2.trans e))
        have n33D : B20 ≠ g33 := by have := l32D; have := n20W.symm; omega
        have l33D : B20 < W33.heap.size := by have := l32D; have := hg33.size; omega
        have r33T := row_ownkeep r32 kp33 (fun b hb e => by have e2 : B32 = b := (by simpa [Value.ownBlock] using hb); exact (n32W.symm) (e2.trans e))
        have n33T : B32 ≠ g33 := by have := g32; have := n32W.symm; omega
        have l33T : B32 < W33.heap.size := by have := g32; have := hg33.size; omega
        have bw33 := bw32.trans (kp33.below bw32.size (fun b _ e => by have e2 : b = B1 := e; have := b1; omega))
        refine hK.out _ _ (SK.out _ bw33) (fun hHeld => ?_)
        clear hK K
        (try dsimp only [Act.put]); (try simp only [Act.put, List.setIfInBounds_toArray, List.set_cons_zero, List.set_cons_succ])
        refine wpAnyH_ready (rs := [11]) (by kernel_rfl) (by simp) ?_
        refine AllReadyH.cons rfl (fun K hK => ?_) (AllReadyH.nil)
        refine wp_append_own2 W33 _ _ 30 rfl w.heap.size 3 iW (.int .i64 0) 1 8 Try.underlying30 hizW hzzW hszW hbzW rfl (by decide) (.slice (some ⟨B20, 0, none⟩) 0 0) 0 [] rfl (by simpa using r33D) ⟨p.D, 0, none⟩ lD _ ND rfl HLD.out (fun j u hj => HCD.out _ bw33 j u hj) H1D.out (by unfold maxLen; omega) (by omega) bw33.size (by omega) ?_
        intro g34 cap34 W34 hr34 hg34 ho34
        have kp34 : Keep (fun b => b = B20) W33 W34 := ⟨hg34.os, hg34.tape, hg34.output, hg34.size, fun b hb hn => hg34.block b hb (fun e => hn (by simpa [Value.ownBlock] using e))⟩
        replace hr34 := (show W34.ownsRow w.heap.size 3 1 (.slice (some ⟨g34, 0, none⟩) lD cap34) lD ND from by simpa using hr34)
        have hq34 : g34 = B20 ∨ W33.heap.size ≤ g34 := by rcases ho34 with h | h; exact .inl (by simpa [Value.ownBlock, eq_comm] using h); exact .inr h
        have lt34 : g34 < W34.heap.size := (row_lt hr34 rfl).1
        have lo34 : w.heap.size ≤ g34 := by have := b20; have := bw33.size; omega
        have r34W := row_ownkeep hr33 kp34 (fun b hb e => by have e2 : g33 = b := (by simpa [Value.ownBlock] using hb); exact (n33D.symm) (e2.trans e))
        have n34W : g33 ≠ g34 := by have := lt33; have := n33D.symm; omega
        have l34W : g33 < W34.heap.size := by have := lt33; have := hg34.size; omega
        have r34T := row_ownkeep r33T kp34 (fun b hb e => by have e2 : B32 = b := (by simpa [Value.ownBlock] using hb); exact (n32D.symm) (e2.trans e))
        have n34T : B32 ≠ g34 := by have := l33T; have := n32D.symm; omega
        have l34T : B32 < W34.heap.size := by have := l33T; have := hg34.size; omega
        have bw34 := bw33.trans (kp34.below bw33.size (fun b _ e => by have e2 : b = B20 := e; have := b20; omega))
        refine hK.out _ _ (SK.out _ bw34) (fun hHeld => ?_)
        clear hK K
        (try dsimp only [Act.put]); (try simp only [Act.put, List.setIfInBounds_toArray, List.set_cons_zero, List.set_cons_succ])
        refine wpAnyH_ready (rs := [17]) (by kernel_rfl) (by simp) ?_
        refine AllReadyH.cons rfl (fun K hK => ?_) (AllReadyH.nil)
        refine wp_append_own2 W34 _ _ 87 rfl w.heap.size 91 iT (.agg (rthC rth0).toArray) 11 88 Try.underlying87 hizT hzzT hszT hbzT rfl (by decide) (.slice (some ⟨B32, 0, none⟩) 0 0) 0 [] rfl (by simpa using r34T) ⟨p.T, 0, none⟩ lT _ NT rfl HLT.out (fun j u hj => HCT.out _ bw34 j u hj) H1T.out (by unfold maxLen; omega) (by omega) bw34.size (by omega) ?_
        intro g35 cap35 W35 hr35 hg35 ho35
        have kp35 : Keep (fun b => b = B32) W34 W35 := ⟨hg35.os, hg35.tape, hg35.output, hg35.size, fun b hb hn => hg35.block b hb (fun e => hn (by simpa [Value.ownBlock] using e))⟩
        replace hr35 := (show W35.ownsRow w.heap.size 91 11 (.slice (some ⟨g35, 0, none⟩) lT cap35) lT NT from by simpa using hr35)
        have hq35 : g35 = B32 ∨ W34.heap.size ≤ g35 := by rcases ho35 with h | h; exact .inl (by simpa [Value.ownBlock, eq_comm] using h); exact .inr h
        have lt35 : g35 < W35.heap.size := (row_lt hr35 rfl).1
        have lo35 : w.heap.size ≤ g35 := by have := b32; have := bw34.size; omega
        have r35W := row_ownkeep r34W kp35 (fun b hb e => by have e2 : g33 = b := (by simpa [Value.ownBlock] using hb); exact (n33T.symm) (e2.trans e))
        have n35W : g33 ≠ g35 := by have := l34W; have := n33T.symm; omega
        have l35W : g33 < W35.heap.size := by have := l34W; have := hg35.size; omega
        have r35D := row_ownkeep hr34 kp35 (fun b hb e => by have e2 : g34 = b := (by simpa [Value.ownBlock] using hb); exact (n34T.symm) (e2.trans e))
        have n35D : g34 ≠ g35 := by have := lt34; have := n34T.symm; omega
        have l35D : g34 < W35.heap.size := by have := lt34; have := hg35.size; omega
        have bw35 := bw34.trans (kp35.below bw34.size (fun b _ e => by have e2 : b = B32 := e; have := b32; omega))
        refine hK.out _ _ (SK.out _ bw35) (fun hHeld => ?_)
        clear hK K
        (try dsimp only [Act.put]); (try simp only [Act.put, List.setIfInBounds_toArray, List.set_cons_zero, List.set_cons_succ])
        refine wpAnyH_take (i := 22) (oi := { dst := some 25, op := Op.build 89 #[(0, Operand.tmp 8), (1, Operand.tmp 14), (2, Operand.tmp 20), (3, Operand.tmp 24)], type := 89, pos := "kit.go:9", after := #[{ on := 5, ground := Ground.data }, { on := 11, ground := Ground.data }, { on := 17, ground := Ground.data }, { on := 21, ground := Ground.data }], guard := none }) (v := ?_) rfl (by kernel_rfl) (by kernel_rfl) (by kernel_rfl) (fun _ _ _ h => h) (Or.inl ⟨by rfl, ?_⟩) (by assumption) ?_
        rotate_left
        · intro w hSw; (try dsimp only at hSw); go_simp; try with_reducible rfl
        (try simp only [Act.put, List.setIfInBounds_toArray, List.set_cons_zero, List.set_cons_succ])
        refine wpAnyH_ready (rs := [23]) (by kernel_rfl) (by simp) ?_
        refine AllReadyH.cons rfl (fun K hK => ?_) (AllReadyH.nil)
        go_simp
        have hP36 := Blk.new W35 89 #[.slice (some ⟨g33, 0, none⟩) lW cap33, .slice (some ⟨g34, 0, none⟩) lD cap34, .slice (some ⟨g35, 0, none⟩) lT cap35, .int .i64 rel]
        have bw36 : Below w.heap.size w (W35.alloc (.cells #[.slice (some ⟨g33, 0, none⟩) lW cap33, .slice (some ⟨g34, 0, none⟩) lD cap34, .slice (some ⟨g35, 0, none⟩) lT cap35, .int .i64 rel] 89)) := bw35.alloc bw35.size _
        have HZ36 := Lib.hid (copy_fit HNs.out r35W r35D hr35 HEW.out HED.out HET.out HRel.out (n34W) hP36 (lo33) (lo34) (lo35) bw35.size bw36)
        refine hK.out _ _ (SK.out _ bw36) (fun hHeld => ?_)
        clear hK K
        (try dsimp only [Act.put]); (try simp only [Act.put, List.setIfInBounds_toArray, List.set_cons_zero, List.set_cons_succ])
        refine wpAnyH_ready (rs := [24]) (by kernel_rfl) (by simp) ?_
        refine AllReadyH.cons rfl (fun K hK => ?_) (AllReadyH.nil)
        go_simp
        refine hK.out _ _ (by assumption) (fun hHeld => ?_)
        clear hK K
        (try dsimp only [Act.put]); (try simp only [Act.put, List.setIfInBounds_toArray, List.set_cons_zero, List.set_cons_succ])
        refine wpAnyH_done (by kernel_rfl) ?_ _
        go_wp2_with fail
        go_ret
        exact HZ36.out
    · go_simp
      have ba38 : Below W1.heap.size W1 (W1.alloc (.cells #[] 91)) := (Below.refl _ _).alloc (Nat.le_refl _) _
      have r38 := World.ownsRow_lit (base := w.heap.size) (e := 91) (size := 11) W1 #[] 0 bw1.size (by unfold maxLen; omega) rfl
      have g38 : W1.heap.size < (W1.alloc (.cells #[] 91)).heap.size := by rw [World.size_alloc]; omega
      have r38W := row_ownkeep r1 (Keep.ofBelow (Q := fun _ => False) ba38) (fun _ _ h => h)
      have n38W : B1 ≠ W1.heap.size := by have := g1; omega
      have l38W : B1 < (W1.alloc (.cells #[] 91)).heap.size := by rw [World.size_alloc]; have := g1; omega
      have b38 : w.heap.size ≤ W1.heap.size := bw1.size
      have bw38 := bw1.trans (ba38.mono bw1.size)
      generalize hW38 : World.alloc _ _ = W38 at *
      generalize hB38 : W1.heap.size = B38 at *
      clear hW38
      refine hK.out _ _ (SK.out _ bw38) (fun hHeld => ?_)
      clear hK K
      (try dsimp only [Act.put]); (try simp only [Act.put, List.setIfInBounds_toArray, List.set_cons_zero, List.set_cons_succ])
      refine wpAnyH_ready (rs := [5, 6]) (by kernel_rfl) (by simp) ?_
      refine AllReadyH.cons rfl (fun K hK => ?_) (AllReadyH.cons rfl (fun K hK => ?_) (AllReadyH.nil))
      · refine wp_append_own2 W38 _ _ 30 rfl w.heap.size 3 iW (.int .i64 0) 1 8 Try.underlying30 hizW hzzW hszW hbzW rfl (by decide) (.slice (some ⟨B1, 0, none⟩) 0 0) 0 [] rfl (by simpa using r38W) ⟨p.W, 0, none⟩ lW _ NW rfl HLW.out (fun j u hj => HCW.out _ bw38 j u hj) H1W.out (by unfold maxLen; omega) (by omega) bw38.size (by omega) ?_
        intro g39 cap39 W39 hr39 hg39 ho39
        have kp39 : Keep (fun b => b = B1) W38 W39 := ⟨hg39.os, hg39.tape, hg39.output, hg39.size, fun b hb hn => hg39.block b hb (fun e => hn (by simpa [Value.ownBlock] using e))⟩
        replace hr39 := (show W39.ownsRow w.heap.size 3 1 (.slice (some ⟨g39, 0, none⟩) lW cap39) lW NW from by simpa using hr39)
        have hq39 : g39 = B1 ∨ W38.heap.size ≤ g39 := by rcases ho39 with h | h; exact .inl (by simpa [Value.ownBlock, eq_comm] using h); exact .inr h
        have lt39 : g39 < W39.heap.size := (row_lt hr39 rfl).1
        have lo39 : w.heap.size ≤ g39 := by have := b1; have := bw38.size; omega
        have r39T := row_ownkeep r38 kp39 (fun b hb e => by have e2 : B38 = b := (by simpa [Value.ownBlock] using hb); exact (n38W.symm) (e2.trans e))
        have n39T : B38 ≠ g39 := by have := g38; have := n38W.symm; omega
        have l39T : B38 < W39.heap.size := by have := g38; have := hg39.size; omega
        have bw39 := bw38.trans (kp39.below bw38.size (fun b _ e => by have e2 : b = B1 := e; have := b1; omega))
        refine hK.out _ _ (SK.out _ bw39) (fun hHeld => ?_)
        clear hK K
        (try dsimp only [Act.put]); (try simp only [Act.put, List.setIfInBounds_toArray, List.set_cons_zero, List.set_cons_succ])
        refine wpAnyH_ready (rs := [6]) (by kernel_rfl) (by simp) ?_
        refine AllReadyH.cons rfl (fun K hK => ?_) (AllReadyH.nil)
        go_simp
        have ba40 : Below W39.heap.size W39 (W39.alloc (.cells #[] 3)) := (Below.refl _ _).alloc (Nat.le_refl _) _
        have r40 := World.ownsRow_lit (base := w.heap.size) (e := 3) (size := 1) W39 #[] 0 bw39.size (by unfold maxLen; omega) rfl
        have g40 : W39.heap.size < (W39.alloc (.cells #[] 3)).heap.size := by rw [World.size_alloc]; omega
        have r40W := row_ownkeep hr39 (Keep.ofBelow (Q := fun _ => False) ba40) (fun _ _ h => h)
        have n40W : g39 ≠ W39.heap.size := by have := lt39; omega
        have l40W : g39 < (W39.alloc (.cells #[] 3)).heap.size := by rw [World.size_alloc]; have := lt39; omega
        have r40T := row_ownkeep r39T (Keep.ofBelow (Q := fun _ => False) ba40) (fun _ _ h => h)
        have n40T : B38 ≠ W39.heap.size := by have := l39T; omega
        have l40T : B38 < (W39.alloc (.cells #[] 3)).heap.size := by rw [World.size_alloc]; have := l39T; omega
        have b40 : w.heap.size ≤ W39.heap.size := bw39.size
        have bw40 := bw39.trans (ba40.mono bw39.size)
        generalize hW40 : World.alloc _ _ = W40 at *
        generalize hB40 : W39.heap.size = B40 at *
        clear hW40
        refine hK.out _ _ (SK.out _ bw40) (fun hHeld => ?_)
        clear hK K
        (try dsimp only [Act.put]); (try simp only [Act.put, List.setIfInBounds_toArray, List.set_cons_zero, List.set_cons_succ])
        refine wpAnyH_ready (rs := [11]) (by kernel_rfl) (by simp) ?_
        refine AllReadyH.cons rfl (fun K hK => ?_) (AllReadyH.nil)
        refine wp_append_own2 W40 _ _ 30 rfl w.heap.size 3 iW (.int .i64 0) 1 8 Try.underlying30 hizW hzzW hszW hbzW rfl (by decide) (.slice (some ⟨B40, 0, none⟩) 0 0) 0 [] rfl (by simpa using r40) ⟨p.D, 0, none⟩ lD _ ND rfl HLD.out (fun j u hj => HCD.out _ bw40 j u hj) H1D.out (by unfold maxLen; omega) (by omega) bw40.size (by omega) ?_
        intro g41 cap41 W41 hr41 hg41 ho41
        have kp41 : Keep (fun b => b = B40) W40 W41 := ⟨hg41.os, hg41.tape, hg41.output, hg41.size, fun b hb hn => hg41.block b hb (fun e => hn (by simpa [Value.ownBlock] using e))⟩
        replace hr41 := (show W41.ownsRow w.heap.size 3 1 (.slice (some ⟨g41, 0, none⟩) lD cap41) lD ND from by simpa using hr41)
        have hq41 : g41 = B40 ∨ W40.heap.size ≤ g41 := by rcases ho41 with h | h; exact .inl (by simpa [Value.ownBlock, eq_comm] using h); exact .inr h
        have lt41 : g41 < W41.heap.size := (row_lt hr41 rfl).1
        have lo41 : w.heap.size ≤ g41 := by have := b40; have := bw40.size; omega
        have r41W := row_ownkeep r40W kp41 (fun b hb e => by have e2 : g39 = b := (by simpa [Value.ownBlock] using hb); exact (n40W) (e2.trans e))
        have n41W : g39 ≠ g41 := by have := l40W; have := n40W; omega
        have l41W : g39 < W41.heap.size := by have := l40W; have := hg41.size; omega
        have r41T := row_ownkeep r40T kp41 (fun b hb e => by have e2 : B38 = b := (by simpa [Value.ownBlock] using hb); exact (n40T) (e2.trans e))
        have n41T : B38 ≠ g41 := by have := l40T; have := n40T; omega
        have l41T : B38 < W41.heap.size := by have := l40T; have := hg41.size; omega
        have bw41 := bw40.trans (kp41.below bw40.size (fun b _ e => by have e2 : b = B40 := e; have := b40; omega))
        refine hK.out _ _ (SK.out _ bw41) (fun hHeld => ?_)
        clear hK K
        (try dsimp only [Act.put]); (try simp only [Act.put, List.setIfInBounds_toArray, List.set_cons_zero, List.set_cons_succ])
        refine wpAnyH_ready (rs := [17]) (by kernel_rfl) (by simp) ?_
        refine AllReadyH.cons rfl (fun K hK => ?_) (AllReadyH.nil)
        refine wp_append_own2 W41 _ _ 87 rfl w.heap.size 91 iT (.agg (rthC rth0).toArray) 11 88 Try.underlying87 hizT hzzT hszT hbzT rfl (by decide) (.slice (some ⟨B38, 0, none⟩) 0 0) 0 [] rfl (by simpa using r41T) ⟨p.T, 0, none⟩ lT _ NT rfl HLT.out (fun j u hj => HCT.out _ bw41 j u hj) H1T.out (by unfold maxLen; omega) (by omega) bw41.size (by omega) ?_
        intro g42 cap42 W42 hr42 hg42 ho42
        have kp42 : Keep (fun b => b = B38) W41 W42 := ⟨hg42.os, hg42.tape, hg42.output, hg42.size, fun b hb hn => hg42.block b hb (fun e => hn (by simpa [Value.ownBlock] using e))⟩
        replace hr42 := (show W42.ownsRow w.heap.size 91 11 (.slice (some ⟨g42, 0, none⟩) lT cap42) lT NT from by simpa using hr42)
        have hq42 : g42 = B38 ∨ W41.heap.size ≤ g42 := by rcases ho42 with h | h; exact .inl (by simpa [Value.ownBlock, eq_comm] using h); exact .inr h
        have lt42 : g42 < W42.heap.size := (row_lt hr42 rfl).1
        have lo42 : w.heap.size ≤ g42 := by have := b38; have := bw41.size; omega
        have r42W := row_ownkeep r41W kp42 (fun b hb e => by have e2 : g39 = b := (by simpa [Value.ownBlock] using hb); exact (n39T.symm) (e2.trans e))
        have n42W : g39 ≠ g42 := by have := l41W; have := n39T.symm; omega
        have l42W : g39 < W42.heap.size := by have := l41W; have := hg42.size; omega
        have r42D := row_ownkeep hr41 kp42 (fun b hb e => by have e2 : g41 = b := (by simpa [Value.ownBlock] using hb); exact (n41T.symm) (e2.trans e))
        have n42D : g41 ≠ g42 := by have := lt41; have := n41T.symm; omega
        have l42D : g41 < W42.heap.size := by have := lt41; have := hg42.size; omega
        have bw42 := bw41.trans (kp42.below bw41.size (fun b _ e => by have e2 : b = B38 := e; have := b38; omega))
        refine hK.out _ _ (SK.out _ bw42) (fun hHeld => ?_)
        clear hK K
        (try dsimp only [Act.put]); (try simp only [Act.put, List.setIfInBounds_toArray, List.set_cons_zero, List.set_cons_succ])
        refine wpAnyH_take (i := 22) (oi := { dst := some 25, op := Op.build 89 #[(0, Operand.tmp 8), (1, Operand.tmp 14), (2, Operand.tmp 20), (3, Operand.tmp 24)], type := 89, pos := "kit.go:9", after := #[{ on := 5, ground := Ground.data }, { on := 11, ground := Ground.data }, { on := 17, ground := Ground.data }, { on := 21, ground := Ground.data }], guard := none }) (v := ?_) rfl (by kernel_rfl) (by kernel_rfl) (by kernel_rfl) (fun _ _ _ h => h) (Or.inl ⟨by rfl, ?_⟩) (by assumption) ?_
        rotate_left
        · intro w hSw; (try dsimp only at hSw); go_simp; try with_reducible rfl
        (try simp only [Act.put, List.setIfInBounds_toArray, List.set_cons_zero, List.set_cons_succ])
        refine wpAnyH_ready (rs := [23]) (by kernel_rfl) (by simp) ?_
        refine AllReadyH.cons rfl (fun K hK => ?_) (AllReadyH.nil)
        go_simp
        have hP43 := Blk.new W42 89 #[.slice (some ⟨g39, 0, none⟩) lW cap39, .slice (some ⟨g41, 0, none⟩) lD cap41, .slice (some ⟨g42, 0, none⟩) lT cap42, .int .i64 rel]
        have bw43 : Below w.heap.size w (W42.alloc (.cells #[.slice (some ⟨g39, 0, none⟩) lW cap39, .slice (some ⟨g41, 0, none⟩) lD cap41, .slice (some ⟨g42, 0, none⟩) lT cap42, .int .i64 rel] 89)) := bw42.alloc bw42.size _
        have HZ43 := Lib.hid (copy_fit HNs.out r42W r42D hr42 HEW.out HED.out HET.out HRel.out (n41W) hP43 (lo39) (lo41) (lo42) bw42.size bw43)
        refine hK.out _ _ (SK.out _ bw43) (fun hHeld => ?_)
        clear hK K
        (try dsimp only [Act.put]); (try simp only [Act.put, List.setIfInBounds_toArray, List.set_cons_zero, List.set_cons_succ])
        refine wpAnyH_ready (rs := [24]) (by kernel_rfl) (by simp) ?_
        refine AllReadyH.cons rfl (fun K hK => ?_) (AllReadyH.nil)
        go_simp
        refine hK.out _ _ (by assumption) (fun hHeld => ?_)
        clear hK K
        (try dsimp only [Act.put]); (try simp only [Act.put, List.setIfInBounds_toArray, List.set_cons_zero, List.set_cons_succ])
        refine wpAnyH_done (by kernel_rfl) ?_ _
        go_wp2_with fail
        go_ret
        exact HZ43.out
      · go_simp
        have ba45 : Below W38.heap.size W38 (W38.alloc (.cells #[] 3)) := (Below.refl _ _).alloc (Nat.le_refl _) _
        have r45 := World.ownsRow_lit (base := w.heap.size) (e := 3) (size := 1) W38 #[] 0 bw38.size (by unfold maxLen; omega) rfl
        have g45 : W38.heap.size < (W38.alloc (.cells #[] 3)).heap.size := by rw [World.size_alloc]; omega
        have r45W := row_ownkeep r38W (Keep.ofBelow (Q := fun _ => False) ba45) (fun _ _ h => h)
        have n45W : B1 ≠ W38.heap.size := by have := l38W; omega
        have l45W : B1 < (W38.alloc (.cells #[] 3)).heap.size := by rw [World.size_alloc]; have := l38W; omega
        have r45T := row_ownkeep r38 (Keep.ofBelow (Q := fun _ => False) ba45) (fun _ _ h => h)
        have n45T : B38 ≠ W38.heap.size := by have := g38; omega
        have l45T : B38 < (W38.alloc (.cells #[] 3)).heap.size := by rw [World.size_alloc]; have := g38; omega
        have b45 : w.heap.size ≤ W38.heap.size := bw38.size
        have bw45 := bw38.trans (ba45.mono bw38.size)
        generalize hW45 : World.alloc _ _ = W45 at *
        generalize hB45 : W38.heap.size = B45 at *
        clear hW45
        refine hK.out _ _ (SK.out _ bw45) (fun hHeld => ?_)
        clear hK K
        (try dsimp only [Act.put]); (try simp only [Act.put, List.setIfInBounds_toArray, List.set_cons_zero, List.set_cons_succ])
        refine wpAnyH_ready (rs := [5]) (by kernel_rfl) (by simp) ?_
        refine AllReadyH.cons rfl (fun K hK => ?_) (AllReadyH.nil)
        refine wp_append_own2 W45 _ _ 30 rfl w.heap.size 3 iW (.int .i64 0) 1 8 Try.underlying30 hizW hzzW hszW hbzW rfl (by decide) (.slice (some ⟨B1, 0, none⟩) 0 0) 0 [] rfl (by simpa using r45W) ⟨p.W, 0, none⟩ lW _ NW rfl HLW.out (fun j u hj => HCW.out _ bw45 j u hj) H1W.out (by unfold maxLen; omega) (by omega) bw45.size (by omega) ?_
        intro g46 cap46 W46 hr46 hg46 ho46
        have kp46 : Keep (fun b => b = B1) W45 W46 := ⟨hg46.os, hg46.tape, hg46.output, hg46.size, fun b hb hn => hg46.block b hb (fun e => hn (by simpa [Value.ownBlock] using e))⟩
        replace hr46 := (show W46.ownsRow w.heap.size 3 1 (.slice (some ⟨g46, 0, none⟩) lW cap46) lW NW from by simpa using hr46)
        have hq46 : g46 = B1 ∨ W45.heap.size ≤ g46 := by rcases ho46 with h | h; exact .inl (by simpa [Value.ownBlock, eq_comm] using h); exact .inr h
        have lt46 : g46 < W46.heap.size := (row_lt hr46 rfl).1
        have lo46 : w.heap.size ≤ g46 := by have := b1; have := bw45.size; omega
        have r46T := row_ownkeep r45T kp46 (fun b hb e => by have e2 : B38 = b := (by simpa [Value.ownBlock] using hb); exact (n38W.symm) (e2.trans e))
        have n46T : B38 ≠ g46 := by have := l45T; have := n38W.symm; omega
        have l46T : B38 < W46.heap.size := by have := l45T; have := hg46.size; omega
        have r46D := row_ownkeep r45 kp46 (fun b hb e => by have e2 : B45 = b := (by simpa [Value.ownBlock] using hb); exact (n45W.symm) (e2.trans e))
        have n46D : B45 ≠ g46 := by have := g45; have := n45W.symm; omega
        have l46D : B45 < W46.heap.size := by have := g45; have := hg46.size; omega
        have bw46 := bw45.trans (kp46.below bw45.size (fun b _ e => by have e2 : b = B1 := e; have := b1; omega))
        refine hK.out _ _ (SK.out _ bw46) (fun hHeld => ?_)
        clear hK K
        (try dsimp only [Act.put]); (try simp only [Act.put, List.setIfInBounds_toArray, List.set_cons_zero, List.set_cons_succ])
        refine wpAnyH_ready (rs := [11]) (by kernel_rfl) (by simp) ?_
        refine AllReadyH.cons rfl (fun K hK => ?_) (AllReadyH.nil)
        refine wp_append_own2 W46 _ _ 30 rfl w.heap.size 3 iW (.int .i64 0) 1 8 Try.underlying30 hizW hzzW hszW hbzW rfl (by decide) (.slice (some ⟨B45, 0, none⟩) 0 0) 0 [] rfl (by simpa using r46D) ⟨p.D, 0, none⟩ lD _ ND rfl HLD.out (fun j u hj => HCD.out _ bw46 j u hj) H1D.out (by unfold maxLen; omega) (by omega) bw46.size (by omega) ?_
        intro g47 cap47 W47 hr47 hg47 ho47
        have kp47 : Keep (fun b => b = B45) W46 W47 := ⟨hg47.os, hg47.tape, hg47.output, hg47.size, fun b hb hn => hg47.block b hb (fun e => hn (by simpa [Value.ownBlock] using e))⟩
        replace hr47 := (show W47.ownsRow w.heap.size 3 1 (.slice (some ⟨g47, 0, none⟩) lD cap47) lD ND from by simpa using hr47)
        have hq47 : g47 = B45 ∨ W46.heap.size ≤ g47 := by rcases ho47 with h | h; exact .inl (by simpa [Value.ownBlock, eq_comm] using h); exact .inr h
        have lt47 : g47 < W47.heap.size := (row_lt hr47 rfl).1
        have lo47 : w.heap.size ≤ g47 := by have := b45; have := bw46.size; omega
        have r47W := row_ownkeep hr46 kp47 (fun b hb e => by have e2 : g46 = b := (by simpa [Value.ownBlock] using hb); exact (n46D.symm) (e2.trans e))
        have n47W : g46 ≠ g47 := by have := lt46; have := n46D.symm; omega
        have l47W : g46 < W47.heap.size := by have := lt46; have := hg47.size; omega
        have r47T := row_ownkeep r46T kp47 (fun b hb e => by have e2 : B38 = b := (by simpa [Value.ownBlock] using hb); exact (n45T) (e2.trans e))
        have n47T : B38 ≠ g47 := by have := l46T; have := n45T; omega
        have l47T : B38 < W47.heap.size := by have := l46T; have := hg47.size; omega
        have bw47 := bw46.trans (kp47.below bw46.size (fun b _ e => by have e2 : b = B45 := e; have := b45; omega))
        refine hK.out _ _ (SK.out _ bw47) (fun hHeld => ?_)
        clear hK K
        (try dsimp only [Act.put]); (try simp only [Act.put, List.setIfInBounds_toArray, List.set_cons_zero, List.set_cons_succ])
        refine wpAnyH_ready (rs := [17]) (by kernel_rfl) (by simp) ?_
        refine AllReadyH.cons rfl (fun K hK => ?_) (AllReadyH.nil)
        refine wp_append_own2 W47 _ _ 87 rfl w.heap.size 91 iT (.agg (rthC rth0).toArray) 11 88 Try.underlying87 hizT hzzT hszT hbzT rfl (by decide) (.slice (some ⟨B38, 0, none⟩) 0 0) 0 [] rfl (by simpa using r47T) ⟨p.T, 0, none⟩ lT _ NT rfl HLT.out (fun j u hj => HCT.out _ bw47 j u hj) H1T.out (by unfold maxLen; omega) (by omega) bw47.size (by omega) ?_
        intro g48 cap48 W48 hr48 hg48 ho48
        have kp48 : Keep (fun b => b = B38) W47 W48 := ⟨hg48.os, hg48.tape, hg48.output, hg48.size, fun b hb hn => hg48.block b hb (fun e => hn (by simpa [Value.ownBlock] using e))⟩
        replace hr48 := (show W48.ownsRow w.heap.size 91 11 (.slice (some ⟨g48, 0, none⟩) lT cap48) lT NT from by simpa using hr48)
        have hq48 : g48 = B38 ∨ W47.heap.size ≤ g48 := by rcases ho48 with h | h; exact .inl (by simpa [Value.ownBlock, eq_comm] using h); exact .inr h
        have lt48 : g48 < W48.heap.size := (row_lt hr48 rfl).1
        have lo48 : w.heap.size ≤ g48 := by have := b38; have := bw47.size; omega
        have r48W := row_ownkeep r47W kp48 (fun b hb e => by have e2 : g46 = b := (by simpa [Value.ownBlock] using hb); exact (n46T.symm) (e2.trans e))
        have n48W : g46 ≠ g48 := by have := l47W; have := n46T.symm; omega
        have l48W : g46 < W48.heap.size := by have := l47W; have := hg48.size; omega
        have r48D := row_ownkeep hr47 kp48 (fun b hb e => by have e2 : g47 = b := (by simpa [Value.ownBlock] using hb); exact (n47T.symm) (e2.trans e))
        have n48D : g47 ≠ g48 := by have := lt47; have := n47T.symm; omega
        have l48D : g47 < W48.heap.size := by have := lt47; have := hg48.size; omega
        have bw48 := bw47.trans (kp48.below bw47.size (fun b _ e => by have e2 : b = B38 := e; have := b38; omega))
        refine hK.out _ _ (SK.out _ bw48) (fun hHeld => ?_)
        clear hK K
        (try dsimp only [Act.put]); (try simp only [Act.put, List.setIfInBounds_toArray, List.set_cons_zero, List.set_cons_succ])
        refine wpAnyH_take (i := 22) (oi := { dst := some 25, op := Op.build 89 #[(0, Operand.tmp 8), (1, Operand.tmp 14), (2, Operand.tmp 20), (3, Operand.tmp 24)], type := 89, pos := "kit.go:9", after := #[{ on := 5, ground := Ground.data }, { on := 11, ground := Ground.data }, { on := 17, ground := Ground.data }, { on := 21, ground := Ground.data }], guard := none }) (v := ?_) rfl (by kernel_rfl) (by kernel_rfl) (by kernel_rfl) (fun _ _ _ h => h) (Or.inl ⟨by rfl, ?_⟩) (by assumption) ?_
        rotate_left
        · intro w hSw; (try dsimp only at hSw); go_simp; try with_reducible rfl
        (try simp only [Act.put, List.setIfInBounds_toArray, List.set_cons_zero, List.set_cons_succ])
        refine wpAnyH_ready (rs := [23]) (by kernel_rfl) (by simp) ?_
        refine AllReadyH.cons rfl (fun K hK => ?_) (AllReadyH.nil)
        go_simp
        have hP49 := Blk.new W48 89 #[.slice (some ⟨g46, 0, none⟩) lW cap46, .slice (some ⟨g47, 0, none⟩) lD cap47, .slice (some ⟨g48, 0, none⟩) lT cap48, .int .i64 rel]
        have bw49 : Below w.heap.size w (W48.alloc (.cells #[.slice (some ⟨g46, 0, none⟩) lW cap46, .slice (some ⟨g47, 0, none⟩) lD cap47, .slice (some ⟨g48, 0, none⟩) lT cap48, .int .i64 rel] 89)) := bw48.alloc bw48.size _
        have HZ49 := Lib.hid (copy_fit HNs.out r48W r48D hr48 HEW.out HED.out HET.out HRel.out (n47W) hP49 (lo46) (lo47) (lo48) bw48.size bw49)
        refine hK.out _ _ (SK.out _ bw49) (fun hHeld => ?_)
        clear hK K
        (try dsimp only [Act.put]); (try simp only [Act.put, List.setIfInBounds_toArray, List.set_cons_zero, List.set_cons_succ])
        refine wpAnyH_ready (rs := [24]) (by kernel_rfl) (by simp) ?_
        refine AllReadyH.cons rfl (fun K hK => ?_) (AllReadyH.nil)
        go_simp
        refine hK.out _ _ (by assumption) (fun hHeld => ?_)
        clear hK K
        (try dsimp only [Act.put]); (try simp only [Act.put, List.setIfInBounds_toArray, List.set_cons_zero, List.set_cons_succ])
        refine wpAnyH_done (by kernel_rfl) ?_ _
        go_wp2_with fail
        go_ret
        exact HZ49.out
  · go_simp
    have ba51 : Below W0.heap.size W0 (W0.alloc (.cells #[] 3)) := (Below.refl _ _).alloc (Nat.le_refl _) _
    have r51 := World.ownsRow_lit (base := w.heap.size) (e := 3) (size := 1) W0 #[] 0 bd.size (by unfold maxLen; omega) rfl
    have g51 : W0.heap.size < (W0.alloc (.cells #[] 3)).heap.size := by rw [World.size_alloc]; omega
    have b51 : w.heap.size ≤ W0.heap.size := bd.size
    have bw51 := bd.trans (ba51.mono bd.size)
    generalize hW51 : World.alloc _ _ = W51 at *
    generalize hB51 : W0.heap.size = B51 at *
    clear hW51
    refine hK.out _ _ (SK.out _ bw51) (fun hHeld => ?_)
    clear hK K
    (try dsimp only [Act.put]); (try simp only [Act.put, List.setIfInBounds_toArray, List.set_cons_zero, List.set_cons_succ])
    refine wpAnyH_ready (rs := [0, 12]) (by kernel_rfl) (by simp) ?_
    refine AllReadyH.cons rfl (fun K hK => ?_) (AllReadyH.cons rfl (fun K hK => ?_) (AllReadyH.nil))
    · go_simp
      have ba52 : Below W51.heap.size W51 (W51.alloc (.cells #[] 3)) := (Below.refl _ _).alloc (Nat.le_refl _) _
      have r52 := World.ownsRow_lit (base := w.heap.size) (e := 3) (size := 1) W51 #[] 0 bw51.size (by unfold maxLen; omega) rfl
      have g52 : W51.heap.size < (W51.alloc (.cells #[] 3)).heap.size := by rw [World.size_alloc]; omega
      have r52D := row_ownkeep r51 (Keep.ofBelow (Q := fun _ => False) ba52) (fun _ _ h => h)
      have n52D : B51 ≠ W51.heap.size := by have := g51; omega
      have l52D : B51 < (W51.alloc (.cells #[] 3)).heap.size := by rw [World.size_alloc]; have := g51; omega
      have b52 : w.heap.size ≤ W51.heap.size := bw51.size
      have bw52 := bw51.trans (ba52.mono bw51.size)
      generalize hW52 : World.alloc _ _ = W52 at *
      generalize hB52 : W51.heap.size = B52 at *
      clear hW52
      refine hK.out _ _ (SK.out _ bw52) (fun hHeld => ?_)
      clear hK K
      (try dsimp only [Act.put]); (try simp only [Act.put, List.setIfInBounds_toArray, List.set_cons_zero, List.set_cons_succ])
      refine wpAnyH_ready (rs := [5, 12]) (by kernel_rfl) (by simp) ?_
      refine AllReadyH.cons rfl (fun K hK => ?_) (AllReadyH.cons rfl (fun K hK => ?_) (AllReadyH.nil))
      · refine wp_append_own2 W52 _ _ 30 rfl w.heap.size 3 iW (.int .i64 0) 1 8 Try.underlying30 hizW hzzW hszW hbzW rfl (by decide) (.slice (some ⟨B52, 0, none⟩) 0 0) 0 [] rfl (by simpa using r52) ⟨p.W, 0, none⟩ lW _ NW rfl HLW.out (fun j u hj => HCW.out _ bw52 j u hj) H1W.out (by unfold maxLen; omega) (by omega) bw52.size (by omega) ?_
        intro g53 cap53 W53 hr53 hg53 ho53
        have kp53 : Keep (fun b => b = B52) W52 W53 := ⟨hg53.os, hg53.tape, hg53.output, hg53.size, fun b hb hn => hg53.block b hb (fun e => hn (by simpa [Value.ownBlock] using e))⟩
        replace hr53 := (show W53.ownsRow w.heap.size 3 1 (.slice (some ⟨g53, 0, none⟩) lW cap53) lW NW from by simpa using hr53)
        have hq53 : g53 = B52 ∨ W52.heap.size ≤ g53 := by rcases ho53 with h | h; exact .inl (by simpa [Value.ownBlock, eq_comm] using h); exact .inr h
        have lt53 : g53 < W53.heap.size := (row_lt hr53 rfl).1
        have lo53 : w.heap.size ≤ g53 := by have := b52; have := bw52.size; omega
        have r53D := row_ownkeep r52D kp53 (fun b hb e => by have e2 : B51 = b := (by simpa [Value.ownBlock] using hb); exact (n52D) (e2.trans e))
        have n53D : B51 ≠ g53 := by have := l52D; have := n52D; omega
        have l53D : B51 < W53.heap.size := by have := l52D; have := hg53.size; omega
        have bw53 := bw52.trans (kp53.below bw52.size (fun b _ e => by have e2 : b = B52 := e; have := b52; omega))
        refine hK.out _ _ (SK.out _ bw53) (fun hHeld => ?_)
        clear hK K
        (try dsimp only [Act.put]); (try simp only [Act.put, List.setIfInBounds_toArray, List.set_cons_zero, List.set_cons_succ])
        refine wpAnyH_ready (rs := [11, 12]) (by kernel_rfl) (by simp) ?_
        refine AllReadyH.cons rfl (fun K hK => ?_) (AllReadyH.cons rfl (fun K hK => ?_) (AllReadyH.nil))
        · refine wp_append_own2 W53 _ _ 30 rfl w.heap.size 3 iW (.int .i64 0) 1 8 Try.underlying30 hizW hzzW hszW hbzW rfl (by decide) (.slice (some ⟨B51, 0, none⟩) 0 0) 0 [] rfl (by simpa using r53D) ⟨p.D, 0, none⟩ lD _ ND rfl HLD.out (fun j u hj => HCD.out _ bw53 j u hj) H1D.out (by unfold maxLen; omega) (by omega) bw53.size (by omega) ?_
          intro g54 cap54 W54 hr54 hg54 ho54
          have kp54 : Keep (fun b => b = B51) W53 W54 := ⟨hg54.os, hg54.tape, hg54.output, hg54.size, fun b hb hn => hg54.block b hb (fun e => hn (by simpa [Value.ownBlock] using e))⟩
          replace hr54 := (show W54.ownsRow w.heap.size 3 1 (.slice (some ⟨g54, 0, none⟩) lD cap54) lD ND from by simpa using hr54)
          have hq54 : g54 = B51 ∨ W53.heap.size ≤ g54 := by rcases ho54 with h | h; exact .inl (by simpa [Value.ownBlock, eq_comm] using h); exact .inr h
          have lt54 : g54 < W54.heap.size := (row_lt hr54 rfl).1
          have lo54 : w.heap.size ≤ g54 := by have := b51; have := bw53.size; omega
          have r54W := row_ownkeep hr53 kp54 (fun b hb e => by have e2 : g53 = b := (by simpa [Value.ownBlock] using hb); exact (n53D.symm) (e2.trans e))
          have n54W : g53 ≠ g54 := by have := lt53; have := n53D.symm; omega
          have l54W : g53 < W54.heap.size := by have := lt53; have := hg54.size; omega
          have bw54 := bw53.trans (kp54.below bw53.size (fun b _ e => by have e2 : b = B51 := e; have := b51; omega))
          refine hK.out _ _ (SK.out _ bw54) (fun hHeld => ?_)
          clear hK K
          (try dsimp only [Act.put]); (try simp only [Act.put, List.setIfInBounds_toArray, List.set_cons_zero, List.set_cons_succ])
          refine wpAnyH_ready (rs := [12]) (by kernel_rfl) (by simp) ?_
          refine AllReadyH.cons rfl (fun K hK => ?_) (AllReadyH.nil)
          go_simp
          have ba55 : Below W54.heap.size W54 (W54.alloc (.cells #[] 91)) := (Below.refl _ _).alloc (Nat.le_refl _) _
          have r55 := World.ownsRow_lit (base := w.heap.size) (e := 91) (size := 11) W54 #[] 0 bw54.size (by unfold maxLen; omega) rfl
          have g55 : W54.heap.size < (W54.alloc (.cells #[] 91)).heap.size := by rw [World.size_alloc]; omega
          have r55D := row_ownkeep hr54 (Keep.ofBelow (Q := fun _ => False) ba55) (fun _ _ h => h)
          have n55D : g54 ≠ W54.heap.size := by have := lt54; omega
          have l55D : g54 < (W54.alloc (.cells #[] 91)).heap.size := by rw [World.size_alloc]; have := lt54; omega
          have r55W := row_ownkeep r54W (Keep.ofBelow (Q := fun _ => False) ba55) (fun _ _ h => h)
          have n55W : g53 ≠ W54.heap.size := by have := l54W; omega
          have l55W : g53 < (W54.alloc (.cells #[] 91)).heap.size := by rw [World.size_alloc]; have := l54W; omega
          have b55 : w.heap.size ≤ W54.heap.size := bw54.size
          have bw55 := bw54.trans (ba55.mono bw54.size)
          generalize hW55 : World.alloc _ _ = W55 at *
          generalize hB55 : W54.heap.size = B55 at *
          clear hW55
          refine hK.out _ _ (SK.out _ bw55) (fun hHeld => ?_)
          clear hK K
          (try dsimp only [Act.put]); (try simp only [Act.put, List.setIfInBounds_toArray, List.set_cons_zero, List.set_cons_succ])
          refine wpAnyH_ready (rs := [17]) (by kernel_rfl) (by simp) ?_
          refine AllReadyH.cons rfl (fun K hK => ?_) (AllReadyH.nil)
          refine wp_append_own2 W55 _ _ 87 rfl w.heap.size 91 iT (.agg (rthC rth0).toArray) 11 88 Try.underlying87 hizT hzzT hszT hbzT rfl (by decide) (.slice (some ⟨B55, 0, none⟩) 0 0) 0 [] rfl (by simpa using r55) ⟨p.T, 0, none⟩ lT _ NT rfl HLT.out (fun j u hj => HCT.out _ bw55 j u hj) H1T.out (by unfold maxLen; omega) (by omega) bw55.size (by omega) ?_
          intro g56 cap56 W56 hr56 hg56 ho56
          have kp56 : Keep (fun b => b = B55) W55 W56 := ⟨hg56.os, hg56.tape, hg56.output, hg56.size, fun b hb hn => hg56.block b hb (fun e => hn (by simpa [Value.ownBlock] using e))⟩
          replace hr56 := (show W56.ownsRow w.heap.size 91 11 (.slice (some ⟨g56, 0, none⟩) lT cap56) lT NT from by simpa using hr56)
          have hq56 : g56 = B55 ∨ W55.heap.size ≤ g56 := by rcases ho56 with h | h; exact .inl (by simpa [Value.ownBlock, eq_comm] using h); exact .inr h
          have lt56 : g56 < W56.heap.size := (row_lt hr56 rfl).1
          have lo56 : w.heap.size ≤ g56 := by have := b55; have := bw55.size; omega
          have r56D := row_ownkeep r55D kp56 (fun b hb e => by have e2 : g54 = b := (by simpa [Value.ownBlock] using hb); exact (n55D) (e2.trans e))
          have n56D : g54 ≠ g56 := by have := l55D; have := n55D; omega
          have l56D : g54 < W56.heap.size := by have := l55D; have := hg56.size; omega
          have r56W := row_ownkeep r55W kp56 (fun b hb e => by have e2 : g53 = b := (by simpa [Value.ownBlock] using hb); exact (n55W) (e2.trans e))
          have n56W : g53 ≠ g56 := by have := l55W; have := n55W; omega
          have l56W : g53 < W56.heap.size := by have := l55W; have := hg56.size; omega
          have bw56 := bw55.trans (kp56.below bw55.size (fun b _ e => by have e2 : b = B55 := e; have := b55; omega))
          refine hK.out _ _ (SK.out _ bw56) (fun hHeld => ?_)
          clear hK K
          (try dsimp only [Act.put]); (try simp only [Act.put, List.setIfInBounds_toArray, List.set_cons_zero, List.set_cons_succ])
          refine wpAnyH_take (i := 22) (oi := { dst := some 25, op := Op.build 89 #[(0, Operand.tmp 8), (1, Operand.tmp 14), (2, Operand.tmp 20), (3, Operand.tmp 24)], type := 89, pos := "kit.go:9", after := #[{ on := 5, ground := Ground.data }, { on := 11, ground := Ground.data }, { on := 17, ground := Ground.data }, { on := 21, ground := Ground.data }], guard := none }) (v := ?_) rfl (by kernel_rfl) (by kernel_rfl) (by kernel_rfl) (fun _ _ _ h => h) (Or.inl ⟨by rfl, ?_⟩) (by assumption) ?_
          rotate_left
          · intro w hSw; (try dsimp only at hSw); go_simp; try with_reducible rfl
          (try simp only [Act.put, List.setIfInBounds_toArray, List.set_cons_zero, List.set_cons_succ])
          refine wpAnyH_ready (rs := [23]) (by kernel_rfl) (by simp) ?_
          refine AllReadyH.cons rfl (fun K hK => ?_) (AllReadyH.nil)
          go_simp
          have hP57 := Blk.new W56 89 #[.slice (some ⟨g53, 0, none⟩) lW cap53, .slice (some ⟨g54, 0, none⟩) lD cap54, .slice (some ⟨g56, 0, none⟩) lT cap56, .int .i64 rel]
          have bw57 : Below w.heap.size w (W56.alloc (.cells #[.slice (some ⟨g53, 0, none⟩) lW cap53, .slice (some ⟨g54, 0, none⟩) lD cap54, .slice (some ⟨g56, 0, none⟩) lT cap56, .int .i64 rel] 89)) := bw56.alloc bw56.size _
          have HZ57 := Lib.hid (copy_fit HNs.out r56W r56D hr56 HEW.out HED.out HET.out HRel.out (n54W) hP57 (lo53) (lo54) (lo56) bw56.size bw57)
          refine hK.out _ _ (SK.out _ bw57) (fun hHeld => ?_)
          clear hK K
          (try dsimp only [Act.put]); (try simp only [Act.put, List.setIfInBounds_toArray, List.set_cons_zero, List.set_cons_succ])
          refine wpAnyH_ready (rs := [24]) (by kernel_rfl) (by simp) ?_
          refine AllReadyH.cons rfl (fun K hK => ?_) (AllReadyH.nil)
          go_simp
          refine hK.out _ _ (by assumption) (fun hHeld => ?_)
          clear hK K
          (try dsimp only [Act.put]); (try simp only [Act.put, List.setIfInBounds_toArray, List.set_cons_zero, List.set_cons_succ])
          refine wpAnyH_done (by kernel_rfl) ?_ _
          go_wp2_with fail
          go_ret
          exact HZ57.out
        · go_simp
          have ba59 : Below W53.heap.size W53 (W53.alloc (.cells #[] 91)) := (Below.refl _ _).alloc (Nat.le_refl _) _
          have r59 := World.ownsRow_lit (base := w.heap.size) (e := 91) (size := 11) W53 #[] 0 bw53.size (by unfold maxLen; omega) rfl
          have g59 : W53.heap.size < (W53.alloc (.cells #[] 91)).heap.size := by rw [World.size_alloc]; omega
          have r59D := row_ownkeep r53D (Keep.ofBelow (Q := fun _ => False) ba59) (fun _ _ h => h)
          have n59D : B51 ≠ W53.heap.size := by have := l53D; omega
          have l59D : B51 < (W53.alloc (.cells #[] 91)).heap.size := by rw [World.size_alloc]; have := l53D; omega
          have r59W := row_ownkeep hr53 (Keep.ofBelow (Q := fun _ => False) ba59) (fun _ _ h => h)
          have n59W : g53 ≠ W53.heap.size := by have := lt53; omega
          have l59W : g53 < (W53.alloc (.cells #[] 91)).heap.size := by rw [World.size_alloc]; have := lt53; omega
          have b59 : w.heap.size ≤ W53.heap.size := bw53.size
          have bw59 := bw53.trans (ba59.mono bw53.size)
          generalize hW59 : World.alloc _ _ = W59 at *
          generalize hB59 : W53.heap.size = B59 at *
          clear hW59
          refine hK.out _ _ (SK.out _ bw59) (fun hHeld => ?_)
          clear hK K
          (try dsimp only [Act.put]); (try simp only [Act.put, List.setIfInBounds_toArray, List.set_cons_zero, List.set_cons_succ])
          refine wpAnyH_ready (rs := [11]) (by kernel_rfl) (by simp) ?_
          refine AllReadyH.cons rfl (fun K hK => ?_) (AllReadyH.nil)
          refine wp_append_own2 W59 _ _ 30 rfl w.heap.size 3 iW (.int .i64 0) 1 8 Try.underlying30 hizW hzzW hszW hbzW rfl (by decide) (.slice (some ⟨B51, 0, none⟩) 0 0) 0 [] rfl (by simpa using r59D) ⟨p.D, 0, none⟩ lD _ ND rfl HLD.out (fun j u hj => HCD.out _ bw59 j u hj) H1D.out (by unfold maxLen; omega) (by omega) bw59.size (by omega) ?_
          intro g60 cap60 W60 hr60 hg60 ho60
          have kp60 : Keep (fun b => b = B51) W59 W60 := ⟨hg60.os, hg60.tape, hg60.output, hg60.size, fun b hb hn => hg60.block b hb (fun e => hn (by simpa [Value.ownBlock] using e))⟩
          replace hr60 := (show W60.ownsRow w.heap.size 3 1 (.slice (some ⟨g60, 0, none⟩) lD cap60) lD ND from by simpa using hr60)
          have hq60 : g60 = B51 ∨ W59.heap.size ≤ g60 := by rcases ho60 with h | h; exact .inl (by simpa [Value.ownBlock, eq_comm] using h); exact .inr h
          have lt60 : g60 < W60.heap.size := (row_lt hr60 rfl).1
          have lo60 : w.heap.size ≤ g60 := by have := b51; have := bw59.size; omega
          have r60W := row_ownkeep r59W kp60 (fun b hb e => by have e2 : g53 = b := (by simpa [Value.ownBlock] using hb); exact (n53D.symm) (e2.trans e))
          have n60W : g53 ≠ g60 := by have := l59W; have := n53D.symm; omega
          have l60W : g53 < W60.heap.size := by have := l59W; have := hg60.size; omega
          have r60T := row_ownkeep r59 kp60 (fun b hb e => by have e2 : B59 = b := (by simpa [Value.ownBlock] using hb); exact (n59D.symm) (e2.trans e))
          have n60T : B59 ≠ g60 := by have := g59; have := n59D.symm; omega
          have l60T : B59 < W60.heap.size := by have := g59; have := hg60.size; omega
          have bw60 := bw59.trans (kp60.below bw59.size (fun b _ e => by have e2 : b = B51 := e; have := b51; omega))
          refine hK.out _ _ (SK.out _ bw60) (fun hHeld => ?_)
          clear hK K
          (try dsimp only [Act.put]); (try simp only [Act.put, List.setIfInBounds_toArray, List.set_cons_zero, List.set_cons_succ])
          refine wpAnyH_ready (rs := [17]) (by kernel_rfl) (by simp) ?_
          refine AllReadyH.cons rfl (fun K hK => ?_) (AllReadyH.nil)
          refine wp_append_own2 W60 _ _ 87 rfl w.heap.size 91 iT (.agg (rthC rth0).toArray) 11 88 Try.underlying87 hizT hzzT hszT hbzT rfl (by decide) (.slice (some ⟨B59, 0, none⟩) 0 0) 0 [] rfl (by simpa using r60T) ⟨p.T, 0, none⟩ lT _ NT rfl HLT.out (fun j u hj => HCT.out _ bw60 j u hj) H1T.out (by unfold maxLen; omega) (by omega) bw60.size (by omega) ?_
          intro g61 cap61 W61 hr61 hg61 ho61
          have kp61 : Keep (fun b => b = B59) W60 W61 := ⟨hg61.os, hg61.tape, hg61.output, hg61.size, fun b hb hn => hg61.block b hb (fun e => hn (by simpa [Value.ownBlock] using e))⟩
          replace hr61 := (show W61.ownsRow w.heap.size 91 11 (.slice (some ⟨g61, 0, none⟩) lT cap61) lT NT from by simpa using hr61)
          have hq61 : g61 = B59 ∨ W60.heap.size ≤ g61 := by rcases ho61 with h | h; exact .inl (by simpa [Value.ownBlock, eq_comm] using h); exact .inr h
          have lt61 : g61 < W61.heap.size := (row_lt hr61 rfl).1
          have lo61 : w.heap.size ≤ g61 := by have := b59; have := bw60.size; omega
          have r61D := row_ownkeep hr60 kp61 (fun b hb e => by have e2 : g60 = b := (by simpa [Value.ownBlock] using hb); exact (n60T.symm) (e2.trans e))
          have n61D : g60 ≠ g61 := by have := lt60; have := n60T.symm; omega
          have l61D : g60 < W61.heap.size := by have := lt60; have := hg61.size; omega
          have r61W := row_ownkeep r60W kp61 (fun b hb e => by have e2 : g53 = b := (by simpa [Value.ownBlock] using hb); exact (n59W) (e2.trans e))
          have n61W : g53 ≠ g61 := by have := l60W; have := n59W; omega
          have l61W : g53 < W61.heap.size := by have := l60W; have := hg61.size; omega
          have bw61 := bw60.trans (kp61.below bw60.size (fun b _ e => by have e2 : b = B59 := e; have := b59; omega))
          refine hK.out _ _ (SK.out _ bw61) (fun hHeld => ?_)
          clear hK K
          (try dsimp only [Act.put]); (try simp only [Act.put, List.setIfInBounds_toArray, List.set_cons_zero, List.set_cons_succ])
          refine wpAnyH_take (i := 22) (oi := { dst := some 25, op := Op.build 89 #[(0, Operand.tmp 8), (1, Operand.tmp 14), (2, Operand.tmp 20), (3, Operand.tmp 24)], type := 89, pos := "kit.go:9", after := #[{ on := 5, ground := Ground.data }, { on := 11, ground := Ground.data }, { on := 17, ground := Ground.data }, { on := 21, ground := Ground.data }], guard := none }) (v := ?_) rfl (by kernel_rfl) (by kernel_rfl) (by kernel_rfl) (fun _ _ _ h => h) (Or.inl ⟨by rfl, ?_⟩) (by assumption) ?_
          rotate_left
          · intro w hSw; (try dsimp only at hSw); go_simp; try with_reducible rfl
          (try simp only [Act.put, List.setIfInBounds_toArray, List.set_cons_zero, List.set_cons_succ])
          refine wpAnyH_ready (rs := [23]) (by kernel_rfl) (by simp) ?_
          refine AllReadyH.cons rfl (fun K hK => ?_) (AllReadyH.nil)
          go_simp
          have hP62 := Blk.new W61 89 #[.slice (some ⟨g53, 0, none⟩) lW cap53, .slice (some ⟨g60, 0, none⟩) lD cap60, .slice (some ⟨g61, 0, none⟩) lT cap61, .int .i64 rel]
          have bw62 : Below w.heap.size w (W61.alloc (.cells #[.slice (some ⟨g53, 0, none⟩) lW cap53, .slice (some ⟨g60, 0, none⟩) lD cap60, .slice (some ⟨g61, 0, none⟩) lT cap61, .int .i64 rel] 89)) := bw61.alloc bw61.size _
          have HZ62 := Lib.hid (copy_fit HNs.out r61W r61D hr61 HEW.out HED.out HET.out HRel.out (n60W) hP62 (lo53) (lo60) (lo61) bw61.size bw62)
          refine hK.out _ _ (SK.out _ bw62) (fun hHeld => ?_)
          clear hK K
          (try dsimp only [Act.put]); (try simp only [Act.put, List.setIfInBounds_toArray, List.set_cons_zero, List.set_cons_succ])
          refine wpAnyH_ready (rs := [24]) (by kernel_rfl) (by simp) ?_
          refine AllReadyH.cons rfl (fun K hK => ?_) (AllReadyH.nil)
          go_simp
          refine hK.out _ _ (by assumption) (fun hHeld => ?_)
          clear hK K
          (try dsimp only [Act.put]); (try simp only [Act.put, List.setIfInBounds_toArray, List.set_cons_zero, List.set_cons_succ])
          refine wpAnyH_done (by kernel_rfl) ?_ _
          go_wp2_with fail
          go_ret
          exact HZ62.out
      · go_simp
        have ba64 : Below W52.heap.size W52 (W52.alloc (.cells #[] 91)) := (Below.refl _ _).alloc (Nat.le_refl _) _
        have r64 := World.ownsRow_lit (base := w.heap.size) (e := 91) (size := 11) W52 #[] 0 bw52.size (by unfold maxLen; omega) rfl
        have g64 : W52.heap.size < (W52.alloc (.cells #[] 91)).heap.size := by rw [World.size_alloc]; omega
        have r64D := row_ownkeep r52D (Keep.ofBelow (Q := fun _ => False) ba64) (fun _ _ h => h)
        have n64D : B51 ≠ W52.heap.size := by have := l52D; omega
        have l64D : B51 < (W52.alloc (.cells #[] 91)).heap.size := by rw [World.size_alloc]; have := l52D; omega
        have r64W := row_ownkeep r52 (Keep.ofBelow (Q := fun _ => False) ba64) (fun _ _ h => h)
        have n64W : B52 ≠ W52.heap.size := by have := g52; omega
        have l64W : B52 < (W52.alloc (.cells #[] 91)).heap.size := by rw [World.size_alloc]; have := g52; omega
        have b64 : w.heap.size ≤ W52.heap.size := bw52.size
        have bw64 := bw52.trans (ba64.mono bw52.size)
        generalize hW64 : World.alloc _ _ = W64 at *
        generalize hB64 : W52.heap.size = B64 at *
        clear hW64
        refine hK.out _ _ (SK.out _ bw64) (fun hHeld => ?_)
        clear hK K
        (try dsimp only [Act.put]); (try simp only [Act.put, List.setIfInBounds_toArray, List.set_cons_zero, List.set_cons_succ])
        refine wpAnyH_ready (rs := [5]) (by kernel_rfl) (by simp) ?_
        refine AllReadyH.cons rfl (fun K hK => ?_) (AllReadyH.nil)
        refine wp_append_own2 W64 _ _ 30 rfl w.heap.size 3 iW (.int .i64 0) 1 8 Try.underlying30 hizW hzzW hszW hbzW rfl (by decide) (.slice (some ⟨B52, 0, none⟩) 0 0) 0 [] rfl (by simpa using r64W) ⟨p.W, 0, none⟩ lW _ NW rfl HLW.out (fun j u hj => HCW.out _ bw64 j u hj) H1W.out (by unfold maxLen; omega) (by omega) bw64.size (by omega) ?_
        intro g65 cap65 W65 hr65 hg65 ho65
        have kp65 : Keep (fun b => b = B52) W64 W65 := ⟨hg65.os, hg65.tape, hg65.output, hg65.size, fun b hb hn => hg65.block b hb (fun e => hn (by simpa [Value.ownBlock] using e))⟩
        replace hr65 := (show W65.ownsRow w.heap.size 3 1 (.slice (some ⟨g65, 0, none⟩) lW cap65) lW NW from by simpa using hr65)
        have hq65 : g65 = B52 ∨ W64.heap.size ≤ g65 := by rcases ho65 with h | h; exact .inl (by simpa [Value.ownBlock, eq_comm] using h); exact .inr h
        have lt65 : g65 < W65.heap.size := (row_lt hr65 rfl).1
        have lo65 : w.heap.size ≤ g65 := by have := b52; have := bw64.size; omega
        have r65D := row_ownkeep r64D kp65 (fun b hb e => by have e2 : B51 = b := (by simpa [Value.ownBlock] using hb); exact (n52D) (e2.trans e))
        have n65D : B51 ≠ g65 := by have := l64D; have := n52D; omega
        have l65D : B51 < W65.heap.size := by have := l64D; have := hg65.size; omega
        have r65T := row_ownkeep r64 kp65 (fun b hb e => by have e2 : B64 = b := (by simpa [Value.ownBlock] using hb); exact (n64W.symm) (e2.trans e))
        have n65T : B64 ≠ g65 := by have := g64; have := n64W.symm; omega
        have l65T : B64 < W65.heap.size := by have := g64; have := hg65.size; omega
        have bw65 := bw64.trans (kp65.below bw64.size (fun b _ e => by have e2 : b = B52 := e; have := b52; omega))
        refine hK.out _ _ (SK.out _ bw65) (fun hHeld => ?_)
        clear hK K
        (try dsimp only [Act.put]); (try simp only [Act.put, List.setIfInBounds_toArray, List.set_cons_zero, List.set_cons_succ])
        refine wpAnyH_ready (rs := [11]) (by kernel_rfl) (by simp) ?_
        refine AllReadyH.cons rfl (fun K hK => ?_) (AllReadyH.nil)
        refine wp_append_own2 W65 _ _ 30 rfl w.heap.size 3 iW (.int .i64 0) 1 8 Try.underlying30 hizW hzzW hszW hbzW rfl (by decide) (.slice (some ⟨B51, 0, none⟩) 0 0) 0 [] rfl (by simpa using r65D) ⟨p.D, 0, none⟩ lD _ ND rfl HLD.out (fun j u hj => HCD.out _ bw65 j u hj) H1D.out (by unfold maxLen; omega) (by omega) bw65.size (by omega) ?_
        intro g66 cap66 W66 hr66 hg66 ho66
        have kp66 : Keep (fun b => b = B51) W65 W66 := ⟨hg66.os, hg66.tape, hg66.output, hg66.size, fun b hb hn => hg66.block b hb (fun e => hn (by simpa [Value.ownBlock] using e))⟩
        replace hr66 := (show W66.ownsRow w.heap.size 3 1 (.slice (some ⟨g66, 0, none⟩) lD cap66) lD ND from by simpa using hr66)
        have hq66 : g66 = B51 ∨ W65.heap.size ≤ g66 := by rcases ho66 with h | h; exact .inl (by simpa [Value.ownBlock, eq_comm] using h); exact .inr h
        have lt66 : g66 < W66.heap.size := (row_lt hr66 rfl).1
        have lo66 : w.heap.size ≤ g66 := by have := b51; have := bw65.size; omega
        have r66W := row_ownkeep hr65 kp66 (fun b hb e => by have e2 : g65 = b := (by simpa [Value.ownBlock] using hb); exact (n65D.symm) (e2.trans e))
        have n66W : g65 ≠ g66 := by have := lt65; have := n65D.symm; omega
        have l66W : g65 < W66.heap.size := by have := lt65; have := hg66.size; omega
        have r66T := row_ownkeep r65T kp66 (fun b hb e => by have e2 : B64 = b := (by simpa [Value.ownBlock] using hb); exact (n64D.symm) (e2.trans e))
        have n66T : B64 ≠ g66 := by have := l65T; have := n64D.symm; omega
        have l66T : B64 < W66.heap.size := by have := l65T; have := hg66.size; omega
        have bw66 := bw65.trans (kp66.below bw65.size (fun b _ e => by have e2 : b = B51 := e; have := b51; omega))
        refine hK.out _ _ (SK.out _ bw66) (fun hHeld => ?_)
        clear hK K
        (try dsimp only [Act.put]); (try simp only [Act.put, List.setIfInBounds_toArray, List.set_cons_zero, List.set_cons_succ])
        refine wpAnyH_ready (rs := [17]) (by kernel_rfl) (by simp) ?_
        refine AllReadyH.cons rfl (fun K hK => ?_) (AllReadyH.nil)
        refine wp_append_own2 W66 _ _ 87 rfl w.heap.size 91 iT (.agg (rthC rth0).toArray) 11 88 Try.underlying87 hizT hzzT hszT hbzT rfl (by decide) (.slice (some ⟨B64, 0, none⟩) 0 0) 0 [] rfl (by simpa using r66T) ⟨p.T, 0, none⟩ lT _ NT rfl HLT.out (fun j u hj => HCT.out _ bw66 j u hj) H1T.out (by unfold maxLen; omega) (by omega) bw66.size (by omega) ?_
        intro g67 cap67 W67 hr67 hg67 ho67
        have kp67 : Keep (fun b => b = B64) W66 W67 := ⟨hg67.os, hg67.tape, hg67.output, hg67.size, fun b hb hn => hg67.block b hb (fun e => hn (by simpa [Value.ownBlock] using e))⟩
        replace hr67 := (show W67.ownsRow w.heap.size 91 11 (.slice (some ⟨g67, 0, none⟩) lT cap67) lT NT from by simpa using hr67)
        have hq67 : g67 = B64 ∨ W66.heap.size ≤ g67 := by rcases ho67 with h | h; exact .inl (by simpa [Value.ownBlock, eq_comm] using h); exact .inr h
        have lt67 : g67 < W67.heap.size := (row_lt hr67 rfl).1
        have lo67 : w.heap.size ≤ g67 := by have := b64; have := bw66.size; omega
        have r67D := row_ownkeep hr66 kp67 (fun b hb e => by have e2 : g66 = b := (by simpa [Value.ownBlock] using hb); exact (n66T.symm) (e2.trans e))
        have n67D : g66 ≠ g67 := by have := lt66; have := n66T.symm; omega
        have l67D : g66 < W67.heap.size := by have := lt66; have := hg67.size; omega
        have r67W := row_ownkeep r66W kp67 (fun b hb e => by have e2 : g65 = b := (by simpa [Value.ownBlock] using hb); exact (n65T.symm) (e2.trans e))
        have n67W : g65 ≠ g67 := by have := l66W; have := n65T.symm; omega
        have l67W : g65 < W67.heap.size := by have := l66W; have := hg67.size; omega
        have bw67 := bw66.trans (kp67.below bw66.size (fun b _ e => by have e2 : b = B64 := e; have := b64; omega))
        refine hK.out _ _ (SK.out _ bw67) (fun hHeld => ?_)
        clear hK K
        (try dsimp only [Act.put]); (try simp only [Act.put, List.setIfInBounds_toArray, List.set_cons_zero, List.set_cons_succ])
        refine wpAnyH_take (i := 22) (oi := { dst := some 25, op := Op.build 89 #[(0, Operand.tmp 8), (1, Operand.tmp 14), (2, Operand.tmp 20), (3, Operand.tmp 24)], type := 89, pos := "kit.go:9", after := #[{ on := 5, ground := Ground.data }, { on := 11, ground := Ground.data }, { on := 17, ground := Ground.data }, { on := 21, ground := Ground.data }], guard := none }) (v := ?_) rfl (by kernel_rfl) (by kernel_rfl) (by kernel_rfl) (fun _ _ _ h => h) (Or.inl ⟨by rfl, ?_⟩) (by assumption) ?_
        rotate_left
        · intro w hSw; (try dsimp only at hSw); go_simp; try with_reducible rfl
        (try simp only [Act.put, List.setIfInBounds_toArray, List.set_cons_zero, List.set_cons_succ])
        refine wpAnyH_ready (rs := [23]) (by kernel_rfl) (by simp) ?_
        refine AllReadyH.cons rfl (fun K hK => ?_) (AllReadyH.nil)
        go_simp
        have hP68 := Blk.new W67 89 #[.slice (some ⟨g65, 0, none⟩) lW cap65, .slice (some ⟨g66, 0, none⟩) lD cap66, .slice (some ⟨g67, 0, none⟩) lT cap67, .int .i64 rel]
        have bw68 : Below w.heap.size w (W67.alloc (.cells #[.slice (some ⟨g65, 0, none⟩) lW cap65, .slice (some ⟨g66, 0, none⟩) lD cap66, .slice (some ⟨g67, 0, none⟩) lT cap67, .int .i64 rel] 89)) := bw67.alloc bw67.size _
        have HZ68 := Lib.hid (copy_fit HNs.out r67W r67D hr67 HEW.out HED.out HET.out HRel.out (n66W) hP68 (lo65) (lo66) (lo67) bw67.size bw68)
        refine hK.out _ _ (SK.out _ bw68) (fun hHeld => ?_)
        clear hK K
        (try dsimp only [Act.put]); (try simp only [Act.put, List.setIfInBounds_toArray, List.set_cons_zero, List.set_cons_succ])
        refine wpAnyH_ready (rs := [24]) (by kernel_rfl) (by simp) ?_
        refine AllReadyH.cons rfl (fun K hK => ?_) (AllReadyH.nil)
        go_simp
        refine hK.out _ _ (by assumption) (fun hHeld => ?_)
        clear hK K
        (try dsimp only [Act.put]); (try simp only [Act.put, List.setIfInBounds_toArray, List.set_cons_zero, List.set_cons_succ])
        refine wpAnyH_done (by kernel_rfl) ?_ _
        go_wp2_with fail
        go_ret
        exact HZ68.out
    · go_simp
      have ba70 : Below W51.heap.size W51 (W51.alloc (.cells #[] 91)) := (Below.refl _ _).alloc (Nat.le_refl _) _
      have r70 := World.ownsRow_lit (base := w.heap.size) (e := 91) (size := 11) W51 #[] 0 bw51.size (by unfold maxLen; omega) rfl
      have g70 : W51.heap.size < (W51.alloc (.cells #[] 91)).heap.size := by rw [World.size_alloc]; omega
      have r70D := row_ownkeep r51 (Keep.ofBelow (Q := fun _ => False) ba70) (fun _ _ h => h)
      have n70D : B51 ≠ W51.heap.size := by have := g51; omega
      have l70D : B51 < (W51.alloc (.cells #[] 91)).heap.size := by rw [World.size_alloc]; have := g51; omega
      have b70 : w.heap.size ≤ W51.heap.size := bw51.size
      have bw70 := bw51.trans (ba70.mono bw51.size)
      generalize hW70 : World.alloc _ _ = W70 at *
      generalize hB70 : W51.heap.size = B70 at *
      clear hW70
      refine hK.out _ _ (SK.out _ bw70) (fun hHeld => ?_)
      clear hK K
      (try dsimp only [Act.put]); (try simp only [Act.put, List.setIfInBounds_toArray, List.set_cons_zero, List.set_cons_succ])
      refine wpAnyH_ready (rs := [0]) (by kernel_rfl) (by simp) ?_
      refine AllReadyH.cons rfl (fun K hK => ?_) (AllReadyH.nil)
      go_simp
      have ba71 : Below W70.heap.size W70 (W70.alloc (.cells #[] 3)) := (Below.refl _ _).alloc (Nat.le_refl _) _
      have r71 := World.ownsRow_lit (base := w.heap.size) (e := 3) (size := 1) W70 #[] 0 bw70.size (by unfold maxLen; omega) rfl
      have g71 : W70.heap.size < (W70.alloc (.cells #[] 3)).heap.size := by rw [World.size_alloc]; omega
      have r71D := row_ownkeep r70D (Keep.ofBelow (Q := fun _ => False) ba71) (fun _ _ h => h)
      have n71D : B51 ≠ W70.heap.size := by have := l70D; omega
      have l71D : B51 < (W70.alloc (.cells #[] 3)).heap.size := by rw [World.size_alloc]; have := l70D; omega
      have r71T := row_ownkeep r70 (Keep.ofBelow (Q := fun _ => False) ba71) (fun _ _ h => h)
      have n71T : B70 ≠ W70.heap.size := by have := g70; omega
      have l71T : B70 < (W70.alloc (.cells #[] 3)).heap.size := by rw [World.size_alloc]; have := g70; omega
      have b71 : w.heap.size ≤ W70.heap.size := bw70.size
      have bw71 := bw70.trans (ba71.mono bw70.size)
      generalize hW71 : World.alloc _ _ = W71 at *
      generalize hB71 : W70.heap.size = B71 at *
      clear hW71
      refine hK.out _ _ (SK.out _ bw71) (fun hHeld => ?_)
      clear hK K
      (try dsimp only [Act.put]); (try simp only [Act.put, List.setIfInBounds_toArray, List.set_cons_zero, List.set_cons_succ])
      refine wpAnyH_ready (rs := [5]) (by kernel_rfl) (by simp) ?_
      refine AllReadyH.cons rfl (fun K hK => ?_) (AllReadyH.nil)
      refine wp_append_own2 W71 _ _ 30 rfl w.heap.size 3 iW (.int .i64 0) 1 8 Try.underlying30 hizW hzzW hszW hbzW rfl (by decide) (.slice (some ⟨B71, 0, none⟩) 0 0) 0 [] rfl (by simpa using r71) ⟨p.W, 0, none⟩ lW _ NW rfl HLW.out (fun j u hj => HCW.out _ bw71 j u hj) H1W.out (by unfold maxLen; omega) (by omega) bw71.size (by omega) ?_
      intro g72 cap72 W72 hr72 hg72 ho72
      have kp72 : Keep (fun b => b = B71) W71 W72 := ⟨hg72.os, hg72.tape, hg72.output, hg72.size, fun b hb hn => hg72.block b hb (fun e => hn (by simpa [Value.ownBlock] using e))⟩
      replace hr72 := (show W72.ownsRow w.heap.size 3 1 (.slice (some ⟨g72, 0, none⟩) lW cap72) lW NW from by simpa using hr72)
      have hq72 : g72 = B71 ∨ W71.heap.size ≤ g72 := by rcases ho72 with h | h; exact .inl (by simpa [Value.ownBlock, eq_comm] using h); exact .inr h
      have lt72 : g72 < W72.heap.size := (row_lt hr72 rfl).1
      have lo72 : w.heap.size ≤ g72 := by have := b71; have := bw71.size; omega
      have r72D := row_ownkeep r71D kp72 (fun b hb e => by have e2 : B51 = b := (by simpa [Value.ownBlock] using hb); exact (n71D) (e2.trans e))
      have n72D : B51 ≠ g72 := by have := l71D; have := n71D; omega
      have l72D : B51 < W72.heap.size := by have := l71D; have := hg72.size; omega
      have r72T := row_ownkeep r71T kp72 (fun b hb e => by have e2 : B70 = b := (by simpa [Value.ownBlock] using hb); exact (n71T) (e2.trans e))
      have n72T : B70 ≠ g72 := by have := l71T; have := n71T; omega
      have l72T : B70 < W72.heap.size := by have := l71T; have := hg72.size; omega
      have bw72 := bw71.trans (kp72.below bw71.size (fun b _ e => by have e2 : b = B71 := e; have := b71; omega))
      refine hK.out _ _ (SK.out _ bw72) (fun hHeld => ?_)
      clear hK K
      (try dsimp only [Act.put]); (try simp only [Act.put, List.setIfInBounds_toArray, List.set_cons_zero, List.set_cons_succ])
      refine wpAnyH_ready (rs := [11]) (by kernel_rfl) (by simp) ?_
      refine AllReadyH.cons rfl (fun K hK => ?_) (AllReadyH.nil)
      refine wp_append_own2 W72 _ _ 30 rfl w.heap.size 3 iW (.int .i64 0) 1 8 Try.underlying30 hizW hzzW hszW hbzW rfl (by decide) (.slice (some ⟨B51, 0, none⟩) 0 0) 0 [] rfl (by simpa using r72D) ⟨p.D, 0, none⟩ lD _ ND rfl HLD.out (fun j u hj => HCD.out _ bw72 j u hj) H1D.out (by unfold maxLen; omega) (by omega) bw72.size (by omega) ?_
      intro g73 cap73 W73 hr73 hg73 ho73
      have kp73 : Keep (fun b => b = B51) W72 W73 := ⟨hg73.os, hg73.tape, hg73.output, hg73.size, fun b hb hn => hg73.block b hb (fun e => hn (by simpa [Value.ownBlock] using e))⟩
      replace hr73 := (show W73.ownsRow w.heap.size 3 1 (.slice (some ⟨g73, 0, none⟩) lD cap73) lD ND from by simpa using hr73)
      have hq73 : g73 = B51 ∨ W72.heap.size ≤ g73 := by rcases ho73 with h | h; exact .inl (by simpa [Value.ownBlock, eq_comm] using h); exact .inr h
      have lt73 : g73 < W73.heap.size := (row_lt hr73 rfl).1
      have lo73 : w.heap.size ≤ g73 := by have := b51; have := bw72.size; omega
      have r73T := row_ownkeep r72T kp73 (fun b hb e => by have e2 : B70 = b := (by simpa [Value.ownBlock] using hb); exact (n70D.symm) (e2.trans e))
      have n73T : B70 ≠ g73 := by have := l72T; have := n70D.symm; omega
      have l73T : B70 < W73.heap.size := by have := l72T; have := hg73.size; omega
      have r73W := row_ownkeep hr72 kp73 (fun b hb e => by have e2 : g72 = b := (by simpa [Value.ownBlock] using hb); exact (n72D.symm) (e2.trans e))
      have n73W : g72 ≠ g73 := by have := lt72; have := n72D.symm; omega
      have l73W : g72 < W73.heap.size := by have := lt72; have := hg73.size; omega
      have bw73 := bw72.trans (kp73.below bw72.size (fun b _ e => by have e2 : b = B51 := e; have := b51; omega))
      refine hK.out _ _ (SK.out _ bw73) (fun hHeld => ?_)
      clear hK K
      (try dsimp only [Act.put]); (try simp only [Act.put, List.setIfInBounds_toArray, List.set_cons_zero, List.set_cons_succ])
      refine wpAnyH_ready (rs := [17]) (by kernel_rfl) (by simp) ?_
      refine AllReadyH.cons rfl (fun K hK => ?_) (AllReadyH.nil)
      refine wp_append_own2 W73 _ _ 87 rfl w.heap.size 91 iT (.agg (rthC rth0).toArray) 11 88 Try.underlying87 hizT hzzT hszT hbzT rfl (by decide) (.slice (some ⟨B70, 0, none⟩) 0 0) 0 [] rfl (by simpa using r73T) ⟨p.T, 0, none⟩ lT _ NT rfl HLT.out (fun j u hj => HCT.out _ bw73 j u hj) H1T.out (by unfold maxLen; omega) (by omega) bw73.size (by omega) ?_
      intro g74 cap74 W74 hr74 hg74 ho74
      have kp74 : Keep (fun b => b = B70) W73 W74 := ⟨hg74.os, hg74.tape, hg74.output, hg74.size, fun b hb hn => hg74.block b hb (fun e => hn (by simpa [Value.ownBlock] using e))⟩
      replace hr74 := (show W74.ownsRow w.heap.size 91 11 (.slice (some ⟨g74, 0, none⟩) lT cap74) lT NT from by simpa using hr74)
      have hq74 : g74 = B70 ∨ W73.heap.size ≤ g74 := by rcases ho74 with h | h; exact .inl (by simpa [Value.ownBlock, eq_comm] using h); exact .inr h
      have lt74 : g74 < W74.heap.size := (row_lt hr74 rfl).1
      have lo74 : w.heap.size ≤ g74 := by have := b70; have := bw73.size; omega
      have r74D := row_ownkeep hr73 kp74 (fun b hb e => by have e2 : g73 = b := (by simpa [Value.ownBlock] using hb); exact (n73T.symm) (e2.trans e))
      have n74D : g73 ≠ g74 := by have := lt73; have := n73T.symm; omega
      have l74D : g73 < W74.heap.size := by have := lt73; have := hg74.size; omega
      have r74W := row_ownkeep r73W kp74 (fun b hb e => by have e2 : g72 = b := (by simpa [Value.ownBlock] using hb); exact (n72T.symm) (e2.trans e))
      have n74W : g72 ≠ g74 := by have := l73W; have := n72T.symm; omega
      have l74W : g72 < W74.heap.size := by have := l73W; have := hg74.size; omega
      have bw74 := bw73.trans (kp74.below bw73.size (fun b _ e => by have e2 : b = B70 := e; have := b70; omega))
      refine hK.out _ _ (SK.out _ bw74) (fun hHeld => ?_)
      clear hK K
      (try dsimp only [Act.put]); (try simp only [Act.put, List.setIfInBounds_toArray, List.set_cons_zero, List.set_cons_succ])
      refine wpAnyH_take (i := 22) (oi := { dst := some 25, op := Op.build 89 #[(0, Operand.tmp 8), (1, Operand.tmp 14), (2, Operand.tmp 20), (3, Operand.tmp 24)], type := 89, pos := "kit.go:9", after := #[{ on := 5, ground := Ground.data }, { on := 11, ground := Ground.data }, { on := 17, ground := Ground.data }, { on := 21, ground := Ground.data }], guard := none }) (v := ?_) rfl (by kernel_rfl) (by kernel_rfl) (by kernel_rfl) (fun _ _ _ h => h) (Or.inl ⟨by rfl, ?_⟩) (by assumption) ?_
      rotate_left
      · intro w hSw; (try dsimp only at hSw); go_simp; try with_reducible rfl
      (try simp only [Act.put, List.setIfInBounds_toArray, List.set_cons_zero, List.set_cons_succ])
      refine wpAnyH_ready (rs := [23]) (by kernel_rfl) (by simp) ?_
      refine AllReadyH.cons rfl (fun K hK => ?_) (AllReadyH.nil)
      go_simp
      have hP75 := Blk.new W74 89 #[.slice (some ⟨g72, 0, none⟩) lW cap72, .slice (some ⟨g73, 0, none⟩) lD cap73, .slice (some ⟨g74, 0, none⟩) lT cap74, .int .i64 rel]
      have bw75 : Below w.heap.size w (W74.alloc (.cells #[.slice (some ⟨g72, 0, none⟩) lW cap72, .slice (some ⟨g73, 0, none⟩) lD cap73, .slice (some ⟨g74, 0, none⟩) lT cap74, .int .i64 rel] 89)) := bw74.alloc bw74.size _
      have HZ75 := Lib.hid (copy_fit HNs.out r74W r74D hr74 HEW.out HED.out HET.out HRel.out (n73W) hP75 (lo72) (lo73) (lo74) bw74.size bw75)
      refine hK.out _ _ (SK.out _ bw75) (fun hHeld => ?_)
      clear hK K
      (try dsimp only [Act.put]); (try simp only [Act.put, List.setIfInBounds_toArray, List.set_cons_zero, List.set_cons_succ])
      refine wpAnyH_ready (rs := [24]) (by kernel_rfl) (by simp) ?_
      refine AllReadyH.cons rfl (fun K hK => ?_) (AllReadyH.nil)
      go_simp
      refine hK.out _ _ (by assumption) (fun hHeld => ?_)
      clear hK K
      (try dsimp only [Act.put]); (try simp only [Act.put, List.setIfInBounds_toArray, List.set_cons_zero, List.set_cons_succ])
      refine wpAnyH_done (by kernel_rfl) ?_ _
      go_wp2_with fail
      go_ret
      exact HZ75.out
  · go_simp
    have ba77 : Below W0.heap.size W0 (W0.alloc (.cells #[] 91)) := (Below.refl _ _).alloc (Nat.le_refl _) _
    have r77 := World.ownsRow_lit (base := w.heap.size) (e := 91) (size := 11) W0 #[] 0 bd.size (by unfold maxLen; omega) rfl
    have g77 : W0.heap.size < (W0.alloc (.cells #[] 91)).heap.size := by rw [World.size_alloc]; omega
    have b77 : w.heap.size ≤ W0.heap.size := bd.size
    have bw77 := bd.trans (ba77.mono bd.size)
    generalize hW77 : World.alloc _ _ = W77 at *
    generalize hB77 : W0.heap.size = B77 at *
    clear hW77
    refine hK.out _ _ (SK.out _ bw77) (fun hHeld => ?_)
    clear hK K
    (try dsimp only [Act.put]); (try simp only [Act.put, List.setIfInBounds_toArray, List.set_cons_zero, List.set_cons_succ])
    refine wpAnyH_ready (rs := [0, 6]) (by kernel_rfl) (by simp) ?_
    refine AllReadyH.cons rfl (fun K hK => ?_) (AllReadyH.cons rfl (fun K hK => ?_) (AllReadyH.nil))
    · go_simp
      have ba78 : Below W77.heap.size W77 (W77.alloc (.cells #[] 3)) := (Below.refl _ _).alloc (Nat.le_refl _) _
      have r78 := World.ownsRow_lit (base := w.heap.size) (e := 3) (size := 1) W77 #[] 0 bw77.size (by unfold maxLen; omega) rfl
      have g78 : W77.heap.size < (W77.alloc (.cells #[] 3)).heap.size := by rw [World.size_alloc]; omega
      have r78T := row_ownkeep r77 (Keep.ofBelow (Q := fun _ => False) ba78) (fun _ _ h => h)
      have n78T : B77 ≠ W77.heap.size := by have := g77; omega
      have l78T : B77 < (W77.alloc (.cells #[] 3)).heap.size := by rw [World.size_alloc]; have := g77; omega
      have b78 : w.heap.size ≤ W77.heap.size := bw77.size
      have bw78 := bw77.trans (ba78.mono bw77.size)
      generalize hW78 : World.alloc _ _ = W78 at *
      generalize hB78 : W77.heap.size = B78 at *
      clear hW78
      refine hK.out _ _ (SK.out _ bw78) (fun hHeld => ?_)
      clear hK K
      (try dsimp only [Act.put]); (try simp only [Act.put, List.setIfInBounds_toArray, List.set_cons_zero, List.set_cons_succ])
      refine wpAnyH_ready (rs := [5, 6]) (by kernel_rfl) (by simp) ?_
      refine AllReadyH.cons rfl (fun K hK => ?_) (AllReadyH.cons rfl (fun K hK => ?_) (AllReadyH.nil))
      · refine wp_append_own2 W78 _ _ 30 rfl w.heap.size 3 iW (.int .i64 0) 1 8 Try.underlying30 hizW hzzW hszW hbzW rfl (by decide) (.slice (some ⟨B78, 0, none⟩) 0 0) 0 [] rfl (by simpa using r78) ⟨p.W, 0, none⟩ lW _ NW rfl HLW.out (fun j u hj => HCW.out _ bw78 j u hj) H1W.out (by unfold maxLen; omega) (by omega) bw78.size (by omega) ?_
        intro g79 cap79 W79 hr79 hg79 ho79
        have kp79 : Keep (fun b => b = B78) W78 W79 := ⟨hg79.os, hg79.tape, hg79.output, hg79.size, fun b hb hn => hg79.block b hb (fun e => hn (by simpa [Value.ownBlock] using e))⟩
        replace hr79 := (show W79.ownsRow w.heap.size 3 1 (.slice (some ⟨g79, 0, none⟩) lW cap79) lW NW from by simpa using hr79)
        have hq79 : g79 = B78 ∨ W78.heap.size ≤ g79 := by rcases ho79 with h | h; exact .inl (by simpa [Value.ownBlock, eq_comm] using h); exact .inr h
        have lt79 : g79 < W79.heap.size := (row_lt hr79 rfl).1
        have lo79 : w.heap.size ≤ g79 := by have := b78; have := bw78.size; omega
        have r79T := row_ownkeep r78T kp79 (fun b hb e => by have e2 : B77 = b := (by simpa [Value.ownBlock] using hb); exact (n78T) (e2.trans e))
        have n79T : B77 ≠ g79 := by have := l78T; have := n78T; omega
        have l79T : B77 < W79.heap.size := by have := l78T; have := hg79.size; omega
        have bw79 := bw78.trans (kp79.below bw78.size (fun b _ e => by have e2 : b = B78 := e; have := b78; omega))
        refine hK.out _ _ (SK.out _ bw79) (fun hHeld => ?_)
        clear hK K
        (try dsimp only [Act.put]); (try simp only [Act.put, List.setIfInBounds_toArray, List.set_cons_zero, List.set_cons_succ])
        refine wpAnyH_ready (rs := [6]) (by kernel_rfl) (by simp) ?_
        refine AllReadyH.cons rfl (fun K hK => ?_) (AllReadyH.nil)
        go_simp
        have ba80 : Below W79.heap.size W79 (W79.alloc (.cells #[] 3)) := (Below.refl _ _).alloc (Nat.le_refl _) _
        have r80 := World.ownsRow_lit (base := w.heap.size) (e := 3) (size := 1) W79 #[] 0 bw79.size (by unfold maxLen; omega) rfl
        have g80 : W79.heap.size < (W79.alloc (.cells #[] 3)).heap.size := by rw [World.size_alloc]; omega
        have r80T := row_ownkeep r79T (Keep.ofBelow (Q := fun _ => False) ba80) (fun _ _ h => h)
        have n80T : B77 ≠ W79.heap.size := by have := l79T; omega
        have l80T : B77 < (W79.alloc (.cells #[] 3)).heap.size := by rw [World.size_alloc]; have := l79T; omega
        have r80W := row_ownkeep hr79 (Keep.ofBelow (Q := fun _ => False) ba80) (fun _ _ h => h)
        have n80W : g79 ≠ W79.heap.size := by have := lt79; omega
        have l80W : g79 < (W79.alloc (.cells #[] 3)).heap.size := by rw [World.size_alloc]; have := lt79; omega
        have b80 : w.heap.size ≤ W79.heap.size := bw79.size
        have bw80 := bw79.trans (ba80.mono bw79.size)
        generalize hW80 : World.alloc _ _ = W80 at *
        generalize hB80 : W79.heap.size = B80 at *
        clear hW80
        refine hK.out _ _ (SK.out _ bw80) (fun hHeld => ?_)
        clear hK K
        (try dsimp only [Act.put]); (try simp only [Act.put, List.setIfInBounds_toArray, List.set_cons_zero, List.set_cons_succ])
        refine wpAnyH_ready (rs := [11]) (by kernel_rfl) (by simp) ?_
        refine AllReadyH.cons rfl (fun K hK => ?_) (AllReadyH.nil)
        refine wp_append_own2 W80 _ _ 30 rfl w.heap.size 3 iW (.int .i64 0) 1 8 Try.underlying30 hizW hzzW hszW hbzW rfl (by decide) (.slice (some ⟨B80, 0, none⟩) 0 0) 0 [] rfl (by simpa using r80) ⟨p.D, 0, none⟩ lD _ ND rfl HLD.out (fun j u hj => HCD.out _ bw80 j u hj) H1D.out (by unfold maxLen; omega) (by omega) bw80.size (by omega) ?_
        intro g81 cap81 W81 hr81 hg81 ho81
        have kp81 : Keep (fun b => b = B80) W80 W81 := ⟨hg81.os, hg81.tape, hg81.output, hg81.size, fun b hb hn => hg81.block b hb (fun e => hn (by simpa [Value.ownBlock] using e))⟩
        replace hr81 := (show W81.ownsRow w.heap.size 3 1 (.slice (some ⟨g81, 0, none⟩) lD cap81) lD ND from by simpa using hr81)
        have hq81 : g81 = B80 ∨ W80.heap.size ≤ g81 := by rcases ho81 with h | h; exact .inl (by simpa [Value.ownBlock, eq_comm] using h); exact .inr h
        have lt81 : g81 < W81.heap.size := (row_lt hr81 rfl).1
        have lo81 : w.heap.size ≤ g81 := by have := b80; have := bw80.size; omega
        have r81T := row_ownkeep r80T kp81 (fun b hb e => by have e2 : B77 = b := (by simpa [Value.ownBlock] using hb); exact (n80T) (e2.trans e))
        have n81T : B77 ≠ g81 := by have := l80T; have := n80T; omega
        have l81T : B77 < W81.heap.size := by have := l80T; have := hg81.size; omega
        have r81W := row_ownkeep r80W kp81 (fun b hb e => by have e2 : g79 = b := (by simpa [Value.ownBlock] using hb); exact (n80W) (e2.trans e))
        have n81W : g79 ≠ g81 := by have := l80W; have := n80W; omega
        have l81W : g79 < W81.heap.size := by have := l80W; have := hg81.size; omega
        have bw81 := bw80.trans (kp81.below bw80.size (fun b _ e => by have e2 : b = B80 := e; have := b80; omega))
        refine hK.out _ _ (SK.out _ bw81) (fun hHeld => ?_)
        clear hK K
        (try dsimp only [Act.put]); (try simp only [Act.put, List.setIfInBounds_toArray, List.set_cons_zero, List.set_cons_succ])
        refine wpAnyH_ready (rs := [17]) (by kernel_rfl) (by simp) ?_
        refine AllReadyH.cons rfl (fun K hK => ?_) (AllReadyH.nil)
        refine wp_append_own2 W81 _ _ 87 rfl w.heap.size 91 iT (.agg (rthC rth0).toArray) 11 88 Try.underlying87 hizT hzzT hszT hbzT rfl (by decide) (.slice (some ⟨B77, 0, none⟩) 0 0) 0 [] rfl (by simpa using r81T) ⟨p.T, 0, none⟩ lT _ NT rfl HLT.out (fun j u hj => HCT.out _ bw81 j u hj) H1T.out (by unfold maxLen; omega) (by omega) bw81.size (by omega) ?_
        intro g82 cap82 W82 hr82 hg82 ho82
        have kp82 : Keep (fun b => b = B77) W81 W82 := ⟨hg82.os, hg82.tape, hg82.output, hg82.size, fun b hb hn => hg82.block b hb (fun e => hn (by simpa [Value.ownBlock] using e))⟩
        replace hr82 := (show W82.ownsRow w.heap.size 91 11 (.slice (some ⟨g82, 0, none⟩) lT cap82) lT NT from by simpa using hr82)
        have hq82 : g82 = B77 ∨ W81.heap.size ≤ g82 := by rcases ho82 with h | h; exact .inl (by simpa [Value.ownBlock, eq_comm] using h); exact .inr h
        have lt82 : g82 < W82.heap.size := (row_lt hr82 rfl).1
        have lo82 : w.heap.size ≤ g82 := by have := b77; have := bw81.size; omega
        have r82W := row_ownkeep r81W kp82 (fun b hb e => by have e2 : g79 = b := (by simpa [Value.ownBlock] using hb); exact (n79T.symm) (e2.trans e))
        have n82W : g79 ≠ g82 := by have := l81W; have := n79T.symm; omega
        have l82W : g79 < W82.heap.size := by have := l81W; have := hg82.size; omega
        have r82D := row_ownkeep hr81 kp82 (fun b hb e => by have e2 : g81 = b := (by simpa [Value.ownBlock] using hb); exact (n81T.symm) (e2.trans e))
        have n82D : g81 ≠ g82 := by have := lt81; have := n81T.symm; omega
        have l82D : g81 < W82.heap.size := by have := lt81; have := hg82.size; omega
        have bw82 := bw81.trans (kp82.below bw81.size (fun b _ e => by have e2 : b = B77 := e; have := b77; omega))
        refine hK.out _ _ (SK.out _ bw82) (fun hHeld => ?_)
        clear hK K
        (try dsimp only [Act.put]); (try simp only [Act.put, List.setIfInBounds_toArray, List.set_cons_zero, List.set_cons_succ])
        refine wpAnyH_take (i := 22) (oi := { dst := some 25, op := Op.build 89 #[(0, Operand.tmp 8), (1, Operand.tmp 14), (2, Operand.tmp 20), (3, Operand.tmp 24)], type := 89, pos := "kit.go:9", after := #[{ on := 5, ground := Ground.data }, { on := 11, ground := Ground.data }, { on := 17, ground := Ground.data }, { on := 21, ground := Ground.data }], guard := none }) (v := ?_) rfl (by kernel_rfl) (by kernel_rfl) (by kernel_rfl) (fun _ _ _ h => h) (Or.inl ⟨by rfl, ?_⟩) (by assumption) ?_
        rotate_left
        · intro w hSw; (try dsimp only at hSw); go_simp; try with_reducible rfl
        (try simp only [Act.put, List.setIfInBounds_toArray, List.set_cons_zero, List.set_cons_succ])
        refine wpAnyH_ready (rs := [23]) (by kernel_rfl) (by simp) ?_
        refine AllReadyH.cons rfl (fun K hK => ?_) (AllReadyH.nil)
        go_simp
        have hP83 := Blk.new W82 89 #[.slice (some ⟨g79, 0, none⟩) lW cap79, .slice (some ⟨g81, 0, none⟩) lD cap81, .slice (some ⟨g82, 0, none⟩) lT cap82, .int .i64 rel]
        have bw83 : Below w.heap.size w (W82.alloc (.cells #[.slice (some ⟨g79, 0, none⟩) lW cap79, .slice (some ⟨g81, 0, none⟩) lD cap81, .slice (some ⟨g82, 0, none⟩) lT cap82, .int .i64 rel] 89)) := bw82.alloc bw82.size _
        have HZ83 := Lib.hid (copy_fit HNs.out r82W r82D hr82 HEW.out HED.out HET.out HRel.out (n81W) hP83 (lo79) (lo81) (lo82) bw82.size bw83)
        refine hK.out _ _ (SK.out _ bw83) (fun hHeld => ?_)
        clear hK K
        (try dsimp only [Act.put]); (try simp only [Act.put, List.setIfInBounds_toArray, List.set_cons_zero, List.set_cons_succ])
        refine wpAnyH_ready (rs := [24]) (by kernel_rfl) (by simp) ?_
        refine AllReadyH.cons rfl (fun K hK => ?_) (AllReadyH.nil)
        go_simp
        refine hK.out _ _ (by assumption) (fun hHeld => ?_)
        clear hK K
        (try dsimp only [Act.put]); (try simp only [Act.put, List.setIfInBounds_toArray, List.set_cons_zero, List.set_cons_succ])
        refine wpAnyH_done (by kernel_rfl) ?_ _
        go_wp2_with fail
        go_ret
        exact HZ83.out
      · go_simp
        have ba85 : Below W78.heap.size W78 (W78.alloc (.cells #[] 3)) := (Below.refl _ _).alloc (Nat.le_refl _) _
        have r85 := World.ownsRow_lit (base := w.heap.size) (e := 3) (size := 1) W78 #[] 0 bw78.size (by unfold maxLen; omega) rfl
        have g85 : W78.heap.size < (W78.alloc (.cells #[] 3)).heap.size := by rw [World.size_alloc]; omega
        have r85T := row_ownkeep r78T (Keep.ofBelow (Q := fun _ => False) ba85) (fun _ _ h => h)
        have n85T : B77 ≠ W78.heap.size := by have := l78T; omega
        have l85T : B77 < (W78.alloc (.cells #[] 3)).heap.size := by rw [World.size_alloc]; have := l78T; omega
        have r85W := row_ownkeep r78 (Keep.ofBelow (Q := fun _ => False) ba85) (fun _ _ h => h)
        have n85W : B78 ≠ W78.heap.size := by have := g78; omega
        have l85W : B78 < (W78.alloc (.cells #[] 3)).heap.size := by rw [World.size_alloc]; have := g78; omega
        have b85 : w.heap.size ≤ W78.heap.size := bw78.size
        have bw85 := bw78.trans (ba85.mono bw78.size)
        generalize hW85 : World.alloc _ _ = W85 at *
        generalize hB85 : W78.heap.size = B85 at *
        clear hW85
        refine hK.out _ _ (SK.out _ bw85) (fun hHeld => ?_)
        clear hK K
        (try dsimp only [Act.put]); (try simp only [Act.put, List.setIfInBounds_toArray, List.set_cons_zero, List.set_cons_succ])
        refine wpAnyH_ready (rs := [5]) (by kernel_rfl) (by simp) ?_
        refine AllReadyH.cons rfl (fun K hK => ?_) (AllReadyH.nil)
        refine wp_append_own2 W85 _ _ 30 rfl w.heap.size 3 iW (.int .i64 0) 1 8 Try.underlying30 hizW hzzW hszW hbzW rfl (by decide) (.slice (some ⟨B78, 0, none⟩) 0 0) 0 [] rfl (by simpa using r85W) ⟨p.W, 0, none⟩ lW _ NW rfl HLW.out (fun j u hj => HCW.out _ bw85 j u hj) H1W.out (by unfold maxLen; omega) (by omega) bw85.size (by omega) ?_
        intro g86 cap86 W86 hr86 hg86 ho86
        have kp86 : Keep (fun b => b = B78) W85 W86 := ⟨hg86.os, hg86.tape, hg86.output, hg86.size, fun b hb hn => hg86.block b hb (fun e => hn (by simpa [Value.ownBlock] using e))⟩
        replace hr86 := (show W86.ownsRow w.heap.size 3 1 (.slice (some ⟨g86, 0, none⟩) lW cap86) lW NW from by simpa using hr86)
        have hq86 : g86 = B78 ∨ W85.heap.size ≤ g86 := by rcases ho86 with h | h; exact .inl (by simpa [Value.ownBlock, eq_comm] using h); exact .inr h
        have lt86 : g86 < W86.heap.size := (row_lt hr86 rfl).1
        have lo86 : w.heap.size ≤ g86 := by have := b78; have := bw85.size; omega
        have r86T := row_ownkeep r85T kp86 (fun b hb e => by have e2 : B77 = b := (by simpa [Value.ownBlock] using hb); exact (n78T) (e2.trans e))
        have n86T : B77 ≠ g86 := by have := l85T; have := n78T; omega
        have l86T : B77 < W86.heap.size := by have := l85T; have := hg86.size; omega
        have r86D := row_ownkeep r85 kp86 (fun b hb e => by have e2 : B85 = b := (by simpa [Value.ownBlock] using hb); exact (n85W.symm) (e2.trans e))
        have n86D : B85 ≠ g86 := by have := g85; have := n85W.symm; omega
        have l86D : B85 < W86.heap.size := by have := g85; have := hg86.size; omega
        have bw86 := bw85.trans (kp86.below bw85.size (fun b _ e => by have e2 : b = B78 := e; have := b78; omega))
        refine hK.out _ _ (SK.out _ bw86) (fun hHeld => ?_)
        clear hK K
        (try dsimp only [Act.put]); (try simp only [Act.put, List.setIfInBounds_toArray, List.set_cons_zero, List.set_cons_succ])
        refine wpAnyH_ready (rs := [11]) (by kernel_rfl) (by simp) ?_
        refine AllReadyH.cons rfl (fun K hK => ?_) (AllReadyH.nil)
        refine wp_append_own2 W86 _ _ 30 rfl w.heap.size 3 iW (.int .i64 0) 1 8 Try.underlying30 hizW hzzW hszW hbzW rfl (by decide) (.slice (some ⟨B85, 0, none⟩) 0 0) 0 [] rfl (by simpa using r86D) ⟨p.D, 0, none⟩ lD _ ND rfl HLD.out (fun j u hj => HCD.out _ bw86 j u hj) H1D.out (by unfold maxLen; omega) (by omega) bw86.size (by omega) ?_
        intro g87 cap87 W87 hr87 hg87 ho87
        have kp87 : Keep (fun b => b = B85) W86 W87 := ⟨hg87.os, hg87.tape, hg87.output, hg87.size, fun b hb hn => hg87.block b hb (fun e => hn (by simpa [Value.ownBlock] using e))⟩
        replace hr87 := (show W87.ownsRow w.heap.size 3 1 (.slice (some ⟨g87, 0, none⟩) lD cap87) lD ND from by simpa using hr87)
        have hq87 : g87 = B85 ∨ W86.heap.size ≤ g87 := by rcases ho87 with h | h; exact .inl (by simpa [Value.ownBlock, eq_comm] using h); exact .inr h
        have lt87 : g87 < W87.heap.size := (row_lt hr87 rfl).1
        have lo87 : w.heap.size ≤ g87 := by have := b85; have := bw86.size; omega
        have r87T := row_ownkeep r86T kp87 (fun b hb e => by have e2 : B77 = b := (by simpa [Value.ownBlock] using hb); exact (n85T) (e2.trans e))
        have n87T : B77 ≠ g87 := by have := l86T; have := n85T; omega
        have l87T : B77 < W87.heap.size := by have := l86T; have := hg87.size; omega
        have r87W := row_ownkeep hr86 kp87 (fun b hb e => by have e2 : g86 = b := (by simpa [Value.ownBlock] using hb); exact (n86D.symm) (e2.trans e))
        have n87W : g86 ≠ g87 := by have := lt86; have := n86D.symm; omega
        have l87W : g86 < W87.heap.size := by have := lt86; have := hg87.size; omega
        have bw87 := bw86.trans (kp87.below bw86.size (fun b _ e => by have e2 : b = B85 := e; have := b85; omega))
        refine hK.out _ _ (SK.out _ bw87) (fun hHeld => ?_)
        clear hK K
        (try dsimp only [Act.put]); (try simp only [Act.put, List.setIfInBounds_toArray, List.set_cons_zero, List.set_cons_succ])
        refine wpAnyH_ready (rs := [17]) (by kernel_rfl) (by simp) ?_
        refine AllReadyH.cons rfl (fun K hK => ?_) (AllReadyH.nil)
        refine wp_append_own2 W87 _ _ 87 rfl w.heap.size 91 iT (.agg (rthC rth0).toArray) 11 88 Try.underlying87 hizT hzzT hszT hbzT rfl (by decide) (.slice (some ⟨B77, 0, none⟩) 0 0) 0 [] rfl (by simpa using r87T) ⟨p.T, 0, none⟩ lT _ NT rfl HLT.out (fun j u hj => HCT.out _ bw87 j u hj) H1T.out (by unfold maxLen; omega) (by omega) bw87.size (by omega) ?_
        intro g88 cap88 W88 hr88 hg88 ho88
        have kp88 : Keep (fun b => b = B77) W87 W88 := ⟨hg88.os, hg88.tape, hg88.output, hg88.size, fun b hb hn => hg88.block b hb (fun e => hn (by simpa [Value.ownBlock] using e))⟩
        replace hr88 := (show W88.ownsRow w.heap.size 91 11 (.slice (some ⟨g88, 0, none⟩) lT cap88) lT NT from by simpa using hr88)
        have hq88 : g88 = B77 ∨ W87.heap.size ≤ g88 := by rcases ho88 with h | h; exact .inl (by simpa [Value.ownBlock, eq_comm] using h); exact .inr h
        have lt88 : g88 < W88.heap.size := (row_lt hr88 rfl).1
        have lo88 : w.heap.size ≤ g88 := by have := b77; have := bw87.size; omega
        have r88W := row_ownkeep r87W kp88 (fun b hb e => by have e2 : g86 = b := (by simpa [Value.ownBlock] using hb); exact (n86T.symm) (e2.trans e))
        have n88W : g86 ≠ g88 := by have := l87W; have := n86T.symm; omega
        have l88W : g86 < W88.heap.size := by have := l87W; have := hg88.size; omega
        have r88D := row_ownkeep hr87 kp88 (fun b hb e => by have e2 : g87 = b := (by simpa [Value.ownBlock] using hb); exact (n87T.symm) (e2.trans e))
        have n88D : g87 ≠ g88 := by have := lt87; have := n87T.symm; omega
        have l88D : g87 < W88.heap.size := by have := lt87; have := hg88.size; omega
        have bw88 := bw87.trans (kp88.below bw87.size (fun b _ e => by have e2 : b = B77 := e; have := b77; omega))
        refine hK.out _ _ (SK.out _ bw88) (fun hHeld => ?_)
        clear hK K
        (try dsimp only [Act.put]); (try simp only [Act.put, List.setIfInBounds_toArray, List.set_cons_zero, List.set_cons_succ])
        refine wpAnyH_take (i := 22) (oi := { dst := some 25, op := Op.build 89 #[(0, Operand.tmp 8), (1, Operand.tmp 14), (2, Operand.tmp 20), (3, Operand.tmp 24)], type := 89, pos := "kit.go:9", after := #[{ on := 5, ground := Ground.data }, { on := 11, ground := Ground.data }, { on := 17, ground := Ground.data }, { on := 21, ground := Ground.data }], guard := none }) (v := ?_) rfl (by kernel_rfl) (by kernel_rfl) (by kernel_rfl) (fun _ _ _ h => h) (Or.inl ⟨by rfl, ?_⟩) (by assumption) ?_
        rotate_left
        · intro w hSw; (try dsimp only at hSw); go_simp; try with_reducible rfl
        (try simp only [Act.put, List.setIfInBounds_toArray, List.set_cons_zero, List.set_cons_succ])
        refine wpAnyH_ready (rs := [23]) (by kernel_rfl) (by simp) ?_
        refine AllReadyH.cons rfl (fun K hK => ?_) (AllReadyH.nil)
        go_simp
        have hP89 := Blk.new W88 89 #[.slice (some ⟨g86, 0, none⟩) lW cap86, .slice (some ⟨g87, 0, none⟩) lD cap87, .slice (some ⟨g88, 0, none⟩) lT cap88, .int .i64 rel]
        have bw89 : Below w.heap.size w (W88.alloc (.cells #[.slice (some ⟨g86, 0, none⟩) lW cap86, .slice (some ⟨g87, 0, none⟩) lD cap87, .slice (some ⟨g88, 0, none⟩) lT cap88, .int .i64 rel] 89)) := bw88.alloc bw88.size _
        have HZ89 := Lib.hid (copy_fit HNs.out r88W r88D hr88 HEW.out HED.out HET.out HRel.out (n87W) hP89 (lo86) (lo87) (lo88) bw88.size bw89)
        refine hK.out _ _ (SK.out _ bw89) (fun hHeld => ?_)
        clear hK K
        (try dsimp only [Act.put]); (try simp only [Act.put, List.setIfInBounds_toArray, List.set_cons_zero, List.set_cons_succ])
        refine wpAnyH_ready (rs := [24]) (by kernel_rfl) (by simp) ?_
        refine AllReadyH.cons rfl (fun K hK => ?_) (AllReadyH.nil)
        go_simp
        refine hK.out _ _ (by assumption) (fun hHeld => ?_)
        clear hK K
        (try dsimp only [Act.put]); (try simp only [Act.put, List.setIfInBounds_toArray, List.set_cons_zero, List.set_cons_succ])
        refine wpAnyH_done (by kernel_rfl) ?_ _
        go_wp2_with fail
        go_ret
        exact HZ89.out
    · go_simp
      have ba91 : Below W77.heap.size W77 (W77.alloc (.cells #[] 3)) := (Below.refl _ _).alloc (Nat.le_refl _) _
      have r91 := World.ownsRow_lit (base := w.heap.size) (e := 3) (size := 1) W77 #[] 0 bw77.size (by unfold maxLen; omega) rfl
      have g91 : W77.heap.size < (W77.alloc (.cells #[] 3)).heap.size := by rw [World.size_alloc]; omega
      have r91T := row_ownkeep r77 (Keep.ofBelow (Q := fun _ => False) ba91) (fun _ _ h => h)
      have n91T : B77 ≠ W77.heap.size := by have := g77; omega
      have l91T : B77 < (W77.alloc (.cells #[] 3)).heap.size := by rw [World.size_alloc]; have := g77; omega
      have b91 : w.heap.size ≤ W77.heap.size := bw77.size
      have bw91 := bw77.trans (ba91.mono bw77.size)
      generalize hW91 : World.alloc _ _ = W91 at *
      generalize hB91 : W77.heap.size = B91 at *
      clear hW91
      refine hK.out _ _ (SK.out _ bw91) (fun hHeld => ?_)
      clear hK K
      (try dsimp only [Act.put]); (try simp only [Act.put, List.setIfInBounds_toArray, List.set_cons_zero, List.set_cons_succ])
      refine wpAnyH_ready (rs := [0]) (by kernel_rfl) (by simp) ?_
      refine AllReadyH.cons rfl (fun K hK => ?_) (AllReadyH.nil)
      go_simp
      have ba92 : Below W91.heap.size W91 (W91.alloc (.cells #[] 3)) := (Below.refl _ _).alloc (Nat.le_refl _) _
      have r92 := World.ownsRow_lit (base := w.heap.size) (e := 3) (size := 1) W91 #[] 0 bw91.size (by unfold maxLen; omega) rfl
      have g92 : W91.heap.size < (W91.alloc (.cells #[] 3)).heap.size := by rw [World.size_alloc]; omega
      have r92T := row_ownkeep r91T (Keep.ofBelow (Q := fun _ => False) ba92) (fun _ _ h => h)
      have n92T : B77 ≠ W91.heap.size := by have := l91T; omega
      have l92T : B77 < (W91.alloc (.cells #[] 3)).heap.size := by rw [World.size_alloc]; have := l91T; omega
      have r92D := row_ownkeep r91 (Keep.ofBelow (Q := fun _ => False) ba92) (fun _ _ h => h)
      have n92D : B91 ≠ W91.heap.size := by have := g91; omega
      have l92D : B91 < (W91.alloc (.cells #[] 3)).heap.size := by rw [World.size_alloc]; have := g91; omega
      have b92 : w.heap.size ≤ W91.heap.size := bw91.size
      have bw92 := bw91.trans (ba92.mono bw91.size)
      generalize hW92 : World.alloc _ _ = W92 at *
      generalize hB92 : W91.heap.size = B92 at *
      clear hW92
      refine hK.out _ _ (SK.out _ bw92) (fun hHeld => ?_)
      clear hK K
      (try dsimp only [Act.put]); (try simp only [Act.put, List.setIfInBounds_toArray, List.set_cons_zero, List.set_cons_succ])
      refine wpAnyH_ready (rs := [5]) (by kernel_rfl) (by simp) ?_
      refine AllReadyH.cons rfl (fun K hK => ?_) (AllReadyH.nil)
      refine wp_append_own2 W92 _ _ 30 rfl w.heap.size 3 iW (.int .i64 0) 1 8 Try.underlying30 hizW hzzW hszW hbzW rfl (by decide) (.slice (some ⟨B92, 0, none⟩) 0 0) 0 [] rfl (by simpa using r92) ⟨p.W, 0, none⟩ lW _ NW rfl HLW.out (fun j u hj => HCW.out _ bw92 j u hj) H1W.out (by unfold maxLen; omega) (by omega) bw92.size (by omega) ?_
      intro g93 cap93 W93 hr93 hg93 ho93
      have kp93 : Keep (fun b => b = B92) W92 W93 := ⟨hg93.os, hg93.tape, hg93.output, hg93.size, fun b hb hn => hg93.block b hb (fun e => hn (by simpa [Value.ownBlock] using e))⟩
      replace hr93 := (show W93.ownsRow w.heap.size 3 1 (.slice (some ⟨g93, 0, none⟩) lW cap93) lW NW from by simpa using hr93)
      have hq93 : g93 = B92 ∨ W92.heap.size ≤ g93 := by rcases ho93 with h | h; exact .inl (by simpa [Value.ownBlock, eq_comm] using h); exact .inr h
      have lt93 : g93 < W93.heap.size := (row_lt hr93 rfl).1
      have lo93 : w.heap.size ≤ g93 := by have := b92; have := bw92.size; omega
      have r93T := row_ownkeep r92T kp93 (fun b hb e => by have e2 : B77 = b := (by simpa [Value.ownBlock] using hb); exact (n92T) (e2.trans e))
      have n93T : B77 ≠ g93 := by have := l92T; have := n92T; omega
      have l93T : B77 < W93.heap.size := by have := l92T; have := hg93.size; omega
      have r93D := row_ownkeep r92D kp93 (fun b hb e => by have e2 : B91 = b := (by simpa [Value.ownBlock] using hb); exact (n92D) (e2.trans e))
      have n93D : B91 ≠ g93 := by have := l92D; have := n92D; omega
      have l93D : B91 < W93.heap.size := by have := l92D; have := hg93.size; omega
      have bw93 := bw92.trans (kp93.below bw92.size (fun b _ e => by have e2 : b = B92 := e; have := b92; omega))
      refine hK.out _ _ (SK.out _ bw93) (fun hHeld => ?_)
      clear hK K
      (try dsimp only [Act.put]); (try simp only [Act.put, List.setIfInBounds_toArray, List.set_cons_zero, List.set_cons_succ])
      refine wpAnyH_ready (rs := [11]) (by kernel_rfl) (by simp) ?_
      refine AllReadyH.cons rfl (fun K hK => ?_) (AllReadyH.nil)
      refine wp_append_own2 W93 _ _ 30 rfl w.heap.size 3 iW (.int .i64 0) 1 8 Try.underlying30 hizW hzzW hszW hbzW rfl (by decide) (.slice (some ⟨B91, 0, none⟩) 0 0) 0 [] rfl (by simpa using r93D) ⟨p.D, 0, none⟩ lD _ ND rfl HLD.out (fun j u hj => HCD.out _ bw93 j u hj) H1D.out (by unfold maxLen; omega) (by omega) bw93.size (by omega) ?_
      intro g94 cap94 W94 hr94 hg94 ho94
      have kp94 : Keep (fun b => b = B91) W93 W94 := ⟨hg94.os, hg94.tape, hg94.output, hg94.size, fun b hb hn => hg94.block b hb (fun e => hn (by simpa [Value.ownBlock] using e))⟩
      replace hr94 := (show W94.ownsRow w.heap.size 3 1 (.slice (some ⟨g94, 0, none⟩) lD cap94) lD ND from by simpa using hr94)
      have hq94 : g94 = B91 ∨ W93.heap.size ≤ g94 := by rcases ho94 with h | h; exact .inl (by simpa [Value.ownBlock, eq_comm] using h); exact .inr h
      have lt94 : g94 < W94.heap.size := (row_lt hr94 rfl).1
      have lo94 : w.heap.size ≤ g94 := by have := b91; have := bw93.size; omega
      have r94T := row_ownkeep r93T kp94 (fun b hb e => by have e2 : B77 = b := (by simpa [Value.ownBlock] using hb); exact (n91T) (e2.trans e))
      have n94T : B77 ≠ g94 := by have := l93T; have := n91T; omega
      have l94T : B77 < W94.heap.size := by have := l93T; have := hg94.size; omega
      have r94W := row_ownkeep hr93 kp94 (fun b hb e => by have e2 : g93 = b := (by simpa [Value.ownBlock] using hb); exact (n93D.symm) (e2.trans e))
      have n94W : g93 ≠ g94 := by have := lt93; have := n93D.symm; omega
      have l94W : g93 < W94.heap.size := by have := lt93; have := hg94.size; omega
      have bw94 := bw93.trans (kp94.below bw93.size (fun b _ e => by have e2 : b = B91 := e; have := b91; omega))
      refine hK.out _ _ (SK.out _ bw94) (fun hHeld => ?_)
      clear hK K
      (try dsimp only [Act.put]); (try simp only [Act.put, List.setIfInBounds_toArray, List.set_cons_zero, List.set_cons_succ])
      refine wpAnyH_ready (rs := [17]) (by kernel_rfl) (by simp) ?_
      refine AllReadyH.cons rfl (fun K hK => ?_) (AllReadyH.nil)
      refine wp_append_own2 W94 _ _ 87 rfl w.heap.size 91 iT (.agg (rthC rth0).toArray) 11 88 Try.underlying87 hizT hzzT hszT hbzT rfl (by decide) (.slice (some ⟨B77, 0, none⟩) 0 0) 0 [] rfl (by simpa using r94T) ⟨p.T, 0, none⟩ lT _ NT rfl HLT.out (fun j u hj => HCT.out _ bw94 j u hj) H1T.out (by unfold maxLen; omega) (by omega) bw94.size (by omega) ?_
      intro g95 cap95 W95 hr95 hg95 ho95
      have kp95 : Keep (fun b => b = B77) W94 W95 := ⟨hg95.os, hg95.tape, hg95.output, hg95.size, fun b hb hn => hg95.block b hb (fun e => hn (by simpa [Value.ownBlock] using e))⟩
      replace hr95 := (show W95.ownsRow w.heap.size 91 11 (.slice (some ⟨g95, 0, none⟩) lT cap95) lT NT from by simpa using hr95)
      have hq95 : g95 = B77 ∨ W94.heap.size ≤ g95 := by rcases ho95 with h | h; exact .inl (by simpa [Value.ownBlock, eq_comm] using h); exact .inr h
      have lt95 : g95 < W95.heap.size := (row_lt hr95 rfl).1
      have lo95 : w.heap.size ≤ g95 := by have := b77; have := bw94.size; omega
      have r95D := row_ownkeep hr94 kp95 (fun b hb e => by have e2 : g94 = b := (by simpa [Value.ownBlock] using hb); exact (n94T.symm) (e2.trans e))
      have n95D : g94 ≠ g95 := by have := lt94; have := n94T.symm; omega
      have l95D : g94 < W95.heap.size := by have := lt94; have := hg95.size; omega
      have r95W := row_ownkeep r94W kp95 (fun b hb e => by have e2 : g93 = b := (by simpa [Value.ownBlock] using hb); exact (n93T.symm) (e2.trans e))
      have n95W : g93 ≠ g95 := by have := l94W; have := n93T.symm; omega
      have l95W : g93 < W95.heap.size := by have := l94W; have := hg95.size; omega
      have bw95 := bw94.trans (kp95.below bw94.size (fun b _ e => by have e2 : b = B77 := e; have := b77; omega))
      refine hK.out _ _ (SK.out _ bw95) (fun hHeld => ?_)
      clear hK K
      (try dsimp only [Act.put]); (try simp only [Act.put, List.setIfInBounds_toArray, List.set_cons_zero, List.set_cons_succ])
      refine wpAnyH_take (i := 22) (oi := { dst := some 25, op := Op.build 89 #[(0, Operand.tmp 8), (1, Operand.tmp 14), (2, Operand.tmp 20), (3, Operand.tmp 24)], type := 89, pos := "kit.go:9", after := #[{ on := 5, ground := Ground.data }, { on := 11, ground := Ground.data }, { on := 17, ground := Ground.data }, { on := 21, ground := Ground.data }], guard := none }) (v := ?_) rfl (by kernel_rfl) (by kernel_rfl) (by kernel_rfl) (fun _ _ _ h => h) (Or.inl ⟨by rfl, ?_⟩) (by assumption) ?_
      rotate_left
      · intro w hSw; (try dsimp only at hSw); go_simp; try with_reducible rfl
      (try simp only [Act.put, List.setIfInBounds_toArray, List.set_cons_zero, List.set_cons_succ])
      refine wpAnyH_ready (rs := [23]) (by kernel_rfl) (by simp) ?_
      refine AllReadyH.cons rfl (fun K hK => ?_) (AllReadyH.nil)
      go_simp
      have hP96 := Blk.new W95 89 #[.slice (some ⟨g93, 0, none⟩) lW cap93, .slice (some ⟨g94, 0, none⟩) lD cap94, .slice (some ⟨g95, 0, none⟩) lT cap95, .int .i64 rel]
      have bw96 : Below w.heap.size w (W95.alloc (.cells #[.slice (some ⟨g93, 0, none⟩) lW cap93, .slice (some ⟨g94, 0, none⟩) lD cap94, .slice (some ⟨g95, 0, none⟩) lT cap95, .int .i64 rel] 89)) := bw95.alloc bw95.size _
      have HZ96 := Lib.hid (copy_fit HNs.out r95W r95D hr95 HEW.out HED.out HET.out HRel.out (n94W) hP96 (lo93) (lo94) (lo95) bw95.size bw96)
      refine hK.out _ _ (SK.out _ bw96) (fun hHeld => ?_)
      clear hK K
      (try dsimp only [Act.put]); (try simp only [Act.put, List.setIfInBounds_toArray, List.set_cons_zero, List.set_cons_succ])
      refine wpAnyH_ready (rs := [24]) (by kernel_rfl) (by simp) ?_
      refine AllReadyH.cons rfl (fun K hK => ?_) (AllReadyH.nil)
      go_simp
      refine hK.out _ _ (by assumption) (fun hHeld => ?_)
      clear hK K
      (try dsimp only [Act.put]); (try simp only [Act.put, List.setIfInBounds_toArray, List.set_cons_zero, List.set_cons_succ])
      refine wpAnyH_done (by kernel_rfl) ?_ _
      go_wp2_with fail
      go_ret
      exact HZ96.out
end Go.Proofs.Ytcgljmeppmdihaa
