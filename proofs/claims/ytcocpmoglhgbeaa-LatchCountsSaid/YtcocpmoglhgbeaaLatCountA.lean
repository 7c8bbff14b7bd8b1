/- LatchCounts: the state of its loop. -/
import Derived.Test.YtcocpmoglhgbeaaLatCSpec
namespace Go.Proofs.Ytcocpmoglhgbeaa
open Go.ChangeShapes Go.WideShapes Go.ChangeAt Go.RowKit
set_option linter.unusedVariables false
set_option maxRecDepth 100000
set_option linter.unusedSimpArgs false
/-- where all lies -/
structure G2 where
  n0 : Nat
  C : Nat
  S : Nat
  A : Nat
  D : Nat
  F : Nat
  Y : Nat
  n : Nat
  K : Nat
  Lb : Nat
  cap : Nat
  a : Option Addr
  lo : Bool
abbrev G2.X (g : G2) : Nat → Prop := fun b => b = g.A ∨ b = g.D ∨ b = g.F ∨ b = g.Y
structure L2 (g : G2) (w : World) (U : List (Nat × Nat)) (TA : List (Option Nat)) (o : Option Nat) (lock c : Int) (E : List Nat) (j : Nat) (τ : Nat → Option (Nat × Tre Itm)) (nn : Int) : Prop where
  wld : Wld g.n0 g.X w g.C g.S [lock, c] nn τ
  ba : Blk w g.A 29 (ptsV TA)
  bd : Blk w g.D 3 (intsV (U.map Prod.fst))
  bf : Blk w g.F 3 (intsV E)
  bY : Blk w g.Y 43 (turnsV g.a g.Lb g.cap g.n j)
  bytes : BytesAt w g.n0 g.a g.Lb
  ne : g.A ≠ g.D ∧ g.A ≠ g.F ∧ g.A ≠ g.Y ∧ g.D ≠ g.F ∧ g.D ≠ g.Y ∧ g.F ≠ g.Y
  low : g.n0 ≤ g.A ∧ g.n0 ≤ g.D ∧ g.n0 ≤ g.F ∧ g.n0 ≤ g.Y
  len : TA.length = g.n
  sm : 1 ≤ g.n ∧ g.n ≤ 6 ∧ 1 ≤ g.K ∧ g.K ≤ 4 ∧ g.Lb ≤ 200
  cnt : 0 ≤ nn ∧ nn ≤ j
  inv : Inv2 g.lo g.n g.K U o lock c E
  ta : ∀ (t k : Nat), TA[t]? = some (some k) → ∃ (x : Nat × Nat) (T : Tre Itm), U[t]? = some x ∧ τ t = some (k, T) ∧ Stg g.lo (sumU U) t x.2 T
  tn : ∀ (t : Nat) (x : Nat × Nat), TA[t]? = some none → U[t]? = some x → x.2 = 0
section
variable {g : G2} {w w1 : World} {U : List (Nat × Nat)} {TA : List (Option Nat)} {o : Option Nat} {lock c : Int} {E : List Nat} {j : Nat} {τ : Nat → Option (Nat × Tre Itm)} {nn : Int}
theorem L2.next (h : L2 g w U TA o lock c E j τ nn) (hj : j ≤ 100000) :
    Calls Try.prog 21 #[pV g.Y] w fun e w' => ∃ t : Nat, e = .returned (.int .i64 (t : Int)) ∧ t < g.n ∧ (g.Lb ≤ j → t = (j + 1) % g.n) ∧ L2 g w' U TA o lock c E (j + 1) τ nn ∧ Below g.n0 w w' := by
  have hlo := h.low
  have hlt := h.wld.lo.2.2
  refine (next_any g.Y g.n j g.Lb g.cap g.n0 g.a w h.bY h.bytes hlo.2.2.2 ⟨h.sm.1, h.sm.2.1⟩ hj h.sm.2.2.2.2).mono ?_
  rintro e w' ⟨t, rfl, h1, h2, h3, hk⟩
  have hne := h.ne
  exact ⟨t, rfl, h1, h2, ⟨h.wld.keep hk (fun b hb => .inr (.inr (.inr hb))), h.ba.keep hk (by omega), h.bd.keep hk (by omega), h.bf.keep hk (by omega), h3, h.bytes.keep hk (fun b hb => by omega), h.ne, h.low, h.len, h.sm, ⟨h.cnt.1, by have := h.cnt.2; omega⟩, h.inv, h.ta, h.tn⟩, hk.below hlt (fun b _ hb => by omega)⟩
/-- a task was made for a thread -/
theorem L2.make {t k : Nat} {T : Tre Itm} {x : Nat × Nat} (h : L2 g w U TA o lock c E j τ nn) (hk : Keep (fun b => b = g.A) w w1) (hW : Wld g.n0 g.X w1 g.C g.S [lock, c] nn (upd τ t (some (k, T)))) (hA : Blk w1 g.A 29 (ptsV (TA.set t (some k)))) (hU : U[t]? = some x) (hn : TA[t]? = some none) (hT : Stg g.lo (sumU U) t 0 T) :
    L2 g w1 U (TA.set t (some k)) o lock c E j (upd τ t (some (k, T))) nn := by
  have hne := h.ne
  have hlo := h.low
  refine ⟨hW, hA, h.bd.keep hk (by omega), h.bf.keep hk (by omega), h.bY.keep hk (by omega), h.bytes.keep hk (fun b hb => by omega), h.ne, h.low, by simpa using h.len, h.sm, h.cnt, h.inv, fun u q hu => ?_, fun u y hu hy => ?_⟩
  · rcases set_at hu with ⟨rfl, e⟩ | ⟨e, hu⟩
    · have h0 := h.tn u x hn hU
      refine ⟨x, T, hU, ?_, by rw [h0]; exact hT⟩
      rw [upd_same, Option.some.inj e]
    · obtain ⟨y, T', h1, h2, h3⟩ := h.ta u q hu
      exact ⟨y, T', h1, by rw [upd_ne _ _ _ _ e]; exact h2, h3⟩
  · rcases set_at hu with ⟨rfl, e⟩ | ⟨e, hu⟩
    · cases e
    · exact h.tn u y hu hy
/-- a step, and its task is not at its end -/
theorem L2.on {t k v p p' : Nat} {T' : Tre Itm} {o' : Option Nat} {lock' c' : Int} (h : L2 g w U TA o lock c E j τ nn) (hk : Keep (fun b => g.n0 ≤ b ∧ ¬ g.X b) w w1) (hW : Wld g.n0 g.X w1 g.C g.S [lock', c'] (nn + 1) (upd τ t (some (k, T')))) (hU : U[t]? = some (v, p)) (ha : TA[t]? = some (some k)) (hs : Stg g.lo (sumU U) t p' T') (hi : Inv2 g.lo g.n g.K (U.set t (v, p')) o' lock' c' E) (hnn : nn + 1 ≤ j) :
    L2 g w1 (U.set t (v, p')) TA o' lock' c' E j (upd τ t (some (k, T'))) (nn + 1) := by
  have nx : ∀ b, g.X b → ¬ (g.n0 ≤ b ∧ ¬ g.X b) := fun b hb hh => hh.2 hb
  have e1 : (U.set t (v, p')).map Prod.fst = U.map Prod.fst := by
    rw [List.map_set]
    exact uset_same (by rw [List.getElem?_map, hU]; rfl)
  have e2 : sumU (U.set t (v, p')) = sumU U := by
    have := sumU_set (y := (v, p')) hU
    simp only at this
    omega
  have htl : t < U.length := (List.getElem?_eq_some_iff.1 hU).1
  refine ⟨hW, h.ba.keep hk (nx _ (.inl rfl)), by rw [e1]; exact h.bd.keep hk (nx _ (.inr (.inl rfl))), h.bf.keep hk (nx _ (.inr (.inr (.inl rfl)))), h.bY.keep hk (nx _ (.inr (.inr (.inr rfl)))), h.bytes.keep hk (fun b hb => hb.1), h.ne, h.low, h.len, h.sm, ⟨by have := h.cnt.1; omega, hnn⟩, hi, fun u q hu => ?_, fun u y hu hy => ?_⟩
  · rw [e2]
    by_cases e : u = t
    · subst e
      rw [ha] at hu
      obtain rfl := Option.some.inj (Option.some.inj hu)
      exact ⟨(v, p'), T', List.getElem?_set_self htl, upd_same _ _ _, hs⟩
    · obtain ⟨y, T2, h1, h2, h3⟩ := h.ta u q hu
      exact ⟨y, T2, by rw [List.getElem?_set_ne (Ne.symm e)]; exact h1, by rw [upd_ne _ _ _ _ e]; exact h2, h3⟩
  · rcases set_at hy with ⟨rfl, _⟩ | ⟨e, hy⟩
    · rw [ha] at hu
      cases hu
    · exact h.tn u y hu hy
/-- a step, and its task is at its end -/
theorem L2.done {t k v p q e : Nat} {T' : Tre Itm} {lock' c' : Int} (h : L2 g w U TA o lock c E j τ nn) (hk : Keep (fun b => g.n0 ≤ b ∧ ¬ g.X b) w w1) (hW : Wld g.n0 g.X w1 g.C g.S [lock', c'] (nn + 1) (upd τ t (some (k, T')))) (hU : U[t]? = some (v, p)) (ha : TA[t]? = some (some k)) (he : E[q]? = some e) (hi : Inv2 g.lo g.n g.K (U.set t (v + 1, 0)) none lock' c' (E.set q (e + 1))) (hnn : nn + 1 ≤ j) :
    L2 g (((w1.setCell ⟨g.F, q, none⟩ (.int .i64 ((e + 1 : Nat) : Int))).setCell ⟨g.A, t, none⟩ (.pointer none)).setCell ⟨g.D, t, none⟩ (.int .i64 ((v + 1 : Nat) : Int))) (U.set t (v + 1, 0)) (TA.set t none) none lock' c' (E.set q (e + 1)) j (upd τ t (some (k, T'))) (nn + 1) := by
  have hne := h.ne
  have hlo := h.low
  have nx : ∀ b, g.X b → ¬ (g.n0 ≤ b ∧ ¬ g.X b) := fun b hb hh => hh.2 hb
  have e2 : sumU (U.set t (v + 1, 0)) = sumU U + 1 := by
    have := sumU_set (y := (v + 1, 0)) hU
    simp only at this
    omega
  have htl : t < U.length := (List.getElem?_eq_some_iff.1 hU).1
  have a1 := h.ba.keep hk (nx _ (.inl rfl))
  have d1 := h.bd.keep hk (nx _ (.inr (.inl rfl)))
  have f1 := h.bf.keep hk (nx _ (.inr (.inr (.inl rfl))))
  have y1 := h.bY.keep hk (nx _ (.inr (.inr (.inr rfl))))
  have z1 := h.bytes.keep hk (fun b hb => hb.1)
  have kF : Keep (fun b => b = g.F) w1 (w1.setCell ⟨g.F, q, none⟩ (.int .i64 ((e + 1 : Nat) : Int))) := (Keep.refl (fun b => b = g.F) w1).set (p := ⟨g.F, q, none⟩) (fun _ => rfl) _
  have f2 := f1.set q (.int .i64 ((e + 1 : Nat) : Int))
  rw [intsV_set] at f2
  have a2 := a1.keep kF (by omega)
  have d2 := d1.keep kF (by omega)
  have y2 := y1.keep kF (by omega)
  have z2 := z1.keep kF (fun b hb => by omega)
  have hW2 := hW.keep kF (fun b hb => .inr (.inr (.inl hb)))
  clear kF f1 a1 d1 y1 z1
  generalize (w1.setCell ⟨g.F, q, none⟩ (.int .i64 ((e + 1 : Nat) : Int))) = w2 at *
  have kA : Keep (fun b => b = g.A) w2 (w2.setCell ⟨g.A, t, none⟩ (.pointer none)) := (Keep.refl (fun b => b = g.A) w2).set (p := ⟨g.A, t, none⟩) (fun _ => rfl) _
  have a3 := a2.set t (ptV none)
  rw [ptsV_set] at a3
  have a3' : Blk (w2.setCell ⟨g.A, t, none⟩ (.pointer none)) g.A 29 (ptsV (TA.set t none)) := a3
  have f3 := f2.keep kA (by omega)
  have d3 := d2.keep kA (by omega)
  have y3 := y2.keep kA (by omega)
  have z3 := z2.keep kA (fun b hb => by omega)
  have hW3 := hW2.keep kA (fun b hb => .inl hb)
  clear kA a3 f2 a2 d2 y2 z2 hW2
  generalize (w2.setCell ⟨g.A, t, none⟩ (.pointer none)) = w3 at *
  have kD : Keep (fun b => b = g.D) w3 (w3.setCell ⟨g.D, t, none⟩ (.int .i64 ((v + 1 : Nat) : Int))) := (Keep.refl (fun b => b = g.D) w3).set (p := ⟨g.D, t, none⟩) (fun _ => rfl) _
  have d4 := d3.set t (.int .i64 ((v + 1 : Nat) : Int))
  rw [intsV_set, show (U.map Prod.fst).set t (v + 1) = (U.set t (v + 1, 0)).map Prod.fst by rw [List.map_set]] at d4
  refine ⟨hW3.keep kD (fun b hb => .inr (.inl hb)), a3'.keep kD (by omega), d4, f3.keep kD (by omega), y3.keep kD (by omega), z3.keep kD (fun b hb => by omega), h.ne, h.low, by simpa using h.len, h.sm, ⟨by have := h.cnt.1; omega, hnn⟩, hi, fun u q' hu => ?_, fun u y hu hy => ?_⟩
  · rcases set_at hu with ⟨rfl, e'⟩ | ⟨e', hu⟩
    · cases e'
    · obtain ⟨y, T2, h1, h2, h3⟩ := h.ta u q' hu
      have h1' : (U.set t (v + 1, 0))[u]? = some y := by rw [List.getElem?_set_ne (Ne.symm e')]; exact h1
      refine ⟨y, T2, h1', by rw [upd_ne _ _ _ _ e']; exact h2, ?_⟩
      rw [e2]
      rcases Bool.eq_false_or_eq_true g.lo with hl | hl
      · rw [hl] at h3 ⊢
        exact h3.more (by omega)
      · have h0 : y.2 = 0 := by
          have := (hi.tight hl).1 u y h1'
          by_cases hy : 0 < y.2
          · exact absurd (this.1 hy) (by simp)
          · omega
        rw [h0] at h3 ⊢
        exact h3.zero
  · rcases set_at hy with ⟨rfl, rfl⟩ | ⟨e', hy⟩
    · rfl
    · rcases set_at hu with ⟨e3, _⟩ | ⟨_, hu⟩
      · exact absurd e3 e'
      · exact h.tn u y hu hy
end
theorem L2.init {g : G2} {w2 wa wd w4 : World} (hW : Wld g.n0 (fun _ => False) w2 g.C g.S [0, 0] 0 (fun _ => none)) (hY : Blk w2 g.Y 43 (turnsV g.a g.Lb g.cap g.n 0)) (hCY : g.Y < g.C ∧ g.Y < g.S) (hlo : g.n0 ≤ g.Y)
    (hA : g.A = w2.heap.size) (hD : g.D = wa.heap.size) (hF : g.F = wd.heap.size) (bA : Blk wa g.A 29 (ptsV (List.replicate g.n none))) (b1 : Below w2.heap.size w2 wa) (bD : Blk wd g.D 3 (intsV (List.replicate g.n 0))) (b2 : Below wa.heap.size wa wd) (bF : Blk w4 g.F 3 (intsV (List.replicate (g.n * g.K) 0))) (b3 : Below wd.heap.size wd w4) (hby : BytesAt w2 g.n0 g.a g.Lb) (sm : 1 ≤ g.n ∧ g.n ≤ 6 ∧ 1 ≤ g.K ∧ g.K ≤ 4 ∧ g.Lb ≤ 200) :
    L2 g w4 (List.replicate g.n (0, 0)) (List.replicate g.n none) none 0 0 (List.replicate (g.n * g.K) 0) 0 (fun _ => none) 0 := by
  have s1 := b1.size
  have s2 := b2.size
  have s3 := b3.size
  have b24 : Below w2.heap.size w2 w4 := (b1.trans (b2.mono s1)).trans (b3.mono (by omega))
  have hC := hW.cells.own.lt
  have hS := hW.cells.row.lt
  have hn0 := hW.lo.2.2
  have lA := bA.lt
  have lD := bD.lt
  have lF := bF.lt
  have lY := hY.lt
  refine ⟨hW.bare b24 g.X (fun b hb => ?_), (bA.below b2 lA).below b3 (by omega), by rw [show (List.replicate g.n (0, 0)).map Prod.fst = List.replicate g.n 0 by simp]; exact bD.below b3 lD, bF, hY.below b24 lY, hby.keep (Keep.ofBelow (Q := fun _ => False) b24) (fun _ h => h.elim), by omega, by omega, by simp, sm, by simp, Inv2.new _ _ _ sm.2.2.1, fun t k h => ?_, fun t x h hx => ?_⟩
  · rcases hb with rfl | rfl | rfl | rfl <;> omega
  · have := List.mem_of_getElem? h
    simp at this
  · rw [List.eq_of_mem_replicate (List.mem_of_getElem? hx)]
end Go.Proofs.Ytcocpmoglhgbeaa
