/- A range over a function whose iterator turns blocks of its own (Z), and whose body makes new ones: what the body holds stands while those are turned; the body keeps them. The body never leaves. No program is named here. (After XScRange.) -/
import Derived.Test.YtbaehokffdpopaaGreatKeep
import Derived.RangeFuncNested
import Derived.RangeFuncBound
import Derived.RangeFuncCalls
import Derived.RangeFuncLeaves
namespace Go.Proofs.YtbaehokffdpopaaGreat
open Go.ChangeShapes Go.WideShapes Go.ChangeAt Go.RowKit
set_option linter.unusedVariables false
theorem keep_put {W : World} {l : Nat} (o : Obj) : Keep (fun i => i = l) W (W.putObj l o) :=
  ⟨rfl, rfl, rfl, by simp [World.putObj], fun i _ hi => World.putObj_heap_other (fun e => hi (by first | exact e | exact e.symm))⟩
/-- what a round keeps: all but the caller's own blocks and the loop's two -/
abbrev RKeep (Qb : Nat → Prop) (B : Nat) := Keep (fun i => Qb i ∨ (B ≤ i ∧ i < B + 2))
/-- the contract of such an iterator, called where the loop's two blocks were laid last -/
def SeqOwnZ {α : Type} (F : Fence) (n : Nat) (P : Program) (g : Nat) (lb : Array Value) (encs : α → Array Value) (xs : List α) (Qb Z : Nat → Prop) (B : Nat) (w : World) : Prop :=
  ∀ (J : List α → World → Prop) (W : World), Below w.heap.size w W → W.heap.size = B + 2 → (∀ s A A', J s A → Keep Z A A' → J s A') →
    (∀ pre x A, J pre A → pre.length < xs.length → (∀ i, Z i → i < A.heap.size) → YieldAt F (n - 1) P (B + 1) (encs x) A fun e A' => e = .returned (.bool true) ∧ J (pre ++ [x]) A' ∧ RKeep Qb B A A') →
    J [] W → CallsIn F n P g (#[.func (.yield (B + 1)) #[] #[]] ++ lb) W fun e W' => (∃ v, e = .returned v) ∧ J xs W'
theorem wpIn_range_ownZ {α : Type} {F : Fence} {n : Nat} {P : Program} {g : Operand} {ps : Array Tmp} {assign body : Code} {Q : Exit → Act → World → Prop} {a : Act} {w : World}
    (hro : F.round = none) (h1 : 1 ≤ n) {gf : Nat} {lb : Array Value} (hg : a.eval g = .func (.func gf) #[] lb) (hFg : F.fn gf) (eg : ∀ args w, (callFunc gf args).run P w = .ok (.enter gf args) w)
    {encs : α → Array Value} {xs : List α} {Qb Z : Nat → Prop} (hQ : ∀ i, Qb i → i < w.heap.size ∨ w.heap.size + 2 ≤ i) (hZ : ∀ i, Z i → w.heap.size + 2 ≤ i) (hseq : SeqOwnZ F (n - 1) P gf lb encs xs Qb Z w.heap.size w) (hps : ∀ x, (encs x).size = ps.size)
    (I : List α → World → Prop) (hI : ∀ s A A', I s A → Keep (fun i => Z i ∨ (w.heap.size ≤ i ∧ i < w.heap.size + 2)) A A' → I s A') (h0 : I [] w)
    (Ax : α → Act → World → Prop) (hAx : ∀ x a' A A', Ax x a' A → Keep (fun i => i = w.heap.size + 1) A A' → Ax x a' A')
    (hassign : ∀ (pre : List α) (x : α) (W : World) (K : Act → World → Prop), I pre W → w.heap.size + 2 ≤ W.heap.size → (∀ a' W', Below W.heap.size W W' → Ax x a' W' → K a' W') →
      assign.wpIn (F.inRound (w.heap.size + 1)) (n - 1 - 1) P (Exit.then K (fun _ _ _ => False)) { tmps := (ps.zip (encs x)).foldl (fun t (p, v) => t.setIfInBounds p v) a.tmps, defers := [] } W)
    (hbody : ∀ (pre : List α) (x : α) (a' : Act) (W : World), I pre W → Ax x a' W → w.heap.size + 2 ≤ W.heap.size → pre.length < xs.length → (∀ i, Z i → i < W.heap.size) →
      body.wpIn (F.inRound (w.heap.size + 1)) (n - 1 - 1) P (fun e _ W' => e = .normal ∧ I (pre ++ [x]) W' ∧ Keep Qb W W') a' W)
    (hdone : ∀ (W : World), I xs W → w.heap.size < W.heap.size → W.heap[w.heap.size]? = some (.deferred (some [])) → Q .normal { a with defers := { target := .collected w.heap.size, args := #[] } :: a.defers } W) :
    (Code.rangeFunc g ps assign body).wpIn F n P Q a w := by
  refine wpIn_rangeFunc ?_
  intro fn hfn
  rw [hro]
  obtain ⟨mk, hmk⟩ : ∃ mk : LoopState → Loop, mk = fun st => { state := st, pending := none, fn, tmps := a.tmps, params := ps, assign, body, defers := w.heap.size } := ⟨_, rfl⟩
  obtain ⟨W1, hW1⟩ : ∃ W1, (w.alloc (.deferred (some []))).alloc (.loop (mk .ready)) = W1 := ⟨_, rfl⟩
  have sW1 : W1.heap.size = w.heap.size + 2 := by rw [← hW1]; simp
  have hL1 : W1.heap[w.heap.size + 1]? = some (.loop (mk .ready)) := by
    rw [← hW1]; have := World.alloc_heap_new (w.alloc (.deferred (some []))) (.loop (mk .ready)); rwa [World.size_alloc] at this
  have hK1 : W1.heap[w.heap.size]? = some (.deferred (some [])) := by
    rw [← hW1]; exact (Below.heap_alloc _ _ _ (by simp)).trans (World.alloc_heap_new w _)
  have hb1 : Below w.heap.size w W1 := by rw [← hW1]; exact ((Below.refl _ w).alloc (Nat.le_refl _) _).alloc (by simp) _
  refine ⟨w.heap.size + 1, [{ target := .collected w.heap.size, args := #[] }], W1, { target := .fn (.func gf) lb, args := #[.func (.yield (w.heap.size + 1)) #[] #[]] }, W1, gf,
    #[.func (.yield (w.heap.size + 1)) #[] #[]] ++ lb, W1, ?_, ?_, ?_, ?_, fun _ => h1, ?_⟩
  · rw [← hW1, hmk]; exact run_enterLoop_outer _ _ _ _ _
  · simp only [resolve, hg]
    simp [go_sem]
  · intro f' hf'; simp [Target.leads] at hf'; subst hf'; exact hFg
  · simp [invoke, go_sem, eg]
  · refine (hseq (fun pre W => I pre W ∧ W.heap[w.heap.size + 1]? = some (.loop (mk .ready)) ∧ W.heap[w.heap.size]? = some (.deferred (some []))) W1 hb1 sW1 ?_ ?_ ⟨hI _ _ _ h0 (Keep.ofBelow hb1), hL1, hK1⟩).mono ?_
    · rintro s A A' ⟨i1, i2, i3⟩ hb
      exact ⟨hI _ _ _ i1 (hb.mono fun _ _ h => .inl h), (hb.block _ (Array.getElem?_eq_some_iff.1 i2).1 (fun h => by have := hZ _ h; omega)).trans i2, (hb.block _ (Array.getElem?_eq_some_iff.1 i3).1 (fun h => by have := hZ _ h; omega)).trans i3⟩
    · rintro pre x W ⟨hi, hl, hk⟩ hlen hzl
      have hlt : w.heap.size + 1 < W.heap.size := (Array.getElem?_eq_some_iff.1 hl).1
      have hy := run_yield (P := P) (args := encs x) hl (by rw [hmk]; exact hps x)
      rw [hmk] at hy
      refine ⟨fn, _, assign, body, hy, roundIn_of_wpIn hfn (hassign pre x W _ hi (by omega) ?_)⟩
      intro a' Wa hba hax
      have hla := (hba.block _ hlt).trans hl
      have hka := (hba.block (w.heap.size) (by omega)).trans hk
      have hsa := hba.size
      refine ⟨_, run_beginRound hla (by rw [hmk]), ?_⟩
      obtain ⟨Wb, hWb⟩ : ∃ Wb, Wa.putObj (w.heap.size + 1) (.loop { mk .ready with state := .busy }) = Wb := ⟨_, rfl⟩
      rw [hWb]
      have kb : Keep (fun i => i = w.heap.size + 1) Wa Wb := by rw [← hWb]; exact keep_put _
      have hlb : Wb.heap[w.heap.size + 1]? = some (.loop { mk .ready with state := .busy }) := by rw [← hWb]; exact World.putObj_heap_same (by omega)
      have hkb : Wb.heap[w.heap.size]? = some (.deferred (some [])) := (kb.block _ (by omega) (by omega)).trans hka
      have hib : I pre Wb := hI _ _ _ (hI _ _ _ hi (Keep.ofBelow hba)) (kb.mono fun i _ e => .inr (by omega))
      refine wpIn_mono (hbody pre x a' Wb hib (hAx _ _ _ _ hax kb) (by have := kb.size; omega) hlen (fun i hz => by have := hzl i hz; have := hba.size; have := kb.size; omega)) ?_
      rintro e a3 W3 ⟨rfl, hi3, k3⟩
      have hl3 : W3.heap[w.heap.size + 1]? = some (.loop { mk .ready with state := .busy }) := (k3.block _ (by have := kb.size; omega) (fun e => by have := hQ _ e; omega)).trans hlb
      have hk3 : W3.heap[w.heap.size]? = some (.deferred (some [])) := (k3.block _ (by have := kb.size; omega) (fun e => by have := hQ _ e; omega)).trans hkb
      have hr := run_endRound (P := P) none hl3
      obtain ⟨W4, hW4⟩ : ∃ W4, W3.putObj (w.heap.size + 1) (.loop (mk .ready)) = W4 := ⟨_, rfl⟩
      have k4 : Keep (fun i => i = w.heap.size + 1) W3 W4 := by rw [← hW4]; exact keep_put _
      have hs3 : w.heap.size + 1 < W3.heap.size := (Array.getElem?_eq_some_iff.1 hl3).1
      have hl4 : W4.heap[w.heap.size + 1]? = some (.loop (mk .ready)) := by rw [← hW4]; exact World.putObj_heap_same hs3
      refine ⟨.bool true, W4, ?_, rfl, ⟨hI _ _ _ hi3 (k4.mono fun i _ e => .inr (by omega)), hl4, (k4.block _ (by omega) (by omega)).trans hk3⟩, ?_⟩
      · rw [← hW4]
        rw [hmk] at hr ⊢
        exact hr
      · have ka : RKeep Qb w.heap.size W Wa := Keep.ofBelow hba
        exact ((ka.trans (kb.mono (fun i _ e => .inr (by omega)))).trans (k3.mono (fun i _ e => .inl e))).trans (k4.mono (fun i _ e => .inr (by omega)))
    · rintro e W2 ⟨⟨v, rfl⟩, hi, hl, hk⟩
      have he := run_endLoop (P := P) hl (by rw [hmk]; simp)
      have hs2 : w.heap.size + 1 < W2.heap.size := (Array.getElem?_eq_some_iff.1 hl).1
      have k5 : Keep (fun i => i = w.heap.size + 1) W2 (W2.putObj (w.heap.size + 1) (.loop { mk .ready with state := .exhausted })) := keep_put _
      refine ⟨none, _, ?_, hdone _ (hI _ _ _ hi (k5.mono fun i _ e => .inr (by omega))) (by have := k5.size; omega) ((k5.block _ (by omega) (by omega)).trans hk)⟩
      rw [hmk] at he ⊢
      exact he
end Go.Proofs.YtbaehokffdpopaaGreat
