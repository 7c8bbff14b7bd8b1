/- Layer 8's laws: a machine of tasks that do not park, as a law holds it; the chapter's examples. -/
import Derived.Test.YtpopcallphbklaaGreatMacL
namespace Go.Proofs.YtpopcallphbklaaGreat
open Go.ChangeShapes Go.WideShapes Go.ChangeAt Go.RowKit
set_option linter.unusedVariables false
set_option maxRecDepth 100000
set_option linter.unusedSimpArgs false
/-- a machine over cells of its own, in memory that the call made -/
structure MS (n0 : Nat) (w : World) (C S M : Nat) (s : St) : Prop where
  it : ∃ U, MachS w C S C C [] M U s ∧ ∀ b, U b → n0 ≤ b
  lo : n0 ≤ C ∧ n0 ≤ S ∧ n0 ≤ M
theorem MS.size {n0 : Nat} {w : World} {C S M : Nat} {s : St} (h : MS n0 w C S M s) : n0 ≤ w.heap.size ∧ C < w.heap.size ∧ S < w.heap.size := by
  obtain ⟨⟨U, hM, hU⟩, h1⟩ := h
  have := hM.cells.own.lt
  have := hM.cells.row.lt
  omega
theorem MS.still {n0 : Nat} {w w1 : World} {C S M : Nat} {s : St} (h : MS n0 w C S M s) (hk : Keep (fun _ => False) w w1) : MS n0 w1 C S M s := by
  obtain ⟨⟨U, hM, hU⟩, h1⟩ := h
  exact ⟨⟨U, hM.still hk, hU⟩, h1⟩
theorem MS.below {n0 : Nat} {w w1 : World} {C S M : Nat} {s : St} (h : MS n0 w C S M s) (hb : Below w.heap.size w w1) : MS n0 w1 C S M s := h.still (Keep.ofBelow hb)
theorem ms_pick {n0 : Nat} {w : World} {C S M : Nat} {s : St} (t k : Int) (h : MS n0 w C S M s) (hn : 0 ≤ s.n ∧ s.n ≤ 2000000) :
    Calls Tryz.prog 8 #[pV M, .agg #[.int .i64 t, .int .i64 k]] w fun e w' => e = .returned (.bool (pickS s t k).2) ∧ MS n0 w' C S M (pickS s t k).1 ∧ Below n0 w w' := by
  have hs := h.size
  obtain ⟨⟨U, hM, hU⟩, h1⟩ := h
  refine (mpick_all C S C C M [] U s t k w hM hn).mono ?_
  rintro e w' ⟨rfl, ⟨U', g1, g2⟩, g3⟩
  refine ⟨rfl, ⟨⟨U', g1, fun b hb => (g2 b hb).elim (hU b) (fun h => by omega)⟩, h1⟩, g3.below hs.1 (fun i _ hi => ?_)⟩
  rcases hi with hi | (rfl | rfl) | hi
  · exact hU i hi
  · omega
  · omega
  · simp at hi
theorem ms_load {n0 : Nat} {w : World} {C S M : Nat} {s : St} (i : Nat) (x : Int) (h : MS n0 w C S M s) (hx : s.m[i]? = some x) (hn : 0 ≤ s.n ∧ s.n ≤ 2000000) :
    Calls Tryz.prog 30 #[cellsV C, .int .i64 i] w fun e w' => e = .returned (.int .u64 x) ∧ MS n0 w' C S M ⟨s.m, s.ps, s.ts, s.n + 1⟩ ∧ Below n0 w w' := by
  have hs := h.size
  obtain ⟨⟨U, hM, hU⟩, h1⟩ := h
  refine (load_yes C S s.m s.n i x w hM.cells hx hn.1 (by omega)).mono ?_
  rintro e w' ⟨rfl, g1, g2⟩
  have hz := g2.size
  obtain ⟨L, e1, hL⟩ := hM.mach
  have hsz : C < w'.heap.size := by omega
  refine ⟨rfl, ⟨⟨U, ⟨⟨L, e1, hL.keep g2 (fun b hb hf => hf.elim (hM.apart b hb).1 (hM.apart b hb).2.1)⟩, g1, ?_, hM.ok, hM.apart, hsz, hsz, fun c hc => by simp at hc⟩, hU⟩, h1⟩, g2.below hs.1 (fun i _ hi => ?_)⟩
  · rcases hM.perm with hp | hp
    · exact .inl hp
    · exact absurd rfl (hM.cells.own.apart hp.own (by decide))
  · rcases hi with rfl | rfl <;> omega
theorem ms_values {n0 : Nat} {w : World} {C S M : Nat} {s : St} (t : Int) (h : MS n0 w C S M s) (hl : (thrAt s.ts t).2.length ≤ 1000) :
    Calls Tryz.prog 17 #[pV M, .int .i64 t] w fun e w' => ∃ v, e = .returned v ∧ RowI w' v (thrAt s.ts t).2 ∧ Below w.heap.size w w' := by
  obtain ⟨⟨U, hM, hU⟩, h1⟩ := h
  obtain ⟨L, e1, hL⟩ := hM.mach
  have := thread_any C C M U L t w hL
  rw [e1] at this
  exact mvalues_gen (pV M) (thrAt s.ts t) C C t w hl this
theorem ms_done {n0 : Nat} {w : World} {C S M : Nat} {s : St} (t : Int) (h : MS n0 w C S M s) :
    Calls Tryz.prog 32 #[pV M, .int .i64 t] w fun e w' => e = .returned (.bool (thrAt s.ts t).1.isEmpty) ∧ Below w.heap.size w w' := by
  obtain ⟨⟨U, hM, hU⟩, h1⟩ := h
  obtain ⟨L, e1, hL⟩ := hM.mach
  have h2 := thread_any C C M U L t w hL
  have h3 := thrOk_at hL t
  rw [e1] at h2 h3
  exact mdone_gen (pV M) (thrAt s.ts t) C C t w h3 h2
def overS (s : St) : Bool := s.ts.all fun x => x.1.isEmpty
theorem ms_over {n0 : Nat} {w : World} {C S M : Nat} {s : St} (h : MS n0 w C S M s) : Calls Tryz.prog 13 #[pV M] w fun e w' => e = .returned (.bool (overS s)) ∧ Below w.heap.size w w' := by
  obtain ⟨⟨U, hM, hU⟩, h1⟩ := h
  obtain ⟨L, e1, hL⟩ := hM.mach
  have := over_any C C M U L w hL
  unfold overL at this
  rw [e1] at this
  exact this
def ableS (s : St) : List Nat := sift s.ts.length (fun i => canT s.ps (thrAt s.ts i) 0)
theorem ms_able {n0 : Nat} {w : World} {C S M : Nat} {s : St} (h : MS n0 w C S M s) : Calls Tryz.prog 15 #[pV M] w fun e w' => ∃ u, e = .returned u ∧ RowI w' u ((ableS s).map fun x : Nat => (x : Int)) ∧ Below w.heap.size w w' := by
  obtain ⟨⟨U, hM, hU⟩, h1⟩ := h
  obtain ⟨L, e1, hL⟩ := hM.mach
  have hl : L.length = s.ts.length := by rw [← e1]; simp
  have := able_any C C C M [] s.ps U L w hL (fun ⟨k, hk, hp⟩ => by
    rcases hM.perm with hno | hP
    · exfalso
      have hx : k.x ∈ s.ts := by rw [← e1]; exact List.mem_map_of_mem hk
      obtain ⟨X, O, ⟨l, vs⟩⟩ := k
      cases l with
      | nil => simp [parkedT] at hp
      | cons y l =>
        obtain ⟨r, v⟩ := y
        cases r with
        | nil => simp [parkedT, parkedS] at hp
        | cons y r =>
          have := hno _ hx _ List.mem_cons_self y (by simp)
          simp [parkedT, parkedS] at hp
          exact this hp
    · exact hP) (fun k hk t ht => hM.ok k.x (by rw [← e1]; exact List.mem_map_of_mem hk) t ht)
  have e2 : ableL s.ps L = ableS s := by unfold ableL ableS; rw [e1, hl]
  rw [e2] at this
  exact this
theorem ms_threads {n0 : Nat} {w : World} {C S M : Nat} {s : St} (h : MS n0 w C S M s) : Calls Tryz.prog 12 #[pV M] w fun e w' => e = .returned (.int .i64 s.ts.length) ∧ w = w' := by
  obtain ⟨⟨U, hM, hU⟩, h1⟩ := h
  obtain ⟨L, e1, hL⟩ := hM.mach
  have := mthreads_any C C M U L w hL
  rwa [show L.length = s.ts.length by rw [← e1]; simp] at this
/-- tasks that the call made, handed over -/
theorem ms_add {n0 : Nat} {w : World} {C S M : Nat} {s : St} (TK : List Tk) (v : Value) (O0 : Nat → Prop) (w1 : World) (h : MS n0 w C S M s) (hb : Below w.heap.size w w1) (hG : Gives w1 C C O0 v TK) (hO : ∀ b, O0 b → w.heap.size ≤ b) (hnp : NoPark s.ts) (hnk : ∀ k ∈ TK, ∀ y ∈ k.x.1, ¬ (y.kind = 5 ∨ y.kind = 6))
    (hf : s.ts.length + 1 ≤ 1000) (ht : TK.length ≤ 1000) :
    Calls Tryz.prog 27 #[pV M, v] w1 fun e w' => e = .returned (.int .i64 s.ts.length) ∧ MS n0 w' C S M ⟨s.m, s.ps, s.ts ++ [goS (TK.map Tk.x) []], s.n⟩ ∧ Below n0 w1 w' := by
  have hs := h.size
  have h1 := h.below hb
  have hbs := hb.size
  obtain ⟨⟨U, hM0, hU0⟩, _⟩ := h
  obtain ⟨⟨U1, hM1, hU1⟩, hlo⟩ := h1
  have hM : MachS w1 C S C C [] M U s := hM0.still (Keep.ofBelow hb)
  have hlt := hM0.lt
  refine (madd_all C S C C M [] U O0 s TK v w1 hM hG (fun b hb' => ⟨fun hu => by have := hlt b hu; have := hO b hb'; omega, by have := hO b hb'; omega, by have := hO b hb'; omega, by have := hO b hb'; omega, by have := hO b hb'; omega, by simp⟩) (fun k hk x hx hk5 => absurd hk5 (hnk k hk x hx)) (.inl ⟨hnp, hnk⟩) hf ht).mono ?_
  rintro e w' ⟨rfl, ⟨U', g1, g2⟩, g3⟩
  refine ⟨rfl, ⟨⟨U', g1, fun b hb' => ?_⟩, hlo⟩, g3.below (by omega) (fun i _ hi => hi.elim (hU0 i) (fun h => by have := hO i h; omega))⟩
  rcases g2 b hb' with h | h | h
  · exact hU0 b h
  · have := hO b h; omega
  · omega
end Go.Proofs.YtpopcallphbklaaGreat
