/- MachineSums returns true. -/
import Derived.Test.YtgcmnaiiifaajaaMacSumSpec
namespace Go.Proofs.Ytgcmnaiiifaajaa
open Go.ChangeShapes Go.WideShapes Go.ChangeAt Go.RowKit
set_option linter.unusedVariables false
set_option maxRecDepth 100000
set_option linter.unusedSimpArgs false
/-- rows of bytes that came in -/
def NumsAt (w : World) (n0 : Nat) (a : Option Addr) (N : List (List Int)) : Prop :=
  ∀ (t : Nat) row, N[t]? = some row → ∃ b o, a = some ⟨b, o, none⟩ ∧ b < n0 ∧ ∃ a' c', w.cell? ⟨b, o + t, none⟩ = some (.slice a' row.length c') ∧
    ∀ (i : Nat) x, row[i]? = some x → (0 ≤ x ∧ x ≤ 255) ∧ ∃ b' o', a' = some ⟨b', o', none⟩ ∧ b' < n0 ∧ w.cell? ⟨b', o' + i, none⟩ = some (.int .u8 x)
theorem NumsAt.below {w w1 : World} {n0 : Nat} {a : Option Addr} {N : List (List Int)} (h : NumsAt w n0 a N) (hb : Below n0 w w1) : NumsAt w1 n0 a N := fun t row ht => by
  obtain ⟨b, o, e, hl, a', c', h1, h2⟩ := h t row ht
  refine ⟨b, o, e, hl, a', c', (hb.cell (p := ⟨b, _, none⟩) hl).trans h1, fun i x hi => ?_⟩
  obtain ⟨h3, b', o', e', hl', h4⟩ := h2 i x hi
  exact ⟨h3, b', o', e', hl', (hb.cell (p := ⟨b', _, none⟩) hl').trans h4⟩
/-- picks that came in: their threads -/
def PickTs (w : World) (n0 : Nat) (a : Option Addr) (len : Nat) : Prop :=
  ∀ i, i < len → ∃ b o, a = some ⟨b, o, none⟩ ∧ b < n0 ∧ ∃ t : Int, w.cell? ⟨b, o + i * 2, none⟩ = some (.int .i64 t)
theorem idx_u8s (len c B o i : Nat) (h : i < len) : ∀ W, (Instr.indexAt 31 (.slice (some ⟨B, o, none⟩) len c) (.int .i64 (i : Int))).run Try.prog W = .ok (.pointer (some ⟨B, o + i, none⟩)) W := by
  intro W
  go_simp
theorem idx_u8ss (len c B o i : Nat) (h : i < len) : ∀ W, (Instr.indexAt 22 (.slice (some ⟨B, o, none⟩) len c) (.int .i64 (i : Int))).run Try.prog W = .ok (.pointer (some ⟨B, o + i, none⟩)) W := by
  intro W
  go_simp
theorem stask_info : (Try.prog.info? 32).map (fun i => (i.zero, i.size, i.bytes)) = some (some (.pointer none), 1, 8) := by kernel_rfl
abbrev cut10 (r : List Int) : List Int := r.take 10
/-- what the first t rows ask -/
abbrev asked (N : List (List Int)) (t : Nat) : List (List Int) := (N.take t).map cut10
theorem asked_next {N : List (List Int)} {t : Nat} {r : List Int} (h : N[t]? = some r) : asked N (t + 1) = asked N t ++ [cut10 r] := by
  unfold asked
  rw [List.take_add_one, h]; simp
/-- the machine when it has the first threads -/
def madeS (R : List (List Int)) : St := ⟨[0], [], R.map fun r => (tskOf r, []), 0⟩
theorem madeS_next (R : List (List Int)) (r : List Int) : (⟨(madeS R).m, (madeS R).ps, (madeS R).ts ++ [goS (tskOf r) []], (madeS R).n⟩ : St) = madeS (R ++ [r]) := by
  rw [goS_tsk]; simp [madeS]
theorem madeS_noPark (R : List (List Int)) : NoPark (madeS R).ts := by
  intro x hx t ht y hy hk
  obtain ⟨r, _, rfl⟩ := List.mem_map.1 hx
  obtain ⟨z, _, rfl⟩ := List.mem_map.1 ht
  simp at hy; subst hy
  simp at hk
/-- in the inner loop: the tasks of a thread so far -/
structure Inner (w0 wr : World) (C : Nat) (v : Value) (TK : List Tk) (r : List Int) : Prop where
  up : TksUp w0 wr C C TK
  row : wr.ownsRow w0.heap.size 32 1 v TK.length (TK.map fun k => pV k.t)
  far : ∀ g, v.ownBlock = some g → ∀ j ∈ TK, ¬ j.Q g
  is : TK.map Tk.x = tskOf r
  nil : TK = [] → v = .slice none 0 0
theorem Inner.gives {w0 wr : World} {C : Nat} {v : Value} {TK : List Tk} {r : List Int} (h : Inner w0 wr C v TK r) : Gives wr C C (fun b => w0.heap.size ≤ b ∧ b < wr.heap.size) v TK := by
  refine h.up.gives ?_
  by_cases hT : TK = []
  · exact .inl ⟨hT, h.nil hT⟩
  · rcases h.row.2 with ⟨rfl, h0⟩ | ⟨g, cap, cur, rfl, hb, hh, hnc, hcm, _⟩
    · exact absurd (List.eq_nil_of_length_eq_zero h0) hT
    · refine .inr ⟨hT, g, 0, cap, rfl, fun i k hi => ?_⟩
      have := h.row.cells (g := g) rfl i (pV k.t) (by rw [List.getElem?_map, hi]; rfl)
      rwa [addr_add] at this
/-- a task is made, and appended -/
theorem Inner.next {w0 wr w3 w5 : World} {C g cap t : Nat} {v : Value} {TK : List Tk} {r : List Int} {x : Int} {o : Obj} (h : Inner w0 wr C v TK r) (hM : Made6 wr C C (fun b => wr.heap.size ≤ b) [ad x] 0 t w3)
    (hr : w5.ownsRow w0.heap.size 32 1 (.slice (some ⟨g, 0, none⟩) (TK.length + 1) cap) (TK.length + 1) (TK.map (fun k => pV k.t) ++ [pV t])) (hgr : (w3.alloc o).grownBy w5 v.ownBlock) (hg : v.ownBlock = some g ∨ (w3.alloc o).heap.size ≤ g) :
    Inner w0 w5 C (.slice (some ⟨g, 0, none⟩) (TK.length + 1) cap) (TK ++ [⟨t, fun b => wr.heap.size ≤ b ∧ b < w3.heap.size, ([ad x], 0)⟩]) (r ++ [x]) := by
  have hs3 := hM.2.2.size
  have hk := grown_keep hgr
  have hvl : ∀ b, v.ownBlock = some b → b < wr.heap.size := fun b hb => (row_lt h.row hb).1
  rw [World.size_alloc] at hg
  refine ⟨(h.up.snoc hM).keep hk (fun j hj b hb e => ?_), by simpa using hr, fun g' e j hj hq => ?_, ?_, fun e => by simp at e⟩
  · rcases List.mem_append.1 hj with hj | hj
    · exact h.far b e j hj hb
    · obtain rfl := List.mem_singleton.1 hj
      have h1 : wr.heap.size ≤ b ∧ b < w3.heap.size := hb
      have := hvl b e
      omega
  · obtain rfl := own_some e
    rcases List.mem_append.1 hj with hj | hj
    · rcases hg with hg | hg
      · exact h.far _ hg j hj hq
      · have := (h.up.lo j hj _ hq).2; omega
    · obtain rfl := List.mem_singleton.1 hj
      have h1 : wr.heap.size ≤ g ∧ g < w3.heap.size := hq
      rcases hg with hg | hg
      · have := hvl _ hg; omega
      · omega
  · rw [List.map_append, h.is]
    simp [tskOf]
/-- a machine, and blocks of the law's own that are none of its -/
structure MX (n0 : Nat) (w : World) (C S M : Nat) (s : St) (A : Nat → Prop) : Prop where
  it : ∃ U, MachS w C S C C [] M U s ∧ (∀ b, U b → n0 ≤ b) ∧ ∀ b, U b → ¬ A b
  lo : n0 ≤ C ∧ n0 ≤ S ∧ n0 ≤ M
  ap : ∀ b, A b → b ≠ C ∧ b ≠ S ∧ b < w.heap.size
theorem MX.ms {n0 : Nat} {w : World} {C S M : Nat} {s : St} {A : Nat → Prop} (h : MX n0 w C S M s A) : MS n0 w C S M s := by
  obtain ⟨⟨U, h1, h2, h3⟩, h4, h5⟩ := h
  exact ⟨⟨U, h1, h2⟩, h4⟩
theorem MX.below {n0 : Nat} {w w1 : World} {C S M : Nat} {s : St} {A : Nat → Prop} (h : MX n0 w C S M s A) (hb : Below w.heap.size w w1) : MX n0 w1 C S M s A := by
  obtain ⟨⟨U, h1, h2, h3⟩, h4, h5⟩ := h
  exact ⟨⟨U, h1.still (Keep.ofBelow hb), h2, h3⟩, h4, fun b hb' => ⟨(h5 b hb').1, (h5 b hb').2.1, Nat.lt_of_lt_of_le (h5 b hb').2.2 hb.size⟩⟩
/-- another block of the law's own -/
theorem MX.more {n0 : Nat} {w w1 : World} {C S M X : Nat} {s : St} {A : Nat → Prop} (h : MX n0 w C S M s A) (hb : Below w.heap.size w w1) (hX : w.heap.size ≤ X ∧ X < w1.heap.size) : MX n0 w1 C S M s (fun b => A b ∨ b = X) := by
  have hs := h.ms.size
  obtain ⟨⟨U, h1, h2, h3⟩, h4, h5⟩ := h
  have hlt := h1.lt
  refine ⟨⟨U, h1.still (Keep.ofBelow hb), h2, fun b hu ha => ha.elim (h3 b hu) (fun e => by have := hlt b hu; omega)⟩, h4, fun b hb' => ?_⟩
  rcases hb' with hb' | rfl
  · exact ⟨(h5 b hb').1, (h5 b hb').2.1, Nat.lt_of_lt_of_le (h5 b hb').2.2 hb.size⟩
  · exact ⟨by omega, by omega, hX.2⟩
theorem MX.less {n0 : Nat} {w : World} {C S M : Nat} {s : St} {A A' : Nat → Prop} (h : MX n0 w C S M s A) (hA : ∀ b, A' b → A b) : MX n0 w C S M s A' := by
  obtain ⟨⟨U, h1, h2, h3⟩, h4, h5⟩ := h
  exact ⟨⟨U, h1, h2, fun b hu ha => h3 b hu (hA b ha)⟩, h4, fun b hb => h5 b (hA b hb)⟩
theorem MX.of {n0 : Nat} {w w1 : World} {C S M X : Nat} {s : St} (h : MS n0 w C S M s) (hb : Below w.heap.size w w1) (hX : w.heap.size ≤ X ∧ X < w1.heap.size) : MX n0 w1 C S M s (fun b => b = X) := by
  obtain ⟨⟨U, h1, h2⟩, h4⟩ := h
  have : MX n0 w C S M s (fun _ => False) := ⟨⟨U, h1, h2, fun _ _ h => h⟩, h4, fun b h => h.elim⟩
  exact (this.more hb hX).less (fun b h => .inr h)
/-- a block of the law's own turns -/
theorem MX.set {n0 : Nat} {w w1 : World} {C S M : Nat} {s : St} {A : Nat → Prop} (h : MX n0 w C S M s A) (hk : Keep A w w1) : MX n0 w1 C S M s A := by
  obtain ⟨⟨U, h1, h2, h3⟩, h4, h5⟩ := h
  exact ⟨⟨U, h1.keep hk h3 (fun h => (h5 C h).1 rfl) (fun h => (h5 S h).2.1 rfl) (fun h => (h5 C h).1 rfl) (fun h => (h5 C h).1 rfl) (fun c hc => by simp at hc), h2, h3⟩, h4, fun b hb => ⟨(h5 b hb).1, (h5 b hb).2.1, Nat.lt_of_lt_of_le (h5 b hb).2.2 hk.size⟩⟩
theorem mx_pick {n0 : Nat} {w : World} {C S M : Nat} {s s' : St} {b : Bool} {A : Nat → Prop} (t k : Int) (h : MX n0 w C S M s A) (hp : pickS s t k = (s', b)) (hn : 0 ≤ s.n ∧ s.n ≤ 2000000) :
    Calls Try.prog 10 #[pV M, .agg #[.int .i64 t, .int .i64 k]] w fun e w' => e = .returned (.bool b) ∧ MX n0 w' C S M s' A ∧ Keep (fun b => n0 ≤ b ∧ ¬ A b) w w' := by
  have hs := h.ms.size
  obtain ⟨⟨U, hM, hU, hA⟩, h1, h5⟩ := h
  have := mpick_all C S C C M [] U s t k w hM hn
  rw [hp] at this
  refine this.mono ?_
  rintro e w' ⟨rfl, ⟨U', g1, g2⟩, g3⟩
  refine ⟨rfl, ⟨⟨U', g1, fun b hb => (g2 b hb).elim (hU b) (fun h => by omega), fun b hb ha => (g2 b hb).elim (fun h => hA b h ha) (fun h => by have := (h5 b ha).2.2; omega)⟩, h1, fun b hb => ⟨(h5 b hb).1, (h5 b hb).2.1, Nat.lt_of_lt_of_le (h5 b hb).2.2 g3.size⟩⟩, g3.mono (fun i _ hi => ?_)⟩
  rcases hi with hi | (rfl | rfl) | hi
  · exact ⟨hU i hi, hA i hi⟩
  · exact ⟨h1.1, fun h => (h5 _ h).1 rfl⟩
  · exact ⟨h1.2.1, fun h => (h5 _ h).2.1 rfl⟩
  · simp at hi
theorem mx_load {n0 : Nat} {w : World} {C S M : Nat} {s : St} {A : Nat → Prop} (x : Int) (h : MX n0 w C S M s A) (hx : s.m[0]? = some x) (hn : 0 ≤ s.n ∧ s.n ≤ 2000000) :
    Calls Try.prog 11 #[cellsV C, .int .i64 0] w fun e w' => e = .returned (.int .u64 x) ∧ MX n0 w' C S M ⟨s.m, s.ps, s.ts, s.n + 1⟩ A ∧ Keep (fun b => n0 ≤ b ∧ ¬ A b) w w' := by
  have hs := h.ms.size
  obtain ⟨⟨U, hM, hU, hA⟩, h1, h5⟩ := h
  refine (load_yes C S s.m s.n 0 x w hM.cells hx hn.1 (by omega)).mono ?_
  rintro e w' ⟨rfl, g1, g2⟩
  have hz := g2.size
  obtain ⟨L, e1, hL⟩ := hM.mach
  have hsz : C < w'.heap.size := by omega
  refine ⟨rfl, ⟨⟨U, ⟨⟨L, e1, hL.keep g2 (fun b hb hf => hf.elim (hM.apart b hb).1 (hM.apart b hb).2.1)⟩, g1, ?_, hM.ok, hM.apart, hsz, hsz, fun c hc => by simp at hc⟩, hU, hA⟩, h1, fun b hb => ⟨(h5 b hb).1, (h5 b hb).2.1, Nat.lt_of_lt_of_le (h5 b hb).2.2 hz⟩⟩, g2.mono (fun i _ hi => ?_)⟩
  · rcases hM.perm with hp | hp
    · exact .inl hp
    · exact absurd rfl (hM.cells.own.apart hp.own (by decide))
  · rcases hi with rfl | rfl
    · exact ⟨h1.1, fun h => (h5 _ h).1 rfl⟩
    · exact ⟨h1.2.1, fun h => (h5 _ h).2.1 rfl⟩
end Go.Proofs.Ytgcmnaiiifaajaa
