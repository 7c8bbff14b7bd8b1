/- Layer 6's law: all: the task of items, in pieces. -/
import Derived.Test.YtmkgbbbhmbejnaaTaskP
import Derived.Laws.AppendOwnNone
namespace Go.Proofs.Ytmkgbbbhmbejnaa
open Go.ChangeShapes Go.WideShapes Go.ChangeAt Go.RowKit
set_option linter.unusedVariables false
set_option maxRecDepth 100000
set_option linter.unusedSimpArgs false
theorem own_keep6 {w w' : World} {B size n : Nat} {e : TypeId} {v : Value} {xs : List Value} {F : Nat → Prop} (h : w.ownsRow B e size v n xs) (hk : Keep F w w') (hQ : ∀ g, v.ownBlock = some g → ¬ F g) : w'.ownsRow B e size v n xs := by
  refine ⟨h.1, ?_⟩
  rcases h.2 with h | ⟨g, cap, cur, hv, hg, hh, r⟩
  · exact .inl h
  · exact .inr ⟨g, cap, cur, hv, hg, (hk.block g (Array.getElem?_eq_some_iff.1 hh).1 (hQ g (by rw [hv]; rfl))).trans hh, r⟩
theorem own_lt6 {w : World} {B size n : Nat} {e : TypeId} {v : Value} {xs : List Value} (h : w.ownsRow B e size v n xs) {g : Nat} (hg : v.ownBlock = some g) : B ≤ g ∧ g < w.heap.size := by
  rcases h.2 with ⟨hv, _⟩ | ⟨g', cap, cur, hv, hb, hh, _⟩
  · rw [hv] at hg; cases hg
  · rw [hv] at hg
    obtain rfl : g' = g := by simpa [Value.ownBlock] using hg
    exact ⟨hb, (Array.getElem?_eq_some_iff.1 hh).1⟩
theorem grown_keep6 {w w2 : World} {r : Option Nat} {o : Obj} (hg : (w.alloc o).grownBy w2 r) : Keep (fun b => r = some b) w w2 :=
  ⟨hg.1, hg.2, hg.3, Nat.le_trans (by simp) hg.4, fun k hk hn => (hg.5 k (by simp; omega) (fun e => hn e.symm)).trans (Below.heap_alloc w o k hk)⟩
def ptrs (L : List (Option Addr × List Itm)) : List Value := L.map fun y => Value.pointer y.1
def ElemsAt (w : World) (C P : Nat) (Q : Nat → Prop) (L : List (Option Addr × List Itm)) : Prop := ∀ y ∈ L, Elem (Cont w C P Q) w C P Q y.1 y.2
theorem ElemsAt.keep {w w1 : World} {C P : Nat} {Q Q' F : Nat → Prop} {L : List (Option Addr × List Itm)} (h : ElemsAt w C P Q L) (hk : Keep F w w1) (hd : ∀ b, Q b → ¬ F b) (hq : ∀ b, b < w.heap.size → Q b → Q' b) : ElemsAt w1 C P Q' L :=
  fun y hy => (h y hy).keep (fun f s h => h.keep hk hd hq) hk hd hq
/-- behind so many items: what the two rows have -/
structure AInv (w0 wr : World) (C P : Nat) (l : List Itm) (k : Nat) (vo vp : Value) (O L : List (Option Addr × List Itm)) (Q : Nat → Prop) : Prop where
  o : wr.ownsRow w0.heap.size 56 1 vo O.length (ptrs O)
  p : wr.ownsRow w0.heap.size 56 1 vp L.length (ptrs L)
  o0 : O = [] → vo = .slice none 0 0
  p0 : L = [] → vp = .slice none 0 0
  fl : flat O ++ flat L = l.take k
  eo : ElemsAt wr C P Q O
  ep : ElemsAt wr C P Q L
  low : ∀ b, Q b → w0.heap.size ≤ b
  qo : ∀ g, vo.ownBlock = some g → ¬ Q g
  qp : ∀ g, vp.ownBlock = some g → ¬ Q g
  ne : ∀ g, vo.ownBlock = some g → vp.ownBlock ≠ some g
  below : Below w0.heap.size w0 wr
  fo : O.length ≤ k
  fp : L.length ≤ k
/-- of what new things are made, ahead of world w2 -/
def Qn (Q : Nat → Prop) (wr : World) : Nat → Prop := fun b => (Q b ∧ b < wr.heap.size) ∨ wr.heap.size ≤ b
theorem flat_append (A B : List (Option Addr × List Itm)) : flat (A ++ B) = flat A ++ flat B := by simp [flat]
theorem flat_one (a : Option Addr) (s : List Itm) : flat [(a, s)] = s := by simp [flat]
/-- an item's task goes to the part -/
theorem AInv.push {w0 wr w2 w5 : World} {C P : Nat} {l : List Itm} {k : Nat} {vo vp : Value} {O L : List (Option Addr × List Itm)} {Q : Nat → Prop} {x : Itm} {r : List Itm} {v : Int} {t g cap : Nat} {o : Obj}
    (h : AInv w0 wr C P l k vo vp O L Q) (hx : l[k]? = some x) (hM : Made6 wr C P (Qn Q wr) r v t w2) (hE : Equiv6 [x] r v)
    (h5 : w5.ownsRow w0.heap.size 56 1 (.slice (some ⟨g, 0, none⟩) (L.length + 1) cap) (L.length + 1) (ptrs L ++ [pV t])) (hgr : (w2.alloc o).grownBy w5 vp.ownBlock) (hg : vp.ownBlock = some g ∨ (w2.alloc o).heap.size ≤ g) :
    AInv w0 w5 C P l (k + 1) vo (.slice (some ⟨g, 0, none⟩) (L.length + 1) cap) O (L ++ [(some ⟨t, 0, none⟩, [x])]) (fun b => Qn Q wr b ∧ b < w2.heap.size) := by
  have hsr := h.below.size
  have hs2 := hM.2.2.size
  have kM : Keep (fun _ => False) wr w2 := Keep.ofBelow hM.2.2
  have k5 := grown_keep6 hgr
  have hq : ∀ b, b < wr.heap.size → Q b → (Qn Q wr b ∧ b < w2.heap.size) := fun b hb h => ⟨.inl ⟨h, hb⟩, by omega⟩
  have hown : ∀ b, Qn Q wr b ∧ b < w2.heap.size → ¬ vp.ownBlock = some b := fun b hb e => by
    have := (own_lt6 h.p e).2
    rcases hb.1 with hb | hb
    · exact h.qp b e hb.1
    · omega
  rw [World.size_alloc] at hg
  refine ⟨own_keep6 (own_keep6 h.o kM (fun _ _ h => h)) k5 (fun j hj => h.ne j hj), by simpa [ptrs] using h5, h.o0, fun e => by simp at e, ?_, (h.eo.keep kM (fun _ _ h => h) hq).keep k5 hown (fun _ _ h => h), ?_, fun b hb => ?_, fun j hj hb => ?_, fun j hj hb => ?_, fun j hj hj2 => ?_, ?_, by have := h.fo; omega, by have := h.fp; simp; omega⟩
  · rw [flat_append, flat_one, take_at hx, ← List.append_assoc, h.fl]
  · intro y hy
    rw [List.mem_append] at hy
    rcases hy with hy | hy
    · exact ((h.ep.keep kM (fun _ _ h => h) hq).keep k5 hown (fun _ _ h => h)) y hy
    · obtain rfl := List.mem_singleton.1 hy
      have e1 : ElemsAt w2 C P (fun b => Qn Q wr b ∧ b < w2.heap.size) [(some ⟨t, 0, none⟩, [x])] := fun z hz => by
        obtain rfl := List.mem_singleton.1 hz
        exact .inr ⟨t, r, v, rfl, ⟨.inr hM.1, hM.2.1.lt⟩, TaskC.keep (F := fun _ => False) hM.task (Keep.refl _ _) (fun _ _ h => h) (fun h => h) (fun b hb h => ⟨h, hb⟩), hE⟩
      exact (e1.keep k5 hown (fun _ _ h => h)) _ (by simp)
  · rcases hb.1 with hb | hb
    · exact h.low b hb.1
    · omega
  · have := own_lt6 h.o hj
    rcases hb.1 with hb | hb
    · exact h.qo j hj hb.1
    · omega
  · obtain rfl : g = j := by simpa [Value.ownBlock] using hj
    rcases hg with hg | hg
    · exact hown g hb hg
    · omega
  · obtain rfl : g = j := by simpa [Value.ownBlock] using hj2
    have := own_lt6 h.o hj
    rcases hg with hg | hg
    · exact h.ne g hj hg
    · omega
  · exact (h.below.trans (hM.2.2.mono hsr)).trans (k5.below (by omega) (fun i _ e => (own_lt6 h.p e).1))
/-- a part's task goes to the tasks -/
theorem AInv.chunk {w0 wr w2 w5 : World} {C P : Nat} {l : List Itm} {k : Nat} {vo vp : Value} {O L : List (Option Addr × List Itm)} {Q : Nat → Prop} {r : List Itm} {v : Int} {t g cap : Nat} {o : Obj}
    (h : AInv w0 wr C P l k vo vp O L Q) (hL : L ≠ []) (hk : O.length + 1 ≤ k) (hM : Made6 wr C P (Qn Q wr) r v t w2) (hE : Res6 L r v)
    (h5 : w5.ownsRow w0.heap.size 56 1 (.slice (some ⟨g, 0, none⟩) (O.length + 1) cap) (O.length + 1) (ptrs O ++ [pV t])) (hgr : (w2.alloc o).grownBy w5 vo.ownBlock) (hg : vo.ownBlock = some g ∨ (w2.alloc o).heap.size ≤ g) :
    AInv w0 w5 C P l k (.slice (some ⟨g, 0, none⟩) (O.length + 1) cap) (.slice none 0 0) (O ++ [(some ⟨t, 0, none⟩, flat L)]) [] (fun b => Qn Q wr b ∧ b < w2.heap.size) := by
  have hsr := h.below.size
  have hs2 := hM.2.2.size
  have kM : Keep (fun _ => False) wr w2 := Keep.ofBelow hM.2.2
  have k5 := grown_keep6 hgr
  have hq : ∀ b, b < wr.heap.size → Q b → (Qn Q wr b ∧ b < w2.heap.size) := fun b hb h => ⟨.inl ⟨h, hb⟩, by omega⟩
  have hown : ∀ b, Qn Q wr b ∧ b < w2.heap.size → ¬ vo.ownBlock = some b := fun b hb e => by
    have := (own_lt6 h.o e).2
    rcases hb.1 with hb | hb
    · exact h.qo b e hb.1
    · omega
  rw [World.size_alloc] at hg
  refine ⟨by simpa [ptrs] using h5, by simpa [ptrs] using World.ownsRow_nil w5 w0.heap.size 56 1, fun e => by simp at e, fun _ => rfl, ?_, ?_, fun y hy => by simp at hy, fun b hb => ?_, fun j hj hb => ?_, fun j hj => by simp [Value.ownBlock] at hj, fun j _ => by simp [Value.ownBlock], ?_, by simpa using hk, by simp⟩
  · rw [flat_append, flat_one]
    have := h.fl
    simpa [Go.Proofs.Ytmkgbbbhmbejnaa.flat] using this
  · intro y hy
    rw [List.mem_append] at hy
    rcases hy with hy | hy
    · exact ((h.eo.keep kM (fun _ _ h => h) hq).keep k5 hown (fun _ _ h => h)) y hy
    · obtain rfl := List.mem_singleton.1 hy
      have e1 : ElemsAt w2 C P (fun b => Qn Q wr b ∧ b < w2.heap.size) [(some ⟨t, 0, none⟩, flat L)] := fun z hz => by
        obtain rfl := List.mem_singleton.1 hz
        rcases hE with ⟨hE, _⟩ | ⟨_, hE⟩
        · exact absurd hE hL
        · exact .inr ⟨t, r, v, rfl, ⟨.inr hM.1, hM.2.1.lt⟩, TaskC.keep (F := fun _ => False) hM.task (Keep.refl _ _) (fun _ _ h => h) (fun h => h) (fun b hb h => ⟨h, hb⟩), hE⟩
      exact (e1.keep k5 hown (fun _ _ h => h)) _ (by simp)
  · rcases hb.1 with hb | hb
    · exact h.low b hb.1
    · omega
  · obtain rfl : g = j := by simpa [Value.ownBlock] using hj
    rcases hg with hg | hg
    · exact hown g hb hg
    · omega
  · exact (h.below.trans (hM.2.2.mono hsr)).trans (k5.below (by omega) (fun i _ e => (own_lt6 h.o e).1))
theorem rowAt_of {wr : World} {C P B g cap : Nat} {Q : Nat → Prop} {L : List (Option Addr × List Itm)} (hr : wr.ownsRow B 56 1 (.slice (some ⟨g, 0, none⟩) L.length cap) L.length (ptrs L)) (he : ElemsAt wr C P Q L) : RowAt (Cont wr C P Q) wr C P Q g 0 L := fun i y hy => by
  refine ⟨?_, he y (List.mem_of_getElem? hy)⟩
  have := hr.cells (g := g) rfl i (.pointer y.1) (by rw [ptrs, List.getElem?_map, hy]; rfl)
  rwa [addr_add] at this
end Go.Proofs.Ytmkgbbbhmbejnaa
