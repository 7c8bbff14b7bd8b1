/- A frame: all blocks stand but those of which Q is said. No program is named here. -/
import Derived.Test.YtcgljmeppmdihaaBlk
namespace Go.Proofs.Ytcgljmeppmdihaa
open Go.ChangeShapes Go.WideShapes Go.ChangeAt Go.RowKit
set_option linter.unusedVariables false
/-- all blocks that were there are as they were, but those of which Q is said -/
structure Keep (Q : Nat → Prop) (w w' : World) : Prop where
  os : w'.os = w.os
  tape : w'.tape = w.tape
  output : w'.output = w.output
  size : w.heap.size ≤ w'.heap.size
  block : ∀ k, k < w.heap.size → ¬ Q k → w'.heap[k]? = w.heap[k]?
theorem Keep.refl (Q : Nat → Prop) (w : World) : Keep Q w w := ⟨rfl, rfl, rfl, Nat.le_refl _, fun _ _ _ => rfl⟩
theorem Keep.step {Q Q' : Nat → Prop} {a b c : World} (h : Keep Q a b) (k : Keep Q' b c) (hq : ∀ i, i < a.heap.size → Q' i → Q i) : Keep Q a c :=
  ⟨k.os.trans h.os, k.tape.trans h.tape, k.output.trans h.output, Nat.le_trans h.size k.size, fun i hi hn => (k.block i (Nat.lt_of_lt_of_le hi h.size) (fun hc => hn (hq i hi hc))).trans (h.block i hi hn)⟩
theorem Keep.trans {Q : Nat → Prop} {a b c : World} (h : Keep Q a b) (k : Keep Q b c) : Keep Q a c := h.step k (fun _ _ h => h)
theorem Keep.mono {Q Q' : Nat → Prop} {a b : World} (h : Keep Q a b) (hq : ∀ i, i < a.heap.size → Q i → Q' i) : Keep Q' a b :=
  ⟨h.os, h.tape, h.output, h.size, fun i hi hn => h.block i hi (fun hc => hn (hq i hi hc))⟩
theorem Keep.ofBelow {Q : Nat → Prop} {a b : World} (h : Below a.heap.size a b) : Keep Q a b := ⟨h.os, h.tape, h.output, h.size, fun i hi _ => h.block i hi⟩
theorem Keep.below {Q : Nat → Prop} {a b : World} {n : Nat} (h : Keep Q a b) (hn : n ≤ a.heap.size) (hq : ∀ i, i < a.heap.size → Q i → n ≤ i) : Below n a b :=
  ⟨h.os, h.tape, h.output, h.size, fun i hi => h.block i (by omega) (fun hc => by have := hq i (by omega) hc; omega)⟩
theorem Keep.alloc {Q : Nat → Prop} {a b : World} (h : Keep Q a b) (o : Obj) : Keep Q a (b.alloc o) :=
  h.step (Keep.ofBelow (Q := Q) ((Below.refl _ b).alloc (Nat.le_refl _) o)) (fun _ _ h => h)
theorem Keep.set {Q : Nat → Prop} {a b : World} (h : Keep Q a b) {p : Addr} (hp : p.block < a.heap.size → Q p.block) (v : Value) : Keep Q a (b.setCell p v) :=
  h.step (Q' := fun i => i = p.block) ⟨rfl, rfl, rfl, by simp [World.setCell], fun k _ hk => Below.heap_setCell b p v k hk⟩ (fun i hi e => e ▸ hp (e ▸ hi))
theorem Keep.drew {Q : Nat → Prop} {a b : World} (h : Keep Q a b) : Keep Q a b.drew := ⟨h.os, h.tape, h.output, h.size, h.block⟩
theorem Keep.drewN {Q : Nat → Prop} {a b : World} (h : Keep Q a b) (n : Nat) : Keep Q a (b.drewN n) := ⟨h.os, h.tape, h.output, h.size, h.block⟩
theorem Blk.keep {w w1 : World} {B : Nat} {t : TypeId} {cs : Array Value} {Q : Nat → Prop} (h : Blk w B t cs) (hk : Keep Q w w1) (hn : ¬ Q B) : Blk w1 B t cs := (hk.block B h.lt hn).trans h
theorem Blk.lt_keep {w w1 : World} {B : Nat} {t : TypeId} {cs : Array Value} {Q : Nat → Prop} (h : Blk w B t cs) (hk : Keep Q w w1) : B < w1.heap.size := Nat.lt_of_lt_of_le h.lt hk.size
end Go.Proofs.Ytcgljmeppmdihaa
