/- Contracts of package cells: the plain back's methods, the counter, and the call that recovers. -/
import Derived.Test.YtbnigmemkblflaaProg
import Derived.Test.YtbnigmemkblflaaBlk
import Derived.Defers
import Derived.Recover
import Derived.Laws.LoneSync
import Derived.Laws.EntriesVeiled
import Derived.Lib.Hide
namespace Go.Proofs.Ytbnigmemkblflaa
open Go.ChangeShapes Go.WideShapes Go.ChangeAt Go.RowKit
set_option linter.unusedVariables false
set_option linter.unusedSimpArgs false
/-- all blocks that were there are as they were, but those of which Q is said -/
structure Keep (Q : Nat → Prop) (w w' : World) : Prop where
  os : w'.os = w.os
  tape : w'.tape = w.tape
  output : w'.output = w.output
  size : w.heap.size ≤ w'.heap.size
  block : ∀ k, k < w.heap.size → ¬ Q k → w'.heap[k]? = w.heap[k]?
theorem Keep.refl (Q : Nat → Prop) (w : World) : Keep Q w w := ⟨rfl, rfl, rfl, Nat.le_refl _, fun _ _ _ => rfl⟩
theorem Keep.step {Q Q' : Nat → Prop} {a b c : World} (h : Keep Q a b) (k : Keep Q' b c) (hq : ∀ i, i < a.heap.size → Q' i → Q i) : Keep Q a c :=
  ⟨k.os.trans h.os, k.tape.trans h.tape, k.output.trans h.output, Nat.le_trans h.size k.size, fun i hi hn => (k.block i (Nat.lt_of_lt_of_le hi h.size) (fun hc => hn (hq i hi hc))).trans (h.block i hi hn)⟩
theorem Keep.trans {Q : Nat → Prop} {a b c : World} (h : Keep Q a b) (k : Keep Q b c) : Keep Q a c := h.step k (fun _ _ h => h)
theorem Keep.mono {Q Q' : Nat → Prop} {a b : World} (h : Keep Q a b) (hq : ∀ i, i < a.heap.size → Q i → Q' i) : Keep Q' a b :=
  ⟨h.os, h.tape, h.output, h.size, fun i hi hn => h.block i hi (fun hc => hn (hq i hi hc))⟩
theorem Keep.ofBelow {Q : Nat → Prop} {a b : World} (h : Below a.heap.size a b) : Keep Q a b := ⟨h.os, h.tape, h.output, h.size, fun i hi _ => h.block i hi⟩
theorem Keep.below {Q : Nat → Prop} {a b : World} {n : Nat} (h : Keep Q a b) (hn : n ≤ a.heap.size) (hq : ∀ i, i < a.heap.size → Q i → n ≤ i) : Below n a b :=
  ⟨h.os, h.tape, h.output, h.size, fun i hi => h.block i (by omega) (fun hc => by have := hq i (by omega) hc; omega)⟩
theorem Keep.alloc {Q : Nat → Prop} {a b : World} (h : Keep Q a b) (o : Obj) : Keep Q a (b.alloc o) :=
  h.step (Keep.ofBelow (Q := Q) ((Below.refl _ b).alloc (Nat.le_refl _) o)) (fun _ _ h => h)
theorem Keep.set {Q : Nat → Prop} {a b : World} (h : Keep Q a b) {p : Addr} (hp : p.block < a.heap.size → Q p.block) (v : Value) : Keep Q a (b.setCell p v) :=
  h.step (Q' := fun i => i = p.block) ⟨rfl, rfl, rfl, by simp [World.setCell], fun k _ hk => Below.heap_setCell b p v k hk⟩ (fun i hi e => e ▸ hp (e ▸ hi))
theorem Keep.drew {Q : Nat → Prop} {a b : World} (h : Keep Q a b) : Keep Q a b.drew := ⟨h.os, h.tape, h.output, h.size, h.block⟩
theorem Keep.drewN {Q : Nat → Prop} {a b : World} (h : Keep Q a b) (n : Nat) : Keep Q a (b.drewN n) := ⟨h.os, h.tape, h.output, h.size, h.block⟩
theorem Blk.keep {w w1 : World} {B : Nat} {t : TypeId} {cs : Array Value} {Q : Nat → Prop} (h : Blk w B t cs) (hk : Keep Q w w1) (hn : ¬ Q B) : Blk w1 B t cs := (hk.block B h.lt hn).trans h
theorem Blk.lt_keep {w w1 : World} {B : Nat} {t : TypeId} {cs : Array Value} {Q : Nat → Prop} (h : Blk w B t cs) (hk : Keep Q w w1) : B < w1.heap.size := Nat.lt_of_lt_of_le h.lt hk.size
/-- words, as cells -/
def words (l : List Int) : Array Value := (l.map (Value.int .u64)).toArray
theorem words_at {l : List Int} {i : Nat} {v : Int} (h : l[i]? = some v) : (words l)[i]? = some (.int .u64 v) := by simp [words, h]
theorem words_set (l : List Int) (i : Nat) (v : Int) : (words l).setIfInBounds i (.int .u64 v) = words (l.set i v) := by
  simp [words, List.map_set]
theorem words_size (l : List Int) : (words l).size = l.length := by simp [words]
/-- the value of a plain back -/
abbrev rowV (S n : Nat) : Value := .slice (some ⟨S, 0, none⟩) n n
theorem pLen_any (S n : Nat) (w : World) : Calls Try.prog 54 #[rowV S n] w fun e w' => e = .returned (.int .i64 n) ∧ w = w' := by
  go_enter Try.func54, Try.ntmps54
  go_wp2
  go_ret
  exact ⟨rfl, rfl⟩
theorem pLoad_any (S : Nat) (l : List Int) (i : Nat) (v : Int) (w : World) (hb : Blk w S 31 (words l)) (hi : l[i]? = some v) (hm : l.length ≤ 9223372036854775807) :
    Calls Try.prog 55 #[rowV S l.length, .int .i64 i] w fun e w' => e = .returned (.int .u64 v) ∧ w = w' := by
  have hlt : i < l.length := by rw [List.getElem?_eq_some_iff] at hi; exact hi.1
  have hc := hb.cell i _ (words_at hi)
  have HI := Lib.hid hi
  clear hi
  generalize l.length = n at *
  go_enter Try.func55, Try.ntmps55
  go_wp2
  go_ret
  exact ⟨rfl, rfl⟩
theorem pStore_any (S : Nat) (l : List Int) (i : Nat) (v u : Int) (w : World) (hb : Blk w S 31 (words l)) (hi : l[i]? = some v) (hm : l.length ≤ 9223372036854775807) :
    Calls Try.prog 56 #[rowV S l.length, .int .i64 i, .int .u64 u] w fun e w' => e = .returned (.tuple #[]) ∧ w.setCell ⟨S, i, none⟩ (.int .u64 u) = w' := by
  have hlt : i < l.length := by rw [List.getElem?_eq_some_iff] at hi; exact hi.1
  have hc := hb.cell i _ (words_at hi)
  have hf := hb.free i
  have HI := Lib.hid hi
  clear hi
  generalize l.length = n at *
  go_enter Try.func56, Try.ntmps56
  go_wp2
  go_end0
  exact ⟨rfl, rfl⟩
theorem pSwap_yes (S : Nat) (l : List Int) (i : Nat) (v u : Int) (w : World) (hb : Blk w S 31 (words l)) (hi : l[i]? = some v) (hm : l.length ≤ 9223372036854775807) :
    Calls Try.prog 57 #[rowV S l.length, .int .i64 i, .int .u64 v, .int .u64 u] w fun e w' => e = .returned (.bool true) ∧ w.setCell ⟨S, i, none⟩ (.int .u64 u) = w' := by
  have hlt : i < l.length := by rw [List.getElem?_eq_some_iff] at hi; exact hi.1
  have hc := hb.cell i _ (words_at hi)
  have hf := hb.free i
  have HI := Lib.hid hi
  clear hi
  generalize l.length = n at *
  go_enter Try.func57, Try.ntmps57
  go_wp2
  go_ret
  exact ⟨rfl, rfl⟩
theorem pSwap_no (S : Nat) (l : List Int) (i : Nat) (v old u : Int) (w : World) (hb : Blk w S 31 (words l)) (hi : l[i]? = some v) (hm : l.length ≤ 9223372036854775807) (hne : (v != old) = true) :
    Calls Try.prog 57 #[rowV S l.length, .int .i64 i, .int .u64 old, .int .u64 u] w fun e w' => e = .returned (.bool false) ∧ w = w' := by
  have hlt : i < l.length := by rw [List.getElem?_eq_some_iff] at hi; exact hi.1
  have hc := hb.cell i _ (words_at hi)
  have hf := hb.free i
  have HI := Lib.hid hi
  clear hi
  generalize l.length = n at *
  go_enter Try.func57, Try.ntmps57
  go_wp2
  go_ret
  exact ⟨rfl, rfl⟩
theorem pAdd_any (S : Nat) (l : List Int) (i : Nat) (v d : Int) (w : World) (hb : Blk w S 31 (words l)) (hi : l[i]? = some v) (hm : l.length ≤ 9223372036854775807) :
    Calls Try.prog 53 #[rowV S l.length, .int .i64 i, .int .u64 d] w fun e w' => e = .returned (.int .u64 (IntKind.u64.wrap (v + d))) ∧ w.setCell ⟨S, i, none⟩ (.int .u64 (IntKind.u64.wrap (v + d))) = w' := by
  have hlt : i < l.length := by rw [List.getElem?_eq_some_iff] at hi; exact hi.1
  have hc := hb.cell i _ (words_at hi)
  have hf := hb.free i
  have HI := Lib.hid hi
  clear hi
  generalize l.length = n at *
  go_enter Try.func53, Try.ntmps53
  go_wp2
  go_ret
  exact ⟨rfl, rfl⟩
/- the counter -/
theorem xload (a : Addr) (x : Int) (w : World) (hc : w.cell? a = some (.int .i64 x)) : (callFunc 32 #[.pointer (some a)]).run Try.prog w = .ok (.value (.int .i64 x)) w :=
  run_call_load Try.func32 (by kernel_rfl) (by kernel_rfl) (by kernel_rfl) .i64 (by kernel_rfl) hc
theorem xadd (a : Addr) (x y : Int) (w : World) (hc : w.cell? a = some (.int .i64 x)) (hz : w.frozen? a = false) :
    (callFunc 36 #[.pointer (some a), .int .i64 y]).run Try.prog w = .ok (.value (.int .i64 (wrap64 (x + y)))) (w.setCell a (.int .i64 (wrap64 (x + y)))) :=
  run_call_add Try.func36 (by kernel_rfl) (by kernel_rfl) (by kernel_rfl) .i64 (by kernel_rfl) hc hz (by simp [go_sem, wrap64, IntKind.wrap_i64])
theorem aLoad_any (C : Nat) (x : Int) (w : World) (hc : w.cell? ⟨C, 1, none⟩ = some (.int .i64 x)) :
    Calls Try.prog 23 #[.pointer (some ⟨C, 1, none⟩)] w fun e w' => e = .returned (.int .i64 x) ∧ w = w' := by
  have hx := xload ⟨C, 1, none⟩ x w hc
  go_enter Try.func23, Try.ntmps23
  go_wp2
  go_ret
  exact ⟨rfl, rfl⟩
theorem aAdd_any (C : Nat) (x : Int) (w : World) (hc : w.cell? ⟨C, 1, none⟩ = some (.int .i64 x)) (hz : w.frozen? ⟨C, 1, none⟩ = false) :
    Calls Try.prog 35 #[.pointer (some ⟨C, 1, none⟩), .int .i64 1] w fun e w' => e = .returned (.int .i64 (wrap64 (x + 1))) ∧ w.setCell ⟨C, 1, none⟩ (.int .i64 (wrap64 (x + 1))) = w' := by
  have hx := xadd ⟨C, 1, none⟩ x 1 w hc hz
  go_enter Try.func35, Try.ntmps35
  go_wp2
  go_ret
  exact ⟨rfl, rfl⟩
/- the call that recovers -/
theorem catch_idle (w : World) : CallsD Try.prog 31 #[] .returning w fun e u' w' => e = .returned (.tuple #[]) ∧ u' = .returning ∧ w' = w := by
  refine callsD_of_wpS Try.func31 rfl fun c₀ cs hu => ?_
  apply wpS_region
  simp [wpOpsS, go_sem, recoverD, hu, Try.ntmps31, Exit.thenS, bodyPostS, results, Try.results31]
  cases c₀
  simp_all
theorem attempt_any (F : Nat) (caps : Array Value) (w : World) (P : World → Prop)
    (hcall : ∀ (W : World) (args : Array Value), (callFunc F args).run Try.prog W = .ok (.enter F args) W)
    (h : Calls Try.prog F caps w fun e w' => e = .returned (.tuple #[]) ∧ P w') :
    Calls Try.prog 19 #[.func (.func F) #[] caps] w fun e w' => e = .returned (.bool true) ∧ P w' := by
  have HH := Lib.hid h
  clear h
  go_enter_defers Try.func19, Try.ntmps19
  go_wp2_with fail
  refine HH.out.mono ?_
  rintro e w1 ⟨rfl, hp⟩
  go_wp2_with fail
  refine leaves_cons (f := 31) (args := #[]) (by simp) (by simp [go_sem]) ?_
  refine (catch_idle _).mono ?_
  rintro e u' w'' ⟨rfl, rfl, rfl⟩
  simp [Leaves, settle, results, Try.results19, go_sem]
  exact hp
end Go.Proofs.Ytbnigmemkblflaa
