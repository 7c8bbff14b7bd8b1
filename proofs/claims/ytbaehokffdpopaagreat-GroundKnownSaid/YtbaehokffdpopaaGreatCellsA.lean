/- Contracts of package cells: the plain back's methods, the counter, and the call that recovers. -/
import Derived.Test.YtbaehokffdpopaaGreatProg
import Derived.Test.YtbaehokffdpopaaGreatKeep
import Derived.Defers
import Derived.Recover
import Derived.Laws.LoneSync
import Derived.Laws.EntriesVeiled
import Derived.Lib.Hide
namespace Go.Proofs.YtbaehokffdpopaaGreat
open Go.ChangeShapes Go.WideShapes Go.ChangeAt Go.RowKit
set_option linter.unusedVariables false
set_option maxRecDepth 100000
set_option linter.unusedSimpArgs false
/-- words, as cells -/
def words (l : List Int) : Array Value := (l.map (Value.int .u64)).toArray
theorem words_at {l : List Int} {i : Nat} {v : Int} (h : l[i]? = some v) : (words l)[i]? = some (.int .u64 v) := by simp [words, h]
theorem words_set (l : List Int) (i : Nat) (v : Int) : (words l).setIfInBounds i (.int .u64 v) = words (l.set i v) := by
  simp [words, List.map_set]
theorem words_size (l : List Int) : (words l).size = l.length := by simp [words]
/-- the value of a plain back -/
abbrev rowV (S n : Nat) : Value := .slice (some ⟨S, 0, none⟩) n n
theorem pLen_any (S n : Nat) (w : World) : Calls Tryz.prog 270 #[rowV S n] w fun e w' => e = .returned (.int .i64 n) ∧ w = w' := by
  go_enter Tryz.func270, Tryz.ntmps270
  go_wp2
  go_ret
  exact ⟨rfl, rfl⟩
theorem pLoad_any (S : Nat) (l : List Int) (i : Nat) (v : Int) (w : World) (hb : Blk w S 55 (words l)) (hi : l[i]? = some v) (hm : l.length ≤ 9223372036854775807) :
    Calls Tryz.prog 271 #[rowV S l.length, .int .i64 i] w fun e w' => e = .returned (.int .u64 v) ∧ w = w' := by
  have hlt : i < l.length := by rw [List.getElem?_eq_some_iff] at hi; exact hi.1
  have hc := hb.cell i _ (words_at hi)
  have HI := Lib.hid hi
  clear hi
  generalize l.length = n at *
  go_enter Tryz.func271, Tryz.ntmps271
  go_wp2
  go_ret
  exact ⟨rfl, rfl⟩
theorem pStore_any (S : Nat) (l : List Int) (i : Nat) (v u : Int) (w : World) (hb : Blk w S 55 (words l)) (hi : l[i]? = some v) (hm : l.length ≤ 9223372036854775807) :
    Calls Tryz.prog 272 #[rowV S l.length, .int .i64 i, .int .u64 u] w fun e w' => e = .returned (.tuple #[]) ∧ w.setCell ⟨S, i, none⟩ (.int .u64 u) = w' := by
  have hlt : i < l.length := by rw [List.getElem?_eq_some_iff] at hi; exact hi.1
  have hc := hb.cell i _ (words_at hi)
  have hf := hb.free i
  have HI := Lib.hid hi
  clear hi
  generalize l.length = n at *
  go_enter Tryz.func272, Tryz.ntmps272
  go_wp2
  go_end0
  exact ⟨rfl, rfl⟩
theorem pSwap_yes (S : Nat) (l : List Int) (i : Nat) (v u : Int) (w : World) (hb : Blk w S 55 (words l)) (hi : l[i]? = some v) (hm : l.length ≤ 9223372036854775807) :
    Calls Tryz.prog 273 #[rowV S l.length, .int .i64 i, .int .u64 v, .int .u64 u] w fun e w' => e = .returned (.bool true) ∧ w.setCell ⟨S, i, none⟩ (.int .u64 u) = w' := by
  have hlt : i < l.length := by rw [List.getElem?_eq_some_iff] at hi; exact hi.1
  have hc := hb.cell i _ (words_at hi)
  have hf := hb.free i
  have HI := Lib.hid hi
  clear hi
  generalize l.length = n at *
  go_enter Tryz.func273, Tryz.ntmps273
  go_wp2
  go_ret
  exact ⟨rfl, rfl⟩
theorem pSwap_no (S : Nat) (l : List Int) (i : Nat) (v old u : Int) (w : World) (hb : Blk w S 55 (words l)) (hi : l[i]? = some v) (hm : l.length ≤ 9223372036854775807) (hne : (v != old) = true) :
    Calls Tryz.prog 273 #[rowV S l.length, .int .i64 i, .int .u64 old, .int .u64 u] w fun e w' => e = .returned (.bool false) ∧ w = w' := by
  have hlt : i < l.length := by rw [List.getElem?_eq_some_iff] at hi; exact hi.1
  have hc := hb.cell i _ (words_at hi)
  have hf := hb.free i
  have HI := Lib.hid hi
  clear hi
  generalize l.length = n at *
  go_enter Tryz.func273, Tryz.ntmps273
  go_wp2
  go_ret
  exact ⟨rfl, rfl⟩
/- the counter -/
theorem xload (a : Addr) (x : Int) (w : World) (hc : w.cell? a = some (.int .i64 x)) : (callFunc 140 #[.pointer (some a)]).run Tryz.prog w = .ok (.value (.int .i64 x)) w :=
  run_call_load Tryz.func140 (by kernel_rfl) (by kernel_rfl) (by kernel_rfl) .i64 (by kernel_rfl) hc
theorem xadd (a : Addr) (x y : Int) (w : World) (hc : w.cell? a = some (.int .i64 x)) (hz : w.frozen? a = false) :
    (callFunc 196 #[.pointer (some a), .int .i64 y]).run Tryz.prog w = .ok (.value (.int .i64 (wrap64 (x + y)))) (w.setCell a (.int .i64 (wrap64 (x + y)))) :=
  run_call_add Tryz.func196 (by kernel_rfl) (by kernel_rfl) (by kernel_rfl) .i64 (by kernel_rfl) hc hz (by simp [go_sem, wrap64, IntKind.wrap_i64])
theorem aLoad_any (C : Nat) (x : Int) (w : World) (hc : w.cell? ⟨C, 1, none⟩ = some (.int .i64 x)) :
    Calls Tryz.prog 85 #[.pointer (some ⟨C, 1, none⟩)] w fun e w' => e = .returned (.int .i64 x) ∧ w = w' := by
  have hx := xload ⟨C, 1, none⟩ x w hc
  go_enter Tryz.func85, Tryz.ntmps85
  go_wp2
  go_ret
  exact ⟨rfl, rfl⟩
theorem aAdd_any (C : Nat) (x : Int) (w : World) (hc : w.cell? ⟨C, 1, none⟩ = some (.int .i64 x)) (hz : w.frozen? ⟨C, 1, none⟩ = false) :
    Calls Tryz.prog 158 #[.pointer (some ⟨C, 1, none⟩), .int .i64 1] w fun e w' => e = .returned (.int .i64 (wrap64 (x + 1))) ∧ w.setCell ⟨C, 1, none⟩ (.int .i64 (wrap64 (x + 1))) = w' := by
  have hx := xadd ⟨C, 1, none⟩ x 1 w hc hz
  go_enter Tryz.func158, Tryz.ntmps158
  go_wp2
  go_ret
  exact ⟨rfl, rfl⟩
/- the call that recovers -/
theorem catch_idle (w : World) : CallsD Tryz.prog 129 #[] .returning w fun e u' w' => e = .returned (.tuple #[]) ∧ u' = .returning ∧ w' = w := by
  refine callsD_of_wpS Tryz.func129 rfl fun c₀ cs hu => ?_
  apply wpS_region
  simp [wpOpsS, go_sem, recoverD, hu, Tryz.ntmps129, Exit.thenS, bodyPostS, results, Tryz.results129]
  cases c₀
  simp_all
theorem attempt_any (F : Nat) (caps : Array Value) (w : World) (P : World → Prop)
    (hcall : ∀ (W : World) (args : Array Value), (callFunc F args).run Tryz.prog W = .ok (.enter F args) W)
    (h : Calls Tryz.prog F caps w fun e w' => e = .returned (.tuple #[]) ∧ P w') :
    Calls Tryz.prog 73 #[.func (.func F) #[] caps] w fun e w' => e = .returned (.bool true) ∧ P w' := by
  have HH := Lib.hid h
  clear h
  go_enter_defers Tryz.func73, Tryz.ntmps73
  go_wp2_with fail
  refine HH.out.mono ?_
  rintro e w1 ⟨rfl, hp⟩
  go_wp2_with fail
  refine leaves_cons (f := 129) (args := #[]) (by simp) (by simp [go_sem]) ?_
  refine (catch_idle _).mono ?_
  rintro e u' w'' ⟨rfl, rfl, rfl⟩
  simp [Leaves, settle, results, Tryz.results73, go_sem]
  exact hp
end Go.Proofs.YtbaehokffdpopaaGreat
