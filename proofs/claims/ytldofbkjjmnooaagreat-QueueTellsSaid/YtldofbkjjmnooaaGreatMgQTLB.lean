/- Contracts of package cells: the plain back's methods, the counter, and the call that recovers. -/
import Derived.Test.YtldofbkjjmnooaaGreatProg
import Derived.Test.YtldofbkjjmnooaaGreatMgQTLA
import Derived.Defers
import Derived.Recover
import Derived.Laws.LoneSync
import Derived.Laws.EntriesVeiled
import Derived.Lib.Hide
import Derived.WalkSpells
import Derived.OwnWalk
import Derived.Laws.OwnMore
import Derived.Deep.CutBlock
import Derived.LoopTactic
import Derived.StillTailTactics
namespace Go.Proofs.YtldofbkjjmnooaaGreat
open Go.ChangeShapes Go.WideShapes Go.ChangeAt Go.RowKit
set_option linter.unusedVariables false
set_option maxRecDepth 100000
set_option linter.unusedSimpArgs false
/-- words, as cells -/
def words (l : List Int) : Array Value := (l.map (Value.int .u64)).toArray
theorem words_at {l : List Int} {i : Nat} {v : Int} (h : l[i]? = some v) : (words l)[i]? = some (.int .u64 v) := by simp [words, h]
theorem words_set (l : List Int) (i : Nat) (v : Int) : (words l).setIfInBounds i (.int .u64 v) = words (l.set i v) := by
  simp [words, List.map_set]
theorem words_size (l : List Int) : (words l).size = l.length := by simp [words]
/-- the value of a plain back -/
abbrev rowV (S n : Nat) : Value := .slice (some ⟨S, 0, none⟩) n n
theorem pLen_any (S n : Nat) (w : World) : Calls Tryz.prog 400 #[rowV S n] w fun e w' => e = .returned (.int .i64 n) ∧ w = w' := by
  go_enter Tryz.func400, Tryz.ntmps400
  go_wp2
  go_ret
  exact ⟨rfl, rfl⟩
theorem pLoad_any (S : Nat) (l : List Int) (i : Nat) (v : Int) (w : World) (hb : Blk w S 47 (words l)) (hi : l[i]? = some v) (hm : l.length ≤ 9223372036854775807) :
    Calls Tryz.prog 401 #[rowV S l.length, .int .i64 i] w fun e w' => e = .returned (.int .u64 v) ∧ w = w' := by
  have hlt : i < l.length := by rw [List.getElem?_eq_some_iff] at hi; exact hi.1
  have hc := hb.cell i _ (words_at hi)
  have HI := Lib.hid hi
  clear hi
  generalize l.length = n at *
  go_enter Tryz.func401, Tryz.ntmps401
  go_wp2
  go_ret
  exact ⟨rfl, rfl⟩
theorem pStore_any (S : Nat) (l : List Int) (i : Nat) (v u : Int) (w : World) (hb : Blk w S 47 (words l)) (hi : l[i]? = some v) (hm : l.length ≤ 9223372036854775807) :
    Calls Tryz.prog 402 #[rowV S l.length, .int .i64 i, .int .u64 u] w fun e w' => e = .returned (.tuple #[]) ∧ w.setCell ⟨S, i, none⟩ (.int .u64 u) = w' := by
  have hlt : i < l.length := by rw [List.getElem?_eq_some_iff] at hi; exact hi.1
  have hc := hb.cell i _ (words_at hi)
  have hf := hb.free i
  have HI := Lib.hid hi
  clear hi
  generalize l.length = n at *
  go_enter Tryz.func402, Tryz.ntmps402
  go_wp2
  go_end0
  exact ⟨rfl, rfl⟩
theorem pSwap_yes (S : Nat) (l : List Int) (i : Nat) (v u : Int) (w : World) (hb : Blk w S 47 (words l)) (hi : l[i]? = some v) (hm : l.length ≤ 9223372036854775807) :
    Calls Tryz.prog 403 #[rowV S l.length, .int .i64 i, .int .u64 v, .int .u64 u] w fun e w' => e = .returned (.bool true) ∧ w.setCell ⟨S, i, none⟩ (.int .u64 u) = w' := by
  have hlt : i < l.length := by rw [List.getElem?_eq_some_iff] at hi; exact hi.1
  have hc := hb.cell i _ (words_at hi)
  have hf := hb.free i
  have HI := Lib.hid hi
  clear hi
  generalize l.length = n at *
  go_enter Tryz.func403, Tryz.ntmps403
  go_wp2
  go_ret
  exact ⟨rfl, rfl⟩
theorem pSwap_no (S : Nat) (l : List Int) (i : Nat) (v old u : Int) (w : World) (hb : Blk w S 47 (words l)) (hi : l[i]? = some v) (hm : l.length ≤ 9223372036854775807) (hne : (v != old) = true) :
    Calls Tryz.prog 403 #[rowV S l.length, .int .i64 i, .int .u64 old, .int .u64 u] w fun e w' => e = .returned (.bool false) ∧ w = w' := by
  have hlt : i < l.length := by rw [List.getElem?_eq_some_iff] at hi; exact hi.1
  have hc := hb.cell i _ (words_at hi)
  have hf := hb.free i
  have HI := Lib.hid hi
  clear hi
  generalize l.length = n at *
  go_enter Tryz.func403, Tryz.ntmps403
  go_wp2
  go_ret
  exact ⟨rfl, rfl⟩
/- the counter -/
theorem xload (a : Addr) (x : Int) (w : World) (hc : w.cell? a = some (.int .i64 x)) : (callFunc 176 #[.pointer (some a)]).run Tryz.prog w = .ok (.value (.int .i64 x)) w :=
  run_call_load Tryz.func176 (by kernel_rfl) (by kernel_rfl) (by kernel_rfl) .i64 (by kernel_rfl) hc
theorem xadd (a : Addr) (x y : Int) (w : World) (hc : w.cell? a = some (.int .i64 x)) (hz : w.frozen? a = false) :
    (callFunc 292 #[.pointer (some a), .int .i64 y]).run Tryz.prog w = .ok (.value (.int .i64 (wrap64 (x + y)))) (w.setCell a (.int .i64 (wrap64 (x + y)))) :=
  run_call_add Tryz.func292 (by kernel_rfl) (by kernel_rfl) (by kernel_rfl) .i64 (by kernel_rfl) hc hz (by simp [go_sem, wrap64, IntKind.wrap_i64])
theorem aLoad_any (C : Nat) (x : Int) (w : World) (hc : w.cell? ⟨C, 1, none⟩ = some (.int .i64 x)) :
    Calls Tryz.prog 99 #[.pointer (some ⟨C, 1, none⟩)] w fun e w' => e = .returned (.int .i64 x) ∧ w = w' := by
  have hx := xload ⟨C, 1, none⟩ x w hc
  go_enter Tryz.func99, Tryz.ntmps99
  go_wp2
  go_ret
  exact ⟨rfl, rfl⟩
theorem aAdd_any (C : Nat) (x : Int) (w : World) (hc : w.cell? ⟨C, 1, none⟩ = some (.int .i64 x)) (hz : w.frozen? ⟨C, 1, none⟩ = false) :
    Calls Tryz.prog 227 #[.pointer (some ⟨C, 1, none⟩), .int .i64 1] w fun e w' => e = .returned (.int .i64 (wrap64 (x + 1))) ∧ w.setCell ⟨C, 1, none⟩ (.int .i64 (wrap64 (x + 1))) = w' := by
  have hx := xadd ⟨C, 1, none⟩ x 1 w hc hz
  go_enter Tryz.func227, Tryz.ntmps227
  go_wp2
  go_ret
  exact ⟨rfl, rfl⟩
/- the call that recovers -/
theorem catch_idle (w : World) : CallsD Tryz.prog 174 #[] .returning w fun e u' w' => e = .returned (.tuple #[]) ∧ u' = .returning ∧ w' = w := by
  refine callsD_of_wpS Tryz.func174 rfl fun c₀ cs hu => ?_
  apply wpS_region
  simp [wpOpsS, go_sem, recoverD, hu, Tryz.ntmps174, Exit.thenS, bodyPostS, results, Tryz.results174]
  cases c₀
  simp_all
theorem attempt_any (F : Nat) (caps : Array Value) (w : World) (P : World → Prop)
    (hcall : ∀ (W : World) (args : Array Value), (callFunc F args).run Tryz.prog W = .ok (.enter F args) W)
    (h : Calls Tryz.prog F caps w fun e w' => e = .returned (.tuple #[]) ∧ P w') :
    Calls Tryz.prog 96 #[.func (.func F) #[] caps] w fun e w' => e = .returned (.bool true) ∧ P w' := by
  have HH := Lib.hid h
  clear h
  go_enter_defers Tryz.func96, Tryz.ntmps96
  go_wp2_with fail
  refine HH.out.mono ?_
  rintro e w1 ⟨rfl, hp⟩
  go_wp2_with fail
  refine leaves_cons (f := 174) (args := #[]) (by simp) (by simp [go_sem]) ?_
  refine (catch_idle _).mono ?_
  rintro e u' w'' ⟨rfl, rfl, rfl⟩
  simp [Leaves, settle, results, Tryz.results96, go_sem]
  exact hp
end Go.Proofs.YtldofbkjjmnooaaGreat
/- Contracts of package cells: New, Over, Len, Steps. -/
namespace Go.Proofs.YtldofbkjjmnooaaGreat
open Go.ChangeShapes Go.WideShapes Go.ChangeAt Go.RowKit
set_option linter.unusedVariables false
set_option maxRecDepth 100000
set_option linter.unusedSimpArgs false
/-- cells: their own block, and their row's -/
structure CellsAt (w : World) (C S : Nat) (l : List Int) (k : Int) : Prop where
  own : Blk w C 149 #[.iface 135 (rowV S l.length), .int .i64 k]
  row : Blk w S 47 (words l)
  ne : C ≠ S
  few : l.length ≤ 16777216
abbrev cellsV (C : Nat) : Value := .pointer (some ⟨C, 0, none⟩)
theorem CellsAt.keep {w w1 : World} {C S : Nat} {l : List Int} {k : Int} {Q : Nat → Prop} (h : CellsAt w C S l k) (hk : Keep Q w w1) (h1 : ¬ Q C) (h2 : ¬ Q S) : CellsAt w1 C S l k :=
  ⟨h.own.keep hk h1, h.row.keep hk h2, h.ne, h.few⟩
theorem call_lenC : ∀ (W : World) (args : Array Value), (callFunc 177 args).run Tryz.prog W = .ok (.enter 177 args) W := by
  intro W args
  go_simp
theorem lenC_any (b v C S : Nat) (l : List Int) (k x : Int) (w : World) (hb : w.cell? ⟨b, 0, none⟩ = some (cellsV C)) (hC : CellsAt w C S l k)
    (hv : w.cell? ⟨v, 0, none⟩ = some (.int .i64 x)) (hz : w.frozen? ⟨v, 0, none⟩ = false) :
    Calls Tryz.prog 177 #[.pointer (some ⟨b, 0, none⟩), .pointer (some ⟨v, 0, none⟩)] w fun e w' => e = .returned (.tuple #[]) ∧ w.setCell ⟨v, 0, none⟩ (.int .i64 l.length) = w' := by
  have hc := hC.own.cell 0 _ rfl
  have hm := hC.few
  clear hC
  generalize l.length = n at *
  go_enter Tryz.func177, Tryz.ntmps177
  go_wp2
  · go_end0
    exact ⟨rfl, rfl⟩
  · obtain rfl : n = 0 := by omega
    go_end0
    exact ⟨rfl, rfl⟩
theorem len_any (C S : Nat) (l : List Int) (k : Int) (w : World) (hC : CellsAt w C S l k) :
    Calls Tryz.prog 101 #[cellsV C] w fun e w' => e = .returned (.int .i64 l.length) ∧ Below w.heap.size w w' := by
  have hc := hC.own.cell 0 _ rfl
  have hlt := hC.own.lt
  have hmf : ∀ (fn : Fn) (first cap : Array Value) (w : World), (Instr.makeFunc fn first cap).run Tryz.prog w = .ok (.func fn first cap) w := fun _ _ _ _ => rfl
  go_enter Tryz.func101, Tryz.ntmps101
  go_wp2_with fail
  refine (attempt_any 177 _ _ _ call_lenC (lenC_any w.heap.size (w.heap.size + 1) C S l k 0 _ (by simp) ?_ (by simp) (by simp))).mono ?_
  · exact hC.keep (((Keep.refl (fun _ => False) w).alloc _).alloc _) (fun h => h) (fun h => h)
  rintro e w1 ⟨rfl, rfl⟩
  go_wp2_with fail
  exact bodyPost_ret (v := .int .i64 l.length) (by simp [results, Tryz.results101, go_sem]) rfl ⟨rfl, by go_grown⟩
theorem len_nil (w : World) : Calls Tryz.prog 101 #[.pointer none] w fun e w' => e = .returned (.int .i64 0) ∧ Below w.heap.size w w' := by
  go_enter Tryz.func101, Tryz.ntmps101
  go_wp2_with fail
  exact bodyPost_ret (v := .int .i64 0) (by simp [results, Tryz.results101, go_sem]) rfl ⟨rfl, by go_grown⟩
theorem steps_any (C S : Nat) (l : List Int) (k : Int) (w : World) (hC : CellsAt w C S l k) :
    Calls Tryz.prog 18 #[cellsV C] w fun e w' => e = .returned (.int .i64 k) ∧ w = w' := by
  have hc := hC.own.cell 1 _ rfl
  go_enter Tryz.func18, Tryz.ntmps18
  go_wp2_with (go_at_call 99; (with_reducible refine (aLoad_any C k _ hc).mono ?_); rintro e w1 ⟨rfl, rfl⟩)
  go_ret
  exact ⟨rfl, rfl⟩
theorem steps_nil (w : World) : Calls Tryz.prog 18 #[.pointer none] w fun e w' => e = .returned (.int .i64 0) ∧ w = w' := by
  go_enter Tryz.func18, Tryz.ntmps18
  go_wp2_with fail
  go_ret
  exact ⟨rfl, rfl⟩
/-- cells over a row of its own -/
theorem over_plain (S : Nat) (l : List Int) (w : World) (hS : Blk w S 47 (words l)) (hm : l.length ≤ 16777216) :
    Calls Tryz.prog 91 #[.iface 135 (rowV S l.length)] w fun e w' => e = .returned (cellsV w.heap.size) ∧ CellsAt w' w.heap.size S l 0 ∧ Below w.heap.size w w' := by
  go_enter Tryz.func91, Tryz.ntmps91
  go_wp2_with fail
  go_ret
  exact ⟨rfl, ⟨Blk.new _ _ _, hS.alloc _, by have := hS.lt; omega, hm⟩, by go_grown⟩
theorem over_nil (w : World) :
    Calls Tryz.prog 91 #[.nilIface] w fun e w' => e = .returned (.pointer none) ∧ w = w' := by
  go_enter Tryz.func91, Tryz.ntmps91
  go_wp2_with fail
  go_ret
  exact ⟨rfl, rfl⟩
theorem words_zeros (n : Nat) : madeCells #[Value.int .u64 0] n = words (List.replicate n 0) := by
  rw [← Array.toList_inj, toList_madeCells_one]
  simp [words, List.map_replicate]
theorem u64_info : (Tryz.prog.info? 47).map (fun i => (i.zero, i.size, i.bytes)) = some (some (.int .u64 0), 1, 8) := by kernel_rfl
theorem make_plain (n : Nat) (w : World) (hn : n ≤ 16777216) : (Instr.makeSlice 135 (.int .i64 (n : Int)) (.int .i64 (n : Int))).run Tryz.prog w = .ok (rowV w.heap.size n) (w.alloc (.cells (words (List.replicate n 0)) 47)) := by
  obtain ⟨i, hi, hz0, hz1, hz2⟩ := info_parts u64_info
  have h := run_make (P := Tryz.prog) w 135 47 i _ Tryz.underlying135 hi hz0 .i64 .i64 n n (by omega) (by omega) (by rw [hz2]; omega) (by omega)
  rw [h, hz1, Nat.mul_one]
  simp only [Int.toNat_natCast]
  rw [← words_zeros]
  rfl
theorem new_some (n : Nat) (w : World) (hn : n ≤ 16777216) :
    Calls Tryz.prog 13 #[.int .i64 n] w fun e w' => e = .returned (cellsV (w.heap.size + 1)) ∧ CellsAt w' (w.heap.size + 1) w.heap.size (List.replicate n 0) 0 ∧ Below w.heap.size w w' := by
  have hmk := make_plain n w hn
  have hover := over_plain w.heap.size (List.replicate n 0) (w.alloc (.cells (words (List.replicate n 0)) 47)) (Blk.new _ _ _) (by simpa using hn)
  rw [List.length_replicate] at hover
  have HO := Lib.hid hover
  clear hover
  generalize List.replicate n (0 : Int) = l at *
  go_enter Tryz.func13, Tryz.ntmps13
  go_wp2_with (go_at_call 91; refine HO.out.mono ?_; rintro e w1 ⟨rfl, hc, hb⟩)
  simp only [World.size_alloc] at hc hb
  go_ret
  refine ⟨?_, hc, ?_⟩
  · simp
  · exact ((Below.refl _ _).alloc (Nat.le_refl _) _).trans (hb.mono (by omega))
theorem new_none (n : Int) (w : World) (hn : n < 0 ∨ 16777216 < n) :
    Calls Tryz.prog 13 #[.int .i64 n] w fun e w' => e = .returned (.pointer none) ∧ w = w' := by
  rcases hn with hn | hn
  · go_enter Tryz.func13, Tryz.ntmps13
    go_wp2_with fail
    go_ret
    exact ⟨rfl, rfl⟩
  · have h0 : ¬ n < 0 := by omega
    go_enter Tryz.func13, Tryz.ntmps13
    go_wp2_with fail
    go_ret
    exact ⟨rfl, rfl⟩
end Go.Proofs.YtldofbkjjmnooaaGreat
/- Contracts of package cells: the operations. -/
namespace Go.Proofs.YtldofbkjjmnooaaGreat
open Go.ChangeShapes Go.WideShapes Go.ChangeAt Go.RowKit
set_option linter.unusedVariables false
set_option maxRecDepth 100000
set_option linter.unusedSimpArgs false
theorem call_opC : ∀ (W : World) (args : Array Value), (callFunc 226 args).run Tryz.prog W = .ok (.enter 226 args) W := by
  intro W args
  go_simp
abbrev unitV : Value := .tuple #[]
abbrev doV (F : Nat) (caps : Array Value) : Value := .func (.func F) #[] caps
theorem opC_any (bd bc C : Nat) (x : Value) (k : Int) (F : Nat) (caps : Array Value) (w : World) (Q : Nat → Prop) (G : World → Prop)
    (hd : Blk w bd 1 #[doV F caps]) (hc : Blk w bc 26 #[cellsV C]) (hC : Blk w C 149 #[x, .int .i64 k]) (h0 : 0 ≤ k) (h1 : k < 9223372036854775807)
    (hcall : ∀ (W : World) (args : Array Value), (callFunc F args).run Tryz.prog W = .ok (.enter F args) W)
    (hF : Calls Tryz.prog F caps w fun e w2 => e = .returned unitV ∧ Keep Q w w2 ∧ G w2) (hQc : ¬ Q bc) (hQC : ¬ Q C) (hG : ∀ w2 v, G w2 → G (w2.setCell ⟨C, 1, none⟩ v)) :
    Calls Tryz.prog 226 #[.pointer (some ⟨bd, 0, none⟩), .pointer (some ⟨bc, 0, none⟩)] w fun e w' => e = .returned unitV ∧ Keep (fun b => Q b ∨ b = C) w w' ∧ G w' ∧ Blk w' C 149 #[x, .int .i64 (k + 1)] := by
  have d0 := hd.cell 0 _ rfl
  have HF := Lib.hid hF
  have HG := Lib.hid hG
  clear hF hG
  go_enter Tryz.func226, Tryz.ntmps226
  go_wp2_with fail
  refine HF.out.mono ?_
  rintro e w2 ⟨rfl, hk, hg⟩
  have c2 := hc.keep hk hQc
  have C2 := hC.keep hk hQC
  have d1 := c2.cell 0 _ rfl
  have d2 := C2.cell 1 _ rfl
  have d3 := C2.free 1
  clear d0
  go_wp2_with (go_at_call 227; (with_reducible refine (aAdd_any C k _ d2 d3).mono ?_); rintro e w3 ⟨rfl, rfl⟩)
  have hw : wrap64 (k + 1) = k + 1 := IntWalk.wrap64_in _ ⟨by omega, by omega⟩
  go_end0
  refine ⟨rfl, (hk.mono fun _ _ h => .inl h).set (fun _ => .inr rfl) _, HG.out _ _ hg, ?_⟩
  have := C2.set 1 (.int .i64 (wrap64 (k + 1)))
  rw [hw] at this
  rw [hw]
  exact this
theorem operate_yes (C S : Nat) (l : List Int) (k : Int) (i : Nat) (F : Nat) (caps : Array Value) (w : World) (Q : Nat → Prop) (G : World → Prop)
    (hC : CellsAt w C S l k) (hi : i < l.length) (h0 : 0 ≤ k) (h1 : k < 9223372036854775807)
    (hcall : ∀ (W : World) (args : Array Value), (callFunc F args).run Tryz.prog W = .ok (.enter F args) W)
    (hF : ∀ w1, Below w.heap.size w w1 → Calls Tryz.prog F caps w1 fun e w2 => e = .returned unitV ∧ Keep Q w1 w2 ∧ G w2)
    (hQ : ∀ b, Q b → b < w.heap.size ∧ b ≠ C) (hG : ∀ w2 v, G w2 → G (w2.setCell ⟨C, 1, none⟩ v)) :
    Calls Tryz.prog 143 #[cellsV C, .int .i64 i, doV F caps] w fun e w' => e = .returned (.bool true) ∧ Keep (fun b => Q b ∨ b = C) w w' ∧ G w' ∧ Blk w' C 149 #[.iface 135 (rowV S l.length), .int .i64 (k + 1)] := by
  have hm := hC.few
  have HF := Lib.hid hF
  have HG := Lib.hid hG
  have HQ := Lib.hid hQ
  have HL := Lib.hid hcall
  clear hF hG hQ hcall
  have hmf : ∀ (fn : Fn) (first cap : Array Value) (w : World), (Instr.makeFunc fn first cap).run Tryz.prog w = .ok (.func fn first cap) w := fun _ _ _ _ => rfl
  go_enter Tryz.func143, Tryz.ntmps143
  go_upto_region 1 with fail
  generalize hW : (w.alloc _).alloc _ = W
  have bW : Below w.heap.size w W := by rw [← hW]; go_grown
  have sW : W.heap.size = w.heap.size + 2 := by rw [← hW]; simp
  have cW : Blk W w.heap.size 26 #[cellsV C] := by rw [← hW]; exact (Blk.new w _ _).alloc _
  have dW : Blk W (w.heap.size + 1) 1 #[doV F caps] := by rw [← hW]; exact blk_two w _ _ _
  have CW : CellsAt W C S l k := hC.keep (Keep.ofBelow (Q := fun _ => False) bW) (fun h => h) (fun h => h)
  clear hW
  have e0 := cW.cell 0 _ rfl
  have HlenW := Lib.hid (len_any C S l k W CW)
  generalize hn : l.length = n at *
  go_upto_region 3 with (go_at_call 101; refine HlenW.out.mono ?_; rintro e w1 ⟨rfl, hb⟩)
  have b1 : Below w.heap.size w w1 := bW.trans (hb.mono bW.size)
  have c1 := cW.below hb cW.lt
  have d1 := dW.below hb dW.lt
  have C1 := CW.keep (Keep.ofBelow (Q := fun _ => False) hb) (fun h => h) (fun h => h)
  have hle := C1.own.lt
  have hC0 := hC.own.lt
  clear e0
  have HA := Lib.hid (attempt_any 226 _ w1 _ call_opC (opC_any (w.heap.size + 1) w.heap.size C _ k F caps w1 Q G d1 c1 C1.own h0 h1 HL.out (HF.out w1 b1) (fun h => by have := (HQ.out _ h).1; omega) (fun h => (HQ.out _ h).2 rfl) HG.out))
  rw [hn] at HA
  go_wp2_with (refine HA.out.mono ?_; rintro e w2 ⟨rfl, hk, hg, hB⟩)
  go_ret
  refine ⟨rfl, ?_, hg, by rw [hn]; exact hB⟩
  exact (Keep.ofBelow b1).trans (hk.mono fun _ _ h => h)
theorem operate_no (C S : Nat) (l : List Int) (k i : Int) (F : Nat) (caps : Array Value) (w : World)
    (hC : CellsAt w C S l k) (hi : i < 0 ∨ l.length ≤ i) :
    Calls Tryz.prog 143 #[cellsV C, .int .i64 i, doV F caps] w fun e w' => e = .returned (.bool false) ∧ Below w.heap.size w w' := by
  have hm := hC.few
  rcases hi with hi | hi
  · go_enter Tryz.func143, Tryz.ntmps143
    go_wp2_with fail
    go_ret
    exact ⟨rfl, by go_grown⟩
  have hi0 : 0 ≤ i := by omega
  go_enter Tryz.func143, Tryz.ntmps143
  go_upto_region 1 with fail
  generalize hW : (w.alloc _).alloc _ = W
  have bW : Below w.heap.size w W := by rw [← hW]; go_grown
  have cW : Blk W w.heap.size 26 #[cellsV C] := by rw [← hW]; exact (Blk.new w _ _).alloc _
  have CW : CellsAt W C S l k := hC.keep (Keep.ofBelow (Q := fun _ => False) bW) (fun h => h) (fun h => h)
  clear hW
  have e0 := cW.cell 0 _ rfl
  have HlenW := Lib.hid (len_any C S l k W CW)
  generalize hn : l.length = n at *
  go_wp2_with (go_at_call 101; refine HlenW.out.mono ?_; rintro e w1 ⟨rfl, hb⟩)
  go_ret
  exact ⟨rfl, bW.trans (hb.mono bW.size)⟩
theorem operate_nil (i : Int) (F : Nat) (caps : Array Value) (w : World) :
    Calls Tryz.prog 143 #[.pointer none, .int .i64 i, doV F caps] w fun e w' => e = .returned (.bool false) ∧ Below w.heap.size w w' := by
  by_cases hi : i < 0
  · go_enter Tryz.func143, Tryz.ntmps143
    go_wp2_with fail
    go_ret
    exact ⟨rfl, by go_grown⟩
  have hi0 : 0 ≤ i := by omega
  go_enter Tryz.func143, Tryz.ntmps143
  go_upto_region 1 with fail
  generalize hW : (w.alloc _).alloc _ = W
  have bW : Below w.heap.size w W := by rw [← hW]; go_grown
  have cW : Blk W w.heap.size 26 #[.pointer none] := by rw [← hW]; exact (Blk.new w _ _).alloc _
  clear hW
  have e0 := cW.cell 0 _ rfl
  go_wp2_with (go_at_call 101; refine (len_nil W).mono ?_; rintro e w1 ⟨rfl, hb⟩)
  go_ret
  exact ⟨rfl, bW.trans (hb.mono bW.size)⟩
/- the operations' own work -/
theorem call_loadC : ∀ (W : World) (args : Array Value), (callFunc 166 args).run Tryz.prog W = .ok (.enter 166 args) W := by
  intro W args
  go_simp
theorem loadC_any (bc bi v C S : Nat) (l : List Int) (k x : Int) (i : Nat) (y : Value) (w : World) (hc : Blk w bc 26 #[cellsV C]) (hi : Blk w bi 3 #[.int .i64 i]) (hv : Blk w v 47 #[y])
    (hC : CellsAt w C S l k) (hx : l[i]? = some x) :
    Calls Tryz.prog 166 #[.pointer (some ⟨bc, 0, none⟩), .pointer (some ⟨bi, 0, none⟩), .pointer (some ⟨v, 0, none⟩)] w fun e w2 => e = .returned unitV ∧ Keep (fun b => b = v) w w2 ∧ Blk w2 v 47 #[.int .u64 x] := by
  have hm := hC.few
  have c0 := hc.cell 0 _ rfl
  have i0 := hi.cell 0 _ rfl
  have C0 := hC.own.cell 0 _ rfl
  have HP := Lib.hid (pLoad_any S l i x w.drew hC.row.drew hx (by omega))
  have kW : Keep (fun b => b = v) w w.drew := (Keep.refl _ _).drew
  have vW : Blk w.drew v 47 #[y] := hv.drew
  clear hx
  generalize l.length = n at *
  go_enter Tryz.func166, Tryz.ntmps166
  go_still_tail 5, (by kernel_rfl)
  change wpList _ _ _ _ _ w.drew
  generalize w.drew = W at *
  clear c0 i0 C0
  have v0 := vW.cell 0 _ rfl
  have v1 := vW.free 0
  go_wp2_with (go_at_call 401; (with_reducible refine HP.out.mono ?_); rintro e w1 ⟨rfl, rfl⟩)
  go_end0
  exact ⟨rfl, kW.set (fun _ => rfl) _, vW.set 0 _⟩
theorem call_storeC : ∀ (W : World) (args : Array Value), (callFunc 144 args).run Tryz.prog W = .ok (.enter 144 args) W := by
  intro W args
  go_simp
theorem storeC_any (bc bi bv C S : Nat) (l : List Int) (k x u : Int) (i : Nat) (w : World) (hc : Blk w bc 26 #[cellsV C]) (hi : Blk w bi 3 #[.int .i64 i]) (hv : Blk w bv 47 #[.int .u64 u])
    (hC : CellsAt w C S l k) (hx : l[i]? = some x) :
    Calls Tryz.prog 144 #[.pointer (some ⟨bc, 0, none⟩), .pointer (some ⟨bi, 0, none⟩), .pointer (some ⟨bv, 0, none⟩)] w fun e w2 => e = .returned unitV ∧ Keep (fun b => b = S) w w2 ∧ Blk w2 S 47 (words (l.set i u)) := by
  have hm := hC.few
  have c0 := hc.cell 0 _ rfl
  have i0 := hi.cell 0 _ rfl
  have v0 := hv.cell 0 _ rfl
  have C0 := hC.own.cell 0 _ rfl
  have HP := Lib.hid (pStore_any S l i x u w.drew hC.row.drew hx (by omega))
  have kW : Keep (fun b => b = S) w w.drew := (Keep.refl _ _).drew
  have vW : Blk w.drew S 47 (words l) := hC.row.drew
  have HL := Lib.hid (words_set l i u)
  clear hx
  generalize l.length = n at *
  go_enter Tryz.func144, Tryz.ntmps144
  go_still_tail 6, (by kernel_rfl)
  change wpList _ _ _ _ _ w.drew
  generalize w.drew = W at *
  clear c0 i0 C0 v0
  go_wp2_with (go_at_call 402; (with_reducible refine HP.out.mono ?_); rintro e w1 ⟨rfl, rfl⟩)
  go_end0
  exact ⟨rfl, kW.set (fun _ => rfl) _, HL.out ▸ vW.set i _⟩
theorem call_swapC : ∀ (W : World) (args : Array Value), (callFunc 341 args).run Tryz.prog W = .ok (.enter 341 args) W := by
  intro W args
  go_simp
theorem swapC_yes (bc bi bo bu v C S : Nat) (l : List Int) (k x u : Int) (i : Nat) (y : Value) (w : World) (hc : Blk w bc 26 #[cellsV C]) (hi : Blk w bi 3 #[.int .i64 i]) (ho : Blk w bo 47 #[.int .u64 x])
    (hu : Blk w bu 47 #[.int .u64 u]) (hv : Blk w v 4 #[y]) (hC : CellsAt w C S l k) (hx : l[i]? = some x) (hne : v ≠ S) :
    Calls Tryz.prog 341 #[.pointer (some ⟨bc, 0, none⟩), .pointer (some ⟨bi, 0, none⟩), .pointer (some ⟨bo, 0, none⟩), .pointer (some ⟨bu, 0, none⟩), .pointer (some ⟨v, 0, none⟩)] w
      fun e w2 => e = .returned unitV ∧ Keep (fun b => b = S ∨ b = v) w w2 ∧ (Blk w2 S 47 (words (l.set i u)) ∧ Blk w2 v 4 #[.bool true]) := by
  have hm := hC.few
  have c0 := hc.cell 0 _ rfl
  have i0 := hi.cell 0 _ rfl
  have o0 := ho.cell 0 _ rfl
  have u0 := hu.cell 0 _ rfl
  have C0 := hC.own.cell 0 _ rfl
  have HP := Lib.hid (pSwap_yes S l i x u w.drew hC.row.drew hx (by omega))
  have kW : Keep (fun b => b = S ∨ b = v) w w.drew := (Keep.refl _ _).drew
  have rW : Blk w.drew S 47 (words l) := hC.row.drew
  have vW : Blk w.drew v 4 #[y] := hv.drew
  have HL := Lib.hid (words_set l i u)
  clear hx
  generalize l.length = n at *
  go_enter Tryz.func341, Tryz.ntmps341
  go_still_tail 7, (by kernel_rfl)
  change wpList _ _ _ _ _ w.drew
  generalize w.drew = W at *
  clear c0 i0 C0 o0 u0
  have v2 := vW.far hne i (.int .u64 u)
  have v0 := v2.cell 0 _ rfl
  have v1 := v2.free 0
  go_wp2_with (go_at_call 403; (with_reducible refine HP.out.mono ?_); rintro e w1 ⟨rfl, rfl⟩)
  go_end0
  exact ⟨rfl, (kW.set (fun _ => .inl rfl) _).set (fun _ => .inr rfl) _, HL.out ▸ (rW.set i _).far (Ne.symm hne) _ _, v2.set 0 _⟩
theorem swapC_no (bc bi bo bu v C S : Nat) (l : List Int) (k x o u : Int) (i : Nat) (y : Value) (w : World) (hc : Blk w bc 26 #[cellsV C]) (hi : Blk w bi 3 #[.int .i64 i]) (ho : Blk w bo 47 #[.int .u64 o])
    (hu : Blk w bu 47 #[.int .u64 u]) (hv : Blk w v 4 #[y]) (hC : CellsAt w C S l k) (hx : l[i]? = some x) (hne : (x != o) = true) :
    Calls Tryz.prog 341 #[.pointer (some ⟨bc, 0, none⟩), .pointer (some ⟨bi, 0, none⟩), .pointer (some ⟨bo, 0, none⟩), .pointer (some ⟨bu, 0, none⟩), .pointer (some ⟨v, 0, none⟩)] w
      fun e w2 => e = .returned unitV ∧ Keep (fun b => b = v) w w2 ∧ Blk w2 v 4 #[.bool false] := by
  have hm := hC.few
  have c0 := hc.cell 0 _ rfl
  have i0 := hi.cell 0 _ rfl
  have o0 := ho.cell 0 _ rfl
  have u0 := hu.cell 0 _ rfl
  have C0 := hC.own.cell 0 _ rfl
  have HP := Lib.hid (pSwap_no S l i x o u w.drew hC.row.drew hx (by omega) hne)
  have kW : Keep (fun b => b = v) w w.drew := (Keep.refl _ _).drew
  have vW : Blk w.drew v 4 #[y] := hv.drew
  clear hx hne
  generalize l.length = n at *
  go_enter Tryz.func341, Tryz.ntmps341
  go_still_tail 7, (by kernel_rfl)
  change wpList _ _ _ _ _ w.drew
  generalize w.drew = W at *
  clear c0 i0 C0 o0 u0
  have v0 := vW.cell 0 _ rfl
  have v1 := vW.free 0
  go_wp2_with (go_at_call 403; (with_reducible refine HP.out.mono ?_); rintro e w1 ⟨rfl, rfl⟩)
  go_end0
  exact ⟨rfl, kW.set (fun _ => rfl) _, vW.set 0 _⟩
end Go.Proofs.YtldofbkjjmnooaaGreat
/- Contracts of package cells: Load, Store, Swap, Add, as callers see them. -/
namespace Go.Proofs.YtldofbkjjmnooaaGreat
open Go.ChangeShapes Go.WideShapes Go.ChangeAt Go.RowKit
set_option linter.unusedVariables false
set_option maxRecDepth 100000
set_option linter.unusedSimpArgs false
abbrev ofCells (C S : Nat) : Nat → Prop := fun b => b = C ∨ b = S
theorem CellsAt.step {w w' : World} {C S : Nat} {l l' : List Int} {k k' : Int} (h : CellsAt w C S l k) (hl : l'.length = l.length) (h1 : Blk w' C 149 #[.iface 135 (rowV S l.length), .int .i64 k'])
    (h2 : Blk w' S 47 (words l')) : CellsAt w' C S l' k' := ⟨by rw [hl]; exact h1, h2, h.ne, by rw [hl]; exact h.few⟩
theorem load_yes (C S : Nat) (l : List Int) (k : Int) (i : Nat) (x : Int) (w : World) (hC : CellsAt w C S l k) (hx : l[i]? = some x) (h0 : 0 ≤ k) (h1 : k < 9223372036854775807) :
    Calls Tryz.prog 86 #[cellsV C, .int .i64 i] w fun e w' => e = .returned (.int .u64 x) ∧ CellsAt w' C S (l) (k + 1) ∧ Keep (ofCells C S) w w' := by
  have hlt : i < l.length := by rw [List.getElem?_eq_some_iff] at hx; exact hx.1
  have hCl := hC.own.lt
  have hSl := hC.row.lt
  have hmf : ∀ (fn : Fn) (first cap : Array Value) (w : World), (Instr.makeFunc fn first cap).run Tryz.prog w = .ok (.func fn first cap) w := fun _ _ _ _ => rfl
  have HH : Hid True := Lib.hid trivial
  have HX := Lib.hid hx
  clear hx
  go_enter Tryz.func86, Tryz.ntmps86
  go_upto_region 1 with fail
  generalize hW : ((w.alloc _).alloc _).alloc _ = W
  have bW : Below w.heap.size w W := by rw [← hW]; go_grown
  have sW : W.heap.size = w.heap.size + 3 := by rw [← hW]; simp
  have q0 : Blk W w.heap.size 26 #[cellsV C] := by rw [← hW]; have h := Blk.new w 26 #[cellsV C]; (try simp only [World.size_alloc] at h); exact ((h.alloc _).alloc _)
  have q1 : Blk W (w.heap.size + 1) 3 #[.int .i64 i] := by rw [← hW]; have h := Blk.new (w.alloc (.cells #[cellsV C] 26)) 3 #[.int .i64 i]; (try simp only [World.size_alloc] at h); exact (h.alloc _)
  have q2 : Blk W (w.heap.size + 2) 47 #[.int .u64 0] := by rw [← hW]; have h := Blk.new ((w.alloc (.cells #[cellsV C] 26)).alloc (.cells #[.int .i64 i] 3)) 47 #[.int .u64 0]; (try simp only [World.size_alloc] at h); exact h
  have CW : CellsAt W C S l k := hC.keep (Keep.ofBelow (Q := fun _ => False) bW) (fun h => h) (fun h => h)
  clear hW
  have HO := Lib.hid (operate_yes C S l k i 166 #[.pointer (some ⟨w.heap.size, 0, none⟩), .pointer (some ⟨w.heap.size + 1, 0, none⟩), .pointer (some ⟨w.heap.size + 2, 0, none⟩)] W (fun b => b = w.heap.size + 2) (fun w2 => Blk w2 (w.heap.size + 2) 47 #[.int .u64 x]) CW hlt h0 h1 call_loadC (fun w1 hb => loadC_any _ _ _ C S l k x i _ w1 (q0.below hb q0.lt) (q1.below hb q1.lt) (q2.below hb q2.lt) (CW.keep (Keep.ofBelow (Q := fun _ => False) hb) (fun h => h) (fun h => h)) HX.out) (fun b h => by have h2 := h; subst h2; (have := hC.ne; omega)) (fun w2 v h => h.far (by omega) _ _))
  have e0 := q0.cell 0 _ rfl
  have e1 := q1.cell 0 _ rfl
  go_wp2_with (go_at_call 143; refine HO.out.mono ?_; rintro e w1 ⟨rfl, hk, hg, hB⟩; have v0 := Blk.cell hg 0 _ rfl; have v1 := Blk.free hg 0; clear e0 e1)
  have hrow : Blk w1 S 47 (words l) := CW.row.keep hk (fun h => by have := hC.ne; rcases h with h | h <;> simp_all <;> omega)
  have hK : Keep (ofCells C S) w w1 := (Keep.ofBelow bW).step hk (fun b hb h => by simp only [ofCells]; omega)
  refine bodyPost_ret (v := .int .u64 x) (by simp [results, Tryz.results86, go_sem, v0]) rfl ⟨rfl, ?_, hK.set (fun h => by simp at h; omega) _⟩
  exact hC.step (by simp) (hB.far (by omega) _ _) (Blk.far hrow (by omega) _ _)
theorem load_no (C S : Nat) (l : List Int) (k i : Int) (w : World) (hC : CellsAt w C S l k) (hi : i < 0 ∨ l.length ≤ i) :
    Calls Tryz.prog 86 #[cellsV C, .int .i64 i] w fun e w' => e = .returned (.int .u64 0) ∧ Below w.heap.size w w' := by
  have hmf : ∀ (fn : Fn) (first cap : Array Value) (w : World), (Instr.makeFunc fn first cap).run Tryz.prog w = .ok (.func fn first cap) w := fun _ _ _ _ => rfl
  go_enter Tryz.func86, Tryz.ntmps86
  go_upto_region 1 with fail
  generalize hW : ((w.alloc _).alloc _).alloc _ = W
  have bW : Below w.heap.size w W := by rw [← hW]; go_grown
  have sW : W.heap.size = w.heap.size + 3 := by rw [← hW]; simp
  have q0 : Blk W w.heap.size 26 #[cellsV C] := by rw [← hW]; have h := Blk.new w 26 #[cellsV C]; (try simp only [World.size_alloc] at h); exact ((h.alloc _).alloc _)
  have q1 : Blk W (w.heap.size + 1) 3 #[.int .i64 i] := by rw [← hW]; have h := Blk.new (w.alloc (.cells #[cellsV C] 26)) 3 #[.int .i64 i]; (try simp only [World.size_alloc] at h); exact (h.alloc _)
  have q2 : Blk W (w.heap.size + 2) 47 #[.int .u64 0] := by rw [← hW]; have h := Blk.new ((w.alloc (.cells #[cellsV C] 26)).alloc (.cells #[.int .i64 i] 3)) 47 #[.int .u64 0]; (try simp only [World.size_alloc] at h); exact h
  have CW : CellsAt W C S l k := hC.keep (Keep.ofBelow (Q := fun _ => False) bW) (fun h => h) (fun h => h)
  clear hW
  have HO := Lib.hid (operate_no C S l k i 166 #[.pointer (some ⟨w.heap.size, 0, none⟩), .pointer (some ⟨w.heap.size + 1, 0, none⟩), .pointer (some ⟨w.heap.size + 2, 0, none⟩)] W CW hi)
  have e0 := q0.cell 0 _ rfl
  have e1 := q1.cell 0 _ rfl
  go_wp2_with (go_at_call 143; refine HO.out.mono ?_; rintro e w1 ⟨rfl, hb⟩; have qv := q2.below hb q2.lt; have v0 := qv.cell 0 _ rfl; have v1 := qv.free 0; clear e0 e1)
  exact bodyPost_ret (v := .int .u64 0) (by simp [results, Tryz.results86, go_sem, v0]) rfl ⟨rfl, (bW.trans (hb.mono bW.size)).setCell (by dsimp only; omega) _⟩
theorem load_nil (i : Int) (w : World) :
    Calls Tryz.prog 86 #[.pointer none, .int .i64 i] w fun e w' => e = .returned (.int .u64 0) ∧ Below w.heap.size w w' := by
  have hmf : ∀ (fn : Fn) (first cap : Array Value) (w : World), (Instr.makeFunc fn first cap).run Tryz.prog w = .ok (.func fn first cap) w := fun _ _ _ _ => rfl
  go_enter Tryz.func86, Tryz.ntmps86
  go_upto_region 1 with fail
  generalize hW : ((w.alloc _).alloc _).alloc _ = W
  have bW : Below w.heap.size w W := by rw [← hW]; go_grown
  have sW : W.heap.size = w.heap.size + 3 := by rw [← hW]; simp
  have q0 : Blk W w.heap.size 26 #[.pointer none] := by rw [← hW]; have h := Blk.new w 26 #[.pointer none]; (try simp only [World.size_alloc] at h); exact ((h.alloc _).alloc _)
  have q1 : Blk W (w.heap.size + 1) 3 #[.int .i64 i] := by rw [← hW]; have h := Blk.new (w.alloc (.cells #[.pointer none] 26)) 3 #[.int .i64 i]; (try simp only [World.size_alloc] at h); exact (h.alloc _)
  have q2 : Blk W (w.heap.size + 2) 47 #[.int .u64 0] := by rw [← hW]; have h := Blk.new ((w.alloc (.cells #[.pointer none] 26)).alloc (.cells #[.int .i64 i] 3)) 47 #[.int .u64 0]; (try simp only [World.size_alloc] at h); exact h
  clear hW
  have HO := Lib.hid (operate_nil i 166 #[.pointer (some ⟨w.heap.size, 0, none⟩), .pointer (some ⟨w.heap.size + 1, 0, none⟩), .pointer (some ⟨w.heap.size + 2, 0, none⟩)] W)
  have e0 := q0.cell 0 _ rfl
  have e1 := q1.cell 0 _ rfl
  go_wp2_with (go_at_call 143; refine HO.out.mono ?_; rintro e w1 ⟨rfl, hb⟩; have qv := q2.below hb q2.lt; have v0 := qv.cell 0 _ rfl; have v1 := qv.free 0; clear e0 e1)
  exact bodyPost_ret (v := .int .u64 0) (by simp [results, Tryz.results86, go_sem, v0]) rfl ⟨rfl, (bW.trans (hb.mono bW.size)).setCell (by dsimp only; omega) _⟩
theorem store_yes (C S : Nat) (l : List Int) (k : Int) (i : Nat) (x : Int) (u : Int) (w : World) (hC : CellsAt w C S l k) (hx : l[i]? = some x) (h0 : 0 ≤ k) (h1 : k < 9223372036854775807) :
    Calls Tryz.prog 59 #[cellsV C, .int .i64 i, .int .u64 u] w fun e w' => e = .returned (.bool true) ∧ CellsAt w' C S (l.set i u) (k + 1) ∧ Keep (ofCells C S) w w' := by
  have hlt : i < l.length := by rw [List.getElem?_eq_some_iff] at hx; exact hx.1
  have hCl := hC.own.lt
  have hSl := hC.row.lt
  have hmf : ∀ (fn : Fn) (first cap : Array Value) (w : World), (Instr.makeFunc fn first cap).run Tryz.prog w = .ok (.func fn first cap) w := fun _ _ _ _ => rfl
  have HH : Hid True := Lib.hid trivial
  have HX := Lib.hid hx
  clear hx
  go_enter Tryz.func59, Tryz.ntmps59
  go_upto_region 1 with fail
  generalize hW : ((w.alloc _).alloc _).alloc _ = W
  have bW : Below w.heap.size w W := by rw [← hW]; go_grown
  have sW : W.heap.size = w.heap.size + 3 := by rw [← hW]; simp
  have q0 : Blk W w.heap.size 26 #[cellsV C] := by rw [← hW]; have h := Blk.new w 26 #[cellsV C]; (try simp only [World.size_alloc] at h); exact ((h.alloc _).alloc _)
  have q1 : Blk W (w.heap.size + 1) 3 #[.int .i64 i] := by rw [← hW]; have h := Blk.new (w.alloc (.cells #[cellsV C] 26)) 3 #[.int .i64 i]; (try simp only [World.size_alloc] at h); exact (h.alloc _)
  have q2 : Blk W (w.heap.size + 2) 47 #[.int .u64 u] := by rw [← hW]; have h := Blk.new ((w.alloc (.cells #[cellsV C] 26)).alloc (.cells #[.int .i64 i] 3)) 47 #[.int .u64 u]; (try simp only [World.size_alloc] at h); exact h
  have CW : CellsAt W C S l k := hC.keep (Keep.ofBelow (Q := fun _ => False) bW) (fun h => h) (fun h => h)
  clear hW
  have HO := Lib.hid (operate_yes C S l k i 144 #[.pointer (some ⟨w.heap.size, 0, none⟩), .pointer (some ⟨w.heap.size + 1, 0, none⟩), .pointer (some ⟨w.heap.size + 2, 0, none⟩)] W (fun b => b = S) (fun w2 => Blk w2 S 47 (words (l.set i u))) CW hlt h0 h1 call_storeC (fun w1 hb => storeC_any _ _ _ C S l k x u i w1 (q0.below hb q0.lt) (q1.below hb q1.lt) (q2.below hb q2.lt) (CW.keep (Keep.ofBelow (Q := fun _ => False) hb) (fun h => h) (fun h => h)) HX.out) (fun b h => by have h2 := h; subst h2; (have := hC.ne; omega)) (fun w2 v h => h.far (Ne.symm hC.ne) _ _))
  have e0 := q0.cell 0 _ rfl
  have e1 := q1.cell 0 _ rfl
  go_wp2_with (go_at_call 143; refine HO.out.mono ?_; rintro e w1 ⟨rfl, hk, hg, hB⟩; clear e0 e1)
  have hK : Keep (ofCells C S) w w1 := (Keep.ofBelow bW).step hk (fun b hb h => by simp only [ofCells]; omega)
  go_ret
  exact ⟨rfl, hC.step (by simp) hB hg, hK⟩
theorem store_no (C S : Nat) (l : List Int) (k i : Int) (u : Int) (w : World) (hC : CellsAt w C S l k) (hi : i < 0 ∨ l.length ≤ i) :
    Calls Tryz.prog 59 #[cellsV C, .int .i64 i, .int .u64 u] w fun e w' => e = .returned (.bool false) ∧ Below w.heap.size w w' := by
  have hmf : ∀ (fn : Fn) (first cap : Array Value) (w : World), (Instr.makeFunc fn first cap).run Tryz.prog w = .ok (.func fn first cap) w := fun _ _ _ _ => rfl
  go_enter Tryz.func59, Tryz.ntmps59
  go_upto_region 1 with fail
  generalize hW : ((w.alloc _).alloc _).alloc _ = W
  have bW : Below w.heap.size w W := by rw [← hW]; go_grown
  have sW : W.heap.size = w.heap.size + 3 := by rw [← hW]; simp
  have q0 : Blk W w.heap.size 26 #[cellsV C] := by rw [← hW]; have h := Blk.new w 26 #[cellsV C]; (try simp only [World.size_alloc] at h); exact ((h.alloc _).alloc _)
  have q1 : Blk W (w.heap.size + 1) 3 #[.int .i64 i] := by rw [← hW]; have h := Blk.new (w.alloc (.cells #[cellsV C] 26)) 3 #[.int .i64 i]; (try simp only [World.size_alloc] at h); exact (h.alloc _)
  have q2 : Blk W (w.heap.size + 2) 47 #[.int .u64 u] := by rw [← hW]; have h := Blk.new ((w.alloc (.cells #[cellsV C] 26)).alloc (.cells #[.int .i64 i] 3)) 47 #[.int .u64 u]; (try simp only [World.size_alloc] at h); exact h
  have CW : CellsAt W C S l k := hC.keep (Keep.ofBelow (Q := fun _ => False) bW) (fun h => h) (fun h => h)
  clear hW
  have HO := Lib.hid (operate_no C S l k i 144 #[.pointer (some ⟨w.heap.size, 0, none⟩), .pointer (some ⟨w.heap.size + 1, 0, none⟩), .pointer (some ⟨w.heap.size + 2, 0, none⟩)] W CW hi)
  have e0 := q0.cell 0 _ rfl
  have e1 := q1.cell 0 _ rfl
  go_wp2_with (go_at_call 143; refine HO.out.mono ?_; rintro e w1 ⟨rfl, hb⟩; clear e0 e1)
  go_ret
  exact ⟨rfl, bW.trans (hb.mono bW.size)⟩
theorem store_nil (i : Int) (u : Int) (w : World) :
    Calls Tryz.prog 59 #[.pointer none, .int .i64 i, .int .u64 u] w fun e w' => e = .returned (.bool false) ∧ Below w.heap.size w w' := by
  have hmf : ∀ (fn : Fn) (first cap : Array Value) (w : World), (Instr.makeFunc fn first cap).run Tryz.prog w = .ok (.func fn first cap) w := fun _ _ _ _ => rfl
  go_enter Tryz.func59, Tryz.ntmps59
  go_upto_region 1 with fail
  generalize hW : ((w.alloc _).alloc _).alloc _ = W
  have bW : Below w.heap.size w W := by rw [← hW]; go_grown
  have sW : W.heap.size = w.heap.size + 3 := by rw [← hW]; simp
  have q0 : Blk W w.heap.size 26 #[.pointer none] := by rw [← hW]; have h := Blk.new w 26 #[.pointer none]; (try simp only [World.size_alloc] at h); exact ((h.alloc _).alloc _)
  have q1 : Blk W (w.heap.size + 1) 3 #[.int .i64 i] := by rw [← hW]; have h := Blk.new (w.alloc (.cells #[.pointer none] 26)) 3 #[.int .i64 i]; (try simp only [World.size_alloc] at h); exact (h.alloc _)
  have q2 : Blk W (w.heap.size + 2) 47 #[.int .u64 u] := by rw [← hW]; have h := Blk.new ((w.alloc (.cells #[.pointer none] 26)).alloc (.cells #[.int .i64 i] 3)) 47 #[.int .u64 u]; (try simp only [World.size_alloc] at h); exact h
  clear hW
  have HO := Lib.hid (operate_nil i 144 #[.pointer (some ⟨w.heap.size, 0, none⟩), .pointer (some ⟨w.heap.size + 1, 0, none⟩), .pointer (some ⟨w.heap.size + 2, 0, none⟩)] W)
  have e0 := q0.cell 0 _ rfl
  have e1 := q1.cell 0 _ rfl
  go_wp2_with (go_at_call 143; refine HO.out.mono ?_; rintro e w1 ⟨rfl, hb⟩; clear e0 e1)
  go_ret
  exact ⟨rfl, bW.trans (hb.mono bW.size)⟩
theorem swap_yes (C S : Nat) (l : List Int) (k : Int) (i : Nat) (o u : Int) (w : World) (hC : CellsAt w C S l k) (hx : l[i]? = some o) (h0 : 0 ≤ k) (h1 : k < 9223372036854775807) :
    Calls Tryz.prog 289 #[cellsV C, .int .i64 i, .int .u64 o, .int .u64 u] w fun e w' => e = .returned (.bool true) ∧ CellsAt w' C S (l.set i u) (k + 1) ∧ Keep (ofCells C S) w w' := by
  have hlt : i < l.length := by rw [List.getElem?_eq_some_iff] at hx; exact hx.1
  have hCl := hC.own.lt
  have hSl := hC.row.lt
  have hmf : ∀ (fn : Fn) (first cap : Array Value) (w : World), (Instr.makeFunc fn first cap).run Tryz.prog w = .ok (.func fn first cap) w := fun _ _ _ _ => rfl
  have HH : Hid True := Lib.hid trivial
  have HX := Lib.hid hx
  clear hx
  go_enter Tryz.func289, Tryz.ntmps289
  go_upto_region 1 with fail
  generalize hW : ((((w.alloc _).alloc _).alloc _).alloc _).alloc _ = W
  have bW : Below w.heap.size w W := by rw [← hW]; go_grown
  have sW : W.heap.size = w.heap.size + 5 := by rw [← hW]; simp
  have q0 : Blk W w.heap.size 26 #[cellsV C] := by rw [← hW]; have h := Blk.new w 26 #[cellsV C]; (try simp only [World.size_alloc] at h); exact ((((h.alloc _).alloc _).alloc _).alloc _)
  have q1 : Blk W (w.heap.size + 1) 3 #[.int .i64 i] := by rw [← hW]; have h := Blk.new (w.alloc (.cells #[cellsV C] 26)) 3 #[.int .i64 i]; (try simp only [World.size_alloc] at h); exact (((h.alloc _).alloc _).alloc _)
  have q2 : Blk W (w.heap.size + 2) 47 #[.int .u64 o] := by rw [← hW]; have h := Blk.new ((w.alloc (.cells #[cellsV C] 26)).alloc (.cells #[.int .i64 i] 3)) 47 #[.int .u64 o]; (try simp only [World.size_alloc] at h); exact ((h.alloc _).alloc _)
  have q3 : Blk W (w.heap.size + 3) 47 #[.int .u64 u] := by rw [← hW]; have h := Blk.new (((w.alloc (.cells #[cellsV C] 26)).alloc (.cells #[.int .i64 i] 3)).alloc (.cells #[.int .u64 o] 47)) 47 #[.int .u64 u]; (try simp only [World.size_alloc] at h); exact (h.alloc _)
  have q4 : Blk W (w.heap.size + 4) 4 #[.bool false] := by rw [← hW]; have h := Blk.new ((((w.alloc (.cells #[cellsV C] 26)).alloc (.cells #[.int .i64 i] 3)).alloc (.cells #[.int .u64 o] 47)).alloc (.cells #[.int .u64 u] 47)) 4 #[.bool false]; (try simp only [World.size_alloc] at h); exact h
  have CW : CellsAt W C S l k := hC.keep (Keep.ofBelow (Q := fun _ => False) bW) (fun h => h) (fun h => h)
  clear hW
  have HO := Lib.hid (operate_yes C S l k i 341 #[.pointer (some ⟨w.heap.size, 0, none⟩), .pointer (some ⟨w.heap.size + 1, 0, none⟩), .pointer (some ⟨w.heap.size + 2, 0, none⟩), .pointer (some ⟨w.heap.size + 3, 0, none⟩), .pointer (some ⟨w.heap.size + 4, 0, none⟩)] W (fun b => b = S ∨ b = w.heap.size + 4) (fun w2 => Blk w2 S 47 (words (l.set i u)) ∧ Blk w2 (w.heap.size + 4) 4 #[.bool true]) CW hlt h0 h1 call_swapC (fun w1 hb => swapC_yes _ _ _ _ _ C S l k o u i _ w1 (q0.below hb q0.lt) (q1.below hb q1.lt) (q2.below hb q2.lt) (q3.below hb q3.lt) (q4.below hb q4.lt) (CW.keep (Keep.ofBelow (Q := fun _ => False) hb) (fun h => h) (fun h => h)) HX.out (by omega)) (fun b h => by rcases h with rfl | rfl <;> (have := hC.ne; omega)) (fun w2 v h => ⟨h.1.far (Ne.symm hC.ne) _ _, h.2.far (by omega) _ _⟩))
  have e0 := q0.cell 0 _ rfl
  have e1 := q1.cell 0 _ rfl
  go_wp2_with (go_at_call 143; refine HO.out.mono ?_; rintro e w1 ⟨rfl, hk, hg, hB⟩; have v0 := Blk.cell hg.2 0 _ rfl; have v1 := Blk.free hg.2 0; clear e0 e1)
  have hK : Keep (ofCells C S) w w1 := (Keep.ofBelow bW).step hk (fun b hb h => by simp only [ofCells]; omega)
  refine bodyPost_ret (v := .bool true) (by simp [results, Tryz.results289, go_sem, v0]) rfl ⟨rfl, ?_, hK.set (fun h => by simp at h; omega) _⟩
  exact hC.step (by simp) (hB.far (by omega) _ _) (Blk.far hg.1 (by omega) _ _)
theorem swap_other (C S : Nat) (l : List Int) (k : Int) (i : Nat) (x : Int) (o u : Int) (w : World) (hC : CellsAt w C S l k) (hx : l[i]? = some x) (hne : x ≠ o) (h0 : 0 ≤ k) (h1 : k < 9223372036854775807) :
    Calls Tryz.prog 289 #[cellsV C, .int .i64 i, .int .u64 o, .int .u64 u] w fun e w' => e = .returned (.bool false) ∧ CellsAt w' C S (l) (k + 1) ∧ Keep (ofCells C S) w w' := by
  have hlt : i < l.length := by rw [List.getElem?_eq_some_iff] at hx; exact hx.1
  have hCl := hC.own.lt
  have hSl := hC.row.lt
  have hmf : ∀ (fn : Fn) (first cap : Array Value) (w : World), (Instr.makeFunc fn first cap).run Tryz.prog w = .ok (.func fn first cap) w := fun _ _ _ _ => rfl
  have HH : Hid True := Lib.hid trivial
  have HX := Lib.hid hx
  clear hx
  have HN := Lib.hid hne
  clear hne
  go_enter Tryz.func289, Tryz.ntmps289
  go_upto_region 1 with fail
  generalize hW : ((((w.alloc _).alloc _).alloc _).alloc _).alloc _ = W
  have bW : Below w.heap.size w W := by rw [← hW]; go_grown
  have sW : W.heap.size = w.heap.size + 5 := by rw [← hW]; simp
  have q0 : Blk W w.heap.size 26 #[cellsV C] := by rw [← hW]; have h := Blk.new w 26 #[cellsV C]; (try simp only [World.size_alloc] at h); exact ((((h.alloc _).alloc _).alloc _).alloc _)
  have q1 : Blk W (w.heap.size + 1) 3 #[.int .i64 i] := by rw [← hW]; have h := Blk.new (w.alloc (.cells #[cellsV C] 26)) 3 #[.int .i64 i]; (try simp only [World.size_alloc] at h); exact (((h.alloc _).alloc _).alloc _)
  have q2 : Blk W (w.heap.size + 2) 47 #[.int .u64 o] := by rw [← hW]; have h := Blk.new ((w.alloc (.cells #[cellsV C] 26)).alloc (.cells #[.int .i64 i] 3)) 47 #[.int .u64 o]; (try simp only [World.size_alloc] at h); exact ((h.alloc _).alloc _)
  have q3 : Blk W (w.heap.size + 3) 47 #[.int .u64 u] := by rw [← hW]; have h := Blk.new (((w.alloc (.cells #[cellsV C] 26)).alloc (.cells #[.int .i64 i] 3)).alloc (.cells #[.int .u64 o] 47)) 47 #[.int .u64 u]; (try simp only [World.size_alloc] at h); exact (h.alloc _)
  have q4 : Blk W (w.heap.size + 4) 4 #[.bool false] := by rw [← hW]; have h := Blk.new ((((w.alloc (.cells #[cellsV C] 26)).alloc (.cells #[.int .i64 i] 3)).alloc (.cells #[.int .u64 o] 47)).alloc (.cells #[.int .u64 u] 47)) 4 #[.bool false]; (try simp only [World.size_alloc] at h); exact h
  have CW : CellsAt W C S l k := hC.keep (Keep.ofBelow (Q := fun _ => False) bW) (fun h => h) (fun h => h)
  clear hW
  have HO := Lib.hid (operate_yes C S l k i 341 #[.pointer (some ⟨w.heap.size, 0, none⟩), .pointer (some ⟨w.heap.size + 1, 0, none⟩), .pointer (some ⟨w.heap.size + 2, 0, none⟩), .pointer (some ⟨w.heap.size + 3, 0, none⟩), .pointer (some ⟨w.heap.size + 4, 0, none⟩)] W (fun b => b = w.heap.size + 4) (fun w2 => Blk w2 (w.heap.size + 4) 4 #[.bool false]) CW hlt h0 h1 call_swapC (fun w1 hb => swapC_no _ _ _ _ _ C S l k x o u i _ w1 (q0.below hb q0.lt) (q1.below hb q1.lt) (q2.below hb q2.lt) (q3.below hb q3.lt) (q4.below hb q4.lt) (CW.keep (Keep.ofBelow (Q := fun _ => False) hb) (fun h => h) (fun h => h)) HX.out (by simpa using HN.out)) (fun b h => by have h2 := h; subst h2; (have := hC.ne; omega)) (fun w2 v h => h.far (by omega) _ _))
  have e0 := q0.cell 0 _ rfl
  have e1 := q1.cell 0 _ rfl
  go_wp2_with (go_at_call 143; refine HO.out.mono ?_; rintro e w1 ⟨rfl, hk, hg, hB⟩; have v0 := Blk.cell hg 0 _ rfl; have v1 := Blk.free hg 0; clear e0 e1)
  have hrow : Blk w1 S 47 (words l) := CW.row.keep hk (fun h => by have := hC.ne; rcases h with h | h <;> simp_all <;> omega)
  have hK : Keep (ofCells C S) w w1 := (Keep.ofBelow bW).step hk (fun b hb h => by simp only [ofCells]; omega)
  refine bodyPost_ret (v := .bool false) (by simp [results, Tryz.results289, go_sem, v0]) rfl ⟨rfl, ?_, hK.set (fun h => by simp at h; omega) _⟩
  exact hC.step (by simp) (hB.far (by omega) _ _) (Blk.far hrow (by omega) _ _)
theorem swap_no (C S : Nat) (l : List Int) (k i : Int) (o u : Int) (w : World) (hC : CellsAt w C S l k) (hi : i < 0 ∨ l.length ≤ i) :
    Calls Tryz.prog 289 #[cellsV C, .int .i64 i, .int .u64 o, .int .u64 u] w fun e w' => e = .returned (.bool false) ∧ Below w.heap.size w w' := by
  have hmf : ∀ (fn : Fn) (first cap : Array Value) (w : World), (Instr.makeFunc fn first cap).run Tryz.prog w = .ok (.func fn first cap) w := fun _ _ _ _ => rfl
  go_enter Tryz.func289, Tryz.ntmps289
  go_upto_region 1 with fail
  generalize hW : ((((w.alloc _).alloc _).alloc _).alloc _).alloc _ = W
  have bW : Below w.heap.size w W := by rw [← hW]; go_grown
  have sW : W.heap.size = w.heap.size + 5 := by rw [← hW]; simp
  have q0 : Blk W w.heap.size 26 #[cellsV C] := by rw [← hW]; have h := Blk.new w 26 #[cellsV C]; (try simp only [World.size_alloc] at h); exact ((((h.alloc _).alloc _).alloc _).alloc _)
  have q1 : Blk W (w.heap.size + 1) 3 #[.int .i64 i] := by rw [← hW]; have h := Blk.new (w.alloc (.cells #[cellsV C] 26)) 3 #[.int .i64 i]; (try simp only [World.size_alloc] at h); exact (((h.alloc _).alloc _).alloc _)
  have q2 : Blk W (w.heap.size + 2) 47 #[.int .u64 o] := by rw [← hW]; have h := Blk.new ((w.alloc (.cells #[cellsV C] 26)).alloc (.cells #[.int .i64 i] 3)) 47 #[.int .u64 o]; (try simp only [World.size_alloc] at h); exact ((h.alloc _).alloc _)
  have q3 : Blk W (w.heap.size + 3) 47 #[.int .u64 u] := by rw [← hW]; have h := Blk.new (((w.alloc (.cells #[cellsV C] 26)).alloc (.cells #[.int .i64 i] 3)).alloc (.cells #[.int .u64 o] 47)) 47 #[.int .u64 u]; (try simp only [World.size_alloc] at h); exact (h.alloc _)
  have q4 : Blk W (w.heap.size + 4) 4 #[.bool false] := by rw [← hW]; have h := Blk.new ((((w.alloc (.cells #[cellsV C] 26)).alloc (.cells #[.int .i64 i] 3)).alloc (.cells #[.int .u64 o] 47)).alloc (.cells #[.int .u64 u] 47)) 4 #[.bool false]; (try simp only [World.size_alloc] at h); exact h
  have CW : CellsAt W C S l k := hC.keep (Keep.ofBelow (Q := fun _ => False) bW) (fun h => h) (fun h => h)
  clear hW
  have HO := Lib.hid (operate_no C S l k i 341 #[.pointer (some ⟨w.heap.size, 0, none⟩), .pointer (some ⟨w.heap.size + 1, 0, none⟩), .pointer (some ⟨w.heap.size + 2, 0, none⟩), .pointer (some ⟨w.heap.size + 3, 0, none⟩), .pointer (some ⟨w.heap.size + 4, 0, none⟩)] W CW hi)
  have e0 := q0.cell 0 _ rfl
  have e1 := q1.cell 0 _ rfl
  go_wp2_with (go_at_call 143; refine HO.out.mono ?_; rintro e w1 ⟨rfl, hb⟩; have qv := q4.below hb q4.lt; have v0 := qv.cell 0 _ rfl; have v1 := qv.free 0; clear e0 e1)
  exact bodyPost_ret (v := .bool false) (by simp [results, Tryz.results289, go_sem, v0]) rfl ⟨rfl, (bW.trans (hb.mono bW.size)).setCell (by dsimp only; omega) _⟩
theorem swap_nil (i : Int) (o u : Int) (w : World) :
    Calls Tryz.prog 289 #[.pointer none, .int .i64 i, .int .u64 o, .int .u64 u] w fun e w' => e = .returned (.bool false) ∧ Below w.heap.size w w' := by
  have hmf : ∀ (fn : Fn) (first cap : Array Value) (w : World), (Instr.makeFunc fn first cap).run Tryz.prog w = .ok (.func fn first cap) w := fun _ _ _ _ => rfl
  go_enter Tryz.func289, Tryz.ntmps289
  go_upto_region 1 with fail
  generalize hW : ((((w.alloc _).alloc _).alloc _).alloc _).alloc _ = W
  have bW : Below w.heap.size w W := by rw [← hW]; go_grown
  have sW : W.heap.size = w.heap.size + 5 := by rw [← hW]; simp
  have q0 : Blk W w.heap.size 26 #[.pointer none] := by rw [← hW]; have h := Blk.new w 26 #[.pointer none]; (try simp only [World.size_alloc] at h); exact ((((h.alloc _).alloc _).alloc _).alloc _)
  have q1 : Blk W (w.heap.size + 1) 3 #[.int .i64 i] := by rw [← hW]; have h := Blk.new (w.alloc (.cells #[.pointer none] 26)) 3 #[.int .i64 i]; (try simp only [World.size_alloc] at h); exact (((h.alloc _).alloc _).alloc _)
  have q2 : Blk W (w.heap.size + 2) 47 #[.int .u64 o] := by rw [← hW]; have h := Blk.new ((w.alloc (.cells #[.pointer none] 26)).alloc (.cells #[.int .i64 i] 3)) 47 #[.int .u64 o]; (try simp only [World.size_alloc] at h); exact ((h.alloc _).alloc _)
  have q3 : Blk W (w.heap.size + 3) 47 #[.int .u64 u] := by rw [← hW]; have h := Blk.new (((w.alloc (.cells #[.pointer none] 26)).alloc (.cells #[.int .i64 i] 3)).alloc (.cells #[.int .u64 o] 47)) 47 #[.int .u64 u]; (try simp only [World.size_alloc] at h); exact (h.alloc _)
  have q4 : Blk W (w.heap.size + 4) 4 #[.bool false] := by rw [← hW]; have h := Blk.new ((((w.alloc (.cells #[.pointer none] 26)).alloc (.cells #[.int .i64 i] 3)).alloc (.cells #[.int .u64 o] 47)).alloc (.cells #[.int .u64 u] 47)) 4 #[.bool false]; (try simp only [World.size_alloc] at h); exact h
  clear hW
  have HO := Lib.hid (operate_nil i 341 #[.pointer (some ⟨w.heap.size, 0, none⟩), .pointer (some ⟨w.heap.size + 1, 0, none⟩), .pointer (some ⟨w.heap.size + 2, 0, none⟩), .pointer (some ⟨w.heap.size + 3, 0, none⟩), .pointer (some ⟨w.heap.size + 4, 0, none⟩)] W)
  have e0 := q0.cell 0 _ rfl
  have e1 := q1.cell 0 _ rfl
  go_wp2_with (go_at_call 143; refine HO.out.mono ?_; rintro e w1 ⟨rfl, hb⟩; have qv := q4.below hb q4.lt; have v0 := qv.cell 0 _ rfl; have v1 := qv.free 0; clear e0 e1)
  exact bodyPost_ret (v := .bool false) (by simp [results, Tryz.results289, go_sem, v0]) rfl ⟨rfl, (bW.trans (hb.mono bW.size)).setCell (by dsimp only; omega) _⟩
end Go.Proofs.YtldofbkjjmnooaaGreat
/- Maps: which cell is what. -/
namespace Go.Proofs.YtldofbkjjmnooaaGreat
open Go.ChangeShapes Go.WideShapes Go.ChangeAt Go.RowKit
set_option linter.unusedVariables false
set_option maxRecDepth 100000
set_option linter.unusedSimpArgs false
theorem bdrewP (w : World) : Below w.heap.size w w.drew := ⟨rfl, rfl, rfl, Nat.le_refl _, fun _ _ => rfl⟩
/-- a map -/
structure Mp where
  t : Nat
  o : Nat
  n : Nat
structure Mp.ok (m : Mp) : Prop where
  t : 1 ≤ m.t ∧ m.t ≤ 32766
  o : 1 ≤ m.o ∧ m.o ≤ 65536
  n : m.n ≤ 4096
abbrev mapV (m : Mp) : Value := .agg #[.int .i64 (m.t : Int), .int .i64 (m.o : Int), .int .i64 (m.n : Int)]
/-- the cell of the thread behind u; what is behind u, or ahead of all -/
def nxN (m : Mp) (u : Int) : Nat := 2 + m.o + 6 * u.toNat
def sizeN (m : Mp) : Nat := 2 + m.o + 6 * m.t + 8 * m.n
/-- the first cell of a monitor; its Link, its Gen -/
def monN (m : Mp) (k : Int) : Nat := 2 + m.o + 6 * m.t + 8 * k.toNat
def linkN (m : Mp) (k : Int) : Nat := monN m k + 7
def genN (m : Mp) (k : Int) : Nat := monN m k + 6
def wordN (o : Int) : Nat := 2 + o.toNat
def safeN (m : Mp) (u : Int) : Nat := nxN m u + 4
def stateN (m : Mp) (u : Int) : Nat := nxN m u + 1
def holdN (m : Mp) (k : Int) : Nat := monN m k + 1
theorem linkN_eq {m : Mp} {k : Int} (h : 0 ≤ k) : ((linkN m k : Nat) : Int) = 2 + (m.o : Int) + 6 * (m.t : Int) + 8 * k + 7 := by unfold linkN monN; omega
theorem genN_eq {m : Mp} {k : Int} (h : 0 ≤ k) : ((genN m k : Nat) : Int) = 2 + (m.o : Int) + 6 * (m.t : Int) + 8 * k + 6 := by unfold genN monN; omega
theorem linkN_lt {m : Mp} {k : Int} (h : 0 ≤ k ∧ k < m.n) : linkN m k < sizeN m := by unfold linkN monN sizeN; omega
theorem genN_lt {m : Mp} {k : Int} (h : 0 ≤ k ∧ k < m.n) : genN m k < sizeN m := by unfold genN monN sizeN; omega
theorem linkN_inj {m : Mp} {j k : Int} (hj : 0 ≤ j) (hk : 0 ≤ k) (h : linkN m j = linkN m k) : j = k := by unfold linkN monN at h; omega
theorem linkN_gen {m : Mp} {j k : Int} (hj : 0 ≤ j) (hk : 0 ≤ k) : linkN m j ≠ genN m k := by unfold linkN genN monN; omega
theorem linkN_two {m : Mp} {k : Int} : 9 ≤ linkN m k := by unfold linkN monN; omega
theorem genN_two {m : Mp} {k : Int} : 8 ≤ genN m k := by unfold genN monN; omega
theorem thread_any (m : Mp) (u : Int) (w : World) (hm : m.ok) (h : 0 ≤ u ∧ u < m.t) : Calls Tryz.prog 108 #[mapV m, .int .i64 u] w fun e w' => e = .returned (.int .i64 (nxN m u : Int)) ∧ Below w.heap.size w w' := by
  have e1 : ((nxN m u : Nat) : Int) = 2 + (m.o : Int) + 6 * u := by unfold nxN; omega
  have h1 := hm.t
  have h2 := hm.o
  rw [e1]
  clear e1 hm
  go_enter Tryz.func108, Tryz.ntmps108
  go_wp2
  go_ret
  exact ⟨rfl, by go_grown⟩
theorem size_any (m : Mp) (w : World) (hm : m.ok) : Calls Tryz.prog 14 #[mapV m] w fun e w' => e = .returned (.int .i64 (sizeN m : Int)) ∧ Below w.heap.size w w' := by
  have e1 : ((sizeN m : Nat) : Int) = 2 + (m.o : Int) + 6 * (m.t : Int) + 8 * (m.n : Int) := by unfold sizeN; omega
  have h1 := hm.t
  have h2 := hm.o
  have h3 := hm.n
  rw [e1]
  clear e1 hm
  go_enter Tryz.func14, Tryz.ntmps14
  go_wp2
  go_ret
  exact ⟨rfl, by go_grown⟩
/-- may there be such a map? -/
def rightS (t o n : Int) : Bool := decide (1 ≤ t ∧ t ≤ 32766 ∧ 1 ≤ o ∧ o ≤ 65536 ∧ 0 ≤ n ∧ n ≤ 4096)
theorem right_any (t o n : Int) (w : World) : Calls Tryz.prog 52 #[.agg #[.int .i64 t, .int .i64 o, .int .i64 n]] w fun e w' => e = .returned (.bool (rightS t o n)) ∧ Below w.heap.size w w' := by
  by_cases h1 : 1 ≤ t
  · by_cases h2 : t ≤ 32766
    · by_cases h3 : 1 ≤ o
      · by_cases h4 : o ≤ 65536
        · by_cases h5 : 0 ≤ n
          · by_cases h6 : n ≤ 4096
            · have e : rightS t o n = true := by simp [rightS, *]
              rw [e]
              clear e
              go_enter Tryz.func52, Tryz.ntmps52
              go_wp2
              go_ret
              exact ⟨rfl, by go_grown⟩
            · have e : rightS t o n = false := by simp [rightS, *]
              rw [e]
              clear e
              go_enter Tryz.func52, Tryz.ntmps52
              go_wp2
              go_ret
              exact ⟨rfl, by go_grown⟩
          · have e : rightS t o n = false := by simp [rightS, *]
            rw [e]
            clear e
            go_enter Tryz.func52, Tryz.ntmps52
            go_wp2
            go_ret
            exact ⟨rfl, by go_grown⟩
        · have e : rightS t o n = false := by simp [rightS, *]
          rw [e]
          clear e
          go_enter Tryz.func52, Tryz.ntmps52
          go_wp2
          go_ret
          exact ⟨rfl, by go_grown⟩
      · have e : rightS t o n = false := by simp [rightS, *]
        rw [e]
        clear e
        go_enter Tryz.func52, Tryz.ntmps52
        go_wp2
        go_ret
        exact ⟨rfl, by go_grown⟩
    · have e : rightS t o n = false := by simp [rightS, *]
      rw [e]
      clear e
      go_enter Tryz.func52, Tryz.ntmps52
      go_wp2
      go_ret
      exact ⟨rfl, by go_grown⟩
  · have e : rightS t o n = false := by simp [rightS, *]
    rw [e]
    clear e
    go_enter Tryz.func52, Tryz.ntmps52
    go_wp2
    go_ret
    exact ⟨rfl, by go_grown⟩
theorem safe_any (m : Mp) (u : Int) (w : World) (hm : m.ok) (h : 0 ≤ u ∧ u < m.t) : Calls Tryz.prog 54 #[mapV m, .int .i64 u] w fun e w' => e = .returned (.int .i64 (safeN m u : Int)) ∧ Below w.heap.size w w' := by
  have HT := Lib.hid fun W => thread_any m u W hm h
  have e1 : ((safeN m u : Nat) : Int) = (nxN m u : Int) + 4 := by unfold safeN; omega
  have e2 : (nxN m u : Int) ≤ 1000000 := by have := hm.t; have := hm.o; unfold nxN; omega
  rw [e1]
  clear hm h e1
  generalize nxN m u = x at *
  go_enter Tryz.func54, Tryz.ntmps54
  go_wp2_with (go_at_call 108; refine (HT.out _).mono ?_; rintro e w2 ⟨rfl, b2⟩)
  go_ret
  exact ⟨rfl, ((Below.refl _ w).alloc (Nat.le_refl _) _).trans (b2.mono (by simp))⟩
theorem state_any (m : Mp) (u : Int) (w : World) (hm : m.ok) (h : 0 ≤ u ∧ u < m.t) : Calls Tryz.prog 134 #[mapV m, .int .i64 u] w fun e w' => e = .returned (.int .i64 (stateN m u : Int)) ∧ Below w.heap.size w w' := by
  have HT := Lib.hid fun W => thread_any m u W hm h
  have e1 : ((stateN m u : Nat) : Int) = (nxN m u : Int) + 1 := by unfold stateN; omega
  have e2 : (nxN m u : Int) ≤ 1000000 := by have := hm.t; have := hm.o; unfold nxN; omega
  rw [e1]
  clear hm h e1
  generalize nxN m u = x at *
  go_enter Tryz.func134, Tryz.ntmps134
  go_wp2_with (go_at_call 108; refine (HT.out _).mono ?_; rintro e w2 ⟨rfl, b2⟩)
  go_ret
  exact ⟨rfl, ((Below.refl _ w).alloc (Nat.le_refl _) _).trans (b2.mono (by simp))⟩
theorem mword_any (m : Mp) (u : Int) (w : World) (h : 0 ≤ u ∧ u ≤ 100000) : Calls Tryz.prog 126 #[mapV m, .int .i64 u] w fun e w' => e = .returned (.int .i64 (wordN u : Int)) ∧ Below w.heap.size w w' := by
  have e1 : ((wordN u : Nat) : Int) = 2 + u := by unfold wordN; omega
  rw [e1]
  clear e1
  go_enter Tryz.func126, Tryz.ntmps126
  go_wp2
  go_ret
  exact ⟨rfl, by go_grown⟩
theorem mon_any (m : Mp) (k : Int) (w : World) (hm : m.ok) (h : 0 ≤ k ∧ k ≤ 5000) : Calls Tryz.prog 128 #[mapV m, .int .i64 k] w fun e w' => e = .returned (.int .i64 (2 + (m.o : Int) + 6 * (m.t : Int) + 8 * k)) ∧ Below w.heap.size w w' := by
  have h1 := hm.t
  have h2 := hm.o
  clear hm
  go_enter Tryz.func128, Tryz.ntmps128
  go_wp2
  go_ret
  exact ⟨rfl, by go_grown⟩
theorem link_any (m : Mp) (k : Int) (w : World) (hm : m.ok) (h : 0 ≤ k ∧ k ≤ 5000) : Calls Tryz.prog 47 #[mapV m, .int .i64 k] w fun e w' => e = .returned (.int .i64 (linkN m k : Nat)) ∧ Below w.heap.size w w' := by
  have h1 := hm.t
  have h2 := hm.o
  rw [linkN_eq h.1]
  have HT := Lib.hid fun W => mon_any m k W hm h
  clear hm
  go_enter Tryz.func47, Tryz.ntmps47
  go_wp2_with (go_at_call 128; refine (HT.out _).mono ?_; rintro e w2 ⟨rfl, b2⟩)
  go_ret
  exact ⟨rfl, ((Below.refl _ w).alloc (Nat.le_refl _) _).trans (b2.mono (by simp))⟩
theorem hold_any (m : Mp) (k : Int) (w : World) (hm : m.ok) (h : 0 ≤ k ∧ k ≤ 5000) : Calls Tryz.prog 72 #[mapV m, .int .i64 k] w fun e w' => e = .returned (.int .i64 (holdN m k : Nat)) ∧ Below w.heap.size w w' := by
  have h1 := hm.t
  have h2 := hm.o
  rw [show ((holdN m k : Nat) : Int) = 2 + (m.o : Int) + 6 * (m.t : Int) + 8 * k + 1 by unfold holdN monN; omega]
  have HT := Lib.hid fun W => mon_any m k W hm h
  clear hm
  go_enter Tryz.func72, Tryz.ntmps72
  go_wp2_with (go_at_call 128; refine (HT.out _).mono ?_; rintro e w2 ⟨rfl, b2⟩)
  go_ret
  exact ⟨rfl, ((Below.refl _ w).alloc (Nat.le_refl _) _).trans (b2.mono (by simp))⟩
theorem head_any (m : Mp) (w : World) : Calls Tryz.prog 36 #[mapV m] w fun e w' => e = .returned (.int .i64 1) ∧ Below w.heap.size w w' := by
  go_enter Tryz.func36, Tryz.ntmps36
  go_wp2
  go_ret
  exact ⟨rfl, by go_grown⟩
theorem pmark_any (u : Int) (w : World) (h : -1 ≤ u ∧ u ≤ 100000) : Calls Tryz.prog 114 #[.int .i64 u] w fun e w' => e = .returned (.int .u64 (u + 1)) ∧ w = w' := by
  have e1 : IntKind.u64.wrap (u + 1) = u + 1 := by rw [IntKind.wrap_u64]; omega
  go_enter Tryz.func114, Tryz.ntmps114
  go_wp2
  go_ret
  exact ⟨rfl, rfl⟩
theorem pright_yes (m : Mp) (n : Int) (w : World) (hm : m.ok) : Calls Tryz.prog 113 #[.int .i64 n, mapV m] w fun e w' => e = .returned (.bool (decide ((sizeN m : Int) ≤ n))) ∧ Below w.heap.size w w' := by
  have HR := Lib.hid fun W => right_any (m.t : Int) (m.o : Int) (m.n : Int) W
  have e : rightS (m.t : Int) (m.o : Int) (m.n : Int) = true := by
    have h1 := hm.t
    have h2 := hm.o
    have h3 := hm.n
    simp [rightS]
    omega
  rw [e] at HR
  have HS := Lib.hid fun W => size_any m W hm
  clear hm e
  go_enter Tryz.func113, Tryz.ntmps113
  go_upto_region 1 with fail
  generalize hW : (w.alloc _) = W
  have bW : Below w.heap.size w W := by rw [← hW]; go_grown
  have m0 : Blk W w.heap.size 24 #[.int .i64 (m.t : Int), .int .i64 (m.o : Int), .int .i64 (m.n : Int)] := by rw [← hW]; exact Blk.new w _ _
  clear hW
  have c0 := m0.cell 0 _ rfl
  have c1 := m0.cell 1 _ rfl
  have c2 := m0.cell 2 _ rfl
  go_wp2_with (first
    | (go_at_call 52; refine (HR.out _).mono ?_; rintro e w2 ⟨rfl, b2⟩; have m2 := m0.below b2 m0.lt; clear c0 c1 c2; have c0 := m2.cell 0 _ rfl; have c1 := m2.cell 1 _ rfl; have c2 := m2.cell 2 _ rfl)
    | (go_at_call 14; refine (HS.out _).mono ?_; rintro e w3 ⟨rfl, b3⟩))
  go_ret
  exact ⟨rfl, bW.trans ((b2.trans (b3.mono b2.size)).mono bW.size)⟩
theorem pright_no (n t o k : Int) (w : World) (h : rightS t o k = false) : Calls Tryz.prog 113 #[.int .i64 n, .agg #[.int .i64 t, .int .i64 o, .int .i64 k]] w fun e w' => e = .returned (.bool false) ∧ Below w.heap.size w w' := by
  have HR := Lib.hid fun W => right_any t o k W
  rw [h] at HR
  clear h
  go_enter Tryz.func113, Tryz.ntmps113
  go_upto_region 1 with fail
  generalize hW : (w.alloc _) = W
  have bW : Below w.heap.size w W := by rw [← hW]; go_grown
  have m0 : Blk W w.heap.size 24 #[.int .i64 t, .int .i64 o, .int .i64 k] := by rw [← hW]; exact Blk.new w _ _
  clear hW
  have c0 := m0.cell 0 _ rfl
  have c1 := m0.cell 1 _ rfl
  have c2 := m0.cell 2 _ rfl
  go_wp2_with (first
    | (go_at_call 52; refine (HR.out _).mono ?_; rintro e w2 ⟨rfl, b2⟩))
  go_ret
  exact ⟨rfl, bW.trans (b2.mono bW.size)⟩
end Go.Proofs.YtldofbkjjmnooaaGreat
