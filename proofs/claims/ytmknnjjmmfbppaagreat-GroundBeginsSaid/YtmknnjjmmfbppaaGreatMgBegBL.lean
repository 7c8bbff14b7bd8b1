/- The pool's monitors come, in order (pure). -/
import Derived.Test.YtmknnjjmmfbppaaGreatMgBegBK
import Derived.Test.YtmknnjjmmfbppaaGreatMgBegAB
namespace Go.Proofs.YtmknnjjmmfbppaaGreat
open Go.ChangeShapes Go.WideShapes Go.ChangeAt Go.RowKit
set_option linter.unusedVariables false
set_option maxRecDepth 100000
set_option linter.unusedSimpArgs false
theorem rdL_eq {mm : List Int} {i : Nat} {c : Int} (h : mm[i]? = some c) : rdL mm i = c := by unfold rdL; rw [h]; rfl
theorem PIs.came {m : Mp} {mm L : List Int} (h : PIs m mm L) (hr : Rng mm) : Came m mm L := by
  refine ⟨h.len, hr, fun k x hx => ?_, h.nodup, h.low, ?_⟩
  · have hxr := h.low x (List.mem_of_getElem? hx)
    obtain ⟨hlt, e⟩ := List.getElem?_eq_some_iff.1 hx
    have e0 : headOf (L.drop k) = x + 1 := by rw [List.drop_eq_getElem_cons hlt, e]; rfl
    unfold curP
    cases k with
    | zero =>
      rw [List.take_zero, curV_nil, rdL_eq h.head]
      rw [List.drop_zero] at e0
      rw [e0, pmS_of (by omega)]
      omega
    | succ k =>
      have hy : L[k]? = some L[k] := List.getElem?_eq_getElem (by omega)
      rw [take_snoc_w hy, curV_snoc, rdL_eq (h.next k _ hy), e0, pmS_of (by omega)]
      omega
  · left
    unfold curP
    rcases List.eq_nil_or_concat L with e | ⟨r, x, e⟩
    · rw [e, curV_nil, rdL_eq h.head, e]
      rw [pmS_of (by simp [headOf])]
      simp [headOf]
    · rw [List.concat_eq_append] at e
      have hx : L[r.length]? = some x := by rw [e]; simp
      have := h.next _ x hx
      rw [List.drop_eq_nil_of_le (by rw [e]; simp)] at this
      rw [e, curV_snoc, rdL_eq this, pmS_of (by simp [headOf])]
      simp [headOf]
end Go.Proofs.YtmknnjjmmfbppaaGreat
/- Contracts of package atom's back, in one goroutine: its methods. The names of XCellsA again, in a namespace of their own (Re): so the texts behind it can be had again by tools/inst.py. -/
namespace Go.Proofs.YtmknnjjmmfbppaaGreat.Re
open Go.ChangeShapes Go.WideShapes Go.ChangeAt Go.RowKit
set_option linter.unusedVariables false
set_option maxRecDepth 100000
set_option linter.unusedSimpArgs false
theorem idx_num (n S i : Nat) (h : i < n) : ∀ W, (Instr.indexAt 186 (rowV S n) (.int .i64 (i : Int))).run Tryz.prog W = .ok (.pointer (some ⟨S, i, none⟩)) W := by
  intro W
  go_simp
theorem pLen_any (S n : Nat) (w : World) : Calls Tryz.prog 324 #[rowV S n] w fun e w' => e = .returned (.int .i64 n) ∧ w = w' := by
  go_enter Tryz.func324, Tryz.ntmps324
  go_wp2
  go_ret
  exact ⟨rfl, rfl⟩
theorem uLoad_any (a : Addr) (hs : a.spot = none) (x : Int) (w : World) (hc : w.cell? a = some (.int .u64 x)) :
    Calls Tryz.prog 328 #[.pointer (some a)] w fun e w' => e = .returned (.int .u64 x) ∧ w = w' := by
  obtain ⟨b, o, sp⟩ := a
  obtain rfl : sp = none := hs
  have hx : (callFunc 331 #[.pointer (some ⟨b, o, none⟩)]).run Tryz.prog w = .ok (.value (.int .u64 x)) w :=
    run_call_load Tryz.func331 (by kernel_rfl) (by kernel_rfl) (by kernel_rfl) .u64 (by kernel_rfl) hc
  go_enter Tryz.func328, Tryz.ntmps328
  go_wp2
  go_ret
  exact ⟨rfl, rfl⟩
theorem pLoad_any (S : Nat) (l : List Int) (i : Nat) (v : Int) (w : World) (hb : Blk w S 304 (words l)) (hi : l[i]? = some v) (hm : l.length ≤ 9223372036854775807) :
    Calls Tryz.prog 325 #[rowV S l.length, .int .i64 i] w fun e w' => e = .returned (.int .u64 v) ∧ w = w' := by
  have hlt : i < l.length := by rw [List.getElem?_eq_some_iff] at hi; exact hi.1
  have hc := hb.cell i _ (words_at hi)
  have HU := Lib.hid (uLoad_any ⟨S, i, none⟩ rfl v w hc)
  have HI := Lib.hid hi
  clear hi
  generalize l.length = n at *
  have hx := idx_num n S i hlt
  go_enter Tryz.func325, Tryz.ntmps325
  go_wp2_with (go_at_call 328; (with_reducible refine HU.out.mono ?_); rintro e w1 ⟨rfl, rfl⟩)
  go_ret
  exact ⟨rfl, rfl⟩
theorem uStore_any (a : Addr) (hs : a.spot = none) (x u : Int) (w : World) (hc : w.cell? a = some (.int .u64 x)) (hz : w.frozen? a = false) :
    Calls Tryz.prog 329 #[.pointer (some a), .int .u64 u] w fun e w' => e = .returned (.tuple #[]) ∧ w.setCell a (.int .u64 u) = w' := by
  obtain ⟨b, o, sp⟩ := a
  obtain rfl : sp = none := hs
  have hx : (callFunc 332 #[.pointer (some ⟨b, o, none⟩), .int .u64 u]).run Tryz.prog w = .ok (.value (.tuple #[])) (w.setCell ⟨b, o, none⟩ (.int .u64 u)) :=
    run_call_store Tryz.func332 (by kernel_rfl) (by kernel_rfl) (by kernel_rfl) (by kernel_rfl) hc hz
  go_enter Tryz.func329, Tryz.ntmps329
  go_wp2
  go_end0
  exact ⟨rfl, rfl⟩
theorem pStore_any (S : Nat) (l : List Int) (i : Nat) (v u : Int) (w : World) (hb : Blk w S 304 (words l)) (hi : l[i]? = some v) (hm : l.length ≤ 9223372036854775807) :
    Calls Tryz.prog 326 #[rowV S l.length, .int .i64 i, .int .u64 u] w fun e w' => e = .returned (.tuple #[]) ∧ w.setCell ⟨S, i, none⟩ (.int .u64 u) = w' := by
  have hlt : i < l.length := by rw [List.getElem?_eq_some_iff] at hi; exact hi.1
  have hc := hb.cell i _ (words_at hi)
  have hf := hb.free i
  have HU := Lib.hid (uStore_any ⟨S, i, none⟩ rfl v u w hc hf)
  have HI := Lib.hid hi
  clear hi
  generalize l.length = n at *
  have hx := idx_num n S i hlt
  go_enter Tryz.func326, Tryz.ntmps326
  go_wp2_with (go_at_call 329; (with_reducible refine HU.out.mono ?_); rintro e w1 ⟨rfl, rfl⟩)
  go_end0
  exact ⟨rfl, rfl⟩
theorem uCas_yes (a : Addr) (hs : a.spot = none) (x u : Int) (w : World) (hc : w.cell? a = some (.int .u64 x)) (hz : w.frozen? a = false) :
    Calls Tryz.prog 330 #[.pointer (some a), .int .u64 x, .int .u64 u] w fun e w' => e = .returned (.bool true) ∧ w.setCell a (.int .u64 u) = w' := by
  obtain ⟨b, o, sp⟩ := a
  obtain rfl : sp = none := hs
  have hx : (callFunc 333 #[.pointer (some ⟨b, o, none⟩), .int .u64 x, .int .u64 u]).run Tryz.prog w = .ok (.value (.bool true)) (w.setCell ⟨b, o, none⟩ (.int .u64 u)) :=
    run_call_cas_hit Tryz.func333 (by kernel_rfl) (by kernel_rfl) (by kernel_rfl) .u64 (by kernel_rfl) hc hz
  go_enter Tryz.func330, Tryz.ntmps330
  go_wp2
  go_ret
  exact ⟨rfl, rfl⟩
theorem uCas_no (a : Addr) (hs : a.spot = none) (x o u : Int) (w : World) (hc : w.cell? a = some (.int .u64 x)) (hz : w.frozen? a = false) (hne : (x != o) = true) :
    Calls Tryz.prog 330 #[.pointer (some a), .int .u64 o, .int .u64 u] w fun e w' => e = .returned (.bool false) ∧ w = w' := by
  obtain ⟨b, f, sp⟩ := a
  obtain rfl : sp = none := hs
  have hx : (callFunc 333 #[.pointer (some ⟨b, f, none⟩), .int .u64 o, .int .u64 u]).run Tryz.prog w = .ok (.value (.bool false)) w :=
    run_call_cas_miss Tryz.func333 (by kernel_rfl) (by kernel_rfl) (by kernel_rfl) .u64 (by kernel_rfl) hc hz (by simpa using hne)
  go_enter Tryz.func330, Tryz.ntmps330
  go_wp2
  go_ret
  exact ⟨rfl, rfl⟩
theorem pSwap_yes (S : Nat) (l : List Int) (i : Nat) (v u : Int) (w : World) (hb : Blk w S 304 (words l)) (hi : l[i]? = some v) (hm : l.length ≤ 9223372036854775807) :
    Calls Tryz.prog 327 #[rowV S l.length, .int .i64 i, .int .u64 v, .int .u64 u] w fun e w' => e = .returned (.bool true) ∧ w.setCell ⟨S, i, none⟩ (.int .u64 u) = w' := by
  have hlt : i < l.length := by rw [List.getElem?_eq_some_iff] at hi; exact hi.1
  have hc := hb.cell i _ (words_at hi)
  have hf := hb.free i
  have HU := Lib.hid (uCas_yes ⟨S, i, none⟩ rfl v u w hc hf)
  have HI := Lib.hid hi
  clear hi
  generalize l.length = n at *
  have hx := idx_num n S i hlt
  go_enter Tryz.func327, Tryz.ntmps327
  go_wp2_with (go_at_call 330; (with_reducible refine HU.out.mono ?_); rintro e w1 ⟨rfl, rfl⟩)
  go_ret
  exact ⟨rfl, rfl⟩
theorem pSwap_no (S : Nat) (l : List Int) (i : Nat) (v old u : Int) (w : World) (hb : Blk w S 304 (words l)) (hi : l[i]? = some v) (hm : l.length ≤ 9223372036854775807) (hne : (v != old) = true) :
    Calls Tryz.prog 327 #[rowV S l.length, .int .i64 i, .int .u64 old, .int .u64 u] w fun e w' => e = .returned (.bool false) ∧ w = w' := by
  have hlt : i < l.length := by rw [List.getElem?_eq_some_iff] at hi; exact hi.1
  have hc := hb.cell i _ (words_at hi)
  have hf := hb.free i
  have HU := Lib.hid (uCas_no ⟨S, i, none⟩ rfl v old u w hc hf hne)
  have HI := Lib.hid hi
  clear hi hne
  generalize l.length = n at *
  have hx := idx_num n S i hlt
  go_enter Tryz.func327, Tryz.ntmps327
  go_wp2_with (go_at_call 330; (with_reducible refine HU.out.mono ?_); rintro e w1 ⟨rfl, rfl⟩)
  go_ret
  exact ⟨rfl, rfl⟩
end Go.Proofs.YtmknnjjmmfbppaaGreat.Re
