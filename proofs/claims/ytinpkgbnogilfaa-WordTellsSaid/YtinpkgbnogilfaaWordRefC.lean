/- The document's answer for layer 2: words made of a word; two answers are alike. -/
import Derived.Test.YtinpkgbnogilfaaWordRefB
namespace Go.Proofs.Ytinpkgbnogilfaa
open Go.ChangeShapes Go.WideShapes Go.ChangeAt Go.RowKit
set_option linter.unusedVariables false
set_option linter.unusedSimpArgs false
open Wd
set_option maxRecDepth 100000 in
set_option maxHeartbeats 4000000 in
theorem refWith_any (v : Nat) (x : Hd) (w : World) (hv : v < 18446744073709551616) : Calls Try.prog 15 #[.int .u64 v, hdV x] w (PackPost w (withP v x)) := by
  have HO := Lib.hid (fun W => refOpen_any' v W hv)
  have HR : Hid (withP v x = match openP v with
    | none => none
    | some b => packP ⟨x.t, x.o, x.c, x.m, x.g, b.h⟩) := Lib.hid rfl
  generalize withP v x = q at *
  generalize openP v = r at *
  cases r with
  | none =>
    obtain rfl : q = none := HR.out
    clear HR
    have hhsz : Hid ((Try.prog.info? 23).map (·.size) = some zero6.size) := Lib.hid hd_size
    have hhone : Hid (zero6.all (·.oneCell') = true) := Lib.hid (by simp [Value.oneCell'])
    go_enter Try.func15, Try.ntmps15
    go_upto_region 1 with fail
    generalize hW : w.alloc _ = W
    have B0 : Below w.heap.size w W := by rw [← hW]; go_grown
    clear hW
    go_wp2_with (first
      | (go_at_call 13; (with_reducible refine (HO.out _).mono ?_); rintro e w1 ⟨rfl, hb⟩; have B1 := B0.trans (hb.mono B0.size); clear hb)
      | (refine wpList_store_row rfl 23 _ _ rfl w1.heap.size zero6 rfl rfl 23 zero6 (Blk.new w1 _ _) hhsz.out rfl hhone.out ?_; (try simp only [Act.put, List.setIfInBounds_toArray, List.set_cons_zero, List.set_cons_succ])))
    go_ret2
    exact ⟨rfl, below_setRow (B1.alloc B1.size _) B1.size _⟩
  | some b =>
    obtain rfl : q = packP ⟨x.t, x.o, x.c, x.m, x.g, b.h⟩ := HR.out
    clear HR
    have hhsz : Hid ((Try.prog.info? 23).map (·.size) = some (hdArr b).size) := Lib.hid hd_size
    have hhone := Lib.hid (hd_one b)
    have hhsz2 : Hid ((Try.prog.info? 23).map (·.size) = some (hdArr ⟨x.t, x.o, x.c, x.m, x.g, b.h⟩).size) := Lib.hid hd_size
    have HK := Lib.hid (fun W => refPack_any ⟨x.t, x.o, x.c, x.m, x.g, b.h⟩ W)
    generalize packP ⟨x.t, x.o, x.c, x.m, x.g, b.h⟩ = q at *
    go_enter Try.func15, Try.ntmps15
    go_upto_region 1 with fail
    generalize hW : w.alloc _ = W
    have T0 : HBox w w.heap.size x W := by rw [← hW]; exact ⟨by go_grown, Blk.new w _ _⟩
    clear hW
    go_upto_region 4 with (first
      | (go_at_call 13; (with_reducible refine (HO.out _).mono ?_); rintro e w1 ⟨rfl, hb⟩; have T1 := T0.below hb; clear hb)
      | (refine wpList_store_row rfl 23 _ _ rfl w1.heap.size (hdArr b) rfl rfl 23 zero6 (Blk.new w1 _ _) hhsz.out rfl hhone.out ?_; (try simp only [Act.put, List.setIfInBounds_toArray, List.set_cons_zero, List.set_cons_succ])))
    rw [World.setRow_alloc_new]
    have T2 := T1.below ((Below.refl _ w1).alloc (Nat.le_refl _) (.cells (hdArr b) 23))
    have N2 := Blk.new w1 23 (hdArr b)
    generalize hW : w1.alloc _ = w2 at *
    clear hW
    have a5 := T2.blk.cell 5 _ rfl
    have f5 := T2.blk.free
    have b5 := N2.cell 5 _ rfl
    go_upto_region 5 with fail
    generalize hW : w2.setCell _ _ = w3
    have R3 : Blk w3 w.heap.size 23 (hdArr ⟨x.t, x.o, x.c, x.m, x.g, b.h⟩) := by rw [← hW]; exact T2.blk.set 5 _
    have B3 : Below w.heap.size w w3 := by rw [← hW]; exact T2.base.setCell (p := ⟨w.heap.size, 5, none⟩) (Nat.le_refl _) _
    clear hW
    go_wp2_with (first
      | (refine wpList_load_row rfl 23 _ rfl w.heap.size rfl 23 (hdArr ⟨x.t, x.o, x.c, x.m, x.g, b.h⟩) (0, 0) _ R3 Try.underlying23 rfl hhsz2.out ?_; (try simp only [Act.put, List.setIfInBounds_toArray, List.set_cons_zero, List.set_cons_succ]))
      | (go_at_call 10; (with_reducible refine (HK.out _).mono ?_); rintro e w4 ⟨rfl, hb⟩))
    go_ret2
    exact ⟨rfl, B3.trans (hb.mono B3.size)⟩
theorem alike_same (a : Int) (s : Bool) (w : World) : Calls Try.prog 11 #[.int .u64 a, .bool s, .int .u64 a, .bool s] w fun e w' => e = .returned (.bool true) ∧ w = w' := by
  go_enter Try.func11, Try.ntmps11
  go_wp2
  go_ret
  exact ⟨rfl, rfl⟩
end Go.Proofs.Ytinpkgbnogilfaa
