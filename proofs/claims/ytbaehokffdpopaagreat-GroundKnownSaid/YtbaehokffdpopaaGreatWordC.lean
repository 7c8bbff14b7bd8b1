/- Contracts of package word: packing numbers by parts. -/
import Derived.Test.YtbaehokffdpopaaGreatWordB
import Derived.LoopTactic
namespace Go.Proofs.YtbaehokffdpopaaGreat
open Go.ChangeShapes Go.WideShapes Go.ChangeAt Go.RowKit
set_option linter.unusedVariables false
set_option linter.unusedSimpArgs false
open Wd
abbrev numsArr (n0 n1 n2 n3 n4 n5 : Int) : Array Value := #[.int .i64 n0, .int .i64 n1, .int .i64 n2, .int .i64 n3, .int .i64 n4, .int .i64 n5]
/-- what there is at k: a part, its number, in the two arrays -/
def AtK (A N : Array Value) (L : List (Prt × Int)) (k : Nat) : Prop := ∃ p n, L[k]? = some (p, n) ∧ Good p ∧
  (∀ W, (Instr.index 215 (.agg A) (.int .i64 k)).run Tryz.prog W = .ok (prtV p) W) ∧ N[k]? = some (.int .i64 n)
theorem at_all (p0 p1 p2 p3 p4 p5 : Prt) (n0 n1 n2 n3 n4 n5 : Int) (g0 : Good p0) (g1 : Good p1) (g2 : Good p2) (g3 : Good p3) (g4 : Good p4) (g5 : Good p5) :
    ∀ k, k < 6 → AtK (partsArr p0 p1 p2 p3 p4 p5) (numsArr n0 n1 n2 n3 n4 n5) [(p0, n0), (p1, n1), (p2, n2), (p3, n3), (p4, n4), (p5, n5)] k := by
  intro k hk
  match k, hk with
  | 0, _ => exact ⟨p0, n0, rfl, g0, fun W => by kernel_rfl, rfl⟩
  | 1, _ => exact ⟨p1, n1, rfl, g1, fun W => by kernel_rfl, rfl⟩
  | 2, _ => exact ⟨p2, n2, rfl, g2, fun W => by kernel_rfl, rfl⟩
  | 3, _ => exact ⟨p3, n3, rfl, g3, fun W => by kernel_rfl, rfl⟩
  | 4, _ => exact ⟨p4, n4, rfl, g4, fun W => by kernel_rfl, rfl⟩
  | 5, _ => exact ⟨p5, n5, rfl, g5, fun W => by kernel_rfl, rfl⟩
/-- the condition's function is there, and is entered -/
theorem call_fn (f : Nat) : ∀ (W : World) (args : Array Value), (callFunc (fnOf f) args).run Tryz.prog W = .ok (.enter (fnOf f) args) W := by
  intro W args
  match f with
  | 1 => show (callFunc 208 args).run Tryz.prog W = .ok (.enter 208 args) W; go_simp
  | 2 => show (callFunc 210 args).run Tryz.prog W = .ok (.enter 210 args) W; go_simp
  | 3 => show (callFunc 212 args).run Tryz.prog W = .ok (.enter 212 args) W; go_simp
  | 4 => show (callFunc 213 args).run Tryz.prog W = .ok (.enter 213 args) W; go_simp
  | 5 => show (callFunc 214 args).run Tryz.prog W = .ok (.enter 214 args) W; go_simp
  | 6 => show (callFunc 215 args).run Tryz.prog W = .ok (.enter 215 args) W; go_simp
  | 7 => show (callFunc 216 args).run Tryz.prog W = .ok (.enter 216 args) W; go_simp
  | 0 => show (callFunc 217 args).run Tryz.prog W = .ok (.enter 217 args) W; go_simp
  | n + 8 => show (callFunc 217 args).run Tryz.prog W = .ok (.enter 217 args) W; go_simp
theorem pack_more {L : List (Prt × Int)} {k : Nat} {p : Prt} {n : Int} {acc : Nat} (hl : L[k]? = some (p, n)) (hp : packGo (L.take k) 0 = some acc) : packGo (L.take (k + 1)) 0 = Wd.step p n acc := by
  rw [take_at hl, packGo_snoc, hp]; rfl
theorem pack_ends {L : List (Prt × Int)} {k : Nat} {p : Prt} {n : Int} {acc : Nat} (hl : L[k]? = some (p, n)) (hp : packGo (L.take k) 0 = some acc) (h : ¬ (p.lo ≤ n ∧ n ≤ p.hi)) : packGo L 0 = none := by
  have e := pack_more hl hp
  rw [step_no _ _ _ h] at e
  have := packGo_none _ (L.drop (k + 1)) 0 e
  rwa [List.take_append_drop] at this
/-- packing answers r -/
def PackPost (w : World) (r : Option Nat) (e : Ending) (w' : World) : Prop := e = .returned (.tuple #[.int .u64 ((r.getD 0 : Nat) : Int), .bool r.isSome]) ∧ Below w.heap.size w w'
set_option maxRecDepth 100000 in
set_option maxHeartbeats 4000000 in
theorem packed_any (p0 p1 p2 p3 p4 p5 : Prt) (n0 n1 n2 n3 n4 n5 : Int) (w : World) (g0 : Good p0) (g1 : Good p1) (g2 : Good p2) (g3 : Good p3) (g4 : Good p4) (g5 : Good p5) :
    Calls Tryz.prog 178 #[prtsV p0 p1 p2 p3 p4 p5, numsV n0 n1 n2 n3 n4 n5] w (PackPost w (packGo [(p0, n0), (p1, n1), (p2, n2), (p3, n3), (p4, n4), (p5, n5)] 0)) := by
  have HK := Lib.hid (at_all p0 p1 p2 p3 p4 p5 n0 n1 n2 n3 n4 n5 g0 g1 g2 g3 g4 g5)
  have hL : [(p0, n0), (p1, n1), (p2, n2), (p3, n3), (p4, n4), (p5, n5)].length = 6 := rfl
  generalize [(p0, n0), (p1, n1), (p2, n2), (p3, n3), (p4, n4), (p5, n5)] = L at *
  have HL := Lib.hid hL
  clear hL
  go_enter Tryz.func178, Tryz.ntmps178
  go_upto_region 2 with fail
  generalize hW : (w.alloc _).alloc _ = W
  have hP : Blk W w.heap.size 215 (partsArr p0 p1 p2 p3 p4 p5) := by rw [← hW]; exact (Blk.new w _ _).alloc _
  have hN : Blk W (w.heap.size + 1) 217 (numsArr n0 n1 n2 n3 n4 n5) := by
    rw [← hW]
    have := Blk.new (w.alloc (.cells (partsArr p0 p1 p2 p3 p4 p5) 215)) 217 (numsArr n0 n1 n2 n3 n4 n5)
    rw [World.size_alloc] at this
    exact this
  have B0 : Below w.heap.size w W := by rw [← hW]; go_grown
  have hs : (partsArr p0 p1 p2 p3 p4 p5).size = 18 := rfl
  clear hW
  generalize partsArr p0 p1 p2 p3 p4 p5 = A at *
  generalize numsArr n0 n1 n2 n3 n4 n5 = NA at *
  go_wp2_with (first
        | (refine wpList_load_row rfl 215 _ rfl w.heap.size rfl 215 _ (0, 0) _ hP Tryz.underlying215 rfl (by rw [hs]; exact parts_size) ?_))
  clear hP hs
  go_loopw [6, 10] (fun v i wr => ∃ k acc : Nat, k ≤ 6 ∧ i = .int .i64 k ∧ v = .int .u64 acc ∧ packGo (L.take k) 0 = some acc ∧ acc < 18446744073709551616 ∧ Below w.heap.size w wr ∧ Blk wr (w.heap.size + 1) 217 NA)
    (fun v i wr => 6 - (intOf i).toNat)
  case atStart => exact ⟨0, 0, by omega, rfl, rfl, rfl, by omega, B0, hN⟩
  case round =>
    obtain ⟨k, acc, hk, rfl, rfl, hp, ha, hB, hN⟩ := hrel
    by_cases hlt : k < 6
    · obtain ⟨⟨a, b, f, lo, hi⟩, n, hl, ⟨gf, g0, g1, g2, g3, g4⟩, hx, hn⟩ := HK.out k hlt
      dsimp only [prtV] at gf g0 g1 g2 g3 g4 hx
      have hcall := call_fn f
      generalize fnOf f = F at *
      have nk := hN.cell k _ hn
      have HG := Lib.hid gf
      have HLk := Lib.hid hl
      have HPk := Lib.hid hp
      clear gf hl hp
      by_cases hin : lo ≤ n ∧ n ≤ hi
      · have hfit : inB lo n hi = true := by simp [inB, hin.1, hin.2]
        have HS := Lib.hid (pack_more HLk.out HPk.out)
        obtain ⟨m, rfl⟩ := Int.eq_ofNat_of_zero_le (show 0 ≤ n by omega)
        have HI := Lib.hid hin
        clear hin
        go_upto_region 5 with fail
        generalize hV : wr.alloc _ = V
        have bV : Blk V wr.heap.size 214 #[.int .i64 a, .int .i64 b, .func (.func F) #[] #[]] := by rw [← hV]; exact Blk.new wr _ _
        have nV : Blk V (w.heap.size + 1) 217 NA := by rw [← hV]; exact hN.alloc _
        have BV : Below w.heap.size w V := by rw [← hV]; exact hB.alloc hB.size _
        clear hV
        have v0 := bV.cell 0 _ rfl
        have v1 := bV.cell 1 _ rfl
        have v2 := bV.cell 2 _ rfl
        have vk := nV.cell k _ hn
        go_quiet ((exact (HG.out _ _).mono fun e w' h => ⟨h.1, _, h.2.symm⟩))
        by_cases hb0 : b = 0
        · obtain rfl := hb0
          obtain rfl := g0 rfl
          have e2 : Hid (packGo (L.take (k + 1)) 0 = some acc) := Lib.hid (by rw [HS.out, step_yes _ _ _ HI.out, if_pos rfl])
          go_wp2_with (go_at_call 206; (with_reducible refine (may_no 0 0 _ (by omega) (by omega) (by omega) (by omega)).mono ?_); rintro e w1 ⟨rfl, hb⟩)
          go_roundw
          case rel => exact ⟨k + 1, acc, by omega, by go_num, rfl, e2.out, ha, (bdrewN BV nq).trans (hb.mono BV.size), (Blk.drewN nV nq).below hb (show _ < V.heap.size from nV.lt)⟩
          case measure => simp [intOf]; omega
        · have hb1 : 1 ≤ b := by omega
          have hv : m < 2^b := by
            have h3 := g3 hb0
            have h4 : (2 : Int)^b = ((2^b : Nat) : Int) := by simp
            have := HI.out
            omega
          have hp2 : 2^b ≤ 2^24 := Nat.pow_le_pow_right (by decide) g4
          have hwr : IntKind.u64.wrap (m : Int) = m := by rw [IntKind.wrap_u64]; omega
          have hlt2 := BitNat.put_lt a b acc m g1 ha hv
          have e2 : Hid (packGo (L.take (k + 1)) 0 = some (BitNat.put a b acc m)) := Lib.hid (by rw [HS.out, step_yes _ _ _ HI.out, if_neg hb0, Int.toNat_natCast])
          have HV := Lib.hid hv
          have HL2 := Lib.hid hlt2
          clear hv hp2 g3 hlt2
          go_wp2_with (go_at_call 206; (with_reducible refine (may_yes a b _ hb1 g1).mono ?_); rintro e w1 ⟨rfl, hb⟩)
          have b1 := (Blk.drewN bV nq).below hb (show _ < V.heap.size from bV.lt)
          have n1 := (Blk.drewN nV nq).below hb (show _ < V.heap.size from nV.lt)
          have B1 := (bdrewN BV nq).trans (hb.mono BV.size)
          clear v0 v1 v2 vk hb
          have v0 := b1.cell 0 _ rfl
          have v1 := b1.cell 1 _ rfl
          have vk := n1.cell k _ hn
          go_region_held3 (fun w' => w'.cell? ⟨wr.heap.size, 0, none⟩ = some (.int .i64 a) ∧ w'.cell? ⟨wr.heap.size, 1, none⟩ = some (.int .i64 b) ∧ w'.cell? ⟨w.heap.size + 1, k, none⟩ = some (.int .i64 m)) (first | (with_reducible exact ⟨v0, v1, vk⟩) | go_keep) (first
            | (go_at_call 207; (with_reducible refine (put_yes a b acc m _ hb1 g1 ha HV.out).mono ?_); rintro e w2 ⟨rfl, hb⟩; replace b1 := b1.drew.below hb b1.lt; replace n1 := n1.drew.below hb n1.lt; replace B1 := B1.drew.trans (hb.mono B1.size); clear v0 v1 vk hb; have v0 := b1.cell 0 _ rfl; have v1 := b1.cell 1 _ rfl; have vk := n1.cell k _ hn))
          go_wp2
          go_roundw
          case rel => exact ⟨k + 1, _, by omega, by go_num, rfl, e2.out, HL2.out, B1, n1⟩
          case measure => simp [intOf]; omega
      · have hfit : inB lo n hi = false := by
          rw [Bool.eq_false_iff]; intro h; simp [inB] at h; omega
        have HE := Lib.hid (pack_ends HLk.out HPk.out hin)
        go_upto_region 5 with fail
        generalize hV : wr.alloc _ = V
        have bV : Blk V wr.heap.size 214 #[.int .i64 a, .int .i64 b, .func (.func F) #[] #[]] := by rw [← hV]; exact Blk.new wr _ _
        have nV : Blk V (w.heap.size + 1) 217 NA := by rw [← hV]; exact hN.alloc _
        have BV : Below w.heap.size w V := by rw [← hV]; exact hB.alloc hB.size _
        clear hV
        have v0 := bV.cell 0 _ rfl
        have v1 := bV.cell 1 _ rfl
        have v2 := bV.cell 2 _ rfl
        have vk := nV.cell k _ hn
        go_quiet ((exact (HG.out _ _).mono fun e w' h => ⟨h.1, _, h.2.symm⟩))
        go_wp2
        go_ret2
        exact ⟨by rw [HE.out]; rfl, bdrewN BV nq⟩
    · obtain rfl : k = 6 := by omega
      have HP : Hid (packGo L 0 = some acc) := Lib.hid (by rw [← hp, List.take_of_length_le (by rw [HL.out]; omega)])
      clear hp
      go_wp2
      go_ret2
      exact ⟨by rw [HP.out]; rfl, hB⟩
end Go.Proofs.YtbaehokffdpopaaGreat
