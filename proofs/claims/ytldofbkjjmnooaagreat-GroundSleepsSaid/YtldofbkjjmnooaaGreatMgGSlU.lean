/- Contracts of package word: packing numbers by parts. -/
import Derived.Test.YtldofbkjjmnooaaGreatMgGSlT
import Derived.LoopTactic
namespace Go.Proofs.YtldofbkjjmnooaaGreat
open Go.ChangeShapes Go.WideShapes Go.ChangeAt Go.RowKit
set_option linter.unusedVariables false
set_option linter.unusedSimpArgs false
open Wd
abbrev numsArr (n0 n1 n2 n3 n4 n5 : Int) : Array Value := #[.int .i64 n0, .int .i64 n1, .int .i64 n2, .int .i64 n3, .int .i64 n4, .int .i64 n5]
/-- what there is at k: a part, its number, in the two arrays -/
def AtK (A N : Array Value) (L : List (Prt × Int)) (k : Nat) : Prop := ∃ p n, L[k]? = some (p, n) ∧ Good p ∧
  (∀ W, (Instr.index 272 (.agg A) (.int .i64 k)).run Tryz.prog W = .ok (prtV p) W) ∧ N[k]? = some (.int .i64 n)
theorem at_all (p0 p1 p2 p3 p4 p5 : Prt) (n0 n1 n2 n3 n4 n5 : Int) (g0 : Good p0) (g1 : Good p1) (g2 : Good p2) (g3 : Good p3) (g4 : Good p4) (g5 : Good p5) :
    ∀ k, k < 6 → AtK (partsArr p0 p1 p2 p3 p4 p5) (numsArr n0 n1 n2 n3 n4 n5) [(p0, n0), (p1, n1), (p2, n2), (p3, n3), (p4, n4), (p5, n5)] k := by
  intro k hk
  match k, hk with
  | 0, _ => exact ⟨p0, n0, rfl, g0, fun W => by kernel_rfl, rfl⟩
  | 1, _ => exact ⟨p1, n1, rfl, g1, fun W => by kernel_rfl, rfl⟩
  | 2, _ => exact ⟨p2, n2, rfl, g2, fun W => by kernel_rfl, rfl⟩
  | 3, _ => exact ⟨p3, n3, rfl, g3, fun W => by kernel_rfl, rfl⟩
  | 4, _ => exact ⟨p4, n4, rfl, g4, fun W => by kernel_rfl, rfl⟩
  | 5, _ => exact ⟨p5, n5, rfl, g5, fun W => by kernel_rfl, rfl⟩
/-- the condition's function is there, and is entered -/
theorem call_fn (f : Nat) : ∀ (W : World) (args : Array Value), (callFunc (fnOf f) args).run Tryz.prog W = .ok (.enter (fnOf f) args) W := by
  intro W args
  match f with
  | 1 => show (callFunc 295 args).run Tryz.prog W = .ok (.enter 295 args) W; go_simp
  | 2 => show (callFunc 297 args).run Tryz.prog W = .ok (.enter 297 args) W; go_simp
  | 3 => show (callFunc 299 args).run Tryz.prog W = .ok (.enter 299 args) W; go_simp
  | 4 => show (callFunc 300 args).run Tryz.prog W = .ok (.enter 300 args) W; go_simp
  | 5 => show (callFunc 301 args).run Tryz.prog W = .ok (.enter 301 args) W; go_simp
  | 6 => show (callFunc 302 args).run Tryz.prog W = .ok (.enter 302 args) W; go_simp
  | 7 => show (callFunc 303 args).run Tryz.prog W = .ok (.enter 303 args) W; go_simp
  | 0 => show (callFunc 304 args).run Tryz.prog W = .ok (.enter 304 args) W; go_simp
  | n + 8 => show (callFunc 304 args).run Tryz.prog W = .ok (.enter 304 args) W; go_simp
theorem pack_more {L : List (Prt × Int)} {k : Nat} {p : Prt} {n : Int} {acc : Nat} (hl : L[k]? = some (p, n)) (hp : packGo (L.take k) 0 = some acc) : packGo (L.take (k + 1)) 0 = Wd.step p n acc := by
  rw [take_at hl, packGo_snoc, hp]; rfl
theorem pack_ends {L : List (Prt × Int)} {k : Nat} {p : Prt} {n : Int} {acc : Nat} (hl : L[k]? = some (p, n)) (hp : packGo (L.take k) 0 = some acc) (h : ¬ (p.lo ≤ n ∧ n ≤ p.hi)) : packGo L 0 = none := by
  have e := pack_more hl hp
  rw [step_no _ _ _ h] at e
  have := packGo_none _ (L.drop (k + 1)) 0 e
  rwa [List.take_append_drop] at this
/-- packing answers r -/
def PackPost (w : World) (r : Option Nat) (e : Ending) (w' : World) : Prop := e = .returned (.tuple #[.int .u64 ((r.getD 0 : Nat) : Int), .bool r.isSome]) ∧ Below w.heap.size w w'
set_option maxRecDepth 100000 in
set_option maxHeartbeats 4000000 in
theorem packed_any (p0 p1 p2 p3 p4 p5 : Prt) (n0 n1 n2 n3 n4 n5 : Int) (w : World) (g0 : Good p0) (g1 : Good p1) (g2 : Good p2) (g3 : Good p3) (g4 : Good p4) (g5 : Good p5) :
    Calls Tryz.prog 228 #[prtsV p0 p1 p2 p3 p4 p5, numsV n0 n1 n2 n3 n4 n5] w (PackPost w (packGo [(p0, n0), (p1, n1), (p2, n2), (p3, n3), (p4, n4), (p5, n5)] 0)) := by
  have HK := Lib.hid (at_all p0 p1 p2 p3 p4 p5 n0 n1 n2 n3 n4 n5 g0 g1 g2 g3 g4 g5)
  have hL : [(p0, n0), (p1, n1), (p2, n2), (p3, n3), (p4, n4), (p5, n5)].length = 6 := rfl
  generalize [(p0, n0), (p1, n1), (p2, n2), (p3, n3), (p4, n4), (p5, n5)] = L at *
  have HL := Lib.hid hL
  clear hL
  go_enter Tryz.func228, Tryz.ntmps228
  go_upto_region 2 with fail
  generalize hW : (w.alloc _).alloc _ = W
  have hP : Blk W w.heap.size 272 (partsArr p0 p1 p2 p3 p4 p5) := by rw [← hW]; exact (Blk.new w _ _).alloc _
  have hN : Blk W (w.heap.size + 1) 274 (numsArr n0 n1 n2 n3 n4 n5) := by
    rw [← hW]
    have := Blk.new (w.alloc (.cells (partsArr p0 p1 p2 p3 p4 p5) 272)) 274 (numsArr n0 n1 n2 n3 n4 n5)
    rw [World.size_alloc] at this
    exact this
  have B0 : Below w.heap.size w W := by rw [← hW]; go_grown
  have hs : (partsArr p0 p1 p2 p3 p4 p5).size = 18 := rfl
  clear hW
  generalize partsArr p0 p1 p2 p3 p4 p5 = A at *
  generalize numsArr n0 n1 n2 n3 n4 n5 = NA at *
  go_wp2_with (first
        | (refine wpList_load_row rfl 272 _ rfl w.heap.size rfl 272 _ (0, 0) _ hP Tryz.underlying272 rfl (by rw [hs]; exact parts_size) ?_))
  clear hP hs
  go_loopw [6, 10] (fun v i wr => ∃ k acc : Nat, k ≤ 6 ∧ i = .int .i64 k ∧ v = .int .u64 acc ∧ packGo (L.take k) 0 = some acc ∧ acc < 18446744073709551616 ∧ Below w.heap.size w wr ∧ Blk wr (w.heap.size + 1) 274 NA)
    (fun v i wr => 6 - (intOf i).toNat)
  case atStart => exact ⟨0, 0, by omega, rfl, rfl, rfl, by omega, B0, hN⟩
  case round =>
    obtain ⟨k, acc, hk, rfl, rfl, hp, ha, hB, hN⟩ := hrel
    by_cases hlt : k < 6
    · obtain ⟨⟨a, b, f, lo, hi⟩, n, hl, ⟨gf, g0, g1, g2, g3, g4⟩, hx, hn⟩ := HK.out k hlt
      dsimp only [prtV] at gf g0 g1 g2 g3 g4 hx
      have hcall := call_fn f
      generalize fnOf f = F at *
      have nk := hN.cell k _ hn
      have HG := Lib.hid gf
      have HLk := Lib.hid hl
      have HPk := Lib.hid hp
      clear gf hl hp
      by_cases hin : lo ≤ n ∧ n ≤ hi
      · have hfit : inB lo n hi = true := by simp [inB, hin.1, hin.2]
        have HS := Lib.hid (pack_more HLk.out HPk.out)
        obtain ⟨m, rfl⟩ := Int.eq_ofNat_of_zero_le (show 0 ≤ n by omega)
        have HI := Lib.hid hin
        clear hin
        go_upto_region 5 with fail
        generalize hV : wr.alloc _ = V
        have bV : Blk V wr.heap.size 271 #[.int .i64 a, .int .i64 b, .func (.func F) #[] #[]] := by rw [← hV]; exact Blk.new wr _ _
        have nV : Blk V (w.heap.size + 1) 274 NA := by rw [← hV]; exact hN.alloc _
        have BV : Below w.heap.size w V := by rw [← hV]; exact hB.alloc hB.size _
        clear hV
        have v0 := bV.cell 0 _ rfl
        have v1 := bV.cell 1 _ rfl
        have v2 := bV.cell 2 _ rfl
        have vk := nV.cell k _ hn
        go_quiet ((exact (HG.out _ _).mono fun e w' h => ⟨h.1, _, h.2.symm⟩))
        by_cases hb0 : b = 0
        · obtain rfl := hb0
          obtain rfl := g0 rfl
          have e2 : Hid (packGo (L.take (k + 1)) 0 = some acc) := Lib.hid (by rw [HS.out, step_yes _ _ _ HI.out, if_pos rfl])
          go_wp2_with (go_at_call 293; (with_reducible refine (may_no 0 0 _ (by omega) (by omega) (by omega) (by omega)).mono ?_); rintro e w1 ⟨rfl, hb⟩)
          go_roundw
          case rel => exact ⟨k + 1, acc, by omega, by go_num, rfl, e2.out, ha, (bdrewN BV nq).trans (hb.mono BV.size), (Blk.drewN nV nq).below hb (show _ < V.heap.size from nV.lt)⟩
          case measure => simp [intOf]; omega
        · have hb1 : 1 ≤ b := by omega
          have hv : m < 2^b := by
            have h3 := g3 hb0
            have h4 : (2 : Int)^b = ((2^b : Nat) : Int) := by simp
            have := HI.out
            omega
          have hp2 : 2^b ≤ 2^24 := Nat.pow_le_pow_right (by decide) g4
          have hwr : IntKind.u64.wrap (m : Int) = m := by rw [IntKind.wrap_u64]; omega
          have hlt2 := BitNat.put_lt a b acc m g1 ha hv
          have e2 : Hid (packGo (L.take (k + 1)) 0 = some (BitNat.put a b acc m)) := Lib.hid (by rw [HS.out, step_yes _ _ _ HI.out, if_neg hb0, Int.toNat_natCast])
          have HV := Lib.hid hv
          have HL2 := Lib.hid hlt2
          clear hv hp2 g3 hlt2
          go_wp2_with (go_at_call 293; (with_reducible refine (may_yes a b _ hb1 g1).mono ?_); rintro e w1 ⟨rfl, hb⟩)
          have b1 := (Blk.drewN bV nq).below hb (show _ < V.heap.size from bV.lt)
          have n1 := (Blk.drewN nV nq).below hb (show _ < V.heap.size from nV.lt)
          have B1 := (bdrewN BV nq).trans (hb.mono BV.size)
          clear v0 v1 v2 vk hb
          have v0 := b1.cell 0 _ rfl
          have v1 := b1.cell 1 _ rfl
          have vk := n1.cell k _ hn
          go_region_held3 (fun w' => w'.cell? ⟨wr.heap.size, 0, none⟩ = some (.int .i64 a) ∧ w'.cell? ⟨wr.heap.size, 1, none⟩ = some (.int .i64 b) ∧ w'.cell? ⟨w.heap.size + 1, k, none⟩ = some (.int .i64 m)) (first | (with_reducible exact ⟨v0, v1, vk⟩) | go_keep) (first
            | (go_at_call 294; (with_reducible refine (put_yes a b acc m _ hb1 g1 ha HV.out).mono ?_); rintro e w2 ⟨rfl, hb⟩; replace b1 := b1.drew.below hb b1.lt; replace n1 := n1.drew.below hb n1.lt; replace B1 := B1.drew.trans (hb.mono B1.size); clear v0 v1 vk hb; have v0 := b1.cell 0 _ rfl; have v1 := b1.cell 1 _ rfl; have vk := n1.cell k _ hn))
          go_wp2
          go_roundw
          case rel => exact ⟨k + 1, _, by omega, by go_num, rfl, e2.out, HL2.out, B1, n1⟩
          case measure => simp [intOf]; omega
      · have hfit : inB lo n hi = false := by
          rw [Bool.eq_false_iff]; intro h; simp [inB] at h; omega
        have HE := Lib.hid (pack_ends HLk.out HPk.out hin)
        go_upto_region 5 with fail
        generalize hV : wr.alloc _ = V
        have bV : Blk V wr.heap.size 271 #[.int .i64 a, .int .i64 b, .func (.func F) #[] #[]] := by rw [← hV]; exact Blk.new wr _ _
        have nV : Blk V (w.heap.size + 1) 274 NA := by rw [← hV]; exact hN.alloc _
        have BV : Below w.heap.size w V := by rw [← hV]; exact hB.alloc hB.size _
        clear hV
        have v0 := bV.cell 0 _ rfl
        have v1 := bV.cell 1 _ rfl
        have v2 := bV.cell 2 _ rfl
        have vk := nV.cell k _ hn
        go_quiet ((exact (HG.out _ _).mono fun e w' h => ⟨h.1, _, h.2.symm⟩))
        go_wp2
        go_ret2
        exact ⟨by rw [HE.out]; rfl, bdrewN BV nq⟩
    · obtain rfl : k = 6 := by omega
      have HP : Hid (packGo L 0 = some acc) := Lib.hid (by rw [← hp, List.take_of_length_le (by rw [HL.out]; omega)])
      clear hp
      go_wp2
      go_ret2
      exact ⟨by rw [HP.out]; rfl, hB⟩
end Go.Proofs.YtldofbkjjmnooaaGreat
/- Contracts of package word: the numbers that a word holds. -/
namespace Go.Proofs.YtldofbkjjmnooaaGreat
open Go.ChangeShapes Go.WideShapes Go.ChangeAt Go.RowKit
set_option linter.unusedVariables false
set_option linter.unusedSimpArgs false
open Wd
/-- what there is at k: a part, and what it has in x -/
def AtH (A : Array Value) (h : Nat → Int) (x k : Nat) : Prop := ∃ p, Good p ∧
  (∀ W, (Instr.index 272 (.agg A) (.int .i64 k)).run Tryz.prog W = .ok (prtV p) W) ∧ h k = had p x
def six (n0 n1 n2 n3 n4 n5 : Int) (k : Nat) : Int := match k with
  | 0 => n0
  | 1 => n1
  | 2 => n2
  | 3 => n3
  | 4 => n4
  | _ => n5
theorem ath_all (p0 p1 p2 p3 p4 p5 : Prt) (x : Nat) (g0 : Good p0) (g1 : Good p1) (g2 : Good p2) (g3 : Good p3) (g4 : Good p4) (g5 : Good p5) :
    ∀ k, k < 6 → AtH (partsArr p0 p1 p2 p3 p4 p5) (six (had p0 x) (had p1 x) (had p2 x) (had p3 x) (had p4 x) (had p5 x)) x k := by
  intro k hk
  match k, hk with
  | 0, _ => exact ⟨p0, g0, fun W => by kernel_rfl, rfl⟩
  | 1, _ => exact ⟨p1, g1, fun W => by kernel_rfl, rfl⟩
  | 2, _ => exact ⟨p2, g2, fun W => by kernel_rfl, rfl⟩
  | 3, _ => exact ⟨p3, g3, fun W => by kernel_rfl, rfl⟩
  | 4, _ => exact ⟨p4, g4, fun W => by kernel_rfl, rfl⟩
  | 5, _ => exact ⟨p5, g5, fun W => by kernel_rfl, rfl⟩
/-- the first k numbers are found -/
def fill (h : Nat → Int) (k : Nat) : Array Value := #[.int .i64 (if 0 < k then h 0 else 0), .int .i64 (if 1 < k then h 1 else 0), .int .i64 (if 2 < k then h 2 else 0), .int .i64 (if 3 < k then h 3 else 0), .int .i64 (if 4 < k then h 4 else 0), .int .i64 (if 5 < k then h 5 else 0)]
theorem fill_set (h : Nat → Int) (k : Nat) (hk : k < 6) : (fill h k).setIfInBounds k (.int .i64 (h k)) = fill h (k + 1) := by
  match k, hk with
  | 0, _ => rfl
  | 1, _ => rfl
  | 2, _ => rfl
  | 3, _ => rfl
  | 4, _ => rfl
  | 5, _ => rfl
theorem fill_at (h : Nat → Int) (k : Nat) (hk : k < 6) : (fill h k)[k]? = some (.int .i64 0) := by
  match k, hk with
  | 0, _ => rfl
  | 1, _ => rfl
  | 2, _ => rfl
  | 3, _ => rfl
  | 4, _ => rfl
  | 5, _ => rfl
theorem nums_size : (Tryz.prog.info? 274).map (·.size) = some 6 := by kernel_rfl
theorem had_conv (p : Prt) (x : Nat) (hk : p.k ≤ 24) : IntKind.i64.wrap (BitNat.get p.a p.k x : Nat) = (BitNat.get p.a p.k x : Nat) := by
  have h1 := BitNat.get_lt p.a p.k x
  have h2 : 2^p.k ≤ 2^24 := Nat.pow_le_pow_right (by decide) hk
  rw [IntKind.wrap_i64]; omega
set_option maxRecDepth 100000 in
set_option maxHeartbeats 4000000 in
theorem numbersIn_any (x : Nat) (p0 p1 p2 p3 p4 p5 : Prt) (w : World) (hx : x < 18446744073709551616) (g0 : Good p0) (g1 : Good p1) (g2 : Good p2) (g3 : Good p3) (g4 : Good p4) (g5 : Good p5) :
    Calls Tryz.prog 285 #[.int .u64 x, prtsV p0 p1 p2 p3 p4 p5] w fun e w' => e = .returned (numsV (had p0 x) (had p1 x) (had p2 x) (had p3 x) (had p4 x) (had p5 x)) ∧ Below w.heap.size w w' := by
  have HK := Lib.hid (ath_all p0 p1 p2 p3 p4 p5 x g0 g1 g2 g3 g4 g5)
  have hlast : numsV (had p0 x) (had p1 x) (had p2 x) (had p3 x) (had p4 x) (had p5 x) = .agg (fill (six (had p0 x) (had p1 x) (had p2 x) (had p3 x) (had p4 x) (had p5 x)) 6) := rfl
  rw [hlast]
  generalize six (had p0 x) (had p1 x) (had p2 x) (had p3 x) (had p4 x) (had p5 x) = h at *
  clear hlast
  go_enter Tryz.func285, Tryz.ntmps285
  go_upto_region 2 with fail
  generalize hW : ((w.alloc _).alloc _).alloc _ = W
  have hP : Blk W w.heap.size 272 (partsArr p0 p1 p2 p3 p4 p5) := by rw [← hW]; exact ((Blk.new w _ _).alloc _).alloc _
  have hR : Blk W (w.heap.size + 1) 274 (fill h 0) := by
    rw [← hW]
    have := (Blk.new (w.alloc (.cells (partsArr p0 p1 p2 p3 p4 p5) 272)) 274 (fill h 0)).alloc (.cells (fill h 0) 274)
    rw [World.size_alloc] at this
    exact this
  have hF : Blk W (w.heap.size + 1 + 1) 274 (fill h 0) := by
    rw [← hW]
    have := Blk.new ((w.alloc (.cells (partsArr p0 p1 p2 p3 p4 p5) 272)).alloc (.cells (fill h 0) 274)) 274 (fill h 0)
    rw [World.size_alloc, World.size_alloc] at this
    exact this
  have B0 : Below w.heap.size w W := by rw [← hW]; go_grown
  have hs : (partsArr p0 p1 p2 p3 p4 p5).size = 18 := rfl
  clear hW
  generalize partsArr p0 p1 p2 p3 p4 p5 = A at *
  go_wp2_with (first
        | (refine wpList_load_row rfl 272 _ rfl w.heap.size rfl 272 _ (0, 0) _ hP Tryz.underlying272 rfl (by rw [hs]; exact parts_size) ?_))
  clear hP hs
  go_loopw [9] (fun i wr => ∃ k : Nat, k ≤ 6 ∧ i = .int .i64 k ∧ Below w.heap.size w wr ∧ Blk wr (w.heap.size + 1) 274 (fill h 0) ∧ Blk wr (w.heap.size + 1 + 1) 274 (fill h k))
    (fun i wr => 6 - (intOf i).toNat)
  case atStart => exact ⟨0, by omega, rfl, B0, hR, hF⟩
  case round =>
    obtain ⟨k, hk, rfl, hB, hR, hF⟩ := hrel
    by_cases hlt : k < 6
    · obtain ⟨⟨a, b, f, lo, hi⟩, ⟨gf, g0, g1, g2, g3, g4⟩, hx2, hh⟩ := HK.out k hlt
      dsimp only [prtV] at gf g0 g1 g2 g3 g4 hx2
      generalize fnOf f = F at *
      have HH := Lib.hid hh
      have HS := Lib.hid (fill_set h k hlt)
      have HC := Lib.hid (had_conv ⟨a, b, f, lo, hi⟩ x g4)
      have HA := Lib.hid (fill_at h k hlt)
      clear gf hh
      go_upto_region 5 with fail
      generalize hV : wr.alloc _ = V
      have bV : Blk V wr.heap.size 271 #[.int .i64 a, .int .i64 b, .func (.func F) #[] #[]] := by rw [← hV]; exact Blk.new wr _ _
      have rV : Blk V (w.heap.size + 1) 274 (fill h 0) := by rw [← hV]; exact hR.alloc _
      have fV : Blk V (w.heap.size + 1 + 1) 274 (fill h k) := by rw [← hV]; exact hF.alloc _
      have BV : Below w.heap.size w V := by rw [← hV]; exact hB.alloc hB.size _
      clear hV
      have v0 := bV.cell 0 _ rfl
      have v1 := bV.cell 1 _ rfl
      by_cases hb0 : b = 0
      · obtain rfl := hb0
        obtain rfl := g0 rfl
        have HX : Hid (h k = 0) := Lib.hid (by rw [HH.out]; rfl)
        go_wp2_with (go_at_call 339; (with_reducible refine (of_no 0 0 x _ (by omega) (by omega) (by omega) (by omega)).mono ?_); rintro e w1 ⟨rfl, hb⟩; have f1 := fV.below hb fV.lt; have r1 := rV.below hb rV.lt; have B1 := BV.trans (hb.mono BV.size); have vk := f1.cell k _ HA.out; have vf := f1.free)
        go_roundw
        case rel => exact ⟨k + 1, by omega, by go_num, B1.setCell (p := ⟨w.heap.size + 1 + 1, k, none⟩) (by show _ ≤ w.heap.size + 1 + 1; omega) _, r1.far (by omega) _ _, by have := f1.set k (.int .i64 (h k)); rw [HS.out, HX.out] at this; exact this⟩
        case measure => simp [intOf]; omega
      · have HX : Hid (h k = (BitNat.get a b x : Nat)) := Lib.hid (by rw [HH.out]; exact if_neg hb0)
        have hcv : IntKind.i64.wrap (BitNat.get a b x : Nat) = (BitNat.get a b x : Nat) := HC.out
        go_wp2_with (go_at_call 339; (with_reducible refine (of_yes a b x _ (by omega) g1 hx).mono ?_); rintro e w1 ⟨rfl, hb⟩; have f1 := fV.below hb fV.lt; have r1 := rV.below hb rV.lt; have B1 := BV.trans (hb.mono BV.size); have vk := f1.cell k _ HA.out; have vf := f1.free)
        go_roundw
        case rel => exact ⟨k + 1, by omega, by go_num, B1.setCell (p := ⟨w.heap.size + 1 + 1, k, none⟩) (by show _ ≤ w.heap.size + 1 + 1; omega) _, r1.far (by omega) _ _, by have := f1.set k (.int .i64 (h k)); rw [HS.out, HX.out] at this; exact this⟩
        case measure => simp [intOf]; omega
    · obtain rfl : k = 6 := by omega
      have hs := Lib.hid (show (Tryz.prog.info? 274).map (·.size) = some (fill h 6).size from nums_size)
      have ho := Lib.hid (show (fill h 6).all (·.oneCell') = true by simp [fill, Value.oneCell'])
      go_wp2_with (first
        | (refine wpList_load_row rfl 274 _ rfl (w.heap.size + 1 + 1) rfl 274 (fill h 6) (0, 0) _ hF Tryz.underlying274 rfl hs.out ?_)
        | (refine wpList_store_row rfl 274 _ _ rfl (w.heap.size + 1) (fill h 6) rfl rfl 274 (fill h 0) hR hs.out rfl ho.out ?_))
      exact bodyPost_ret (v := .agg (fill h 6)) (results_cell_row rfl _ _ (w.heap.size + 1) 274 _ (0, 0) _ rfl (hR.row _) Tryz.underlying274 rfl hs.out) rfl ⟨rfl, below_setRow hB (by omega) _⟩
end Go.Proofs.YtldofbkjjmnooaaGreat
/- Contracts of package word: Pack and Open. -/
namespace Go.Proofs.YtldofbkjjmnooaaGreat
open Go.ChangeShapes Go.WideShapes Go.ChangeAt Go.RowKit
set_option linter.unusedVariables false
set_option linter.unusedSimpArgs false
open Wd
abbrev hdArr (x : Hd) : Array Value := #[.int .i64 x.t, .int .i64 x.o, .int .i64 x.c, .int .i64 x.m, .int .i64 x.g, .int .i64 x.h]
theorem hd_size : (Tryz.prog.info? 177).map (·.size) = some 6 := by kernel_rfl
/-- a header boxed at B -/
structure HBox (w0 : World) (B : Nat) (x : Hd) (w : World) : Prop where
  base : Below w0.heap.size w0 w
  blk : Blk w B 177 (hdArr x)
theorem HBox.drew {w0 w : World} {B : Nat} {x : Hd} (h : HBox w0 B x w) : HBox w0 B x w.drew := ⟨h.base.drew, h.blk⟩
theorem HBox.below {w0 w w' : World} {B : Nat} {x : Hd} (h : HBox w0 B x w) (hb : Below w.heap.size w w') : HBox w0 B x w' :=
  ⟨h.base.trans (hb.mono h.base.size), h.blk.below hb h.blk.lt⟩
theorem HBox.six {w0 w : World} {B : Nat} {x : Hd} (h : HBox w0 B x w) : w.cell? ⟨B, 0, none⟩ = some (.int .i64 x.t) ∧ w.cell? ⟨B, 1, none⟩ = some (.int .i64 x.o) ∧ w.cell? ⟨B, 2, none⟩ = some (.int .i64 x.c) ∧ w.cell? ⟨B, 3, none⟩ = some (.int .i64 x.m) ∧ w.cell? ⟨B, 4, none⟩ = some (.int .i64 x.g) ∧ w.cell? ⟨B, 5, none⟩ = some (.int .i64 x.h) :=
  ⟨h.blk.cell 0 _ rfl, h.blk.cell 1 _ rfl, h.blk.cell 2 _ rfl, h.blk.cell 3 _ rfl, h.blk.cell 4 _ rfl, h.blk.cell 5 _ rfl⟩
set_option maxRecDepth 100000 in
set_option maxHeartbeats 4000000 in
theorem pack_any (x : Hd) (w : World) : Calls Tryz.prog 146 #[hdV x] w (PackPost w (packP x)) := by
  have HP : Hid (∀ W, Calls Tryz.prog 228 #[prtsV pTag pHash (p2 x.t) (p3 x.t) (p4 x.t) (p5 x.t), numsV x.t x.h x.o x.c x.m x.g] W (PackPost W (packP x))) :=
    Lib.hid (fun W => packed_any _ _ _ _ _ _ _ _ _ _ _ _ W good_tag good_hash (good_p2 _) (good_p3 _) (good_p4 _) (good_p5 _))
  go_enter Tryz.func146, Tryz.ntmps146
  go_upto_region 1 with fail
  generalize hW : w.alloc _ = W
  have T : HBox w w.heap.size x W := by rw [← hW]; exact ⟨by go_grown, Blk.new w _ _⟩
  clear hW
  obtain ⟨c0, c1, c2, c3, c4, c5⟩ := T.six
  go_region_held3 (fun w' => w'.cell? ⟨w.heap.size, 0, none⟩ = some (.int .i64 x.t) ∧ w'.cell? ⟨w.heap.size, 1, none⟩ = some (.int .i64 x.o) ∧ w'.cell? ⟨w.heap.size, 2, none⟩ = some (.int .i64 x.c) ∧ w'.cell? ⟨w.heap.size, 3, none⟩ = some (.int .i64 x.m) ∧ w'.cell? ⟨w.heap.size, 4, none⟩ = some (.int .i64 x.g) ∧ w'.cell? ⟨w.heap.size, 5, none⟩ = some (.int .i64 x.h)) (first | (with_reducible exact ⟨c0, c1, c2, c3, c4, c5⟩) | go_keep) (first
    | (go_at_call 229; (with_reducible refine (partsOf_any x.t _).mono ?_); rintro e w1 ⟨rfl, hb⟩; (first | (with_reducible replace T := T.drew.below hb) | (with_reducible replace T := T.below hb)); clear c0 c1 c2 c3 c4 c5 hb; obtain ⟨c0, c1, c2, c3, c4, c5⟩ := T.six)
    | (go_at_call 230; (with_reducible refine (numbersOf_any x _).mono ?_); rintro e w2 ⟨rfl, hb⟩; (first | (with_reducible replace T := T.drew.below hb) | (with_reducible replace T := T.below hb)); clear c0 c1 c2 c3 c4 c5 hb; obtain ⟨c0, c1, c2, c3, c4, c5⟩ := T.six)
    | (go_at_call 228; (with_reducible refine (HP.out _).mono ?_); rintro e w3 ⟨rfl, hb⟩; (with_reducible replace T := T.below hb); clear c0 c1 c2 c3 c4 c5 hb; obtain ⟨c0, c1, c2, c3, c4, c5⟩ := T.six))
  all_goals go_wp2
  all_goals go_ret2
  all_goals exact ⟨rfl, T.base⟩
/-- opening answers r -/
def OpenPost (w : World) (r : Option Hd) (e : Ending) (w' : World) : Prop := e = .returned (.tuple #[hdV (r.getD ⟨0, 0, 0, 0, 0, 0⟩), .bool r.isSome]) ∧ Below w.heap.size w w'
theorem tag_in (v : Nat) : (hdIn v).t = tagOf v := rfl
theorem prts_one (p0 p1 p2 p3 p4 p5 : Prt) : (partsArr p0 p1 p2 p3 p4 p5).all (·.oneCell') = true := by simp [Value.oneCell']
theorem nums_one (n0 n1 n2 n3 n4 n5 : Int) : (numsArr n0 n1 n2 n3 n4 n5).all (·.oneCell') = true := by simp [Value.oneCell']
theorem hd_one (x : Hd) : (hdArr x).all (·.oneCell') = true := by simp [Value.oneCell']
abbrev zero6 : Array Value := #[.int .i64 0, .int .i64 0, .int .i64 0, .int .i64 0, .int .i64 0, .int .i64 0]
set_option maxRecDepth 100000 in
set_option maxHeartbeats 4000000 in
theorem open_any (v : Nat) (w : World) (hv : v < 18446744073709551616) : Calls Tryz.prog 212 #[.int .u64 v] w (OpenPost w (openP v)) := by
  have hf : had pTag v = tagOf v := rfl
  have HN : Hid (∀ W, Calls Tryz.prog 285 #[.int .u64 v, prtsV pTag pHash (p2 (tagOf v)) (p3 (tagOf v)) (p4 (tagOf v)) (p5 (tagOf v))] W fun e w' => e = .returned (numsV (hdIn v).t (hdIn v).h (hdIn v).o (hdIn v).c (hdIn v).m (hdIn v).g) ∧ Below W.heap.size W w') :=
    Lib.hid (fun W => numbersIn_any v pTag pHash _ _ _ _ W hv good_tag good_hash (good_p2 _) (good_p3 _) (good_p4 _) (good_p5 _))
  have HP : Hid (∀ W, Calls Tryz.prog 228 #[prtsV pTag pHash (p2 (tagOf v)) (p3 (tagOf v)) (p4 (tagOf v)) (p5 (tagOf v)), numsV (hdIn v).t (hdIn v).h (hdIn v).o (hdIn v).c (hdIn v).m (hdIn v).g] W (PackPost W (packP (hdIn v)))) :=
    Lib.hid (fun W => packed_any _ _ _ _ _ _ _ _ _ _ _ _ W good_tag good_hash (good_p2 _) (good_p3 _) (good_p4 _) (good_p5 _))
  have HT : Hid (∀ W, Calls Tryz.prog 284 #[.int .u64 v] W fun e w' => e = .returned (.int .i64 (tagOf v)) ∧ Below W.heap.size W w') := Lib.hid (fun W => tagIn_any v W hv)
  have HQ : Hid (∀ W, Calls Tryz.prog 229 #[.int .i64 (tagOf v)] W fun e w' => e = .returned (prtsV pTag pHash (p2 (tagOf v)) (p3 (tagOf v)) (p4 (tagOf v)) (p5 (tagOf v))) ∧ Below W.heap.size W w') := Lib.hid (fun W => partsOf_any _ W)
  clear hf
  have HO : Hid (openP v = if packP (hdIn v) = some v then some (hdIn v) else none) := Lib.hid rfl
  generalize hdIn v = x at *
  generalize p2 (tagOf v) = q2 at *
  generalize p3 (tagOf v) = q3 at *
  generalize p4 (tagOf v) = q4 at *
  generalize p5 (tagOf v) = q5 at *
  generalize tagOf v = t at *
  generalize pTag = q0 at *
  generalize pHash = q1 at *
  generalize openP v = r at *
  generalize packP x = u at *
  have hpone := Lib.hid (prts_one q0 q1 q2 q3 q4 q5)
  have hpsz : Hid ((Tryz.prog.info? 272).map (·.size) = some (partsArr q0 q1 q2 q3 q4 q5).size) := Lib.hid parts_size
  have hnone := Lib.hid (nums_one x.t x.h x.o x.c x.m x.g)
  have hnsz : Hid ((Tryz.prog.info? 274).map (·.size) = some (numsArr x.t x.h x.o x.c x.m x.g).size) := Lib.hid nums_size
  have hhsz : Hid ((Tryz.prog.info? 177).map (·.size) = some (hdArr x).size) := Lib.hid hd_size
  have hhsz0 : Hid ((Tryz.prog.info? 177).map (·.size) = some zero6.size) := Lib.hid hd_size
  have hhone := Lib.hid (hd_one x)
  go_enter Tryz.func212, Tryz.ntmps212
  go_upto_region 1 with fail
  generalize hW : w.alloc _ = W
  have B0 : Below w.heap.size w W := by rw [← hW]; go_grown
  have R0 : Blk W w.heap.size 177 zero6 := by rw [← hW]; exact Blk.new w _ _
  clear hW
  go_upto_region 2 with (first
    | (go_at_call 284; (with_reducible refine (HT.out _).mono ?_); rintro e w1 ⟨rfl, hb⟩; have R1 := R0.below hb R0.lt; have B1 := B0.trans (hb.mono B0.size); clear hb)
    | (go_at_call 229; (with_reducible refine (HQ.out _).mono ?_); rintro e w2 ⟨rfl, hb⟩; have R2 := R1.below hb R1.lt; have B2 := B1.trans (hb.mono B1.size); clear hb)
    | (refine wpList_store_row rfl 272 _ _ rfl w2.heap.size (partsArr q0 q1 q2 q3 q4 q5) rfl rfl 272 zero18 (Blk.new w2 _ _) hpsz.out rfl hpone.out ?_; (try simp only [Act.put, List.setIfInBounds_toArray, List.set_cons_zero, List.set_cons_succ])))
  rw [World.setRow_alloc_new]
  have P3 := Blk.new w2 272 (partsArr q0 q1 q2 q3 q4 q5)
  have R3 := R2.alloc (.cells (partsArr q0 q1 q2 q3 q4 q5) 272)
  have B3 := B2.alloc B2.size (.cells (partsArr q0 q1 q2 q3 q4 q5) 272)
  generalize hW : w2.alloc _ = w3 at *
  clear hW R0 B0 R1 B1 R2 B2
  generalize w2.heap.size = BP at *
  go_upto_region 3 with (first
    | (refine wpList_load_row rfl 272 _ rfl BP rfl 272 (partsArr q0 q1 q2 q3 q4 q5) (0, 0) _ P3 Tryz.underlying272 rfl hpsz.out ?_; (try simp only [Act.put, List.setIfInBounds_toArray, List.set_cons_zero, List.set_cons_succ]))
    | (go_at_call 285; (with_reducible refine (HN.out _).mono ?_); rintro e w4 ⟨rfl, hb⟩; have P4 := P3.below hb P3.lt; have R4 := R3.below hb R3.lt; have B4 := B3.trans (hb.mono B3.size); clear hb)
    | (refine wpList_store_row rfl 274 _ _ rfl w4.heap.size (numsArr x.t x.h x.o x.c x.m x.g) rfl rfl 274 zero6 (Blk.new w4 _ _) hnsz.out rfl hnone.out ?_; (try simp only [Act.put, List.setIfInBounds_toArray, List.set_cons_zero, List.set_cons_succ])))
  rw [World.setRow_alloc_new]
  have N5 := Blk.new w4 274 (numsArr x.t x.h x.o x.c x.m x.g)
  have P5 := P4.alloc (.cells (numsArr x.t x.h x.o x.c x.m x.g) 274)
  have R5 := R4.alloc (.cells (numsArr x.t x.h x.o x.c x.m x.g) 274)
  have B5 := B4.alloc B4.size (.cells (numsArr x.t x.h x.o x.c x.m x.g) 274)
  generalize hW : w4.alloc _ = w5 at *
  clear hW P3 R3 B3 P4 R4 B4
  generalize w4.heap.size = BN at *
  go_upto_region 4 with (first
    | (refine wpList_load_row rfl 272 _ rfl BP rfl 272 (partsArr q0 q1 q2 q3 q4 q5) (0, 0) _ P5 Tryz.underlying272 rfl hpsz.out ?_; (try simp only [Act.put, List.setIfInBounds_toArray, List.set_cons_zero, List.set_cons_succ]))
    | (refine wpList_load_row rfl 274 _ rfl BN rfl 274 (numsArr x.t x.h x.o x.c x.m x.g) (0, 0) _ N5 Tryz.underlying274 rfl hnsz.out ?_; (try simp only [Act.put, List.setIfInBounds_toArray, List.set_cons_zero, List.set_cons_succ]))
    | (go_at_call 228; (with_reducible refine (HP.out _).mono ?_); rintro e w6 ⟨rfl, hb⟩; have N6 := N5.below hb N5.lt; have R6 := R5.below hb R5.lt; have B6 := B5.trans (hb.mono B5.size); clear hb))
  clear P5 N5 R5 B5
  have HH : Hid (∀ W, Calls Tryz.prog 286 #[numsV x.t x.h x.o x.c x.m x.g] W fun e w' => e = .returned (hdV x) ∧ Below W.heap.size W w') := Lib.hid (fun W => headerOf_any x W)
  have hz1 : Hid (zero6.all (·.oneCell') = true) := Lib.hid (by simp [Value.oneCell'])
  have bad : u ≠ some v → r = none := fun h => by rw [HO.out, if_neg h]
  by_cases hu : u = some v
  · have hr : r = some x := by rw [HO.out, if_pos hu]
    subst hu
    subst hr
    clear bad HO
    go_wp2_with (first
      | (refine wpList_load_row rfl 274 _ rfl BN rfl 274 (numsArr x.t x.h x.o x.c x.m x.g) (0, 0) _ N6 Tryz.underlying274 rfl hnsz.out ?_; (try simp only [Act.put, List.setIfInBounds_toArray, List.set_cons_zero, List.set_cons_succ]))
      | (go_at_call 286; (with_reducible refine (HH.out _).mono ?_); rintro e w7 ⟨rfl, hb⟩; have R7 := R6.below hb R6.lt; have B7 := B6.trans (hb.mono B6.size); clear hb)
      | (refine wpList_store_row rfl 177 _ _ rfl w.heap.size (hdArr x) rfl rfl 177 zero6 R7 hhsz.out rfl hhone.out ?_; (try simp only [Act.put, List.setIfInBounds_toArray, List.set_cons_zero, List.set_cons_succ])))
    have R8 := R7.row (hdArr x)
    have B8 := below_setRow B7 (Nat.le_refl _) (hdArr x)
    generalize hW : w7.setRow _ _ = w8 at *
    have c0 := R8.cell 0 _ rfl
    have c1 := R8.cell 1 _ rfl
    have c2 := R8.cell 2 _ rfl
    have c3 := R8.cell 3 _ rfl
    have c4 := R8.cell 4 _ rfl
    have c5 := R8.cell 5 _ rfl
    exact bodyPost_ret (v := .tuple #[hdV x, .bool true]) (by simp [results, Tryz.results212, go_sem, c0, c1, c2, c3, c4, c5]) rfl ⟨rfl, B8⟩
  · obtain rfl := bad hu
    clear bad HO
    cases u with
    | none =>
      clear hu
      go_wp2_with (refine wpList_store_row rfl 177 _ _ rfl w.heap.size zero6 rfl rfl 177 zero6 R6 hhsz0.out rfl hz1.out ?_; (try simp only [Act.put, List.setIfInBounds_toArray, List.set_cons_zero, List.set_cons_succ]))
      have R8 := R6.row zero6
      have B8 := below_setRow B6 (Nat.le_refl _) zero6
      generalize hW : w6.setRow _ _ = w8 at *
      have c0 := R8.cell 0 _ rfl
      have c1 := R8.cell 1 _ rfl
      have c2 := R8.cell 2 _ rfl
      have c3 := R8.cell 3 _ rfl
      have c4 := R8.cell 4 _ rfl
      have c5 := R8.cell 5 _ rfl
      exact bodyPost_ret (v := .tuple #[hdV ⟨0, 0, 0, 0, 0, 0⟩, .bool false]) (by simp [results, Tryz.results212, go_sem, c0, c1, c2, c3, c4, c5]) rfl ⟨rfl, B8⟩
    | some a =>
      have hne : a ≠ v := fun h => hu (by rw [h])
      have hne2 : (((a : Nat) : Int) != ((v : Nat) : Int)) = true := by simp; omega
      clear hu
      have hne3 : ¬ (((a : Nat) : Int) = ((v : Nat) : Int)) := by omega
      clear hne
      go_wp2_with (refine wpList_store_row rfl 177 _ _ rfl w.heap.size zero6 rfl rfl 177 zero6 R6 hhsz0.out rfl hz1.out ?_; (try simp only [Act.put, List.setIfInBounds_toArray, List.set_cons_zero, List.set_cons_succ]))
      have R8 := R6.row zero6
      have B8 := below_setRow B6 (Nat.le_refl _) zero6
      generalize hW : w6.setRow _ _ = w8 at *
      have c0 := R8.cell 0 _ rfl
      have c1 := R8.cell 1 _ rfl
      have c2 := R8.cell 2 _ rfl
      have c3 := R8.cell 3 _ rfl
      have c4 := R8.cell 4 _ rfl
      have c5 := R8.cell 5 _ rfl
      exact bodyPost_ret (v := .tuple #[hdV ⟨0, 0, 0, 0, 0, 0⟩, .bool false]) (by simp [results, Tryz.results212, go_sem, c0, c1, c2, c3, c4, c5]) rfl ⟨rfl, B8⟩
theorem open_of_pack {x : Hd} {v : Nat} (h : packP x = some v) : openP v = some x := by
  obtain ⟨h1, h2⟩ := pack_some h
  rw [← h2]; exact open_word x h1
end Go.Proofs.YtldofbkjjmnooaaGreat
