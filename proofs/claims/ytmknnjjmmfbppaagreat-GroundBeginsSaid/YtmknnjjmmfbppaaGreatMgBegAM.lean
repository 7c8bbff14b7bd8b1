/- Contracts of package word: packing numbers by parts. -/
import Derived.Test.YtmknnjjmmfbppaaGreatMgBegAL
import Derived.LoopTactic
namespace Go.Proofs.YtmknnjjmmfbppaaGreat
open Go.ChangeShapes Go.WideShapes Go.ChangeAt Go.RowKit
set_option linter.unusedVariables false
set_option linter.unusedSimpArgs false
open Wd
abbrev numsArr (n0 n1 n2 n3 n4 n5 : Int) : Array Value := #[.int .i64 n0, .int .i64 n1, .int .i64 n2, .int .i64 n3, .int .i64 n4, .int .i64 n5]
/-- what there is at k: a part, its number, in the two arrays -/
def AtK (A N : Array Value) (L : List (Prt × Int)) (k : Nat) : Prop := ∃ p n, L[k]? = some (p, n) ∧ Good p ∧
  (∀ W, (Instr.index 226 (.agg A) (.int .i64 k)).run Tryz.prog W = .ok (prtV p) W) ∧ N[k]? = some (.int .i64 n)
theorem at_all (p0 p1 p2 p3 p4 p5 : Prt) (n0 n1 n2 n3 n4 n5 : Int) (g0 : Good p0) (g1 : Good p1) (g2 : Good p2) (g3 : Good p3) (g4 : Good p4) (g5 : Good p5) :
    ∀ k, k < 6 → AtK (partsArr p0 p1 p2 p3 p4 p5) (numsArr n0 n1 n2 n3 n4 n5) [(p0, n0), (p1, n1), (p2, n2), (p3, n3), (p4, n4), (p5, n5)] k := by
  intro k hk
  match k, hk with
  | 0, _ => exact ⟨p0, n0, rfl, g0, fun W => by kernel_rfl, rfl⟩
  | 1, _ => exact ⟨p1, n1, rfl, g1, fun W => by kernel_rfl, rfl⟩
  | 2, _ => exact ⟨p2, n2, rfl, g2, fun W => by kernel_rfl, rfl⟩
  | 3, _ => exact ⟨p3, n3, rfl, g3, fun W => by kernel_rfl, rfl⟩
  | 4, _ => exact ⟨p4, n4, rfl, g4, fun W => by kernel_rfl, rfl⟩
  | 5, _ => exact ⟨p5, n5, rfl, g5, fun W => by kernel_rfl, rfl⟩
/-- the condition's function is there, and is entered -/
theorem call_fn (f : Nat) : ∀ (W : World) (args : Array Value), (callFunc (fnOf f) args).run Tryz.prog W = .ok (.enter (fnOf f) args) W := by
  intro W args
  match f with
  | 1 => show (callFunc 218 args).run Tryz.prog W = .ok (.enter 218 args) W; go_simp
  | 2 => show (callFunc 220 args).run Tryz.prog W = .ok (.enter 220 args) W; go_simp
  | 3 => show (callFunc 222 args).run Tryz.prog W = .ok (.enter 222 args) W; go_simp
  | 4 => show (callFunc 223 args).run Tryz.prog W = .ok (.enter 223 args) W; go_simp
  | 5 => show (callFunc 224 args).run Tryz.prog W = .ok (.enter 224 args) W; go_simp
  | 6 => show (callFunc 225 args).run Tryz.prog W = .ok (.enter 225 args) W; go_simp
  | 7 => show (callFunc 226 args).run Tryz.prog W = .ok (.enter 226 args) W; go_simp
  | 0 => show (callFunc 227 args).run Tryz.prog W = .ok (.enter 227 args) W; go_simp
  | n + 8 => show (callFunc 227 args).run Tryz.prog W = .ok (.enter 227 args) W; go_simp
theorem pack_more {L : List (Prt × Int)} {k : Nat} {p : Prt} {n : Int} {acc : Nat} (hl : L[k]? = some (p, n)) (hp : packGo (L.take k) 0 = some acc) : packGo (L.take (k + 1)) 0 = Wd.step p n acc := by
  rw [take_at hl, packGo_snoc, hp]; rfl
theorem pack_ends {L : List (Prt × Int)} {k : Nat} {p : Prt} {n : Int} {acc : Nat} (hl : L[k]? = some (p, n)) (hp : packGo (L.take k) 0 = some acc) (h : ¬ (p.lo ≤ n ∧ n ≤ p.hi)) : packGo L 0 = none := by
  have e := pack_more hl hp
  rw [step_no _ _ _ h] at e
  have := packGo_none _ (L.drop (k + 1)) 0 e
  rwa [List.take_append_drop] at this
/-- packing answers r -/
def PackPost (w : World) (r : Option Nat) (e : Ending) (w' : World) : Prop := e = .returned (.tuple #[.int .u64 ((r.getD 0 : Nat) : Int), .bool r.isSome]) ∧ Below w.heap.size w w'
set_option maxRecDepth 100000 in
set_option maxHeartbeats 4000000 in
theorem packed_any (p0 p1 p2 p3 p4 p5 : Prt) (n0 n1 n2 n3 n4 n5 : Int) (w : World) (g0 : Good p0) (g1 : Good p1) (g2 : Good p2) (g3 : Good p3) (g4 : Good p4) (g5 : Good p5) :
    Calls Tryz.prog 167 #[prtsV p0 p1 p2 p3 p4 p5, numsV n0 n1 n2 n3 n4 n5] w (PackPost w (packGo [(p0, n0), (p1, n1), (p2, n2), (p3, n3), (p4, n4), (p5, n5)] 0)) := by
  have HK := Lib.hid (at_all p0 p1 p2 p3 p4 p5 n0 n1 n2 n3 n4 n5 g0 g1 g2 g3 g4 g5)
  have hL : [(p0, n0), (p1, n1), (p2, n2), (p3, n3), (p4, n4), (p5, n5)].length = 6 := rfl
  generalize [(p0, n0), (p1, n1), (p2, n2), (p3, n3), (p4, n4), (p5, n5)] = L at *
  have HL := Lib.hid hL
  clear hL
  go_enter Tryz.func167, Tryz.ntmps167
  go_upto_region 2 with fail
  generalize hW : (w.alloc _).alloc _ = W
  have hP : Blk W w.heap.size 226 (partsArr p0 p1 p2 p3 p4 p5) := by rw [← hW]; exact (Blk.new w _ _).alloc _
  have hN : Blk W (w.heap.size + 1) 228 (numsArr n0 n1 n2 n3 n4 n5) := by
    rw [← hW]
    have := Blk.new (w.alloc (.cells (partsArr p0 p1 p2 p3 p4 p5) 226)) 228 (numsArr n0 n1 n2 n3 n4 n5)
    rw [World.size_alloc] at this
    exact this
  have B0 : Below w.heap.size w W := by rw [← hW]; go_grown
  have hs : (partsArr p0 p1 p2 p3 p4 p5).size = 18 := rfl
  clear hW
  generalize partsArr p0 p1 p2 p3 p4 p5 = A at *
  generalize numsArr n0 n1 n2 n3 n4 n5 = NA at *
  go_wp2_with (first
        | (refine wpList_load_row rfl 226 _ rfl w.heap.size rfl 226 _ (0, 0) _ hP Tryz.underlying226 rfl (by rw [hs]; exact parts_size) ?_))
  clear hP hs
  go_loopw [6, 10] (fun v i wr => ∃ k acc : Nat, k ≤ 6 ∧ i = .int .i64 k ∧ v = .int .u64 acc ∧ packGo (L.take k) 0 = some acc ∧ acc < 18446744073709551616 ∧ Below w.heap.size w wr ∧ Blk wr (w.heap.size + 1) 228 NA)
    (fun v i wr => 6 - (intOf i).toNat)
  case atStart => exact ⟨0, 0, by omega, rfl, rfl, rfl, by omega, B0, hN⟩
  case round =>
    obtain ⟨k, acc, hk, rfl, rfl, hp, ha, hB, hN⟩ := hrel
    by_cases hlt : k < 6
    · obtain ⟨⟨a, b, f, lo, hi⟩, n, hl, ⟨gf, g0, g1, g2, g3, g4⟩, hx, hn⟩ := HK.out k hlt
      dsimp only [prtV] at gf g0 g1 g2 g3 g4 hx
      have hcall := call_fn f
      generalize fnOf f = F at *
      have nk := hN.cell k _ hn
      have HG := Lib.hid gf
      have HLk := Lib.hid hl
      have HPk := Lib.hid hp
      clear gf hl hp
      by_cases hin : lo ≤ n ∧ n ≤ hi
      · have hfit : inB lo n hi = true := by simp [inB, hin.1, hin.2]
        have HS := Lib.hid (pack_more HLk.out HPk.out)
        obtain ⟨m, rfl⟩ := Int.eq_ofNat_of_zero_le (show 0 ≤ n by omega)
        have HI := Lib.hid hin
        clear hin
        go_upto_region 5 with fail
        generalize hV : wr.alloc _ = V
        have bV : Blk V wr.heap.size 225 #[.int .i64 a, .int .i64 b, .func (.func F) #[] #[]] := by rw [← hV]; exact Blk.new wr _ _
        have nV : Blk V (w.heap.size + 1) 228 NA := by rw [← hV]; exact hN.alloc _
        have BV : Below w.heap.size w V := by rw [← hV]; exact hB.alloc hB.size _
        clear hV
        have v0 := bV.cell 0 _ rfl
        have v1 := bV.cell 1 _ rfl
        have v2 := bV.cell 2 _ rfl
        have vk := nV.cell k _ hn
        go_quiet ((exact (HG.out _ _).mono fun e w' h => ⟨h.1, _, h.2.symm⟩))
        by_cases hb0 : b = 0
        · obtain rfl := hb0
          obtain rfl := g0 rfl
          have e2 : Hid (packGo (L.take (k + 1)) 0 = some acc) := Lib.hid (by rw [HS.out, step_yes _ _ _ HI.out, if_pos rfl])
          go_wp2_with (go_at_call 216; (with_reducible refine (may_no 0 0 _ (by omega) (by omega) (by omega) (by omega)).mono ?_); rintro e w1 ⟨rfl, hb⟩)
          go_roundw
          case rel => exact ⟨k + 1, acc, by omega, by go_num, rfl, e2.out, ha, (bdrewN BV nq).trans (hb.mono BV.size), (Blk.drewN nV nq).below hb (show _ < V.heap.size from nV.lt)⟩
          case measure => simp [intOf]; omega
        · have hb1 : 1 ≤ b := by omega
          have hv : m < 2^b := by
            have h3 := g3 hb0
            have h4 : (2 : Int)^b = ((2^b : Nat) : Int) := by simp
            have := HI.out
            omega
          have hp2 : 2^b ≤ 2^24 := Nat.pow_le_pow_right (by decide) g4
          have hwr : IntKind.u64.wrap (m : Int) = m := by rw [IntKind.wrap_u64]; omega
          have hlt2 := BitNat.put_lt a b acc m g1 ha hv
          have e2 : Hid (packGo (L.take (k + 1)) 0 = some (BitNat.put a b acc m)) := Lib.hid (by rw [HS.out, step_yes _ _ _ HI.out, if_neg hb0, Int.toNat_natCast])
          have HV := Lib.hid hv
          have HL2 := Lib.hid hlt2
          clear hv hp2 g3 hlt2
          go_wp2_with (go_at_call 216; (with_reducible refine (may_yes a b _ hb1 g1).mono ?_); rintro e w1 ⟨rfl, hb⟩)
          have b1 := (Blk.drewN bV nq).below hb (show _ < V.heap.size from bV.lt)
          have n1 := (Blk.drewN nV nq).below hb (show _ < V.heap.size from nV.lt)
          have B1 := (bdrewN BV nq).trans (hb.mono BV.size)
          clear v0 v1 v2 vk hb
          have v0 := b1.cell 0 _ rfl
          have v1 := b1.cell 1 _ rfl
          have vk := n1.cell k _ hn
          go_region_held3 (fun w' => w'.cell? ⟨wr.heap.size, 0, none⟩ = some (.int .i64 a) ∧ w'.cell? ⟨wr.heap.size, 1, none⟩ = some (.int .i64 b) ∧ w'.cell? ⟨w.heap.size + 1, k, none⟩ = some (.int .i64 m)) (first | (with_reducible exact ⟨v0, v1, vk⟩) | go_keep) (first
            | (go_at_call 217; (with_reducible refine (put_yes a b acc m _ hb1 g1 ha HV.out).mono ?_); rintro e w2 ⟨rfl, hb⟩; replace b1 := b1.drew.below hb b1.lt; replace n1 := n1.drew.below hb n1.lt; replace B1 := B1.drew.trans (hb.mono B1.size); clear v0 v1 vk hb; have v0 := b1.cell 0 _ rfl; have v1 := b1.cell 1 _ rfl; have vk := n1.cell k _ hn))
          go_wp2
          go_roundw
          case rel => exact ⟨k + 1, _, by omega, by go_num, rfl, e2.out, HL2.out, B1, n1⟩
          case measure => simp [intOf]; omega
      · have hfit : inB lo n hi = false := by
          rw [Bool.eq_false_iff]; intro h; simp [inB] at h; omega
        have HE := Lib.hid (pack_ends HLk.out HPk.out hin)
        go_upto_region 5 with fail
        generalize hV : wr.alloc _ = V
        have bV : Blk V wr.heap.size 225 #[.int .i64 a, .int .i64 b, .func (.func F) #[] #[]] := by rw [← hV]; exact Blk.new wr _ _
        have nV : Blk V (w.heap.size + 1) 228 NA := by rw [← hV]; exact hN.alloc _
        have BV : Below w.heap.size w V := by rw [← hV]; exact hB.alloc hB.size _
        clear hV
        have v0 := bV.cell 0 _ rfl
        have v1 := bV.cell 1 _ rfl
        have v2 := bV.cell 2 _ rfl
        have vk := nV.cell k _ hn
        go_quiet ((exact (HG.out _ _).mono fun e w' h => ⟨h.1, _, h.2.symm⟩))
        go_wp2
        go_ret2
        exact ⟨by rw [HE.out]; rfl, bdrewN BV nq⟩
    · obtain rfl : k = 6 := by omega
      have HP : Hid (packGo L 0 = some acc) := Lib.hid (by rw [← hp, List.take_of_length_le (by rw [HL.out]; omega)])
      clear hp
      go_wp2
      go_ret2
      exact ⟨by rw [HP.out]; rfl, hB⟩
end Go.Proofs.YtmknnjjmmfbppaaGreat
/- Contracts of package word: the numbers that a word holds. -/
namespace Go.Proofs.YtmknnjjmmfbppaaGreat
open Go.ChangeShapes Go.WideShapes Go.ChangeAt Go.RowKit
set_option linter.unusedVariables false
set_option linter.unusedSimpArgs false
open Wd
/-- what there is at k: a part, and what it has in x -/
def AtH (A : Array Value) (h : Nat → Int) (x k : Nat) : Prop := ∃ p, Good p ∧
  (∀ W, (Instr.index 226 (.agg A) (.int .i64 k)).run Tryz.prog W = .ok (prtV p) W) ∧ h k = had p x
def six (n0 n1 n2 n3 n4 n5 : Int) (k : Nat) : Int := match k with
  | 0 => n0
  | 1 => n1
  | 2 => n2
  | 3 => n3
  | 4 => n4
  | _ => n5
theorem ath_all (p0 p1 p2 p3 p4 p5 : Prt) (x : Nat) (g0 : Good p0) (g1 : Good p1) (g2 : Good p2) (g3 : Good p3) (g4 : Good p4) (g5 : Good p5) :
    ∀ k, k < 6 → AtH (partsArr p0 p1 p2 p3 p4 p5) (six (had p0 x) (had p1 x) (had p2 x) (had p3 x) (had p4 x) (had p5 x)) x k := by
  intro k hk
  match k, hk with
  | 0, _ => exact ⟨p0, g0, fun W => by kernel_rfl, rfl⟩
  | 1, _ => exact ⟨p1, g1, fun W => by kernel_rfl, rfl⟩
  | 2, _ => exact ⟨p2, g2, fun W => by kernel_rfl, rfl⟩
  | 3, _ => exact ⟨p3, g3, fun W => by kernel_rfl, rfl⟩
  | 4, _ => exact ⟨p4, g4, fun W => by kernel_rfl, rfl⟩
  | 5, _ => exact ⟨p5, g5, fun W => by kernel_rfl, rfl⟩
/-- the first k numbers are found -/
def fill (h : Nat → Int) (k : Nat) : Array Value := #[.int .i64 (if 0 < k then h 0 else 0), .int .i64 (if 1 < k then h 1 else 0), .int .i64 (if 2 < k then h 2 else 0), .int .i64 (if 3 < k then h 3 else 0), .int .i64 (if 4 < k then h 4 else 0), .int .i64 (if 5 < k then h 5 else 0)]
theorem fill_set (h : Nat → Int) (k : Nat) (hk : k < 6) : (fill h k).setIfInBounds k (.int .i64 (h k)) = fill h (k + 1) := by
  match k, hk with
  | 0, _ => rfl
  | 1, _ => rfl
  | 2, _ => rfl
  | 3, _ => rfl
  | 4, _ => rfl
  | 5, _ => rfl
theorem fill_at (h : Nat → Int) (k : Nat) (hk : k < 6) : (fill h k)[k]? = some (.int .i64 0) := by
  match k, hk with
  | 0, _ => rfl
  | 1, _ => rfl
  | 2, _ => rfl
  | 3, _ => rfl
  | 4, _ => rfl
  | 5, _ => rfl
theorem nums_size : (Tryz.prog.info? 228).map (·.size) = some 6 := by kernel_rfl
theorem had_conv (p : Prt) (x : Nat) (hk : p.k ≤ 24) : IntKind.i64.wrap (BitNat.get p.a p.k x : Nat) = (BitNat.get p.a p.k x : Nat) := by
  have h1 := BitNat.get_lt p.a p.k x
  have h2 : 2^p.k ≤ 2^24 := Nat.pow_le_pow_right (by decide) hk
  rw [IntKind.wrap_i64]; omega
set_option maxRecDepth 100000 in
set_option maxHeartbeats 4000000 in
theorem numbersIn_any (x : Nat) (p0 p1 p2 p3 p4 p5 : Prt) (w : World) (hx : x < 18446744073709551616) (g0 : Good p0) (g1 : Good p1) (g2 : Good p2) (g3 : Good p3) (g4 : Good p4) (g5 : Good p5) :
    Calls Tryz.prog 177 #[.int .u64 x, prtsV p0 p1 p2 p3 p4 p5] w fun e w' => e = .returned (numsV (had p0 x) (had p1 x) (had p2 x) (had p3 x) (had p4 x) (had p5 x)) ∧ Below w.heap.size w w' := by
  have HK := Lib.hid (ath_all p0 p1 p2 p3 p4 p5 x g0 g1 g2 g3 g4 g5)
  have hlast : numsV (had p0 x) (had p1 x) (had p2 x) (had p3 x) (had p4 x) (had p5 x) = .agg (fill (six (had p0 x) (had p1 x) (had p2 x) (had p3 x) (had p4 x) (had p5 x)) 6) := rfl
  rw [hlast]
  generalize six (had p0 x) (had p1 x) (had p2 x) (had p3 x) (had p4 x) (had p5 x) = h at *
  clear hlast
  go_enter Tryz.func177, Tryz.ntmps177
  go_upto_region 2 with fail
  generalize hW : ((w.alloc _).alloc _).alloc _ = W
  have hP : Blk W w.heap.size 226 (partsArr p0 p1 p2 p3 p4 p5) := by rw [← hW]; exact ((Blk.new w _ _).alloc _).alloc _
  have hR : Blk W (w.heap.size + 1) 228 (fill h 0) := by
    rw [← hW]
    have := (Blk.new (w.alloc (.cells (partsArr p0 p1 p2 p3 p4 p5) 226)) 228 (fill h 0)).alloc (.cells (fill h 0) 228)
    rw [World.size_alloc] at this
    exact this
  have hF : Blk W (w.heap.size + 1 + 1) 228 (fill h 0) := by
    rw [← hW]
    have := Blk.new ((w.alloc (.cells (partsArr p0 p1 p2 p3 p4 p5) 226)).alloc (.cells (fill h 0) 228)) 228 (fill h 0)
    rw [World.size_alloc, World.size_alloc] at this
    exact this
  have B0 : Below w.heap.size w W := by rw [← hW]; go_grown
  have hs : (partsArr p0 p1 p2 p3 p4 p5).size = 18 := rfl
  clear hW
  generalize partsArr p0 p1 p2 p3 p4 p5 = A at *
  go_wp2_with (first
        | (refine wpList_load_row rfl 226 _ rfl w.heap.size rfl 226 _ (0, 0) _ hP Tryz.underlying226 rfl (by rw [hs]; exact parts_size) ?_))
  clear hP hs
  go_loopw [9] (fun i wr => ∃ k : Nat, k ≤ 6 ∧ i = .int .i64 k ∧ Below w.heap.size w wr ∧ Blk wr (w.heap.size + 1) 228 (fill h 0) ∧ Blk wr (w.heap.size + 1 + 1) 228 (fill h k))
    (fun i wr => 6 - (intOf i).toNat)
  case atStart => exact ⟨0, by omega, rfl, B0, hR, hF⟩
  case round =>
    obtain ⟨k, hk, rfl, hB, hR, hF⟩ := hrel
    by_cases hlt : k < 6
    · obtain ⟨⟨a, b, f, lo, hi⟩, ⟨gf, g0, g1, g2, g3, g4⟩, hx2, hh⟩ := HK.out k hlt
      dsimp only [prtV] at gf g0 g1 g2 g3 g4 hx2
      generalize fnOf f = F at *
      have HH := Lib.hid hh
      have HS := Lib.hid (fill_set h k hlt)
      have HC := Lib.hid (had_conv ⟨a, b, f, lo, hi⟩ x g4)
      have HA := Lib.hid (fill_at h k hlt)
      clear gf hh
      go_upto_region 5 with fail
      generalize hV : wr.alloc _ = V
      have bV : Blk V wr.heap.size 225 #[.int .i64 a, .int .i64 b, .func (.func F) #[] #[]] := by rw [← hV]; exact Blk.new wr _ _
      have rV : Blk V (w.heap.size + 1) 228 (fill h 0) := by rw [← hV]; exact hR.alloc _
      have fV : Blk V (w.heap.size + 1 + 1) 228 (fill h k) := by rw [← hV]; exact hF.alloc _
      have BV : Below w.heap.size w V := by rw [← hV]; exact hB.alloc hB.size _
      clear hV
      have v0 := bV.cell 0 _ rfl
      have v1 := bV.cell 1 _ rfl
      by_cases hb0 : b = 0
      · obtain rfl := hb0
        obtain rfl := g0 rfl
        have HX : Hid (h k = 0) := Lib.hid (by rw [HH.out]; rfl)
        go_wp2_with (go_at_call 236; (with_reducible refine (of_no 0 0 x _ (by omega) (by omega) (by omega) (by omega)).mono ?_); rintro e w1 ⟨rfl, hb⟩; have f1 := fV.below hb fV.lt; have r1 := rV.below hb rV.lt; have B1 := BV.trans (hb.mono BV.size); have vk := f1.cell k _ HA.out; have vf := f1.free)
        go_roundw
        case rel => exact ⟨k + 1, by omega, by go_num, B1.setCell (p := ⟨w.heap.size + 1 + 1, k, none⟩) (by show _ ≤ w.heap.size + 1 + 1; omega) _, r1.far (by omega) _ _, by have := f1.set k (.int .i64 (h k)); rw [HS.out, HX.out] at this; exact this⟩
        case measure => simp [intOf]; omega
      · have HX : Hid (h k = (BitNat.get a b x : Nat)) := Lib.hid (by rw [HH.out]; exact if_neg hb0)
        have hcv : IntKind.i64.wrap (BitNat.get a b x : Nat) = (BitNat.get a b x : Nat) := HC.out
        go_wp2_with (go_at_call 236; (with_reducible refine (of_yes a b x _ (by omega) g1 hx).mono ?_); rintro e w1 ⟨rfl, hb⟩; have f1 := fV.below hb fV.lt; have r1 := rV.below hb rV.lt; have B1 := BV.trans (hb.mono BV.size); have vk := f1.cell k _ HA.out; have vf := f1.free)
        go_roundw
        case rel => exact ⟨k + 1, by omega, by go_num, B1.setCell (p := ⟨w.heap.size + 1 + 1, k, none⟩) (by show _ ≤ w.heap.size + 1 + 1; omega) _, r1.far (by omega) _ _, by have := f1.set k (.int .i64 (h k)); rw [HS.out, HX.out] at this; exact this⟩
        case measure => simp [intOf]; omega
    · obtain rfl : k = 6 := by omega
      have hs := Lib.hid (show (Tryz.prog.info? 228).map (·.size) = some (fill h 6).size from nums_size)
      have ho := Lib.hid (show (fill h 6).all (·.oneCell') = true by simp [fill, Value.oneCell'])
      go_wp2_with (first
        | (refine wpList_load_row rfl 228 _ rfl (w.heap.size + 1 + 1) rfl 228 (fill h 6) (0, 0) _ hF Tryz.underlying228 rfl hs.out ?_)
        | (refine wpList_store_row rfl 228 _ _ rfl (w.heap.size + 1) (fill h 6) rfl rfl 228 (fill h 0) hR hs.out rfl ho.out ?_))
      exact bodyPost_ret (v := .agg (fill h 6)) (results_cell_row rfl _ _ (w.heap.size + 1) 228 _ (0, 0) _ rfl (hR.row _) Tryz.underlying228 rfl hs.out) rfl ⟨rfl, below_setRow hB (by omega) _⟩
end Go.Proofs.YtmknnjjmmfbppaaGreat
