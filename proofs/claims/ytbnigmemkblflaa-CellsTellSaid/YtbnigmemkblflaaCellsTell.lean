/- CellsTell returns true: whatever is done, what is answered, what all cells have, how many operations were done, is as the document says. No condition. -/
import Derived.Test.YtbnigmemkblflaaCellsRef
import Derived.Test.YtbnigmemkblflaaCellsOpen
import Derived.Test.YtbnigmemkblflaaCellsKnown
import Derived.Deep.RegionHeld3
import Derived.BigGuardPart
namespace Go.Proofs.Ytbnigmemkblflaa
open Go.ChangeShapes Go.WideShapes Go.ChangeAt Go.RowKit
set_option linter.unusedVariables false
set_option linter.unusedSimpArgs false
/-- a region may be walked on under a condition that says more -/
theorem wpAnyH_weaken {P : Program} {md : Region.Mode} {ops : Array Oper} {Q : Exit → Act → World → Prop} {S S' : World → Prop} (h : ∀ w, S' w → S w) :
    ∀ (fuel : Nat) (listed : Array Bool) (a : Act) (w : World), wpAnyH P md ops Q S' fuel listed a w → wpAnyH P md ops Q S fuel listed a w
  | 0, _, _, _, hh => hh
  | fuel + 1, _, _, _, hh => ⟨hh.1, fun i hi => wpOp_mono (fun a' w' h' => ⟨h _ h'.1, wpAnyH_weaken h fuel _ a' w' h'.2⟩) (hh.2 i hi)⟩
/-- both kinds of cells, in memory of the law's own, alike -/
structure Both (w wr : World) (C S R T : Nat) (l : List Int) (k : Int) : Prop where
  mine : CellsAt wr C S l k
  ref : RefAt wr R T l k
  base : Below w.heap.size w wr
  c0 : w.heap.size ≤ C
  s0 : w.heap.size ≤ S
  r0 : w.heap.size ≤ R
  t0 : w.heap.size ≤ T
  cr : C ≠ R
  ct : C ≠ T
  sr : S ≠ R
  st : S ≠ T
theorem Both.below {w wr wx : World} {C S R T : Nat} {l : List Int} {k : Int} (h : Both w wr C S R T l k) (hb : Below wr.heap.size wr wx) : Both w wx C S R T l k :=
  ⟨h.mine.keep (Keep.ofBelow (Q := fun _ => False) hb) (fun h => h) (fun h => h), h.ref.keep (Keep.ofBelow (Q := fun _ => False) hb) (fun h => h) (fun h => h), h.base.trans (hb.mono h.base.size), h.c0, h.s0, h.r0, h.t0, h.cr, h.ct, h.sr, h.st⟩
theorem actP_steps (l : List Int) (W I V N : Int) : 0 ≤ (actP l W I V N).2.2 ∧ (actP l W I V N).2.2 ≤ 1 := by
  unfold actP
  split
  · simp
  · split
    · simp
    · repeat' (split <;> try simp)
def BothPost (w : World) (n : Nat) (c r : Value) (wx : World) : Prop := ∃ C S R T, c = cellsV C ∧ r = cellsV R ∧ Both w wx C S R T (List.replicate n 0) 0
theorem make_u64s (n : Nat) (w : World) (hn : n ≤ 16777216) : (Instr.makeSlice 26 (.int .i64 (n : Int)) (.int .i64 (n : Int))).run Try.prog w = .ok (rowV w.heap.size n) (w.alloc (.cells (words (List.replicate n 0)) 31)) := by
  obtain ⟨i, hi, hz0, hz1, hz2⟩ := info_parts u64_info
  have h := run_make (P := Try.prog) w 26 31 i _ Try.underlying26 hi hz0 .i64 .i64 n n (by omega) (by omega) (by rw [hz2]; omega) (by omega)
  rw [h, hz1, Nat.mul_one]
  simp only [Int.toNat_natCast]
  rw [← words_zeros]
  rfl
theorem refRow (w : World) (n : Nat) (S : Nat) : (#[rowV S n, Value.int .i64 0] : Array Value) = #[rowV S (List.replicate n (0 : Int)).length, .int .i64 0] := by rw [List.length_replicate]
theorem both_a {w w1 : World} {n : Nat} (hn : n ≤ 16777216) (hC : CellsAt w1 (w.heap.size + 1) w.heap.size (List.replicate n 0) 0) (hb : Below w.heap.size w w1) :
    BothPost w n (cellsV (w.heap.size + 1)) (cellsV (w1.heap.size + 1)) ((w1.alloc (.cells (words (List.replicate n 0)) 31)).alloc (.cells #[rowV w1.heap.size n, .int .i64 0] 28)) := by
  have hl := hC.own.lt
  have hR : Blk ((w1.alloc (.cells (words (List.replicate n 0)) 31)).alloc (.cells #[rowV w1.heap.size n, .int .i64 0] 28)) (w1.heap.size + 1) 28 #[rowV w1.heap.size (List.replicate n (0 : Int)).length, .int .i64 0] := by
    rw [← refRow w n]; exact blk_two w1 _ _ _
  have hk : Keep (fun _ => False) w1 ((w1.alloc (.cells (words (List.replicate n 0)) 31)).alloc (.cells #[rowV w1.heap.size n, .int .i64 0] 28)) := ((Keep.refl _ _).alloc _).alloc _
  exact ⟨_, _, _, _, rfl, rfl, hC.keep hk (fun h => h) (fun h => h), ⟨hR, (Blk.new w1 _ _).alloc _, by omega, by simpa using hn⟩, (hb.alloc (by omega) _).alloc (by simp; omega) _,
    by omega, by omega, by omega, by omega, by omega, by omega, by omega, by omega⟩
theorem both_b {w w1 : World} {n : Nat} (hn : n ≤ 16777216) (hC : CellsAt w1 (w.heap.size + 1 + 1) (w.heap.size + 1) (List.replicate n 0) 0) (hb : Below (w.heap.size + 1) (w.alloc (.cells (words (List.replicate n 0)) 31)) w1) :
    BothPost w n (cellsV (w.heap.size + 1 + 1)) (cellsV w1.heap.size) (w1.alloc (.cells #[rowV w.heap.size n, .int .i64 0] 28)) := by
  have hl := hC.own.lt
  have hT := (Blk.new w 31 (words (List.replicate n 0))).below hb (by omega)
  have hR : Blk (w1.alloc (.cells #[rowV w.heap.size n, .int .i64 0] 28)) w1.heap.size 28 #[rowV w.heap.size (List.replicate n (0 : Int)).length, .int .i64 0] := by
    rw [← refRow w n]; exact Blk.new w1 _ _
  exact ⟨_, _, _, _, rfl, rfl, hC.keep (Q := fun _ => False) ((Keep.refl _ _).alloc _) (fun h => h) (fun h => h), ⟨hR, hT.alloc _, by omega, by simpa using hn⟩,
    (((Below.refl _ w).alloc (Nat.le_refl _) _).trans (hb.mono (by omega))).alloc (by omega) _, by omega, by omega, by omega, by omega, by omega, by omega, by omega, by omega⟩
theorem both_c {w w1 : World} {n : Nat} (hn : n ≤ 16777216) (hC : CellsAt w1 (w.heap.size + 1 + 1 + 1) (w.heap.size + 1 + 1) (List.replicate n 0) 0)
    (hb : Below (w.heap.size + 1 + 1) ((w.alloc (.cells (words (List.replicate n 0)) 31)).alloc (.cells #[rowV w.heap.size n, .int .i64 0] 28)) w1) :
    BothPost w n (cellsV (w.heap.size + 1 + 1 + 1)) (cellsV (w.heap.size + 1)) w1 := by
  have hl := hC.own.lt
  have hT := ((Blk.new w 31 (words (List.replicate n 0))).alloc (.cells #[rowV w.heap.size n, .int .i64 0] 28)).below hb (by omega)
  have hR : Blk w1 (w.heap.size + 1) 28 #[rowV w.heap.size (List.replicate n (0 : Int)).length, .int .i64 0] := by
    rw [← refRow w n]; exact (blk_two w _ _ _).below hb (by omega)
  exact ⟨_, _, _, _, rfl, rfl, hC, ⟨hR, hT, by omega, by simpa using hn⟩,
    (((Below.refl _ w).alloc (Nat.le_refl _) _).alloc (by simp) _).trans (hb.mono (by omega)), by omega, by omega, by omega, by omega, by omega, by omega, by omega, by omega⟩
set_option maxRecDepth 100000 in
set_option maxHeartbeats 4000000 in
theorem tell_any (n : Nat) (a : Option Addr) (len cap : Nat) (hn : (n : Int) ≤ 255) (hlen : len ≤ 9223372036854775807) (w : World) (hA : ActsAt w w.heap.size a len) :
    Calls Try.prog 3 #[.int .u8 n, .slice a len cap] w fun e w' => e = .returned (.bool true) ∧ Below w.heap.size w w' := by
  obtain ⟨z, hz⟩ : ∃ z : Nat, (n : Int) % 101 = (z : Int) := Int.eq_ofNat_of_zero_le (by omega)
  have hz2 : z ≤ 100 := by omega
  have n0 : 0 ≤ (n : Int) := by omega
  have HA := Lib.hid hA
  clear hA
  have hmk := fun W => make_u64s z W (by omega)
  go_enter Try.func3, Try.ntmps3
  go_upto_region 2 with fail
  have HZ := Lib.hid hz
  clear hz n0
  go_cut [6, 7] from 12 to 17 (fun c r wx => BothPost w z c r wx)
  case first =>
    go_region_held3 (fun _ => True) (exact trivial) (first
      | (go_at_call 6; refine (new_some z _ (by omega)).mono ?_; rintro e w1 ⟨rfl, hC, hb⟩))
    all_goals
      go_wp2_with fail
      go_meet
    · exact both_a (by omega) hC (Below.mono (B := w.heap.size) ⟨hb.os, hb.tape, hb.output, hb.size, hb.block⟩ (Nat.le_refl _))
    · simp only [World.size_drew, World.size_alloc] at hC hb
      exact both_b (by omega) hC ⟨hb.os, hb.tape, hb.output, hb.size, hb.block⟩
    · simp only [World.size_drew, World.size_alloc] at hC hb
      exact both_c (by omega) hC ⟨hb.os, hb.tape, hb.output, hb.size, hb.block⟩
  case rest =>
    obtain ⟨C, S, R, T, rfl, rfl, hB⟩ := hcut
    obtain ⟨l, hl⟩ : ∃ l, List.replicate z (0 : Int) = l := ⟨_, rfl⟩
    have hll : l.length = z := by rw [← hl, List.length_replicate]
    rw [hl] at hB
    clear hl hmk
    have HLen := Lib.hid (len_any C S l 0 _ hB.mine)
    rw [hll] at HLen
    have HLL := Lib.hid hll
    clear hll
    go_upto_region 5 with (first
      | (go_at_call 7; refine HLen.out.mono ?_; rintro e w1 ⟨rfl, hb⟩)
      | (go_at_call 8; refine (works_any _).mono ?_; rintro e w2 ⟨rfl, hb2⟩))
    have hB2 := (hB.below hb).below hb2
    clear hB HLen hb hb2
    go_wp2_with fail
    go_loopw [8] (fun i wr => ∃ (k : Nat) (m : List Int) (s : Int), i = .int .i64 k ∧ k ≤ len ∧ k ≤ 80 ∧ Both w wr C S R T m s ∧ m.length = z ∧ 0 ≤ s ∧ s ≤ k)
      (fun i wr => 80 - (intOf i).toNat)
    case atStart => exact ⟨0, l, 0, rfl, by omega, by omega, hB2, HLL.out, by omega, by omega⟩
    case round =>
      obtain ⟨k, m, s, rfl, hk1, hk2, hB, hml, hs0, hs1⟩ := hrel
      by_cases hlt : k < len
      · by_cases hlt2 : k < 80
        · obtain ⟨b, off, rfl, hb0, W, I, V, N, hW, hI, hV, hN, q0, q1, q2, q3⟩ := HA.out k hlt
          obtain ⟨r, m2, d, ha⟩ : ∃ r m2 d, actP m W I V N = (r, m2, d) := ⟨_, _, _, rfl⟩
          have hm2 : Hid (m2.length = z) := Lib.hid (by have := actP_length m W I V N; rw [ha] at this; dsimp only at this; omega)
          have hd : Hid (0 ≤ d ∧ d ≤ 1) := Lib.hid (by have := actP_steps m W I V N; rw [ha] at this; exact this)
          have HD : Hid (∀ W', CellsAt W' C S m s → Calls Try.prog 9 #[cellsV C, actV W I V N] W' fun e w' => e = .returned (.int .u64 r) ∧ CellsAt w' C S m2 (s + d) ∧ Keep (ofCells C S) W' w') :=
            Lib.hid (fun W' h => by have := do_any C S m s W I V N W' h hW.1 hW.2 hI.1 hI.2 hs0 (by omega); rw [ha] at this; exact this)
          have HR : Hid (∀ W', RefAt W' R T m s → Calls Try.prog 10 #[cellsV R, actV W I V N] W' fun e w' => e = .returned (.int .u64 r) ∧ RefAt w' R T m2 (s + d) ∧ Keep (ofCells R T) W' w') :=
            Lib.hid (fun W' h => by have := rdo_any R T m s W I V N W' h hW.1 hW.2 hI.1 hI.2 hs0 (by omega); rw [ha] at this; exact this)
          have HQ : Hid (∀ W', Below w.heap.size w W' → W'.cell? ⟨b, off + k * 4, none⟩ = some (.int .u8 W) ∧ W'.cell? ⟨b, off + k * 4 + 1, none⟩ = some (.int .i8 I) ∧ W'.cell? ⟨b, off + k * 4 + 2, none⟩ = some (.int .u64 V) ∧ W'.cell? ⟨b, off + k * 4 + 3, none⟩ = some (.int .u64 N)) :=
            Lib.hid (fun W' h => ⟨(h.cell (p := ⟨b, off + k * 4, none⟩) hb0).trans q0, (h.cell (p := ⟨b, off + k * 4 + 1, none⟩) hb0).trans q1, (h.cell (p := ⟨b, off + k * 4 + 2, none⟩) hb0).trans q2, (h.cell (p := ⟨b, off + k * 4 + 3, none⟩) hb0).trans q3⟩)
          have HM := Lib.hid hml
          have HS := Lib.hid hs1
          have cM : CellsAt wr.drew C S m s := hB.mine.keep (Q := fun _ => False) ((Keep.refl _ _).drew) (fun h => h) (fun h => h)
          have rM : RefAt wr.drew R T m s := hB.ref.keep (Q := fun _ => False) ((Keep.refl _ _).drew) (fun h => h) (fun h => h)
          have bM : Below w.heap.size w wr.drew := hB.base.drew
          have n1 := hB.c0
          have n2 := hB.s0
          have n3 := hB.r0
          have n4 := hB.t0
          have n5 := hB.cr
          have n6 := hB.ct
          have n7 := hB.sr
          have n8 := hB.st
          have HF : Hid (True ∧ ¬ ofCells C S R ∧ ¬ ofCells C S T ∧ ¬ ofCells R T C ∧ ¬ ofCells R T S ∧ (∀ i, ofCells C S i → w.heap.size ≤ i) ∧ (∀ i, ofCells R T i → w.heap.size ≤ i)) :=
            Lib.hid ⟨trivial, fun h => by rcases h with h | h <;> omega, fun h => by rcases h with h | h <;> omega, fun h => by rcases h with h | h <;> omega, fun h => by rcases h with h | h <;> omega, fun i h => by rcases h with h | h <;> omega, fun i h => by rcases h with h | h <;> omega⟩
          have HN := Lib.hid (show w.heap.size ≤ C ∧ w.heap.size ≤ S ∧ w.heap.size ≤ R ∧ w.heap.size ≤ T ∧ C ≠ R ∧ C ≠ T ∧ S ≠ R ∧ S ≠ T from ⟨n1, n2, n3, n4, n5, n6, n7, n8⟩)
          clear ha q0 q1 q2 q3 hml hs1 hB hW hI hV hN n1 n2 n3 n4 n5 n6 n7 n8
          have i0 : 0 ≤ (k : Int) := by omega
          have i1 : 0 ≤ (k : Int) ∧ (k : Int) < len := by omega
          go_upto_region 8 with fail
          refine wp_region_held_drew (S := (fun w' => w'.cell? ⟨b, off + k * 4, none⟩ = some (.int .u8 W) ∧ w'.cell? ⟨b, off + k * 4 + 1, none⟩ = some (.int .i8 I) ∧ w'.cell? ⟨b, off + k * 4 + 2, none⟩ = some (.int .u64 V) ∧ w'.cell? ⟨b, off + k * 4 + 3, none⟩ = some (.int .u64 N))) (by kernel_rfl) (HQ.out _ bM) (fun hHeld => ?_)
          refine wpAnyH_take (i := 0) (oi := _) (v := ?_) rfl (by kernel_rfl) (by kernel_rfl) (by kernel_rfl) (fun _ _ _ h => h) (Or.inl ⟨by rfl, ?_⟩) (by assumption) ?_
          rotate_left
          · intro w hSw; (try dsimp only at hSw); go_simp; try with_reducible rfl
          (try simp only [Act.put, List.setIfInBounds_toArray, List.set_cons_zero, List.set_cons_succ])
          refine wpAnyH_take (i := 1) (oi := _) (v := ?_) rfl (by kernel_rfl) (by kernel_rfl) (by kernel_rfl) (fun _ _ _ h => h) (Or.inl ⟨by rfl, ?_⟩) (by assumption) ?_
          rotate_left
          · intro w hSw; (try dsimp only at hSw); go_simp; try with_reducible rfl
          (try simp only [Act.put, List.setIfInBounds_toArray, List.set_cons_zero, List.set_cons_succ])
          refine wpAnyH_take (i := 2) (oi := _) (v := ?_) rfl (by kernel_rfl) (by kernel_rfl) (by kernel_rfl) (fun _ _ _ h => h) (Or.inl ⟨by rfl, ?_⟩) (by assumption) ?_
          rotate_left
          · intro w hSw; (try dsimp only at hSw); go_simp; try with_reducible rfl
          (try simp only [Act.put, List.setIfInBounds_toArray, List.set_cons_zero, List.set_cons_succ])
          refine wpAnyH_take (i := 3) (oi := _) (v := ?_) rfl (by kernel_rfl) (by kernel_rfl) (by kernel_rfl) (fun _ _ _ h => h) (Or.inl ⟨by rfl, ?_⟩) (by assumption) ?_
          rotate_left
          · intro w hSw; (try dsimp only at hSw); go_simp; try with_reducible rfl
          (try simp only [Act.put, List.setIfInBounds_toArray, List.set_cons_zero, List.set_cons_succ])
          refine wpAnyH_take (i := 4) (oi := _) (v := ?_) rfl (by kernel_rfl) (by kernel_rfl) (by kernel_rfl) (fun _ _ _ h => h) (Or.inl ⟨by rfl, ?_⟩) (by assumption) ?_
          rotate_left
          · intro w hSw; (try dsimp only at hSw); go_simp; try with_reducible rfl
          (try simp only [Act.put, List.setIfInBounds_toArray, List.set_cons_zero, List.set_cons_succ])
          refine wpAnyH_take (i := 6) (oi := _) (v := ?_) rfl (by kernel_rfl) (by kernel_rfl) (by kernel_rfl) (fun _ _ _ h => h) (Or.inl ⟨by rfl, ?_⟩) (by assumption) ?_
          rotate_left
          · intro w hSw; (try dsimp only at hSw); go_simp; try with_reducible rfl
          (try simp only [Act.put, List.setIfInBounds_toArray, List.set_cons_zero, List.set_cons_succ])
          refine wpAnyH_take (i := 7) (oi := _) (v := ?_) rfl (by kernel_rfl) (by kernel_rfl) (by kernel_rfl) (fun _ _ _ h => h) (Or.inl ⟨by rfl, ?_⟩) (by assumption) ?_
          rotate_left
          · intro w hSw; (try dsimp only at hSw); go_simp; try with_reducible rfl
          (try simp only [Act.put, List.setIfInBounds_toArray, List.set_cons_zero, List.set_cons_succ])
          refine wpAnyH_take (i := 8) (oi := _) (v := ?_) rfl (by kernel_rfl) (by kernel_rfl) (by kernel_rfl) (fun _ _ _ h => h) (Or.inl ⟨by rfl, ?_⟩) (by assumption) ?_
          rotate_left
          · intro w hSw; (try dsimp only at hSw); go_simp; try with_reducible rfl
          (try simp only [Act.put, List.setIfInBounds_toArray, List.set_cons_zero, List.set_cons_succ])
          refine wpAnyH_take (i := 9) (oi := _) (v := ?_) rfl (by kernel_rfl) (by kernel_rfl) (by kernel_rfl) (fun _ _ _ h => h) (Or.inl ⟨by rfl, ?_⟩) (by assumption) ?_
          rotate_left
          · intro w hSw; (try dsimp only at hSw); go_simp; try with_reducible rfl
          (try simp only [Act.put, List.setIfInBounds_toArray, List.set_cons_zero, List.set_cons_succ])
          refine wpAnyH_take (i := 10) (oi := _) (v := ?_) rfl (by kernel_rfl) (by kernel_rfl) (by kernel_rfl) (fun _ _ _ h => h) (Or.inl ⟨by rfl, ?_⟩) (by assumption) ?_
          rotate_left
          · intro w hSw; (try dsimp only at hSw); go_simp; try with_reducible rfl
          (try simp only [Act.put, List.setIfInBounds_toArray, List.set_cons_zero, List.set_cons_succ])
          refine wpAnyH_ready (rs := [5]) (by kernel_rfl) (by simp) ?_
          refine AllReadyH.cons rfl (fun K hK => ?_) AllReadyH.nil
          go_simp
          go_at_call 9
          refine (HD.out _ cM).mono ?_
          rintro e w3 ⟨rfl, cN, kM⟩
          replace rM := rM.keep kM HF.out.2.1 HF.out.2.2.1
          replace bM := bM.trans (kM.below bM.size (fun i _ h => HF.out.2.2.2.2.2.1 i h))
          replace cM := cN
          clear kM
          go_wp2_with fail
          refine hK.out _ _ (HQ.out _ bM) (fun hHeld => ?_)
          clear hK K
          (try dsimp only [Act.put]); (try simp only [Act.put, List.setIfInBounds_toArray, List.set_cons_zero, List.set_cons_succ])
          refine wpAnyH_ready (rs := [11]) (by kernel_rfl) (by simp) ?_
          refine AllReadyH.cons rfl (fun K hK => ?_) AllReadyH.nil
          go_simp
          go_at_call 10
          refine (HR.out _ rM).mono ?_
          rintro e w3 ⟨rfl, rN, kM⟩
          replace cM := cM.keep kM HF.out.2.2.2.1 HF.out.2.2.2.2.1
          replace bM := bM.trans (kM.below bM.size (fun i _ h => HF.out.2.2.2.2.2.2 i h))
          replace rM := rN
          clear kM
          go_wp2_with fail
          refine hK.out _ _ (HQ.out _ bM) (fun hHeld => ?_)
          clear hK K
          (try dsimp only [Act.put]); (try simp only [Act.put, List.setIfInBounds_toArray, List.set_cons_zero, List.set_cons_succ])
          refine wpAnyH_weaken (S' := (fun w' => (w'.cell? ⟨b, off + k * 4, none⟩ = some (.int .u8 W) ∧ w'.cell? ⟨b, off + k * 4 + 1, none⟩ = some (.int .i8 I) ∧ w'.cell? ⟨b, off + k * 4 + 2, none⟩ = some (.int .u64 V) ∧ w'.cell? ⟨b, off + k * 4 + 3, none⟩ = some (.int .u64 N)) ∧ w'.cell? ⟨R, 0, none⟩ = some (rowV T m2.length) ∧ w'.cell? ⟨R, 1, none⟩ = some (.int .i64 (s + d)))) (fun _ h => h.1) _ _ _ _ ?_
          replace hHeld : (fun w' => (w'.cell? ⟨b, off + k * 4, none⟩ = some (.int .u8 W) ∧ w'.cell? ⟨b, off + k * 4 + 1, none⟩ = some (.int .i8 I) ∧ w'.cell? ⟨b, off + k * 4 + 2, none⟩ = some (.int .u64 V) ∧ w'.cell? ⟨b, off + k * 4 + 3, none⟩ = some (.int .u64 N)) ∧ w'.cell? ⟨R, 0, none⟩ = some (rowV T m2.length) ∧ w'.cell? ⟨R, 1, none⟩ = some (.int .i64 (s + d))) w3 := ⟨HQ.out _ bM, rM.own.cell 0 _ rfl, rM.own.cell 1 _ rfl⟩
          refine wpAnyH_take (i := 12) (oi := _) (v := ?_) rfl (by kernel_rfl) (by kernel_rfl) (by kernel_rfl) (fun _ _ _ h => h) (Or.inl ⟨by rfl, ?_⟩) (by assumption) ?_
          rotate_left
          · intro w hSw; (try dsimp only at hSw); go_simp; try with_reducible rfl
          (try simp only [Act.put, List.setIfInBounds_toArray, List.set_cons_zero, List.set_cons_succ])
          refine wpAnyH_take (i := 13) (oi := _) (v := ?_) rfl (by kernel_rfl) (by kernel_rfl) (by kernel_rfl) (fun _ _ _ h => h) (Or.inl ⟨by rfl, ?_⟩) (by assumption) ?_
          rotate_left
          · intro w hSw; (try dsimp only at hSw); go_simp; try with_reducible rfl
          (try simp only [Act.put, List.setIfInBounds_toArray, List.set_cons_zero, List.set_cons_succ])
          refine wpAnyH_take (i := 14) (oi := _) (v := ?_) rfl (by kernel_rfl) (by kernel_rfl) (by kernel_rfl) (fun _ _ _ h => h) (Or.inl ⟨by rfl, ?_⟩) (by assumption) ?_
          rotate_left
          · intro w hSw; (try dsimp only at hSw); go_simp; try with_reducible rfl
          (try simp only [Act.put, List.setIfInBounds_toArray, List.set_cons_zero, List.set_cons_succ])
          refine wpAnyH_take (i := 16) (oi := _) (v := ?_) rfl (by kernel_rfl) (by kernel_rfl) (by kernel_rfl) (fun _ _ _ h => h) (Or.inl ⟨by rfl, ?_⟩) (by assumption) ?_
          rotate_left
          · intro w hSw; (try dsimp only at hSw); go_simp; try with_reducible rfl
          (try simp only [Act.put, List.setIfInBounds_toArray, List.set_cons_zero, List.set_cons_succ])
          refine wpAnyH_take (i := 17) (oi := _) (v := ?_) rfl (by kernel_rfl) (by kernel_rfl) (by kernel_rfl) (fun _ _ _ h => h) (Or.inl ⟨by rfl, ?_⟩) (by assumption) ?_
          rotate_left
          · intro w hSw; (try dsimp only at hSw); go_simp; try with_reducible rfl
          (try simp only [Act.put, List.setIfInBounds_toArray, List.set_cons_zero, List.set_cons_succ])
          refine wpAnyH_take (i := 18) (oi := _) (v := ?_) rfl (by kernel_rfl) (by kernel_rfl) (by kernel_rfl) (fun _ _ _ h => h) (Or.inl ⟨by rfl, ?_⟩) (by assumption) ?_
          rotate_left
          · intro w hSw; (try dsimp only at hSw); go_simp; try with_reducible rfl
          (try simp only [Act.put, List.setIfInBounds_toArray, List.set_cons_zero, List.set_cons_succ])
          refine wpAnyH_take (i := 19) (oi := _) (v := ?_) rfl (by kernel_rfl) (by kernel_rfl) (by kernel_rfl) (fun _ _ _ h => h) (Or.inl ⟨by rfl, ?_⟩) (by assumption) ?_
          rotate_left
          · intro w hSw; (try dsimp only at hSw); go_simp; try with_reducible rfl
          (try simp only [Act.put, List.setIfInBounds_toArray, List.set_cons_zero, List.set_cons_succ])
          refine wpAnyH_ready (rs := [15]) (by kernel_rfl) (by simp) ?_
          refine AllReadyH.cons rfl (fun K hK => ?_) AllReadyH.nil
          go_simp
          go_at_call 11
          refine (steps_any C S _ _ _ cM).mono ?_
          rintro e w4 ⟨rfl, rfl⟩
          go_wp2_with fail
          refine hK.out _ _ (⟨HQ.out _ bM, rM.own.cell 0 _ rfl, rM.own.cell 1 _ rfl⟩) (fun hHeld => ?_)
          clear hK K
          (try dsimp only [Act.put]); (try simp only [Act.put, List.setIfInBounds_toArray, List.set_cons_zero, List.set_cons_succ])
          refine wpAnyH_take (i := 20) (oi := _) (v := ?_) rfl (by kernel_rfl) (by kernel_rfl) (by kernel_rfl) (fun _ _ _ h => h) (Or.inl ⟨by rfl, ?_⟩) (by assumption) ?_
          rotate_left
          · intro w hSw; (try dsimp only at hSw); go_simp; try with_reducible rfl
          (try simp only [Act.put, List.setIfInBounds_toArray, List.set_cons_zero, List.set_cons_succ])
          refine wpAnyH_take (i := 21) (oi := _) (v := ?_) rfl (by kernel_rfl) (by kernel_rfl) (by kernel_rfl) (fun _ _ _ h => h) (Or.inl ⟨by rfl, ?_⟩) (by assumption) ?_
          rotate_left
          · intro w hSw; (try dsimp only at hSw); go_simp; try with_reducible rfl
          (try simp only [Act.put, List.setIfInBounds_toArray, List.set_cons_zero, List.set_cons_succ])
          refine wpAnyH_take (i := 22) (oi := _) (v := ?_) rfl (by kernel_rfl) (by kernel_rfl) (by kernel_rfl) (fun _ _ _ h => h) (Or.inl ⟨by rfl, ?_⟩) (by assumption) ?_
          rotate_left
          · intro w hSw; (try dsimp only at hSw); go_simp; try with_reducible rfl
          (try simp only [Act.put, List.setIfInBounds_toArray, List.set_cons_zero, List.set_cons_succ])
          refine wpAnyH_take (i := 23) (oi := _) (v := ?_) rfl (by kernel_rfl) (by kernel_rfl) (by kernel_rfl) (fun _ _ _ h => h) (Or.inl ⟨by rfl, ?_⟩) (by assumption) ?_
          rotate_left
          · intro w hSw; (try dsimp only at hSw); go_simp; try with_reducible rfl
          (try simp only [Act.put, List.setIfInBounds_toArray, List.set_cons_zero, List.set_cons_succ])
          refine wpAnyH_take (i := 25) (oi := _) (v := ?_) rfl (by kernel_rfl) (by kernel_rfl) (by kernel_rfl) (fun _ _ _ h => h) (Or.inl ⟨by rfl, ?_⟩) (by assumption) ?_
          rotate_left
          · intro w hSw; (try dsimp only at hSw); go_simp; try with_reducible rfl
          (try simp only [Act.put, List.setIfInBounds_toArray, List.set_cons_zero, List.set_cons_succ])
          refine wpAnyH_take (i := 26) (oi := _) (v := ?_) rfl (by kernel_rfl) (by kernel_rfl) (by kernel_rfl) (fun _ _ _ h => h) (Or.inl ⟨by rfl, ?_⟩) (by assumption) ?_
          rotate_left
          · intro w hSw; (try dsimp only at hSw); go_simp; try with_reducible rfl
          (try simp only [Act.put, List.setIfInBounds_toArray, List.set_cons_zero, List.set_cons_succ])
          refine wpAnyH_take (i := 27) (oi := _) (v := ?_) rfl (by kernel_rfl) (by kernel_rfl) (by kernel_rfl) (fun _ _ _ h => h) (Or.inl ⟨by rfl, ?_⟩) (by assumption) ?_
          rotate_left
          · intro w hSw; (try dsimp only at hSw); go_simp; try with_reducible rfl
          (try simp only [Act.put, List.setIfInBounds_toArray, List.set_cons_zero, List.set_cons_succ])
          refine wpAnyH_take (i := 28) (oi := _) (v := ?_) rfl (by kernel_rfl) (by kernel_rfl) (by kernel_rfl) (fun _ _ _ h => h) (Or.inl ⟨by rfl, ?_⟩) (by assumption) ?_
          rotate_left
          · intro w hSw; (try dsimp only at hSw); go_simp; try with_reducible rfl
          (try simp only [Act.put, List.setIfInBounds_toArray, List.set_cons_zero, List.set_cons_succ])
          refine wpAnyH_ready (rs := [24]) (by kernel_rfl) (by simp) ?_
          refine AllReadyH.cons rfl (fun K hK => ?_) AllReadyH.nil
          go_simp
          go_at_call 13
          refine (all_any C S _ _ _ cM).mono ?_
          rintro e w5 ⟨u, rfl, hb, hrow⟩
          obtain ⟨ua, uc, rfl⟩ := none_slice hrow
          have hA := WordsAt.owns hrow
          clear hrow
          replace rM := rM.keep (Keep.ofBelow (Q := fun _ => False) hb) (fun h => h) (fun h => h)
          replace cM := cM.keep (Keep.ofBelow (Q := fun _ => False) hb) (fun h => h) (fun h => h)
          replace bM := bM.trans (hb.mono bM.size)
          clear hb
          go_wp2_with fail
          refine hK.out _ _ (⟨HQ.out _ bM, rM.own.cell 0 _ rfl, rM.own.cell 1 _ rfl⟩) (fun hHeld => ?_)
          clear hK K
          (try dsimp only [Act.put]); (try simp only [Act.put, List.setIfInBounds_toArray, List.set_cons_zero, List.set_cons_succ])
          refine wpAnyH_ready (rs := [29]) (by kernel_rfl) (by simp) ?_
          refine AllReadyH.cons rfl (fun K hK => ?_) AllReadyH.nil
          go_simp
          go_at_call 12
          refine (same_yes _ _ m2 _ rM.few hA (WordsAt.blk _ rM.row)).mono ?_
          rintro e w6 ⟨rfl, hb⟩
          replace rM := rM.keep (Keep.ofBelow (Q := fun _ => False) hb) (fun h => h) (fun h => h)
          replace cM := cM.keep (Keep.ofBelow (Q := fun _ => False) hb) (fun h => h) (fun h => h)
          replace bM := bM.trans (hb.mono bM.size)
          clear hb
          go_wp2_with fail
          refine hK.out _ _ (⟨HQ.out _ bM, rM.own.cell 0 _ rfl, rM.own.cell 1 _ rfl⟩) (fun hHeld => ?_)
          clear hK K
          (try dsimp only [Act.put]); (try simp only [Act.put, List.setIfInBounds_toArray, List.set_cons_zero, List.set_cons_succ])
          refine wpAnyH_take (i := 30) (oi := _) (v := ?_) rfl (by kernel_rfl) (by kernel_rfl) (by kernel_rfl) (fun _ _ _ h => h) (Or.inl ⟨by rfl, ?_⟩) (by assumption) ?_
          rotate_left
          · intro w hSw; (try dsimp only at hSw); go_simp; try with_reducible rfl
          (try simp only [Act.put, List.setIfInBounds_toArray, List.set_cons_zero, List.set_cons_succ])
          refine wpAnyH_take (i := 31) (oi := _) (v := ?_) rfl (by kernel_rfl) (by kernel_rfl) (by kernel_rfl) (fun _ _ _ h => h) (Or.inl ⟨by rfl, ?_⟩) (by assumption) ?_
          rotate_left
          · intro w hSw; (try dsimp only at hSw); go_simp; try with_reducible rfl
          (try simp only [Act.put, List.setIfInBounds_toArray, List.set_cons_zero, List.set_cons_succ])
          refine wpAnyH_done (by kernel_rfl) ?_ _
          all_goals
            clear i1
            go_wp2_with fail
            go_roundw
            case rel => exact ⟨k + 1, m2, s + d, by go_num, by omega, by omega, ⟨cM, rM, bM, by have := HN.out.1; omega, by have := HN.out.2.1; omega, by have := HN.out.2.2.1; omega, by have := HN.out.2.2.2.1; omega, HN.out.2.2.2.2.1, HN.out.2.2.2.2.2.1, HN.out.2.2.2.2.2.2.1, HN.out.2.2.2.2.2.2.2⟩, hm2.out, by have := hd.out; omega, by have := hd.out; have := HS.out; omega⟩
            case measure => simp [intOf]; omega
        · have hke : k = 80 := by omega
          have HE := Lib.hid hke
          clear hke
          go_wp2_with fail
          go_ret
          exact ⟨rfl, hB.base⟩
      · go_wp2_with fail
        go_ret
        exact ⟨rfl, hB.base⟩
end Go.Proofs.Ytbnigmemkblflaa
