/- Package spec: New, Flag; Open and Copy of none. -/
import Derived.Test.YtcgljmeppmdihaaSpB
import Derived.Laws.MakeOwn
namespace Go.Proofs.Ytcgljmeppmdihaa
open Go.ChangeShapes Go.WideShapes Go.ChangeAt Go.RowKit
set_option linter.unusedVariables false
set_option maxRecDepth 100000
set_option linter.unusedSimpArgs false
theorem thr_info : (Try.prog.info? 72).map (fun i => (i.zero, i.size, i.bytes)) = some (some (.agg (thC th0).toArray), 9, 72) := by kernel_rfl
theorem obj_info : (Try.prog.info? 60).map (fun i => (i.zero, i.size, i.bytes)) = some (some (.agg (obC ⟨0, 0, []⟩ (.slice none 0 0)).toArray), 3, 40) := by kernel_rfl
theorem made_at (z : Array Value) (n k : Nat) (h : k < n) : (madeCells z n)[k]? = some z[k % z.size]! := by simp [madeCells, h]
theorem make_thrs (n : Nat) (hn : n ≤ 32766) : ∀ w, (Instr.makeSlice 55 (.int .i64 (n : Int)) (.int .i64 (n : Int))).run Try.prog w = .ok (.slice (some ⟨w.heap.size, 0, none⟩) n n) (w.alloc (.cells (madeCells (thC th0).toArray (n * 9)) 72)) := by
  intro w
  obtain ⟨i, hi, hz0, hz1, hz2⟩ := info_parts thr_info
  have h := run_make (P := Try.prog) w 55 72 i _ Try.underlying55 hi hz0 .i64 .i64 n n (by omega) (by omega) (by rw [hz2]; omega) (by omega)
  rw [h, hz1]
  rfl
theorem make_objs (n : Nat) (hn : n ≤ 65536) : ∀ w, (Instr.makeSlice 56 (.int .i64 (n : Int)) (.int .i64 (n : Int))).run Try.prog w = .ok (.slice (some ⟨w.heap.size, 0, none⟩) n n) (w.alloc (.cells (madeCells (obC ⟨0, 0, []⟩ (.slice none 0 0)).toArray (n * 3)) 60)) := by
  intro w
  obtain ⟨i, hi, hz0, hz1, hz2⟩ := info_parts obj_info
  have h := run_make (P := Try.prog) w 56 60 i _ Try.underlying56 hi hz0 .i64 .i64 n n (by omega) (by omega) (by rw [hz2]; omega) (by omega)
  rw [h, hz1]
  rfl
/-- while the owners are laid: k of them are -1 -/
def midS (m n k : Nat) : SS := ⟨List.replicate m th0, (List.range n).map fun i => if i < k then ⟨-1, 0, []⟩ else ⟨0, 0, []⟩⟩
theorem midS_end (m n : Nat) : midS m n n = newS m n := by
  unfold midS newS
  congr 1
  apply List.ext_getElem?
  intro i
  rw [List.getElem?_map, List.getElem?_replicate]
  by_cases h : i < n
  · rw [List.getElem?_range h]; simp [h]
  · rw [List.getElem?_eq_none (by simp; omega)]; simp [h]
theorem midS_at (m n k : Nat) (h : k < n) : (midS m n k).O[k]? = some ⟨0, 0, []⟩ := by
  show ((List.range n).map _)[k]? = _
  rw [List.getElem?_map, List.getElem?_range h]
  simp
theorem midS_next (m n k : Nat) (h : k < n) : (midS m n k).setO k ⟨-1, 0, []⟩ = midS m n (k + 1) := by
  unfold SS.setO midS
  congr 1
  apply List.ext_getElem?
  intro i
  rw [List.getElem?_set]
  by_cases hi : i < n
  · rw [List.getElem?_map, List.getElem?_map, List.getElem?_range hi]
    by_cases e : k = i
    · subst e; simp [h]
    · rw [if_neg e]
      simp only [Option.map_some]
      by_cases h1 : i < k
      · rw [if_pos h1, if_pos (by omega)]
      · rw [if_neg h1, if_neg (by omega)]
  · rw [List.getElem?_eq_none (by simp; omega), List.getElem?_eq_none (by simp; omega)]
    split
    · omega
    · rfl
def newA (P T O : Nat) : Nat → Prop := fun b => b = P ∨ b = T ∨ b = O
theorem blk_three (w : World) (a b : Obj) (t : TypeId) (cs : Array Value) : Blk (((w.alloc a).alloc b).alloc (.cells cs t)) (w.heap.size + 1 + 1) t cs := by
  have := Blk.new ((w.alloc a).alloc b) t cs
  rwa [World.size_alloc, World.size_alloc] at this
/-- how a new automaton lies -/
theorem laid_new {w : World} {P T O m n cT cO : Nat} (hP : Blk w P 58 #[.slice (some ⟨T, 0, none⟩) m cT, .slice (some ⟨O, 0, none⟩) n cO]) (hT : Blk w T 72 (madeCells (thC th0).toArray (m * 9))) (hO : Blk w O 60 (madeCells (obC ⟨0, 0, []⟩ (.slice none 0 0)).toArray (n * 3))) :
    SpecAt w (newA P T O) ⟨P, T, O, cT, cO⟩ (midS m n 0) := by
  refine ⟨by simpa [midS] using hP, ⟨_, hT, fun t x hx j v hj => ?_⟩, ⟨fun _ => .slice none 0 0, ⟨_, hO, fun o b hb j v hj => ?_⟩, ⟨fun o b hb => ?_, fun o g _ hg => by simp [Value.ownBlock] at hg, fun o u g _ _ _ hg => by simp [Value.ownBlock] at hg⟩⟩, ⟨.inl rfl, .inr (.inl rfl), .inr (.inr rfl)⟩, fun b hb => ?_⟩
  · simp [midS, List.getElem?_replicate] at hx
    obtain ⟨ht, rfl⟩ := hx
    have hj9 : j < 9 := by have := (List.getElem?_eq_some_iff.1 hj).1; simpa [thC] using this
    rw [made_at _ _ _ (by omega), show (thC th0).toArray.size = 9 from rfl, show (t * 9 + j) % 9 = j by omega]
    rw [getElem!_pos _ j (by show j < 9; omega)]
    obtain ⟨h1, h2⟩ := List.getElem?_eq_some_iff.1 hj
    simp [h2]
  · have hon : o < n := by have := (List.getElem?_eq_some_iff.1 hb).1; simpa [midS] using this
    have hb2 : b = ⟨0, 0, []⟩ := by
      change ((List.range n).map _)[o]? = _ at hb
      rw [List.getElem?_map, List.getElem?_range hon] at hb
      simp at hb
      exact hb.symm
    subst hb2
    have hj9 : j < 3 := by have := (List.getElem?_eq_some_iff.1 hj).1; simpa [obC] using this
    rw [made_at _ _ _ (by omega), show (obC ⟨0, 0, []⟩ (.slice none 0 0)).toArray.size = 3 from rfl, show (o * 3 + j) % 3 = j by omega]
    rw [getElem!_pos _ j (by show j < 3; omega)]
    obtain ⟨h1, h2⟩ := List.getElem?_eq_some_iff.1 hj
    simp [h2]
  · have hon : o < n := by have := (List.getElem?_eq_some_iff.1 hb).1; simpa [midS] using this
    have hb2 : b = ⟨0, 0, []⟩ := by
      change ((List.range n).map _)[o]? = _ at hb
      rw [List.getElem?_map, List.getElem?_range hon] at hb
      simp at hb
      exact hb.symm
    subst hb2
    exact World.ownsRow_nil _ _ _ _
  · rcases hb with rfl | rfl | rfl
    · exact hP.lt
    · exact hT.lt
    · exact hO.lt
def NewPost (w : World) (m n : Nat) (e : Ending) (w' : World) : Prop := ∃ (p : Pl) (A : Nat → Prop), e = .returned (spV p) ∧ SpecAt w' A p (newS m n) ∧ (∀ b, A b → w.heap.size ≤ b) ∧ Below w.heap.size w w'
set_option maxHeartbeats 4000000 in
theorem new_some (m n : Nat) (w : World) (hm : 1 ≤ m ∧ m ≤ 32766) (hn : 1 ≤ n ∧ n ≤ 65536) :
    Calls Try.prog 7 #[.int .i64 (m : Int), .int .i64 (n : Int)] w (NewPost w m n) := by
  have mk1 := make_thrs m hm.2
  have mk2 := make_objs n hn.2
  obtain ⟨hm1, hm2⟩ := hm
  obtain ⟨hn1, hn2⟩ := hn
  go_enter Try.func7, Try.ntmps7
  go_upto_region 3 with fail
  go_region_with (fail)
  · (try simp only [Act.put, List.setIfInBounds_toArray, List.set_cons_zero, List.set_cons_succ])
    generalize hq : World.drew _ = W
    have hT : Blk W (w.heap.size) 72 (madeCells (thC th0).toArray (m * 9)) := by rw [← hq]; exact (((Blk.new w _ _).alloc _).alloc _).drew
    have hO : Blk W (w.heap.size + 1) 60 (madeCells (obC ⟨0, 0, []⟩ (.slice none 0 0)).toArray (n * 3)) := by rw [← hq]; exact ((blk_two w _ _ _).alloc _).drew
    have hP : Blk W (w.heap.size + 1 + 1) 58 #[.slice (some ⟨w.heap.size, 0, none⟩) m m, .slice (some ⟨w.heap.size + 1, 0, none⟩) n n] := by
      rw [← hq]
      exact (blk_three w _ _ _ _).drew
    have hb : Below w.heap.size w W := by rw [← hq]; exact ((((Below.refl _ w).alloc (Nat.le_refl _) _).alloc (by simp) _).alloc (by simp; omega) _).trans ⟨rfl, rfl, rfl, by simp [World.drew], fun _ _ => rfl⟩
    have hS := laid_new hP hT hO
    clear hq
    obtain ⟨n0, hn0⟩ : ∃ n0, n0 = w.heap.size := ⟨_, rfl⟩
    have HN0 := Lib.hid hn0
    have HBW := Lib.hid hb
    rw [← hn0] at hS ⊢
    clear hP hT hO hb hn0
    obtain ⟨q, hq⟩ : ∃ q : Pl, q = ⟨n0 + 1 + 1, n0, n0 + 1, m, n⟩ := ⟨_, rfl⟩
    rw [← hq] at hS
    rw [show (Value.pointer (some ⟨n0 + 1 + 1, 0, none⟩)) = spV q by rw [hq]]
    have hA : ∀ b, newA (n0 + 1 + 1) (n0) (n0 + 1) b → w.heap.size ≤ b := fun b hb => by have := HN0.out; unfold newA at hb; omega
    generalize newA (n0 + 1 + 1) (n0) (n0 + 1) = A at hA hS ⊢
    have HA := Lib.hid hA
    have c1 := hS.c1
    rw [show (midS m n 0).O.length = n by simp [midS]] at c1
    have HS := Lib.hid hS
    clear hA hS hq
    go_upto_region 5 with fail
    clear c1
    go_loopw [32] (fun v32 wr => ∃ k : Nat, k ≤ n ∧ v32 = .int .i64 k ∧ SpecAt wr A q (midS m n k) ∧ Keep A W wr) (fun v32 _ => n - (intOf v32).toNat)
    case atStart => exact ⟨0, by omega, rfl, HS.out, Keep.refl _ _⟩
    case round =>
      obtain ⟨k, hk, rfl, hS2, hk2⟩ := hrel
      have c1 := hS2.c1
      rw [show (midS m n k).O.length = n by simp [midS]] at c1
      by_cases hlt : k < n
      · have hob := (hS2.ob (midS_at m n k hlt)).1
        have fo := hS2.freeO (k * 3)
        have ix := idx_objs q.O n q.cO k hlt
        have hmine := hS2.mine.2.2
        have HS3 := Lib.hid (hS2.setO (midS_at m n k hlt) (b' := ⟨-1, 0, []⟩) 0 (.int .i64 (-1)) (by omega) (fun _ => rfl) rfl)
        have HK3 := Lib.hid (hk2.set (p := ⟨q.O, k * 3, none⟩) (fun _ => hmine) (.int .i64 (-1)))
        have hki : (k : Int) < (n : Int) := by omega
        clear hS2 hk2
        go_wp2_with fail
        go_roundw
        case rel =>
          refine ⟨k + 1, by omega, by go_num, ?_, HK3.out⟩
          have := HS3.out
          rwa [midS_next m n k hlt] at this
        case measure => simp [intOf]; omega
      · obtain rfl : k = n := by omega
        have hki : ¬ (k : Int) < (k : Int) := by omega
        have HS3 := Lib.hid hS2
        have HK3 := Lib.hid hk2
        clear hS2 hk2
        go_wp2_with fail
        go_ret
        refine ⟨q, A, rfl, ?_, HA.out, HBW.out.trans (HK3.out.below HBW.out.size (fun b _ hb => HA.out b hb))⟩
        have := HS3.out
        rwa [midS_end] at this
  · (try simp only [Act.put, List.setIfInBounds_toArray, List.set_cons_zero, List.set_cons_succ])
    generalize hq : World.drew _ = W
    have hT : Blk W (w.heap.size + 1) 72 (madeCells (thC th0).toArray (m * 9)) := by rw [← hq]; exact ((blk_two w _ _ _).alloc _).drew
    have hO : Blk W (w.heap.size) 60 (madeCells (obC ⟨0, 0, []⟩ (.slice none 0 0)).toArray (n * 3)) := by rw [← hq]; exact (((Blk.new w _ _).alloc _).alloc _).drew
    have hP : Blk W (w.heap.size + 1 + 1) 58 #[.slice (some ⟨w.heap.size + 1, 0, none⟩) m m, .slice (some ⟨w.heap.size, 0, none⟩) n n] := by
      rw [← hq]
      exact (blk_three w _ _ _ _).drew
    have hb : Below w.heap.size w W := by rw [← hq]; exact ((((Below.refl _ w).alloc (Nat.le_refl _) _).alloc (by simp) _).alloc (by simp; omega) _).trans ⟨rfl, rfl, rfl, by simp [World.drew], fun _ _ => rfl⟩
    have hS := laid_new hP hT hO
    clear hq
    obtain ⟨n0, hn0⟩ : ∃ n0, n0 = w.heap.size := ⟨_, rfl⟩
    have HN0 := Lib.hid hn0
    have HBW := Lib.hid hb
    rw [← hn0] at hS ⊢
    clear hP hT hO hb hn0
    obtain ⟨q, hq⟩ : ∃ q : Pl, q = ⟨n0 + 1 + 1, n0 + 1, n0, m, n⟩ := ⟨_, rfl⟩
    rw [← hq] at hS
    rw [show (Value.pointer (some ⟨n0 + 1 + 1, 0, none⟩)) = spV q by rw [hq]]
    have hA : ∀ b, newA (n0 + 1 + 1) (n0 + 1) (n0) b → w.heap.size ≤ b := fun b hb => by have := HN0.out; unfold newA at hb; omega
    generalize newA (n0 + 1 + 1) (n0 + 1) (n0) = A at hA hS ⊢
    have HA := Lib.hid hA
    have c1 := hS.c1
    rw [show (midS m n 0).O.length = n by simp [midS]] at c1
    have HS := Lib.hid hS
    clear hA hS hq
    go_upto_region 5 with fail
    clear c1
    go_loopw [32] (fun v32 wr => ∃ k : Nat, k ≤ n ∧ v32 = .int .i64 k ∧ SpecAt wr A q (midS m n k) ∧ Keep A W wr) (fun v32 _ => n - (intOf v32).toNat)
    case atStart => exact ⟨0, by omega, rfl, HS.out, Keep.refl _ _⟩
    case round =>
      obtain ⟨k, hk, rfl, hS2, hk2⟩ := hrel
      have c1 := hS2.c1
      rw [show (midS m n k).O.length = n by simp [midS]] at c1
      by_cases hlt : k < n
      · have hob := (hS2.ob (midS_at m n k hlt)).1
        have fo := hS2.freeO (k * 3)
        have ix := idx_objs q.O n q.cO k hlt
        have hmine := hS2.mine.2.2
        have HS3 := Lib.hid (hS2.setO (midS_at m n k hlt) (b' := ⟨-1, 0, []⟩) 0 (.int .i64 (-1)) (by omega) (fun _ => rfl) rfl)
        have HK3 := Lib.hid (hk2.set (p := ⟨q.O, k * 3, none⟩) (fun _ => hmine) (.int .i64 (-1)))
        have hki : (k : Int) < (n : Int) := by omega
        clear hS2 hk2
        go_wp2_with fail
        go_roundw
        case rel =>
          refine ⟨k + 1, by omega, by go_num, ?_, HK3.out⟩
          have := HS3.out
          rwa [midS_next m n k hlt] at this
        case measure => simp [intOf]; omega
      · obtain rfl : k = n := by omega
        have hki : ¬ (k : Int) < (k : Int) := by omega
        have HS3 := Lib.hid hS2
        have HK3 := Lib.hid hk2
        clear hS2 hk2
        go_wp2_with fail
        go_ret
        refine ⟨q, A, rfl, ?_, HA.out, HBW.out.trans (HK3.out.below HBW.out.size (fun b _ hb => HA.out b hb))⟩
        have := HS3.out
        rwa [midS_end] at this
theorem new_none (m n : Int) (w : World) (h : m < 1 ∨ 32766 < m ∨ n < 1 ∨ 65536 < n) :
    Calls Try.prog 7 #[.int .i64 m, .int .i64 n] w fun e w' => e = .returned (.pointer none) ∧ w = w' := by
  by_cases h1 : m < 1
  · clear h
    go_enter Try.func7, Try.ntmps7
    go_wp2_with fail
    go_ret
    exact ⟨rfl, rfl⟩
  by_cases h2 : 32766 < m
  · clear h
    go_enter Try.func7, Try.ntmps7
    go_wp2_with fail
    go_ret
    exact ⟨rfl, rfl⟩
  by_cases h3 : n < 1
  · clear h
    go_enter Try.func7, Try.ntmps7
    go_wp2_with fail
    go_ret
    exact ⟨rfl, rfl⟩
  have h4 : 65536 < n := by omega
  clear h
  go_enter Try.func7, Try.ntmps7
  go_wp2_with fail
  go_ret
  exact ⟨rfl, rfl⟩
theorem copy_nil (w : World) : Calls Try.prog 13 #[.pointer none] w fun r w' => r = .returned (.pointer none) ∧ w = w' := by
  go_enter Try.func13, Try.ntmps13
  go_wp2_with fail
  go_ret
  exact ⟨rfl, rfl⟩
end Go.Proofs.Ytcgljmeppmdihaa
