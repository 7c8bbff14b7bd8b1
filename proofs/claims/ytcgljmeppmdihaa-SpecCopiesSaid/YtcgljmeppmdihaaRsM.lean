/- The document's automaton is made: New. -/
import Derived.Test.YtcgljmeppmdihaaRsC1
import Derived.Test.YtcgljmeppmdihaaRowsOwn
import Derived.Test.YtcgljmeppmdihaaAppend
import Derived.Test.YtcgljmeppmdihaaSpT
namespace Go.Proofs.Ytcgljmeppmdihaa
open Go.ChangeShapes Go.WideShapes Go.ChangeAt Go.RowKit
set_option linter.unusedVariables false
set_option maxRecDepth 100000
set_option linter.unusedSimpArgs false
theorem rthr_info : (Try.prog.info? 91).map (fun i => (i.zero, i.size, i.bytes)) = some (some (.agg (rthC rth0).toArray), 11, 88) := by kernel_rfl
theorem rint_info : (Try.prog.info? 3).map (fun i => (i.zero, i.size, i.bytes)) = some (some (.int .i64 0), 1, 8) := by kernel_rfl
theorem make_rthrs (n : Nat) (hn : n ≤ 32766) : ∀ w, (Instr.makeSlice 87 (.int .i64 (n : Int)) (.int .i64 (n : Int))).run Try.prog w = .ok (.slice (some ⟨w.heap.size, 0, none⟩) n n) (w.alloc (.cells (madeCells (rthC rth0).toArray (n * 11)) 91)) := by
  intro w
  obtain ⟨i, hi, hz0, hz1, hz2⟩ := info_parts rthr_info
  have h := run_make (P := Try.prog) w 87 91 i _ Try.underlying87 hi hz0 .i64 .i64 n n (by omega) (by omega) (by rw [hz2]; omega) (by omega)
  rw [h, hz1]
  rfl
theorem make_rints (n : Nat) (hn : n ≤ 65536) : ∀ w, (Instr.makeSlice 30 (.int .i64 (n : Int)) (.int .i64 (n : Int))).run Try.prog w = .ok (.slice (some ⟨w.heap.size, 0, none⟩) n n) (w.alloc (.cells (madeCells #[.int .i64 0] n) 3)) := by
  intro w
  obtain ⟨i, hi, hz0, hz1, hz2⟩ := info_parts rint_info
  have h := run_make (P := Try.prog) w 30 3 i _ Try.underlying30 hi hz0 .i64 .i64 n n (by omega) (by omega) (by rw [hz2]; omega) (by omega)
  rw [h, hz1, Nat.mul_one]
  rfl
theorem rowRT_made {w : World} {T m : Nat} (h : Blk w T 91 (madeCells (rthC rth0).toArray (m * 11))) : RowRT w T (List.replicate m rth0) := by
  refine ⟨_, h, fun t x hx j v hj => ?_⟩
  simp [List.getElem?_replicate] at hx
  obtain ⟨ht, rfl⟩ := hx
  have hj9 : j < 11 := by have := (List.getElem?_eq_some_iff.1 hj).1; simpa [rthC] using this
  rw [made_at _ _ _ (by omega), show (rthC rth0).toArray.size = 11 from rfl, show (t * 11 + j) % 11 = j by omega]
  rw [getElem!_pos _ j (by show j < 11; omega)]
  obtain ⟨h1, h2⟩ := List.getElem?_eq_some_iff.1 hj
  simp [h2]
theorem rowRI_made {w : World} {D n : Nat} (h : Blk w D 3 (madeCells #[.int .i64 0] n)) : RowRI w D (List.replicate n 0) := by
  refine ⟨_, h, fun i x hx => ?_⟩
  simp [List.getElem?_replicate] at hx
  obtain ⟨ht, rfl⟩ := hx
  rw [made_at _ _ _ ht, show (#[Value.int .i64 0] : Array Value).size = 1 from rfl, Nat.mod_one]
  rfl
theorem blk_at {w : World} {B : Nat} {t : TypeId} {cs : Array Value} (h : Blk w B t cs) {i : Nat} {v : Value} (hc : w.cell? ⟨B, i, none⟩ = some v) : cs[i]? = some v := by
  unfold World.cell? at hc
  rw [show w.heap[B]? = _ from h] at hc
  simpa using hc
theorem rowRI_own {w : World} {N g n cap : Nat} {l : List Int} (h : w.ownsRow N 3 1 (.slice (some ⟨g, 0, none⟩) n cap) n (iL l)) : RowRI w g l := by
  obtain ⟨_, cur, hB⟩ := row_lt h rfl
  refine ⟨_, hB, fun i x hx => blk_at hB ?_⟩
  have := h.cells (g := g) rfl i (.int .i64 x) (by unfold iL; rw [List.getElem?_map, hx]; rfl)
  rw [Go.WideShapes.add_plain, Nat.zero_add] at this
  exact this
theorem keep_from {n : Nat} {a b : World} (h : Below n a b) (hs : n ≤ a.heap.size) (hz : a.heap.size ≤ b.heap.size) : Keep (fun c => n ≤ c) a b := ⟨h.os, h.tape, h.output, hz, fun i _ hq => h.block i (by omega)⟩
/-- while the owners are laid -/
structure RsMid (w : World) (P D T n m k N : Nat) (v : Value) : Prop where
  own : Blk w P 89 #[v, .slice (some ⟨D, 0, none⟩) n n, .slice (some ⟨T, 0, none⟩) m m, .int .i64 0]
  row : w.ownsRow N 3 1 v k (iL (List.replicate k (-1)))
  dp : RowRI w D (List.replicate n 0)
  th : RowRT w T (List.replicate m rth0)
  lt : P < N ∧ D < N ∧ T < N ∧ N ≤ w.heap.size
theorem RsMid.done {w : World} {P D T n m N g cap : Nat} (h : RsMid w P D T n m n N (.slice (some ⟨g, 0, none⟩) n cap)) (hg : N ≤ g) : RsAt w ⟨P, g, D, T, cap, n, m⟩ (newR m n) := by
  refine ⟨?_, rowRI_own h.row, h.dp, h.th, by have := h.lt; show g ≠ D; omega⟩
  have := h.own
  simpa [newR] using this
theorem replicate_next (k : Nat) (a : Int) : iL (List.replicate k a) ++ [.int .i64 a] = iL (List.replicate (k + 1) a) := by
  unfold iL
  rw [List.replicate_succ', List.map_append]
  rfl
theorem RsMid.step {w w2 : World} {P D T n m k N g cap : Nat} {v : Value} (h : RsMid w P D T n m k N v) (hr : w2.ownsRow N 3 1 (.slice (some ⟨g, 0, none⟩) (k + 1) cap) (k + 1) (iL (List.replicate k (-1)) ++ [.int .i64 (-1)])) (hb : Below N w w2) (hz : w.heap.size ≤ w2.heap.size) :
    RsMid (w2.setCell ⟨P, 0, none⟩ (.slice (some ⟨g, 0, none⟩) (k + 1) cap)) P D T n m (k + 1) N (.slice (some ⟨g, 0, none⟩) (k + 1) cap) := by
  obtain ⟨l1, l2, l3, l4⟩ := h.lt
  have kp := keep_from hb l4 hz
  have ks : Keep (fun c => c = P) w2 (w2.setCell ⟨P, 0, none⟩ (.slice (some ⟨g, 0, none⟩) (k + 1) cap)) := (Keep.refl (fun c => c = P) w2).set (p := ⟨P, 0, none⟩) (fun _ => rfl) _
  have q2 := h.own.below hb l1
  have dp2 := h.dp.keep kp (by omega)
  have th2 := h.th.keep kp (by omega)
  rw [replicate_next] at hr
  have hgN : N ≤ g := by
    rcases hr.2 with ⟨hv, _⟩ | ⟨g', cap', cur, hv, hb', _, _⟩
    · cases hv
    · injection hv with e1
      injection e1 with e1
      injection e1 with e1
      omega
  refine ⟨q2.set 0 _, row_ownkeep hr ks (fun b hb e => ?_), dp2.keep ks ?_, th2.keep ks ?_, l1, l2, l3, ?_⟩
  · have : g = b := by simpa [Value.ownBlock] using hb
    omega
  · intro e
    obtain ⟨cs, h1, _⟩ := dp2
    exact h1.apart q2 (by decide) e
  · intro e
    obtain ⟨cs, h1, _⟩ := th2
    exact h1.apart q2 (by decide) e
  · rw [World.size_setCell]
    omega
/-- the automaton is new -/
def RNewPost (w : World) (m n : Nat) (e : Ending) (w' : World) : Prop := ∃ p : RPl, e = .returned (rspV p) ∧ RsAt w' p (newR m n) ∧ (∀ b, rB p b → w.heap.size ≤ b) ∧ Below w.heap.size w w'
set_option maxHeartbeats 4000000 in
theorem rnew_any (m n : Nat) (w : World) (hm : 1 ≤ m ∧ m ≤ 32766) (hn : 1 ≤ n ∧ n ≤ 65536) :
    Calls Try.prog 32 #[.int .i64 (m : Int), .int .i64 (n : Int)] w (RNewPost w m n) := by
  have mk1 := make_rthrs m hm.2
  have mk2 := make_rints n hn.2
  obtain ⟨i0, hi0, hz0, hz1, hz2⟩ := info_parts rint_info
  obtain ⟨hm1, hm2⟩ := hm
  obtain ⟨hn1, hn2⟩ := hn
  go_enter Try.func32, Try.ntmps32
  go_upto_region 1 with fail
  go_region_with (fail)
  · (try simp only [Act.put, List.setIfInBounds_toArray, List.set_cons_zero, List.set_cons_succ])
    generalize hq : World.drew _ = W
    have hT : Blk W (w.heap.size) 91 (madeCells (rthC rth0).toArray (m * 11)) := by rw [← hq]; exact (((Blk.new w _ _).alloc _).alloc _).drew
    have hD : Blk W (w.heap.size + 1) 3 (madeCells #[.int .i64 0] n) := by rw [← hq]; exact ((blk_two w _ _ _).alloc _).drew
    have hP : Blk W (w.heap.size + 1 + 1) 89 #[.slice none 0 0, .slice (some ⟨w.heap.size + 1, 0, none⟩) n n, .slice (some ⟨w.heap.size, 0, none⟩) m m, .int .i64 0] := by rw [← hq]; exact (blk_three w _ _ _ _).drew
    have hb : Below w.heap.size w W := by rw [← hq]; exact ((((Below.refl _ w).alloc (Nat.le_refl _) _).alloc (by simp) _).alloc (by simp; omega) _).trans ⟨rfl, rfl, rfl, by simp [World.drew], fun _ _ => rfl⟩
    have hM : RsMid W (w.heap.size + 1 + 1) (w.heap.size + 1) (w.heap.size) n m 0 W.heap.size (.slice none 0 0) := ⟨hP, World.ownsRow_nil _ _ _ _, rowRI_made hD, rowRT_made hT, hP.lt, hD.lt, hT.lt, Nat.le_refl _⟩
    generalize hP0 : w.heap.size + 1 + 1 = P at hM ⊢
    have hPw : w.heap.size ≤ P := by omega
    generalize hD0 : (w.heap.size + 1) = D0 at hM ⊢
    have hDw : w.heap.size ≤ D0 := by omega
    generalize hT0 : (w.heap.size) = T0 at hM ⊢
    have hTw : w.heap.size ≤ T0 := by omega
    clear hq hT hD hP hP0 hD0 hT0
    have HM0 := Lib.hid hM
    have HB0 := Lib.hid hb
    have HPT := Lib.hid (And.intro hPw (And.intro hDw hTw))
    clear hM hb hPw hDw hTw
    go_upto_region 3 with fail
    go_loopw [6] (fun v6 wr => ∃ (k : Nat) (v : Value), k ≤ n ∧ v6 = .int .i64 (k : Int) ∧ RsMid wr P D0 T0 n m k W.heap.size v ∧ Below w.heap.size w wr) (fun v6 _ => n - (intOf v6).toNat)
    case atStart => exact ⟨0, _, by omega, rfl, HM0.out, HB0.out⟩
    case round =>
      obtain ⟨k, v, hk, rfl, hM, hbr⟩ := hrel
      have HM := Lib.hid hM
      have HBR := Lib.hid hbr
      have HR := Lib.hid hM.row
      have hsz := hM.lt.2.2.2
      by_cases hlt : k < n
      · have hkI : (k : Int) < (n : Int) := by omega
        have c0 := hM.own.cell 0 _ rfl
        clear hM hbr
        go_upto_region 4 with (at_builtin; refine wpList_append_own2 _ rfl _ _ 30 rfl W.heap.size 3 i0 (.int .i64 0) 1 8 Try.underlying30 hi0 hz0 hz1 hz2 rfl (by decide) _ _ _ rfl (HR.out.alloc _) ⟨wr.heap.size, 0, none⟩ 1 1 [.int .i64 (-1)] rfl rfl (cell_one_new _ _ _) (by simp [Value.oneCell']) (by unfold maxLen; omega) (by omega) (by rw [World.size_alloc]; omega) (by omega) ?_; intro g2 cap2 w2 hr2 hgr2 hg2; have bg := grown_below hgr2 HR.out hsz; have q2 := (HM.out.own.below (n := W.heap.size) bg HM.out.lt.1); have e0 := q2.cell 0 _ rfl; have f0 := q2.free 0)
        have HN := Lib.hid (HM.out.step hr2 bg (by have := hgr2.size; rw [World.size_alloc] at this; omega))
        have HBN := Lib.hid (show Below w.heap.size w (w2.setCell ⟨P, 0, none⟩ (.slice (some ⟨g2, 0, none⟩) (k + 1) cap2)) from HBR.out.trans ((bg.mono (by have := HB0.out.size; omega)).trans (Keep.below (Q := fun c => c = P) ((Keep.refl (fun c => c = P) w2).set (p := ⟨P, 0, none⟩) (fun _ => rfl) _) (by have := bg.size; have := HBR.out.size; omega) (fun i _ e => by have := HPT.out.1; omega))))
        clear hr2 hgr2 hg2 q2 bg
        go_wp2_with fail
        go_roundw
        case rel => exact ⟨k + 1, _, by omega, by go_num, HN.out, HBN.out⟩
        case measure => simp [intOf]; omega
      · have e9 : k = n := by omega
        subst e9
        clear hM hbr
        go_wp2_with fail
        go_ret
        obtain ⟨g, cap, rfl⟩ := row_slice HR.out (by omega)
        have hgN : W.heap.size ≤ g := by
          rcases HR.out.2 with ⟨hv, _⟩ | ⟨g', cap', cur, hv, hb', _, _⟩
          · cases hv
          · injection hv with e1
            injection e1 with e1
            injection e1 with e1
            omega
        refine ⟨⟨P, g, D0, T0, cap, k, m⟩, rfl, HM.out.done hgN, fun b hb => ?_, HBR.out⟩
        obtain ⟨p1, p2, p3⟩ := HPT.out
        have p4 := HB0.out.size
        rcases hb with rfl | rfl | rfl | rfl
        · exact p1
        · exact Nat.le_trans p4 hgN
        · exact p2
        · exact p3
  · (try simp only [Act.put, List.setIfInBounds_toArray, List.set_cons_zero, List.set_cons_succ])
    generalize hq : World.drew _ = W
    have hT : Blk W (w.heap.size + 1) 91 (madeCells (rthC rth0).toArray (m * 11)) := by rw [← hq]; exact ((blk_two w _ _ _).alloc _).drew
    have hD : Blk W (w.heap.size) 3 (madeCells #[.int .i64 0] n) := by rw [← hq]; exact (((Blk.new w _ _).alloc _).alloc _).drew
    have hP : Blk W (w.heap.size + 1 + 1) 89 #[.slice none 0 0, .slice (some ⟨w.heap.size, 0, none⟩) n n, .slice (some ⟨w.heap.size + 1, 0, none⟩) m m, .int .i64 0] := by rw [← hq]; exact (blk_three w _ _ _ _).drew
    have hb : Below w.heap.size w W := by rw [← hq]; exact ((((Below.refl _ w).alloc (Nat.le_refl _) _).alloc (by simp) _).alloc (by simp; omega) _).trans ⟨rfl, rfl, rfl, by simp [World.drew], fun _ _ => rfl⟩
    have hM : RsMid W (w.heap.size + 1 + 1) (w.heap.size) (w.heap.size + 1) n m 0 W.heap.size (.slice none 0 0) := ⟨hP, World.ownsRow_nil _ _ _ _, rowRI_made hD, rowRT_made hT, hP.lt, hD.lt, hT.lt, Nat.le_refl _⟩
    generalize hP0 : w.heap.size + 1 + 1 = P at hM ⊢
    have hPw : w.heap.size ≤ P := by omega
    generalize hT0 : (w.heap.size + 1) = T0 at hM ⊢
    have hTw : w.heap.size ≤ T0 := by omega
    generalize hD0 : (w.heap.size) = D0 at hM ⊢
    have hDw : w.heap.size ≤ D0 := by omega
    clear hq hT hD hP hP0 hD0 hT0
    have HM0 := Lib.hid hM
    have HB0 := Lib.hid hb
    have HPT := Lib.hid (And.intro hPw (And.intro hDw hTw))
    clear hM hb hPw hDw hTw
    go_upto_region 3 with fail
    go_loopw [6] (fun v6 wr => ∃ (k : Nat) (v : Value), k ≤ n ∧ v6 = .int .i64 (k : Int) ∧ RsMid wr P D0 T0 n m k W.heap.size v ∧ Below w.heap.size w wr) (fun v6 _ => n - (intOf v6).toNat)
    case atStart => exact ⟨0, _, by omega, rfl, HM0.out, HB0.out⟩
    case round =>
      obtain ⟨k, v, hk, rfl, hM, hbr⟩ := hrel
      have HM := Lib.hid hM
      have HBR := Lib.hid hbr
      have HR := Lib.hid hM.row
      have hsz := hM.lt.2.2.2
      by_cases hlt : k < n
      · have hkI : (k : Int) < (n : Int) := by omega
        have c0 := hM.own.cell 0 _ rfl
        clear hM hbr
        go_upto_region 4 with (at_builtin; refine wpList_append_own2 _ rfl _ _ 30 rfl W.heap.size 3 i0 (.int .i64 0) 1 8 Try.underlying30 hi0 hz0 hz1 hz2 rfl (by decide) _ _ _ rfl (HR.out.alloc _) ⟨wr.heap.size, 0, none⟩ 1 1 [.int .i64 (-1)] rfl rfl (cell_one_new _ _ _) (by simp [Value.oneCell']) (by unfold maxLen; omega) (by omega) (by rw [World.size_alloc]; omega) (by omega) ?_; intro g2 cap2 w2 hr2 hgr2 hg2; have bg := grown_below hgr2 HR.out hsz; have q2 := (HM.out.own.below (n := W.heap.size) bg HM.out.lt.1); have e0 := q2.cell 0 _ rfl; have f0 := q2.free 0)
        have HN := Lib.hid (HM.out.step hr2 bg (by have := hgr2.size; rw [World.size_alloc] at this; omega))
        have HBN := Lib.hid (show Below w.heap.size w (w2.setCell ⟨P, 0, none⟩ (.slice (some ⟨g2, 0, none⟩) (k + 1) cap2)) from HBR.out.trans ((bg.mono (by have := HB0.out.size; omega)).trans (Keep.below (Q := fun c => c = P) ((Keep.refl (fun c => c = P) w2).set (p := ⟨P, 0, none⟩) (fun _ => rfl) _) (by have := bg.size; have := HBR.out.size; omega) (fun i _ e => by have := HPT.out.1; omega))))
        clear hr2 hgr2 hg2 q2 bg
        go_wp2_with fail
        go_roundw
        case rel => exact ⟨k + 1, _, by omega, by go_num, HN.out, HBN.out⟩
        case measure => simp [intOf]; omega
      · have e9 : k = n := by omega
        subst e9
        clear hM hbr
        go_wp2_with fail
        go_ret
        obtain ⟨g, cap, rfl⟩ := row_slice HR.out (by omega)
        have hgN : W.heap.size ≤ g := by
          rcases HR.out.2 with ⟨hv, _⟩ | ⟨g', cap', cur, hv, hb', _, _⟩
          · cases hv
          · injection hv with e1
            injection e1 with e1
            injection e1 with e1
            omega
        refine ⟨⟨P, g, D0, T0, cap, k, m⟩, rfl, HM.out.done hgN, fun b hb => ?_, HBR.out⟩
        obtain ⟨p1, p2, p3⟩ := HPT.out
        have p4 := HB0.out.size
        rcases hb with rfl | rfl | rfl | rfl
        · exact p1
        · exact Nat.le_trans p4 hgN
        · exact p2
        · exact p3
end Go.Proofs.Ytcgljmeppmdihaa
