/- The document's View (doorkeeperref13): out of range, and of words whose tag is 0 or 1. -/
import Derived.Test.YtmknnjjmmfbppaaGreatMgBegAQ
import Derived.Test.YtmknnjjmmfbppaaGreatMgBegBV
namespace Go.Proofs.YtmknnjjmmfbppaaGreat
open Go.ChangeShapes Go.WideShapes Go.ChangeAt Go.RowKit Wd
set_option linter.unusedVariables false
set_option maxRecDepth 100000
set_option linter.unusedSimpArgs false
/-- the blocks of a call of View: the map, the result, the view of none -/
structure VwB (w0 w : World) (m : Mp) : Prop where
  m : Blk w w0.heap.size 28 #[.int .i64 (m.t : Int), .int .i64 (m.o : Int), .int .i64 (m.n : Int)]
  r : Blk w (w0.heap.size + 1) 58 (viewA 0 0 (.slice none 0 0))
  n : Blk w (w0.heap.size + 2) 58 (viewA (-1) 0 (.slice none 0 0))
  b : Below w0.heap.size w0 w
theorem VwB.new (w : World) (m : Mp) : VwB w (((w.alloc (.cells #[.int .i64 (m.t : Int), .int .i64 (m.o : Int), .int .i64 (m.n : Int)] 28)).alloc (.cells #[.int .i64 0, .int .i64 0, .slice none 0 0] 58)).alloc (.cells #[.int .i64 (-1), .int .i64 0, .slice none 0 0] 58)) m := by
  have q0 := Blk.new w 28 #[.int .i64 (m.t : Int), .int .i64 (m.o : Int), .int .i64 (m.n : Int)]
  have q1 := Blk.new (w.alloc (.cells #[.int .i64 (m.t : Int), .int .i64 (m.o : Int), .int .i64 (m.n : Int)] 28)) 58 #[.int .i64 0, .int .i64 0, .slice none 0 0]
  have q2 := Blk.new ((w.alloc (.cells #[.int .i64 (m.t : Int), .int .i64 (m.o : Int), .int .i64 (m.n : Int)] 28)).alloc (.cells #[.int .i64 0, .int .i64 0, .slice none 0 0] 58)) 58 #[.int .i64 (-1), .int .i64 0, .slice none 0 0]
  simp only [World.size_alloc] at q1 q2
  exact ⟨(q0.alloc _).alloc _, q1.alloc _, q2, (((Below.refl _ w).alloc (Nat.le_refl _) _).alloc (by rw [World.size_alloc]; omega) _).alloc (by rw [World.size_alloc, World.size_alloc]; omega) _⟩
theorem VwB.below {w0 w w1 : World} {m : Mp} (h : VwB w0 w m) (hb : Below w.heap.size w w1) : VwB w0 w1 m := ⟨h.m.below hb h.m.lt, h.r.below hb h.r.lt, h.n.below hb h.n.lt, h.b.trans (hb.mono h.b.size)⟩
theorem VwB.done {w0 w : World} {m : Mp} (h : VwB w0 w m) : Blk (((w.setCell ⟨w0.heap.size + 1, 0, none⟩ (.int .i64 (-1))).setCell ⟨w0.heap.size + 1, 1, none⟩ (.int .i64 0)).setCell ⟨w0.heap.size + 1, 2, none⟩ (.slice none 0 0)) (w0.heap.size + 1) 58 (viewA (-1) 0 (.slice none 0 0)) ∧
    Below w0.heap.size w0 (((w.setCell ⟨w0.heap.size + 1, 0, none⟩ (.int .i64 (-1))).setCell ⟨w0.heap.size + 1, 1, none⟩ (.int .i64 0)).setCell ⟨w0.heap.size + 1, 2, none⟩ (.slice none 0 0)) :=
  ⟨((h.r.set 0 (.int .i64 (-1))).set 1 (.int .i64 0)).set 2 (.slice none 0 0), h.b.trans ((((Keep.refl (fun b => b = w0.heap.size + 1) w).set (p := ⟨w0.heap.size + 1, 0, none⟩) (fun _ => rfl) (.int .i64 (-1))).set (p := ⟨w0.heap.size + 1, 1, none⟩) (fun _ => rfl) (.int .i64 0)).set (p := ⟨w0.heap.size + 1, 2, none⟩) (fun _ => rfl) (.slice none 0 0) |>.below h.b.size (fun i _ h => by have : i = w0.heap.size + 1 := h; omega))⟩
set_option maxHeartbeats 2000000 in
theorem rview13_out (m : Mp) (v : Value) (o : Int) (w : World) (ho : o < 0 ∨ (¬ o < 0 ∧ (m.o : Int) ≤ o)) :
    Calls Tryz.prog 20 #[mapV m, v, .int .i64 o] w fun e w' => e = .returned (viewV (-1) 0 (.slice none 0 0)) ∧ Below w.heap.size w w' := by
  have hV := Lib.hid (VwB.new w m)
  go_enter Tryz.func20, Tryz.ntmps20
  go_upto_region 2 with fail
  generalize (((w.alloc _).alloc _).alloc _) = W at *
  have n0 := hV.out.n.cell 0 _ rfl
  have n1 := hV.out.n.cell 1 _ rfl
  have n2 := hV.out.n.cell 2 _ rfl
  have r0 := hV.out.r.cell 0 _ rfl
  have r1 := hV.out.r.cell 1 _ rfl
  have r2 := hV.out.r.cell 2 _ rfl
  have z0 := hV.out.r.free 0
  have z1 := hV.out.r.free 1
  have z2 := hV.out.r.free 2
  have mo := hV.out.m.cell 1 _ rfl
  rcases ho with h1 | ⟨h1, h2⟩
  all_goals
    go_wp2_with fail
    obtain ⟨R8, b8⟩ := hV.out.done
    generalize (((W.setCell _ _).setCell _ _).setCell _ _) = w8 at *
    have f0 : w8.cell? ⟨w.heap.size + 1, 0, none⟩ = some (.int .i64 (-1)) := R8.cell 0 _ rfl
    have f1 : w8.cell? ⟨w.heap.size + 1, 1, none⟩ = some (.int .i64 0) := R8.cell 1 _ rfl
    have f2 : w8.cell? ⟨w.heap.size + 1, 2, none⟩ = some (.slice none 0 0) := R8.cell 2 _ rfl
    exact bodyPost_ret (v := viewV (-1) 0 (.slice none 0 0)) (by simp [results, Tryz.results20, go_sem, f0, f1, f2]) rfl ⟨rfl, b8⟩
set_option maxHeartbeats 2000000 in
theorem rview13_in (m : Mp) (hm : m.ok) (mm : List Int) (g cap : Nat) (o : Nat) (w : World) (ho : o < m.o) (hl : mm.length ≤ 100000000) (hrow : ∀ (i : Nat) c, mm[i]? = some c → w.cell? ⟨g, i, none⟩ = some (.int .u64 c)) (v : Nat) (hv : mm[wordN o]? = some (v : Int)) (hv6 : v < 18446744073709551616) (x : Hd) (hx : openP v = some x) (ht : x.t = 0 ∨ x.t = 1) :
    Calls Tryz.prog 20 #[mapV m, .slice (some ⟨g, 0, none⟩) mm.length cap, .int .i64 (o : Int)] w fun e w' => e = .returned (viewV (-1) 0 (.slice none 0 0)) ∧ Below w.heap.size w w' := by
  have hV := Lib.hid (VwB.new w m)
  have hc0 : w.cell? ⟨g, wordN o, none⟩ = some (.int .u64 (v : Int)) := hrow _ _ hv
  have hwl : wordN o < mm.length := (List.getElem?_eq_some_iff.1 hv).1
  have HO := Lib.hid fun W => refOpen_any' v W hv6
  rw [hx] at HO
  have hhsz : Hid ((Tryz.prog.info? 100).map (·.size) = some (hdArr x).size) := Lib.hid hd_size
  have hhone := Lib.hid (hd_one x)
  obtain ⟨ll, hll⟩ : ∃ ll, ll = mm.length := ⟨_, rfl⟩
  rw [← hll] at hwl hl ⊢
  have HC := Lib.hid hc0
  have ho1 : ¬ (o : Int) < 0 := by omega
  have ho2 : ¬ (m.o : Int) ≤ (o : Int) := by omega
  clear hrow hv hx hll
  go_enter Tryz.func20, Tryz.ntmps20
  go_upto_region 2 with fail
  generalize (((w.alloc _).alloc _).alloc _) = W at *
  have m0 := hV.out.m.cell 0 _ rfl
  have m1 := hV.out.m.cell 1 _ rfl
  have m2 := hV.out.m.cell 2 _ rfl
  go_upto_region 4 with fail
  have HWd := Lib.hid fun V => mword_any m (o : Int) V (by obtain ⟨_, ⟨_, h2⟩, _⟩ := hm; omega)
  obtain ⟨wn, hwn⟩ : ∃ wn, wn = wordN (o : Int) := ⟨_, rfl⟩
  rw [← hwn] at HWd HC hwl
  clear hwn
  have hwI : (0 : Int) ≤ (wn : Int) ∧ (wn : Int) < (ll : Int) := by omega
  have hix : ∀ V, (Instr.indexAt 34 (.slice (some ⟨g, 0, none⟩) ll cap) (.int .i64 (wn : Int))).run Tryz.prog V = .ok (.pointer (some ⟨g, wn, none⟩)) V := by
    intro V
    go_simp
  have cc := cell_below HC.out hV.out.b
  go_upto_region 5 with (first
    | (go_at_call 53; (with_reducible refine (HWd.out _).mono ?_); rintro e w2 ⟨rfl, b2⟩; have hV2 := Lib.hid (hV.out.below b2); have cc2 := cell_below HC.out hV2.out.b)
    | (go_at_call 64; (with_reducible refine (HO.out _).mono ?_); rintro e w3 ⟨rfl, b3⟩; have hV3 := Lib.hid (hV2.out.below b3))
    | (refine wpList_store_row rfl 100 _ _ rfl w3.heap.size (hdArr x) rfl rfl 100 zero6 (Blk.new w3 _ _) hhsz.out rfl hhone.out ?_; (try simp only [Act.put, List.setIfInBounds_toArray, List.set_cons_zero, List.set_cons_succ])))
  rw [World.setRow_alloc_new]
  have Q3 := Blk.new w3 100 (hdArr x)
  have hV4 := Lib.hid (hV3.out.below ((Below.refl _ w3).alloc (Nat.le_refl _) (.cells (hdArr x) 100)))
  generalize hW : w3.alloc (.cells (hdArr x) 100) = w4 at *
  clear hW
  have t4 : w4.cell? ⟨w3.heap.size, 0, none⟩ = some (.int .i64 x.t) := Q3.cell 0 _ rfl
  have n0 := hV4.out.n.cell 0 _ rfl
  have n1 := hV4.out.n.cell 1 _ rfl
  have n2 := hV4.out.n.cell 2 _ rfl
  have r0 := hV4.out.r.cell 0 _ rfl
  have r1 := hV4.out.r.cell 1 _ rfl
  have r2 := hV4.out.r.cell 2 _ rfl
  have z0 := hV4.out.r.free 0
  have z1 := hV4.out.r.free 1
  have z2 := hV4.out.r.free 2
  have t2 : (x.t == 2) = false := by rcases ht with h | h <;> rw [h] <;> rfl
  have t3 : (x.t == 3) = false := by rcases ht with h | h <;> rw [h] <;> rfl
  have t5 : (x.t == 4) = false := by rcases ht with h | h <;> rw [h] <;> rfl
  clear ht
  go_wp2_with fail
  obtain ⟨R8, b8⟩ := hV4.out.done
  generalize (((w4.setCell _ _).setCell _ _).setCell _ _) = w8 at *
  have f0 : w8.cell? ⟨w.heap.size + 1, 0, none⟩ = some (.int .i64 (-1)) := R8.cell 0 _ rfl
  have f1 : w8.cell? ⟨w.heap.size + 1, 1, none⟩ = some (.int .i64 0) := R8.cell 1 _ rfl
  have f2 : w8.cell? ⟨w.heap.size + 1, 2, none⟩ = some (.slice none 0 0) := R8.cell 2 _ rfl
  exact bodyPost_ret (v := viewV (-1) 0 (.slice none 0 0)) (by simp [results, Tryz.results20, go_sem, f0, f1, f2]) rfl ⟨rfl, b8⟩
end Go.Proofs.YtmknnjjmmfbppaaGreat
/- The document's Right (doorkeeperref13). -/
namespace Go.Proofs.YtmknnjjmmfbppaaGreat
open Go.ChangeShapes Go.WideShapes Go.ChangeAt Go.RowKit
set_option linter.unusedVariables false
set_option maxRecDepth 100000
set_option linter.unusedSimpArgs false
theorem idx_rt (len c B o i : Nat) (h : i < len) : ∀ W, (Instr.indexAt 23 (.slice (some ⟨B, o, none⟩) len c) (.int .i64 (i : Int))).run Tryz.prog W = .ok (.pointer (some ⟨B, o + i, none⟩)) W := by
  intro W
  go_simp
/-- headers of which each is none or fits -/
def HeadsOk (o : Int) (H : List Int) : Prop := ∀ (j : Nat) x, (j : Int) < o → H[j]? = some x → 0 ≤ x ∧ x ≤ 16777215
def RtPost (t o n : Int) (H : List Int) (e : Ending) : Prop := ∃ b : Bool, e = .returned (.bool b) ∧ (b = true ↔ HeadsOk o H ∧ rightS t o n = true)
set_option maxHeartbeats 2000000 in
theorem rright13_any (t o n : Int) (v : Value) (H : List Int) (w : World) (hv : SliceAt intE w v H) (hl : H.length ≤ 100000) :
    Calls Tryz.prog 21 #[.agg #[.int .i64 t, .int .i64 o, .int .i64 n], v] w fun e w' => RtPost t o n H e ∧ Below w.heap.size w w' := by
  obtain ⟨a, c, rfl, hh⟩ := hv
  have HH := Lib.hid hh
  have HR := Lib.hid fun W => right_any t o n W
  clear hh
  obtain ⟨ll, hll⟩ : ∃ ll, ll = H.length := ⟨_, rfl⟩
  rw [← hll] at hl ⊢
  have HL := Lib.hid hll
  clear hll
  go_enter Tryz.func21, Tryz.ntmps21
  have hm0 := Blk.new w 28 #[.int .i64 t, .int .i64 o, .int .i64 n]
  have b0 : Below w.heap.size w (w.alloc (.cells #[.int .i64 t, .int .i64 o, .int .i64 n] 28)) := (Below.refl _ w).alloc (Nat.le_refl _) _
  go_upto_region 1 with fail
  generalize (w.alloc _) = W at *
  have c0 : W.cell? ⟨w.heap.size, 0, none⟩ = some (.int .i64 t) := hm0.cell 0 _ rfl
  have c1 : W.cell? ⟨w.heap.size, 1, none⟩ = some (.int .i64 o) := hm0.cell 1 _ rfl
  have c2 : W.cell? ⟨w.heap.size, 2, none⟩ = some (.int .i64 n) := hm0.cell 2 _ rfl
  have HB := Lib.hid b0
  have HLt := Lib.hid hm0.lt
  clear hm0 b0
  go_wp2_with fail
  go_loopw [5] (fun v5 wr => ∃ i : Nat, i ≤ ll ∧ v5 = .int .i64 (i : Int) ∧ (∀ (j : Nat) x, j < i → H[j]? = some x → 0 ≤ x ∧ x ≤ 16777215) ∧ wr = W) (fun v5 _ => ll - (intOf v5).toNat)
  case atStart => exact ⟨0, by omega, rfl, fun j x h => by omega, rfl⟩
  case round =>
    obtain ⟨i, hi, rfl, hok, rfl⟩ := hrel
    have HOk := Lib.hid hok
    clear hok
    by_cases h1 : (i : Int) < o
    · by_cases h2 : i < ll
      · have h2I : (i : Int) < (ll : Int) := by omega
        obtain ⟨x, hx⟩ : ∃ x, H[i]? = some x := ⟨_, List.getElem?_eq_getElem (by have := HL.out; omega)⟩
        obtain ⟨b, off, rfl, hc⟩ := HH.out i x hx
        have hcx : wr.cell? ⟨b, off + i, none⟩ = some (.int .i64 x) := cell_below hc HB.out
        have ix := idx_rt ll c b off i h2
        have HX := Lib.hid hx
        clear hx hc
        by_cases x1 : x < 0
        · go_wp2_with fail
          go_ret
          exact ⟨⟨false, rfl, by simp; intro hk; have := hk i x h1 HX.out; omega⟩, HB.out⟩
        · by_cases x2 : 16777215 < x
          · go_wp2_with fail
            go_ret
            exact ⟨⟨false, rfl, by simp; intro hk; have := hk i x h1 HX.out; omega⟩, HB.out⟩
          · go_wp2_with fail
            go_roundw
            case rel => exact ⟨i + 1, by omega, by go_num, fun j y hj hy => by
              by_cases e : j = i
              · subst e; rw [HX.out] at hy; obtain rfl := Option.some.inj hy; omega
              · exact HOk.out j y (by omega) hy, by trivial⟩
            case measure => simp [intOf]; omega
      · have h2I : ¬ (i : Int) < (ll : Int) := by omega
        have hall : HeadsOk o H := fun j x hj hx => HOk.out j x (by have := (List.getElem?_eq_some_iff.1 hx).1; have := HL.out; omega) hx
        go_wp2_with (go_at_call 22; (with_reducible refine (HR.out _).mono ?_); rintro e w2 ⟨rfl, b2⟩)
        go_ret
        exact ⟨⟨_, rfl, by simp [hall]⟩, HB.out.trans (b2.mono HB.out.size)⟩
    · have hall : HeadsOk o H := fun j x hj hx => HOk.out j x (by omega) hx
      go_wp2_with (go_at_call 22; (with_reducible refine (HR.out _).mono ?_); rintro e w2 ⟨rfl, b2⟩)
      go_ret
      exact ⟨⟨_, rfl, by simp [hall]⟩, HB.out.trans (b2.mono HB.out.size)⟩
end Go.Proofs.YtmknnjjmmfbppaaGreat
