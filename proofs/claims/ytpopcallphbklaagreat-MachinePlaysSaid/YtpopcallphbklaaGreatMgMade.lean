/- Layer 8's law: made: a machine of the program's and one of the document's, of one draft. -/
import Derived.Test.YtpopcallphbklaaGreatMgS
import Derived.Test.YtpopcallphbklaaGreatPermC
namespace Go.Proofs.YtpopcallphbklaaGreat
open Go.ChangeShapes Go.WideShapes Go.ChangeAt Go.RowKit
set_option linter.unusedVariables false
set_option maxRecDepth 100000
set_option linter.unusedSimpArgs false
/-- cells so far: the first k given, zeros behind -/
def soFar (M : List Int) (k : Nat) : List Int := M.take k ++ List.replicate (M.length - k) 0
theorem soFar_len {M : List Int} {k : Nat} (h : k ≤ M.length) : (soFar M k).length = M.length := by simp [soFar]; omega
theorem soFar_at {M : List Int} {k : Nat} (h : k < M.length) : (soFar M k)[k]? = some 0 := by
  obtain ⟨j, hj⟩ : ∃ j, M.length = k + (j + 1) := ⟨M.length - k - 1, by omega⟩
  have hk : (M.take k).length = k := by rw [List.length_take]; omega
  rw [soFar, List.getElem?_append_right (by omega), hk, hj]
  simp [List.replicate_succ]
theorem soFar_set {M : List Int} {k : Nat} {x : Int} (h : M[k]? = some x) : (soFar M k).set k x = soFar M (k + 1) := by
  have hlt := (List.getElem?_eq_some_iff.1 h).1
  obtain ⟨j, hj⟩ : ∃ j, M.length = k + (j + 1) := ⟨M.length - k - 1, by omega⟩
  have hk : (M.take k).length = k := by rw [List.length_take]; omega
  rw [soFar, soFar, List.set_append_right _ _ (by omega), hk, hj, take_at h, Nat.add_sub_cancel_left, show k + (j + 1) - (k + 1) = j by omega]
  simp [List.replicate_succ]
theorem soFar_all {M : List Int} : soFar M M.length = M := by simp [soFar]
theorem prtask_info : (Tryz.prog.info? 71).map (fun i => (i.zero, i.size, i.bytes)) = some (some (.pointer none), 1, 8) := by kernel_rfl
theorem u64_info8 : (Tryz.prog.info? 52).map (fun i => (i.zero, i.size, i.bytes)) = some (some (.int .u64 0), 1, 8) := by kernel_rfl
theorem make_intsN (n : Nat) (hn : n ≤ 16) (w : World) : (Instr.makeSlice 48 (.int .i64 n) (.int .i64 n)).run Tryz.prog w = .ok (.slice (some ⟨w.heap.size, 0, none⟩) n n) (w.alloc (.cells (permV (List.replicate n false)) 3)) := by
  obtain ⟨i, hi, hz0, hz1, hz2⟩ := info_parts rint_info
  have h := run_make (P := Tryz.prog) w 48 3 i _ Tryz.underlying48 hi hz0 .i64 .i64 n n (by omega) (by omega) (by rw [hz2]; omega) (by omega)
  have e : madeCells #[Value.int .i64 0] n = permV (List.replicate n false) := by
    rw [← Array.toList_inj, toList_madeCells_one]
    simp [permV]
  rw [Int.toNat_natCast] at h
  rw [h, hz1, Nat.mul_one]
  simp only [← e]
  rfl
/-- a number of the draft, cut -/
def cut4 (f : Int) : Int := f % 4
/-- how far the cells are given -/
structure W8 (w wr : World) (c : PIds) (B n : Nat) (F : List Int) (th : Value) (k : Nat) : Prop where
  f : Blk wr w.heap.size 25 (F.map (Value.int .u8) ++ [th]).toArray
  cells : CellsAt wr c.C c.S (soFar (F.map cut4) k) k
  perms : PermitsAt wr c.P c.R c.cs (List.replicate n false)
  own : ∃ v, Blk wr c.D 58 #[v, .int .i64 0, .slice (some ⟨c.V, 0, none⟩) n n] ∧ wr.ownsRow B 52 1 v k (((F.map cut4).take k).map (Value.int .u64))
  V : Blk wr c.V 3 (permV (List.replicate n false))
  below : Below w.heap.size w wr
  lt : c.C < B ∧ c.S < B ∧ (∀ x ∈ c.cs, x < B) ∧ c.D < B ∧ c.V < B ∧ w.heap.size < B ∧ w.heap.size < c.C ∧ w.heap.size < c.S ∧ (∀ x ∈ c.cs, w.heap.size < x) ∧ w.heap.size < c.D ∧ w.heap.size < c.V ∧ c.P < B ∧ c.R < B ∧ w.heap.size < c.P ∧ w.heap.size < c.R
  size : B ≤ wr.heap.size
theorem W8.chan {w wr : World} {c : PIds} {B n k : Nat} {F : List Int} {th : Value} (h : W8 w wr c B n F th k) {b : Nat} {ty : TypeId} {xs : Array Value} (hb : Blk wr b ty xs) : ¬ b ∈ c.cs := fun hx => by
  obtain ⟨i, hi⟩ := List.mem_iff_getElem?.1 hx
  have hlt := (List.getElem?_eq_some_iff.1 hi).1
  have hl := h.perms.len
  rw [List.length_replicate] at hl
  exact (h.perms.chan i _ false hi (by rw [List.getElem?_replicate, if_pos (by omega)])).apart hb rfl
theorem W8.put {w wr w1 : World} {c : PIds} {B n k : Nat} {F : List Int} {th : Value} (h : W8 w wr c B n F th k) {x : Int} (hx : F[k]? = some x) (hk : Keep (ofCells c.C c.S) wr w1) (hC : CellsAt w1 c.C c.S ((soFar (F.map cut4) k).set k (cut4 x)) (k + 1)) :
    CellsAt w1 c.C c.S (soFar (F.map cut4) (k + 1)) ((k + 1 : Nat) : Int) ∧ Blk w1 w.heap.size 25 (F.map (Value.int .u8) ++ [th]).toArray ∧ PermitsAt w1 c.P c.R c.cs (List.replicate n false) ∧
      (∃ v, Blk w1 c.D 58 #[v, .int .i64 0, .slice (some ⟨c.V, 0, none⟩) n n] ∧ w1.ownsRow B 52 1 v k (((F.map cut4).take k).map (Value.int .u64))) ∧ Blk w1 c.V 3 (permV (List.replicate n false)) ∧ Below w.heap.size w w1 ∧ B ≤ w1.heap.size := by
  obtain ⟨v, hD, hrow⟩ := h.own
  have key : ∀ {b : Nat} {ty : TypeId} {xs : Array Value}, Blk wr b ty xs → ty ≠ 117 → ty ≠ 52 → ¬ ofCells c.C c.S b := fun hb h1 h2 hq => by
    rcases hq with e | e
    · exact hb.apart h.cells.own h1 e
    · exact hb.apart h.cells.row h2 e
  have hx2 : (F.map cut4)[k]? = some (cut4 x) := by rw [List.getElem?_map, hx]; rfl
  refine ⟨by rw [soFar_set hx2] at hC; simpa using hC, h.f.keep hk (key h.f (by decide) (by decide)),
    h.perms.keep hk (key h.perms.own (by decide) (by decide)) (key h.perms.row (by decide) (by decide)) (fun y hy hq => ?_), ⟨v, hD.keep hk (key hD (by decide) (by decide)), ownsRow_keepQ hrow hk (fun g hg hq => ?_)⟩, h.V.keep hk (key h.V (by decide) (by decide)),
    h.below.trans (hk.below h.below.size (fun i _ hq => ?_)), Nat.le_trans h.size hk.size⟩
  · rcases hq with rfl | rfl
    · exact h.chan h.cells.own hy
    · exact h.chan h.cells.row hy
  · have := h.lt
    rcases hq with e | e <;> omega
  · have := h.lt
    rcases hq with e | e <;> omega
set_option maxHeartbeats 8000000 in
theorem made_any (f0 f1 f2 : Int) (a : Option Addr) (cap : Nat) (N : List (List (List Raw))) (w : World) (hf : (0 ≤ f0 ∧ f0 ≤ 255) ∧ (0 ≤ f1 ∧ f1 ≤ 255) ∧ (0 ≤ f2 ∧ f2 ≤ 255)) (n0 : Nat) (hn0 : n0 ≤ w.heap.size) (hA : DraftAt w n0 a N) (h0 : 0 < w.heap.size) :
    Calls Tryz.prog 5 #[.agg #[.int .u8 f0, .int .u8 f1, .int .u8 f2, .slice a N.length cap]] w fun e w' => ∃ (c : PIds) (A : Nat → Prop), e = .returned (.tuple #[pV c.M, cellsV c.C, permitsV c.P, ptrV c.G, ptrV c.D]) ∧
      Play w' c A (startS [cut4 f0, cut4 f1, cut4 f2] (threadsOf N) (N.take 6) 3) (startS [cut4 f0, cut4 f1, cut4 f2] (threadsOf N) (N.take 6) 0) ∧ (∀ b, A b → w.heap.size ≤ b) ∧ Below w.heap.size w w' := by
  obtain ⟨u0, hu, hu0, hu1, hu2⟩ := info_parts u64_info8
  obtain ⟨F, hF⟩ : ∃ F, F = [f0, f1, f2] := ⟨_, rfl⟩
  have hFl : F.length = 3 := by rw [hF]; rfl
  have HFc : Hid (F.map cut4 = [cut4 f0, cut4 f1, cut4 f2]) := Lib.hid (by rw [hF]; rfl)
  have HF : Hid (∀ (i : Nat) (x : Int), F[i]? = some x → 0 ≤ x ∧ x ≤ 255) := Lib.hid (by
    intro i x hx
    rw [hF] at hx
    rcases i with _ | _ | _ | i <;> simp at hx <;> subst hx <;> omega)
  have HA := Lib.hid hA
  obtain ⟨nl, hnl⟩ : ∃ nl, nl = N.length := ⟨_, rfl⟩
  obtain ⟨n, hn⟩ : ∃ n : Nat, n = max 1 (min nl 6) := ⟨_, rfl⟩
  have hn16 : 1 ≤ n ∧ n ≤ 6 := by omega
  have HB : Hid (Blk (w.alloc (.cells #[.int .u8 f0, .int .u8 f1, .int .u8 f2, .slice a nl cap] 25)) w.heap.size 25 (F.map (Value.int .u8) ++ [Value.slice a nl cap]).toArray) := Lib.hid (by rw [hF]; exact Blk.new _ _ _)
  have hB0 : Below w.heap.size w (w.alloc (.cells #[.int .u8 f0, .int .u8 f1, .int .u8 f2, .slice a nl cap] 25)) := (Below.refl _ w).alloc (Nat.le_refl _) _
  have hsz : (w.alloc (.cells #[.int .u8 f0, .int .u8 f1, .int .u8 f2, .slice a nl cap] 25)).heap.size = w.heap.size + 1 := by simp
  have HN : Hid (n = max 1 (min N.length 6)) := Lib.hid (by rw [← hnl]; exact hn)
  have HNL := Lib.hid hnl
  have HMX : Hid ((if (1 : Int) < (if (6 : Int) < (nl : Int) then 6 else (nl : Int)) then (if (6 : Int) < (nl : Int) then 6 else (nl : Int)) else 1) = (n : Int)) := Lib.hid (by rw [hn]; split <;> split <;> omega)
  rw [← HFc.out, ← hnl]
  rw [show threadsOf N = n from HN.out.symm]
  clear hnl hn
  go_enter Tryz.func5, Tryz.ntmps5
  go_upto_region 1 with fail
  clear hA hF hf
  generalize w.alloc (.cells #[.int .u8 f0, .int .u8 f1, .int .u8 f2, .slice a nl cap] 25) = W0 at *
  have c3 : W0.cell? ⟨w.heap.size, 3, none⟩ = some (.slice a nl cap) := HB.out.cell 3 _ (by
    have := hFl
    rcases F with _ | ⟨x, _ | ⟨y, _ | ⟨z, _ | ⟨t, F⟩⟩⟩⟩ <;> simp at this <;> rfl)
  go_upto_region 2 with fail
  rw [HMX.out]
  clear c3 HMX
  generalize (if (6 : Int) < (nl : Int) then (6 : Int) else (nl : Int)) = mn
  have h3 := Lib.hid (new_some 3 W0 (by omega))
  have h4 := Lib.hid fun W => pnew_some n W hn16.1 (by omega)
  rw [show ((3 : Nat) : Int) = 3 from rfl] at h3
  go_upto_region 3 with (first
    | (go_at_call 19; refine h3.out.mono ?_; rintro e w1 ⟨rfl, hC, kb⟩)
    | (go_at_call 20; refine (h4.out _).mono ?_; rintro e w2 ⟨rfl, ⟨cs, hP, hcs⟩, kb2⟩))
  rw [hsz] at hC kb
  have hs1 := kb.size
  have hs2 := kb2.size
  rw [hsz] at hs1
  have hmk := make_intsN n (by omega)
  have I0 : W8 w ((w2.alloc (.cells (permV (List.replicate n false)) 3)).alloc (.cells #[.slice none 0 0, .int .i64 0, .slice (some ⟨w2.heap.size, 0, none⟩) n n] 58))
      ⟨w.heap.size + 1 + 1, w.heap.size + 1, w1.heap.size + 1, w1.heap.size, cs, 0, w2.heap.size + 1, 0, w2.heap.size, 0⟩ (w2.heap.size + 2) n F (.slice a nl cap) 0 := by
    have kk : Keep (fun _ => False) w2 ((w2.alloc (.cells (permV (List.replicate n false)) 3)).alloc (.cells #[.slice none 0 0, .int .i64 0, .slice (some ⟨w2.heap.size, 0, none⟩) n n] 58)) := ((Keep.refl _ _).alloc _).alloc _
    have e1 : soFar (F.map cut4) 0 = List.replicate 3 0 := by simp [soFar, hFl]
    have hcl : ∀ x ∈ cs, x < w2.heap.size := fun x hx => by
      obtain ⟨i, hi⟩ := List.mem_iff_getElem?.1 hx
      have hlt := (List.getElem?_eq_some_iff.1 hi).1
      have hl := hP.len
      rw [List.length_replicate] at hl
      obtain ⟨s, r, hz⟩ := hP.chan i x false hi (by rw [List.getElem?_replicate, if_pos (by omega)])
      exact (Array.getElem?_eq_some_iff.1 hz).1
    have hPl := hP.own.lt
    refine ⟨((HB.out.below kb (by omega)).below kb2 (by omega)).keep kk (fun h => h), ?_, ?_, ⟨_, blk_two _ _ _ _, World.ownsRow_nil _ _ _ _⟩, ?_, ?_, ?_, ?_⟩
    · rw [e1]
      exact (hC.keep (Keep.ofBelow (Q := fun _ => False) kb2) (fun h => h) (fun h => h)).keep kk (fun h => h) (fun h => h)
    · exact hP.keep kk (fun h => h) (fun h => h) (fun _ _ h => h)
    · exact (Blk.new _ _ _).alloc _
    · exact (((hB0.trans (kb.mono (by omega))).trans (kb2.mono (by omega))).alloc (by omega) _).alloc (by simp; omega) _
    · exact ⟨by show _ + 1 + 1 < _; omega, by show _ + 1 < _; omega, fun x hx => by have := hcl x hx; omega, by show _ + 1 < _ + 2; omega, by show w2.heap.size < _ + 2; omega, by omega, by show _ < _ + 1 + 1; omega, by show _ < _ + 1; omega, fun x hx => by have := hcs x hx; omega, by show _ < _ + 1; omega, by show _ < w2.heap.size; omega, by show w1.heap.size + 1 < _; omega, by show w1.heap.size < _; omega, by show _ < w1.heap.size + 1; omega, by show _ < w1.heap.size; omega⟩
    · simp
  clear hC hP hcs kb kb2 h3 h4 HB hB0
  go_upto_region 5 with fail
  generalize (w2.alloc (.cells (permV (List.replicate n false)) 3)).alloc (.cells #[.slice none 0 0, .int .i64 0, .slice (some ⟨w2.heap.size, 0, none⟩) n n] 58) = W3 at *
  clear hs1 hs2 hmk hsz
  generalize hCn : w.heap.size + 1 + 1 = Cn at *
  generalize hSn : w.heap.size + 1 = Sn at *
  generalize hPn : w1.heap.size + 1 = Pn at *
  generalize hRn : w1.heap.size = Rn at *
  generalize hDn : w2.heap.size + 1 = Dn at *
  generalize hBn : w2.heap.size + 2 = Bn at *
  generalize hVn : w2.heap.size = Vn at *
  clear hCn hSn hPn hRn hDn hBn hVn
  have hpos : w.heap.size < Bn := I0.lt.2.2.2.2.2.1
  go_loopw [11] (fun i wr => ∃ k : Nat, k ≤ 3 ∧ i = .int .i64 k ∧ W8 w wr ⟨Cn, Sn, Pn, Rn, cs, 0, Dn, 0, Vn, 0⟩ Bn n F (.slice a nl cap) k) (fun i wr => 3 - (intOf i).toNat)
  case atStart => exact ⟨0, by omega, rfl, I0⟩
  case round =>
    obtain ⟨k, hk, rfl, hI⟩ := hrel
    clear I0
    by_cases hlt : k < 3
    · obtain ⟨x, hx⟩ : ∃ x, F[k]? = some x := ⟨F[k]'(by omega), by simp⟩
      have hxb := HF.out k x hx
      have f0 : wr.cell? ⟨w.heap.size, k, none⟩ = some (.int .u8 x) := hI.f.cell k (.int .u8 x) (by simp [hx]; rw [List.getElem?_append_left (by simp; omega)]; simp [hx])
      have hst := Lib.hid (store_yes Cn Sn (soFar (F.map cut4) k) k k 0 (x % 4) wr hI.cells (soFar_at (by simp; omega)) (by omega) (by omega))
      have hcv : IntKind.u64.wrap x = x := by rw [IntKind.wrap_u64]; omega
      have HI := Lib.hid hI
      have HX := Lib.hid hx
      clear hI hx
      have i0 : 0 ≤ (k : Int) ∧ (k : Int) < 3 := by omega
      go_upto_region 8 with (go_at_call 21; refine hst.out.mono ?_; rintro e w4 ⟨rfl, hC, kC⟩)
      obtain ⟨g1, g2, g4, ⟨v, hD, hrow⟩, g6, g7, g8⟩ := HI.out.put HX.out kC hC
      have HL := Lib.hid HI.out.lt
      clear hst HI kC hC f0
      dsimp only at g1 g4 g6 hD
      have c0 : w4.cell? ⟨Dn, 0, none⟩ = some v := hD.cell 0 _ rfl
      have hlt5 := HL.out
      dsimp only at hlt5
      have nD : w.heap.size ≠ Dn := g2.apart hD (by decide)
      have nC : Cn ≠ Dn := g1.own.apart hD (by decide)
      have nS : Sn ≠ Dn := g1.row.apart hD (by decide)
      have nP : Pn ≠ Dn := g4.own.apart hD (by decide)
      have nR : Rn ≠ Dn := g4.row.apart hD (by decide)
      have nV : Vn ≠ Dn := g6.apart hD (by decide)
      have nX : ∀ y ∈ cs, ¬ (y = Dn ∨ Bn ≤ y) := fun y hy => by
        obtain ⟨i, hi⟩ := List.mem_iff_getElem?.1 hy
        have hlt := (List.getElem?_eq_some_iff.1 hi).1
        have hl := g4.len
        rw [List.length_replicate] at hl
        have := (g4.chan i y false hi (by rw [List.getElem?_replicate, if_pos (by omega)])).apart hD
        have := hlt5.2.2.1 y hy
        omega
      have sK : ∀ W, Keep (fun b => b = Dn ∨ Bn ≤ b) w4 W → (fun w' => w'.cell? ⟨w.heap.size, k, none⟩ = some (.int .u8 x)) W := fun W hk => (g2.keep hk (by omega)).cell k (.int .u8 x) (by simp; rw [List.getElem?_append_left (by simp; omega)]; simp [HX.out])
      have kI : Keep (fun b => b = Dn ∨ Bn ≤ b) w4 w4 := Keep.refl _ _
      have htm : x.tmod 4 = x % 4 := Int.tmod_eq_emod_of_nonneg hxb.1
      have hcv : IntKind.u64.wrap (x % 4) = x % 4 := by rw [IntKind.wrap_u64]; omega
      refine wp_region_held_drew (S := (fun w' => w'.cell? ⟨w.heap.size, k, none⟩ = some (.int .u8 x))) (by kernel_rfl) (sK _ kI.drew) (fun hHeld => ?_)
      refine wpAnyH_take (i := 0) (oi := _) (v := ?_) rfl (by kernel_rfl) (by kernel_rfl) (by kernel_rfl) (fun _ _ _ h => h) (Or.inl ⟨by rfl, ?_⟩) (by assumption) ?_
      rotate_left
      · intro w hSw; (try dsimp only at hSw); go_simp; try with_reducible rfl
      (try simp only [Act.put, List.setIfInBounds_toArray, List.set_cons_zero, List.set_cons_succ])
      refine wpAnyH_take (i := 1) (oi := _) (v := ?_) rfl (by kernel_rfl) (by kernel_rfl) (by kernel_rfl) (fun _ _ _ h => h) (Or.inl ⟨by rfl, ?_⟩) (by assumption) ?_
      rotate_left
      · intro w hSw; (try dsimp only at hSw); go_simp; try with_reducible rfl
      (try simp only [Act.put, List.setIfInBounds_toArray, List.set_cons_zero, List.set_cons_succ])
      refine wpAnyH_take (i := 2) (oi := _) (v := ?_) rfl (by kernel_rfl) (by kernel_rfl) (by kernel_rfl) (fun _ _ _ h => h) (Or.inl ⟨by rfl, ?_⟩) (by assumption) ?_
      rotate_left
      · intro w hSw; (try dsimp only at hSw); go_simp; try with_reducible rfl
      (try simp only [Act.put, List.setIfInBounds_toArray, List.set_cons_zero, List.set_cons_succ])
      refine wpAnyH_take (i := 3) (oi := _) (v := ?_) rfl (by kernel_rfl) (by kernel_rfl) (by kernel_rfl) (fun _ _ _ h => h) (Or.inl ⟨by rfl, ?_⟩) (by assumption) ?_
      rotate_left
      · intro w hSw; (try dsimp only at hSw); go_simp; try with_reducible rfl
      (try simp only [Act.put, List.setIfInBounds_toArray, List.set_cons_zero, List.set_cons_succ])
      refine wpAnyH_take (i := 5) (oi := _) (v := ?_) rfl (by kernel_rfl) (by kernel_rfl) (by kernel_rfl) (fun _ _ _ h => h) (Or.inl ⟨by rfl, ?_⟩) (by assumption) ?_
      rotate_left
      · intro w hSw; (try dsimp only at hSw); go_simp; try with_reducible rfl
      (try simp only [Act.put, List.setIfInBounds_toArray, List.set_cons_zero, List.set_cons_succ])
      refine wpAnyH_take (i := 6) (oi := _) (v := ?_) rfl (by kernel_rfl) (by kernel_rfl) (by kernel_rfl) (fun _ _ _ h => h) (Or.inl ⟨by rfl, ?_⟩) (by assumption) ?_
      rotate_left
      · intro w hSw; (try dsimp only at hSw); go_simp; try with_reducible rfl
      (try simp only [Act.put, List.setIfInBounds_toArray, List.set_cons_zero, List.set_cons_succ])
      refine wpAnyH_take (i := 7) (oi := _) (v := ?_) rfl (by kernel_rfl) (by kernel_rfl) (by kernel_rfl) (fun _ _ _ h => h) (Or.inl ⟨by rfl, ?_⟩) (by assumption) ?_
      rotate_left
      · intro w hSw; (try dsimp only at hSw); go_simp; try with_reducible rfl
      (try simp only [Act.put, List.setIfInBounds_toArray, List.set_cons_zero, List.set_cons_succ])
      refine wpAnyH_take (i := 8) (oi := _) (v := ?_) rfl (by kernel_rfl) (by kernel_rfl) (by kernel_rfl) (fun _ _ _ h => h) (Or.inl ⟨by rfl, ?_⟩) (by assumption) ?_
      rotate_left
      · intro w hSw; (try dsimp only at hSw); go_simp; try with_reducible rfl
      (try simp only [Act.put, List.setIfInBounds_toArray, List.set_cons_zero, List.set_cons_succ])
      refine wpAnyH_take (i := 9) (oi := _) (v := ?_) rfl (by kernel_rfl) (by kernel_rfl) (by kernel_rfl) (fun _ _ _ h => h) (Or.inl ⟨by rfl, ?_⟩) (by assumption) ?_
      rotate_left
      · intro w hSw; (try dsimp only at hSw); go_simp; try with_reducible rfl
      (try simp only [Act.put, List.setIfInBounds_toArray, List.set_cons_zero, List.set_cons_succ])
      refine wpAnyH_take (i := 10) (oi := _) (v := ?_) rfl (by kernel_rfl) (by kernel_rfl) (by kernel_rfl) (fun _ _ _ h => h) (Or.inl ⟨by rfl, ?_⟩) (by assumption) ?_
      rotate_left
      · intro w hSw; (try dsimp only at hSw); go_simp; try with_reducible rfl
      (try simp only [Act.put, List.setIfInBounds_toArray, List.set_cons_zero, List.set_cons_succ])
      refine wpAnyH_ready (rs := [4, 11]) (by kernel_rfl) (by simp) ?_
      refine AllReadyH.cons rfl (fun KK hKK => ?_) (AllReadyH.cons rfl (fun KK hKK => ?_) AllReadyH.nil)
      · go_simp
        go_wp2_with fail
        refine hKK.out _ _ (sK _ kI.drew) (fun hHeld => ?_)
        clear hKK KK
        (try dsimp only [Act.put]); (try simp only [Act.put, List.setIfInBounds_toArray, List.set_cons_zero, List.set_cons_succ])
        refine wpAnyH_ready (rs := [11]) (by kernel_rfl) (by simp) ?_
        refine AllReadyH.cons rfl (fun KK hKK => ?_) AllReadyH.nil
        go_simp
        go_wp2_with fail
        refine hKK.out _ _ (sK _ (kI.alloc _).drew) (fun hHeld => ?_)
        clear hKK KK
        (try dsimp only [Act.put]); (try simp only [Act.put, List.setIfInBounds_toArray, List.set_cons_zero, List.set_cons_succ])
        have hr5 : (w4.alloc (.cells #[.int .u64 (x % 4)] 52)).drew.ownsRow Bn 52 1 v k (((F.map cut4).take k).map (Value.int .u64)) := (hrow.alloc _).drew
        have hnew := cell_one_new w4 (.int .u64 (x % 4)) 52
        replace hnew : ∀ (j : Nat) (u : Value), [Value.int .u64 (x % 4)][j]? = some u → (w4.alloc (.cells #[.int .u64 (x % 4)] 52)).drew.cell? ((⟨w4.heap.size, 0, none⟩ : Addr).add j) = some u := hnew
        have hB5 : Bn ≤ (w4.alloc (.cells #[.int .u64 (x % 4)] 52)).drew.heap.size := by simp; omega
        have kX : Keep (fun b => b = Dn ∨ Bn ≤ b) w4 (w4.alloc (.cells #[.int .u64 (x % 4)] 52)).drew := ((Keep.refl _ _).alloc _).drew
        have hgr : ∀ w6 r, (w4.alloc (.cells #[.int .u64 (x % 4)] 52)).drew.grownBy w6 r → (w4.alloc (.cells #[.int .u64 (x % 4)] 52)).grownBy w6 r := fun w6 r h => ⟨h.1, h.2, h.3, h.4, h.5⟩
        clear hHeld
        generalize (w4.alloc (.cells #[.int .u64 (x % 4)] 52)).drew = X5 at *
        refine wpAnyH_ready (rs := [12]) (by kernel_rfl) (by simp) ?_
        refine AllReadyH.cons rfl (fun KK hKK => ?_) AllReadyH.nil
        rw [if_pos (by kernel_rfl)]
        refine wp_append_own _ _ _ _ rfl Bn 52 u0 (.int .u64 0) 1 8 Tryz.underlying50 hu hu0 hu1 hu2 rfl (by decide) _ _ _ rfl hr5 ⟨w4.heap.size, 0, none⟩ 1 1 [.int .u64 (x % 4)] rfl rfl hnew (by simp [Value.oneCell']) (by unfold maxLen; omega) (by omega) hB5 ?_
        intro v' w6 hown' hgrow _
        have hgb := grown_below (hgr _ _ hgrow) hrow g8
        obtain ⟨gg, gc, rfl⟩ := row_slice hown' (by omega)
        have D6 := hD.below hgb (by omega)
        have z0 := D6.free 0
        have d0 := D6.cell 0 v rfl
        have k6 : Keep (fun b => b = Dn ∨ Bn ≤ b) w4 w6 := ⟨hgb.os, hgb.tape, hgb.output, hgb.size, fun i hi hn => hgb.block i (by omega)⟩
        have k7 := k6.set (p := ⟨Dn, 0, none⟩) (fun _ => Or.inl rfl) (.slice (some ⟨gg, 0, none⟩) (k + 1) gc)
        refine hKK.out _ _ (sK _ k6) (fun hHeld => ?_)
        clear hKK KK
        (try dsimp only [Act.put]); (try simp only [Act.put, List.setIfInBounds_toArray, List.set_cons_zero, List.set_cons_succ])
        refine wpAnyH_take (i := 13) (oi := _) (v := ?_) rfl (by kernel_rfl) (by kernel_rfl) (by kernel_rfl) (fun _ _ _ h => h) (Or.inl ⟨by rfl, ?_⟩) (by assumption) ?_
        rotate_left
        · intro w hSw; (try dsimp only at hSw); go_simp; try with_reducible rfl
        (try simp only [Act.put, List.setIfInBounds_toArray, List.set_cons_zero, List.set_cons_succ])
        refine wpAnyH_take (i := 14) (oi := _) (v := ?_) rfl (by kernel_rfl) (by kernel_rfl) (by kernel_rfl) (fun _ _ _ h => h) (Or.inl ⟨by rfl, ?_⟩) (by assumption) ?_
        rotate_left
        · intro w hSw; (try dsimp only at hSw); go_simp; try with_reducible rfl
        (try simp only [Act.put, List.setIfInBounds_toArray, List.set_cons_zero, List.set_cons_succ])
        clear hHeld
        refine wpAnyH_ready (rs := [15]) (by kernel_rfl) (by simp) ?_
        refine AllReadyH.cons rfl (fun KK hKK => ?_) AllReadyH.nil
        go_simp
        go_wp2_with fail
        refine hKK.out _ _ (sK _ k7) (fun hHeld => ?_)
        clear hKK KK hHeld
        (try dsimp only [Act.put]); (try simp only [Act.put, List.setIfInBounds_toArray, List.set_cons_zero, List.set_cons_succ])
        refine wpAnyH_done (by kernel_rfl) ?_ _
        go_wp2
        go_roundw
        case rel =>
          have kk : Keep (fun b => b = Dn) w6 (w6.setCell ⟨Dn, 0, none⟩ (.slice (some ⟨gg, 0, none⟩) (k + 1) gc)) := (Keep.refl (fun b => b = Dn) w6).set (p := ⟨Dn, 0, none⟩) (fun _ => rfl) _
          refine ⟨k + 1, by omega, by go_num, ⟨g2.keep k7 (by omega), g1.keep k7 (by show ¬ (Cn = Dn ∨ Bn ≤ Cn); omega) (by show ¬ (Sn = Dn ∨ Bn ≤ Sn); omega), g4.keep k7 (by show ¬ (Pn = Dn ∨ Bn ≤ Pn); omega) (by show ¬ (Rn = Dn ∨ Bn ≤ Rn); omega) (fun y hy => nX y hy), ⟨_, D6.set 0 _, ?_⟩, g6.keep k7 (by show ¬ (Vn = Dn ∨ Bn ≤ Vn); omega), (g7.trans (hgb.mono (by omega))).setCell (p := ⟨Dn, 0, none⟩) (by show w.heap.size ≤ Dn; omega) _, HL.out, by show Bn ≤ _; rw [World.size_setCell]; exact Nat.le_trans g8 hgb.size⟩⟩
          have := ownsRow_keepQ hown' kk (fun g hg => by omega)
          have hx2 : (F.map cut4)[k]? = some (cut4 x) := by rw [List.getElem?_map, HX.out]; rfl
          rw [take_at hx2, List.map_append]
          exact this
        case measure => simp [intOf]; omega
      · go_simp
        go_wp2_with fail
        refine hKK.out _ _ (sK _ (kI.alloc _).drew) (fun hHeld => ?_)
        clear hKK KK
        (try dsimp only [Act.put]); (try simp only [Act.put, List.setIfInBounds_toArray, List.set_cons_zero, List.set_cons_succ])
        have c1 : (w4.alloc (.cells #[.int .u64 (x % 4)] 52)).cell? ⟨Dn, 0, none⟩ = some v := (hD.alloc _).cell 0 _ rfl
        refine wpAnyH_ready (rs := [4]) (by kernel_rfl) (by simp) ?_
        refine AllReadyH.cons rfl (fun KK hKK => ?_) AllReadyH.nil
        go_simp
        go_wp2_with fail
        refine hKK.out _ _ (sK _ (kI.alloc _).drew) (fun hHeld => ?_)
        clear hKK KK c1
        (try dsimp only [Act.put]); (try simp only [Act.put, List.setIfInBounds_toArray, List.set_cons_zero, List.set_cons_succ])
        have hr5 : (w4.alloc (.cells #[.int .u64 (x % 4)] 52)).drew.ownsRow Bn 52 1 v k (((F.map cut4).take k).map (Value.int .u64)) := (hrow.alloc _).drew
        have hnew := cell_one_new w4 (.int .u64 (x % 4)) 52
        replace hnew : ∀ (j : Nat) (u : Value), [Value.int .u64 (x % 4)][j]? = some u → (w4.alloc (.cells #[.int .u64 (x % 4)] 52)).drew.cell? ((⟨w4.heap.size, 0, none⟩ : Addr).add j) = some u := hnew
        have hB5 : Bn ≤ (w4.alloc (.cells #[.int .u64 (x % 4)] 52)).drew.heap.size := by simp; omega
        have kX : Keep (fun b => b = Dn ∨ Bn ≤ b) w4 (w4.alloc (.cells #[.int .u64 (x % 4)] 52)).drew := ((Keep.refl _ _).alloc _).drew
        have hgr : ∀ w6 r, (w4.alloc (.cells #[.int .u64 (x % 4)] 52)).drew.grownBy w6 r → (w4.alloc (.cells #[.int .u64 (x % 4)] 52)).grownBy w6 r := fun w6 r h => ⟨h.1, h.2, h.3, h.4, h.5⟩
        clear hHeld
        generalize (w4.alloc (.cells #[.int .u64 (x % 4)] 52)).drew = X5 at *
        refine wpAnyH_ready (rs := [12]) (by kernel_rfl) (by simp) ?_
        refine AllReadyH.cons rfl (fun KK hKK => ?_) AllReadyH.nil
        rw [if_pos (by kernel_rfl)]
        refine wp_append_own _ _ _ _ rfl Bn 52 u0 (.int .u64 0) 1 8 Tryz.underlying50 hu hu0 hu1 hu2 rfl (by decide) _ _ _ rfl hr5 ⟨w4.heap.size, 0, none⟩ 1 1 [.int .u64 (x % 4)] rfl rfl hnew (by simp [Value.oneCell']) (by unfold maxLen; omega) (by omega) hB5 ?_
        intro v' w6 hown' hgrow _
        have hgb := grown_below (hgr _ _ hgrow) hrow g8
        obtain ⟨gg, gc, rfl⟩ := row_slice hown' (by omega)
        have D6 := hD.below hgb (by omega)
        have z0 := D6.free 0
        have d0 := D6.cell 0 v rfl
        have k6 : Keep (fun b => b = Dn ∨ Bn ≤ b) w4 w6 := ⟨hgb.os, hgb.tape, hgb.output, hgb.size, fun i hi hn => hgb.block i (by omega)⟩
        have k7 := k6.set (p := ⟨Dn, 0, none⟩) (fun _ => Or.inl rfl) (.slice (some ⟨gg, 0, none⟩) (k + 1) gc)
        refine hKK.out _ _ (sK _ k6) (fun hHeld => ?_)
        clear hKK KK
        (try dsimp only [Act.put]); (try simp only [Act.put, List.setIfInBounds_toArray, List.set_cons_zero, List.set_cons_succ])
        refine wpAnyH_take (i := 13) (oi := _) (v := ?_) rfl (by kernel_rfl) (by kernel_rfl) (by kernel_rfl) (fun _ _ _ h => h) (Or.inl ⟨by rfl, ?_⟩) (by assumption) ?_
        rotate_left
        · intro w hSw; (try dsimp only at hSw); go_simp; try with_reducible rfl
        (try simp only [Act.put, List.setIfInBounds_toArray, List.set_cons_zero, List.set_cons_succ])
        refine wpAnyH_take (i := 14) (oi := _) (v := ?_) rfl (by kernel_rfl) (by kernel_rfl) (by kernel_rfl) (fun _ _ _ h => h) (Or.inl ⟨by rfl, ?_⟩) (by assumption) ?_
        rotate_left
        · intro w hSw; (try dsimp only at hSw); go_simp; try with_reducible rfl
        (try simp only [Act.put, List.setIfInBounds_toArray, List.set_cons_zero, List.set_cons_succ])
        clear hHeld
        refine wpAnyH_ready (rs := [15]) (by kernel_rfl) (by simp) ?_
        refine AllReadyH.cons rfl (fun KK hKK => ?_) AllReadyH.nil
        go_simp
        go_wp2_with fail
        refine hKK.out _ _ (sK _ k7) (fun hHeld => ?_)
        clear hKK KK hHeld
        (try dsimp only [Act.put]); (try simp only [Act.put, List.setIfInBounds_toArray, List.set_cons_zero, List.set_cons_succ])
        refine wpAnyH_done (by kernel_rfl) ?_ _
        go_wp2
        go_roundw
        case rel =>
          have kk : Keep (fun b => b = Dn) w6 (w6.setCell ⟨Dn, 0, none⟩ (.slice (some ⟨gg, 0, none⟩) (k + 1) gc)) := (Keep.refl (fun b => b = Dn) w6).set (p := ⟨Dn, 0, none⟩) (fun _ => rfl) _
          refine ⟨k + 1, by omega, by go_num, ⟨g2.keep k7 (by omega), g1.keep k7 (by show ¬ (Cn = Dn ∨ Bn ≤ Cn); omega) (by show ¬ (Sn = Dn ∨ Bn ≤ Sn); omega), g4.keep k7 (by show ¬ (Pn = Dn ∨ Bn ≤ Pn); omega) (by show ¬ (Rn = Dn ∨ Bn ≤ Rn); omega) (fun y hy => nX y hy), ⟨_, D6.set 0 _, ?_⟩, g6.keep k7 (by show ¬ (Vn = Dn ∨ Bn ≤ Vn); omega), (g7.trans (hgb.mono (by omega))).setCell (p := ⟨Dn, 0, none⟩) (by show w.heap.size ≤ Dn; omega) _, HL.out, by show Bn ≤ _; rw [World.size_setCell]; exact Nat.le_trans g8 hgb.size⟩⟩
          have := ownsRow_keepQ hown' kk (fun g hg => by omega)
          have hx2 : (F.map cut4)[k]? = some (cut4 x) := by rw [List.getElem?_map, HX.out]; rfl
          rw [take_at hx2, List.map_append]
          exact this
        case measure => simp [intOf]; omega
    · obtain rfl : k = 3 := by omega
      obtain ⟨p0, hp0, hp1, hp2, hp3⟩ := info_parts ptask_info
      obtain ⟨z0, hz0, hz1, hz2, hz3⟩ := info_parts prtask_info
      have HI := Lib.hid hI
      clear hI
      go_upto_region 11 with (go_at_call 22; refine (mnew_any Cn Pn wr).mono ?_; rintro e w5 ⟨rfl, hM5, hb5⟩)
      have hI := HI.out
      clear HI
      have e1 : soFar (F.map cut4) 3 = F.map cut4 := by have : (F.map cut4).length = 3 := by simp [hFl]
                                                        rw [← this]; exact soFar_all
      have hM3 : (F.map cut4).take 3 = F.map cut4 := List.take_of_length_le (by simp; omega)
      obtain ⟨g1, g3, g4, ⟨v, hD, hrow⟩, g6, g7, h8, h9⟩ := hI
      dsimp only at g1 g3 g4 g6 hD h8
      rw [e1] at g3
      rw [hM3] at hrow
      rcases hrow.2 with ⟨_, h0⟩ | ⟨g, gcap, cur, rfl, hg, hh, hnc, _, hcs, htk⟩
      · omega
      have hgw : Blk wr g 52 cur := hh
      have hne1 : Dn ≠ g := hD.apart hgw (by decide)
      have hne2 : Dn ≠ Vn := hD.apart g6 (by decide)
      have hne3 : g ≠ Vn := hgw.apart g6 (by decide)
      have hcv : ∀ x ∈ cs, x ≠ Dn ∧ x ≠ g ∧ x ≠ Vn := fun x hx => by
        obtain ⟨i, hi⟩ := List.mem_iff_getElem?.1 hx
        have hlt := (List.getElem?_eq_some_iff.1 hi).1
        have hl := g4.len
        rw [List.length_replicate] at hl
        have hch := g4.chan i x false hi (by rw [List.getElem?_replicate, if_pos (by omega)])
        exact ⟨fun e => hch.apart hD e, fun e => hch.apart hgw e, fun e => hch.apart g6 e⟩
      have hfd : ∀ b, PIds.fx ⟨Cn, Sn, Pn, Rn, cs, wr.heap.size, Dn, g, Vn, w5.heap.size⟩ b → (w.heap.size < b ∧ b < wr.heap.size) ∧ ¬ PIds.dx ⟨Cn, Sn, Pn, Rn, cs, wr.heap.size, Dn, g, Vn, w5.heap.size⟩ b := fun b hb => by
        have hgl := hgw.lt
        have := h9
        rcases hb with rfl | rfl | rfl | rfl | hb
        · exact ⟨⟨by omega, by omega⟩, fun e => e.elim (g3.own.apart hD (by decide)) (fun e => e.elim (g3.own.apart hgw (by decide)) (g3.own.apart g6 (by decide)))⟩
        · exact ⟨⟨by omega, by omega⟩, fun e => e.elim (g3.row.apart hD (by decide)) (fun e => e.elim (fun e => by have e : b = g := e; omega) (g3.row.apart g6 (by decide)))⟩
        · exact ⟨⟨by omega, by omega⟩, fun e => e.elim (g4.own.apart hD (by decide)) (fun e => e.elim (g4.own.apart hgw (by decide)) (g4.own.apart g6 (by decide)))⟩
        · exact ⟨⟨by omega, by omega⟩, fun e => e.elim (g4.row.apart hD (by decide)) (fun e => e.elim (g4.row.apart hgw (by decide)) (g4.row.apart g6 (by decide)))⟩
        · have hb' : b ∈ cs := hb
          have := h8.2.2.1 b hb'
          have := h8.2.2.2.2.2.2.2.2.1 b hb'
          exact ⟨by omega, fun e => e.elim (hcv b hb').1 (fun e => e.elim (hcv b hb').2.1 (hcv b hb').2.2)⟩
      have hdd : ∀ b, PIds.dx ⟨Cn, Sn, Pn, Rn, cs, wr.heap.size, Dn, g, Vn, w5.heap.size⟩ b → w.heap.size < b ∧ b < wr.heap.size := fun b hb => by
        have hgl := hgw.lt
        rcases hb with rfl | rfl | rfl
        · omega
        · omega
        · omega
      have hRW : RWorld wr Dn g Vn (F.map cut4) (List.replicate n false) 0 := ⟨⟨gcap, by rw [List.length_map, hFl, List.length_replicate]; exact hD⟩, ⟨cur, hgw, by rw [List.length_map, hFl]; simpa using htk⟩, g6, ⟨by simp [hFl], by simp; omega⟩, ⟨hne1, hne2, hne3⟩⟩
      have hPL : Play (w5.alloc (.cells #[.slice none 0 0] 41)) ⟨Cn, Sn, Pn, Rn, cs, wr.heap.size, Dn, g, Vn, w5.heap.size⟩ (fun b => w.heap.size < b ∧ b < w5.heap.size + 1) (startS (F.map cut4) n (N.take 0) 3) (startS (F.map cut4) n (N.take 0) 0) := by
        have k5 : Keep (fun _ => False) wr w5 := Keep.ofBelow hb5
        have k6 : Keep (fun _ => False) w5 (w5.alloc (.cells #[.slice none 0 0] 41)) := (Keep.refl _ _).alloc _
        have kk := k5.trans k6
        have es6 : (w5.alloc (.cells #[.slice none 0 0] 41)).heap.size = w5.heap.size + 1 := by rw [World.size_alloc]
        have hP6 := g4.keep kk (fun h => h) (fun h => h) (fun _ _ h => h)
        have hwr := g7.size
        have hG6 : Blk (w5.alloc (.cells #[.slice none 0 0] 41)) w5.heap.size 41 #[.slice none 0 0] := Blk.new _ _ _
        have hMl : wr.heap.size < w5.heap.size := hM5.lt _ rfl
        have hCl := g3.own.lt
        have hSl := g3.row.lt
        have hPl := g4.own.lt
        have hRl := g4.row.lt
        refine ⟨⟨fun b => b = wr.heap.size, fun b => b = w5.heap.size, [], MachS.new (w := w5) (hM5.still k6) (g3.keep kk (fun h => h) (fun h => h)) (.inr hP6) ⟨by show wr.heap.size ≠ Cn; omega, by show wr.heap.size ≠ Sn; omega, by show wr.heap.size ≠ Pn; omega, by show wr.heap.size ≠ Rn; omega, fun hx => by have := h8.2.2.1 wr.heap.size hx; omega⟩ ⟨by show Pn < _; omega, by show Rn < _; omega, fun x hx => by have := h8.2.2.1 x hx; omega⟩, ?_, by simp [startS, drawnX], fun b hb => ?_, fun b hb => ?_⟩, hP6, hRW.keep kk (fun h => h) (fun h => h) (fun h => h), fun x hx => by simp [startS, drawnX] at hx, fun b hb => ⟨by have := (hfd b hb).1; omega, (hfd b hb).2⟩, fun b hb => by have := hdd b hb; omega, fun b hb => by omega⟩
        · exact ⟨⟨.slice none 0 0, 0, hG6, World.ownsRow_nil _ _ _ _, by omega, fun g h => by simp [Value.ownBlock] at h⟩, ⟨rfl, fun k h => by simp at h⟩, fun k h => by simp at h, List.Pairwise.nil, fun b hb => by omega, by simp⟩
        · subst hb
          exact ⟨by omega, by omega, fun e => by have := hdd _ e; omega⟩
        · subst hb
          exact ⟨by omega, fun e => by have := (hfd _ e).1; omega, fun e => by have := hdd _ e; omega⟩
      clear hfd hdd hRW hcv hne1 hne2 hne3 htk hh hgw hD hrow g3 g4 g6 h8 hM3 e1 hcs hnc hu hu0 hu1 hu2
      have hDX : Blk (w5.alloc (.cells #[.slice none 0 0] 41)) w.heap.size 25 (F.map (Value.int .u8) ++ [Value.slice a nl cap]).toArray := (g1.keep (Keep.ofBelow (Q := fun _ => False) hb5) (fun h => h)).keep ((Keep.refl (fun _ => False) _).alloc _) (fun h => h)
      have hBB : Below w.heap.size w (w5.alloc (.cells #[.slice none 0 0] 41)) := (g7.trans (hb5.mono g7.size)).alloc (by have := g7.size; have := hb5.size; omega) _
      obtain ⟨A0, hAx, hPL⟩ : ∃ A0 : Nat → Prop, (∀ b, A0 b → w.heap.size < b) ∧ Play (w5.alloc (.cells #[.slice none 0 0] 41)) ⟨Cn, Sn, Pn, Rn, cs, wr.heap.size, Dn, g, Vn, w5.heap.size⟩ A0 (startS (F.map cut4) n (N.take 0) 3) (startS (F.map cut4) n (N.take 0) 0) := ⟨_, fun b h => h.1, hPL⟩
      have HPL := Lib.hid hPL
      clear hPL hb5 hM5 g1 g7 hg h9
      generalize hc : (⟨Cn, Sn, Pn, Rn, cs, wr.heap.size, Dn, g, Vn, w5.heap.size⟩ : PIds) = c at HPL
      obtain rfl : Cn = c.C := by rw [← hc]
      obtain rfl : Pn = c.P := by rw [← hc]
      obtain rfl : Dn = c.D := by rw [← hc]
      have hcM : wr.heap.size = c.M := by rw [← hc]
      have hcG : w5.heap.size = c.G := by rw [← hc]
      rw [hcM, hcG]
      generalize (w5.alloc (.cells #[.slice none 0 0] 41)) = W6 at *
      clear hcM hcG hc hpos hk hlt
      clear HFc
      have hDX3 : W6.cell? ⟨w.heap.size, 3, none⟩ = some (.slice a nl cap) := hDX.cell 3 _ (by
        have := hFl
        rcases F with _ | ⟨x, _ | ⟨y, _ | ⟨z, _ | ⟨t, F⟩⟩⟩⟩ <;> simp at this <;> rfl)
      clear hFl
      go_loopw [14] (fun i wr => ∃ (t : Nat) (A : Nat → Prop), t ≤ 6 ∧ t ≤ nl ∧ i = .int .i64 t ∧ Hid (Play wr c A (startS (F.map cut4) n (N.take t) 3) (startS (F.map cut4) n (N.take t) 0)) ∧ (∀ b, A b → w.heap.size < b) ∧ Below w.heap.size w wr ∧ wr.cell? ⟨w.heap.size, 3, none⟩ = some (.slice a nl cap) ∧ w.heap.size < wr.heap.size) (fun i wr => 6 - (intOf i).toNat)
      case atStart => exact ⟨0, A0, by omega, by omega, rfl, HPL, hAx, hBB, hDX3, hDX.lt⟩
      case round =>
        clear HPL hAx hBB hDX hDX3
        obtain ⟨t, A, ht6, htl, rfl, hPL, hAx, hBB, c3, hXl⟩ := hrel
        have hsw := hBB.size
        by_cases hlt : t < nl ∧ t < 6
        · obtain ⟨hl1, hl2⟩ := hlt
          have hi1 : (t : Int) < (nl : Int) := by omega
          have hi2 : (t : Int) < 6 := by omega
          obtain ⟨row, hrow⟩ : ∃ row, N[t]? = some row := ⟨_, List.getElem?_eq_getElem (by rw [← HNL.out]; exact hl1)⟩
          obtain ⟨b1, o1, rfl, hb1, a1, cp1, hr1, hR1⟩ := (HA.out.below (hBB.mono hn0)) t row hrow
          have HR1 := Lib.hid hR1
          have HROW := Lib.hid hrow
          have hx1 := idx_sss nl cap b1 o1 t hl1
          clear hR1 hrow HA
          go_upto_region 16 with fail
          generalize wr = wt at *
          go_loopw [15, 16, 17] (fun v15 v16 i w3 => ∃ (k : Nat) (TK : List Tk) (K : List RTk) (X Y : Nat → Prop), k ≤ 5 ∧ k ≤ row.length ∧ i = .int .i64 k ∧ Hid (PIn wt w3 c.C c.P v15 TK X) ∧ Hid (RIn wt w3 v16 K Y) ∧ Hid (TK.map Tk.x = drawnK n row k) ∧ Hid (K.map RTk.tsk = drawnK n row k) ∧ Hid (∀ b, X b → ¬ Y b) ∧ Below wt.heap.size wt w3) (fun _ _ i _ => 5 - (intOf i).toNat)
          case atStart => exact ⟨0, [], [], _, _, by omega, by omega, rfl, Lib.hid (PIn.first wt _ _), Lib.hid (RIn.first wt), Lib.hid (by simp [drawnK]), Lib.hid (by simp [drawnK]), Lib.hid (fun _ h _ => h), Below.refl _ _⟩
          case round =>
            obtain ⟨k, TK, K, X, Y, hk5, hkl, rfl, hP, hR, hTK, hKK, hXY, hB3⟩ := hrel
            have hs3 := hB3.size
            have d3 := (hB3.cell (p := ⟨w.heap.size, 3, none⟩) hXl).trans c3
            have hr3 := (hB3.cell (p := ⟨b1, o1 + t, none⟩) (show b1 < _ by omega)).trans hr1
            by_cases hlk : k < row.length ∧ k < 5
            · obtain ⟨hk1, hk2⟩ := hlk
              have hj1 : (k : Int) < (row.length : Int) := by omega
              have hj2 : (k : Int) < 5 := by omega
              obtain ⟨R, hRk⟩ : ∃ R, row[k]? = some R := ⟨_, List.getElem?_eq_getElem hk1⟩
              obtain ⟨hRl, b2, o2, rfl, hb2, a2, cp2, hr2, hRaw⟩ := HR1.out k R hRk
              replace hr2 := (hB3.cell (p := ⟨b2, o2 + k, none⟩) (show b2 < _ by omega)).trans hr2
              have HRK := Lib.hid hRk
              have hx2 := idx_ss row.length cp1 b2 o2 k hk1
              have HF8 := Lib.hid (few8_any n a2 cp2 R hRl hn16 wr n0 (hRaw.below (hB3.mono (by omega))) (by omega) (by omega))
              clear hRk hRaw hRl
              generalize hrl : R.length = rl at *
              clear hrl
              go_upto_region 19 with (go_at_call 23; refine HF8.out.mono ?_; rintro e w4 ⟨v4, rfl, ⟨I, hI, hIl, hIlo⟩, hb4⟩)
              have hs4 := hb4.size
              have d4 := (hb4.cell (p := ⟨w.heap.size, 3, none⟩) (show w.heap.size < _ by omega)).trans d3
              obtain ⟨ia, ic, rfl, hia⟩ := hI.is
              have HI := Lib.hid hI
              have HIlo := Lib.hid hIlo
              have HOKi := Lib.hid (hI.ok)
              have hil : (fewS n R).length ≤ 8 := fewS_len
              have HPK := Lib.hid (drawnK_next (n := n) HRK.out)
              clear hI hIlo HF8 hr2 hx2 d3 hr3
              generalize wr = wk at *
              generalize fewS n R = items at *
              obtain ⟨il, hile⟩ : ∃ il, items.length = il := ⟨_, rfl⟩
              have HIL := Lib.hid hile
              rw [hile] at hil hia ⊢
              clear hile
              go_upto_region 21 with fail
              go_loopw [19, 20] (fun v19 i w3 => ∃ (j : Nat) (L : List (Option Addr × List Itm)) (Q : Nat → Prop), j ≤ il ∧ i = .int .i64 j ∧ Hid (AInv w4 w3 c.C c.P items j (.slice none 0 0) v19 [] L Q)) (fun _ i _ => 9 - (intOf i).toNat)
              case atStart => exact ⟨0, [], _, by omega, rfl, Lib.hid (ainv_first w4 c.C c.P items)⟩
              case round =>
                obtain ⟨j, L, Q, hj, rfl, hA⟩ := hrel
                have hbw := hA.out.below
                have hsz := hbw.size
                have hfp := hA.out.fp
                by_cases hjl : j < il
                · obtain ⟨x, hx⟩ : ∃ x, items[j]? = some x := ⟨_, List.getElem?_eq_getElem (by rw [HIL.out]; exact hjl)⟩
                  obtain rfl := hia (by omega)
                  obtain ⟨x0, x1, x2, x3⟩ := HI.out.cell j x hx
                  have kw : Keep (fun _ => False) w4 wr := Keep.ofBelow hbw
                  have q0 := cell_keep6 x0 kw (fun h => h)
                  have q1 := cell_keep6 x1 kw (fun h => h)
                  have q2 := cell_keep6 x2 kw (fun h => h)
                  have q3 := cell_keep6 x3 kw (fun h => h)
                  have HO := Lib.hid (one6_any c.C c.P (Qn Q wr) x wr (HOKi.out x (List.mem_of_getElem? hx)) (fun j hj => .inr hj))
                  have HX := Lib.hid hx
                  have j0 : 0 ≤ (j : Int) := by omega
                  have j1 : (j : Int) < (il : Int) := by omega
                  clear hx x0 x1 x2 x3 kw hbw
                  go_wp2_with (first
                    | (go_at_call 24; refine HO.out.mono ?_; rintro e w5 ⟨t5, r5, v5, rfl, hM5, hE5⟩; have HM5 := Lib.hid hM5; have HE5 := Lib.hid hE5; have hs5 := hM5.2.2.size; have hrow5 := own_keep6 hA.out.p (Keep.ofBelow (Q := fun _ => False) hM5.2.2) (fun _ _ h => h); clear hM5 hE5 q0 q1 q2 q3)
                    | (at_builtin; refine wpList_append_own2 _ rfl _ _ 61 rfl w4.heap.size 66 p0 (.pointer none) 1 8 Tryz.underlying61 hp0 hp1 hp2 hp3 rfl (by decide) _ _ _ rfl (hrow5.alloc _) ⟨w5.heap.size, 0, none⟩ 1 1 [pV t5] rfl rfl (cell_one_new _ _ _) (by simp [Value.oneCell']) (by unfold maxLen; omega) (by omega) (by simp; omega) (by omega) ?_; intro g6 c6 w6 h6 hgr6 hg6))
                  replace hgr6 : (w5.alloc (.cells #[pV t5] 66)).grownBy w6 u19.ownBlock := hgr6
                  replace hg6 : u19.ownBlock = some g6 ∨ (w5.alloc (.cells #[pV t5] 66)).heap.size ≤ g6 := hg6
                  have hA2 := Lib.hid (hA.out.push HX.out HM5.out HE5.out h6 hgr6 hg6)
                  go_roundw
                  case rel => exact ⟨j + 1, _, _, by omega, by go_num, hA2⟩
                  case measure => simp [intOf]; omega
                · obtain rfl : j = il := by omega
                  have HS := Lib.hid (seq_of w4 wr c.C c.P items u19 L Q (by rw [HIL.out]; exact hA.out) (by rw [HIL.out]; omega))
                  have hrowk : wk.ownsRow wt.heap.size 66 1 u15 TK.length (TK.map fun k => pV k.t) := hP.out.row
                  have hTKl : TK.length = k := by have := congrArg List.length hTK.out; simpa [drawnK, hkl] using this
                  have hKl : K.length = k := by have := congrArg List.length hKK.out; simpa [drawnK, hkl] using this
                  have HTKl := Lib.hid hTKl
                  have HKl := Lib.hid hKl
                  have hwt := hB3.size
                  have hTK5 : TK.length ≤ 5 := by omega
                  have hK5 : K.length ≤ 5 := by omega
                  have HB4 := Lib.hid hb4
                  have HITa : Hid (ItemsAt w4 I (.slice ia j ic) items) := Lib.hid (by have := HI.out; rwa [HIL.out] at this)
                  clear hTKl hKl HI hb4
                  go_upto_region 25 with (first
                    | (go_at_call 25; refine HS.out.mono ?_; rintro e w6 ⟨t6, rfl, hM6⟩; have HM6 := Lib.hid hM6; have hs6 := hM6.2.2.size; have hrow6 := ownsRow_keep (ownsRow_keep hrowk (Keep.ofBelow HB4.out)) (Keep.ofBelow hM6.2.2); clear hM6 hrowk)
                    | (at_builtin; refine wpList_append_own2 _ rfl _ _ 61 rfl wt.heap.size 66 p0 (.pointer none) 1 8 Tryz.underlying61 hp0 hp1 hp2 hp3 rfl (by decide) _ _ _ rfl (hrow6.alloc _) ⟨w6.heap.size, 0, none⟩ 1 1 [pV t6] rfl rfl (cell_one_new _ _ _) (by simp [Value.oneCell']) (by unfold maxLen; omega) (by omega) (by simp; omega) (by omega) ?_; intro g8 c8 w8 h8 hgr8 hg8))
                  replace hgr8 : (w6.alloc (.cells #[pV t6] 66)).grownBy w8 u15.ownBlock := hgr8
                  replace hg8 : u15.ownBlock = some g8 ∨ w6.heap.size + 1 ≤ g8 := by rw [World.size_alloc] at hg8; exact hg8
                  have HMid := Lib.hid (mid_of hP.out hR.out hXY.out HB4.out HITa.out hIl HIlo.out HM6.out h8 hgr8 hg8)
                  have HBel := Lib.hid (mid_below hP.out hB3 HB4.out HM6.out hgr8)
                  have HRN := Lib.hid (rnew_any I (.slice ia j ic) items w8 HMid.out.it HMid.out.il)
                  have hrowr : w8.ownsRow wt.heap.size 71 1 u16 K.length (K.map fun k => ptrV k.T) := HMid.out.r.row
                  have s8 := HBel.out.size
                  clear h8 hgr8 hg8 hrow6 HM6 HB4 HITa
                  go_wp2_with (first
                    | (go_at_call 26; refine HRN.out.mono ?_; rintro e w9 ⟨rfl, hT9, hb9⟩; have HT9 := Lib.hid hT9; have HB9 := Lib.hid hb9; have hs9 := hb9.size; have hrow9 := ownsRow_keep hrowr (Keep.ofBelow hb9); clear hT9 hb9 hrowr)
                    | (at_builtin; refine wpList_append_own2 _ rfl _ _ 62 rfl wt.heap.size 71 z0 (.pointer none) 1 8 Tryz.underlying62 hz0 hz1 hz2 hz3 rfl (by decide) _ _ _ rfl (hrow9.alloc _) ⟨w9.heap.size, 0, none⟩ 1 1 [ptrV w8.heap.size] rfl rfl (cell_one_new _ _ _) (by simp [Value.oneCell']) (by unfold maxLen; omega) (by omega) (by simp; omega) (by omega) ?_; intro ga ca wa ha hgra hga))
                  replace hgra : (w9.alloc (.cells #[ptrV w8.heap.size] 71)).grownBy wa u16.ownBlock := hgra
                  replace hga : u16.ownBlock = some ga ∨ w9.heap.size + 1 ≤ ga := by rw [World.size_alloc] at hga; exact hga
                  obtain ⟨P1, ⟨Y', R1, xy1⟩, bb⟩ := mid_end HMid.out HT9.out HB9.out ha hgra hga
                  go_roundw
                  case rel => exact ⟨k + 1, _, _, _, Y', by omega, by omega, by go_num, Lib.hid P1, Lib.hid R1, Lib.hid (by rw [List.map_append, hTK.out, HPK.out]; rfl), Lib.hid (by rw [List.map_append, hKK.out, HPK.out]; rfl), Lib.hid xy1, HBel.out.trans bb⟩
                  case measure => simp [intOf]; omega
            · have hKE := drawnK_end (n := n) (row := row) hkl hk5 (by omega)
              have HTE : Hid (TK.map Tk.x = drawnT n row) := Lib.hid (hTK.out.trans hKE)
              have HKE : Hid (K.map RTk.tsk = drawnT n row) := Lib.hid (hKK.out.trans hKE)
              have hTKl : TK.length = k := by have := congrArg List.length hTK.out; simpa [drawnK, hkl] using this
              have hKl : K.length = k := by have := congrArg List.length hKK.out; simpa [drawnK, hkl] using this
              have htN : t ≤ N.length := by rw [← HNL.out]; exact htl
              have hln : (startS (F.map cut4) n (N.take t) 3).ts.length = t := drawnX_len htN
              have hln0 : (startS (F.map cut4) n (N.take t) 0).ts.length = t := drawnX_len htN
              have hAl := hPL.out.lt
              have hP1 := hPL.out.below hB3
              have HAD := play_add (TK := TK) (v := u15) hP1 hP.out.gives (fun b hb ha => by have := (hP.out.rng b hb).1; have := hAl b ha; omega) (fun j hj => by
                have hm : j.x ∈ drawnK n row k := by rw [← hTK.out]; exact List.mem_map_of_mem hj
                exact drawnK_park hn16.1 j.x hm) (by rw [hln]; omega) (by omega)
              rw [hln] at HAD
              have HAD2 := Lib.hid HAD
              have HRA : Hid (∀ w7 A7, Play w7 c A7 ⟨(startS (F.map cut4) n (N.take t) 3).m, (startS (F.map cut4) n (N.take t) 3).ps, (startS (F.map cut4) n (N.take t) 3).ts ++ [goS (TK.map Tk.x) []], (startS (F.map cut4) n (N.take t) 3).n⟩ (startS (F.map cut4) n (N.take t) 0) → (∀ b, A7 b → A b ∨ X b ∨ wr.heap.size ≤ b) → Keep (fun b => A b ∨ X b) wr w7 →
                  Calls Tryz.prog 28 #[ptrV c.G, u16] w7 fun e w' => e = .returned (.tuple #[]) ∧ ∃ A8, Play w' c A8 (startS (F.map cut4) n (N.take (t + 1)) 3) (startS (F.map cut4) n (N.take (t + 1)) 0) ∧ (∀ b, A8 b → w.heap.size < b) ∧ Below w.heap.size w w' ∧ w'.cell? ⟨w.heap.size, 3, none⟩ = some (.slice (some ⟨b1, o1, none⟩) nl cap) ∧ w.heap.size < w'.heap.size) := Lib.hid (by
                intro w7 A7 h7 hA7 k7
                have nYA : ∀ b, Y b → ¬ (A b ∨ X b) := fun b hb e => by
                  have hr := hR.out.rng b hb
                  rcases e with e | e
                  · have := hAl b e; omega
                  · exact hXY.out b e hb
                have hR7 := hR.out.keep k7 nYA
                refine (play_radd h7 (hR7.gives (by omega)) (fun b hb ha => by
                  rcases hA7 b ha with e | e | e
                  · exact nYA b hb (.inl e)
                  · exact nYA b hb (.inr e)
                  · have := (hR.out.rng b hb).2; omega) (fun j hj => by
                  have hm : j.tsk ∈ drawnK n row k := by rw [← hKK.out]; exact List.mem_map_of_mem hj
                  exact drawnK_park hn16.1 j.tsk hm) (by rw [hln0]; omega)).mono ?_
                rintro e w' ⟨rfl, ⟨A8, h8, hA8⟩, k8⟩
                have s7 := k7.size
                have s8 := k8.size
                have hAl8 : ∀ b, A8 b → w.heap.size < b := fun b hb => by
                  rcases hA8 b hb with e | e | e
                  · rcases hA7 b e with e | e | e
                    · exact hAx b e
                    · have := (hP.out.rng b e).1; omega
                    · omega
                  · have := (hR.out.rng b e).1; omega
                  · omega
                have n7 : ∀ b, (A b ∨ X b) → w.heap.size < b := fun b e => e.elim (hAx b) (fun e => by have := (hP.out.rng b e).1; omega)
                have n8 : ∀ b, (A7 b ∨ Y b) → w.heap.size < b := fun b e => e.elim (fun e => by
                  rcases hA7 b e with e | e | e
                  · exact hAx b e
                  · have := (hP.out.rng b e).1; omega
                  · omega) (fun e => by have := (hR.out.rng b e).1; omega)
                refine ⟨rfl, A8, ?_, hAl8, (hBB.trans ((hB3.mono hsw).trans (k7.below (by omega) (fun i _ e => Nat.le_of_lt (n7 i e))))).trans (k8.below (by omega) (fun i _ e => Nat.le_of_lt (n8 i e))), ?_, by omega⟩
                · have e1 := drawnX_next (n := n) HROW.out
                  have e2 := endOf_zero (n := n) HKE.out
                  rw [e2, HTE.out] at h8
                  simp only [startS, e1] at h8 ⊢
                  exact h8
                · have d1 := (hB3.cell (p := ⟨w.heap.size, 3, none⟩) hXl).trans c3
                  exact cell_keep (cell_keep d1 k7 (fun e => by have := n7 _ e; exact Nat.lt_irrefl _ this)) k8 (fun e => by have := n8 _ e; exact Nat.lt_irrefl _ this))
              clear HAD hP1 hAl hln hln0 hTKl hKl hKE
              by_cases hc : k < row.length
              · have hc1 : (k : Int) < (row.length : Int) := by omega
                have hc2 : ¬ (k : Int) < 5 := by omega
                go_wp2_with (first
                  | (go_at_call 27; refine HAD2.out.mono ?_; rintro e w7 ⟨rfl, ⟨A7, h7, hA7⟩, k7⟩; have HRA2 := Lib.hid (HRA.out w7 A7 h7 hA7 k7); clear h7 hA7 k7)
                  | (go_at_call 28; refine HRA2.out.mono ?_; rintro e w8 ⟨rfl, A8, h8, hA8, hb8, d8, l8⟩; have H8 := Lib.hid h8; clear h8))
                go_roundw
                case rel => exact ⟨t + 1, A8, by omega, by omega, by go_num, H8, hA8, hb8, d8, l8⟩
                case measure => simp [intOf]; omega
              · have hc1 : ¬ (k : Int) < (row.length : Int) := by omega
                go_wp2_with (first
                  | (go_at_call 27; refine HAD2.out.mono ?_; rintro e w7 ⟨rfl, ⟨A7, h7, hA7⟩, k7⟩; have HRA2 := Lib.hid (HRA.out w7 A7 h7 hA7 k7); clear h7 hA7 k7)
                  | (go_at_call 28; refine HRA2.out.mono ?_; rintro e w8 ⟨rfl, A8, h8, hA8, hb8, d8, l8⟩; have H8 := Lib.hid h8; clear h8))
                go_roundw
                case rel => exact ⟨t + 1, A8, by omega, by omega, by go_num, H8, hA8, hb8, d8, l8⟩
                case measure => simp [intOf]; omega
        · skip
          have hNt : N.take t = N.take 6 := by
            have := HNL.out
            rcases Nat.lt_or_ge t 6 with h | h
            · rw [List.take_of_length_le (by omega), List.take_of_length_le (by omega)]
            · rw [show t = 6 by omega]
          have HNT := Lib.hid hNt
          clear hNt
          by_cases hc : t < nl
          · have hc1 : (t : Int) < (nl : Int) := by omega
            have hc2 : ¬ (t : Int) < 6 := by omega
            go_wp2
            refine bodyPost_ret (v := .tuple #[pV c.M, cellsV c.C, permitsV c.P, ptrV c.G, ptrV c.D]) (by simp [results, Tryz.results5, go_sem]) rfl ?_
            exact ⟨c, rfl, A, by rw [← HNT.out]; exact hPL.out, fun b hb => Nat.le_of_lt (hAx b hb), hBB⟩
          · have hc1 : ¬ (t : Int) < (nl : Int) := by omega
            go_wp2
            refine bodyPost_ret (v := .tuple #[pV c.M, cellsV c.C, permitsV c.P, ptrV c.G, ptrV c.D]) (by simp [results, Tryz.results5, go_sem]) rfl ?_
            exact ⟨c, rfl, A, by rw [← HNT.out]; exact hPL.out, fun b hb => Nat.le_of_lt (hAx b hb), hBB⟩
end Go.Proofs.YtpopcallphbklaaGreat
