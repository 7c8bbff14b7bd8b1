/- GroundNobody: the law. -/
import Derived.Test.YtbaehokffdpopaaGreatGrP
import Derived.Test.YtbaehokffdpopaaGreatHeld
namespace Go.Proofs.YtbaehokffdpopaaGreat
open Go.ChangeShapes Go.WideShapes Go.ChangeAt Go.RowKit Wd
set_option linter.unusedVariables false
set_option maxRecDepth 100000
set_option linter.unusedSimpArgs false
theorem row_sliceAt {w : World} {B n : Nat} {t : TypeId} {v : Value} {l : List Int} (h : w.ownsRow B t 1 v n (l.map intE)) (hl : l.length = n) : SliceAt intE w v l := by
  rcases h.2 with ⟨rfl, h0⟩ | ⟨g, c, cur, rfl, _⟩
  · have : l = [] := List.eq_nil_of_length_eq_zero (hl.trans h0)
    subst this
    exact nil_slice w
  · refine ⟨some ⟨g, 0, none⟩, c, by rw [hl], fun i x hx => ⟨g, 0, rfl, ?_⟩⟩
    have := h.cells (g := g) rfl i (intE x) (by rw [List.getElem?_map, hx]; rfl)
    rw [addr_add] at this
    rwa [Nat.zero_add]
set_option maxHeartbeats 8000000 in
theorem nobody_law (n0 n1 n2 : Nat) (b0 : n0 ≤ 255) (b1 : n1 ≤ 255) (b2 : n2 ≤ 255) (ha : Option Addr) (hn hc : Nat) (fa : Option Addr) (fn fc : Nat) (H : List Int) (F : List Bool) (w : World)
    (hh : SlN intE w ha H) (hl : H.length = min hn 8) (hfF : SlN Value.bool w fa F) (hlF : F.length = min fn 8) (hf : fn ≤ fc) (hn3 : hn ≤ 9223372036854775807) (fn3 : fn ≤ 9223372036854775807) :
    Calls Tryz.prog 5 #[draftV n0 n1 n2 ha hn hc fa fn fc] w fun e w' => e = .returned (.bool true) ∧ Below w.heap.size w w' := by
  have HW := Lib.hid fun V => works13_any V
  obtain ⟨kf, hkf⟩ : ∃ kf, kf = min fn 8 := ⟨_, rfl⟩
  have HP := Lib.hid fun V (hV : Below w.heap.size w V) => parts_any n0 n1 n2 b0 b1 b2 ha hn hc fa fn fc H V (hh.below hV) hl hf hn3 fn3 kf hkf
  have HF := Lib.hid fun V (hV : Below w.heap.size w V) => SlN.at (c := fc) (hfF.below hV) (hlF.trans hkf.symm)
  have hkl : kf ≤ 8 := by omega
  have hHl : H.length ≤ 8 := by omega
  have HFL := Lib.hid (hlF.trans hkf.symm)
  have hg := good_hp (mD n0 n1 n2) H
  have hok := mD_ok n0 n1 n2
  have HMT := Lib.hid (show (mD n0 n1 n2).t ≤ 8 ∧ (mD n0 n1 n2).o ≤ 6 from ⟨by show 1 + n0 % 8 ≤ 8; omega, by show 1 + n1 % 6 ≤ 6; omega⟩)
  obtain ⟨m, hm⟩ : ∃ m, m = mD n0 n1 n2 := ⟨_, rfl⟩
  obtain ⟨Hs, hHs⟩ : ∃ Hs, Hs = H.map hp := ⟨_, rfl⟩
  rw [← hm, ← hHs] at HP
  rw [← hm] at HMT hok
  rw [← hm, ← hHs] at hg
  have hHsl : Hs.length ≤ 8 := by rw [hHs, List.length_map]; exact hHl
  have HN := Lib.hid (show ∀ V hv fv, SliceAt intE V hv Hs → SliceAt Value.bool V fv F → Calls Tryz.prog 11 #[mapV m, hv, fv] V fun e w' => ∃ g, e = .returned (grV g) ∧ GrAt w' g m (mm0 m Hs F) (m.o + m.t + m.n + 1) (List.replicate m.t false) (.slice none 0 0) [] ∧ Below V.heap.size V w' from fun V hv fv h1 h2 => by
    refine (gnew_any m Hs F hv fv V hok h1 h2).mono ?_
    rintro e w' (⟨_, g, rfl, h2, b2, n2⟩ | ⟨hb, _, _⟩)
    · exact ⟨g, rfl, h2, b2⟩
    · exact absurd hg hb)
  clear hh hl hfF hlF hf hn3 fn3 hkf hm hHs
  go_enter Tryz.func5, Tryz.ntmps5
  go_upto_region 1 with fail
  generalize hW : w.alloc _ = W
  have bW : Below w.heap.size w W := by rw [← hW]; go_grown
  have q0 : Blk W w.heap.size 26 #[.int .u8 (n0 : Int), .int .u8 (n1 : Int), .int .u8 (n2 : Int), .slice ha hn hc, .slice fa fn fc] := by rw [← hW]; exact Blk.new w _ _
  clear hW
  go_upto_region 3 with (go_at_call 13; (with_reducible refine (HW.out _).mono ?_); rintro e w1 ⟨rfl, b1⟩)
  have p0 := q0.below b1 q0.lt
  have bw1 := bW.trans (b1.mono bW.size)
  have c0 := p0.cell 0 _ rfl
  have c1 := p0.cell 1 _ rfl
  have c2 := p0.cell 2 _ rfl
  have c3 := p0.cell 3 _ rfl
  have c4 := p0.cell 4 _ rfl
  have HP1 := Lib.hid (HP.out w1 bw1)
  have hs1 := bw1.size
  go_upto_region 4 with (go_at_call 10; (with_reducible refine HP1.out.mono ?_); rintro e w2 ⟨hv, rfl, hrow, b2⟩)
  have q3 : Blk (w2.alloc (.cells (mapCs m) 28)) w2.heap.size 28 (mapCs m) := Blk.new _ _ _
  have b23 : Below w2.heap.size w2 (w2.alloc (.cells (mapCs m) 28)) := by go_grown
  have bw3 := (bw1.trans (b2.mono hs1)).trans (b23.mono (by have := b2.size; omega))
  obtain ⟨ah, ch, rfl, hcH0⟩ := (row_sliceAt hrow rfl).below b23
  have s1 : SliceAt intE (w2.alloc (.cells (mapCs m) 28)) (.slice ah Hs.length ch) Hs := ⟨ah, ch, rfl, hcH0⟩
  obtain ⟨nh, hnh⟩ : ∃ nh, Hs.length = nh := ⟨_, rfl⟩
  have HNH := Lib.hid hnh
  rw [hnh] at s1 hHsl ⊢
  clear hcH0 hnh
  have s2 := HF.out _ bw3
  generalize hb3 : w2.heap.size = B3 at *
  generalize hW : w2.alloc (.cells (mapCs m) 28) = w3 at *
  clear hW hb3 c0 c1 c2 c3 c4 p0 q0 hrow b23 b2 b1 bw1 HP HP1 HF HW
  have HN3 := Lib.hid (HN.out w3 _ _ s1 s2)
  have S1 := Lib.hid s1
  have S2 := Lib.hid s2
  have BW3 := Lib.hid bw3
  obtain ⟨c0, c1, c2⟩ := map3 q3
  clear HN s1 s2
  go_upto_region 5 with (go_at_call 11; (with_reducible refine HN3.out.mono ?_); rintro e w4 ⟨g, rfl, h4, b4⟩)
  have q4 := q3.below b4 q3.lt
  have H4 := Lib.hid h4
  replace S1 := Lib.hid (S1.out.below b4)
  replace S2 := Lib.hid (S2.out.below b4)
  have BW4 := Lib.hid (BW3.out.trans (b4.mono BW3.out.size))
  have Q4 := Lib.hid q4
  clear c0 c1 c2 q3 h4 b4 HN3 bw3 BW3
  obtain ⟨c0, c1, c2⟩ := map3 q4
  go_upto_region 8 with fail
  clear c0 c1 c2 q4
  go_loopw [7] (fun v7 wr => ∃ o : Nat, o ≤ m.o ∧ v7 = .int .i64 (o : Int) ∧ Below w4.heap.size w4 wr) (fun v7 _ => (m.o - intOf v7).toNat)
  case atStart => exact ⟨0, by omega, rfl, Below.refl _ _⟩
  case round =>
    obtain ⟨o, ho, rfl, hbr⟩ := hrel
    have q5 := Q4.out.below hbr Q4.out.lt
    obtain ⟨c0, c1, c2⟩ := map3 q5
    have HBR := Lib.hid hbr
    have hsr := hbr.size
    have hmo := HMT.out.2
    by_cases hlt : o < m.o
    · have h5 := H4.out.below hbr
      have HV := Lib.hid fun V (hb : Below wr.heap.size wr V) => gview_new (h5.below hb) o hlt (hg o hlt)
      have HWd := Lib.hid (show ∀ V, Below wr.heap.size wr V → Calls Tryz.prog 31 #[grV g, .int .i64 (o : Int)] V fun e w' => e = .returned (.tuple #[.agg #[.int .i64 (tagO F o), .int .i64 0, .int .i64 0, .int .i64 0, .int .i64 0, .int .i64 (hashO Hs o)], .bool true]) ∧ Below V.heap.size V w' from fun V hb => gword_new (h5.below hb) o hlt (hg o hlt))
      have S1r := S1.out.below hbr
      have S2r := S2.out.below hbr
      clear hbr q5 h5
      have hcH : SlN intE wr ah Hs := by
        obtain ⟨a', c', e, h⟩ := S1r
        injection e with e1 e2 e3
        subst e1
        exact h
      clear S1r
      have hcF : SlN Value.bool wr fa F := by
        obtain ⟨a', c', e, h⟩ := S2r
        injection e with e1 e2 e3
        subst e1
        exact h
      clear S2r
      go_upto_region 11 with (go_at_call 22; (with_reducible refine (HV.out _ (Below.refl _ _)).mono ?_); rintro e w5 ⟨rfl, b5⟩)
      have v6 : Blk (w5.alloc (.cells (viewA (-1) 0 (.slice none 0 0)) 58)) w5.heap.size 58 (viewA (-1) 0 (.slice none 0 0)) := Blk.new _ _ _
      have b6 : Below wr.heap.size wr (w5.alloc (.cells (viewA (-1) 0 (.slice none 0 0)) 58)) := b5.alloc b5.size _
      generalize hb5 : w5.heap.size = B5 at *
      generalize hW : w5.alloc (.cells (viewA (-1) 0 (.slice none 0 0)) 58) = w6 at *
      clear hW hb5 b5
      have hhsz : Hid ((Tryz.prog.info? 77).map (·.size) = some 6) := Lib.hid hd_size
      obtain ⟨HA, hHA⟩ : ∃ HA : Array Value, HA = #[.int .i64 (tagO F o), .int .i64 0, .int .i64 0, .int .i64 0, .int .i64 0, .int .i64 (hashO Hs o)] := ⟨_, rfl⟩
      have hHA1 : Hid ((#[.int .i64 (tagO F o), .int .i64 0, .int .i64 0, .int .i64 0, .int .i64 0, .int .i64 (hashO Hs o)] : Array Value).all (·.oneCell') = true) := Lib.hid (by simp [Value.oneCell'])
      go_upto_region 12 with (first
        | (go_at_call 31; (with_reducible refine (HWd.out _ b6).mono ?_); rintro e w7 ⟨rfl, b7⟩)
        | (refine wpList_store_row rfl 77 _ _ rfl w7.heap.size #[.int .i64 (tagO F o), .int .i64 0, .int .i64 0, .int .i64 0, .int .i64 0, .int .i64 (hashO Hs o)] rfl rfl 77 zero6 (Blk.new w7 _ _) hhsz.out rfl hHA1.out ?_; (try simp only [Act.put, List.setIfInBounds_toArray, List.set_cons_zero, List.set_cons_succ])))
      rw [World.setRow_alloc_new, ← hHA]
      have h9 : Blk (w7.alloc (.cells HA 77)) w7.heap.size 77 HA := Blk.new _ _ _
      have v9 := (v6.below b7 v6.lt).alloc (.cells HA 77)
      have b9 : Below wr.heap.size wr (w7.alloc (.cells HA 77)) := (b6.trans (b7.mono b6.size)).alloc (by have := b6.size; have := b7.size; omega) _
      have sH := SlN.below (enc := intE) hcH b9
      have sF := hcF.below b9
      have BR9 := Lib.hid (HBR.out.trans (b9.mono hsr))
      generalize hb7 : w7.heap.size = B7 at *
      generalize hW : w7.alloc (.cells HA 77) = w9 at *
      clear hW hb7 b7 b6 v6 b9 hcH hcF HV HWd hhsz hHA1
      subst hHA
      have e0 := v9.cell 0 _ rfl
      have e1 := v9.cell 1 _ rfl
      have e2 := v9.cell 2 _ rfl
      have f0 := h9.cell 0 _ rfl
      have f5 := h9.cell 5 _ rfl
      have HLT := Lib.hid hlt
      have hoo : (o : Int) < 6 := by omega
      have hHn : (nh : Int) ≤ 8 := by omega
      have HNL := HNH.out
      have HFL2 := HFL.out
      clear v9 h9
      by_cases hoH : o < nh
      · have hoH2 : o < Hs.length := by omega
        obtain ⟨bh, oh, rfl, gx⟩ := sH o _ (List.getElem?_eq_getElem hoH2)
        have eH : hashO Hs o = Hs[o] := by simp [hashO, hoH2]
        rw [eH] at f5
        generalize Hs[o] = x at *
        replace gx : w9.cell? ⟨bh, oh + o, none⟩ = some (.int .i64 x) := gx
        have hih : ∀ V, (Instr.indexAt 23 (.slice (some ⟨bh, oh, none⟩) nh ch) (.int .i64 (o : Int))).run Tryz.prog V = .ok (.pointer (some ⟨bh, oh + o, none⟩)) V := by
          intro V
          go_simp
        clear sH eH
        by_cases hoF : o < kf
        · have hoF2 : o < F.length := by rw [HFL2]; exact hoF
          obtain ⟨bf, of, rfl, gy⟩ := sF o _ (List.getElem?_eq_getElem hoF2)
          have eT : tagO F o = if F[o] then 0 else 1 := by simp [tagO, freshO, hoF2]
          rw [eT] at f0
          generalize F[o] = y at *
          have hif : ∀ V, (Instr.indexAt 24 (.slice (some ⟨bf, of, none⟩) kf fc) (.int .i64 (o : Int))).run Tryz.prog V = .ok (.pointer (some ⟨bf, of + o, none⟩)) V := by
            intro V
            go_simp
          clear sF eT
          cases y
          all_goals
            (try simp only [if_true, if_false, Bool.false_eq_true] at f0)
            go_wp2_with fail
            go_roundw
            case rel => exact ⟨o + 1, HLT.out, rfl, BR9.out⟩
            case measure => simp [intOf]; omega
        · have eT : tagO F o = 1 := by
            have : F[o]? = none := List.getElem?_eq_none (by rw [HFL2]; omega)
            simp [tagO, freshO, this]
          rw [eT] at f0
          clear sF eT
          go_wp2_with fail
          go_roundw
          case rel => exact ⟨o + 1, HLT.out, rfl, BR9.out⟩
          case measure => simp [intOf]; omega
      · have eH : hashO Hs o = 0 := by
          have : Hs[o]? = none := List.getElem?_eq_none (by omega)
          simp [hashO, this]
        rw [eH] at f5
        clear sH eH
        by_cases hoF : o < kf
        · have hoF2 : o < F.length := by rw [HFL2]; exact hoF
          obtain ⟨bf, of, rfl, gy⟩ := sF o _ (List.getElem?_eq_getElem hoF2)
          have eT : tagO F o = if F[o] then 0 else 1 := by simp [tagO, freshO, hoF2]
          rw [eT] at f0
          generalize F[o] = y at *
          have hif : ∀ V, (Instr.indexAt 24 (.slice (some ⟨bf, of, none⟩) kf fc) (.int .i64 (o : Int))).run Tryz.prog V = .ok (.pointer (some ⟨bf, of + o, none⟩)) V := by
            intro V
            go_simp
          clear sF eT
          cases y
          all_goals
            (try simp only [if_true, if_false, Bool.false_eq_true] at f0)
            go_wp2_with fail
            go_roundw
            case rel => exact ⟨o + 1, HLT.out, rfl, BR9.out⟩
            case measure => simp [intOf]; omega
        · have eT : tagO F o = 1 := by
            have : F[o]? = none := List.getElem?_eq_none (by rw [HFL2]; omega)
            simp [tagO, freshO, this]
          rw [eT] at f0
          clear sF eT
          go_wp2_with fail
          go_roundw
          case rel => exact ⟨o + 1, HLT.out, rfl, BR9.out⟩
          case measure => simp [intOf]; omega
    · obtain rfl : o = m.o := by omega
      have HBX := Lib.hid hbr
      clear hbr HBR hsr hmo hlt ho
      go_upto_region 20 with fail
      clear q5
      go_loopw [13] (fun v13 wr => ∃ t : Nat, t ≤ m.t ∧ v13 = .int .i64 (t : Int) ∧ Below w4.heap.size w4 wr) (fun v13 _ => (m.t - intOf v13).toNat)
      case atStart => exact ⟨0, by omega, rfl, HBX.out⟩
      case round =>
        obtain ⟨t, ht, rfl, hbr⟩ := hrel
        have q5 := Q4.out.below hbr Q4.out.lt
        obtain ⟨c0, c1, c2⟩ := map3 q5
        have HBR := Lib.hid hbr
        have hmt := HMT.out.1
        have hsr := hbr.size
        by_cases hlt : t < m.t
        · have h5 := H4.out.below hbr
          obtain ⟨mm, hmm⟩ : ∃ mm, mm = mm0 m Hs F := ⟨_, rfl⟩
          have hm1 : mm[safeN m (t : Int)]? = some 1 := by rw [hmm]; exact mm0_safe m Hs F t hlt
          rw [← hmm] at h5
          have hml := h5.size
          obtain ⟨ln, hln⟩ : ∃ ln, mm.length = ln := ⟨_, rfl⟩
          have hsl : safeN m (t : Int) < ln := by rw [← hln]; exact (List.getElem?_eq_some_iff.1 hm1).1
          have hsb : ((safeN m (t : Int) : Nat) : Int) < (ln : Int) := by omega
          have hlb : ln ≤ 1000000 := by rw [← hln, hml]; have := hok.t; have := hok.o; have := hok.n; unfold sizeN; omega
          have HM1 := Lib.hid hm1
          have bd := bdrewP wr
          have h6 := h5.below bd
          have HHas := Lib.hid (has_any g.P g.R g.cs (List.replicate m.t false) t false wr.drew h6.perms (by rw [List.getElem?_replicate, if_pos hlt]))
          have HAll := Lib.hid (all_any _ _ _ _ wr.drew h6.cells)
          unfold AllIs at HAll
          rw [hln] at HAll
          have HSafe := Lib.hid fun V => safe_any m (t : Int) V hok (by omega)
          have SK := Lib.hid (show ∀ V, Below wr.heap.size wr V → V.cell? ⟨g.G, 3, none⟩ = some (cellsV g.C) ∧ V.cell? ⟨g.G, 4, none⟩ = some (permitsV g.P) ∧ V.cell? ⟨B3, 0, none⟩ = some (.int .i64 (m.t : Int)) ∧ V.cell? ⟨B3, 1, none⟩ = some (.int .i64 (m.o : Int)) ∧ V.cell? ⟨B3, 2, none⟩ = some (.int .i64 (m.n : Int)) from fun V hV => by
            have z := (h5.below hV).own
            have q := q5.below hV q5.lt
            exact ⟨z.cell 3 _ rfl, z.cell 4 _ rfl, q.cell 0 _ rfl, q.cell 1 _ rfl, q.cell 2 _ rfl⟩)
          have HLT := Lib.hid hlt
          clear hm1 hmm h5 h6 hml hln hbr q5
          go_upto_region 22 with fail
          clear c0 c1 c2
          refine wp_region_held_drew (S := (fun V => V.cell? ⟨g.G, 3, none⟩ = some (cellsV g.C) ∧ V.cell? ⟨g.G, 4, none⟩ = some (permitsV g.P) ∧ V.cell? ⟨B3, 0, none⟩ = some (.int .i64 (m.t : Int)) ∧ V.cell? ⟨B3, 1, none⟩ = some (.int .i64 (m.o : Int)) ∧ V.cell? ⟨B3, 2, none⟩ = some (.int .i64 (m.n : Int)))) (by kernel_rfl) (SK.out _ bd) (fun hHeld => ?_)
          refine wpAnyH_take (i := 0) (oi := _) (v := ?_) rfl (by kernel_rfl) (by kernel_rfl) (by kernel_rfl) (fun _ _ _ h => h) (Or.inl ⟨by rfl, ?_⟩) (by assumption) ?_
          rotate_left
          · intro w hSw; (try dsimp only at hSw); go_simp; try with_reducible rfl
          (try simp only [Act.put, List.setIfInBounds_toArray, List.set_cons_zero, List.set_cons_succ])
          refine wpAnyH_take (i := 1) (oi := _) (v := ?_) rfl (by kernel_rfl) (by kernel_rfl) (by kernel_rfl) (fun _ _ _ h => h) (Or.inl ⟨by rfl, ?_⟩) (by assumption) ?_
          rotate_left
          · intro w hSw; (try dsimp only at hSw); go_simp; try with_reducible rfl
          (try simp only [Act.put, List.setIfInBounds_toArray, List.set_cons_zero, List.set_cons_succ])
          refine wpAnyH_take (i := 2) (oi := _) (v := ?_) rfl (by kernel_rfl) (by kernel_rfl) (by kernel_rfl) (fun _ _ _ h => h) (Or.inl ⟨by rfl, ?_⟩) (by assumption) ?_
          rotate_left
          · intro w hSw; (try dsimp only at hSw); go_simp; try with_reducible rfl
          (try simp only [Act.put, List.setIfInBounds_toArray, List.set_cons_zero, List.set_cons_succ])
          refine wpAnyH_take (i := 3) (oi := _) (v := ?_) rfl (by kernel_rfl) (by kernel_rfl) (by kernel_rfl) (fun _ _ _ h => h) (Or.inl ⟨by rfl, ?_⟩) (by assumption) ?_
          rotate_left
          · intro w hSw; (try dsimp only at hSw); go_simp; try with_reducible rfl
          (try simp only [Act.put, List.setIfInBounds_toArray, List.set_cons_zero, List.set_cons_succ])
          refine wpAnyH_take (i := 4) (oi := _) (v := ?_) rfl (by kernel_rfl) (by kernel_rfl) (by kernel_rfl) (fun _ _ _ h => h) (Or.inl ⟨by rfl, ?_⟩) (by assumption) ?_
          rotate_left
          · intro w hSw; (try dsimp only at hSw); go_simp; try with_reducible rfl
          (try simp only [Act.put, List.setIfInBounds_toArray, List.set_cons_zero, List.set_cons_succ])
          refine wpAnyH_ready (rs := [5]) (by kernel_rfl) (by simp) ?_
          refine AllReadyH.cons rfl (fun K hK => ?_) AllReadyH.nil
          go_simp
          (with_reducible refine HHas.out.mono ?_)
          rintro e w6 ⟨rfl, rfl⟩
          go_wp2_with fail
          refine hK.out _ _ (SK.out _ bd) (fun hHeld => ?_)
          clear hK K
          (try dsimp only [Act.put]); (try simp only [Act.put, List.setIfInBounds_toArray, List.set_cons_zero, List.set_cons_succ])
          refine wpAnyH_take (i := 6) (oi := _) (v := ?_) rfl (by kernel_rfl) (by kernel_rfl) (by kernel_rfl) (fun _ _ _ h => h) (Or.inl ⟨by rfl, ?_⟩) (by assumption) ?_
          rotate_left
          · intro w hSw; (try dsimp only at hSw); go_simp; try with_reducible rfl
          (try simp only [Act.put, List.setIfInBounds_toArray, List.set_cons_zero, List.set_cons_succ])
          refine wpAnyH_take (i := 7) (oi := _) (v := ?_) rfl (by kernel_rfl) (by kernel_rfl) (by kernel_rfl) (fun _ _ _ h => h) (Or.inl ⟨by rfl, ?_⟩) (by assumption) ?_
          rotate_left
          · intro w hSw; (try dsimp only at hSw); go_simp; try with_reducible rfl
          (try simp only [Act.put, List.setIfInBounds_toArray, List.set_cons_zero, List.set_cons_succ])
          refine wpAnyH_take (i := 8) (oi := _) (v := ?_) rfl (by kernel_rfl) (by kernel_rfl) (by kernel_rfl) (fun _ _ _ h => h) (Or.inl ⟨by rfl, ?_⟩) (by assumption) ?_
          rotate_left
          · intro w hSw; (try dsimp only at hSw); go_simp; try with_reducible rfl
          (try simp only [Act.put, List.setIfInBounds_toArray, List.set_cons_zero, List.set_cons_succ])
          refine wpAnyH_take (i := 9) (oi := _) (v := ?_) rfl (by kernel_rfl) (by kernel_rfl) (by kernel_rfl) (fun _ _ _ h => h) (Or.inl ⟨by rfl, ?_⟩) (by assumption) ?_
          rotate_left
          · intro w hSw; (try dsimp only at hSw); go_simp; try with_reducible rfl
          (try simp only [Act.put, List.setIfInBounds_toArray, List.set_cons_zero, List.set_cons_succ])
          refine wpAnyH_take (i := 10) (oi := _) (v := ?_) rfl (by kernel_rfl) (by kernel_rfl) (by kernel_rfl) (fun _ _ _ h => h) (Or.inl ⟨by rfl, ?_⟩) (by assumption) ?_
          rotate_left
          · intro w hSw; (try dsimp only at hSw); go_simp; try with_reducible rfl
          (try simp only [Act.put, List.setIfInBounds_toArray, List.set_cons_zero, List.set_cons_succ])
          refine wpAnyH_take (i := 12) (oi := _) (v := ?_) rfl (by kernel_rfl) (by kernel_rfl) (by kernel_rfl) (fun _ _ _ h => h) (Or.inl ⟨by rfl, ?_⟩) (by assumption) ?_
          rotate_left
          · intro w hSw; (try dsimp only at hSw); go_simp; try with_reducible rfl
          (try simp only [Act.put, List.setIfInBounds_toArray, List.set_cons_zero, List.set_cons_succ])
          refine wpAnyH_take (i := 13) (oi := _) (v := ?_) rfl (by kernel_rfl) (by kernel_rfl) (by kernel_rfl) (fun _ _ _ h => h) (Or.inl ⟨by rfl, ?_⟩) (by assumption) ?_
          rotate_left
          · intro w hSw; (try dsimp only at hSw); go_simp; try with_reducible rfl
          (try simp only [Act.put, List.setIfInBounds_toArray, List.set_cons_zero, List.set_cons_succ])
          refine wpAnyH_ready (rs := [11]) (by kernel_rfl) (by simp) ?_
          refine AllReadyH.cons rfl (fun K hK => ?_) AllReadyH.nil
          go_simp
          (with_reducible refine HAll.out.mono ?_)
          rintro e w7 ⟨u, rfl, b7, hu⟩
          obtain ⟨ga, ca, rfl⟩ := row_slice hu (by omega)
          have gs : w7.cell? ⟨ga, safeN m (t : Int), none⟩ = some (.int .u64 1) := by
            have := hu.cells (g := ga) rfl (safeN m (t : Int)) (.int .u64 1) (by rw [List.getElem?_map, HM1.out]; rfl)
            rwa [addr_add] at this
          have hix : ∀ V, (Instr.indexAt 34 (.slice (some ⟨ga, 0, none⟩) ln ca) (.int .i64 ((safeN m (t : Int) : Nat) : Int))).run Tryz.prog V = .ok (.pointer (some ⟨ga, safeN m (t : Int), none⟩)) V := by
            intro V
            go_simp
          have b7d := Below.trans bd b7
          clear hu
          go_wp2_with fail
          refine hK.out _ _ (SK.out _ b7d) (fun hHeld => ?_)
          clear hK K
          (try dsimp only [Act.put]); (try simp only [Act.put, List.setIfInBounds_toArray, List.set_cons_zero, List.set_cons_succ])
          refine wpAnyH_moreP (S' := (fun V => (V.cell? ⟨g.G, 3, none⟩ = some (cellsV g.C) ∧ V.cell? ⟨g.G, 4, none⟩ = some (permitsV g.P) ∧ V.cell? ⟨B3, 0, none⟩ = some (.int .i64 (m.t : Int)) ∧ V.cell? ⟨B3, 1, none⟩ = some (.int .i64 (m.o : Int)) ∧ V.cell? ⟨B3, 2, none⟩ = some (.int .i64 (m.n : Int))) ∧ V.cell? ⟨ga, safeN m (t : Int), none⟩ = some (.int .u64 1))) (fun _ h => h.1) _ _ _ _ ?_
          replace hHeld : (fun V => (V.cell? ⟨g.G, 3, none⟩ = some (cellsV g.C) ∧ V.cell? ⟨g.G, 4, none⟩ = some (permitsV g.P) ∧ V.cell? ⟨B3, 0, none⟩ = some (.int .i64 (m.t : Int)) ∧ V.cell? ⟨B3, 1, none⟩ = some (.int .i64 (m.o : Int)) ∧ V.cell? ⟨B3, 2, none⟩ = some (.int .i64 (m.n : Int))) ∧ V.cell? ⟨ga, safeN m (t : Int), none⟩ = some (.int .u64 1)) w7 := And.intro (SK.out _ b7d) gs
          refine wpAnyH_ready (rs := [14]) (by kernel_rfl) (by simp) ?_
          refine AllReadyH.cons rfl (fun K hK => ?_) AllReadyH.nil
          go_simp
          (with_reducible refine (HSafe.out _).mono ?_)
          rintro e w8 ⟨rfl, b8⟩
          go_wp2_with fail
          refine hK.out _ _ (And.intro (SK.out _ (Below.trans b7d (Below.mono b8 b7d.size))) (cell_below gs b8)) (fun hHeld => ?_)
          clear hK K
          (try dsimp only [Act.put]); (try simp only [Act.put, List.setIfInBounds_toArray, List.set_cons_zero, List.set_cons_succ])
          refine wpAnyH_take (i := 15) (oi := _) (v := ?_) rfl (by kernel_rfl) (by kernel_rfl) (by kernel_rfl) (fun _ _ _ h => h) (Or.inl ⟨by rfl, ?_⟩) (by assumption) ?_
          rotate_left
          · intro w hSw; (try dsimp only at hSw); go_simp; try with_reducible rfl
          (try simp only [Act.put, List.setIfInBounds_toArray, List.set_cons_zero, List.set_cons_succ])
          refine wpAnyH_take (i := 16) (oi := _) (v := ?_) rfl (by kernel_rfl) (by kernel_rfl) (by kernel_rfl) (fun _ _ _ h => h) (Or.inl ⟨by rfl, ?_⟩) (by assumption) ?_
          rotate_left
          · intro w hSw; (try dsimp only at hSw); go_simp; try with_reducible rfl
          (try simp only [Act.put, List.setIfInBounds_toArray, List.set_cons_zero, List.set_cons_succ])
          refine wpAnyH_take (i := 17) (oi := _) (v := ?_) rfl (by kernel_rfl) (by kernel_rfl) (by kernel_rfl) (fun _ _ _ h => h) (Or.inl ⟨by rfl, ?_⟩) (by assumption) ?_
          rotate_left
          · intro w hSw; (try dsimp only at hSw); go_simp; try with_reducible rfl
          (try simp only [Act.put, List.setIfInBounds_toArray, List.set_cons_zero, List.set_cons_succ])
          refine wpAnyH_take (i := 18) (oi := _) (v := ?_) rfl (by kernel_rfl) (by kernel_rfl) (by kernel_rfl) (fun _ _ _ h => h) (Or.inl ⟨by rfl, ?_⟩) (by assumption) ?_
          rotate_left
          · intro w hSw; (try dsimp only at hSw); go_simp; try with_reducible rfl
          (try simp only [Act.put, List.setIfInBounds_toArray, List.set_cons_zero, List.set_cons_succ])
          refine wpAnyH_done (by kernel_rfl) ?_ _
          have b8d := Below.trans b7d (Below.mono b8 b7d.size)
          go_wp2_with fail
          go_roundw
          case rel => exact ⟨t + 1, HLT.out, rfl, HBR.out.trans (b8d.mono hsr)⟩
          case measure => simp [intOf]; omega
        · obtain rfl : t = m.t := by omega
          have BF := Lib.hid (BW4.out.trans (hbr.mono BW4.out.size))
          clear hbr HBR
          go_wp2_with fail
          go_ret
          exact ⟨rfl, BF.out⟩
end Go.Proofs.YtbaehokffdpopaaGreat
