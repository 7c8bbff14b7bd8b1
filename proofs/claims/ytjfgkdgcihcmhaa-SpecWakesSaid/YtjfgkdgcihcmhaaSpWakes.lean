/- Layer 12's laws: SpecWakes. Written by tools/gen_wakes.py. -/
import Derived.Test.YtjfgkdgcihcmhaaSpWakeA
import Derived.IntWalk
namespace Go.Proofs.Ytjfgkdgcihcmhaa
open Go.ChangeShapes Go.WideShapes Go.ChangeAt Go.RowKit
set_option linter.unusedVariables false
set_option maxRecDepth 100000
set_option linter.unusedSimpArgs false
theorem idxI (len c B i : Nat) (h : i < len) : ∀ W, (Instr.indexAt 30 (.slice (some ⟨B, 0, none⟩) len c) (.int .i64 (i : Int))).run Try.prog W = .ok (.pointer (some ⟨B, i, none⟩)) W := by
  intro W
  go_simp
theorem drop_cons {l : List Int} {i : Nat} {x : Int} (hi : l[i]? = some x) : l.drop i = x :: l.drop (i + 1) := by
  obtain ⟨hlt, e⟩ := List.getElem?_eq_some_iff.1 hi
  rw [List.drop_eq_getElem_cons hlt, e]
def eE (t c op : Int) : List Ev := [⟨0, t, c, op, 0, 0, 0, 0⟩, ⟨1, t, 0, op, 0, 0, 0, 0⟩, ⟨2, t, c, 0, 0, 0, 0, 0⟩]
def eW (t c : Int) : List Ev := [⟨0, t, c, 2, 0, 0, 0, 0⟩, ⟨1, t, 0, 2, 0, 0, 0, 0⟩]
def e4 : List Ev := [⟨0, 6, 0, 0, 0, 0, 0, 0⟩, ⟨1, 6, 0, 0, 0, 0, 0, 0⟩, ⟨2, 6, 0, 0, 0, 0, 0, 0⟩, ⟨0, 6, 1, 5, 0, 0, 0, 0⟩]
def e5 : List Ev := [⟨1, 6, 0, 3, 0, -1, 0, 0⟩, ⟨2, 6, 1, 0, 0, 0, 0, 0⟩, ⟨0, 6, 2, 1, 0, 0, 0, 0⟩, ⟨1, 6, 0, 1, 0, 0, 0, 0⟩, ⟨2, 6, 2, 0, 0, 0, 0, 0⟩]
def ownK (t : Nat) : Nat → Int
  | 0 => -1
  | _ + 1 => t
theorem enterK {f : Nat → Th} {l : List Int} {t k : Nat} (h : t < 7) (hf : f t = idle (k : Int)) (hk : k < 900) :
    takesS (mkS f ⟨ownK t k, (k : Int), l⟩) (eE t k 0) = (mkS (upd f t (idle ((k + 1 : Nat) : Int))) ⟨ownK t (k + 1), ((k + 1 : Nat) : Int), l⟩, true) :=
  enter3 (f := f) (own := ownK t k) (dep := (k : Int)) (l := l) (t := t) (c := (k : Int)) h hf (by cases k with | zero => exact .inr rfl | succ k => exact .inl rfl) (by omega) (by omega)
theorem waitK {f : Nat → Th} {l : List Int} {t k : Nat} {d : Int} (h : t < 7) (hf : f t = idle (k : Int)) (h0 : 0 < k) (hd : (k : Int) = d) :
    takesS (mkS f ⟨ownK t k, (k : Int), l⟩) (eW t k) = (mkS (upd f t (waitT d d)) ⟨-1, 0, l ++ [(t : Int)]⟩, true) := by
  subst hd
  obtain ⟨j, rfl⟩ : ∃ j, k = j + 1 := ⟨k - 1, by omega⟩
  exact wait2 (f := f) (dep := ((j + 1 : Nat) : Int)) (l := l) (t := t) (c := ((j + 1 : Nat) : Int)) h hf
theorem exitK {f : Nat → Th} {l : List Int} {t r : Nat} {c' : Int} (h : t < 7) (hf : f t = idle c') (hr : r < 900) (hc : 0 ≤ c' ∧ c' < 1000) :
    takesS (mkS f ⟨ownK t (r + 1), ((r + 1 : Nat) : Int), l⟩) (eE t c' 1) = (mkS (upd f t (idle (c' + 1))) ⟨ownK t r, (r : Int), l⟩, true) := by
  have h1 := exit3 (f := f) (dep := ((r + 1 : Nat) : Int)) (l := l) (t := t) (c := c') h hf (by omega) hc
  have e1 : ((r + 1 : Nat) : Int) - 1 = (r : Int) := by omega
  have e2 : (if (r : Int) = 0 then (-1 : Int) else (t : Int)) = ownK t r := by
    cases r with
    | zero => rfl
    | succ r => exact if_neg (by omega)
  rw [e1, e2] at h1
  exact h1
/-- who is woken, when thread 6 has woken i -/
structure Nt (D : Nat → Nat) (ord : List Int) (i : Nat) (f : Nat → Th) : Prop where
  six : f 6 = busyT 5 1
  old : ∀ j t : Nat, ord[j]? = some (t : Int) → j < i → f t = wokeT (1 + (D t : Int)) (1 + (D t : Int))
  new : ∀ j t : Nat, ord[j]? = some (t : Int) → i ≤ j → f t = waitT (1 + (D t : Int)) (1 + (D t : Int))
theorem nodup_idx {l : List Int} (hn : l.Nodup) {i j : Nat} {x : Int} (hi : l[i]? = some x) (hj : l[j]? = some x) : i = j := by
  exact (List.getElem?_inj (List.getElem?_eq_some_iff.1 hi).1 hn).1 (hi.trans hj.symm)
theorem Nt.next {D : Nat → Nat} {ord : List Int} {i : Nat} {f : Nat → Th} (h : Nt D ord i f) (hn : ord.Nodup) {t : Nat} (ht : t < 6) (hx : ord[i]? = some (t : Int)) : Nt D ord (i + 1) (upd f t (wokeT (1 + (D t : Int)) (1 + (D t : Int)))) := by
  refine ⟨by rw [upd_ne _ (by omega)]; exact h.six, fun j v hj hl => ?_, fun j v hj hl => ?_⟩
  · by_cases e : v = t
    · subst e; exact upd_self _ _ _
    · rw [upd_ne _ e]
      refine h.old j v hj ?_
      rcases Nat.lt_or_ge j i with k | k
      · exact k
      · obtain rfl : j = i := by omega
        rw [hx] at hj
        have := Option.some.inj hj
        omega
  · have e : v ≠ t := by
      rintro rfl
      have := nodup_idx hn hj hx
      omega
    rw [upd_ne _ e]
    exact h.new j v hj (by omega)
set_option maxHeartbeats 8000000 in
theorem wakes_law (b0 b1 b2 b3 b4 b5 d0 d1 d2 d3 d4 d5 : Nat) (w : World) (hb0 : b0 ≤ 255 ∧ b1 ≤ 255 ∧ b2 ≤ 255 ∧ b3 ≤ 255 ∧ b4 ≤ 255 ∧ b5 ≤ 255) (hd0 : d0 ≤ 255 ∧ d1 ≤ 255 ∧ d2 ≤ 255 ∧ d3 ≤ 255 ∧ d4 ≤ 255 ∧ d5 ≤ 255) :
    Calls Try.prog 4 #[.agg #[.int .u8 (b0 : Int), .int .u8 (b1 : Int), .int .u8 (b2 : Int), .int .u8 (b3 : Int), .int .u8 (b4 : Int), .int .u8 (b5 : Int)], .agg #[.int .u8 (d0 : Int), .int .u8 (d1 : Int), .int .u8 (d2 : Int), .int .u8 (d3 : Int), .int .u8 (d4 : Int), .int .u8 (d5 : Int)]] w fun e w' => e = .returned (.bool true) ∧ Below w.heap.size w w' := by
  have HBY : Hid (∀ i, i < 6 → ∃ b : Nat, (#[.int .u8 (b0 : Int), .int .u8 (b1 : Int), .int .u8 (b2 : Int), .int .u8 (b3 : Int), .int .u8 (b4 : Int), .int .u8 (b5 : Int)] : Array Value)[i]? = some (.int .u8 (b : Int)) ∧ b ≤ 255) := Lib.hid fun i hi => by
    match i, hi with
    | 0, _ => exact ⟨b0, rfl, hb0.1⟩
    | 1, _ => exact ⟨b1, rfl, hb0.2.1⟩
    | 2, _ => exact ⟨b2, rfl, hb0.2.2.1⟩
    | 3, _ => exact ⟨b3, rfl, hb0.2.2.2.1⟩
    | 4, _ => exact ⟨b4, rfl, hb0.2.2.2.2.1⟩
    | 5, _ => exact ⟨b5, rfl, hb0.2.2.2.2.2⟩
  obtain ⟨D, HDA⟩ : ∃ D : Nat → Nat, Hid (∀ i, i < 6 → ∃ b : Nat, (#[.int .u8 (d0 : Int), .int .u8 (d1 : Int), .int .u8 (d2 : Int), .int .u8 (d3 : Int), .int .u8 (d4 : Int), .int .u8 (d5 : Int)] : Array Value)[i]? = some (.int .u8 (b : Int)) ∧ b ≤ 255 ∧ b % 3 = D i) := ⟨fun i => (#[d0, d1, d2, d3, d4, d5].getD i 0) % 3, Lib.hid fun i hi => by
    match i, hi with
    | 0, _ => exact ⟨d0, rfl, hd0.1, rfl⟩
    | 1, _ => exact ⟨d1, rfl, hd0.2.1, rfl⟩
    | 2, _ => exact ⟨d2, rfl, hd0.2.2.1, rfl⟩
    | 3, _ => exact ⟨d3, rfl, hd0.2.2.2.1, rfl⟩
    | 4, _ => exact ⟨d4, rfl, hd0.2.2.2.2.1, rfl⟩
    | 5, _ => exact ⟨d5, rfl, hd0.2.2.2.2.2, rfl⟩⟩
  have HWK := Lib.hid works12_any
  clear hb0 hd0
  obtain ⟨i0, hi0, hz0, hz1, hz2⟩ := info_parts int_info
  have hm6 : ∀ W : World, (Instr.makeSlice 30 (.int .i64 6) (.int .i64 6)).run Try.prog W = .ok (.slice (some ⟨W.heap.size, 0, none⟩) 6 6) (W.alloc (.cells (rngA 6 fun _ => 0) 3)) := fun W => make_n 6 (by omega) (by omega) W
  have hm7 : ∀ W : World, (Instr.makeSlice 30 (.int .i64 7) (.int .i64 7)).run Try.prog W = .ok (.slice (some ⟨W.heap.size, 0, none⟩) 7 7) (W.alloc (.cells (rngA 7 fun _ => 0) 3)) := fun W => make_n 7 (by omega) (by omega) W
  go_enter Try.func4, Try.ntmps4
  go_upto_region 3 with (go_at_call 7; (with_reducible refine (HWK.out _).mono ?_); rintro e w0 ⟨rfl, bw⟩)
  obtain ⟨byA, hbyA⟩ : ∃ x : Array Value, x = #[.int .u8 (b0 : Int), .int .u8 (b1 : Int), .int .u8 (b2 : Int), .int .u8 (b3 : Int), .int .u8 (b4 : Int), .int .u8 (b5 : Int)] := ⟨_, rfl⟩
  obtain ⟨daA, hdaA⟩ : ∃ x : Array Value, x = #[.int .u8 (d0 : Int), .int .u8 (d1 : Int), .int .u8 (d2 : Int), .int .u8 (d3 : Int), .int .u8 (d4 : Int), .int .u8 (d5 : Int)] := ⟨_, rfl⟩
  rw [← hbyA] at HBY
  rw [← hdaA] at HDA
  have hb00 : Below w.heap.size w ((w.alloc (.cells byA 43)).alloc (.cells daA 43)) := ((Below.refl _ w).alloc (Nat.le_refl _) _).alloc (by rw [World.size_alloc]; omega) _
  have m0 : Blk ((w.alloc (.cells byA 43)).alloc (.cells daA 43)) w.heap.size 43 byA := (Blk.new w 43 _).below ((Below.refl _ _).alloc (Nat.le_refl _) _) (by rw [World.size_alloc]; omega)
  have s0 : Blk ((w.alloc (.cells byA 43)).alloc (.cells daA 43)) (w.heap.size + 1) 43 daA := by have := Blk.new (w.alloc (.cells byA 43)) 43 daA; rw [World.size_alloc] at this; exact this
  rw [hbyA, hdaA] at hb00 m0 s0
  have bb0 : Below w.heap.size w w0 := hb00.trans (bw.mono hb00.size)
  replace m0 := m0.below bw m0.lt
  replace s0 := s0.below bw s0.lt
  rw [← hbyA] at m0
  rw [← hdaA] at s0
  have HM := Lib.hid m0
  have HS := Lib.hid s0
  have HB := Lib.hid bb0
  clear hb00 bw hbyA hdaA HWK m0 s0 bb0
  have HNew := Lib.hid (new_some 7 1 w0 (by omega) (by omega))
  go_upto_region 4 with (go_at_call 9; refine HNew.out.mono ?_; rintro e w1 ⟨p, A, rfl, hS, hA, hb⟩)
  have HA := Lib.hid (show (∀ b, A b → w.heap.size + 2 ≤ b ∧ b < w1.heap.size) from fun b h => by have h1 := hA b h; have h2 := HS.out.lt; exact ⟨by omega, hS.lt b h⟩)
  have HK := Lib.hid (KS.mk (w := w) hS (newS_wf 7 1 (by omega) (by omega)) (fun b h => by have := (HA.out b h).1; omega) (HB.out.trans (hb.mono HB.out.size)))
  have HM1 := Lib.hid (HM.out.below hb HM.out.lt)
  have HS1 := Lib.hid (HS.out.below hb HS.out.lt)
  clear hS hA hb HM HS HB HNew
  go_upto_region 8 with fail
  have bA : Below w1.heap.size w1 ((w1.alloc (.cells (rngA 6 fun _ => 0) 3)).alloc (.cells (rngA 7 fun _ => 0) 3)) := ((Below.refl _ w1).alloc (Nat.le_refl _) _).alloc (by rw [World.size_alloc]; omega) _
  have m1 : Blk ((w1.alloc (.cells (rngA 6 fun _ => 0) 3)).alloc (.cells (rngA 7 fun _ => 0) 3)) w1.heap.size 3 (rngA 6 fun _ => 0) := (Blk.new w1 3 _).below ((Below.refl _ _).alloc (Nat.le_refl _) _) (by rw [World.size_alloc]; omega)
  have s1 : Blk ((w1.alloc (.cells (rngA 6 fun _ => 0) 3)).alloc (.cells (rngA 7 fun _ => 0) 3)) (w1.heap.size + 1) 3 (rngA 7 fun _ => 0) := by have := Blk.new (w1.alloc (.cells (rngA 6 fun _ => 0) 3)) 3 (rngA 7 fun _ => 0); rw [World.size_alloc] at this; exact this
  have HW := Lib.hid (show WK w ((w1.alloc (.cells (rngA 6 fun _ => 0) 3)).alloc (.cells (rngA 7 fun _ => 0) 3)) A p (mkS (fun _ => idle 0) ⟨-1, 0, []⟩) byA daA w1.heap.size (w1.heap.size + 1) (fun _ => 0) (fun _ => 0) (.slice none 0 0) [] from
    ⟨(HK.out.below bA), HM1.out.below bA HM1.out.lt, HS1.out.below bA HS1.out.lt, m1, s1, World.ownsRow_nil _ _ _ _, fun b h => by have := HA.out b h; exact ⟨this.1, by omega, by omega, by simp [Value.ownBlock]⟩, fun b h => by simp [Value.ownBlock] at h, by have := HS1.out.lt; omega, by have := HS1.out.lt; omega, by omega⟩)
  clear bA m1 s1 HM1 HS1 HK HA hm6 hm7
  generalize (w1.alloc (.cells (rngA 6 fun _ => 0) 3)).alloc (.cells (rngA 7 fun _ => 0) 3) = w3 at *
  generalize w1.heap.size + 1 = c at *
  generalize w1.heap.size = u at *
  go_wp2_with fail
  go_loopw [6, 9] (fun v6 v9 wr => ∃ (i : Nat) (ord : List Int) (A : Nat → Prop) (f : Nat → Th) (gu gc : Nat → Int), i ≤ 6 ∧ ord.length = i ∧ v9 = .int .i64 (i : Int) ∧ WK w wr A p (mkS f ⟨-1, 0, ord⟩) byA daA u c gu gc v6 ord ∧ Wt D ord f gu gc)
    (fun _ v9 _ => 6 - (intOf v9).toNat)
  case atStart => exact ⟨0, [], A, _, _, _, by omega, rfl, rfl, HW.out, Wt.nil D⟩
  case round =>
    clear HW
    obtain ⟨i, ord, A, f, gu, gc, hi, hol, rfl, hw, ht⟩ := hrel
    have HW := Lib.hid hw
    have HT := Lib.hid ht
    have HOL := Lib.hid hol
    clear hw ht hol
    by_cases hlt : i < 6
    · obtain ⟨b, hbi, hb255⟩ := HBY.out i hlt
      have c0 : wr.cell? ⟨w.heap.size, i, none⟩ = some (.int .u8 (b : Int)) := HW.out.ba.cell _ _ hbi
      have hI : (0 : Int) ≤ (i : Int) ∧ (i : Int) < 6 := by omega
      have hmod : ((b : Int).tmod 6) = ((b % 6 : Nat) : Int) := rfl
      have hm6 : b % 6 < 6 := Nat.mod_lt _ (by omega)
      clear hbi hb255
      generalize b % 6 = t0 at *
      have ht0 : (0 : Int) ≤ (t0 : Int) ∧ (t0 : Int) < 6 := by omega
      go_upto_region 11 with fail
      obtain ⟨fr, hf, hfo⟩ := free6 ord (by have := HOL.out; omega)
      have HFr := Lib.hid hfo
      clear hfo c0 hmod
      generalize wr = wt at *
      go_wp2_with fail
      go_loopw [10] (fun v10 wr => ∃ t : Nat, t < 6 ∧ v10 = .int .i64 (t : Int) ∧ wr = wt)
        (fun v10 _ => (fr + 6 - (intOf v10).toNat) % 6)
      case atStart => exact ⟨t0, hm6, rfl, rfl⟩
      case round =>
        clear ht0 hm6
        obtain ⟨t, ht, rfl, rfl⟩ := hrel
        have cs := HW.out.uAt ht
        have hIx := idxI 6 6 u t ht
        have htI : (0 : Int) ≤ (t : Int) ∧ (t : Int) < 6 := by omega
        by_cases hin : (t : Int) ∈ ord
        · rw [(HT.out.inn t hin).2.2] at cs
          have hne : t ≠ fr := fun e => HFr.out (e ▸ hin)
          have hmod : (((t : Int) + 1).tmod 6) = (((t + 1) % 6 : Nat) : Int) := rfl
          have hfw := way6 fr t hf ht hne
          have hm2 : (t + 1) % 6 < 6 := Nat.mod_lt _ (by omega)
          clear hin hne
          generalize (t + 1) % 6 = t1 at *
          have ht1 : (0 : Int) ≤ (t1 : Int) ∧ (t1 : Int) < 6 := by omega
          have HFW := Lib.hid hfw
          clear hfw
          go_wp2
          go_roundw
          case rel => exact ⟨t1, hm2, rfl, by first | trivial | rfl⟩
          case measure => exact HFW.out
        · obtain ⟨e1, e2, e3⟩ := HT.out.out t (by omega) hin
          rw [e3] at cs
          have HIN := Lib.hid hin
          have HE := Lib.hid (And.intro e1 e2)
          have fz := HW.out.us.free t
          clear hin e1 e2 e3
          go_upto_region 14 with fail
          have HWq := Lib.hid (HW.out.setU t 1)
          clear cs fz HFr hf
          generalize wr.setCell ⟨u, t, none⟩ (.int .i64 1) = wq at *
          have HN0 := Lib.hid HWq.out.ks.bl.size
          have hln : ord.length ≤ 6 := by have := HOL.out; omega
          go_upto_region 15 with (at_builtin; refine wpList_append_own2 _ rfl _ _ 30 rfl w.heap.size 3 i0 (.int .i64 0) 1 8 Try.underlying30 hi0 hz0 hz1 hz2 rfl (by decide) _ _ _ rfl (HWq.out.alloc _).own ⟨wq.heap.size, 0, none⟩ 1 1 [.int .i64 (t : Int)] rfl rfl (news_one (Blk.new _ _ _)) (by simp [Value.oneCell']) (by unfold maxLen; omega) (by omega) (by rw [World.size_alloc]; have := HN0.out; omega) (by omega) ?_; intro g2 cap2 w2 hr2 hgr2 hg2)
          have HW2 := Lib.hid (HWq.out.snoc hr2 hgr2 hg2)
          clear hr2 hgr2 hg2 HWq HN0 HW hln
          have HI := Lib.hid (And.intro hi hlt)
          clear hi hlt
          generalize w2 = wt at *
          clear htI hIx
          go_wp2_with fail
          go_loopw [11] (fun v11 wr => ∃ (k : Nat) (A : Nat → Prop) (f1 : Nat → Th) (gc1 : Nat → Int), k ≤ D t + 1 ∧ v11 = .int .i64 (k : Int) ∧ f1 t = idle (k : Int) ∧ gc1 t = (k : Int) ∧ (∀ v, v ≠ t → f1 v = f v ∧ gc1 v = gc v) ∧ WK w wr A p (mkS f1 ⟨ownK t k, (k : Int), ord⟩) byA daA u c (gup gu t 1) gc1 (.slice (some ⟨g2, 0, none⟩) (ord.length + 1) cap2) (ord ++ [(t : Int)]))
            (fun v11 _ => 10 - (intOf v11).toNat)
          case atStart => exact ⟨0, A, f, gc, by omega, rfl, HE.out.1, HE.out.2, fun _ _ => ⟨rfl, rfl⟩, HW2.out⟩
          case round =>
            clear HW2
            obtain ⟨k, A, f1, gc1, hk, rfl, hf1, hg1, hsame, hw⟩ := hrel
            have HW := Lib.hid hw
            have HF1 := Lib.hid hf1
            have HG1 := Lib.hid hg1
            have HSm := Lib.hid hsame
            clear hw hf1 hg1 hsame
            obtain ⟨b, hbi, hb255, hbm⟩ := HDA.out t ht
            have c0 : wr.cell? ⟨w.heap.size + 1, t, none⟩ = some (.int .u8 (b : Int)) := HW.out.da.cell _ _ hbi
            have hmod : ((b : Int).tmod 3) = ((D t : Nat) : Int) := by rw [← hbm]; rfl
            have HD3 := Lib.hid (show D t < 3 by rw [← hbm]; exact Nat.mod_lt _ (by omega))
            have htI : (0 : Int) ≤ (t : Int) ∧ (t : Int) < 7 := by omega
            have htJ : (t : Int) < 6 := by omega
            have hIc := idxI 7 7 c t (by omega)
            have hdI : (0 : Int) ≤ (D t : Int) ∧ (D t : Int) < 3 := by have := HD3.out; omega
            clear hbi hb255 hbm
            by_cases hle : k ≤ D t
            · have hleI : (k : Int) ≤ (D t : Int) := by omega
              have hk3 : (k : Int) < 10 := by omega
              go_upto_region 18 with fail
              clear c0 hmod
              have HWd := Lib.hid HW.out.drew
              have SK := Lib.hid (show ∀ V A s, WK w V A p s byA daA u c (gup gu t 1) gc1 (.slice (some ⟨g2, 0, none⟩) (ord.length + 1) cap2) (ord ++ [(t : Int)]) → V.cell? ⟨c, t, none⟩ = some (.int .i64 (k : Int)) from fun V A s h => by rw [h.cAt (by omega), HG1.out])
              go_region_held3 (fun V : World => V.cell? ⟨c, t, none⟩ = some (.int .i64 (k : Int))) (first | exact SK.out _ _ _ HWd.out | exact SK.out _ _ _ HW5.out | exact SK.out _ _ _ HW6.out | exact SK.out _ _ _ HW7.out | exact SK.out _ _ _ (HW7.out.alloc _) | exact SK.out _ _ _ HW8.out) (first
                | (go_at_call 14; (with_reducible refine (lcall_any _ _ _ _ _).mono ?_); rintro e w5 ⟨rfl, hb5⟩; have HW5 := Lib.hid (HWd.out.below hb5); clear hb5)
                | (go_at_call 15; (with_reducible refine (lact_any _ _ _ _).mono ?_); rintro e w6 ⟨rfl, hb6⟩; have HW6 := Lib.hid (HW5.out.below hb6); clear hb6)
                | (go_at_call 16; (with_reducible refine (lback_any _ _ _ _ _).mono ?_); rintro e w7 ⟨rfl, hb7⟩; have HW7 := Lib.hid (HW6.out.below hb7); clear hb7)
                | (go_at_call 13; refine (takes_any (HW7.out.alloc _).ks.sp HW7.out.ks.wf (eE t k 0) _ 0 _ (evs_lit _ (Blk.new _ _ _) rfl) (fun kk => Nat.lt_irrefl _ (HW7.out.ks.sp.lt _ kk)) (.inl (by simp)) (by show (3 : Nat) ≤ 1000000; omega)).mono ?_; rintro e w8 hr; obtain ⟨rfl, A8, hw8⟩ := (HW7.out.alloc _).run hr (enterK (by omega) HF1.out (by omega)); have HW8 := Lib.hid hw8; clear hr hw8))
              have c1 := SK.out _ _ _ HW8.out
              have fz := HW8.out.cs.free t
              clear HWd HW5 HW6 HW7 HW SK
              go_wp2_with fail
              go_roundw
              case rel => exact ⟨k + 1, A8, upd f1 t (idle ((k + 1 : Nat) : Int)), gup gc1 t ((k : Int) + 1), by omega, by go_num, upd_self _ _ _, by rw [gup_self]; omega, fun v hv => ⟨by rw [upd_ne _ hv]; exact (HSm.out v hv).1, by rw [gup_ne _ hv]; exact (HSm.out v hv).2⟩, HW8.out.setC t _⟩
              case measure => simp [intOf]; omega
            · have HKE := Lib.hid (show k = D t + 1 by omega)
              have hleI : ¬ (k : Int) ≤ (D t : Int) := by omega
              clear hle hk
              go_upto_region 21 with fail
              clear c0 hmod hleI
              have c1 : wr.cell? ⟨c, t, none⟩ = some (.int .i64 (k : Int)) := by rw [HW.out.cAt (by omega), HG1.out]
              have HI2 := Lib.hid (HI.out.2)
              have HKD := Lib.hid (show (k : Int) = 1 + (D t : Int) by have := HKE.out; omega)
              have hi6 : (i : Int) < 6 := by have := HI2.out; omega
              go_wp2_with (first
                | (go_at_call 14; (with_reducible refine (lcall_any _ _ _ _ _).mono ?_); rintro e w5 ⟨rfl, hb5⟩; have HW5 := Lib.hid (HW.out.below hb5); clear hb5)
                | (go_at_call 15; (with_reducible refine (lact_any _ _ _ _).mono ?_); rintro e w6 ⟨rfl, hb6⟩; have HW6 := Lib.hid (HW5.out.below hb6); clear hb6)
                | (go_at_call 13; refine (takes_any (HW6.out.alloc _).ks.sp HW6.out.ks.wf (eW t k) _ 0 _ (evs_lit _ (Blk.new _ _ _) rfl) (fun kk => Nat.lt_irrefl _ (HW6.out.ks.sp.lt _ kk)) (.inl (by simp)) (by show (2 : Nat) ≤ 1000000; omega)).mono ?_; rintro e w8 hr; obtain ⟨rfl, A8, hw8⟩ := (HW6.out.alloc _).run hr (waitK (by omega) HF1.out (by have := HKE.out; omega) HKD.out); have HW8 := Lib.hid hw8; clear hr hw8))
              go_roundw
              case rel => exact ⟨i + 1, ord ++ [(t : Int)], A8, upd f1 t (waitT (1 + (D t : Int)) (1 + (D t : Int))), gup gu t 1, gc1, HI2.out, by simp [HOL.out], by go_num, HW8.out, HT.out.add ht HIN.out HSm.out (by rw [HG1.out]; exact HKD.out)⟩
              case measure => simp [intOf]; have := HI2.out; omega
    · have HOL6 := Lib.hid (show ord.length = 6 from by have := HOL.out; omega)
      have hi6 : ¬ (i : Int) < 6 := by omega
      obtain ⟨a, kk, rfl, hform⟩ := HW.out.form
      obtain ⟨x0, hx0⟩ : ∃ x, ord[0]? = some x := ⟨_, List.getElem?_eq_getElem (by have := HOL6.out; omega)⟩
      obtain ⟨g, rfl⟩ := hform 0 x0 hx0
      have HLow := Lib.hid HT.out.low
      have H6 := Lib.hid (HT.out.out 6 (by omega) (fun hm => by have := HT.out.low _ hm; omega)).1
      have HNd := Lib.hid HT.out.nod
      have HNt0 := Lib.hid (show ∀ (j t : Nat), ord[j]? = some (t : Int) → f t = waitT (1 + (D t : Int)) (1 + (D t : Int)) ∧ gc t = 1 + (D t : Int) from fun j t hj => by have := HT.out.inn t (List.mem_of_getElem? hj); exact ⟨this.1, this.2.1⟩)
      clear hlt hi hx0 hform HOL HBY HT
      go_wp2_with (first
        | (go_at_call 14; (with_reducible refine (lcall_any _ _ _ _ _).mono ?_); rintro e w5 ⟨rfl, hb5⟩; replace HW := Lib.hid (HW.out.below hb5); clear hb5)
        | (go_at_call 15; (with_reducible refine (lact_any _ _ _ _).mono ?_); rintro e w5 ⟨rfl, hb5⟩; replace HW := Lib.hid (HW.out.below hb5); clear hb5)
        | (go_at_call 16; (with_reducible refine (lback_any _ _ _ _ _).mono ?_); rintro e w5 ⟨rfl, hb5⟩; replace HW := Lib.hid (HW.out.below hb5); clear hb5)
        | (go_at_call 13; refine (takes_any (HW.out.alloc _).ks.sp HW.out.ks.wf e4 _ 0 _ (evs_lit _ (Blk.new _ _ _) rfl) (fun kk => Nat.lt_irrefl _ (HW.out.ks.sp.lt _ kk)) (.inl (by simp)) (by show (4 : Nat) ≤ 1000000; omega)).mono ?_; rintro e w8 hr; obtain ⟨rfl, A8, hw8⟩ := (HW.out.alloc _).run hr (all4 H6.out); have HW8 := Lib.hid hw8; clear hr hw8 HW))
      clear hi6
      have HNt := Lib.hid (show Nt D ord 0 (upd f 6 (busyT 5 1)) from ⟨upd_self _ _ _, fun j t hj hl => absurd hl (by omega), fun j t hj hl => by
        have h1 := (HNt0.out j t hj).1
        have h2 := HLow.out _ (List.mem_of_getElem? hj)
        rw [upd_ne _ (by omega)]
        exact h1⟩)
      have HGc := Lib.hid (show ∀ (j t : Nat), ord[j]? = some (t : Int) → gc t = 1 + (D t : Int) from fun j t hj => (HNt0.out j t hj).2)
      clear HNt0 H6
      generalize upd f 6 (busyT 5 1) = f at *
      generalize w8 = wt at *
      go_loopw [12] (fun v12 wr => ∃ (i : Nat) (A : Nat → Prop) (f : Nat → Th), i ≤ 6 ∧ v12 = .int .i64 (i : Int) ∧ Nt D ord i f ∧ WK w wr A p (mkS f ⟨6, 1, ord.drop i⟩) byA daA u c gu gc (.slice (some ⟨g, 0, none⟩) ord.length kk) ord)
        (fun v12 _ => 6 - (intOf v12).toNat)
      case atStart => exact ⟨0, A8, f, by omega, rfl, HNt.out, HW8.out⟩
      case round =>
        clear HW8 HNt
        obtain ⟨i, A, f, hi, rfl, hnt, hw⟩ := hrel
        have HW := Lib.hid hw
        have HNt := Lib.hid hnt
        clear hw hnt
        by_cases hlt : i < 6
        · obtain ⟨x, hx⟩ : ∃ x, ord[i]? = some x := ⟨_, List.getElem?_eq_getElem (by have := HOL6.out; omega)⟩
          obtain ⟨h0x, h6x⟩ := HLow.out x (List.mem_of_getElem? hx)
          obtain ⟨t, rfl⟩ : ∃ t : Nat, x = (t : Int) := Int.eq_ofNat_of_zero_le h0x
          have HX := Lib.hid hx
          have HT6 := Lib.hid (show t < 6 by omega)
          have hIx := idxI ord.length kk g i (by have := HOL6.out; omega)
          have hi6 : (i : Int) < 6 := by omega
          have hil : (0 : Int) ≤ (i : Int) ∧ (i : Int) < (ord.length : Int) := by have := HOL6.out; omega
          have HFt := Lib.hid (HNt.out.new i t hx (Nat.le_refl _))
          have HDr := Lib.hid (drop_cons hx)
          have HI := Lib.hid hlt
          clear hx hi hlt
          go_wp2_with fail
          generalize wr = wt at *
          rw [HDr.out] at HW
          go_loopw [13] (fun v13 wr => ∃ (v : Int) (A : Nat → Prop), -1 ≤ v ∧ v ≤ 7 ∧ v13 = .int .i64 v ∧ WK w wr A p (mkS f ⟨6, 1, (t : Int) :: ord.drop (i + 1)⟩) byA daA u c gu gc (.slice (some ⟨g, 0, none⟩) ord.length kk) ord)
            (fun v13 _ => (7 - intOf v13).toNat)
          case atStart => exact ⟨-1, A, by omega, by omega, rfl, HW.out⟩
          case round =>
            clear HW
            obtain ⟨v, A, hv1, hv2, rfl, hw⟩ := hrel
            have HW := Lib.hid hw
            have c0 := HW.out.oAt HX.out
            clear hw
            by_cases hv7 : v < 7
            · by_cases hvt : v = (t : Int)
              · subst hvt
                go_wp2_with fail
                go_roundw
                case rel => exact ⟨(t : Int) + 1, A, by omega, by omega, rfl, HW.out⟩
                case measure => simp [intOf]; omega
              · have HV := Lib.hid hvt
                go_wp2_with (first
                  | (go_at_call 15; (with_reducible refine (lact_any _ _ _ _).mono ?_); rintro e w5 ⟨rfl, hb5⟩; have HW5 := Lib.hid (HW.out.below hb5); clear hb5)
                  | (go_at_call 11; refine (take_any HW5.out.ks.sp HW5.out.ks.wf ⟨1, 6, 0, 3, 0, v, 0, 0⟩).mono ?_; rintro e w6 hr; obtain ⟨rfl, A6, hw6⟩ := HW5.out.hand hr (notify_no HNt.out.six (longest_head (by have := HT6.out; omega) HFt.out) HV.out); have HW6 := Lib.hid hw6; clear hr hw6))
                go_roundw
                case rel => exact ⟨v + 1, A6, by omega, by omega, rfl, HW6.out⟩
                case measure => simp [intOf]; omega
            · clear hv1 hv2
              have hNN : (t : Int) ∉ ord.drop (i + 1) := by
                intro hm
                obtain ⟨j, hj⟩ := List.getElem?_of_mem hm
                rw [List.getElem?_drop] at hj
                have := nodup_idx HNd.out hj HX.out
                omega
              have HNn := Lib.hid hNN
              clear hNN
              go_wp2_with (first
                | (go_at_call 15; (with_reducible refine (lact_any _ _ _ _).mono ?_); rintro e w5 ⟨rfl, hb5⟩; have HW5 := Lib.hid (HW.out.below hb5); clear HW hb5)
                | (go_at_call 11; refine (take_any HW5.out.ks.sp HW5.out.ks.wf ⟨1, 6, 0, 3, 0, (t : Int), 0, 0⟩).mono ?_; rintro e w6 hr; obtain ⟨rfl, A6, hw6⟩ := HW5.out.hand hr (notify_yes HNt.out.six HT6.out HFt.out HNn.out); have HW6 := Lib.hid hw6; clear hr hw6 HW5; have c1 := HW6.out.oAt HX.out)
                | (go_at_call 15; (with_reducible refine (lact_any _ _ _ _).mono ?_); rintro e w7 ⟨rfl, hb7⟩; have HW7 := Lib.hid (HW6.out.below hb7); clear HW6 hb7)
                | (go_at_call 11; refine (take_any HW7.out.ks.sp HW7.out.ks.wf ⟨1, (t : Int), 0, 5, 0, 0, 0, 0⟩).mono ?_; rintro e w8 hr; obtain ⟨rfl, A8, hw8⟩ := HW7.out.hand hr (grant_no (c := 1 + (D t : Int)) (d := 1 + (D t : Int)) (by have := HT6.out; omega) (upd_self _ _ _) 5 0); have HW8 := Lib.hid hw8; clear hr hw8 HW7; have c2 := HW8.out.oAt HX.out)
                | (go_at_call 15; (with_reducible refine (lact_any _ _ _ _).mono ?_); rintro e w9 ⟨rfl, hb9⟩; have HW9 := Lib.hid (HW8.out.below hb9); clear HW8 hb9)
                | (go_at_call 11; refine (take_any HW9.out.ks.sp HW9.out.ks.wf ⟨1, (t : Int), 0, 4, 0, 3, 0, 0⟩).mono ?_; rintro e w10 hr; obtain ⟨rfl, A10, hw10⟩ := HW9.out.hand hr (grant_no (c := 1 + (D t : Int)) (d := 1 + (D t : Int)) (by have := HT6.out; omega) (upd_self _ _ _) 4 3); have HW10 := Lib.hid hw10; clear hr hw10 HW9))
              go_roundw
              case rel => exact ⟨i + 1, A10, _, by have := HI.out; omega, by go_num, HNt.out.next HNd.out HT6.out HX.out, HW10.out⟩
              case measure => simp [intOf]; have := HI.out; omega
        · have HI6 := Lib.hid (show i = 6 by omega)
          have hi6 : ¬ (i : Int) < 6 := by omega
          have HE := Lib.hid (show ord.drop i = [] from List.drop_eq_nil_of_le (by have := HOL6.out; omega))
          clear hi hlt
          rw [HE.out] at HW
          go_wp2_with (first
            | (go_at_call 14; (with_reducible refine (lcall_any _ _ _ _ _).mono ?_); rintro e w5 ⟨rfl, hb5⟩; replace HW := Lib.hid (HW.out.below hb5); clear hb5)
            | (go_at_call 15; (with_reducible refine (lact_any _ _ _ _).mono ?_); rintro e w5 ⟨rfl, hb5⟩; replace HW := Lib.hid (HW.out.below hb5); clear hb5)
            | (go_at_call 16; (with_reducible refine (lback_any _ _ _ _ _).mono ?_); rintro e w5 ⟨rfl, hb5⟩; replace HW := Lib.hid (HW.out.below hb5); clear hb5)
            | (go_at_call 13; refine (takes_any (HW.out.alloc _).ks.sp HW.out.ks.wf e5 _ 0 _ (evs_lit _ (Blk.new _ _ _) rfl) (fun kk => Nat.lt_irrefl _ (HW.out.ks.sp.lt _ kk)) (.inl (by simp)) (by show (5 : Nat) ≤ 1000000; omega)).mono ?_; rintro e w8 hr; obtain ⟨rfl, A8, hw8⟩ := (HW.out.alloc _).run hr (through5 HNt.out.six); have HW8 := Lib.hid hw8; clear hr hw8 HW))
          clear hi6 HE
          have HOld := Lib.hid (show ∀ (j t : Nat), j < 6 → ord[j]? = some (t : Int) → (upd f 6 (idle 3)) t = wokeT (1 + (D t : Int)) (1 + (D t : Int)) ∧ gc t = 1 + (D t : Int) from fun j t hj6 hj => by
            have h1 := HNt.out.old j t hj (by have := HI6.out; omega)
            have h2 := HLow.out _ (List.mem_of_getElem? hj)
            rw [upd_ne _ (by omega)]
            exact ⟨h1, HGc.out j t hj⟩)
          clear HNt HGc HI6
          generalize upd f 6 (idle 3) = f at *
          generalize w8 = wt at *
          go_loopw [14] (fun v14 wr => ∃ (n : Nat) (A : Nat → Prop) (f : Nat → Th) (gc : Nat → Int), n ≤ 6 ∧ (n = 0 ∧ v14 = .int .i64 (-1) ∨ ∃ m : Nat, n = m + 1 ∧ v14 = .int .i64 (m : Int)) ∧ (∀ (j t : Nat), j < n → ord[j]? = some (t : Int) → f t = wokeT (1 + (D t : Int)) (1 + (D t : Int)) ∧ gc t = 1 + (D t : Int)) ∧ WK w wr A p (mkS f ⟨-1, 0, []⟩) byA daA u c gu gc (.slice (some ⟨g, 0, none⟩) ord.length kk) ord)
            (fun v14 _ => (intOf v14 + 1).toNat)
          case atStart => exact ⟨6, A8, f, gc, by omega, .inr ⟨5, rfl, rfl⟩, HOld.out, HW8.out⟩
          case round =>
            clear HW8 HOld
            obtain ⟨n, A, f, gc, hn, hv, hold, hw⟩ := hrel
            have HW := Lib.hid hw
            have HOld := Lib.hid hold
            clear hw hold
            rcases hv with ⟨rfl, rfl⟩ | ⟨m, rfl, rfl⟩
            · go_wp2_with (first
                | (go_at_call 17; refine (seen_yes (Aw := fun _ => False) HW.out.ks.sp HW.out.ks.wf (b := ⟨-1, 0, []⟩) rfl [] _ ⟨none, 0, rfl, fun i x hx => by simp at hx⟩ (fun k hk => hk.elim) (by simp [sortI])).mono ?_; rintro e w7 ⟨rfl, hb7⟩))
              go_ret
              exact ⟨by first | trivial | rfl, HW.out.ks.bl.trans (hb7.mono HW.out.ks.bl.size)⟩
            · obtain ⟨x, hx⟩ : ∃ x, ord[m]? = some x := ⟨_, List.getElem?_eq_getElem (by have := HOL6.out; omega)⟩
              obtain ⟨h0x, h6x⟩ := HLow.out x (List.mem_of_getElem? hx)
              obtain ⟨t, rfl⟩ : ∃ t : Nat, x = (t : Int) := Int.eq_ofNat_of_zero_le h0x
              obtain ⟨hft, hgt⟩ := HOld.out m t (by omega) hx
              have HX := Lib.hid hx
              have HFt := Lib.hid hft
              have HGt := Lib.hid hgt
              have ht6 : t < 6 := by omega
              have hIx := idxI ord.length kk g m (by have := HOL6.out; omega)
              have hil : (0 : Int) ≤ (m : Int) ∧ (m : Int) < (ord.length : Int) := by have := HOL6.out; omega
              have c0 := HW.out.oAt hx
              obtain ⟨b, hbi, hb255, hbm⟩ := HDA.out t ht6
              have HBI := Lib.hid hbi
              have hmod : ((b : Int).tmod 3) = ((D t : Nat) : Int) := by rw [← hbm]; rfl
              have HD3 := Lib.hid (show D t < 3 by rw [← hbm]; exact Nat.mod_lt _ (by omega))
              have htI : (0 : Int) ≤ (t : Int) ∧ (t : Int) < 7 := by omega
              have htJ : (t : Int) < 6 := by omega
              have hIc := idxI 7 7 c t (by omega)
              have hdI : (0 : Int) ≤ (D t : Int) ∧ (D t : Int) < 3 := by have := HD3.out; omega
              have hm6 : (m : Int) < 6 := by omega
              clear hx hft hgt hbi hb255 hbm h0x h6x hn
              go_upto_region 43 with (first
                | (go_at_call 15; (with_reducible refine (lact_any _ _ _ _).mono ?_); rintro e w5 ⟨rfl, hb5⟩; have HW5 := Lib.hid (HW.out.below hb5); clear HW hb5)
                | (go_at_call 11; refine (take_any HW5.out.ks.sp HW5.out.ks.wf ⟨1, (t : Int), 0, 5, 0, 0, 0, 0⟩).mono ?_; rintro e w6 hr; obtain ⟨rfl, A6, hw6⟩ := HW5.out.hand hr (grant_yes (by omega) HFt.out); have HW6 := Lib.hid hw6; clear hr hw6 HW5; have c2 := HW6.out.da.cell _ _ HBI.out)
                | (go_at_call 17; refine (seen_yes (Aw := fun _ => False) HW6.out.ks.sp HW6.out.ks.wf (b := ⟨(t : Int), 1 + (D t : Int), []⟩) rfl [] _ ⟨none, 0, rfl, fun i x hx => by simp at hx⟩ (fun k hk => hk.elim) (by simp [sortI])).mono ?_; rintro e w7 ⟨rfl, hb7⟩; have HW7 := Lib.hid (HW6.out.below hb7); clear hb7 HW6; have c3 : w7.cell? ⟨c, t, none⟩ = some (.int .i64 (1 + (D t : Int))) := by rw [HW7.out.cAt (by omega), HGt.out])
                | (go_at_call 16; (with_reducible refine (lback_any _ _ _ _ _).mono ?_); rintro e w8 ⟨rfl, hb8⟩; have HW8 := Lib.hid (HW7.out.below hb8); clear hb8 HW7)
                | (go_at_call 11; refine (take_any HW8.out.ks.sp HW8.out.ks.wf ⟨2, (t : Int), 1 + (D t : Int), 0, 0, 0, 0, 1⟩).mono ?_; rintro e w9 hr; obtain ⟨rfl, A9, hw9⟩ := HW8.out.hand hr (back_no (x := wokeT (1 + (D t : Int)) (1 + (D t : Int))) (by omega) (upd_self _ _ _)); have HW9 := Lib.hid hw9; clear hr hw9 HW8; have c4 : w9.cell? ⟨c, t, none⟩ = some (.int .i64 (1 + (D t : Int))) := by rw [HW9.out.cAt (by omega), HGt.out])
                | (go_at_call 16; (with_reducible refine (lback_any _ _ _ _ _).mono ?_); rintro e w10 ⟨rfl, hb10⟩; have HW10 := Lib.hid (HW9.out.below hb10); clear hb10 HW9)
                | (go_at_call 11; refine (take_any HW10.out.ks.sp HW10.out.ks.wf ⟨2, (t : Int), 1 + (D t : Int), 0, 0, 0, 0, 0⟩).mono ?_; rintro e w11 hr; obtain ⟨rfl, A11, hw11⟩ := HW10.out.hand hr (do_back (x := wokeT (1 + (D t : Int)) (1 + (D t : Int))) (c := 1 + (D t : Int)) (by omega) (upd_self _ _ _) rfl rfl (by omega)); have HW11 := Lib.hid hw11; clear hr hw11 HW10))
              have HW12 := Lib.hid (show WK w w11 A11 p (mkS (upd f t (idle (2 + (D t : Int)))) ⟨t, 1 + (D t : Int), []⟩) byA daA u c gu gc (.slice (some ⟨g, 0, none⟩) ord.length kk) ord from by
                have h := HW11.out
                rw [upd_upd, show 1 + (D t : Int) + 1 = 2 + (D t : Int) by omega] at h
                exact h)
              have c5 : w11.cell? ⟨c, t, none⟩ = some (.int .i64 (1 + (D t : Int))) := by rw [HW12.out.cAt (by omega), HGt.out]
              have fz := HW12.out.cs.free t
              clear c0 c2 c3 c4 HW11 hmod
              go_wp2_with fail
              have HW13 := Lib.hid (HW12.out.setC t (1 + (D t : Int) + 1))
              generalize w11.setCell ⟨c, t, none⟩ (.int .i64 (1 + (D t : Int) + 1)) = wt at *
              clear c5 fz HW12
              have HW14 := Lib.hid (show WK w wt A11 p (mkS (upd f t (idle (2 + (D t : Int) + ((0 : Nat) : Int)))) ⟨ownK t (D t + 1 - 0), ((D t + 1 - 0 : Nat) : Int), []⟩) byA daA u c gu (gup gc t (1 + (D t : Int) + 1)) (.slice (some ⟨g, 0, none⟩) ord.length kk) ord from by
                have h := HW13.out
                rw [show ((D t + 1 - 0 : Nat) : Int) = 1 + (D t : Int) by omega, show 2 + (D t : Int) + ((0 : Nat) : Int) = 2 + (D t : Int) by omega]
                exact h)
              have HNew := Lib.hid (show ∀ (j v : Nat), j < m → ord[j]? = some (v : Int) → v ≠ t ∧ f v = wokeT (1 + (D v : Int)) (1 + (D v : Int)) ∧ gc v = 1 + (D v : Int) from fun j v hj hx => ⟨fun e => by subst e; have := nodup_idx HNd.out hx HX.out; omega, HOld.out j v (by omega) hx⟩)
              clear HW13 HOld HFt HGt HX hil hIx
              go_loopw [16] (fun v16 wr => ∃ (k : Nat) (A : Nat → Prop) (f1 : Nat → Th) (gc1 : Nat → Int), k ≤ D t + 1 ∧ v16 = .int .i64 (k : Int) ∧ f1 t = idle (2 + (D t : Int) + (k : Int)) ∧ gc1 t = 2 + (D t : Int) + (k : Int) ∧ (∀ v, v ≠ t → f1 v = f v ∧ gc1 v = gc v) ∧ WK w wr A p (mkS f1 ⟨ownK t (D t + 1 - k), ((D t + 1 - k : Nat) : Int), []⟩) byA daA u c gu gc1 (.slice (some ⟨g, 0, none⟩) ord.length kk) ord)
                (fun v16 _ => 10 - (intOf v16).toNat)
              case atStart => exact ⟨0, A11, _, _, by omega, rfl, upd_self _ _ _, by rw [gup_self]; omega, fun v hv => ⟨upd_ne _ hv, gup_ne _ hv⟩, HW14.out⟩
              case round =>
                clear HW14
                obtain ⟨k, A, f1, gc1, hk, rfl, hf1, hg1, hsame, hw⟩ := hrel
                have HW := Lib.hid hw
                have HF1 := Lib.hid hf1
                have HG1 := Lib.hid hg1
                have HSm := Lib.hid hsame
                clear hw hf1 hg1 hsame
                obtain ⟨b, hbi, hb255, hbm⟩ := HDA.out t ht6
                have c0 : wr.cell? ⟨w.heap.size + 1, t, none⟩ = some (.int .u8 (b : Int)) := HW.out.da.cell _ _ hbi
                have hmod : ((b : Int).tmod 3) = ((D t : Nat) : Int) := by rw [← hbm]; rfl
                clear hbi hb255 hbm
                by_cases hle : k ≤ D t
                · have hleI : (k : Int) ≤ (D t : Int) := by omega
                  have hk3 : (k : Int) < 10 := by omega
                  obtain ⟨cc, hcc⟩ : ∃ cc : Int, cc = 2 + (D t : Int) + (k : Int) := ⟨_, rfl⟩
                  have HCC := Lib.hid hcc
                  have hccb : 0 ≤ cc ∧ cc < 1000 := by omega
                  have HGc := Lib.hid (show gc1 t = cc from HG1.out.trans hcc.symm)
                  have HFc := Lib.hid (show f1 t = idle cc by rw [hcc]; exact HF1.out)
                  have HR := Lib.hid (show D t + 1 - k = (D t - k) + 1 by omega)
                  have HWr := Lib.hid (show WK w wr A p (mkS f1 ⟨ownK t ((D t - k) + 1), (((D t - k) + 1 : Nat) : Int), []⟩) byA daA u c gu gc1 (.slice (some ⟨g, 0, none⟩) ord.length kk) ord from by rw [← HR.out]; exact HW.out)
                  clear hcc HG1 HF1 HW
                  go_upto_region 47 with fail
                  clear c0 hmod
                  have HWd := Lib.hid HWr.out.drew
                  have SK := Lib.hid (show ∀ V A s, WK w V A p s byA daA u c gu gc1 (.slice (some ⟨g, 0, none⟩) ord.length kk) ord → V.cell? ⟨c, t, none⟩ = some (.int .i64 cc) from fun V A s h => by rw [h.cAt (by omega), HGc.out])
                  go_region_held3 (fun V : World => V.cell? ⟨c, t, none⟩ = some (.int .i64 cc)) (first | exact SK.out _ _ _ HWd.out | exact SK.out _ _ _ HW5.out | exact SK.out _ _ _ HW6.out | exact SK.out _ _ _ HW7.out | exact SK.out _ _ _ (HW7.out.alloc _) | exact SK.out _ _ _ HW8.out) (first
                    | (go_at_call 14; (with_reducible refine (lcall_any _ _ _ _ _).mono ?_); rintro e w5 ⟨rfl, hb5⟩; have HW5 := Lib.hid (HWd.out.below hb5); clear hb5)
                    | (go_at_call 15; (with_reducible refine (lact_any _ _ _ _).mono ?_); rintro e w6 ⟨rfl, hb6⟩; have HW6 := Lib.hid (HW5.out.below hb6); clear hb6)
                    | (go_at_call 16; (with_reducible refine (lback_any _ _ _ _ _).mono ?_); rintro e w7 ⟨rfl, hb7⟩; have HW7 := Lib.hid (HW6.out.below hb7); clear hb7)
                    | (go_at_call 13; refine (takes_any (HW7.out.alloc _).ks.sp HW7.out.ks.wf (eE t cc 1) _ 0 _ (evs_lit _ (Blk.new _ _ _) rfl) (fun kk => Nat.lt_irrefl _ (HW7.out.ks.sp.lt _ kk)) (.inl (by simp)) (by show (3 : Nat) ≤ 1000000; omega)).mono ?_; rintro e w8 hr; obtain ⟨rfl, A8, hw8⟩ := (HW7.out.alloc _).run hr (exitK (by omega) HFc.out (by have := HD3.out; omega) hccb); have HW8 := Lib.hid hw8; clear hr hw8))
                  have c1 := SK.out _ _ _ HW8.out
                  have fz := HW8.out.cs.free t
                  clear HWd HW5 HW6 HW7 HWr SK
                  go_wp2_with fail
                  go_roundw
                  case rel => exact ⟨k + 1, A8, upd f1 t (idle (cc + 1)), gup gc1 t (cc + 1), by omega, by go_num, by rw [upd_self, HCC.out]; congr 1 <;> omega, by rw [gup_self, HCC.out]; omega, fun v hv => ⟨by rw [upd_ne _ hv]; exact (HSm.out v hv).1, by rw [gup_ne _ hv]; exact (HSm.out v hv).2⟩, by rw [show D t + 1 - (k + 1) = D t - k by omega]; exact HW8.out.setC t _⟩
                  case measure => simp [intOf]; omega
                · have hleI : ¬ (k : Int) ≤ (D t : Int) := by omega
                  have HWz := Lib.hid (show WK w wr A p (mkS f1 ⟨-1, 0, []⟩) byA daA u c gu gc1 (.slice (some ⟨g, 0, none⟩) ord.length kk) ord from by
                    have h := HW.out
                    rw [show D t + 1 - k = 0 by omega] at h
                    exact h)
                  clear hle hk HW
                  go_wp2_with fail
                  go_roundw
                  case rel => exact ⟨m, A, f1, gc1, by omega, (by
                    rcases Nat.eq_zero_or_pos m with h | h
                    · exact .inl ⟨h, by subst h; rfl⟩
                    · exact .inr ⟨m - 1, by omega, by congr 1 <;> omega⟩), fun j v hj hx => by
                    obtain ⟨h1, h2, h3⟩ := HNew.out j v hj hx
                    exact ⟨(HSm.out v h1).1.trans h2, (HSm.out v h1).2.trans h3⟩, HWz.out⟩
                  case measure => simp [intOf] <;> omega

end Go.Proofs.Ytjfgkdgcihcmhaa
