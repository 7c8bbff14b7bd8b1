/- Layer 6's law: all: the task of items, in pieces. -/
import Derived.Test.YtmkgbbbhmbejnaaTaskQ
namespace Go.Proofs.Ytmkgbbbhmbejnaa
open Go.ChangeShapes Go.WideShapes Go.ChangeAt Go.RowKit
set_option linter.unusedVariables false
set_option maxRecDepth 100000
set_option linter.unusedSimpArgs false
/-- what Seq of all makes -/
theorem all_end {w w5 w' : World} {C P : Nat} {l : List Itm} {O L : List (Option Addr × List Itm)} {Q : Nat → Prop} {r : List Itm} {v : Int} {t : Nat} (hf : flat O ++ flat L = l) (hlow : ∀ b, Q b → w.heap.size ≤ b) (hb : Below w.heap.size w w5) (hM : Made6 w5 C P (Qn Q w5) r v t w') (hE : Res6 (O ++ L) r v) :
    Made6 w C P (fun b => w.heap.size ≤ b) (onS l 0).1 (onS l 0).2 t w' := by
  have hs := hb.size
  refine ⟨by have := hM.1; omega, ?_, hb.trans (hM.2.2.mono hs)⟩
  have h0 : TaskC w' C P (fun b => w.heap.size ≤ b ∧ b ≠ t) t r v := hM.2.1.keep (F := fun _ => False) (Keep.refl _ _) (fun _ _ h => h) (fun h => h) (fun b _ h => ⟨by
    rcases h.1 with h | h
    · exact hlow b h.1
    · omega, h.2⟩)
  rcases hE with ⟨e, rfl, rfl⟩ | ⟨_, hE⟩
  · obtain ⟨rfl, rfl⟩ := List.append_eq_nil_iff.1 e
    simp [flat] at hf
    subst hf
    exact h0
  · rw [flat_append, hf] at hE
    rw [(hE.on 0).1]
    exact TaskIn.value h0 _ (fun h => (hE.on 0).2 h)
set_option maxHeartbeats 2000000 in
theorem all_made (C P I : Nat) (a : Option Addr) (cap : Nat) (l : List Itm) (piece : Nat) (w : World) (hI : ItemsAt w I (.slice a l.length cap) l) (hp : 1 ≤ piece ∧ piece ≤ 30) :
    Calls Try.prog 22 #[cellsV C, permitsV P, .slice a l.length cap, .int .i64 piece] w fun e w' => ∃ t, e = .returned (pV t) ∧ Made6 w C P (fun b => w.heap.size ≤ b) (onS l 0).1 (onS l 0).2 t w' := by
  obtain ⟨p0, hp0, hp1, hp2, hp3⟩ := info_parts ptask_info
  have hfew := hI.few
  obtain ⟨a', cap', e, ha⟩ := hI.is
  obtain ⟨rfl, rfl⟩ : a = a' ∧ cap = cap' := by simpa using e
  have HI := Lib.hid hI
  have HA := Lib.hid ha
  obtain ⟨n, hn⟩ : ∃ n, l.length = n := ⟨_, rfl⟩
  rw [hn] at hfew
  have HN := Lib.hid hn
  rw [hn]
  have h0 : Hid (AInv w w C P l 0 (.slice none 0 0) (.slice none 0 0) [] [] (fun _ => False)) := Lib.hid ⟨World.ownsRow_nil w _ _ 1, World.ownsRow_nil w _ _ 1, fun _ => rfl, fun _ => rfl, by simp [flat], fun y hy => by simp at hy, fun y hy => by simp at hy, fun b h => h.elim, fun _ _ h => h, fun _ _ h => h, fun g h => by simp [Value.ownBlock] at h, Below.refl _ _, by simp, by simp⟩
  clear hI ha e hn
  go_enter Try.func22, Try.ntmps22
  go_wp2
  go_loopw [9, 10, 11] (fun vo vp i wr => ∃ (k : Nat) (O L : List (Option Addr × List Itm)) (Q : Nat → Prop), k ≤ n ∧ i = .int .i64 k ∧ Hid (AInv w wr C P l k vo vp O L Q) ∧ L.length < piece) (fun _ _ i _ => 31 - (intOf i).toNat)
  case atStart => exact ⟨0, [], [], _, by omega, rfl, h0, by simp; omega⟩
  case round =>
    clear h0
    obtain ⟨k, O, L, Q, hk, rfl, hA, hL⟩ := hrel
    by_cases hkn : k < n
    · obtain ⟨x, hx⟩ : ∃ x, l[k]? = some x := ⟨l[k]'(by have := HN.out; omega), by simp⟩
      obtain rfl : a = some ⟨I, 0, none⟩ := HA.out (by have := HN.out; omega)
      have hbw := hA.out.below
      have hsz := hbw.size
      obtain ⟨x0, x1, x2, x3⟩ := HI.out.cell k x hx
      have kw : Keep (fun _ => False) w wr := Keep.ofBelow hbw
      have c0 := cell_keep6 x0 kw (fun h => h)
      have c1 := cell_keep6 x1 kw (fun h => h)
      have c2 := cell_keep6 x2 kw (fun h => h)
      have c3 := cell_keep6 x3 kw (fun h => h)
      have HO := Lib.hid (one6_any C P (Qn Q wr) x wr (HI.out.ok x (List.mem_of_getElem? hx)) (fun j hj => .inr hj))
      have HX := Lib.hid hx
      have k0 : 0 ≤ (k : Int) := by omega
      have k1 : (k : Int) < (n : Int) := by omega
      clear hx x0 x1 x2 x3 kw hbw
      go_upto_region 7 with (first
        | (go_at_call 54; refine HO.out.mono ?_; rintro e w2 ⟨t, r, v, rfl, hM, hE⟩; have hM2 := Lib.hid hM; have hE2 := Lib.hid hE; have hs2 := hM.2.2.size; have hrow := own_keep6 hA.out.p (Keep.ofBelow (Q := fun _ => False) hM.2.2) (fun _ _ h => h); clear hM hE c0 c1 c2 c3)
        | (at_builtin; refine wpList_append_own2 _ rfl _ _ 53 rfl w.heap.size 56 p0 (.pointer none) 1 8 Try.underlying53 hp0 hp1 hp2 hp3 rfl (by decide) _ _ _ rfl (hrow.alloc _) ⟨w2.heap.size, 0, none⟩ 1 1 [pV t] rfl rfl (cell_one_new _ _ _) (by simp [Value.oneCell']) (by unfold maxLen; omega) (by omega) (by simp; omega) (by omega) ?_; intro g5 c5 w5 h5 hgr hg))
      replace hgr : (w2.alloc (.cells #[pV t] 56)).grownBy w5 u10.ownBlock := hgr
      replace hg : u10.ownBlock = some g5 ∨ (w2.alloc (.cells #[pV t] 56)).heap.size ≤ g5 := hg
      have hA2 := Lib.hid (hA.out.push HX.out hM2.out hE2.out h5 hgr hg)
      have hlo := hA.out.fo
      have hb5 := hA2.out.below
      have hs5 := hb5.size
      clear h5 hgr hg hrow hM2 hE2 hA HO hs2 hsz
      by_cases hpc : L.length + 1 = piece
      · have hpi : ((L.length : Int) + 1) = (piece : Int) := by omega
        have HS := Lib.hid (seq_any C P (Qn (fun b => Qn Q wr b ∧ b < w2.heap.size) w5) (L ++ [(some ⟨t, 0, none⟩, [x])]) g5 0 c5 w5 (by simp) (by simp; omega) (rowAt_of (by simpa using hA2.out.p) (hA2.out.ep.keep (F := fun _ => False) (Keep.refl _ _) (fun _ _ h => h) (fun b hb h => .inl ⟨h, hb⟩))) (fun j hj => .inr hj))
        rw [show (L ++ [((some ⟨t, 0, none⟩ : Option Addr), [x])]).length = L.length + 1 by simp] at HS
        have HPC := Lib.hid hpc
        have hL30 : L.length < 30 := by omega
        clear hpc
        go_wp2_with (first
          | (go_at_call 40; refine HS.out.mono ?_; rintro e w6 ⟨t2, r2, v2, rfl, hM6, hR6⟩; have hM7 := Lib.hid hM6; have hR7 := Lib.hid hR6; have hs6 := hM6.2.2.size; have hrow := own_keep6 hA2.out.o (Keep.ofBelow (Q := fun _ => False) hM6.2.2) (fun _ _ h => h); clear hM6 hR6)
          | (at_builtin; refine wpList_append_own2 _ rfl _ _ 53 rfl w.heap.size 56 p0 (.pointer none) 1 8 Try.underlying53 hp0 hp1 hp2 hp3 rfl (by decide) _ _ _ rfl (hrow.alloc _) ⟨w6.heap.size, 0, none⟩ 1 1 [pV t2] rfl rfl (cell_one_new _ _ _) (by simp [Value.oneCell']) (by unfold maxLen; omega) (by omega) (by simp; omega) (by omega) ?_; intro g8 c8 w8 h8 hgr8 hg8))
        replace hgr8 : (w6.alloc (.cells #[pV t2] 56)).grownBy w8 u9.ownBlock := hgr8
        replace hg8 : u9.ownBlock = some g8 ∨ (w6.alloc (.cells #[pV t2] 56)).heap.size ≤ g8 := hg8
        have hA3 := Lib.hid (hA2.out.chunk (by simp) (by omega) hM7.out hR7.out h8 hgr8 hg8)
        go_roundw
        case rel => exact ⟨k + 1, _, _, _, by omega, by go_num, hA3, by simp; omega⟩
        case measure => simp [intOf]; omega
      · have hpi : ¬ ((L.length : Int) + 1) = (piece : Int) := by omega
        go_wp2
        go_roundw
        case rel => exact ⟨k + 1, _, _, _, by omega, by go_num, hA2, by simp; omega⟩
        case measure => simp [intOf]; omega
    · obtain rfl : k = n := by omega
      have hb5 := hA.out.below
      have hs5 := hb5.size
      have hfl : flat O ++ flat L = l := by rw [hA.out.fl, ← HN.out, List.take_length]
      have HFL := Lib.hid hfl
      have hfo := hA.out.fo
      clear hfl
      have HLOW := Lib.hid hA.out.low
      have hb0 := hA.out.o.2
      have HEND := Lib.hid fun w5 w' t r v Q (hlow : ∀ b, Q b → w.heap.size ≤ b) (hb : Below w.heap.size w w5) (hM : Made6 w5 C P (Qn Q w5) r v t w') (hE : Res6 (O ++ L) r v) => all_end (l := l) HFL.out hlow hb hM hE
      by_cases hLe : L = []
      · subst hLe
        obtain rfl := hA.out.p0 rfl
        by_cases hOe : O = []
        · subst hOe
          obtain rfl := hA.out.o0 rfl
          clear hb0
          go_wp2_with (first
            | (at_builtin; refine wpList_append_own_none rfl _ _ 53 rfl w.heap.size 56 p0 1 Try.underlying53 hp0 _ _ _ rfl hA.out.o rfl ?_)
            | (go_at_call 40; refine (seq_none C P (Qn Q wr) wr).mono ?_; rintro e w6 ⟨t2, rfl, hM6⟩))
          go_ret
          exact ⟨t2, rfl, HEND.out wr w6 t2 [] 0 Q HLOW.out hb5 hM6 (.inl ⟨rfl, rfl, rfl⟩)⟩
        · obtain ⟨g, c, rfl⟩ : ∃ g c, u9 = .slice (some ⟨g, 0, none⟩) O.length c := by
            rcases hb0 with ⟨_, h⟩ | ⟨g, c, _, h, _⟩
            · exact absurd (List.eq_nil_of_length_eq_zero h) hOe
            · exact ⟨g, c, h⟩
          have HS := Lib.hid (seq_any C P (Qn Q wr) O g 0 c wr hOe (by omega) (rowAt_of hA.out.o (hA.out.eo.keep (F := fun _ => False) (Keep.refl _ _) (fun _ _ h => h) (fun b hb h => .inl ⟨h, hb⟩))) (fun j hj => .inr hj))
          clear hb0
          go_wp2_with (first
            | (at_builtin; refine wpList_append_own_none rfl _ _ 53 rfl w.heap.size 56 p0 1 Try.underlying53 hp0 _ _ _ rfl hA.out.o rfl ?_)
            | (go_at_call 40; refine HS.out.mono ?_; rintro e w6 ⟨t2, r2, v2, rfl, hM6, hR6⟩))
          go_ret
          exact ⟨t2, rfl, HEND.out wr w6 t2 r2 v2 Q HLOW.out hb5 hM6 (by simpa using hR6)⟩
      · obtain ⟨g, c, rfl⟩ : ∃ g c, u10 = .slice (some ⟨g, 0, none⟩) L.length c := by
          rcases hA.out.p.2 with ⟨_, h⟩ | ⟨g, c, _, h, _⟩
          · exact absurd (List.eq_nil_of_length_eq_zero h) hLe
          · exact ⟨g, c, h⟩
        have hpos : 0 < L.length := List.length_pos_iff.2 hLe
        have hcel := Lib.hid (hA.out.p.cells (g := g) rfl)
        have hone : Hid (∀ u ∈ ptrs L, u.oneCell' = true) := Lib.hid (by
          intro u hu
          obtain ⟨y, _, rfl⟩ := List.mem_map.1 hu
          rfl)
        have hlm : (ptrs L).length = L.length * 1 := by simp [ptrs]
        clear hb0
        go_upto_region 11 with (at_builtin; refine wpList_append_own2 _ rfl _ _ 53 rfl w.heap.size 56 p0 (.pointer none) 1 8 Try.underlying53 hp0 hp1 hp2 hp3 rfl (by decide) _ _ _ rfl hA.out.o ⟨g, 0, none⟩ L.length c (ptrs L) rfl hlm hcel.out hone.out (by unfold maxLen; omega) (by omega) (by omega) hpos ?_; intro g8 c8 w8 h8 hgr8 hg8)
        replace hgr8 : wr.grownBy w8 u9.ownBlock := hgr8
        have k8 : Keep (fun b => u9.ownBlock = some b) wr w8 := ⟨hgr8.1, hgr8.2, hgr8.3, hgr8.4, fun k hk hn => hgr8.5 k hk (fun e => hn e.symm)⟩
        have hown : ∀ b, Q b → ¬ u9.ownBlock = some b := fun b hb e => hA.out.qo b e hb
        have hb8 : Below w.heap.size w w8 := hb5.trans (k8.below hs5 (fun i _ e => (own_lt6 hA.out.o e).1))
        have hEl : ElemsAt w8 C P (Qn Q w8) (O ++ L) := fun y hy => by
          have kq : ∀ b, b < wr.heap.size → Q b → (Q b ∧ b < wr.heap.size) := fun b hb h => ⟨h, hb⟩
          have hs8 := k8.size
          rcases List.mem_append.1 hy with hy | hy
          · exact (((hA.out.eo.keep (F := fun _ => False) (Keep.refl _ _) (fun _ _ h => h) kq).keep k8 (fun b hb => hown b hb.1) (fun _ _ h => h)).keep (F := fun _ => False) (Keep.refl _ _) (fun _ _ h => h) (fun b hb h => .inl ⟨h.1, hb⟩)) y hy
          · exact (((hA.out.ep.keep (F := fun _ => False) (Keep.refl _ _) (fun _ _ h => h) kq).keep k8 (fun b hb => hown b hb.1) (fun _ _ h => h)).keep (F := fun _ => False) (Keep.refl _ _) (fun _ _ h => h) (fun b hb h => .inl ⟨h.1, hb⟩)) y hy
        have hlen : (O ++ L).length = O.length + L.length := by simp
        have HS := Lib.hid (seq_any C P (Qn Q w8) (O ++ L) g8 0 c8 w8 (by simp [hLe]) (by omega) (rowAt_of (by rw [hlen]; simpa [ptrs] using h8) hEl) (fun j hj => .inr hj))
        rw [hlen] at HS
        clear h8 hgr8 hg8 hEl hlm hlen
        go_wp2_with (go_at_call 40; refine HS.out.mono ?_; rintro e w6 ⟨t2, r2, v2, rfl, hM6, hR6⟩)
        go_ret
        exact ⟨t2, rfl, HEND.out w8 w6 t2 r2 v2 Q HLOW.out hb8 hM6 hR6⟩
end Go.Proofs.Ytmkgbbbhmbejnaa
