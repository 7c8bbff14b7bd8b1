/- Package pool: the iterator over the monitors in the pool. -/
import Derived.Test.YtmknnjjmmfbppaaGreatMgBegBD
import Derived.Test.YtmknnjjmmfbppaaGreatMgBegBE
import Derived.Test.YtmknnjjmmfbppaaGreatMgBegBJ
namespace Go.Proofs.YtmknnjjmmfbppaaGreat
open Go.ChangeShapes Go.WideShapes Go.ChangeAt Go.RowKit Go.Shelf
set_option linter.unusedVariables false
set_option maxRecDepth 100000
set_option linter.unusedSimpArgs false
attribute [local go_sem] Oper.semAt_some
/-- where a walk through the pool stands: what the cell ahead has -/
def curV (m : Mp) (mm pre : List Int) : Int := match pre.getLast? with
  | none => rdL mm 1
  | some x => rdL mm (linkN m x)
def curP (m : Mp) (mm pre : List Int) : Int := pmS m (curV m mm pre)
theorem curV_nil (m : Mp) (mm : List Int) : curV m mm [] = rdL mm 1 := rfl
theorem curV_snoc (m : Mp) (mm pre : List Int) (x : Int) : curV m mm (pre ++ [x]) = rdL mm (linkN m x) := by simp [curV]
/-- the monitors that come, whatever cells hold -/
structure Came (m : Mp) (mm l : List Int) : Prop where
  len : sizeN m ≤ mm.length
  rng : ∀ (i : Nat) c, mm[i]? = some c → 0 ≤ c ∧ c < 18446744073709551616
  at' : ∀ (k : Nat) x, l[k]? = some x → curP m mm (l.take k) = x
  nodup : l.Nodup
  low : ∀ x ∈ l, 0 ≤ x ∧ x < (m.n : Int)
  stop : curP m mm l = -1 ∨ curP m mm l ∈ l
theorem Came.cur {m : Mp} {mm l : List Int} (h : Came m mm l) {k : Nat} : 0 ≤ curV m mm (l.take k) ∧ curV m mm (l.take k) < 18446744073709551616 := by
  have hr : ∀ i, 0 ≤ rdL mm i ∧ rdL mm i < 18446744073709551616 := fun i => by
    unfold rdL
    cases e : mm[i]? with
    | none => simp
    | some c => exact h.rng i c e
  unfold curV
  split
  · exact hr _
  · exact hr _
theorem rdL_some {mm : List Int} {i : Nat} (h : i < mm.length) : mm[i]? = some (rdL mm i) := by
  unfold rdL
  rw [List.getElem?_eq_getElem h]
  rfl
/-- how many are marked in a map -/
noncomputable def kOf (l : List Int) (mp : Nat) (w : World) : Nat := by
  classical exact if h : ∃ k, k ≤ l.length ∧ SetAt w mp (l.take k).reverse then Classical.choose h else 0
theorem kOf_eq {l : List Int} {mp k b : Nat} {w : World} (hn : l.Nodup) (hb : ∀ x ∈ l, 0 ≤ x ∧ x < (b : Int)) (hb2 : b ≤ 5000) (hk : k ≤ l.length) (h : SetAt w mp (l.take k).reverse) : kOf l mp w = k := by
  have hex : ∃ k, k ≤ l.length ∧ SetAt w mp (l.take k).reverse := ⟨k, hk, h⟩
  unfold kOf
  rw [dif_pos hex]
  obtain ⟨h1, h2⟩ := Classical.choose_spec hex
  generalize Classical.choose hex = j at *
  have key : ∀ i x, l[i]? = some x → (i < k ↔ i < j) := fun i x hx => by
    have hxr := hb x (List.mem_of_getElem? hx)
    have e1 := h.look (u := x) (by omega)
    have e2 := h2.look (u := x) (by omega)
    rw [e1] at e2
    injection e2 with e2
    injection e2 with e2
    have hm : ∀ q, x ∈ (l.take q).reverse ↔ i < q := fun q => by
      rw [List.mem_reverse]
      constructor
      · intro hh
        obtain ⟨p, hp, e⟩ := List.mem_take_iff_getElem.1 hh
        have e3 : l[p]? = some x := List.getElem?_eq_some_iff.2 ⟨by omega, e⟩
        have a1 := idx_nodup l i x hn hx
        have a2 := idx_nodup l p x hn e3
        omega
      · intro hh
        obtain ⟨hlt, e⟩ := List.getElem?_eq_some_iff.1 hx
        exact List.mem_take_iff_getElem.2 ⟨i, by omega, e⟩
    have e3 : decide (x ∈ (l.take k).reverse) = decide (x ∈ (l.take j).reverse) := e2
    rw [decide_eq_decide, hm, hm] at e3
    exact e3
  rcases Nat.lt_trichotomy j k with hlt | rfl | hlt
  · have := (key j _ (List.getElem?_eq_getElem (by omega))).1 hlt
    omega
  · rfl
  · have := (key k _ (List.getElem?_eq_getElem (by omega))).2 hlt
    omega
set_option maxHeartbeats 4000000 in
theorem pcont1_own (n : Nat) (hn : 1 ≤ n) (C : Nat) (m : Mp) (mm l : List Int) (g cap Bl Bs : Nat) (Qb : Nat → Prop) (w : World) (hm : m.ok) (hc : Came m mm l) (hBl : Blk w Bl 114 (stockCs C m)) (hBs : Blk w Bs 34 #[.slice (some ⟨g, 0, none⟩) mm.length cap]) (hg : RowC w g mm)
    (q1 : ¬ Qb Bl) (q2 : ¬ Qb Bs) (q3 : ¬ Qb g) (q4 : ¬ Qb (w.heap.size + 2)) : SeqOwnZ Fence.wide n Tryz.prog 108 #[pV Bl, pV Bs] (fun t : Int => #[.int .i64 t]) l Qb (fun i => i = w.heap.size + 2) w.heap.size w := by
  intro J W hW hsz hJ hY h0
  have hmm := @run_makeMap Tryz.prog
  have hro : Fence.wide.round = none := rfl
  have hBlt := hBl.lt
  have hBst := hBs.lt
  have hl1 : 1 < mm.length := by have := hc.len; unfold sizeN at this; omega
  have hc1 := rdL_some hl1
  have hgt : g < w.heap.size := cell_lt6 (hg 1 _ hc1)
  have HM := Lib.hid hm
  have HC := Lib.hid hc
  refine callsIn_of_wp Tryz.func108 rfl trivial ?_ hro
  simp only [Tryz.ntmps108, List.size_toArray, List.length_cons, List.length_nil, Nat.reduceAdd, Nat.reduceSub, Array.replicate_succ, Array.replicate_zero, List.push_toArray, List.append_toArray, List.nil_append, List.cons_append]
  gi_wp2
  generalize hV : (W.alloc _) = V
  have bV : Below W.heap.size W V := by rw [← hV]; go_grown
  have hSV : SetAt V (w.heap.size + 2) [] := by
    rw [← hV]
    have := SetAt.made W
    rw [hsz] at this
    exact this
  clear hV
  have kV : Keep (fun _ => False) w V := (Keep.ofBelow hW).trans (Keep.ofBelow bV)
  have lV := hBl.keep kV (fun h => h)
  have sV := hBs.keep kV (fun h => h)
  have gV := hg.keep kV (fun h => h)
  have jV := hJ _ _ _ h0 (Keep.ofBelow bV)
  clear hBl hBs hg h0
  have hcur := hc.cur (k := 0)
  rw [List.take_zero, curV_nil] at hcur
  have HMk := Lib.hid fun V => pmarked_any C m (rdL mm 1) V hm hcur
  have HHd := Lib.hid fun V => head_any m V
  have SK := Lib.hid (show ∀ A, Below V.heap.size V A → ((A.cell? ⟨Bl, 0, none⟩ = some (cellsV C) ∧ A.cell? ⟨Bl, 1, none⟩ = some (.int .i64 (m.t : Int)) ∧ A.cell? ⟨Bl, 2, none⟩ = some (.int .i64 (m.o : Int)) ∧ A.cell? ⟨Bl, 3, none⟩ = some (.int .i64 (m.n : Int))) ∧ A.cell? ⟨Bs, 0, none⟩ = some (.slice (some ⟨g, 0, none⟩) mm.length cap)) ∧ A.cell? ⟨g, 1, none⟩ = some (.int .u64 (rdL mm 1)) from fun A hA => ⟨⟨stock4 (lV.below hA lV.lt), (sV.below hA sV.lt).cell 0 _ rfl⟩, gV.keep (Keep.ofBelow (Q := fun _ => False) hA) (fun h => h) 1 _ hc1⟩)
  have bd := bdrewP V
  have hix : ∀ W, (Instr.indexAt 34 (.slice (some ⟨g, 0, none⟩) mm.length cap) (.int .i64 1)).run Tryz.prog W = .ok (.pointer (some ⟨g, 1, none⟩)) W := idx_u64 mm.length cap g 1 hl1
  have hl1I : (1 : Int) < (mm.length : Int) := by omega
  refine wpIn_wide.2 ?_
  go_region_held3 (fun A => ((A.cell? ⟨Bl, 0, none⟩ = some (cellsV C) ∧ A.cell? ⟨Bl, 1, none⟩ = some (.int .i64 (m.t : Int)) ∧ A.cell? ⟨Bl, 2, none⟩ = some (.int .i64 (m.o : Int)) ∧ A.cell? ⟨Bl, 3, none⟩ = some (.int .i64 (m.n : Int))) ∧ A.cell? ⟨Bs, 0, none⟩ = some (.slice (some ⟨g, 0, none⟩) mm.length cap)) ∧ A.cell? ⟨g, 1, none⟩ = some (.int .u64 (rdL mm 1))) (first | exact SK.out _ b2 | exact SK.out _ b1 | exact SK.out _ bd) (first
    | (go_at_call 16; (with_reducible refine (HHd.out _).mono ?_); rintro e w1 ⟨rfl, hb1⟩; have b1 : Below V.heap.size V w1 := bd.trans hb1)
    | (go_at_call 109; (with_reducible refine (HMk.out _).mono ?_); rintro e w2 ⟨rfl, hb2⟩; have b2 : Below V.heap.size V w2 := b1.trans (hb2.mono b1.size)))
  have k2 : Keep (fun _ => False) V w2 := Keep.ofBelow b2
  have l2 := lV.keep k2 (fun h => h)
  have s2 := sV.keep k2 (fun h => h)
  have g2 := gV.keep k2 (fun h => h)
  have t2 := hSV.keep k2 (fun h => h)
  have j2 := hJ _ _ _ jV (Keep.ofBelow b2)
  clear lV sV gV hSV jV SK HMk HHd hix kV bV b1 b2 bd k2 hcur hW hb1 hb2 hc1 hl1 hl1I
  obtain ⟨mp, hmp⟩ : ∃ mp, mp = w.heap.size + 2 := ⟨_, rfl⟩
  have HMP := Lib.hid hmp
  rw [← hmp] at t2 hJ q4 ⊢
  clear hmp hsz
  rw [show pmS m (rdL mm 1) = curP m mm (l.take 0) from rfl]
  gi_wp2
  gi_loopw [5] (fun v5 wr => ∃ (k : Nat) (c : Int), k ≤ l.length ∧ c = curP m mm (l.take k) ∧ v5 = .int .i64 c ∧ J (l.take k) wr ∧ Blk wr Bl 114 (stockCs C m) ∧ Blk wr Bs 34 #[.slice (some ⟨g, 0, none⟩) mm.length cap] ∧ RowC wr g mm ∧ SetAt wr mp (l.take k).reverse)
    (fun _ wr => l.length - kOf l mp wr)
  case atStart => exact ⟨0, _, Nat.zero_le _, rfl, rfl, j2, l2, s2, g2, t2⟩
  case round =>
    clear l2 s2 g2 t2 j2
    obtain ⟨k, c, hk, hcur, rfl, hj, hl, hs, hgr, hset⟩ := hrel
    have hkof := kOf_eq hc.nodup hc.low (b := m.n) (by have := hm.n; omega) hk hset
    by_cases hlt : k < l.length
    · obtain ⟨t, ht⟩ : ∃ t, l[k]? = some t := ⟨_, List.getElem?_eq_getElem hlt⟩
      have hthr := hc.low t (List.mem_of_getElem? ht)
      have hmt := hm.n
      have hub : -9223372036854775808 ≤ t ∧ t ≤ 9223372036854775807 := by omega
      have hnot : t ∉ (l.take k).reverse := by
        intro h
        have h1 : t ∈ l.take k := by simpa using h
        obtain ⟨i, hi, e⟩ := List.mem_take_iff_getElem.1 h1
        have e2 : l[i]? = some t := List.getElem?_eq_some_iff.2 ⟨by omega, e⟩
        have a1 := idx_nodup l i t hc.nodup e2
        have a2 := idx_nodup l k t hc.nodup ht
        omega
      have hlk := hset.look hub
      rw [show decide (t ∈ (l.take k).reverse) = false by simpa using hnot] at hlk
      rw [hc.at' k t ht] at hcur
      obtain rfl := hcur.symm
      clear hcur
      have e2 : (t == -1) = false := by
        rw [beq_eq_false_iff_ne]
        omega
      have e3 : (t != -1) = true := by rw [bne, e2]; rfl
      have hlen : (l.take k).length < l.length := by rw [List.length_take]; omega
      obtain ⟨fn, tmps, assign, body, hy, hR⟩ := hY (l.take k) t wr hj hlen (fun i hi => by have h1 := hset.lt; have h2 := HMP.out; omega)
      have HT := Lib.hid ht
      have HL := Lib.hid hl
      have HS := Lib.hid hs
      have HG := Lib.hid hgr
      have HSet := Lib.hid hset
      have HThr := Lib.hid hthr
      have HKo := Lib.hid hkof
      clear ht hl hs hgr hset hthr hnot hlen hkof
      gi_wp2
      refine hR.mono ?_
      rintro e W3 ⟨rfl, hJ3, hk3⟩
      have hmp2 := HMP.out
      have nl : ¬ (Qb Bl ∨ (w.heap.size ≤ Bl ∧ Bl < w.heap.size + 2)) := fun h => h.elim q1 (fun h => by omega)
      have ns : ¬ (Qb Bs ∨ (w.heap.size ≤ Bs ∧ Bs < w.heap.size + 2)) := fun h => h.elim q2 (fun h => by omega)
      have ng : ¬ (Qb g ∨ (w.heap.size ≤ g ∧ g < w.heap.size + 2)) := fun h => h.elim q3 (fun h => by omega)
      have nm : ¬ (Qb mp ∨ (w.heap.size ≤ mp ∧ mp < w.heap.size + 2)) := fun h => h.elim q4 (fun h => by omega)
      have hl3 := HL.out.keep hk3 nl
      have hs3 := HS.out.keep hk3 ns
      have hg3 := HG.out.keep hk3 ng
      have ht3 := HSet.out.keep hk3 nm
      have hlm := nodup_len0 hc.nodup hc.low
      obtain ⟨w5, hup, hs5, hg5⟩ := ht3.put hub (by rw [List.length_reverse, List.length_take]; unfold maxLen; omega)
      have k5 : Keep (fun i => i = mp) W3 w5 := ⟨hg5.os, hg5.tape, hg5.output, hg5.size, fun k hk hn => hg5.block k hk (fun e => hn (by injection e))⟩
      have hl5 := hl3.keep k5 (by omega)
      have hsl5 := hs3.keep k5 (by omega)
      have hgr5 := hg3.keep k5 (by omega)
      have hj5 := hJ _ _ _ hJ3 k5
      clear hl3 hs3 hg3 ht3 hJ3 hk3 hg5 hlk nl ns ng nm hmp2 hlm
      gi_wp2
      clear hup
      have hnl : linkN m t < mm.length := by have := linkN_lt HThr.out; have := hc.len; omega
      have hnx := rdL_some hnl
      have htk := take_snoc_w HT.out
      have hcur := hc.cur (k := k + 1)
      rw [htk, curV_snoc] at hcur
      have HMk := Lib.hid fun V => pmarked_any C m (rdL mm (linkN m t)) V hm hcur
      rw [show pmS m (rdL mm (linkN m t)) = curP m mm (l.take (k + 1)) by rw [htk]; unfold curP; rw [curV_snoc]] at HMk
      have HNx := Lib.hid fun V => link_any m t V hm (by have := HThr.out; omega)
      have SK := Lib.hid (show ∀ A, Below w5.heap.size w5 A → ((A.cell? ⟨Bl, 0, none⟩ = some (cellsV C) ∧ A.cell? ⟨Bl, 1, none⟩ = some (.int .i64 (m.t : Int)) ∧ A.cell? ⟨Bl, 2, none⟩ = some (.int .i64 (m.o : Int)) ∧ A.cell? ⟨Bl, 3, none⟩ = some (.int .i64 (m.n : Int))) ∧ A.cell? ⟨Bs, 0, none⟩ = some (.slice (some ⟨g, 0, none⟩) mm.length cap)) ∧ A.cell? ⟨g, linkN m t, none⟩ = some (.int .u64 (rdL mm (linkN m t))) from fun A hA => ⟨⟨stock4 (hl5.below hA hl5.lt), (hsl5.below hA hsl5.lt).cell 0 _ rfl⟩, hgr5.keep (Keep.ofBelow (Q := fun _ => False) hA) (fun h => h) _ _ hnx⟩)
      have bd := bdrewP w5
      have hix := idx_u64 mm.length cap g (linkN m t) hnl
      clear hnx hnl hub e2 e3 hmt hcur
      refine wpIn_wide.2 ?_
      go_region_held3 (fun A => ((A.cell? ⟨Bl, 0, none⟩ = some (cellsV C) ∧ A.cell? ⟨Bl, 1, none⟩ = some (.int .i64 (m.t : Int)) ∧ A.cell? ⟨Bl, 2, none⟩ = some (.int .i64 (m.o : Int)) ∧ A.cell? ⟨Bl, 3, none⟩ = some (.int .i64 (m.n : Int))) ∧ A.cell? ⟨Bs, 0, none⟩ = some (.slice (some ⟨g, 0, none⟩) mm.length cap)) ∧ A.cell? ⟨g, linkN m t, none⟩ = some (.int .u64 (rdL mm (linkN m t)))) (first | exact SK.out _ b7 | exact SK.out _ b6 | exact SK.out _ bd) (first
        | (go_at_call 17; (with_reducible refine (HNx.out _).mono ?_); rintro e w6 ⟨rfl, hb6⟩; have b6 : Below w5.heap.size w5 w6 := bd.trans hb6)
        | (go_at_call 109; (with_reducible refine (HMk.out _).mono ?_); rintro e w7 ⟨rfl, hb7⟩; have b7 : Below w5.heap.size w5 w7 := b6.trans (hb7.mono b6.size)))
      have k7 : Keep (fun _ => False) w5 w7 := Keep.ofBelow b7
      have hset7 : SetAt w7 mp (l.take (k + 1)).reverse := by rw [htk, List.reverse_append]; exact hs5.keep k7 (fun h => h)
      have hko2 := kOf_eq hc.nodup hc.low (b := m.n) (by have := hm.n; omega) hlt hset7
      clear hix bd
      go_roundw
      case rel =>
        refine ⟨_, _, _, _, _, _, _, _, _, _, _, _, _, _, _, _, _, _, _, _, _, _, _, _, ?_, rfl⟩
        exact ⟨k + 1, _, by omega, by rw [htk], rfl, by rw [htk]; exact hJ _ _ _ hj5 (Keep.ofBelow b7), hl5.keep k7 (fun h => h), hsl5.keep k7 (fun h => h), hgr5.keep k7 (fun h => h), hset7⟩
      case measure =>
        show l.length - kOf l mp w7 < l.length - kOf l mp wr
        rw [hko2, HKo.out]
        omega
    · obtain rfl : k = l.length := by omega
      rw [List.take_length] at hj hcur hset
      have HJ := Lib.hid hj
      rcases hc.stop with hst | hst
      · rw [hst] at hcur
        subst hcur
        clear hj hset hgr hs hl hkof
        gi_wp2
        go_end0
        exact ⟨⟨_, rfl⟩, HJ.out⟩
      · rw [← hcur] at hst
        have hthr := hc.low c hst
        have hmt := hm.n
        have hlk := hset.look (u := c) (by omega)
        rw [show decide (c ∈ l.reverse) = true by simpa using hst] at hlk
        have e2 : (c == -1) = false := by
          rw [beq_eq_false_iff_ne]
          omega
        have e3 : (c != -1) = true := by rw [bne, e2]; rfl
        clear hj hset hgr hs hl hkof hcur hst
        gi_wp2
        go_end0
        exact ⟨⟨_, rfl⟩, HJ.out⟩
end Go.Proofs.YtmknnjjmmfbppaaGreat
/- Package pool: Free. -/
namespace Go.Proofs.YtmknnjjmmfbppaaGreat
open Go.ChangeShapes Go.WideShapes Go.ChangeAt Go.RowKit Go.Shelf
set_option linter.unusedVariables false
set_option maxRecDepth 100000
set_option linter.unusedSimpArgs false
attribute [local go_sem] Oper.semAt_some
theorem pcont_any (C : Nat) (m : Mp) (sv : Value) (w : World) (hs : ∃ g n cap, sv = .slice (some ⟨g, 0, none⟩) n cap) :
    Calls Tryz.prog 59 #[stockV C m, sv] w fun e w' => e = .returned (cloV 108 #[pV w.heap.size, pV (w.heap.size + 1)]) ∧ w' = (w.alloc (.cells (stockCs C m) 114)).alloc (.cells #[sv] 34) := by
  have hmf : ∀ (fn : Fn) (first cap : Array Value) (w : World), (Instr.makeFunc fn first cap).run Tryz.prog w = .ok (.func fn first cap) w := fun _ _ _ _ => rfl
  obtain ⟨g, n, cap, rfl⟩ := hs
  go_enter Tryz.func59, Tryz.ntmps59
  go_wp2
  go_ret
  exact ⟨rfl, rfl⟩
set_option maxHeartbeats 4000000 in
theorem free_in (n : Nat) (hn : 3 ≤ n) (C S : Nat) (m : Mp) (mm l : List Int) (k0 : Int) (w : World) (hm : m.ok) (hC : CellsAt w C S mm k0) (hc : Came m mm l) :
    CallsIn Fence.wide n Tryz.prog 13 #[cellsV C, mapV m] w fun e w' => ∃ v, e = .returned v ∧ RowN w' (fun b => w.heap.size ≤ b) v l ∧ Below w.heap.size w w' := by
  have h1 : 1 ≤ n := by omega
  have h1' : 1 ≤ n - 1 - 1 := by omega
  have hro : Fence.wide.round = none := rfl
  obtain ⟨i0, hi, hz0, hz1, hz2'⟩ := int_info
  have hfew := hC.few
  have hmm0 : mm ≠ [] := fun e => by have := hc.len; rw [e] at this; unfold sizeN at this; simp at this
  have HA := Lib.hid fun W (hW : Below w.heap.size w W) => allR_any C S mm k0 W (hC.keep (Keep.ofBelow (Q := fun _ => False) hW) (fun h => h) (fun h => h)) hmm0
  have HR := Lib.hid fun W => pright_yes m (mm.length : Int) W hm
  rw [show decide ((sizeN m : Int) ≤ (mm.length : Int)) = true by have := hc.len; simp; omega] at HR
  have HM := Lib.hid hm
  have HC := Lib.hid hc
  clear hC hm hc
  refine callsIn_of_wp_marks Tryz.func13 rfl trivial ?_ hro
  simp only [Tryz.ntmps13, List.size_toArray, List.length_cons, List.length_nil, Nat.reduceAdd, Nat.reduceSub, Array.replicate_succ, Array.replicate_zero, List.push_toArray, List.append_toArray, List.nil_append, List.cons_append]
  gi_wp2
  generalize hW : (w.alloc _) = W
  have bW : Below w.heap.size w W := by rw [← hW]; go_grown
  have m0 : Blk W w.heap.size 28 #[.int .i64 (m.t : Int), .int .i64 (m.o : Int), .int .i64 (m.n : Int)] := by rw [← hW]; exact Blk.new w _ _
  clear hW
  have HA2 := Lib.hid (HA.out W bW)
  clear HA
  gi_wp2_with (first
    | (refine ⟨trivial, ?_⟩; gi_at_call 12; refine (callsIn_wide.2 HA2.out).mono ?_; rintro e w2 ⟨g, cap, rfl, hg, hg1, hg2, hb2⟩; have m2 := m0.below hb2 m0.lt; have c0 := m2.cell 0 _ rfl; have c1 := m2.cell 1 _ rfl; have c2 := m2.cell 2 _ rfl)
    | (refine ⟨trivial, ?_⟩; gi_at_call 58; refine (callsIn_wide.2 (HR.out _)).mono ?_; rintro e w3 ⟨rfl, hb3⟩; clear c0 c1 c2; have m3 := m2.below hb3 m2.lt; have m4 := m3.alloc (.cells #[.slice none 0 0] 23); have c0 := m4.cell 0 _ rfl; have c1 := m4.cell 1 _ rfl; have c2 := m4.cell 2 _ rfl)
    | (refine ⟨trivial, ?_⟩; gi_at_call 59; refine (callsIn_wide.2 (pcont_any C m _ _ ⟨_, _, _, rfl⟩)).mono ?_; rintro e w5 ⟨rfl, rfl⟩))
  have sW := bW.size
  have s2 := hb2.size
  have s3 := hb3.size
  have bA : Below w.heap.size w w3 := (bW.trans (hb2.mono sW)).trans (hb3.mono (by omega))
  have aL : Blk (w3.alloc (.cells #[.slice none 0 0] 23)) w3.heap.size 23 #[.slice none 0 0] := Blk.new w3 23 #[.slice none 0 0]
  have g4 : RowC (w3.alloc (.cells #[.slice none 0 0] 23)) g mm := (hg.keep (F := fun _ => False) (Keep.ofBelow hb3) (fun h => h)).keep (F := fun _ => False) ((Keep.refl _ _).alloc (.cells #[.slice none 0 0] 23)) (fun h => h)
  have bB : Below w.heap.size w (w3.alloc (.cells #[.slice none 0 0] 23)) := bA.trans (((Below.refl _ w3).alloc (Nat.le_refl _) (.cells #[.slice none 0 0] 23)).mono bA.size)
  have s4 : (w3.alloc (.cells #[.slice none 0 0] 23)).heap.size = w3.heap.size + 1 := by rw [World.size_alloc]
  generalize w3.alloc (.cells #[.slice none 0 0] 23) = w4 at *
  rw [← s4]
  replace s4 : w3.heap.size < w4.heap.size := by omega
  generalize hV : ((w4.alloc _).alloc _) = V
  have bV : Below w4.heap.size w4 V := by rw [← hV]; go_grown
  have sV : V.heap.size = w4.heap.size + 2 := by rw [← hV]; simp
  have lV : Blk V w4.heap.size 114 (stockCs C m) := by rw [← hV]; exact (Blk.new w4 _ _).alloc _
  have rV : Blk V (w4.heap.size + 1) 34 #[.slice (some ⟨g, 0, none⟩) mm.length cap] := by rw [← hV]; exact blk_two w4 _ _ _
  clear hV
  have gV := g4.keep (F := fun _ => False) (Keep.ofBelow bV) (fun h => h)
  have aV := aL.below bV aL.lt
  have bwV : Below w.heap.size w V := bB.trans (bV.mono bB.size)
  have hgl : g < w3.heap.size := by omega
  have hww3 := bA.size
  have h3V : w3.heap.size < w4.heap.size := by omega
  have h4V : w4.heap.size + 1 < V.heap.size := by omega
  clear sV
  clear c0 c1 c2 m0 m2 m3 m4 g4 aL hg bW hb2 hb3 bA
  refine wpIn_range_ownZ hro h1 (gf := 108) (lb := #[pV w4.heap.size, pV (w4.heap.size + 1)]) rfl trivial (enters_of Tryz.func108 (by kernel_rfl) rfl)
    (encs := fun t : Int => #[.int .i64 t]) (xs := l) (Qb := fun i => i = w3.heap.size ∨ V.heap.size + 3 ≤ i) (Z := fun i => i = V.heap.size + 2) (fun i e => by omega) (fun i e => by omega)
    (pcont1_own (n - 1) (by omega) C m mm l g cap w4.heap.size (w4.heap.size + 1) _ V HM.out HC.out lV rV gV (by omega) (by omega) (by omega) (by omega)) (fun _ => rfl)
    (fun pre W => ∃ u, Blk W w3.heap.size 23 #[u] ∧ W.ownsRow (V.heap.size + 3) 3 1 u pre.length (pre.map (.int .i64)) ∧ Below w.heap.size w W)
    (fun s A A' ⟨u, i1, i2, i3⟩ hk => ⟨u, i1.keep hk (by omega), own_keepL i2 hk (fun g hg _ => by omega), i3.trans (hk.below i3.size (fun i hi h => by have := bwV.size; omega))⟩)
    ⟨_, aV, World.ownsRow_nil _ _ _ _, bwV⟩
    (fun x a' W => a' = { tmps := #[cellsV C, mapV m, undef, .pointer (some ⟨w.heap.size, 0, none⟩), .slice none 0 0, .slice (some ⟨g, 0, none⟩) mm.length cap, .pointer (some ⟨w3.heap.size, 0, none⟩), .int .i64 x, cellsV C, .slice (some ⟨g, 0, none⟩) mm.length cap, .slice (some ⟨g, 0, none⟩) mm.length cap, .int .i64 (mm.length : Int), mapV m, .bool true, .bool false, cellsV C, mapV m, stockV C m, .slice (some ⟨g, 0, none⟩) mm.length cap, cloV 108 #[pV w4.heap.size, pV (w4.heap.size + 1)], .int .i64 x, undef, undef, undef, undef, undef], defers := [] })
    (fun x a' A A' h _ => h)
    ?assign ?body ?done
  case assign =>
    rintro pre x W K hI hsz hK
    gi_wp2
    exact hK _ _ (Below.refl _ W) rfl
  case body =>
    rintro pre x a' W ⟨u, bA, hrow, hb⟩ rfl hsz hlen hz
    have hz2 := hz _ rfl
    have hpl : pre.length < 32767 := by
      have h1 := nodup_len0 HC.out.nodup HC.out.low
      have h2 := HM.out.n
      omega
    have cF := bA.cell 0 _ rfl
    have fF := bA.free 0
    have HCM := Lib.hid (show (pre ++ [x]).map (Value.int .i64) = pre.map (Value.int .i64) ++ [.int .i64 x] by simp)
    have hsl : ∃ ua ul uc, u = .slice ua ul uc := by
      rcases hrow.2 with ⟨rfl, _⟩ | ⟨g, cap, cur, rfl, _⟩
      · exact ⟨_, _, _, rfl⟩
      · exact ⟨_, _, _, rfl⟩
    obtain ⟨ua, ul, uc, rfl⟩ := hsl
    have hgb : ∀ g', (Value.slice ua ul uc).ownBlock = some g' → V.heap.size + 3 ≤ g' := fun g' hg' => by
      rcases hrow.2 with ⟨e, _⟩ | ⟨g2, cap2, cur, e, h2, _⟩
      · rw [e] at hg'; cases hg'
      · rw [e] at hg'
        obtain rfl : g2 = g' := by simpa [Value.ownBlock] using hg'
        exact h2
    have hsb := hb.size
    gi_wp2_with (gi_at_builtin; refine wpListIn_append_own _ rfl _ _ 23 rfl (V.heap.size + 3) 3 i0 (.int .i64 0) 1 8 Tryz.underlying23 hi hz0 hz1 hz2' rfl (by decide) _ _ _ rfl (own_keepL hrow ((Keep.refl (fun _ => False) W).alloc _) (fun _ _ _ h => h)) ⟨W.heap.size, 0, none⟩ 1 1 [.int .i64 x] rfl rfl (cell_one_new _ _ _) (by simp [Value.oneCell']) (by unfold maxLen; omega) (by omega) (by rw [World.size_alloc]; omega) ?_; intro v' w6 hown' hgrow _; obtain ⟨g', cap', rfl⟩ := ownsRow_succ hown'; have k6 : Keep (fun b => V.heap.size + 3 ≤ b) W w6 := ⟨hgrow.os, hgrow.tape, hgrow.output, Nat.le_trans (by rw [World.size_alloc]; omega) hgrow.size, fun k hk hn => (hgrow.block k (by rw [World.size_alloc]; omega) (fun e => hn (hgb k e.symm))).trans (Below.heap_alloc W _ k hk)⟩; have bA6 := bA.keep k6 (by omega); have c9 := bA6.cell 0 _ rfl; have f9 := bA6.free 0)
    refine ⟨⟨_, bA6.set 0 _, ?_, ?_⟩, ?_⟩
    · have hkk := own_keepL hown' ((Keep.refl (fun b => b = w3.heap.size) w6).set (p := ⟨w3.heap.size, 0, none⟩) (fun _ => rfl) (.slice (some ⟨g', 0, none⟩) (pre.length + 1) cap')) (fun g hg _ => by omega)
      first
        | exact hkk
        | (rw [← HCM.out] at hkk; exact hkk)
        | simpa using hkk
    · exact (hb.trans (k6.below hsb (fun i hi h => by have := bwV.size; omega))).setCell (p := ⟨w3.heap.size, 0, none⟩) (by omega) _
    · exact (k6.mono (fun _ _ h => .inr h)).set (p := ⟨w3.heap.size, 0, none⟩) (fun _ => .inl rfl) _
  case done =>
    rintro W ⟨u, bA, hrow, hb⟩ hsz hK
    have cF := bA.cell 0 _ rfl
    obtain ⟨ua, ul, uc, rfl⟩ : ∃ ua ul uc, u = .slice ua ul uc := by
      rcases hrow.2 with ⟨rfl, _⟩ | ⟨g, cap, cur, rfl, _⟩
      · exact ⟨_, _, _, rfl⟩
      · exact ⟨_, _, _, rfl⟩
    gi_wp2
    refine ⟨by simp, .inl ⟨_, _, rfl, run_takeDeferred hK, ?_⟩⟩
    have k1 := keep_put (W := W) (l := V.heap.size) (.deferred none)
    have hr2 := own_keepL hrow k1 (fun g hg _ => by omega)
    have hsb := hb.size
    refine ⟨_, results_tmp rfl _ _ _, _, rfl, ?_, hb.trans (k1.below hsb (fun i _ e => by have := bwV.size; omega))⟩
    rcases id hr2.2 with ⟨e, h0⟩ | ⟨g', cap', cur, e, h1, h2, h3, _⟩
    · rw [e]
      have hl0 : l = [] := List.length_eq_zero_iff.1 h0
      subst hl0
      exact ⟨none, 0, rfl, by simp, fun i x hx => by simp at hx⟩
    · rw [e] at hr2 ⊢
      refine ⟨some ⟨g', 0, none⟩, cap', rfl, h3, fun i x hx => ⟨g', 0, rfl, by have := bwV.size; omega, (Array.getElem?_eq_some_iff.1 h2).1, ?_⟩⟩
      have := hr2.cells (g := g') rfl i (.int .i64 x) (by rw [List.getElem?_map, hx]; rfl)
      rwa [addr_add] at this
theorem free_any (C S : Nat) (m : Mp) (mm l : List Int) (k0 : Int) (w : World) (hm : m.ok) (hC : CellsAt w C S mm k0) (hc : Came m mm l) :
    Calls Tryz.prog 13 #[cellsV C, mapV m] w fun e w' => ∃ v, e = .returned v ∧ RowN w' (fun b => w.heap.size ≤ b) v l ∧ Below w.heap.size w w' :=
  callsIn_wide.1 (free_in 3 (Nat.le_refl _) C S m mm l k0 w hm hC hc)
end Go.Proofs.YtmknnjjmmfbppaaGreat
