/- Package queue: the iterator over the threads that a queue contains. -/
import Derived.Test.YtldofbkjjmnooaaGreatMgGSlP
import Derived.Test.YtldofbkjjmnooaaGreatMgGSlM
import Derived.Test.YtldofbkjjmnooaaGreatMgGSlN
import Derived.Test.YtldofbkjjmnooaaGreatMgGSlK
import Derived.Test.YtldofbkjjmnooaaGreatMgGSlO
namespace Go.Proofs.YtldofbkjjmnooaaGreat
open Go.ChangeShapes Go.WideShapes Go.ChangeAt Go.RowKit Go.Shelf
set_option linter.unusedVariables false
set_option maxRecDepth 100000
set_option linter.unusedSimpArgs false
attribute [local go_sem] Oper.semAt_some
theorem idx_nodup : ∀ (l : List Int) (k : Nat) (t : Int), l.Nodup → l[k]? = some t → l.idxOf t = k
  | [], k, t, _, h => by simp at h
  | x :: l, 0, t, _, h => by
    simp at h
    subst h
    simp
  | x :: l, k + 1, t, hn, h => by
    have h1 : l[k]? = some t := by simpa using h
    have h2 := List.nodup_cons.1 hn
    have h3 : x ≠ t := fun e => h2.1 (e ▸ List.mem_of_getElem? h1)
    have hb : (x == t) = false := by rw [beq_eq_false_iff_ne]; exact h3
    rw [List.idxOf_cons, idx_nodup l k t h2.2 h1, hb]
    rfl
/-- the first of a row, as a thread -/
def hdT : List Int → Int
  | [] => -1
  | t :: _ => t
theorem hdT_head (l : List Int) : hdT l = headOf l - 1 := by
  cases l <;> simp [hdT, headOf]
theorem hdT_at {l : List Int} {k : Nat} {t : Int} (h : l[k]? = some t) : hdT (l.drop k) = t := by
  obtain ⟨hlt, e⟩ := List.getElem?_eq_some_iff.1 h
  rw [List.drop_eq_getElem_cons hlt, e]
  rfl
theorem idx_none : ∀ (l : List Int) (t : Int), t ∉ l → l.idxOf t = l.length
  | [], t, _ => rfl
  | x :: l, t, h => by
    have h1 : x ≠ t := fun e => h (by simp [e])
    have hb : (x == t) = false := by rw [beq_eq_false_iff_ne]; exact h1
    rw [List.idxOf_cons, idx_none l t (fun hh => h (by simp [hh])), hb]
    rfl
theorem idx_hd {l : List Int} {k b : Nat} (hn : l.Nodup) (h : ∀ u ∈ l, 0 ≤ u ∧ u < (b : Int)) (hk : k ≤ l.length) : l.idxOf (hdT (l.drop k)) = k := by
  by_cases hlt : k < l.length
  · have e : l[k]? = some l[k] := List.getElem?_eq_getElem hlt
    rw [hdT_at e]
    exact idx_nodup l k _ hn e
  · obtain rfl : k = l.length := by omega
    rw [List.drop_length]
    exact idx_none l _ (fun hh => by have := h _ hh; simp [hdT] at this)
/-- a chain of threads in the values of cells -/
structure Chain (mm : List Int) (m : Mp) (a : Nat) (l : List Int) : Prop where
  head : mm[a]? = some (headOf l)
  next : ∀ (k : Nat) t, l[k]? = some t → mm[nxN m t]? = some (headOf (l.drop (k + 1)))
  nodup : l.Nodup
  thr : ∀ t ∈ l, 0 ≤ t ∧ t < (m.t : Int)
theorem head_range {m : Mp} {l : List Int} (h : ∀ t ∈ l, 0 ≤ t ∧ t < (m.t : Int)) : 0 ≤ headOf l ∧ headOf l ≤ m.t := by
  cases l with
  | nil => simp [headOf]
  | cons t l => have := h t (by simp); simp [headOf]; omega
theorem marked_head {m : Mp} {l : List Int} (h : ∀ t ∈ l, 0 ≤ t ∧ t < (m.t : Int)) : markedS m (headOf l) = hdT l := by
  have := head_range h
  unfold markedS
  rw [if_neg (by omega), hdT_head]
def RowC (w : World) (g : Nat) (mm : List Int) : Prop := ∀ (i : Nat) c, mm[i]? = some c → w.cell? ⟨g, i, none⟩ = some (.int .u64 c)
theorem RowC.keep {w w1 : World} {F : Nat → Prop} {g : Nat} {mm : List Int} (h : RowC w g mm) (hk : Keep F w w1) (hn : ¬ F g) : RowC w1 g mm := fun i c hc => cell_keep6 (h i c hc) hk hn
theorem idx_u64 (len c B i : Nat) (h : i < len) : ∀ W, (Instr.indexAt 38 (.slice (some ⟨B, 0, none⟩) len c) (.int .i64 (i : Int))).run Tryz.prog W = .ok (.pointer (some ⟨B, i, none⟩)) W := by
  intro W
  go_simp
theorem nodup_len0 {k : Nat} {L : List Int} (hn : L.Nodup) (h : ∀ u ∈ L, 0 ≤ u ∧ u < (k : Int)) : L.length ≤ k := by
  induction k generalizing L with
  | zero =>
    cases L with
    | nil => simp
    | cons u L => have := h u (by simp); omega
  | succ k ih =>
    by_cases hk : (k : Int) ∈ L
    · have h1 := ih (L := L.erase (k : Int)) (hn.erase _) (fun u hu => by
        have h2 := (hn.mem_erase_iff).1 hu
        have := h u h2.2
        have h3 := h2.1
        omega)
      rw [List.length_erase_of_mem hk] at h1
      omega
    · have := ih hn (fun u hu => by
        have h1 := h u hu
        have h2 : u ≠ k := fun e => hk (e ▸ hu)
        omega)
      omega
set_option maxHeartbeats 4000000 in
theorem cont1_own (n : Nat) (hn : 1 ≤ n) (C a : Nat) (m : Mp) (mm l : List Int) (g cap Bl Bs : Nat) (Qb : Nat → Prop) (w : World) (hm : m.ok) (hc : Chain mm m a l) (hBl : Blk w Bl 153 (lineCs C a m)) (hBs : Blk w Bs 38 #[.slice (some ⟨g, 0, none⟩) mm.length cap]) (hg : RowC w g mm)
    (q1 : ¬ Qb Bl) (q2 : ¬ Qb Bs) (q3 : ¬ Qb g) (q4 : ¬ Qb (w.heap.size + 2)) : SeqOwnZ Fence.wide n Tryz.prog 189 #[pV Bl, pV Bs] (fun t : Int => #[.int .i64 t]) l Qb (fun i => i = w.heap.size + 2) w.heap.size w := by
  intro J W hW hsz hJ hY h0
  have hmm := @run_makeMap Tryz.prog
  have hro : Fence.wide.round = none := rfl
  have hBlt := hBl.lt
  have hBst := hBs.lt
  have hgt : g < w.heap.size := cell_lt6 (hg a _ hc.head)
  have HM := Lib.hid hm
  have HC := Lib.hid hc
  refine callsIn_of_wp Tryz.func189 rfl trivial ?_ hro
  simp only [Tryz.ntmps189, List.size_toArray, List.length_cons, List.length_nil, Nat.reduceAdd, Nat.reduceSub, Array.replicate_succ, Array.replicate_zero, List.push_toArray, List.append_toArray, List.nil_append, List.cons_append]
  gi_wp2
  generalize hV : (W.alloc _) = V
  have bV : Below W.heap.size W V := by rw [← hV]; go_grown
  have hSV : SetAt V (w.heap.size + 2) [] := by
    rw [← hV]
    have := SetAt.made W
    rw [hsz] at this
    exact this
  clear hV
  have kV : Keep (fun _ => False) w V := (Keep.ofBelow hW).trans (Keep.ofBelow bV)
  have lV := hBl.keep kV (fun h => h)
  have sV := hBs.keep kV (fun h => h)
  have gV := hg.keep kV (fun h => h)
  have jV := hJ _ _ _ h0 (Keep.ofBelow bV)
  clear hBl hBs hg h0
  have hr0 := head_range hc.thr
  have HMk := Lib.hid fun V => marked_any C a m (headOf l) V hm (by have := hm.t; omega)
  rw [marked_head hc.thr] at HMk
  have SK := Lib.hid (show ∀ A, Below V.heap.size V A → (A.cell? ⟨Bl, 0, none⟩ = some (cellsV C) ∧ A.cell? ⟨Bl, 1, none⟩ = some (.int .i64 (a : Int)) ∧ A.cell? ⟨Bl, 2, none⟩ = some (.int .i64 ((a : Int) + 1)) ∧ A.cell? ⟨Bl, 3, none⟩ = some (nextV m) ∧ A.cell? ⟨Bl, 4, none⟩ = some (.int .i64 (m.t : Int))) ∧ A.cell? ⟨Bs, 0, none⟩ = some (.slice (some ⟨g, 0, none⟩) mm.length cap) ∧ A.cell? ⟨g, a, none⟩ = some (.int .u64 (headOf l)) from fun A hA => ⟨lineE_of (lV.below hA lV.lt), (sV.below hA sV.lt).cell 0 _ rfl, gV.keep (Keep.ofBelow (Q := fun _ => False) hA) (fun h => h) a _ hc.head⟩)
  have bd := bdrewE V
  have halen : a < mm.length := (List.getElem?_eq_some_iff.1 hc.head).1
  have hix := idx_u64 mm.length cap g a halen
  refine wpIn_wide.2 ?_
  go_region_held3 (fun A => (A.cell? ⟨Bl, 0, none⟩ = some (cellsV C) ∧ A.cell? ⟨Bl, 1, none⟩ = some (.int .i64 (a : Int)) ∧ A.cell? ⟨Bl, 2, none⟩ = some (.int .i64 ((a : Int) + 1)) ∧ A.cell? ⟨Bl, 3, none⟩ = some (nextV m) ∧ A.cell? ⟨Bl, 4, none⟩ = some (.int .i64 (m.t : Int))) ∧ A.cell? ⟨Bs, 0, none⟩ = some (.slice (some ⟨g, 0, none⟩) mm.length cap) ∧ A.cell? ⟨g, a, none⟩ = some (.int .u64 (headOf l))) (first | exact SK.out _ b2 | exact SK.out _ bd) (first
    | (go_at_call 190; refine (HMk.out _).mono ?_; rintro e w2 ⟨rfl, hb2⟩; have b2 : Below V.heap.size V w2 := bd.trans hb2))
  have k2 : Keep (fun _ => False) V w2 := Keep.ofBelow b2
  have l2 := lV.keep k2 (fun h => h)
  have s2 := sV.keep k2 (fun h => h)
  have g2 := gV.keep k2 (fun h => h)
  have t2 := hSV.keep k2 (fun h => h)
  have j2 := hJ _ _ _ jV (Keep.ofBelow b2)
  clear lV sV gV hSV jV SK HMk hix kV bV b2 bd k2 hr0 hW hb2
  obtain ⟨mp, hmp⟩ : ∃ mp, mp = w.heap.size + 2 := ⟨_, rfl⟩
  have HMP := Lib.hid hmp
  rw [← hmp] at t2 hJ q4 ⊢
  clear hmp hsz
  gi_wp2
  gi_loopw [5] (fun v5 wr => ∃ k : Nat, k ≤ l.length ∧ v5 = .int .i64 (hdT (l.drop k)) ∧ J (l.take k) wr ∧ Blk wr Bl 153 (lineCs C a m) ∧ Blk wr Bs 38 #[.slice (some ⟨g, 0, none⟩) mm.length cap] ∧ RowC wr g mm ∧ SetAt wr mp (l.take k).reverse)
    (fun v5 wr => l.length - l.idxOf (intOf v5))
  case atStart => exact ⟨0, Nat.zero_le _, rfl, j2, l2, s2, g2, t2⟩
  case round =>
    clear l2 s2 g2 t2 j2
    obtain ⟨k, hk, rfl, hj, hl, hs, hgr, hset⟩ := hrel
    by_cases hlt : k < l.length
    · obtain ⟨t, ht⟩ : ∃ t, l[k]? = some t := ⟨_, List.getElem?_eq_getElem hlt⟩
      have hthr := hc.thr t (List.mem_of_getElem? ht)
      have hmt := hm.t
      have hub : -9223372036854775808 ≤ t ∧ t ≤ 9223372036854775807 := by omega
      have hnot : t ∉ (l.take k).reverse := by
        intro h
        have h1 : t ∈ l.take k := by simpa using h
        obtain ⟨i, hi, e⟩ := List.mem_take_iff_getElem.1 h1
        have e2 : l[i]? = some t := List.getElem?_eq_some_iff.2 ⟨by omega, e⟩
        have a1 := idx_nodup l i t hc.nodup e2
        have a2 := idx_nodup l k t hc.nodup ht
        omega
      have hlk := hset.look hub
      rw [show decide (t ∈ (l.take k).reverse) = false by simpa using hnot] at hlk
      rw [hdT_at ht]
      have e2 : (t == -1) = false := by
        rw [beq_eq_false_iff_ne]
        omega
      have e3 : (t != -1) = true := by rw [bne, e2]; rfl
      have hlen : (l.take k).length < l.length := by rw [List.length_take]; omega
      obtain ⟨fn, tmps, assign, body, hy, hR⟩ := hY (l.take k) t wr hj hlen (fun i hi => by have h1 := hset.lt; have h2 := HMP.out; omega)
      have HT := Lib.hid ht
      have HL := Lib.hid hl
      have HS := Lib.hid hs
      have HG := Lib.hid hgr
      have HSet := Lib.hid hset
      have HThr := Lib.hid hthr
      clear ht hl hs hgr hset hthr hnot hlen
      gi_wp2
      refine hR.mono ?_
      rintro e W3 ⟨rfl, hJ3, hk3⟩
      have hmp2 := HMP.out
      have nl : ¬ (Qb Bl ∨ (w.heap.size ≤ Bl ∧ Bl < w.heap.size + 2)) := fun h => h.elim q1 (fun h => by omega)
      have ns : ¬ (Qb Bs ∨ (w.heap.size ≤ Bs ∧ Bs < w.heap.size + 2)) := fun h => h.elim q2 (fun h => by omega)
      have ng : ¬ (Qb g ∨ (w.heap.size ≤ g ∧ g < w.heap.size + 2)) := fun h => h.elim q3 (fun h => by omega)
      have nm : ¬ (Qb mp ∨ (w.heap.size ≤ mp ∧ mp < w.heap.size + 2)) := fun h => h.elim q4 (fun h => by omega)
      have hl3 := HL.out.keep hk3 nl
      have hs3 := HS.out.keep hk3 ns
      have hg3 := HG.out.keep hk3 ng
      have ht3 := HSet.out.keep hk3 nm
      have hlm := nodup_len0 hc.nodup hc.thr
      obtain ⟨w5, hup, hs5, hg5⟩ := ht3.put hub (by rw [List.length_reverse, List.length_take]; unfold maxLen; omega)
      have k5 : Keep (fun i => i = mp) W3 w5 := ⟨hg5.os, hg5.tape, hg5.output, hg5.size, fun k hk hn => hg5.block k hk (fun e => hn (by injection e))⟩
      have hl5 := hl3.keep k5 (by omega)
      have hsl5 := hs3.keep k5 (by omega)
      have hgr5 := hg3.keep k5 (by omega)
      have hj5 := hJ _ _ _ hJ3 k5
      clear hl3 hs3 hg3 ht3 hJ3 hk3 hg5 hlk nl ns ng nm hmp2 hlm
      gi_wp2
      clear hup
      have hnx := hc.next k t HT.out
      have hnl : nxN m t < mm.length := (List.getElem?_eq_some_iff.1 hnx).1
      have hthr2 : ∀ z ∈ l.drop (k + 1), 0 ≤ z ∧ z < (m.t : Int) := fun z hz => hc.thr z (List.mem_of_mem_drop hz)
      have hr0 := head_range hthr2
      have HMk := Lib.hid fun V => marked_any C a m (headOf (l.drop (k + 1))) V hm (by omega)
      rw [marked_head hthr2] at HMk
      have HNx := Lib.hid fun V => next_any m t V hm HThr.out
      have SK := Lib.hid (show ∀ A, Below w5.heap.size w5 A → (A.cell? ⟨Bl, 0, none⟩ = some (cellsV C) ∧ A.cell? ⟨Bl, 1, none⟩ = some (.int .i64 (a : Int)) ∧ A.cell? ⟨Bl, 2, none⟩ = some (.int .i64 ((a : Int) + 1)) ∧ A.cell? ⟨Bl, 3, none⟩ = some (nextV m) ∧ A.cell? ⟨Bl, 4, none⟩ = some (.int .i64 (m.t : Int))) ∧ A.cell? ⟨Bs, 0, none⟩ = some (.slice (some ⟨g, 0, none⟩) mm.length cap) ∧ A.cell? ⟨g, nxN m t, none⟩ = some (.int .u64 (headOf (l.drop (k + 1)))) from fun A hA => ⟨lineE_of (hl5.below hA hl5.lt), (hsl5.below hA hsl5.lt).cell 0 _ rfl, hgr5.keep (Keep.ofBelow (Q := fun _ => False) hA) (fun h => h) _ _ hnx⟩)
      have bd := bdrewE w5
      have hix := idx_u64 mm.length cap g (nxN m t) hnl
      clear hnx hnl hthr2 hr0 hub e2 e3 hmt
      refine wpIn_wide.2 ?_
      go_region_held3 (fun A => (A.cell? ⟨Bl, 0, none⟩ = some (cellsV C) ∧ A.cell? ⟨Bl, 1, none⟩ = some (.int .i64 (a : Int)) ∧ A.cell? ⟨Bl, 2, none⟩ = some (.int .i64 ((a : Int) + 1)) ∧ A.cell? ⟨Bl, 3, none⟩ = some (nextV m) ∧ A.cell? ⟨Bl, 4, none⟩ = some (.int .i64 (m.t : Int))) ∧ A.cell? ⟨Bs, 0, none⟩ = some (.slice (some ⟨g, 0, none⟩) mm.length cap) ∧ A.cell? ⟨g, nxN m t, none⟩ = some (.int .u64 (headOf (l.drop (k + 1))))) (first | exact SK.out _ b7 | exact SK.out _ b6 | exact SK.out _ bd) (first
        | (go_at_call 30; refine (HNx.out _).mono ?_; rintro e w6 ⟨rfl, hb6⟩; have b6 : Below w5.heap.size w5 w6 := bd.trans hb6)
        | (go_at_call 190; refine (HMk.out _).mono ?_; rintro e w7 ⟨rfl, hb7⟩; have b7 : Below w5.heap.size w5 w7 := b6.trans (hb7.mono b6.size)))
      have k7 : Keep (fun _ => False) w5 w7 := Keep.ofBelow b7
      have hi2 := idx_hd hc.nodup hc.thr (k := k + 1) (by omega)
      have hi1 := idx_nodup l k t hc.nodup HT.out
      have htk := take_snoc_w HT.out
      clear hix bd
      go_roundw
      case rel =>
        refine ⟨_, _, _, _, _, _, _, _, _, _, _, _, _, _, _, _, _, _, _, _, _, _, _, _, ?_, rfl⟩
        exact ⟨k + 1, by omega, rfl, by rw [htk]; exact hJ _ _ _ hj5 (Keep.ofBelow b7), hl5.keep k7 (fun h => h), hsl5.keep k7 (fun h => h), hgr5.keep k7 (fun h => h), by rw [htk, List.reverse_append]; exact hs5.keep k7 (fun h => h)⟩
      case measure =>
        show l.length - l.idxOf (hdT (l.drop (k + 1))) < l.length - l.idxOf t
        rw [hi1, hi2]
        omega
    · obtain rfl : k = l.length := by omega
      rw [List.drop_length, show hdT [] = -1 from rfl]
      rw [List.take_length] at hj
      have HJ := Lib.hid hj
      clear hj hset hgr hs hl
      gi_wp2
      go_end0
      exact ⟨⟨_, rfl⟩, HJ.out⟩
end Go.Proofs.YtldofbkjjmnooaaGreat
/- Package queue: which arguments are right. Written by tools/gen_quright.py. -/
namespace Go.Proofs.YtldofbkjjmnooaaGreat
open Go.ChangeShapes Go.WideShapes Go.ChangeAt Go.RowKit
set_option linter.unusedVariables false
set_option maxRecDepth 100000
set_option linter.unusedSimpArgs false
/-- are a map, cells, and a place right? -/
def fitS (m : Mp) (n a : Int) : Bool := decide ((sizeN m : Int) ≤ n) && decide (0 ≤ a) && decide (a < n - 1)
theorem right_ok {m : Mp} (h : m.ok) : rightS m.t m.o m.n = true := by
  have h1 := h.t
  have h2 := h.o
  have h3 := h.n
  simp [rightS]
  omega
theorem right_mp {t o k : Int} (h : rightS t o k = true) : ∃ m : Mp, m.ok ∧ t = m.t ∧ o = m.o ∧ k = m.n := by
  simp [rightS] at h
  exact ⟨⟨t.toNat, o.toNat, k.toNat⟩, ⟨by simp; omega, by simp; omega, by simp; omega⟩, by simp; omega, by simp; omega, by simp; omega⟩
theorem qright_none_wrong (t o k n a : Int) (w : World) (h : rightS t o k = false) : Calls Tryz.prog 100 #[.int .i64 n, .agg #[.int .i64 t, .int .i64 o, .int .i64 k], .int .i64 a, .slice none 0 0] w fun e w' => e = .returned (.bool false) ∧ Below w.heap.size w w' := by
  have HR := Lib.hid fun W => right_any t o k W
  rw [h] at HR
  clear h
  go_enter Tryz.func100, Tryz.ntmps100
  go_upto_region 2 with fail
  generalize hW : (w.alloc _) = W
  have bW : Below w.heap.size w W := by rw [← hW]; go_grown
  have q0 : Blk W w.heap.size 24 #[.int .i64 t, .int .i64 o, .int .i64 k] := by rw [← hW]; exact Blk.new w _ _
  clear hW
  have c0 : W.cell? ⟨w.heap.size, 0, none⟩ = some (.int .i64 t) := q0.cell 0 _ rfl
  have c1 : W.cell? ⟨w.heap.size, 1, none⟩ = some (.int .i64 o) := q0.cell 1 _ rfl
  have c2 : W.cell? ⟨w.heap.size, 2, none⟩ = some (.int .i64 k) := q0.cell 2 _ rfl
  clear q0
  go_loopw [13] (fun v wr => v = .int .i64 0 ∧ wr = W) (fun v _ => 0)
  case atStart => exact ⟨rfl, rfl⟩
  case round =>
    obtain ⟨rfl, rfl⟩ := hrel
    go_wp2_with (go_at_call 52; refine (HR.out _).mono ?_; rintro e w2 ⟨rfl, b2⟩)
    go_ret
    exact ⟨rfl, bW.trans (b2.mono bW.size)⟩
theorem qright_one_wrong (t o k n a u : Int) (B : Nat) (w : World) (h : rightS t o k = false) (hB : B < w.heap.size) (hu : w.cell? ⟨B, 0, none⟩ = some (.int .i64 u)) : Calls Tryz.prog 100 #[.int .i64 n, .agg #[.int .i64 t, .int .i64 o, .int .i64 k], .int .i64 a, .slice (some ⟨B, 0, none⟩) 1 1] w fun e w' => e = .returned (.bool false) ∧ Below w.heap.size w w' := by
  have HR := Lib.hid fun W => right_any t o k W
  rw [h] at HR
  clear h
  by_cases hin : 0 ≤ u ∧ u < t
  · go_enter Tryz.func100, Tryz.ntmps100
    go_upto_region 2 with fail
    generalize hW : (w.alloc _) = W
    have bW : Below w.heap.size w W := by rw [← hW]; go_grown
    have q0 : Blk W w.heap.size 24 #[.int .i64 t, .int .i64 o, .int .i64 k] := by rw [← hW]; exact Blk.new w _ _
    have d0 : W.cell? ⟨B, 0, none⟩ = some (.int .i64 u) := (bW.cell (p := ⟨B, 0, none⟩) hB).trans hu
    have hix := idx_qints 1 1 B 0 0 (by omega)
    clear hW
    have c0 : W.cell? ⟨w.heap.size, 0, none⟩ = some (.int .i64 t) := q0.cell 0 _ rfl
    have c1 : W.cell? ⟨w.heap.size, 1, none⟩ = some (.int .i64 o) := q0.cell 1 _ rfl
    have c2 : W.cell? ⟨w.heap.size, 2, none⟩ = some (.int .i64 k) := q0.cell 2 _ rfl
    clear q0
    go_loopw [13] (fun v wr => ∃ i : Nat, i ≤ 1 ∧ v = .int .i64 (i : Int) ∧ wr = W) (fun v _ => 1 - (intOf v).toNat)
    case atStart => exact ⟨0, by omega, rfl, rfl⟩
    case round =>
      obtain ⟨i, hi, rfl, rfl⟩ := hrel
      by_cases hi0 : i = 0
      · subst hi0
        have x1 : ¬ u < 0 := by omega
        have x2 : ¬ t ≤ u := by omega
        have x3 : u < t := by omega
        go_wp2_with fail
        go_roundw
        case rel => exact ⟨1, by omega, by go_num, by trivial⟩
        case measure => simp [intOf]
      · obtain rfl : i = 1 := by omega
        clear hix d0
        go_wp2_with (go_at_call 52; refine (HR.out _).mono ?_; rintro e w2 ⟨rfl, b2⟩)
        go_ret
        exact ⟨rfl, bW.trans (b2.mono bW.size)⟩
  · go_enter Tryz.func100, Tryz.ntmps100
    go_upto_region 2 with fail
    generalize hW : (w.alloc _) = W
    have bW : Below w.heap.size w W := by rw [← hW]; go_grown
    have q0 : Blk W w.heap.size 24 #[.int .i64 t, .int .i64 o, .int .i64 k] := by rw [← hW]; exact Blk.new w _ _
    have d0 : W.cell? ⟨B, 0, none⟩ = some (.int .i64 u) := (bW.cell (p := ⟨B, 0, none⟩) hB).trans hu
    have hix := idx_qints 1 1 B 0 0 (by omega)
    clear hW
    have c0 : W.cell? ⟨w.heap.size, 0, none⟩ = some (.int .i64 t) := q0.cell 0 _ rfl
    have c1 : W.cell? ⟨w.heap.size, 1, none⟩ = some (.int .i64 o) := q0.cell 1 _ rfl
    have c2 : W.cell? ⟨w.heap.size, 2, none⟩ = some (.int .i64 k) := q0.cell 2 _ rfl
    clear q0
    go_loopw [13] (fun v wr => v = .int .i64 0 ∧ wr = W) (fun v _ => 0)
    case atStart => exact ⟨rfl, rfl⟩
    case round =>
      obtain ⟨rfl, rfl⟩ := hrel
      by_cases x1 : u < 0
      · go_wp2_with fail
        go_ret
        exact ⟨rfl, bW⟩
      · have x2 : t ≤ u := by omega
        go_wp2_with fail
        go_ret
        exact ⟨rfl, bW⟩
theorem qright_one_out (t o k n a u : Int) (B : Nat) (w : World) (hin : ¬ (0 ≤ u ∧ u < t)) (hB : B < w.heap.size) (hu : w.cell? ⟨B, 0, none⟩ = some (.int .i64 u)) : Calls Tryz.prog 100 #[.int .i64 n, .agg #[.int .i64 t, .int .i64 o, .int .i64 k], .int .i64 a, .slice (some ⟨B, 0, none⟩) 1 1] w fun e w' => e = .returned (.bool false) ∧ Below w.heap.size w w' := by
  go_enter Tryz.func100, Tryz.ntmps100
  go_upto_region 2 with fail
  generalize hW : (w.alloc _) = W
  have bW : Below w.heap.size w W := by rw [← hW]; go_grown
  have q0 : Blk W w.heap.size 24 #[.int .i64 t, .int .i64 o, .int .i64 k] := by rw [← hW]; exact Blk.new w _ _
  have d0 : W.cell? ⟨B, 0, none⟩ = some (.int .i64 u) := (bW.cell (p := ⟨B, 0, none⟩) hB).trans hu
  have hix := idx_qints 1 1 B 0 0 (by omega)
  clear hW
  have c0 : W.cell? ⟨w.heap.size, 0, none⟩ = some (.int .i64 t) := q0.cell 0 _ rfl
  have c1 : W.cell? ⟨w.heap.size, 1, none⟩ = some (.int .i64 o) := q0.cell 1 _ rfl
  have c2 : W.cell? ⟨w.heap.size, 2, none⟩ = some (.int .i64 k) := q0.cell 2 _ rfl
  clear q0
  go_loopw [13] (fun v wr => v = .int .i64 0 ∧ wr = W) (fun v _ => 0)
  case atStart => exact ⟨rfl, rfl⟩
  case round =>
    obtain ⟨rfl, rfl⟩ := hrel
    by_cases x1 : u < 0
    · go_wp2_with fail
      go_ret
      exact ⟨rfl, bW⟩
    · have x2 : t ≤ u := by omega
      go_wp2_with fail
      go_ret
      exact ⟨rfl, bW⟩
set_option maxHeartbeats 1000000 in
theorem qright_none (m : Mp) (n a : Int) (w : World) (hm : m.ok) (hn : 0 ≤ n ∧ n ≤ 100000000) : Calls Tryz.prog 100 #[.int .i64 n, mapV m, .int .i64 a, .slice none 0 0] w fun e w' => e = .returned (.bool (fitS m n a)) ∧ Below w.heap.size w w' := by
  obtain ⟨t, ht⟩ : ∃ t, t = (m.t : Int) := ⟨_, rfl⟩
  obtain ⟨o, ho⟩ : ∃ t, t = (m.o : Int) := ⟨_, rfl⟩
  obtain ⟨k, hk⟩ : ∃ t, t = (m.n : Int) := ⟨_, rfl⟩
  have HR := Lib.hid fun W => right_any m.t m.o m.n W
  rw [right_ok hm] at HR
  have HS := Lib.hid fun W => size_any m W hm
  unfold mapV at HS
  rw [← ht, ← ho, ← hk] at HR HS
  unfold mapV
  rw [← ht, ← ho, ← hk]
  clear hm ht ho hk
  obtain ⟨bb, hbb⟩ : ∃ bb, bb = fitS m n a := ⟨_, rfl⟩
  have HB := Lib.hid hbb
  rw [← hbb]
  clear hbb
  go_enter Tryz.func100, Tryz.ntmps100
  go_upto_region 2 with fail
  generalize hW : (w.alloc _) = W
  have bW : Below w.heap.size w W := by rw [← hW]; go_grown
  have q0 : Blk W w.heap.size 24 #[.int .i64 t, .int .i64 o, .int .i64 k] := by rw [← hW]; exact Blk.new w _ _
  clear hW
  have c0 : W.cell? ⟨w.heap.size, 0, none⟩ = some (.int .i64 t) := q0.cell 0 _ rfl
  have c1 : W.cell? ⟨w.heap.size, 1, none⟩ = some (.int .i64 o) := q0.cell 1 _ rfl
  have c2 : W.cell? ⟨w.heap.size, 2, none⟩ = some (.int .i64 k) := q0.cell 2 _ rfl
  clear q0
  go_loopw [13] (fun v wr => v = .int .i64 0 ∧ wr = W) (fun v _ => 0)
  case atStart => exact ⟨rfl, rfl⟩
  case round =>
    obtain ⟨rfl, rfl⟩ := hrel
    have hl0 : w.heap.size < wr.heap.size := cell_lt6 c0
    have HC := Lib.hid (And.intro c0 (And.intro c1 c2))
    by_cases h1 : (sizeN m : Int) ≤ n
    · by_cases h2 : 0 ≤ a
      · by_cases h3 : a < n - 1
        · obtain rfl : bb = true := HB.out.trans (by simp [fitS, h1, h2, h3])
          clear HB
          generalize ((sizeN m : Nat) : Int) = sz at *
          go_wp2_with (first | (go_at_call 52; refine (HR.out _).mono ?_; rintro e w2 ⟨rfl, b2⟩; clear c0 c1 c2; have c0 := (b2.cell (p := ⟨w.heap.size, 0, none⟩) hl0).trans HC.out.1; have c1 := (b2.cell (p := ⟨w.heap.size, 1, none⟩) hl0).trans HC.out.2.1; have c2 := (b2.cell (p := ⟨w.heap.size, 2, none⟩) hl0).trans HC.out.2.2) | (go_at_call 14; refine (HS.out _).mono ?_; rintro e w3 ⟨rfl, b3⟩))
          go_ret
          exact ⟨rfl, (bW.trans (b2.mono bW.size)).trans (b3.mono (by have := bW.size; have := b2.size; omega))⟩
        · obtain rfl : bb = false := HB.out.trans (by simp [fitS, h1, h2, h3])
          clear HB
          generalize ((sizeN m : Nat) : Int) = sz at *
          go_wp2_with (first | (go_at_call 52; refine (HR.out _).mono ?_; rintro e w2 ⟨rfl, b2⟩; clear c0 c1 c2; have c0 := (b2.cell (p := ⟨w.heap.size, 0, none⟩) hl0).trans HC.out.1; have c1 := (b2.cell (p := ⟨w.heap.size, 1, none⟩) hl0).trans HC.out.2.1; have c2 := (b2.cell (p := ⟨w.heap.size, 2, none⟩) hl0).trans HC.out.2.2) | (go_at_call 14; refine (HS.out _).mono ?_; rintro e w3 ⟨rfl, b3⟩))
          go_ret
          exact ⟨by first | rfl | simp [h3], (bW.trans (b2.mono bW.size)).trans (b3.mono (by have := bW.size; have := b2.size; omega))⟩
      · obtain rfl : bb = false := HB.out.trans (by simp [fitS, h1, h2])
        clear HB
        generalize ((sizeN m : Nat) : Int) = sz at *
        go_wp2_with (first | (go_at_call 52; refine (HR.out _).mono ?_; rintro e w2 ⟨rfl, b2⟩; clear c0 c1 c2; have c0 := (b2.cell (p := ⟨w.heap.size, 0, none⟩) hl0).trans HC.out.1; have c1 := (b2.cell (p := ⟨w.heap.size, 1, none⟩) hl0).trans HC.out.2.1; have c2 := (b2.cell (p := ⟨w.heap.size, 2, none⟩) hl0).trans HC.out.2.2) | (go_at_call 14; refine (HS.out _).mono ?_; rintro e w3 ⟨rfl, b3⟩))
        go_ret
        exact ⟨rfl, (bW.trans (b2.mono bW.size)).trans (b3.mono (by have := bW.size; have := b2.size; omega))⟩
    · obtain rfl : bb = false := HB.out.trans (by simp [fitS, h1])
      clear HB
      generalize ((sizeN m : Nat) : Int) = sz at *
      go_wp2_with (first | (go_at_call 52; refine (HR.out _).mono ?_; rintro e w2 ⟨rfl, b2⟩; clear c0 c1 c2; have c0 := (b2.cell (p := ⟨w.heap.size, 0, none⟩) hl0).trans HC.out.1; have c1 := (b2.cell (p := ⟨w.heap.size, 1, none⟩) hl0).trans HC.out.2.1; have c2 := (b2.cell (p := ⟨w.heap.size, 2, none⟩) hl0).trans HC.out.2.2) | (go_at_call 14; refine (HS.out _).mono ?_; rintro e w3 ⟨rfl, b3⟩))
      go_ret
      exact ⟨rfl, (bW.trans (b2.mono bW.size)).trans (b3.mono (by have := bW.size; have := b2.size; omega))⟩
set_option maxHeartbeats 1000000 in
theorem qright_one (m : Mp) (n a u : Int) (B : Nat) (w : World) (hm : m.ok) (hn : 0 ≤ n ∧ n ≤ 100000000) (hin : 0 ≤ u ∧ u < m.t) (hB : B < w.heap.size) (hu : w.cell? ⟨B, 0, none⟩ = some (.int .i64 u)) : Calls Tryz.prog 100 #[.int .i64 n, mapV m, .int .i64 a, .slice (some ⟨B, 0, none⟩) 1 1] w fun e w' => e = .returned (.bool (fitS m n a)) ∧ Below w.heap.size w w' := by
  obtain ⟨t, ht⟩ : ∃ t, t = (m.t : Int) := ⟨_, rfl⟩
  obtain ⟨o, ho⟩ : ∃ t, t = (m.o : Int) := ⟨_, rfl⟩
  obtain ⟨k, hk⟩ : ∃ t, t = (m.n : Int) := ⟨_, rfl⟩
  have HR := Lib.hid fun W => right_any m.t m.o m.n W
  rw [right_ok hm] at HR
  have HS := Lib.hid fun W => size_any m W hm
  unfold mapV at HS
  rw [← ht, ← ho, ← hk] at HR HS
  unfold mapV
  rw [← ht, ← ho, ← hk]
  rw [← ht] at hin
  clear hm ht ho hk
  obtain ⟨bb, hbb⟩ : ∃ bb, bb = fitS m n a := ⟨_, rfl⟩
  have HB := Lib.hid hbb
  rw [← hbb]
  clear hbb
  go_enter Tryz.func100, Tryz.ntmps100
  go_upto_region 2 with fail
  generalize hW : (w.alloc _) = W
  have bW : Below w.heap.size w W := by rw [← hW]; go_grown
  have q0 : Blk W w.heap.size 24 #[.int .i64 t, .int .i64 o, .int .i64 k] := by rw [← hW]; exact Blk.new w _ _
  have d0 : W.cell? ⟨B, 0, none⟩ = some (.int .i64 u) := (bW.cell (p := ⟨B, 0, none⟩) hB).trans hu
  have hix := idx_qints 1 1 B 0 0 (by omega)
  clear hW
  have c0 : W.cell? ⟨w.heap.size, 0, none⟩ = some (.int .i64 t) := q0.cell 0 _ rfl
  have c1 : W.cell? ⟨w.heap.size, 1, none⟩ = some (.int .i64 o) := q0.cell 1 _ rfl
  have c2 : W.cell? ⟨w.heap.size, 2, none⟩ = some (.int .i64 k) := q0.cell 2 _ rfl
  clear q0
  go_loopw [13] (fun v wr => ∃ i : Nat, i ≤ 1 ∧ v = .int .i64 (i : Int) ∧ wr = W) (fun v _ => 1 - (intOf v).toNat)
  case atStart => exact ⟨0, by omega, rfl, rfl⟩
  case round =>
    obtain ⟨i, hi, rfl, rfl⟩ := hrel
    by_cases hi0 : i = 0
    · subst hi0
      have x1 : ¬ u < 0 := by omega
      have x2 : ¬ t ≤ u := by omega
      have x3 : u < t := by omega
      go_wp2_with fail
      go_roundw
      case rel => exact ⟨1, by omega, by go_num, by trivial⟩
      case measure => simp [intOf]
    · obtain rfl : i = 1 := by omega
      clear hix d0
      have hl0 : w.heap.size < wr.heap.size := cell_lt6 c0
      have HC := Lib.hid (And.intro c0 (And.intro c1 c2))
      by_cases h1 : (sizeN m : Int) ≤ n
      · by_cases h2 : 0 ≤ a
        · by_cases h3 : a < n - 1
          · obtain rfl : bb = true := HB.out.trans (by simp [fitS, h1, h2, h3])
            clear HB
            generalize ((sizeN m : Nat) : Int) = sz at *
            go_wp2_with (first | (go_at_call 52; refine (HR.out _).mono ?_; rintro e w2 ⟨rfl, b2⟩; clear c0 c1 c2; have c0 := (b2.cell (p := ⟨w.heap.size, 0, none⟩) hl0).trans HC.out.1; have c1 := (b2.cell (p := ⟨w.heap.size, 1, none⟩) hl0).trans HC.out.2.1; have c2 := (b2.cell (p := ⟨w.heap.size, 2, none⟩) hl0).trans HC.out.2.2) | (go_at_call 14; refine (HS.out _).mono ?_; rintro e w3 ⟨rfl, b3⟩))
            go_ret
            exact ⟨rfl, (bW.trans (b2.mono bW.size)).trans (b3.mono (by have := bW.size; have := b2.size; omega))⟩
          · obtain rfl : bb = false := HB.out.trans (by simp [fitS, h1, h2, h3])
            clear HB
            generalize ((sizeN m : Nat) : Int) = sz at *
            go_wp2_with (first | (go_at_call 52; refine (HR.out _).mono ?_; rintro e w2 ⟨rfl, b2⟩; clear c0 c1 c2; have c0 := (b2.cell (p := ⟨w.heap.size, 0, none⟩) hl0).trans HC.out.1; have c1 := (b2.cell (p := ⟨w.heap.size, 1, none⟩) hl0).trans HC.out.2.1; have c2 := (b2.cell (p := ⟨w.heap.size, 2, none⟩) hl0).trans HC.out.2.2) | (go_at_call 14; refine (HS.out _).mono ?_; rintro e w3 ⟨rfl, b3⟩))
            go_ret
            exact ⟨by first | rfl | simp [h3], (bW.trans (b2.mono bW.size)).trans (b3.mono (by have := bW.size; have := b2.size; omega))⟩
        · obtain rfl : bb = false := HB.out.trans (by simp [fitS, h1, h2])
          clear HB
          generalize ((sizeN m : Nat) : Int) = sz at *
          go_wp2_with (first | (go_at_call 52; refine (HR.out _).mono ?_; rintro e w2 ⟨rfl, b2⟩; clear c0 c1 c2; have c0 := (b2.cell (p := ⟨w.heap.size, 0, none⟩) hl0).trans HC.out.1; have c1 := (b2.cell (p := ⟨w.heap.size, 1, none⟩) hl0).trans HC.out.2.1; have c2 := (b2.cell (p := ⟨w.heap.size, 2, none⟩) hl0).trans HC.out.2.2) | (go_at_call 14; refine (HS.out _).mono ?_; rintro e w3 ⟨rfl, b3⟩))
          go_ret
          exact ⟨rfl, (bW.trans (b2.mono bW.size)).trans (b3.mono (by have := bW.size; have := b2.size; omega))⟩
      · obtain rfl : bb = false := HB.out.trans (by simp [fitS, h1])
        clear HB
        generalize ((sizeN m : Nat) : Int) = sz at *
        go_wp2_with (first | (go_at_call 52; refine (HR.out _).mono ?_; rintro e w2 ⟨rfl, b2⟩; clear c0 c1 c2; have c0 := (b2.cell (p := ⟨w.heap.size, 0, none⟩) hl0).trans HC.out.1; have c1 := (b2.cell (p := ⟨w.heap.size, 1, none⟩) hl0).trans HC.out.2.1; have c2 := (b2.cell (p := ⟨w.heap.size, 2, none⟩) hl0).trans HC.out.2.2) | (go_at_call 14; refine (HS.out _).mono ?_; rintro e w3 ⟨rfl, b3⟩))
        go_ret
        exact ⟨rfl, (bW.trans (b2.mono bW.size)).trans (b3.mono (by have := bW.size; have := b2.size; omega))⟩
end Go.Proofs.YtldofbkjjmnooaaGreat
/- Package queue: Look. -/
namespace Go.Proofs.YtldofbkjjmnooaaGreat
open Go.ChangeShapes Go.WideShapes Go.ChangeAt Go.RowKit Go.Shelf
set_option linter.unusedVariables false
set_option maxRecDepth 100000
set_option linter.unusedSimpArgs false
attribute [local go_sem] Oper.semAt_some
theorem own_keepL {w w' : World} {B size n : Nat} {e : TypeId} {v : Value} {xs : List Value} {F : Nat → Prop} (h : w.ownsRow B e size v n xs) (hk : Keep F w w') (hQ : ∀ g, B ≤ g → v.ownBlock = some g → ¬ F g) : w'.ownsRow B e size v n xs := by
  refine ⟨h.1, ?_⟩
  rcases h.2 with h | ⟨g, cap, cur, hv, hg, hh, r⟩
  · exact .inl h
  · exact .inr ⟨g, cap, cur, hv, hg, (hk.block g (Array.getElem?_eq_some_iff.1 hh).1 (hQ g hg (by rw [hv]; rfl))).trans hh, r⟩
theorem cont_any (C a : Nat) (m : Mp) (sv : Value) (w : World) (hs : ∃ g n cap, sv = .slice (some ⟨g, 0, none⟩) n cap) :
    Calls Tryz.prog 107 #[lineV C a m, sv] w fun e w' => e = .returned (cloV 189 #[pV w.heap.size, pV (w.heap.size + 1)]) ∧ w' = (w.alloc (.cells (lineCs C a m) 153)).alloc (.cells #[sv] 38) := by
  have hmf : ∀ (fn : Fn) (first cap : Array Value) (w : World), (Instr.makeFunc fn first cap).run Tryz.prog w = .ok (.func fn first cap) w := fun _ _ _ _ => rfl
  obtain ⟨g, n, cap, rfl⟩ := hs
  go_enter Tryz.func107, Tryz.ntmps107
  go_wp2
  go_ret
  exact ⟨rfl, rfl⟩
theorem int_info : ∃ i, Tryz.prog.info? 3 = some i ∧ i.zero = some (.int .i64 0) ∧ i.size = 1 ∧ i.bytes = 8 := by
  have h : (Tryz.prog.info? 3).map (fun i => (i.zero, i.size, i.bytes)) = some (some (.int .i64 0), 1, 8) := by kernel_rfl
  cases hi : Tryz.prog.info? 3 with
  | none => rw [hi] at h; cases h
  | some i =>
    rw [hi] at h
    simp at h
    exact ⟨i, rfl, h.1, h.2.1, h.2.2⟩
theorem allR_any (C S : Nat) (mm : List Int) (k0 : Int) (w : World) (hC : CellsAt w C S mm k0) (hm : mm ≠ []) :
    Calls Tryz.prog 17 #[cellsV C] w fun e w' => ∃ g cap, e = .returned (.slice (some ⟨g, 0, none⟩) mm.length cap) ∧ RowC w' g mm ∧ w.heap.size ≤ g ∧ g < w'.heap.size ∧ Below w.heap.size w w' := by
  refine (all_any C S mm k0 w hC).mono ?_
  rintro e w' ⟨u, rfl, hb, hrow⟩
  rcases id hrow.2 with ⟨rfl, h0⟩ | ⟨g, cap, cur, rfl, h1, h2, _⟩
  · exfalso
    have : mm.length = 0 := by simpa using h0
    exact hm (List.length_eq_zero_iff.1 this)
  · refine ⟨g, cap, rfl, fun i c hc => ?_, h1, (Array.getElem?_eq_some_iff.1 h2).1, hb⟩
    have := hrow.cells (g := g) rfl i (.int .u64 c) (by rw [List.getElem?_map, hc]; rfl)
    rw [addr_add, Nat.zero_add] at this
    exact this
set_option maxHeartbeats 4000000 in
theorem look_in (n : Nat) (hn : 3 ≤ n) (C S a : Nat) (m : Mp) (mm l : List Int) (k0 : Int) (w : World) (hm : m.ok) (hC : CellsAt w C S mm k0) (hc : Chain mm m a l) (hf : fitS m mm.length a = true) (ha : a ≤ 100000000) (hmm0 : mm ≠ []) :
    CallsIn Fence.wide n Tryz.prog 29 #[cellsV C, mapV m, .int .i64 (a : Int)] w fun e w' => ∃ v, e = .returned v ∧ RowN w' (fun b => w.heap.size ≤ b) v l ∧ Below w.heap.size w w' := by
  have h1 : 1 ≤ n := by omega
  have h1' : 1 ≤ n - 1 - 1 := by omega
  have hro : Fence.wide.round = none := rfl
  obtain ⟨i0, hi, hz0, hz1, hz2'⟩ := int_info
  have hfew := hC.few
  have HA := Lib.hid fun W (hW : Below w.heap.size w W) => allR_any C S mm k0 W (hC.keep (Keep.ofBelow (Q := fun _ => False) hW) (fun h => h) (fun h => h)) hmm0
  have HR := Lib.hid fun W => qright_none m mm.length a W hm ⟨by omega, by omega⟩
  rw [hf] at HR
  have HX := Lib.hid fun W => lineAt_any C a m W ha
  have HM := Lib.hid hm
  have HC := Lib.hid hc
  clear hC hf hm hc
  refine callsIn_of_wp_marks Tryz.func29 rfl trivial ?_ hro
  simp only [Tryz.ntmps29, List.size_toArray, List.length_cons, List.length_nil, Nat.reduceAdd, Nat.reduceSub, Array.replicate_succ, Array.replicate_zero, List.push_toArray, List.append_toArray, List.nil_append, List.cons_append]
  gi_wp2
  generalize hW : (w.alloc _) = W
  have bW : Below w.heap.size w W := by rw [← hW]; go_grown
  have m0 : Blk W w.heap.size 24 #[.int .i64 (m.t : Int), .int .i64 (m.o : Int), .int .i64 (m.n : Int)] := by rw [← hW]; exact Blk.new w _ _
  clear hW
  have HA2 := Lib.hid (HA.out W bW)
  clear HA
  gi_wp2_with (first
    | (refine ⟨trivial, ?_⟩; gi_at_call 17; refine (callsIn_wide.2 HA2.out).mono ?_; rintro e w2 ⟨g, cap, rfl, hg, hg1, hg2, hb2⟩; have m2 := m0.below hb2 m0.lt; have c0 := m2.cell 0 _ rfl; have c1 := m2.cell 1 _ rfl; have c2 := m2.cell 2 _ rfl)
    | (refine ⟨trivial, ?_⟩; gi_at_call 100; refine (callsIn_wide.2 (HR.out _)).mono ?_; rintro e w3 ⟨rfl, hb3⟩; clear c0 c1 c2; have m3 := m2.below hb3 m2.lt; have m4 := m3.alloc (.cells #[.slice none 0 0] 37); have c0 := m4.cell 0 _ rfl; have c1 := m4.cell 1 _ rfl; have c2 := m4.cell 2 _ rfl)
    | (refine ⟨trivial, ?_⟩; gi_at_call 103; refine (callsIn_wide.2 (HX.out _)).mono ?_; rintro e w4 ⟨rfl, hb4⟩)
    | (refine ⟨trivial, ?_⟩; gi_at_call 107; refine (callsIn_wide.2 (cont_any C a m _ _ ⟨_, _, _, rfl⟩)).mono ?_; rintro e w5 ⟨rfl, rfl⟩))
  have b23 : Below w2.heap.size w2 w3 := hb3
  have sW := bW.size
  have s2 := hb2.size
  have s3 := hb3.size
  have s4 := hb4.size
  rw [World.size_alloc] at s4
  have bA : Below w.heap.size w w3 := (bW.trans (hb2.mono sW)).trans (hb3.mono (by omega))
  have bB : Below w.heap.size w w4 := (bA.trans (((Below.refl _ w3).alloc (Nat.le_refl _) (.cells #[.slice none 0 0] 37)).mono bA.size)).trans (hb4.mono (by rw [World.size_alloc]; have := bA.size; omega))
  have aL : Blk w4 w3.heap.size 37 #[.slice none 0 0] := (Blk.new w3 37 #[.slice none 0 0]).below hb4 (by rw [World.size_alloc]; omega)
  have g4 : RowC w4 g mm := ((hg.keep (F := fun _ => False) (Keep.ofBelow hb3) (fun h => h)).keep (F := fun _ => False) ((Keep.refl _ _).alloc (.cells #[.slice none 0 0] 37)) (fun h => h)).keep (F := fun _ => False) (Keep.ofBelow hb4) (fun h => h)
  generalize hV : ((w4.alloc _).alloc _) = V
  have bV : Below w4.heap.size w4 V := by rw [← hV]; go_grown
  have sV : V.heap.size = w4.heap.size + 2 := by rw [← hV]; simp
  have lV : Blk V w4.heap.size 153 (lineCs C a m) := by rw [← hV]; exact (Blk.new w4 _ _).alloc _
  have rV : Blk V (w4.heap.size + 1) 38 #[.slice (some ⟨g, 0, none⟩) mm.length cap] := by rw [← hV]; exact blk_two w4 _ _ _
  clear hV
  have gV := g4.keep (F := fun _ => False) (Keep.ofBelow bV) (fun h => h)
  have aV := aL.below bV aL.lt
  have bwV : Below w.heap.size w V := bB.trans (bV.mono bB.size)
  have hgl : g < w3.heap.size := by omega
  have hww3 := bA.size
  have h3V : w3.heap.size < w4.heap.size := by omega
  have h4V : w4.heap.size + 1 < V.heap.size := by omega
  clear sV
  clear c0 c1 c2 m0 m2 m3 m4 g4 aL hg bW hb2 hb3 hb4 b23 bA
  refine wpIn_range_ownZ hro h1 (gf := 189) (lb := #[pV w4.heap.size, pV (w4.heap.size + 1)]) rfl trivial (enters_of Tryz.func189 (by kernel_rfl) rfl)
    (encs := fun t : Int => #[.int .i64 t]) (xs := l) (Qb := fun i => i = w3.heap.size ∨ V.heap.size + 3 ≤ i) (Z := fun i => i = V.heap.size + 2) (fun i e => by omega) (fun i e => by omega)
    (cont1_own (n - 1) (by omega) C a m mm l g cap w4.heap.size (w4.heap.size + 1) _ V HM.out HC.out lV rV gV (by omega) (by omega) (by omega) (by omega)) (fun _ => rfl)
    (fun pre W => ∃ u, Blk W w3.heap.size 37 #[u] ∧ W.ownsRow (V.heap.size + 3) 3 1 u pre.length (pre.map (.int .i64)) ∧ Below w.heap.size w W)
    (fun s A A' ⟨u, i1, i2, i3⟩ hk => ⟨u, i1.keep hk (by omega), own_keepL i2 hk (fun g hg _ => by omega), i3.trans (hk.below i3.size (fun i hi h => by have := bwV.size; omega))⟩)
    ⟨_, aV, World.ownsRow_nil _ _ _ _, bwV⟩
    (fun x a' W => a' = { tmps := #[cellsV C, mapV m, .int .i64 (a : Int), undef, .pointer (some ⟨w.heap.size, 0, none⟩), undef, .slice none 0 0, .slice (some ⟨g, 0, none⟩) mm.length cap, .pointer (some ⟨w3.heap.size, 0, none⟩), .int .i64 x, cellsV C, .slice (some ⟨g, 0, none⟩) mm.length cap, .slice (some ⟨g, 0, none⟩) mm.length cap, .int .i64 (mm.length : Int), mapV m, .int .i64 (a : Int), .bool true, .bool false, cellsV C, mapV m, .int .i64 (a : Int), lineV C a m, .slice (some ⟨g, 0, none⟩) mm.length cap, cloV 189 #[pV w4.heap.size, pV (w4.heap.size + 1)], .int .i64 x, undef, undef, undef, undef, undef], defers := [] })
    (fun x a' A A' h _ => h)
    ?assign ?body ?done
  case assign =>
    rintro pre x W K hI hsz hK
    gi_wp2
    exact hK _ _ (Below.refl _ W) rfl
  case body =>
    rintro pre x a' W ⟨u, bA, hrow, hb⟩ rfl hsz hlen hz
    have hz2 := hz _ rfl
    have hpl : pre.length < 32767 := by
      have h1 := nodup_len0 HC.out.nodup HC.out.thr
      have h2 := HM.out.t
      omega
    have cF := bA.cell 0 _ rfl
    have fF := bA.free 0
    have HCM := Lib.hid (show (pre ++ [x]).map (Value.int .i64) = pre.map (Value.int .i64) ++ [.int .i64 x] by simp)
    have hsl : ∃ ua ul uc, u = .slice ua ul uc := by
      rcases hrow.2 with ⟨rfl, _⟩ | ⟨g, cap, cur, rfl, _⟩
      · exact ⟨_, _, _, rfl⟩
      · exact ⟨_, _, _, rfl⟩
    obtain ⟨ua, ul, uc, rfl⟩ := hsl
    have hgb : ∀ g', (Value.slice ua ul uc).ownBlock = some g' → V.heap.size + 3 ≤ g' := fun g' hg' => by
      rcases hrow.2 with ⟨e, _⟩ | ⟨g2, cap2, cur, e, h2, _⟩
      · rw [e] at hg'; cases hg'
      · rw [e] at hg'
        obtain rfl : g2 = g' := by simpa [Value.ownBlock] using hg'
        exact h2
    have hsb := hb.size
    gi_wp2_with (gi_at_builtin; refine wpListIn_append_own _ rfl _ _ 37 rfl (V.heap.size + 3) 3 i0 (.int .i64 0) 1 8 Tryz.underlying37 hi hz0 hz1 hz2' rfl (by decide) _ _ _ rfl (own_keepL hrow ((Keep.refl (fun _ => False) W).alloc _) (fun _ _ _ h => h)) ⟨W.heap.size, 0, none⟩ 1 1 [.int .i64 x] rfl rfl (cell_one_new _ _ _) (by simp [Value.oneCell']) (by unfold maxLen; omega) (by omega) (by rw [World.size_alloc]; omega) ?_; intro v' w6 hown' hgrow _; obtain ⟨g', cap', rfl⟩ := ownsRow_succ hown'; have k6 : Keep (fun b => V.heap.size + 3 ≤ b) W w6 := ⟨hgrow.os, hgrow.tape, hgrow.output, Nat.le_trans (by rw [World.size_alloc]; omega) hgrow.size, fun k hk hn => (hgrow.block k (by rw [World.size_alloc]; omega) (fun e => hn (hgb k e.symm))).trans (Below.heap_alloc W _ k hk)⟩; have bA6 := bA.keep k6 (by omega); have c9 := bA6.cell 0 _ rfl; have f9 := bA6.free 0)
    refine ⟨⟨_, bA6.set 0 _, ?_, ?_⟩, ?_⟩
    · have hkk := own_keepL hown' ((Keep.refl (fun b => b = w3.heap.size) w6).set (p := ⟨w3.heap.size, 0, none⟩) (fun _ => rfl) (.slice (some ⟨g', 0, none⟩) (pre.length + 1) cap')) (fun g hg _ => by omega)
      first
        | exact hkk
        | (rw [← HCM.out] at hkk; exact hkk)
        | simpa using hkk
    · exact (hb.trans (k6.below hsb (fun i hi h => by have := bwV.size; omega))).setCell (p := ⟨w3.heap.size, 0, none⟩) (by omega) _
    · exact (k6.mono (fun _ _ h => .inr h)).set (p := ⟨w3.heap.size, 0, none⟩) (fun _ => .inl rfl) _
  case done =>
    rintro W ⟨u, bA, hrow, hb⟩ hsz hK
    have cF := bA.cell 0 _ rfl
    obtain ⟨ua, ul, uc, rfl⟩ : ∃ ua ul uc, u = .slice ua ul uc := by
      rcases hrow.2 with ⟨rfl, _⟩ | ⟨g, cap, cur, rfl, _⟩
      · exact ⟨_, _, _, rfl⟩
      · exact ⟨_, _, _, rfl⟩
    gi_wp2
    refine ⟨by simp, .inl ⟨_, _, rfl, run_takeDeferred hK, ?_⟩⟩
    have k1 := keep_put (W := W) (l := V.heap.size) (.deferred none)
    have hr2 := own_keepL hrow k1 (fun g hg _ => by omega)
    have hsb := hb.size
    refine ⟨_, results_tmp rfl _ _ _, _, rfl, ?_, hb.trans (k1.below hsb (fun i _ e => by have := bwV.size; omega))⟩
    rcases id hr2.2 with ⟨e, h0⟩ | ⟨g', cap', cur, e, h1, h2, h3, _⟩
    · rw [e]
      have hl0 : l = [] := List.length_eq_zero_iff.1 h0
      subst hl0
      exact ⟨none, 0, rfl, by simp, fun i x hx => by simp at hx⟩
    · rw [e] at hr2 ⊢
      refine ⟨some ⟨g', 0, none⟩, cap', rfl, h3, fun i x hx => ⟨g', 0, rfl, by have := bwV.size; omega, (Array.getElem?_eq_some_iff.1 h2).1, ?_⟩⟩
      have := hr2.cells (g := g') rfl i (.int .i64 x) (by rw [List.getElem?_map, hx]; rfl)
      rwa [addr_add] at this
theorem look_yes (C S a : Nat) (m : Mp) (mm l : List Int) (k0 : Int) (w : World) (hm : m.ok) (hC : CellsAt w C S mm k0) (hc : Chain mm m a l) (hf : fitS m mm.length a = true) (ha : a ≤ 100000000) (hmm0 : mm ≠ []) :
    Calls Tryz.prog 29 #[cellsV C, mapV m, .int .i64 (a : Int)] w fun e w' => ∃ v, e = .returned v ∧ RowN w' (fun b => w.heap.size ≤ b) v l ∧ Below w.heap.size w w' :=
  callsIn_wide.1 (look_in 3 (Nat.le_refl _) C S a m mm l k0 w hm hC hc hf ha hmm0)
end Go.Proofs.YtldofbkjjmnooaaGreat
/- Package pool: the iterator over the monitors in the pool. -/
namespace Go.Proofs.YtldofbkjjmnooaaGreat
open Go.ChangeShapes Go.WideShapes Go.ChangeAt Go.RowKit Go.Shelf
set_option linter.unusedVariables false
set_option maxRecDepth 100000
set_option linter.unusedSimpArgs false
attribute [local go_sem] Oper.semAt_some
/-- where a walk through the pool stands: what the cell ahead has -/
def curV (m : Mp) (mm pre : List Int) : Int := match pre.getLast? with
  | none => rdL mm 1
  | some x => rdL mm (linkN m x)
def curP (m : Mp) (mm pre : List Int) : Int := pmS m (curV m mm pre)
theorem curV_nil (m : Mp) (mm : List Int) : curV m mm [] = rdL mm 1 := rfl
theorem curV_snoc (m : Mp) (mm pre : List Int) (x : Int) : curV m mm (pre ++ [x]) = rdL mm (linkN m x) := by simp [curV]
/-- the monitors that come, whatever cells hold -/
structure Came (m : Mp) (mm l : List Int) : Prop where
  len : sizeN m ≤ mm.length
  rng : ∀ (i : Nat) c, mm[i]? = some c → 0 ≤ c ∧ c < 18446744073709551616
  at' : ∀ (k : Nat) x, l[k]? = some x → curP m mm (l.take k) = x
  nodup : l.Nodup
  low : ∀ x ∈ l, 0 ≤ x ∧ x < (m.n : Int)
  stop : curP m mm l = -1 ∨ curP m mm l ∈ l
theorem Came.cur {m : Mp} {mm l : List Int} (h : Came m mm l) {k : Nat} : 0 ≤ curV m mm (l.take k) ∧ curV m mm (l.take k) < 18446744073709551616 := by
  have hr : ∀ i, 0 ≤ rdL mm i ∧ rdL mm i < 18446744073709551616 := fun i => by
    unfold rdL
    cases e : mm[i]? with
    | none => simp
    | some c => exact h.rng i c e
  unfold curV
  split
  · exact hr _
  · exact hr _
theorem rdL_some {mm : List Int} {i : Nat} (h : i < mm.length) : mm[i]? = some (rdL mm i) := by
  unfold rdL
  rw [List.getElem?_eq_getElem h]
  rfl
/-- how many are marked in a map -/
noncomputable def kOf (l : List Int) (mp : Nat) (w : World) : Nat := by
  classical exact if h : ∃ k, k ≤ l.length ∧ SetAt w mp (l.take k).reverse then Classical.choose h else 0
theorem kOf_eq {l : List Int} {mp k b : Nat} {w : World} (hn : l.Nodup) (hb : ∀ x ∈ l, 0 ≤ x ∧ x < (b : Int)) (hb2 : b ≤ 5000) (hk : k ≤ l.length) (h : SetAt w mp (l.take k).reverse) : kOf l mp w = k := by
  have hex : ∃ k, k ≤ l.length ∧ SetAt w mp (l.take k).reverse := ⟨k, hk, h⟩
  unfold kOf
  rw [dif_pos hex]
  obtain ⟨h1, h2⟩ := Classical.choose_spec hex
  generalize Classical.choose hex = j at *
  have key : ∀ i x, l[i]? = some x → (i < k ↔ i < j) := fun i x hx => by
    have hxr := hb x (List.mem_of_getElem? hx)
    have e1 := h.look (u := x) (by omega)
    have e2 := h2.look (u := x) (by omega)
    rw [e1] at e2
    injection e2 with e2
    injection e2 with e2
    have hm : ∀ q, x ∈ (l.take q).reverse ↔ i < q := fun q => by
      rw [List.mem_reverse]
      constructor
      · intro hh
        obtain ⟨p, hp, e⟩ := List.mem_take_iff_getElem.1 hh
        have e3 : l[p]? = some x := List.getElem?_eq_some_iff.2 ⟨by omega, e⟩
        have a1 := idx_nodup l i x hn hx
        have a2 := idx_nodup l p x hn e3
        omega
      · intro hh
        obtain ⟨hlt, e⟩ := List.getElem?_eq_some_iff.1 hx
        exact List.mem_take_iff_getElem.2 ⟨i, by omega, e⟩
    have e3 : decide (x ∈ (l.take k).reverse) = decide (x ∈ (l.take j).reverse) := e2
    rw [decide_eq_decide, hm, hm] at e3
    exact e3
  rcases Nat.lt_trichotomy j k with hlt | rfl | hlt
  · have := (key j _ (List.getElem?_eq_getElem (by omega))).1 hlt
    omega
  · rfl
  · have := (key k _ (List.getElem?_eq_getElem (by omega))).2 hlt
    omega
set_option maxHeartbeats 4000000 in
theorem pcont1_own (n : Nat) (hn : 1 ≤ n) (C : Nat) (m : Mp) (mm l : List Int) (g cap Bl Bs : Nat) (Qb : Nat → Prop) (w : World) (hm : m.ok) (hc : Came m mm l) (hBl : Blk w Bl 170 (stockCs C m)) (hBs : Blk w Bs 38 #[.slice (some ⟨g, 0, none⟩) mm.length cap]) (hg : RowC w g mm)
    (q1 : ¬ Qb Bl) (q2 : ¬ Qb Bs) (q3 : ¬ Qb g) (q4 : ¬ Qb (w.heap.size + 2)) : SeqOwnZ Fence.wide n Tryz.prog 202 #[pV Bl, pV Bs] (fun t : Int => #[.int .i64 t]) l Qb (fun i => i = w.heap.size + 2) w.heap.size w := by
  intro J W hW hsz hJ hY h0
  have hmm := @run_makeMap Tryz.prog
  have hro : Fence.wide.round = none := rfl
  have hBlt := hBl.lt
  have hBst := hBs.lt
  have hl1 : 1 < mm.length := by have := hc.len; unfold sizeN at this; omega
  have hc1 := rdL_some hl1
  have hgt : g < w.heap.size := cell_lt6 (hg 1 _ hc1)
  have HM := Lib.hid hm
  have HC := Lib.hid hc
  refine callsIn_of_wp Tryz.func202 rfl trivial ?_ hro
  simp only [Tryz.ntmps202, List.size_toArray, List.length_cons, List.length_nil, Nat.reduceAdd, Nat.reduceSub, Array.replicate_succ, Array.replicate_zero, List.push_toArray, List.append_toArray, List.nil_append, List.cons_append]
  gi_wp2
  generalize hV : (W.alloc _) = V
  have bV : Below W.heap.size W V := by rw [← hV]; go_grown
  have hSV : SetAt V (w.heap.size + 2) [] := by
    rw [← hV]
    have := SetAt.made W
    rw [hsz] at this
    exact this
  clear hV
  have kV : Keep (fun _ => False) w V := (Keep.ofBelow hW).trans (Keep.ofBelow bV)
  have lV := hBl.keep kV (fun h => h)
  have sV := hBs.keep kV (fun h => h)
  have gV := hg.keep kV (fun h => h)
  have jV := hJ _ _ _ h0 (Keep.ofBelow bV)
  clear hBl hBs hg h0
  have hcur := hc.cur (k := 0)
  rw [List.take_zero, curV_nil] at hcur
  have HMk := Lib.hid fun V => pmarked_any C m (rdL mm 1) V hm hcur
  have HHd := Lib.hid fun V => head_any m V
  have SK := Lib.hid (show ∀ A, Below V.heap.size V A → ((A.cell? ⟨Bl, 0, none⟩ = some (cellsV C) ∧ A.cell? ⟨Bl, 1, none⟩ = some (.int .i64 (m.t : Int)) ∧ A.cell? ⟨Bl, 2, none⟩ = some (.int .i64 (m.o : Int)) ∧ A.cell? ⟨Bl, 3, none⟩ = some (.int .i64 (m.n : Int))) ∧ A.cell? ⟨Bs, 0, none⟩ = some (.slice (some ⟨g, 0, none⟩) mm.length cap)) ∧ A.cell? ⟨g, 1, none⟩ = some (.int .u64 (rdL mm 1)) from fun A hA => ⟨⟨stock4 (lV.below hA lV.lt), (sV.below hA sV.lt).cell 0 _ rfl⟩, gV.keep (Keep.ofBelow (Q := fun _ => False) hA) (fun h => h) 1 _ hc1⟩)
  have bd := bdrewP V
  have hix : ∀ W, (Instr.indexAt 38 (.slice (some ⟨g, 0, none⟩) mm.length cap) (.int .i64 1)).run Tryz.prog W = .ok (.pointer (some ⟨g, 1, none⟩)) W := idx_u64 mm.length cap g 1 hl1
  have hl1I : (1 : Int) < (mm.length : Int) := by omega
  refine wpIn_wide.2 ?_
  go_region_held3 (fun A => ((A.cell? ⟨Bl, 0, none⟩ = some (cellsV C) ∧ A.cell? ⟨Bl, 1, none⟩ = some (.int .i64 (m.t : Int)) ∧ A.cell? ⟨Bl, 2, none⟩ = some (.int .i64 (m.o : Int)) ∧ A.cell? ⟨Bl, 3, none⟩ = some (.int .i64 (m.n : Int))) ∧ A.cell? ⟨Bs, 0, none⟩ = some (.slice (some ⟨g, 0, none⟩) mm.length cap)) ∧ A.cell? ⟨g, 1, none⟩ = some (.int .u64 (rdL mm 1))) (first | exact SK.out _ b2 | exact SK.out _ b1 | exact SK.out _ bd) (first
    | (go_at_call 36; (with_reducible refine (HHd.out _).mono ?_); rintro e w1 ⟨rfl, hb1⟩; have b1 : Below V.heap.size V w1 := bd.trans hb1)
    | (go_at_call 195; (with_reducible refine (HMk.out _).mono ?_); rintro e w2 ⟨rfl, hb2⟩; have b2 : Below V.heap.size V w2 := b1.trans (hb2.mono b1.size)))
  have k2 : Keep (fun _ => False) V w2 := Keep.ofBelow b2
  have l2 := lV.keep k2 (fun h => h)
  have s2 := sV.keep k2 (fun h => h)
  have g2 := gV.keep k2 (fun h => h)
  have t2 := hSV.keep k2 (fun h => h)
  have j2 := hJ _ _ _ jV (Keep.ofBelow b2)
  clear lV sV gV hSV jV SK HMk HHd hix kV bV b1 b2 bd k2 hcur hW hb1 hb2 hc1 hl1 hl1I
  obtain ⟨mp, hmp⟩ : ∃ mp, mp = w.heap.size + 2 := ⟨_, rfl⟩
  have HMP := Lib.hid hmp
  rw [← hmp] at t2 hJ q4 ⊢
  clear hmp hsz
  rw [show pmS m (rdL mm 1) = curP m mm (l.take 0) from rfl]
  gi_wp2
  gi_loopw [5] (fun v5 wr => ∃ (k : Nat) (c : Int), k ≤ l.length ∧ c = curP m mm (l.take k) ∧ v5 = .int .i64 c ∧ J (l.take k) wr ∧ Blk wr Bl 170 (stockCs C m) ∧ Blk wr Bs 38 #[.slice (some ⟨g, 0, none⟩) mm.length cap] ∧ RowC wr g mm ∧ SetAt wr mp (l.take k).reverse)
    (fun _ wr => l.length - kOf l mp wr)
  case atStart => exact ⟨0, _, Nat.zero_le _, rfl, rfl, j2, l2, s2, g2, t2⟩
  case round =>
    clear l2 s2 g2 t2 j2
    obtain ⟨k, c, hk, hcur, rfl, hj, hl, hs, hgr, hset⟩ := hrel
    have hkof := kOf_eq hc.nodup hc.low (b := m.n) (by have := hm.n; omega) hk hset
    by_cases hlt : k < l.length
    · obtain ⟨t, ht⟩ : ∃ t, l[k]? = some t := ⟨_, List.getElem?_eq_getElem hlt⟩
      have hthr := hc.low t (List.mem_of_getElem? ht)
      have hmt := hm.n
      have hub : -9223372036854775808 ≤ t ∧ t ≤ 9223372036854775807 := by omega
      have hnot : t ∉ (l.take k).reverse := by
        intro h
        have h1 : t ∈ l.take k := by simpa using h
        obtain ⟨i, hi, e⟩ := List.mem_take_iff_getElem.1 h1
        have e2 : l[i]? = some t := List.getElem?_eq_some_iff.2 ⟨by omega, e⟩
        have a1 := idx_nodup l i t hc.nodup e2
        have a2 := idx_nodup l k t hc.nodup ht
        omega
      have hlk := hset.look hub
      rw [show decide (t ∈ (l.take k).reverse) = false by simpa using hnot] at hlk
      rw [hc.at' k t ht] at hcur
      obtain rfl := hcur.symm
      clear hcur
      have e2 : (t == -1) = false := by
        rw [beq_eq_false_iff_ne]
        omega
      have e3 : (t != -1) = true := by rw [bne, e2]; rfl
      have hlen : (l.take k).length < l.length := by rw [List.length_take]; omega
      obtain ⟨fn, tmps, assign, body, hy, hR⟩ := hY (l.take k) t wr hj hlen (fun i hi => by have h1 := hset.lt; have h2 := HMP.out; omega)
      have HT := Lib.hid ht
      have HL := Lib.hid hl
      have HS := Lib.hid hs
      have HG := Lib.hid hgr
      have HSet := Lib.hid hset
      have HThr := Lib.hid hthr
      have HKo := Lib.hid hkof
      clear ht hl hs hgr hset hthr hnot hlen hkof
      gi_wp2
      refine hR.mono ?_
      rintro e W3 ⟨rfl, hJ3, hk3⟩
      have hmp2 := HMP.out
      have nl : ¬ (Qb Bl ∨ (w.heap.size ≤ Bl ∧ Bl < w.heap.size + 2)) := fun h => h.elim q1 (fun h => by omega)
      have ns : ¬ (Qb Bs ∨ (w.heap.size ≤ Bs ∧ Bs < w.heap.size + 2)) := fun h => h.elim q2 (fun h => by omega)
      have ng : ¬ (Qb g ∨ (w.heap.size ≤ g ∧ g < w.heap.size + 2)) := fun h => h.elim q3 (fun h => by omega)
      have nm : ¬ (Qb mp ∨ (w.heap.size ≤ mp ∧ mp < w.heap.size + 2)) := fun h => h.elim q4 (fun h => by omega)
      have hl3 := HL.out.keep hk3 nl
      have hs3 := HS.out.keep hk3 ns
      have hg3 := HG.out.keep hk3 ng
      have ht3 := HSet.out.keep hk3 nm
      have hlm := nodup_len0 hc.nodup hc.low
      obtain ⟨w5, hup, hs5, hg5⟩ := ht3.put hub (by rw [List.length_reverse, List.length_take]; unfold maxLen; omega)
      have k5 : Keep (fun i => i = mp) W3 w5 := ⟨hg5.os, hg5.tape, hg5.output, hg5.size, fun k hk hn => hg5.block k hk (fun e => hn (by injection e))⟩
      have hl5 := hl3.keep k5 (by omega)
      have hsl5 := hs3.keep k5 (by omega)
      have hgr5 := hg3.keep k5 (by omega)
      have hj5 := hJ _ _ _ hJ3 k5
      clear hl3 hs3 hg3 ht3 hJ3 hk3 hg5 hlk nl ns ng nm hmp2 hlm
      gi_wp2
      clear hup
      have hnl : linkN m t < mm.length := by have := linkN_lt HThr.out; have := hc.len; omega
      have hnx := rdL_some hnl
      have htk := take_snoc_w HT.out
      have hcur := hc.cur (k := k + 1)
      rw [htk, curV_snoc] at hcur
      have HMk := Lib.hid fun V => pmarked_any C m (rdL mm (linkN m t)) V hm hcur
      rw [show pmS m (rdL mm (linkN m t)) = curP m mm (l.take (k + 1)) by rw [htk]; unfold curP; rw [curV_snoc]] at HMk
      have HNx := Lib.hid fun V => link_any m t V hm (by have := HThr.out; omega)
      have SK := Lib.hid (show ∀ A, Below w5.heap.size w5 A → ((A.cell? ⟨Bl, 0, none⟩ = some (cellsV C) ∧ A.cell? ⟨Bl, 1, none⟩ = some (.int .i64 (m.t : Int)) ∧ A.cell? ⟨Bl, 2, none⟩ = some (.int .i64 (m.o : Int)) ∧ A.cell? ⟨Bl, 3, none⟩ = some (.int .i64 (m.n : Int))) ∧ A.cell? ⟨Bs, 0, none⟩ = some (.slice (some ⟨g, 0, none⟩) mm.length cap)) ∧ A.cell? ⟨g, linkN m t, none⟩ = some (.int .u64 (rdL mm (linkN m t))) from fun A hA => ⟨⟨stock4 (hl5.below hA hl5.lt), (hsl5.below hA hsl5.lt).cell 0 _ rfl⟩, hgr5.keep (Keep.ofBelow (Q := fun _ => False) hA) (fun h => h) _ _ hnx⟩)
      have bd := bdrewP w5
      have hix := idx_u64 mm.length cap g (linkN m t) hnl
      clear hnx hnl hub e2 e3 hmt hcur
      refine wpIn_wide.2 ?_
      go_region_held3 (fun A => ((A.cell? ⟨Bl, 0, none⟩ = some (cellsV C) ∧ A.cell? ⟨Bl, 1, none⟩ = some (.int .i64 (m.t : Int)) ∧ A.cell? ⟨Bl, 2, none⟩ = some (.int .i64 (m.o : Int)) ∧ A.cell? ⟨Bl, 3, none⟩ = some (.int .i64 (m.n : Int))) ∧ A.cell? ⟨Bs, 0, none⟩ = some (.slice (some ⟨g, 0, none⟩) mm.length cap)) ∧ A.cell? ⟨g, linkN m t, none⟩ = some (.int .u64 (rdL mm (linkN m t)))) (first | exact SK.out _ b7 | exact SK.out _ b6 | exact SK.out _ bd) (first
        | (go_at_call 47; (with_reducible refine (HNx.out _).mono ?_); rintro e w6 ⟨rfl, hb6⟩; have b6 : Below w5.heap.size w5 w6 := bd.trans hb6)
        | (go_at_call 195; (with_reducible refine (HMk.out _).mono ?_); rintro e w7 ⟨rfl, hb7⟩; have b7 : Below w5.heap.size w5 w7 := b6.trans (hb7.mono b6.size)))
      have k7 : Keep (fun _ => False) w5 w7 := Keep.ofBelow b7
      have hset7 : SetAt w7 mp (l.take (k + 1)).reverse := by rw [htk, List.reverse_append]; exact hs5.keep k7 (fun h => h)
      have hko2 := kOf_eq hc.nodup hc.low (b := m.n) (by have := hm.n; omega) hlt hset7
      clear hix bd
      go_roundw
      case rel =>
        refine ⟨_, _, _, _, _, _, _, _, _, _, _, _, _, _, _, _, _, _, _, _, _, _, _, _, ?_, rfl⟩
        exact ⟨k + 1, _, by omega, by rw [htk], rfl, by rw [htk]; exact hJ _ _ _ hj5 (Keep.ofBelow b7), hl5.keep k7 (fun h => h), hsl5.keep k7 (fun h => h), hgr5.keep k7 (fun h => h), hset7⟩
      case measure =>
        show l.length - kOf l mp w7 < l.length - kOf l mp wr
        rw [hko2, HKo.out]
        omega
    · obtain rfl : k = l.length := by omega
      rw [List.take_length] at hj hcur hset
      have HJ := Lib.hid hj
      rcases hc.stop with hst | hst
      · rw [hst] at hcur
        subst hcur
        clear hj hset hgr hs hl hkof
        gi_wp2
        go_end0
        exact ⟨⟨_, rfl⟩, HJ.out⟩
      · rw [← hcur] at hst
        have hthr := hc.low c hst
        have hmt := hm.n
        have hlk := hset.look (u := c) (by omega)
        rw [show decide (c ∈ l.reverse) = true by simpa using hst] at hlk
        have e2 : (c == -1) = false := by
          rw [beq_eq_false_iff_ne]
          omega
        have e3 : (c != -1) = true := by rw [bne, e2]; rfl
        clear hj hset hgr hs hl hkof hcur hst
        gi_wp2
        go_end0
        exact ⟨⟨_, rfl⟩, HJ.out⟩
end Go.Proofs.YtldofbkjjmnooaaGreat
