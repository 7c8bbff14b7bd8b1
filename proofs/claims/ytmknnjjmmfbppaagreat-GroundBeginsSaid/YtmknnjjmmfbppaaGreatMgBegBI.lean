/- Package queue: the iterator over the threads that a queue contains. -/
import Derived.Test.YtmknnjjmmfbppaaGreatMgBegBH
import Derived.Test.YtmknnjjmmfbppaaGreatMgBegBD
import Derived.Test.YtmknnjjmmfbppaaGreatMgBegAOb
import Derived.Test.YtmknnjjmmfbppaaGreatProg
import Derived.Test.YtmknnjjmmfbppaaGreatMgBegAG
import Derived.WalkKit
import Derived.StillTailTactics
import Derived.Deep.CutBlock
import Derived.Deep.RegionHeld3
import Derived.BigGuardPart
import Derived.WalkSpells
import Derived.OwnWalk
import Derived.Lib.Hide
namespace Go.Proofs.YtmknnjjmmfbppaaGreat
open Go.ChangeShapes Go.WideShapes Go.ChangeAt Go.RowKit Go.Shelf
set_option linter.unusedVariables false
set_option maxRecDepth 100000
set_option linter.unusedSimpArgs false
attribute [local go_sem] Oper.semAt_some
theorem idx_nodup : ∀ (l : List Int) (k : Nat) (t : Int), l.Nodup → l[k]? = some t → l.idxOf t = k
  | [], k, t, _, h => by simp at h
  | x :: l, 0, t, _, h => by
    simp at h
    subst h
    simp
  | x :: l, k + 1, t, hn, h => by
    have h1 : l[k]? = some t := by simpa using h
    have h2 := List.nodup_cons.1 hn
    have h3 : x ≠ t := fun e => h2.1 (e ▸ List.mem_of_getElem? h1)
    have hb : (x == t) = false := by rw [beq_eq_false_iff_ne]; exact h3
    rw [List.idxOf_cons, idx_nodup l k t h2.2 h1, hb]
    rfl
/-- the first of a row, as a thread -/
def hdT : List Int → Int
  | [] => -1
  | t :: _ => t
theorem hdT_head (l : List Int) : hdT l = headOf l - 1 := by
  cases l <;> simp [hdT, headOf]
theorem hdT_at {l : List Int} {k : Nat} {t : Int} (h : l[k]? = some t) : hdT (l.drop k) = t := by
  obtain ⟨hlt, e⟩ := List.getElem?_eq_some_iff.1 h
  rw [List.drop_eq_getElem_cons hlt, e]
  rfl
theorem idx_none : ∀ (l : List Int) (t : Int), t ∉ l → l.idxOf t = l.length
  | [], t, _ => rfl
  | x :: l, t, h => by
    have h1 : x ≠ t := fun e => h (by simp [e])
    have hb : (x == t) = false := by rw [beq_eq_false_iff_ne]; exact h1
    rw [List.idxOf_cons, idx_none l t (fun hh => h (by simp [hh])), hb]
    rfl
theorem idx_hd {l : List Int} {k b : Nat} (hn : l.Nodup) (h : ∀ u ∈ l, 0 ≤ u ∧ u < (b : Int)) (hk : k ≤ l.length) : l.idxOf (hdT (l.drop k)) = k := by
  by_cases hlt : k < l.length
  · have e : l[k]? = some l[k] := List.getElem?_eq_getElem hlt
    rw [hdT_at e]
    exact idx_nodup l k _ hn e
  · obtain rfl : k = l.length := by omega
    rw [List.drop_length]
    exact idx_none l _ (fun hh => by have := h _ hh; simp [hdT] at this)
/-- a chain of threads in the values of cells -/
structure Chain (mm : List Int) (m : Mp) (a : Nat) (l : List Int) : Prop where
  head : mm[a]? = some (headOf l)
  next : ∀ (k : Nat) t, l[k]? = some t → mm[nxN m t]? = some (headOf (l.drop (k + 1)))
  nodup : l.Nodup
  thr : ∀ t ∈ l, 0 ≤ t ∧ t < (m.t : Int)
theorem head_range {m : Mp} {l : List Int} (h : ∀ t ∈ l, 0 ≤ t ∧ t < (m.t : Int)) : 0 ≤ headOf l ∧ headOf l ≤ m.t := by
  cases l with
  | nil => simp [headOf]
  | cons t l => have := h t (by simp); simp [headOf]; omega
theorem marked_head {m : Mp} {l : List Int} (h : ∀ t ∈ l, 0 ≤ t ∧ t < (m.t : Int)) : markedS m (headOf l) = hdT l := by
  have := head_range h
  unfold markedS
  rw [if_neg (by omega), hdT_head]
def RowC (w : World) (g : Nat) (mm : List Int) : Prop := ∀ (i : Nat) c, mm[i]? = some c → w.cell? ⟨g, i, none⟩ = some (.int .u64 c)
theorem RowC.keep {w w1 : World} {F : Nat → Prop} {g : Nat} {mm : List Int} (h : RowC w g mm) (hk : Keep F w w1) (hn : ¬ F g) : RowC w1 g mm := fun i c hc => cell_keep6 (h i c hc) hk hn
theorem idx_u64 (len c B i : Nat) (h : i < len) : ∀ W, (Instr.indexAt 34 (.slice (some ⟨B, 0, none⟩) len c) (.int .i64 (i : Int))).run Tryz.prog W = .ok (.pointer (some ⟨B, i, none⟩)) W := by
  intro W
  go_simp
theorem nodup_len0 {k : Nat} {L : List Int} (hn : L.Nodup) (h : ∀ u ∈ L, 0 ≤ u ∧ u < (k : Int)) : L.length ≤ k := by
  induction k generalizing L with
  | zero =>
    cases L with
    | nil => simp
    | cons u L => have := h u (by simp); omega
  | succ k ih =>
    by_cases hk : (k : Int) ∈ L
    · have h1 := ih (L := L.erase (k : Int)) (hn.erase _) (fun u hu => by
        have h2 := (hn.mem_erase_iff).1 hu
        have := h u h2.2
        have h3 := h2.1
        omega)
      rw [List.length_erase_of_mem hk] at h1
      omega
    · have := ih hn (fun u hu => by
        have h1 := h u hu
        have h2 : u ≠ k := fun e => hk (e ▸ hu)
        omega)
      omega
set_option maxHeartbeats 4000000 in
theorem cont1_own (n : Nat) (hn : 1 ≤ n) (C a : Nat) (m : Mp) (mm l : List Int) (g cap Bl Bs : Nat) (Qb : Nat → Prop) (w : World) (hm : m.ok) (hc : Chain mm m a l) (hBl : Blk w Bl 163 (lineCs C a m)) (hBs : Blk w Bs 34 #[.slice (some ⟨g, 0, none⟩) mm.length cap]) (hg : RowC w g mm)
    (q1 : ¬ Qb Bl) (q2 : ¬ Qb Bs) (q3 : ¬ Qb g) (q4 : ¬ Qb (w.heap.size + 2)) : SeqOwnZ Fence.wide n Tryz.prog 163 #[pV Bl, pV Bs] (fun t : Int => #[.int .i64 t]) l Qb (fun i => i = w.heap.size + 2) w.heap.size w := by
  intro J W hW hsz hJ hY h0
  have hmm := @run_makeMap Tryz.prog
  have hro : Fence.wide.round = none := rfl
  have hBlt := hBl.lt
  have hBst := hBs.lt
  have hgt : g < w.heap.size := cell_lt6 (hg a _ hc.head)
  have HM := Lib.hid hm
  have HC := Lib.hid hc
  refine callsIn_of_wp Tryz.func163 rfl trivial ?_ hro
  simp only [Tryz.ntmps163, List.size_toArray, List.length_cons, List.length_nil, Nat.reduceAdd, Nat.reduceSub, Array.replicate_succ, Array.replicate_zero, List.push_toArray, List.append_toArray, List.nil_append, List.cons_append]
  gi_wp2
  generalize hV : (W.alloc _) = V
  have bV : Below W.heap.size W V := by rw [← hV]; go_grown
  have hSV : SetAt V (w.heap.size + 2) [] := by
    rw [← hV]
    have := SetAt.made W
    rw [hsz] at this
    exact this
  clear hV
  have kV : Keep (fun _ => False) w V := (Keep.ofBelow hW).trans (Keep.ofBelow bV)
  have lV := hBl.keep kV (fun h => h)
  have sV := hBs.keep kV (fun h => h)
  have gV := hg.keep kV (fun h => h)
  have jV := hJ _ _ _ h0 (Keep.ofBelow bV)
  clear hBl hBs hg h0
  have hr0 := head_range hc.thr
  have HMk := Lib.hid fun V => marked_any C a m (headOf l) V hm (by have := hm.t; omega)
  rw [marked_head hc.thr] at HMk
  have SK := Lib.hid (show ∀ A, Below V.heap.size V A → (A.cell? ⟨Bl, 0, none⟩ = some (cellsV C) ∧ A.cell? ⟨Bl, 1, none⟩ = some (.int .i64 (a : Int)) ∧ A.cell? ⟨Bl, 2, none⟩ = some (.int .i64 ((a : Int) + 1)) ∧ A.cell? ⟨Bl, 3, none⟩ = some (nextV m) ∧ A.cell? ⟨Bl, 4, none⟩ = some (.int .i64 (m.t : Int))) ∧ A.cell? ⟨Bs, 0, none⟩ = some (.slice (some ⟨g, 0, none⟩) mm.length cap) ∧ A.cell? ⟨g, a, none⟩ = some (.int .u64 (headOf l)) from fun A hA => ⟨lineE_of (lV.below hA lV.lt), (sV.below hA sV.lt).cell 0 _ rfl, gV.keep (Keep.ofBelow (Q := fun _ => False) hA) (fun h => h) a _ hc.head⟩)
  have bd := bdrewE V
  have halen : a < mm.length := (List.getElem?_eq_some_iff.1 hc.head).1
  have hix := idx_u64 mm.length cap g a halen
  refine wpIn_wide.2 ?_
  go_region_held3 (fun A => (A.cell? ⟨Bl, 0, none⟩ = some (cellsV C) ∧ A.cell? ⟨Bl, 1, none⟩ = some (.int .i64 (a : Int)) ∧ A.cell? ⟨Bl, 2, none⟩ = some (.int .i64 ((a : Int) + 1)) ∧ A.cell? ⟨Bl, 3, none⟩ = some (nextV m) ∧ A.cell? ⟨Bl, 4, none⟩ = some (.int .i64 (m.t : Int))) ∧ A.cell? ⟨Bs, 0, none⟩ = some (.slice (some ⟨g, 0, none⟩) mm.length cap) ∧ A.cell? ⟨g, a, none⟩ = some (.int .u64 (headOf l))) (first | exact SK.out _ b2 | exact SK.out _ bd) (first
    | (go_at_call 164; refine (HMk.out _).mono ?_; rintro e w2 ⟨rfl, hb2⟩; have b2 : Below V.heap.size V w2 := bd.trans hb2))
  have k2 : Keep (fun _ => False) V w2 := Keep.ofBelow b2
  have l2 := lV.keep k2 (fun h => h)
  have s2 := sV.keep k2 (fun h => h)
  have g2 := gV.keep k2 (fun h => h)
  have t2 := hSV.keep k2 (fun h => h)
  have j2 := hJ _ _ _ jV (Keep.ofBelow b2)
  clear lV sV gV hSV jV SK HMk hix kV bV b2 bd k2 hr0 hW hb2
  obtain ⟨mp, hmp⟩ : ∃ mp, mp = w.heap.size + 2 := ⟨_, rfl⟩
  have HMP := Lib.hid hmp
  rw [← hmp] at t2 hJ q4 ⊢
  clear hmp hsz
  gi_wp2
  gi_loopw [5] (fun v5 wr => ∃ k : Nat, k ≤ l.length ∧ v5 = .int .i64 (hdT (l.drop k)) ∧ J (l.take k) wr ∧ Blk wr Bl 163 (lineCs C a m) ∧ Blk wr Bs 34 #[.slice (some ⟨g, 0, none⟩) mm.length cap] ∧ RowC wr g mm ∧ SetAt wr mp (l.take k).reverse)
    (fun v5 wr => l.length - l.idxOf (intOf v5))
  case atStart => exact ⟨0, Nat.zero_le _, rfl, j2, l2, s2, g2, t2⟩
  case round =>
    clear l2 s2 g2 t2 j2
    obtain ⟨k, hk, rfl, hj, hl, hs, hgr, hset⟩ := hrel
    by_cases hlt : k < l.length
    · obtain ⟨t, ht⟩ : ∃ t, l[k]? = some t := ⟨_, List.getElem?_eq_getElem hlt⟩
      have hthr := hc.thr t (List.mem_of_getElem? ht)
      have hmt := hm.t
      have hub : -9223372036854775808 ≤ t ∧ t ≤ 9223372036854775807 := by omega
      have hnot : t ∉ (l.take k).reverse := by
        intro h
        have h1 : t ∈ l.take k := by simpa using h
        obtain ⟨i, hi, e⟩ := List.mem_take_iff_getElem.1 h1
        have e2 : l[i]? = some t := List.getElem?_eq_some_iff.2 ⟨by omega, e⟩
        have a1 := idx_nodup l i t hc.nodup e2
        have a2 := idx_nodup l k t hc.nodup ht
        omega
      have hlk := hset.look hub
      rw [show decide (t ∈ (l.take k).reverse) = false by simpa using hnot] at hlk
      rw [hdT_at ht]
      have e2 : (t == -1) = false := by
        rw [beq_eq_false_iff_ne]
        omega
      have e3 : (t != -1) = true := by rw [bne, e2]; rfl
      have hlen : (l.take k).length < l.length := by rw [List.length_take]; omega
      obtain ⟨fn, tmps, assign, body, hy, hR⟩ := hY (l.take k) t wr hj hlen (fun i hi => by have h1 := hset.lt; have h2 := HMP.out; omega)
      have HT := Lib.hid ht
      have HL := Lib.hid hl
      have HS := Lib.hid hs
      have HG := Lib.hid hgr
      have HSet := Lib.hid hset
      have HThr := Lib.hid hthr
      clear ht hl hs hgr hset hthr hnot hlen
      gi_wp2
      refine hR.mono ?_
      rintro e W3 ⟨rfl, hJ3, hk3⟩
      have hmp2 := HMP.out
      have nl : ¬ (Qb Bl ∨ (w.heap.size ≤ Bl ∧ Bl < w.heap.size + 2)) := fun h => h.elim q1 (fun h => by omega)
      have ns : ¬ (Qb Bs ∨ (w.heap.size ≤ Bs ∧ Bs < w.heap.size + 2)) := fun h => h.elim q2 (fun h => by omega)
      have ng : ¬ (Qb g ∨ (w.heap.size ≤ g ∧ g < w.heap.size + 2)) := fun h => h.elim q3 (fun h => by omega)
      have nm : ¬ (Qb mp ∨ (w.heap.size ≤ mp ∧ mp < w.heap.size + 2)) := fun h => h.elim q4 (fun h => by omega)
      have hl3 := HL.out.keep hk3 nl
      have hs3 := HS.out.keep hk3 ns
      have hg3 := HG.out.keep hk3 ng
      have ht3 := HSet.out.keep hk3 nm
      have hlm := nodup_len0 hc.nodup hc.thr
      obtain ⟨w5, hup, hs5, hg5⟩ := ht3.put hub (by rw [List.length_reverse, List.length_take]; unfold maxLen; omega)
      have k5 : Keep (fun i => i = mp) W3 w5 := ⟨hg5.os, hg5.tape, hg5.output, hg5.size, fun k hk hn => hg5.block k hk (fun e => hn (by injection e))⟩
      have hl5 := hl3.keep k5 (by omega)
      have hsl5 := hs3.keep k5 (by omega)
      have hgr5 := hg3.keep k5 (by omega)
      have hj5 := hJ _ _ _ hJ3 k5
      clear hl3 hs3 hg3 ht3 hJ3 hk3 hg5 hlk nl ns ng nm hmp2 hlm
      gi_wp2
      clear hup
      have hnx := hc.next k t HT.out
      have hnl : nxN m t < mm.length := (List.getElem?_eq_some_iff.1 hnx).1
      have hthr2 : ∀ z ∈ l.drop (k + 1), 0 ≤ z ∧ z < (m.t : Int) := fun z hz => hc.thr z (List.mem_of_mem_drop hz)
      have hr0 := head_range hthr2
      have HMk := Lib.hid fun V => marked_any C a m (headOf (l.drop (k + 1))) V hm (by omega)
      rw [marked_head hthr2] at HMk
      have HNx := Lib.hid fun V => next_any m t V hm HThr.out
      have SK := Lib.hid (show ∀ A, Below w5.heap.size w5 A → (A.cell? ⟨Bl, 0, none⟩ = some (cellsV C) ∧ A.cell? ⟨Bl, 1, none⟩ = some (.int .i64 (a : Int)) ∧ A.cell? ⟨Bl, 2, none⟩ = some (.int .i64 ((a : Int) + 1)) ∧ A.cell? ⟨Bl, 3, none⟩ = some (nextV m) ∧ A.cell? ⟨Bl, 4, none⟩ = some (.int .i64 (m.t : Int))) ∧ A.cell? ⟨Bs, 0, none⟩ = some (.slice (some ⟨g, 0, none⟩) mm.length cap) ∧ A.cell? ⟨g, nxN m t, none⟩ = some (.int .u64 (headOf (l.drop (k + 1)))) from fun A hA => ⟨lineE_of (hl5.below hA hl5.lt), (hsl5.below hA hsl5.lt).cell 0 _ rfl, hgr5.keep (Keep.ofBelow (Q := fun _ => False) hA) (fun h => h) _ _ hnx⟩)
      have bd := bdrewE w5
      have hix := idx_u64 mm.length cap g (nxN m t) hnl
      clear hnx hnl hthr2 hr0 hub e2 e3 hmt
      refine wpIn_wide.2 ?_
      go_region_held3 (fun A => (A.cell? ⟨Bl, 0, none⟩ = some (cellsV C) ∧ A.cell? ⟨Bl, 1, none⟩ = some (.int .i64 (a : Int)) ∧ A.cell? ⟨Bl, 2, none⟩ = some (.int .i64 ((a : Int) + 1)) ∧ A.cell? ⟨Bl, 3, none⟩ = some (nextV m) ∧ A.cell? ⟨Bl, 4, none⟩ = some (.int .i64 (m.t : Int))) ∧ A.cell? ⟨Bs, 0, none⟩ = some (.slice (some ⟨g, 0, none⟩) mm.length cap) ∧ A.cell? ⟨g, nxN m t, none⟩ = some (.int .u64 (headOf (l.drop (k + 1))))) (first | exact SK.out _ b7 | exact SK.out _ b6 | exact SK.out _ bd) (first
        | (go_at_call 162; refine (HNx.out _).mono ?_; rintro e w6 ⟨rfl, hb6⟩; have b6 : Below w5.heap.size w5 w6 := bd.trans hb6)
        | (go_at_call 164; refine (HMk.out _).mono ?_; rintro e w7 ⟨rfl, hb7⟩; have b7 : Below w5.heap.size w5 w7 := b6.trans (hb7.mono b6.size)))
      have k7 : Keep (fun _ => False) w5 w7 := Keep.ofBelow b7
      have hi2 := idx_hd hc.nodup hc.thr (k := k + 1) (by omega)
      have hi1 := idx_nodup l k t hc.nodup HT.out
      have htk := take_snoc_w HT.out
      clear hix bd
      go_roundw
      case rel =>
        refine ⟨_, _, _, _, _, _, _, _, _, _, _, _, _, _, _, _, _, _, _, _, _, _, _, _, ?_, rfl⟩
        exact ⟨k + 1, by omega, rfl, by rw [htk]; exact hJ _ _ _ hj5 (Keep.ofBelow b7), hl5.keep k7 (fun h => h), hsl5.keep k7 (fun h => h), hgr5.keep k7 (fun h => h), by rw [htk, List.reverse_append]; exact hs5.keep k7 (fun h => h)⟩
      case measure =>
        show l.length - l.idxOf (hdT (l.drop (k + 1))) < l.length - l.idxOf t
        rw [hi1, hi2]
        omega
    · obtain rfl : k = l.length := by omega
      rw [List.drop_length, show hdT [] = -1 from rfl]
      rw [List.take_length] at hj
      have HJ := Lib.hid hj
      clear hj hset hgr hs hl
      gi_wp2
      go_end0
      exact ⟨⟨_, rfl⟩, HJ.out⟩
end Go.Proofs.YtmknnjjmmfbppaaGreat
/- The document's queues (doorkeeperref10): what they are in memory; In. -/
namespace Go.Proofs.YtmknnjjmmfbppaaGreat
open Go.ChangeShapes Go.WideShapes Go.ChangeAt Go.RowKit
set_option linter.unusedVariables false
set_option maxRecDepth 100000
set_option linter.unusedSimpArgs false
abbrev qV (T : Nat) : Value := .pointer (some ⟨T, 0, none⟩)
theorem qcell_keep {w w1 : World} {F : Nat → Prop} {p : Addr} {v : Value} (h : w.cell? p = some v) (hk : Keep F w w1) (hn : ¬ F p.block) : w1.cell? p = some v := by
  have hb : p.block < w.heap.size := by
    unfold World.cell? at h
    cases hb : w.heap[p.block]? with
    | none => rw [hb] at h; cases h
    | some y => exact (Array.getElem?_eq_some_iff.1 hb).1
  unfold World.cell? at h ⊢
  rw [hk.block p.block hb hn]
  exact h
/-- a row of numbers that is read, of blocks of which N is said -/
def RowN (w : World) (N : Nat → Prop) (v : Value) (l : List Int) : Prop :=
  ∃ a c, v = .slice a l.length c ∧ l.length ≤ c ∧ ∀ (i : Nat) x, l[i]? = some x → ∃ b o, a = some ⟨b, o, none⟩ ∧ N b ∧ b < w.heap.size ∧ w.cell? ⟨b, o + i, none⟩ = some (.int .i64 x)
theorem RowN.keep {w w1 : World} {N F : Nat → Prop} {v : Value} {l : List Int} (h : RowN w N v l) (hk : Keep F w w1) (hF : ∀ b, N b → ¬ F b) : RowN w1 N v l := by
  obtain ⟨a, c, e, hc, h⟩ := h
  refine ⟨a, c, e, hc, fun i x hx => ?_⟩
  obtain ⟨b, o, e, hN, hl, hc⟩ := h i x hx
  exact ⟨b, o, e, hN, Nat.lt_of_lt_of_le hl hk.size, qcell_keep hc hk (hF b hN)⟩
theorem RowN.mono {w : World} {N N' : Nat → Prop} {v : Value} {l : List Int} (h : RowN w N v l) (hN : ∀ b, N b → N' b) : RowN w N' v l := by
  obtain ⟨a, c, e, hc, h⟩ := h
  refine ⟨a, c, e, hc, fun i x hx => ?_⟩
  obtain ⟨b, o, e, h1, hl, hc⟩ := h i x hx
  exact ⟨b, o, e, hN b h1, hl, hc⟩
theorem idx_qints (len c B o i : Nat) (h : i < len) : ∀ W, (Instr.indexAt 23 (.slice (some ⟨B, o, none⟩) len c) (.int .i64 (i : Int))).run Tryz.prog W = .ok (.pointer (some ⟨B, o + i, none⟩)) W := by
  intro W
  go_simp
theorem not_in_next {l : List Int} {k : Nat} {x t : Int} (hx : l[k]? = some x) (h : ∀ y ∈ l.take k, y ≠ t) (hn : x ≠ t) : ∀ y ∈ l.take (k + 1), y ≠ t := by
  intro y hy
  rw [List.take_add_one, hx] at hy
  rcases List.mem_append.1 hy with hy | hy
  · exact h y hy
  · simp at hy; subst hy; exact hn
end Go.Proofs.YtmknnjjmmfbppaaGreat
