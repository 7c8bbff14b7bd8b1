/- Package queue: the iterator over the threads that a queue contains. -/
import Derived.Test.YtldofbkjjmnooaaGreatMgQTLI
import Derived.Test.YtldofbkjjmnooaaGreatMgQTLF
import Derived.Test.YtldofbkjjmnooaaGreatMgQTLJ
import Derived.Test.YtldofbkjjmnooaaGreatMgQTLA
namespace Go.Proofs.YtldofbkjjmnooaaGreat
open Go.ChangeShapes Go.WideShapes Go.ChangeAt Go.RowKit Go.Shelf
set_option linter.unusedVariables false
set_option maxRecDepth 100000
set_option linter.unusedSimpArgs false
attribute [local go_sem] Oper.semAt_some
theorem idx_nodup : ∀ (l : List Int) (k : Nat) (t : Int), l.Nodup → l[k]? = some t → l.idxOf t = k
  | [], k, t, _, h => by simp at h
  | x :: l, 0, t, _, h => by
    simp at h
    subst h
    simp
  | x :: l, k + 1, t, hn, h => by
    have h1 : l[k]? = some t := by simpa using h
    have h2 := List.nodup_cons.1 hn
    have h3 : x ≠ t := fun e => h2.1 (e ▸ List.mem_of_getElem? h1)
    have hb : (x == t) = false := by rw [beq_eq_false_iff_ne]; exact h3
    rw [List.idxOf_cons, idx_nodup l k t h2.2 h1, hb]
    rfl
/-- the first of a row, as a thread -/
def hdT : List Int → Int
  | [] => -1
  | t :: _ => t
theorem hdT_head (l : List Int) : hdT l = headOf l - 1 := by
  cases l <;> simp [hdT, headOf]
theorem hdT_at {l : List Int} {k : Nat} {t : Int} (h : l[k]? = some t) : hdT (l.drop k) = t := by
  obtain ⟨hlt, e⟩ := List.getElem?_eq_some_iff.1 h
  rw [List.drop_eq_getElem_cons hlt, e]
  rfl
theorem idx_none : ∀ (l : List Int) (t : Int), t ∉ l → l.idxOf t = l.length
  | [], t, _ => rfl
  | x :: l, t, h => by
    have h1 : x ≠ t := fun e => h (by simp [e])
    have hb : (x == t) = false := by rw [beq_eq_false_iff_ne]; exact h1
    rw [List.idxOf_cons, idx_none l t (fun hh => h (by simp [hh])), hb]
    rfl
theorem idx_hd {l : List Int} {k b : Nat} (hn : l.Nodup) (h : ∀ u ∈ l, 0 ≤ u ∧ u < (b : Int)) (hk : k ≤ l.length) : l.idxOf (hdT (l.drop k)) = k := by
  by_cases hlt : k < l.length
  · have e : l[k]? = some l[k] := List.getElem?_eq_getElem hlt
    rw [hdT_at e]
    exact idx_nodup l k _ hn e
  · obtain rfl : k = l.length := by omega
    rw [List.drop_length]
    exact idx_none l _ (fun hh => by have := h _ hh; simp [hdT] at this)
/-- a chain of threads in the values of cells -/
structure Chain (mm : List Int) (m : Mp) (a : Nat) (l : List Int) : Prop where
  head : mm[a]? = some (headOf l)
  next : ∀ (k : Nat) t, l[k]? = some t → mm[nxN m t]? = some (headOf (l.drop (k + 1)))
  nodup : l.Nodup
  thr : ∀ t ∈ l, 0 ≤ t ∧ t < (m.t : Int)
theorem head_range {m : Mp} {l : List Int} (h : ∀ t ∈ l, 0 ≤ t ∧ t < (m.t : Int)) : 0 ≤ headOf l ∧ headOf l ≤ m.t := by
  cases l with
  | nil => simp [headOf]
  | cons t l => have := h t (by simp); simp [headOf]; omega
theorem marked_head {m : Mp} {l : List Int} (h : ∀ t ∈ l, 0 ≤ t ∧ t < (m.t : Int)) : markedS m (headOf l) = hdT l := by
  have := head_range h
  unfold markedS
  rw [if_neg (by omega), hdT_head]
def RowC (w : World) (g : Nat) (mm : List Int) : Prop := ∀ (i : Nat) c, mm[i]? = some c → w.cell? ⟨g, i, none⟩ = some (.int .u64 c)
theorem RowC.keep {w w1 : World} {F : Nat → Prop} {g : Nat} {mm : List Int} (h : RowC w g mm) (hk : Keep F w w1) (hn : ¬ F g) : RowC w1 g mm := fun i c hc => cell_keep6 (h i c hc) hk hn
theorem idx_u64 (len c B i : Nat) (h : i < len) : ∀ W, (Instr.indexAt 38 (.slice (some ⟨B, 0, none⟩) len c) (.int .i64 (i : Int))).run Tryz.prog W = .ok (.pointer (some ⟨B, i, none⟩)) W := by
  intro W
  go_simp
theorem nodup_len0 {k : Nat} {L : List Int} (hn : L.Nodup) (h : ∀ u ∈ L, 0 ≤ u ∧ u < (k : Int)) : L.length ≤ k := by
  induction k generalizing L with
  | zero =>
    cases L with
    | nil => simp
    | cons u L => have := h u (by simp); omega
  | succ k ih =>
    by_cases hk : (k : Int) ∈ L
    · have h1 := ih (L := L.erase (k : Int)) (hn.erase _) (fun u hu => by
        have h2 := (hn.mem_erase_iff).1 hu
        have := h u h2.2
        have h3 := h2.1
        omega)
      rw [List.length_erase_of_mem hk] at h1
      omega
    · have := ih hn (fun u hu => by
        have h1 := h u hu
        have h2 : u ≠ k := fun e => hk (e ▸ hu)
        omega)
      omega
set_option maxHeartbeats 4000000 in
theorem cont1_own (n : Nat) (hn : 1 ≤ n) (C a : Nat) (m : Mp) (mm l : List Int) (g cap Bl Bs : Nat) (Qb : Nat → Prop) (w : World) (hm : m.ok) (hc : Chain mm m a l) (hBl : Blk w Bl 153 (lineCs C a m)) (hBs : Blk w Bs 38 #[.slice (some ⟨g, 0, none⟩) mm.length cap]) (hg : RowC w g mm)
    (q1 : ¬ Qb Bl) (q2 : ¬ Qb Bs) (q3 : ¬ Qb g) (q4 : ¬ Qb (w.heap.size + 2)) : SeqOwnZ Fence.wide n Tryz.prog 189 #[pV Bl, pV Bs] (fun t : Int => #[.int .i64 t]) l Qb (fun i => i = w.heap.size + 2) w.heap.size w := by
  intro J W hW hsz hJ hY h0
  have hmm := @run_makeMap Tryz.prog
  have hro : Fence.wide.round = none := rfl
  have hBlt := hBl.lt
  have hBst := hBs.lt
  have hgt : g < w.heap.size := cell_lt6 (hg a _ hc.head)
  have HM := Lib.hid hm
  have HC := Lib.hid hc
  refine callsIn_of_wp Tryz.func189 rfl trivial ?_ hro
  simp only [Tryz.ntmps189, List.size_toArray, List.length_cons, List.length_nil, Nat.reduceAdd, Nat.reduceSub, Array.replicate_succ, Array.replicate_zero, List.push_toArray, List.append_toArray, List.nil_append, List.cons_append]
  gi_wp2
  generalize hV : (W.alloc _) = V
  have bV : Below W.heap.size W V := by rw [← hV]; go_grown
  have hSV : SetAt V (w.heap.size + 2) [] := by
    rw [← hV]
    have := SetAt.made W
    rw [hsz] at this
    exact this
  clear hV
  have kV : Keep (fun _ => False) w V := (Keep.ofBelow hW).trans (Keep.ofBelow bV)
  have lV := hBl.keep kV (fun h => h)
  have sV := hBs.keep kV (fun h => h)
  have gV := hg.keep kV (fun h => h)
  have jV := hJ _ _ _ h0 (Keep.ofBelow bV)
  clear hBl hBs hg h0
  have hr0 := head_range hc.thr
  have HMk := Lib.hid fun V => marked_any C a m (headOf l) V hm (by have := hm.t; omega)
  rw [marked_head hc.thr] at HMk
  have SK := Lib.hid (show ∀ A, Below V.heap.size V A → (A.cell? ⟨Bl, 0, none⟩ = some (cellsV C) ∧ A.cell? ⟨Bl, 1, none⟩ = some (.int .i64 (a : Int)) ∧ A.cell? ⟨Bl, 2, none⟩ = some (.int .i64 ((a : Int) + 1)) ∧ A.cell? ⟨Bl, 3, none⟩ = some (nextV m) ∧ A.cell? ⟨Bl, 4, none⟩ = some (.int .i64 (m.t : Int))) ∧ A.cell? ⟨Bs, 0, none⟩ = some (.slice (some ⟨g, 0, none⟩) mm.length cap) ∧ A.cell? ⟨g, a, none⟩ = some (.int .u64 (headOf l)) from fun A hA => ⟨lineE_of (lV.below hA lV.lt), (sV.below hA sV.lt).cell 0 _ rfl, gV.keep (Keep.ofBelow (Q := fun _ => False) hA) (fun h => h) a _ hc.head⟩)
  have bd := bdrewE V
  have halen : a < mm.length := (List.getElem?_eq_some_iff.1 hc.head).1
  have hix := idx_u64 mm.length cap g a halen
  refine wpIn_wide.2 ?_
  go_region_held3 (fun A => (A.cell? ⟨Bl, 0, none⟩ = some (cellsV C) ∧ A.cell? ⟨Bl, 1, none⟩ = some (.int .i64 (a : Int)) ∧ A.cell? ⟨Bl, 2, none⟩ = some (.int .i64 ((a : Int) + 1)) ∧ A.cell? ⟨Bl, 3, none⟩ = some (nextV m) ∧ A.cell? ⟨Bl, 4, none⟩ = some (.int .i64 (m.t : Int))) ∧ A.cell? ⟨Bs, 0, none⟩ = some (.slice (some ⟨g, 0, none⟩) mm.length cap) ∧ A.cell? ⟨g, a, none⟩ = some (.int .u64 (headOf l))) (first | exact SK.out _ b2 | exact SK.out _ bd) (first
    | (go_at_call 190; refine (HMk.out _).mono ?_; rintro e w2 ⟨rfl, hb2⟩; have b2 : Below V.heap.size V w2 := bd.trans hb2))
  have k2 : Keep (fun _ => False) V w2 := Keep.ofBelow b2
  have l2 := lV.keep k2 (fun h => h)
  have s2 := sV.keep k2 (fun h => h)
  have g2 := gV.keep k2 (fun h => h)
  have t2 := hSV.keep k2 (fun h => h)
  have j2 := hJ _ _ _ jV (Keep.ofBelow b2)
  clear lV sV gV hSV jV SK HMk hix kV bV b2 bd k2 hr0 hW hb2
  obtain ⟨mp, hmp⟩ : ∃ mp, mp = w.heap.size + 2 := ⟨_, rfl⟩
  have HMP := Lib.hid hmp
  rw [← hmp] at t2 hJ q4 ⊢
  clear hmp hsz
  gi_wp2
  gi_loopw [5] (fun v5 wr => ∃ k : Nat, k ≤ l.length ∧ v5 = .int .i64 (hdT (l.drop k)) ∧ J (l.take k) wr ∧ Blk wr Bl 153 (lineCs C a m) ∧ Blk wr Bs 38 #[.slice (some ⟨g, 0, none⟩) mm.length cap] ∧ RowC wr g mm ∧ SetAt wr mp (l.take k).reverse)
    (fun v5 wr => l.length - l.idxOf (intOf v5))
  case atStart => exact ⟨0, Nat.zero_le _, rfl, j2, l2, s2, g2, t2⟩
  case round =>
    clear l2 s2 g2 t2 j2
    obtain ⟨k, hk, rfl, hj, hl, hs, hgr, hset⟩ := hrel
    by_cases hlt : k < l.length
    · obtain ⟨t, ht⟩ : ∃ t, l[k]? = some t := ⟨_, List.getElem?_eq_getElem hlt⟩
      have hthr := hc.thr t (List.mem_of_getElem? ht)
      have hmt := hm.t
      have hub : -9223372036854775808 ≤ t ∧ t ≤ 9223372036854775807 := by omega
      have hnot : t ∉ (l.take k).reverse := by
        intro h
        have h1 : t ∈ l.take k := by simpa using h
        obtain ⟨i, hi, e⟩ := List.mem_take_iff_getElem.1 h1
        have e2 : l[i]? = some t := List.getElem?_eq_some_iff.2 ⟨by omega, e⟩
        have a1 := idx_nodup l i t hc.nodup e2
        have a2 := idx_nodup l k t hc.nodup ht
        omega
      have hlk := hset.look hub
      rw [show decide (t ∈ (l.take k).reverse) = false by simpa using hnot] at hlk
      rw [hdT_at ht]
      have e2 : (t == -1) = false := by
        rw [beq_eq_false_iff_ne]
        omega
      have e3 : (t != -1) = true := by rw [bne, e2]; rfl
      have hlen : (l.take k).length < l.length := by rw [List.length_take]; omega
      obtain ⟨fn, tmps, assign, body, hy, hR⟩ := hY (l.take k) t wr hj hlen (fun i hi => by have h1 := hset.lt; have h2 := HMP.out; omega)
      have HT := Lib.hid ht
      have HL := Lib.hid hl
      have HS := Lib.hid hs
      have HG := Lib.hid hgr
      have HSet := Lib.hid hset
      have HThr := Lib.hid hthr
      clear ht hl hs hgr hset hthr hnot hlen
      gi_wp2
      refine hR.mono ?_
      rintro e W3 ⟨rfl, hJ3, hk3⟩
      have hmp2 := HMP.out
      have nl : ¬ (Qb Bl ∨ (w.heap.size ≤ Bl ∧ Bl < w.heap.size + 2)) := fun h => h.elim q1 (fun h => by omega)
      have ns : ¬ (Qb Bs ∨ (w.heap.size ≤ Bs ∧ Bs < w.heap.size + 2)) := fun h => h.elim q2 (fun h => by omega)
      have ng : ¬ (Qb g ∨ (w.heap.size ≤ g ∧ g < w.heap.size + 2)) := fun h => h.elim q3 (fun h => by omega)
      have nm : ¬ (Qb mp ∨ (w.heap.size ≤ mp ∧ mp < w.heap.size + 2)) := fun h => h.elim q4 (fun h => by omega)
      have hl3 := HL.out.keep hk3 nl
      have hs3 := HS.out.keep hk3 ns
      have hg3 := HG.out.keep hk3 ng
      have ht3 := HSet.out.keep hk3 nm
      have hlm := nodup_len0 hc.nodup hc.thr
      obtain ⟨w5, hup, hs5, hg5⟩ := ht3.put hub (by rw [List.length_reverse, List.length_take]; unfold maxLen; omega)
      have k5 : Keep (fun i => i = mp) W3 w5 := ⟨hg5.os, hg5.tape, hg5.output, hg5.size, fun k hk hn => hg5.block k hk (fun e => hn (by injection e))⟩
      have hl5 := hl3.keep k5 (by omega)
      have hsl5 := hs3.keep k5 (by omega)
      have hgr5 := hg3.keep k5 (by omega)
      have hj5 := hJ _ _ _ hJ3 k5
      clear hl3 hs3 hg3 ht3 hJ3 hk3 hg5 hlk nl ns ng nm hmp2 hlm
      gi_wp2
      clear hup
      have hnx := hc.next k t HT.out
      have hnl : nxN m t < mm.length := (List.getElem?_eq_some_iff.1 hnx).1
      have hthr2 : ∀ z ∈ l.drop (k + 1), 0 ≤ z ∧ z < (m.t : Int) := fun z hz => hc.thr z (List.mem_of_mem_drop hz)
      have hr0 := head_range hthr2
      have HMk := Lib.hid fun V => marked_any C a m (headOf (l.drop (k + 1))) V hm (by omega)
      rw [marked_head hthr2] at HMk
      have HNx := Lib.hid fun V => next_any m t V hm HThr.out
      have SK := Lib.hid (show ∀ A, Below w5.heap.size w5 A → (A.cell? ⟨Bl, 0, none⟩ = some (cellsV C) ∧ A.cell? ⟨Bl, 1, none⟩ = some (.int .i64 (a : Int)) ∧ A.cell? ⟨Bl, 2, none⟩ = some (.int .i64 ((a : Int) + 1)) ∧ A.cell? ⟨Bl, 3, none⟩ = some (nextV m) ∧ A.cell? ⟨Bl, 4, none⟩ = some (.int .i64 (m.t : Int))) ∧ A.cell? ⟨Bs, 0, none⟩ = some (.slice (some ⟨g, 0, none⟩) mm.length cap) ∧ A.cell? ⟨g, nxN m t, none⟩ = some (.int .u64 (headOf (l.drop (k + 1)))) from fun A hA => ⟨lineE_of (hl5.below hA hl5.lt), (hsl5.below hA hsl5.lt).cell 0 _ rfl, hgr5.keep (Keep.ofBelow (Q := fun _ => False) hA) (fun h => h) _ _ hnx⟩)
      have bd := bdrewE w5
      have hix := idx_u64 mm.length cap g (nxN m t) hnl
      clear hnx hnl hthr2 hr0 hub e2 e3 hmt
      refine wpIn_wide.2 ?_
      go_region_held3 (fun A => (A.cell? ⟨Bl, 0, none⟩ = some (cellsV C) ∧ A.cell? ⟨Bl, 1, none⟩ = some (.int .i64 (a : Int)) ∧ A.cell? ⟨Bl, 2, none⟩ = some (.int .i64 ((a : Int) + 1)) ∧ A.cell? ⟨Bl, 3, none⟩ = some (nextV m) ∧ A.cell? ⟨Bl, 4, none⟩ = some (.int .i64 (m.t : Int))) ∧ A.cell? ⟨Bs, 0, none⟩ = some (.slice (some ⟨g, 0, none⟩) mm.length cap) ∧ A.cell? ⟨g, nxN m t, none⟩ = some (.int .u64 (headOf (l.drop (k + 1))))) (first | exact SK.out _ b7 | exact SK.out _ b6 | exact SK.out _ bd) (first
        | (go_at_call 30; refine (HNx.out _).mono ?_; rintro e w6 ⟨rfl, hb6⟩; have b6 : Below w5.heap.size w5 w6 := bd.trans hb6)
        | (go_at_call 190; refine (HMk.out _).mono ?_; rintro e w7 ⟨rfl, hb7⟩; have b7 : Below w5.heap.size w5 w7 := b6.trans (hb7.mono b6.size)))
      have k7 : Keep (fun _ => False) w5 w7 := Keep.ofBelow b7
      have hi2 := idx_hd hc.nodup hc.thr (k := k + 1) (by omega)
      have hi1 := idx_nodup l k t hc.nodup HT.out
      have htk := take_snoc_w HT.out
      clear hix bd
      go_roundw
      case rel =>
        refine ⟨_, _, _, _, _, _, _, _, _, _, _, _, _, _, _, _, _, _, _, _, _, _, _, _, ?_, rfl⟩
        exact ⟨k + 1, by omega, rfl, by rw [htk]; exact hJ _ _ _ hj5 (Keep.ofBelow b7), hl5.keep k7 (fun h => h), hsl5.keep k7 (fun h => h), hgr5.keep k7 (fun h => h), by rw [htk, List.reverse_append]; exact hs5.keep k7 (fun h => h)⟩
      case measure =>
        show l.length - l.idxOf (hdT (l.drop (k + 1))) < l.length - l.idxOf t
        rw [hi1, hi2]
        omega
    · obtain rfl : k = l.length := by omega
      rw [List.drop_length, show hdT [] = -1 from rfl]
      rw [List.take_length] at hj
      have HJ := Lib.hid hj
      clear hj hset hgr hs hl
      gi_wp2
      go_end0
      exact ⟨⟨_, rfl⟩, HJ.out⟩
end Go.Proofs.YtldofbkjjmnooaaGreat
/- Package queue: Look. -/
namespace Go.Proofs.YtldofbkjjmnooaaGreat
open Go.ChangeShapes Go.WideShapes Go.ChangeAt Go.RowKit Go.Shelf
set_option linter.unusedVariables false
set_option maxRecDepth 100000
set_option linter.unusedSimpArgs false
attribute [local go_sem] Oper.semAt_some
theorem own_keepL {w w' : World} {B size n : Nat} {e : TypeId} {v : Value} {xs : List Value} {F : Nat → Prop} (h : w.ownsRow B e size v n xs) (hk : Keep F w w') (hQ : ∀ g, B ≤ g → v.ownBlock = some g → ¬ F g) : w'.ownsRow B e size v n xs := by
  refine ⟨h.1, ?_⟩
  rcases h.2 with h | ⟨g, cap, cur, hv, hg, hh, r⟩
  · exact .inl h
  · exact .inr ⟨g, cap, cur, hv, hg, (hk.block g (Array.getElem?_eq_some_iff.1 hh).1 (hQ g hg (by rw [hv]; rfl))).trans hh, r⟩
theorem cont_any (C a : Nat) (m : Mp) (sv : Value) (w : World) (hs : ∃ g n cap, sv = .slice (some ⟨g, 0, none⟩) n cap) :
    Calls Tryz.prog 107 #[lineV C a m, sv] w fun e w' => e = .returned (cloV 189 #[pV w.heap.size, pV (w.heap.size + 1)]) ∧ w' = (w.alloc (.cells (lineCs C a m) 153)).alloc (.cells #[sv] 38) := by
  have hmf : ∀ (fn : Fn) (first cap : Array Value) (w : World), (Instr.makeFunc fn first cap).run Tryz.prog w = .ok (.func fn first cap) w := fun _ _ _ _ => rfl
  obtain ⟨g, n, cap, rfl⟩ := hs
  go_enter Tryz.func107, Tryz.ntmps107
  go_wp2
  go_ret
  exact ⟨rfl, rfl⟩
theorem int_info : ∃ i, Tryz.prog.info? 3 = some i ∧ i.zero = some (.int .i64 0) ∧ i.size = 1 ∧ i.bytes = 8 := by
  have h : (Tryz.prog.info? 3).map (fun i => (i.zero, i.size, i.bytes)) = some (some (.int .i64 0), 1, 8) := by kernel_rfl
  cases hi : Tryz.prog.info? 3 with
  | none => rw [hi] at h; cases h
  | some i =>
    rw [hi] at h
    simp at h
    exact ⟨i, rfl, h.1, h.2.1, h.2.2⟩
theorem allR_any (C S : Nat) (mm : List Int) (k0 : Int) (w : World) (hC : CellsAt w C S mm k0) (hm : mm ≠ []) :
    Calls Tryz.prog 17 #[cellsV C] w fun e w' => ∃ g cap, e = .returned (.slice (some ⟨g, 0, none⟩) mm.length cap) ∧ RowC w' g mm ∧ w.heap.size ≤ g ∧ g < w'.heap.size ∧ Below w.heap.size w w' := by
  refine (all_any C S mm k0 w hC).mono ?_
  rintro e w' ⟨u, rfl, hb, hrow⟩
  rcases id hrow.2 with ⟨rfl, h0⟩ | ⟨g, cap, cur, rfl, h1, h2, _⟩
  · exfalso
    have : mm.length = 0 := by simpa using h0
    exact hm (List.length_eq_zero_iff.1 this)
  · refine ⟨g, cap, rfl, fun i c hc => ?_, h1, (Array.getElem?_eq_some_iff.1 h2).1, hb⟩
    have := hrow.cells (g := g) rfl i (.int .u64 c) (by rw [List.getElem?_map, hc]; rfl)
    rw [addr_add, Nat.zero_add] at this
    exact this
set_option maxHeartbeats 4000000 in
theorem look_in (n : Nat) (hn : 3 ≤ n) (C S a : Nat) (m : Mp) (mm l : List Int) (k0 : Int) (w : World) (hm : m.ok) (hC : CellsAt w C S mm k0) (hc : Chain mm m a l) (hf : fitS m mm.length a = true) (ha : a ≤ 100000000) (hmm0 : mm ≠ []) :
    CallsIn Fence.wide n Tryz.prog 29 #[cellsV C, mapV m, .int .i64 (a : Int)] w fun e w' => ∃ v, e = .returned v ∧ RowN w' (fun b => w.heap.size ≤ b) v l ∧ Below w.heap.size w w' := by
  have h1 : 1 ≤ n := by omega
  have h1' : 1 ≤ n - 1 - 1 := by omega
  have hro : Fence.wide.round = none := rfl
  obtain ⟨i0, hi, hz0, hz1, hz2'⟩ := int_info
  have hfew := hC.few
  have HA := Lib.hid fun W (hW : Below w.heap.size w W) => allR_any C S mm k0 W (hC.keep (Keep.ofBelow (Q := fun _ => False) hW) (fun h => h) (fun h => h)) hmm0
  have HR := Lib.hid fun W => qright_none m mm.length a W hm ⟨by omega, by omega⟩
  rw [hf] at HR
  have HX := Lib.hid fun W => lineAt_any C a m W ha
  have HM := Lib.hid hm
  have HC := Lib.hid hc
  clear hC hf hm hc
  refine callsIn_of_wp_marks Tryz.func29 rfl trivial ?_ hro
  simp only [Tryz.ntmps29, List.size_toArray, List.length_cons, List.length_nil, Nat.reduceAdd, Nat.reduceSub, Array.replicate_succ, Array.replicate_zero, List.push_toArray, List.append_toArray, List.nil_append, List.cons_append]
  gi_wp2
  generalize hW : (w.alloc _) = W
  have bW : Below w.heap.size w W := by rw [← hW]; go_grown
  have m0 : Blk W w.heap.size 24 #[.int .i64 (m.t : Int), .int .i64 (m.o : Int), .int .i64 (m.n : Int)] := by rw [← hW]; exact Blk.new w _ _
  clear hW
  have HA2 := Lib.hid (HA.out W bW)
  clear HA
  gi_wp2_with (first
    | (refine ⟨trivial, ?_⟩; gi_at_call 17; refine (callsIn_wide.2 HA2.out).mono ?_; rintro e w2 ⟨g, cap, rfl, hg, hg1, hg2, hb2⟩; have m2 := m0.below hb2 m0.lt; have c0 := m2.cell 0 _ rfl; have c1 := m2.cell 1 _ rfl; have c2 := m2.cell 2 _ rfl)
    | (refine ⟨trivial, ?_⟩; gi_at_call 100; refine (callsIn_wide.2 (HR.out _)).mono ?_; rintro e w3 ⟨rfl, hb3⟩; clear c0 c1 c2; have m3 := m2.below hb3 m2.lt; have m4 := m3.alloc (.cells #[.slice none 0 0] 37); have c0 := m4.cell 0 _ rfl; have c1 := m4.cell 1 _ rfl; have c2 := m4.cell 2 _ rfl)
    | (refine ⟨trivial, ?_⟩; gi_at_call 103; refine (callsIn_wide.2 (HX.out _)).mono ?_; rintro e w4 ⟨rfl, hb4⟩)
    | (refine ⟨trivial, ?_⟩; gi_at_call 107; refine (callsIn_wide.2 (cont_any C a m _ _ ⟨_, _, _, rfl⟩)).mono ?_; rintro e w5 ⟨rfl, rfl⟩))
  have b23 : Below w2.heap.size w2 w3 := hb3
  have sW := bW.size
  have s2 := hb2.size
  have s3 := hb3.size
  have s4 := hb4.size
  rw [World.size_alloc] at s4
  have bA : Below w.heap.size w w3 := (bW.trans (hb2.mono sW)).trans (hb3.mono (by omega))
  have bB : Below w.heap.size w w4 := (bA.trans (((Below.refl _ w3).alloc (Nat.le_refl _) (.cells #[.slice none 0 0] 37)).mono bA.size)).trans (hb4.mono (by rw [World.size_alloc]; have := bA.size; omega))
  have aL : Blk w4 w3.heap.size 37 #[.slice none 0 0] := (Blk.new w3 37 #[.slice none 0 0]).below hb4 (by rw [World.size_alloc]; omega)
  have g4 : RowC w4 g mm := ((hg.keep (F := fun _ => False) (Keep.ofBelow hb3) (fun h => h)).keep (F := fun _ => False) ((Keep.refl _ _).alloc (.cells #[.slice none 0 0] 37)) (fun h => h)).keep (F := fun _ => False) (Keep.ofBelow hb4) (fun h => h)
  generalize hV : ((w4.alloc _).alloc _) = V
  have bV : Below w4.heap.size w4 V := by rw [← hV]; go_grown
  have sV : V.heap.size = w4.heap.size + 2 := by rw [← hV]; simp
  have lV : Blk V w4.heap.size 153 (lineCs C a m) := by rw [← hV]; exact (Blk.new w4 _ _).alloc _
  have rV : Blk V (w4.heap.size + 1) 38 #[.slice (some ⟨g, 0, none⟩) mm.length cap] := by rw [← hV]; exact blk_two w4 _ _ _
  clear hV
  have gV := g4.keep (F := fun _ => False) (Keep.ofBelow bV) (fun h => h)
  have aV := aL.below bV aL.lt
  have bwV : Below w.heap.size w V := bB.trans (bV.mono bB.size)
  have hgl : g < w3.heap.size := by omega
  have hww3 := bA.size
  have h3V : w3.heap.size < w4.heap.size := by omega
  have h4V : w4.heap.size + 1 < V.heap.size := by omega
  clear sV
  clear c0 c1 c2 m0 m2 m3 m4 g4 aL hg bW hb2 hb3 hb4 b23 bA
  refine wpIn_range_ownZ hro h1 (gf := 189) (lb := #[pV w4.heap.size, pV (w4.heap.size + 1)]) rfl trivial (enters_of Tryz.func189 (by kernel_rfl) rfl)
    (encs := fun t : Int => #[.int .i64 t]) (xs := l) (Qb := fun i => i = w3.heap.size ∨ V.heap.size + 3 ≤ i) (Z := fun i => i = V.heap.size + 2) (fun i e => by omega) (fun i e => by omega)
    (cont1_own (n - 1) (by omega) C a m mm l g cap w4.heap.size (w4.heap.size + 1) _ V HM.out HC.out lV rV gV (by omega) (by omega) (by omega) (by omega)) (fun _ => rfl)
    (fun pre W => ∃ u, Blk W w3.heap.size 37 #[u] ∧ W.ownsRow (V.heap.size + 3) 3 1 u pre.length (pre.map (.int .i64)) ∧ Below w.heap.size w W)
    (fun s A A' ⟨u, i1, i2, i3⟩ hk => ⟨u, i1.keep hk (by omega), own_keepL i2 hk (fun g hg _ => by omega), i3.trans (hk.below i3.size (fun i hi h => by have := bwV.size; omega))⟩)
    ⟨_, aV, World.ownsRow_nil _ _ _ _, bwV⟩
    (fun x a' W => a' = { tmps := #[cellsV C, mapV m, .int .i64 (a : Int), undef, .pointer (some ⟨w.heap.size, 0, none⟩), undef, .slice none 0 0, .slice (some ⟨g, 0, none⟩) mm.length cap, .pointer (some ⟨w3.heap.size, 0, none⟩), .int .i64 x, cellsV C, .slice (some ⟨g, 0, none⟩) mm.length cap, .slice (some ⟨g, 0, none⟩) mm.length cap, .int .i64 (mm.length : Int), mapV m, .int .i64 (a : Int), .bool true, .bool false, cellsV C, mapV m, .int .i64 (a : Int), lineV C a m, .slice (some ⟨g, 0, none⟩) mm.length cap, cloV 189 #[pV w4.heap.size, pV (w4.heap.size + 1)], .int .i64 x, undef, undef, undef, undef, undef], defers := [] })
    (fun x a' A A' h _ => h)
    ?assign ?body ?done
  case assign =>
    rintro pre x W K hI hsz hK
    gi_wp2
    exact hK _ _ (Below.refl _ W) rfl
  case body =>
    rintro pre x a' W ⟨u, bA, hrow, hb⟩ rfl hsz hlen hz
    have hz2 := hz _ rfl
    have hpl : pre.length < 32767 := by
      have h1 := nodup_len0 HC.out.nodup HC.out.thr
      have h2 := HM.out.t
      omega
    have cF := bA.cell 0 _ rfl
    have fF := bA.free 0
    have HCM := Lib.hid (show (pre ++ [x]).map (Value.int .i64) = pre.map (Value.int .i64) ++ [.int .i64 x] by simp)
    have hsl : ∃ ua ul uc, u = .slice ua ul uc := by
      rcases hrow.2 with ⟨rfl, _⟩ | ⟨g, cap, cur, rfl, _⟩
      · exact ⟨_, _, _, rfl⟩
      · exact ⟨_, _, _, rfl⟩
    obtain ⟨ua, ul, uc, rfl⟩ := hsl
    have hgb : ∀ g', (Value.slice ua ul uc).ownBlock = some g' → V.heap.size + 3 ≤ g' := fun g' hg' => by
      rcases hrow.2 with ⟨e, _⟩ | ⟨g2, cap2, cur, e, h2, _⟩
      · rw [e] at hg'; cases hg'
      · rw [e] at hg'
        obtain rfl : g2 = g' := by simpa [Value.ownBlock] using hg'
        exact h2
    have hsb := hb.size
    gi_wp2_with (gi_at_builtin; refine wpListIn_append_own _ rfl _ _ 37 rfl (V.heap.size + 3) 3 i0 (.int .i64 0) 1 8 Tryz.underlying37 hi hz0 hz1 hz2' rfl (by decide) _ _ _ rfl (own_keepL hrow ((Keep.refl (fun _ => False) W).alloc _) (fun _ _ _ h => h)) ⟨W.heap.size, 0, none⟩ 1 1 [.int .i64 x] rfl rfl (cell_one_new _ _ _) (by simp [Value.oneCell']) (by unfold maxLen; omega) (by omega) (by rw [World.size_alloc]; omega) ?_; intro v' w6 hown' hgrow _; obtain ⟨g', cap', rfl⟩ := ownsRow_succ hown'; have k6 : Keep (fun b => V.heap.size + 3 ≤ b) W w6 := ⟨hgrow.os, hgrow.tape, hgrow.output, Nat.le_trans (by rw [World.size_alloc]; omega) hgrow.size, fun k hk hn => (hgrow.block k (by rw [World.size_alloc]; omega) (fun e => hn (hgb k e.symm))).trans (Below.heap_alloc W _ k hk)⟩; have bA6 := bA.keep k6 (by omega); have c9 := bA6.cell 0 _ rfl; have f9 := bA6.free 0)
    refine ⟨⟨_, bA6.set 0 _, ?_, ?_⟩, ?_⟩
    · have hkk := own_keepL hown' ((Keep.refl (fun b => b = w3.heap.size) w6).set (p := ⟨w3.heap.size, 0, none⟩) (fun _ => rfl) (.slice (some ⟨g', 0, none⟩) (pre.length + 1) cap')) (fun g hg _ => by omega)
      first
        | exact hkk
        | (rw [← HCM.out] at hkk; exact hkk)
        | simpa using hkk
    · exact (hb.trans (k6.below hsb (fun i hi h => by have := bwV.size; omega))).setCell (p := ⟨w3.heap.size, 0, none⟩) (by omega) _
    · exact (k6.mono (fun _ _ h => .inr h)).set (p := ⟨w3.heap.size, 0, none⟩) (fun _ => .inl rfl) _
  case done =>
    rintro W ⟨u, bA, hrow, hb⟩ hsz hK
    have cF := bA.cell 0 _ rfl
    obtain ⟨ua, ul, uc, rfl⟩ : ∃ ua ul uc, u = .slice ua ul uc := by
      rcases hrow.2 with ⟨rfl, _⟩ | ⟨g, cap, cur, rfl, _⟩
      · exact ⟨_, _, _, rfl⟩
      · exact ⟨_, _, _, rfl⟩
    gi_wp2
    refine ⟨by simp, .inl ⟨_, _, rfl, run_takeDeferred hK, ?_⟩⟩
    have k1 := keep_put (W := W) (l := V.heap.size) (.deferred none)
    have hr2 := own_keepL hrow k1 (fun g hg _ => by omega)
    have hsb := hb.size
    refine ⟨_, results_tmp rfl _ _ _, _, rfl, ?_, hb.trans (k1.below hsb (fun i _ e => by have := bwV.size; omega))⟩
    rcases id hr2.2 with ⟨e, h0⟩ | ⟨g', cap', cur, e, h1, h2, h3, _⟩
    · rw [e]
      have hl0 : l = [] := List.length_eq_zero_iff.1 h0
      subst hl0
      exact ⟨none, 0, rfl, by simp, fun i x hx => by simp at hx⟩
    · rw [e] at hr2 ⊢
      refine ⟨some ⟨g', 0, none⟩, cap', rfl, h3, fun i x hx => ⟨g', 0, rfl, by have := bwV.size; omega, (Array.getElem?_eq_some_iff.1 h2).1, ?_⟩⟩
      have := hr2.cells (g := g') rfl i (.int .i64 x) (by rw [List.getElem?_map, hx]; rfl)
      rwa [addr_add] at this
theorem look_yes (C S a : Nat) (m : Mp) (mm l : List Int) (k0 : Int) (w : World) (hm : m.ok) (hC : CellsAt w C S mm k0) (hc : Chain mm m a l) (hf : fitS m mm.length a = true) (ha : a ≤ 100000000) (hmm0 : mm ≠ []) :
    Calls Tryz.prog 29 #[cellsV C, mapV m, .int .i64 (a : Int)] w fun e w' => ∃ v, e = .returned v ∧ RowN w' (fun b => w.heap.size ≤ b) v l ∧ Below w.heap.size w w' :=
  callsIn_wide.1 (look_in 3 (Nat.le_refl _) C S a m mm l k0 w hm hC hc hf ha hmm0)
end Go.Proofs.YtldofbkjjmnooaaGreat
/- Layer 10: what the trees of queues come to, in the cells of queues. -/
namespace Go.Proofs.YtldofbkjjmnooaaGreat
open Go.ChangeShapes Go.WideShapes Go.ChangeAt Go.RowKit
set_option linter.unusedVariables false
set_option maxRecDepth 100000
set_option linter.unusedSimpArgs false
theorem goes_bind {m m1 m2 : List Int} {T : Tre Itm} {κ : Int → Tre Itm} {k k2 : Nat} {v u : Int} (h : Goes m T k m1 v) (h2 : Goes m1 (κ v) k2 m2 u) : Goes m (bindT κ T) (k + k2) m2 u := by
  induction h with
  | ret m v => rw [bindT_ret, Nat.zero_add]; exact h2
  | op h1 h3 h4 ih =>
    rw [bindT_op, Nat.add_right_comm]
    exact .op h1 h3 (ih h2)
theorem goes_cast {m m' : List Int} {T : Tre Itm} {k k' : Nat} {v : Int} (h : Goes m T k m' v) (e : k = k') : Goes m T k' m' v := e ▸ h
theorem oper_ld {m : List Int} {i : Nat} {c : Int} (h : m[i]? = some c) (hc : 0 ≤ c ∧ c ≤ 1000000) : operS m (ldI i) = (m, c, true) := by
  have e : wrap64 c = c := IntWalk.wrap64_in _ ⟨by omega, by omega⟩
  simp [operS, h, e]
theorem oper_st {m : List Int} {i : Nat} (h : i < m.length) (v : Int) : operS m (stI i v) = (m.set i v, 1, true) := by
  have e : m[i]? = some m[i] := List.getElem?_eq_getElem h
  simp [operS, e]
theorem count_lt {m : List Int} {x : Itm} (h : x.at' < m.length) : countS m x = 1 := by simp [countS, h]
theorem goes_st {m : List Int} {i : Nat} (h : i < m.length) (v : Int) : Goes m (stT i v) 1 (m.set i v) 1 := by
  have e := oper_st h v
  refine .op (show (1 : Nat) < 5 by omega) (count_lt h) ?_
  rw [e]
  exact .ret _ _
theorem goes_read {mp : Mp} (hm : mp.ok) {m m' : List Int} {i : Nat} {c v : Int} {k : Nat} {κ : Int → Tre Itm} (h : m[i]? = some c) (hc : 0 ≤ c ∧ c ≤ mp.t) (h2 : Goes m (κ (c - 1)) k m' v) : Goes m (readT mp i κ) (k + 1) m' v := by
  have ht := hm.t
  have e := oper_ld h ⟨hc.1, by omega⟩
  refine .op (show (0 : Nat) < 5 by omega) (count_lt (List.getElem?_eq_some_iff.1 h).1) ?_
  rw [e]
  show Goes m (κ (thrS mp c)) k m' v
  rw [thrS_of hc ht.2]
  exact h2
theorem goes_two {m m1 m2 : List Int} {T1 T2 : Tre Itm} {k1 k2 : Nat} {v1 v2 : Int} (h1 : Goes m T1 k1 m1 v1) (h2 : Goes m1 T2 k2 m2 v2) : Goes m (seqT [T1, T2]) (k1 + k2) m2 v2 := by
  simp only [seqT]
  exact goes_bind h1 (goes_cast (goes_bind h2 (.ret _ _)) (by omega))
theorem goes_four {m m1 m2 m3 m4 : List Int} {T1 T2 T3 T4 : Tre Itm} {k1 k2 k3 k4 : Nat} {v1 v2 v3 v4 : Int} (h1 : Goes m T1 k1 m1 v1) (h2 : Goes m1 T2 k2 m2 v2) (h3 : Goes m2 T3 k3 m3 v3) (h4 : Goes m3 T4 k4 m4 v4) : Goes m (seqT [T1, T2, T3, T4]) (k1 + k2 + k3 + k4) m4 v4 := by
  simp only [seqT]
  refine goes_cast (goes_bind h1 (goes_bind h2 (goes_bind h3 (goes_bind h4 (.ret _ _))))) (by omega)
/-- a queue's place among the cells -/
structure PlaceOk (mp : Mp) (m : List Int) (a : Nat) : Prop where
  lt : a + 1 < m.length
  nx : ∀ u : Int, 0 ≤ u → u < mp.t → nxN mp u < m.length ∧ nxN mp u ≠ a ∧ nxN mp u ≠ a + 1
theorem PlaceOk.len {mp : Mp} {m m' : List Int} {a : Nat} (h : PlaceOk mp m a) (e : m'.length = m.length) : PlaceOk mp m' a := ⟨by rw [e]; exact h.lt, fun u h1 h2 => by rw [e]; exact h.nx u h1 h2⟩
theorem nx_inj {mp : Mp} {u v : Int} (hu : 0 ≤ u) (hv : 0 ≤ v) (h : nxN mp u = nxN mp v) : u = v := by
  unfold nxN at h
  omega
theorem rdL_some {m : List Int} {i : Nat} (h : i < m.length) : m[i]? = some (rdL m i) := by
  unfold rdL
  rw [List.getElem?_eq_getElem h]
  rfl
theorem rdL_at {m : List Int} {i : Nat} {c : Int} (h : i < m.length) (e : rdL m i = c) : m[i]? = some c := by rw [rdL_some h, e]
/-- threads of a queue -/
def Thr (mp : Mp) (l : List Int) : Prop := l.Nodup ∧ ∀ u ∈ l, 0 ≤ u ∧ u < (mp.t : Int)
theorem Thr.head {mp : Mp} {l : List Int} (h : ∀ u ∈ l, 0 ≤ u ∧ u < (mp.t : Int)) : 0 ≤ headOf l ∧ headOf l ≤ mp.t := by
  cases l with
  | nil => simp [headOf]
  | cons t l => have := h t (by simp); simp [headOf]; omega
theorem Thr.last {mp : Mp} {l : List Int} (h : ∀ u ∈ l, 0 ≤ u ∧ u < (mp.t : Int)) : 0 ≤ lastOf l ∧ lastOf l ≤ mp.t := Thr.head (by simpa using h)
/-- what an operation on a queue leaves: its length, and what isn't its own -/
structure Left (mp : Mp) (m m' : List Int) (a : Nat) (own : List Int) : Prop where
  len : m'.length = m.length
  far : ∀ j, j ≠ a → j ≠ a + 1 → (∀ u ∈ own, j ≠ nxN mp u) → rdL m' j = rdL m j
theorem goes_push {mp : Mp} (hm : mp.ok) {m : List Int} {a : Nat} {l : List Int} {t : Int} (hp : PlaceOk mp m a) (hQ : QIs (nxN mp) (rdL m) a l) (hl : Thr mp l) (ht : 0 ≤ t ∧ t < mp.t) (hn : t ∉ l) :
    ∃ k m', k ≤ 5 ∧ Goes m (pushT mp a t) k m' 0 ∧ QIs (nxN mp) (rdL m') a (l ++ [t]) ∧ Left mp m m' a (t :: l) := by
  obtain ⟨n1, n2, n3⟩ := hp.nx t ht.1 ht.2
  have ha := hp.lt
  have f1 : ∀ j, rdL (m.set (nxN mp t) 0) j = if j = nxN mp t then 0 else rdL m j := fun j => rdL_set m _ j 0 n1
  have L1 : (m.set (nxN mp t) 0).length = m.length := List.length_set
  have hh := Thr.head hl.2
  have e1 : rdL (m.set (nxN mp t) 0) a = headOf l := by rw [f1, if_neg (fun e => n2 e.symm), hQ.first]
  have e2 : rdL (m.set (nxN mp t) 0) (a + 1) = lastOf l := by rw [f1, if_neg (fun e => n3 e.symm), hQ.last]
  rcases List.eq_nil_or_concat l with rfl | ⟨p, u, rfl⟩
  · have E : Goes (m.set (nxN mp t) 0) (endT mp a) 1 (m.set (nxN mp t) 0) (-1) := by
      refine goes_read hm (rdL_at (by rw [L1]; omega) e1) (by simp [headOf]) ?_
      show Goes _ (endK mp a (0 - 1)) 0 _ _
      unfold endK
      rw [if_pos (by rfl)]
      exact .ret _ _
    have L2 : ((m.set (nxN mp t) 0).set a (t + 1)).length = m.length := by rw [List.length_set, L1]
    have G := goes_four (goes_st n1 0) (goes_bind (κ := pushK mp a t) E (by
      unfold pushK
      rw [if_pos ⟨by omega, by omega⟩, show behN mp a (-1) = a from if_pos rfl]
      exact goes_st (by rw [L1]; omega) (t + 1))) (goes_st (i := a + 1) (by rw [L2]; omega) (t + 1)) (.ret _ 0)
    refine ⟨_, _, ?_, G, ?_, ?_⟩
    · omega
    · have g : ∀ j, rdL (((m.set (nxN mp t) 0).set a (t + 1)).set (a + 1) (t + 1)) j = if j = a + 1 then t + 1 else if j = a then t + 1 else if j = nxN mp t then 0 else rdL m j := fun j => by
        rw [rdL_set _ _ _ _ (by rw [L2]; omega), rdL_set _ _ _ _ (by rw [L1]; omega), f1]
      refine hQ.push ?_ ?_ ?_ ?_ ?_
      · rw [g, if_neg (by omega), if_pos rfl]; rfl
      · rw [g, if_pos rfl]
      · rw [g, if_neg n3, if_neg n2, if_pos rfl]
      · intro p u e; simp at e
      · intro p u s e; simp at e
    · refine ⟨by rw [List.length_set, L2], fun j h1 h2 h3 => ?_⟩
      rw [rdL_set _ _ _ _ (by rw [L2]; omega), rdL_set _ _ _ _ (by rw [L1]; omega), f1, if_neg h2, if_neg h1, if_neg (h3 t (by simp))]
  · rw [List.concat_eq_append] at *
    have hu := hl.2 u (by simp)
    obtain ⟨u1, u2, u3⟩ := hp.nx u hu.1 hu.2
    have hut : u ≠ t := fun e => hn (by simp [e])
    have hnn : nxN mp u ≠ nxN mp t := fun e => hut (nx_inj hu.1 ht.1 e)
    have hne : headOf (p ++ [u]) ≠ 0 := fun e => by rw [headOf_zero (fun z hz => (hl.2 z hz).1)] at e; simp at e
    rw [lastOf_snoc] at e2
    have E : Goes (m.set (nxN mp t) 0) (endT mp a) 2 (m.set (nxN mp t) 0) u := by
      refine goes_read hm (rdL_at (by rw [L1]; omega) e1) hh ?_
      show Goes _ (endK mp a (headOf (p ++ [u]) - 1)) 1 _ _
      unfold endK
      rw [if_neg (by omega)]
      refine goes_read hm (rdL_at (by rw [L1]; omega) e2) (by omega) ?_
      unfold endK2
      rw [if_neg (by omega), show u + 1 - 1 = u by omega]
      exact .ret _ _
    have L2 : ((m.set (nxN mp t) 0).set (nxN mp u) (t + 1)).length = m.length := by rw [List.length_set, L1]
    have G := goes_four (goes_st n1 0) (goes_bind (κ := pushK mp a t) E (by
      unfold pushK
      rw [if_pos ⟨by omega, by omega⟩, show behN mp a u = nxN mp u from if_neg (by omega)]
      exact goes_st (by rw [L1]; omega) (t + 1))) (goes_st (i := a + 1) (by rw [L2]; omega) (t + 1)) (.ret _ 0)
    have g : ∀ j, rdL (((m.set (nxN mp t) 0).set (nxN mp u) (t + 1)).set (a + 1) (t + 1)) j = if j = a + 1 then t + 1 else if j = nxN mp u then t + 1 else if j = nxN mp t then 0 else rdL m j := fun j => by
      rw [rdL_set _ _ _ _ (by rw [L2]; omega), rdL_set _ _ _ _ (by rw [L1]; omega), f1]
    refine ⟨_, _, ?_, G, ?_, ?_⟩
    · omega
    · refine hQ.push ?_ ?_ ?_ ?_ ?_
      · rw [g, if_neg (by omega), if_neg (fun e => u2 e.symm), if_neg (fun e => n2 e.symm), hQ.first]
        exact (headOf_append (l := p ++ [u]) (by simp) [t]).symm
      · rw [g, if_pos rfl]
      · rw [g, if_neg n3, if_neg (fun e => hnn e.symm), if_pos rfl]
      · intro p' u' e
        obtain ⟨_, e⟩ := List.append_inj' e rfl
        obtain rfl : u = u' := by simpa using e
        rw [g, if_neg u3, if_pos rfl]
      · intro p' u' s e hs
        have hmem : u' ∈ p ++ [u] := by rw [e]; simp
        have hu' := hl.2 u' hmem
        have hne2 : u' ≠ u := by
          intro e3
          subst e3
          rcases List.eq_nil_or_concat s with rfl | ⟨s', z, rfl⟩
          · exact hs rfl
          · rw [List.concat_eq_append, show p' ++ u' :: (s' ++ [z]) = (p' ++ u' :: s') ++ [z] by simp] at e
            obtain ⟨e4, e5⟩ := List.append_inj' e rfl
            obtain rfl : u' = z := by simpa using e5
            have h1 := hl.1
            rw [e4] at h1
            rw [List.nodup_append] at h1
            exact h1.2.2 u' (by simp) u' (by simp) rfl
        have hnt : u' ≠ t := fun e => hn (e ▸ hmem)
        have b1 := hp.nx u' hu'.1 hu'.2
        rw [g, if_neg b1.2.2, if_neg (fun e => hne2 (nx_inj hu'.1 hu.1 e)), if_neg (fun e => hnt (nx_inj hu'.1 ht.1 e))]
    · refine ⟨by rw [List.length_set, L2], fun j h1 h2 h3 => ?_⟩
      rw [g, if_neg h2, if_neg (h3 u (by simp)), if_neg (h3 t (by simp))]
/-- taking t out, behind P -/
theorem goes_unlink {mp : Mp} (hm : mp.ok) {m : List Int} {a : Nat} {P s : List Int} {t : Int} (hp : PlaceOk mp m a) (hQ : QIs (nxN mp) (rdL m) a (P ++ t :: s)) (hl : Thr mp (P ++ t :: s)) :
    ∃ m' v, Goes m (unlinkT mp a (lastOf P - 1) t) 3 m' v ∧ QIs (nxN mp) (rdL m') a (P ++ s) ∧ Left mp m m' a (P ++ t :: s) := by
  have hP := Thr.last (mp := mp) (l := P) (fun u hu => hl.2 u (by simp [hu]))
  have hs := Thr.head (mp := mp) (l := s) (fun u hu => hl.2 u (by simp [hu]))
  have ht := hl.2 t (by simp)
  obtain ⟨n1, n2, n3⟩ := hp.nx t ht.1 ht.2
  have ha := hp.lt
  have hnx := hQ.next P t s rfl
  have hnd := List.nodup_append.1 hl.1
  have hns := List.nodup_cons.1 hnd.2.1
  obtain ⟨b, hb⟩ : ∃ b, b = behN mp a (lastOf P - 1) := ⟨_, rfl⟩
  -- where the thread ahead, or the queue's first, is
  have hbl : b < m.length ∧ b ≠ a + 1 ∧ ((P = [] ∧ b = a) ∨ ∃ q u, P = q ++ [u] ∧ b = nxN mp u ∧ u ≠ t ∧ 0 ≤ u ∧ u < mp.t) := by
    rcases List.eq_nil_or_concat P with rfl | ⟨q, u, rfl⟩
    · have : b = a := by rw [hb]; simp [behN, lastOf, headOf]
      exact ⟨by omega, by omega, .inl ⟨rfl, this⟩⟩
    · rw [List.concat_eq_append] at *
      have hu := hl.2 u (by simp)
      have e : b = nxN mp u := by
        rw [hb, lastOf_snoc]
        unfold behN
        rw [if_neg (by omega), show u + 1 - 1 = u by omega]
      obtain ⟨u1, u2, u3⟩ := hp.nx u hu.1 hu.2
      exact ⟨by rw [e]; exact u1, by rw [e]; exact u3, .inr ⟨q, u, rfl, e, fun e2 => hnd.2.2 u (by simp) t (by simp) e2, hu.1, hu.2⟩⟩
  obtain ⟨b1, b2, b3⟩ := hbl
  have f1 : ∀ j, rdL (m.set b (headOf s)) j = if j = b then headOf s else rdL m j := fun j => rdL_set m _ j _ b1
  have L1 : (m.set b (headOf s)).length = m.length := List.length_set
  have hbt : b ≠ nxN mp t := by
    rcases b3 with ⟨_, e⟩ | ⟨q, u, _, e, hne, h0, h1⟩
    · rw [e]; exact fun e => n2 e.symm
    · rw [e]; exact fun e2 => hne (nx_inj h0 ht.1 e2)
  have hbs : ∀ u ∈ s, nxN mp u ≠ b := fun u hu => by
    have hu2 := hl.2 u (by simp [hu])
    have := hp.nx u hu2.1 hu2.2
    rcases b3 with ⟨_, e⟩ | ⟨q, z, e0, e, hne, h0, h1⟩
    · rw [e]; exact this.2.1
    · rw [e]
      intro e2
      have e3 := nx_inj hu2.1 h0 e2
      subst e3
      exact hnd.2.2 u (by rw [e0]; simp) u (by simp [hu]) rfl
  have hfirst : ∀ g : Nat → Int, g b = headOf s → (P ≠ [] → g a = rdL m a) → g a = headOf (P ++ s) := by
    intro g hg hPa
    by_cases e : P = []
    · subst e
      have : b = a := by
        rcases b3 with ⟨_, e⟩ | ⟨q, u, e, _⟩
        · exact e
        · simp at e
      rw [← this, hg]; rfl
    · rw [hPa e, hQ.first, headOf_append e, headOf_append e]
  have hba : b = a → P = [] := by
    intro e
    rcases b3 with ⟨e, _⟩ | ⟨q, u, _, e2, _, h0, h1⟩
    · exact e
    · exact absurd (e2.symm.trans e) (hp.nx u h0 h1).2.1
  have hP3 : ∀ q u, P = q ++ [u] → nxN mp u = b := fun q u e => by
    rcases b3 with ⟨e0, _⟩ | ⟨q', u', e0, e1, _⟩
    · rw [e0] at e; simp at e
    · rw [e0] at e
      obtain ⟨_, e⟩ := List.append_inj' e rfl
      obtain rfl : u' = u := by simpa using e
      exact e1.symm
  have hP4 : ∀ q u r, P = q ++ u :: r → r ≠ [] → nxN mp u ≠ b ∧ nxN mp u ≠ a + 1 ∧ nxN mp u ≠ nxN mp t := fun q u r e hr => by
    have hu := hl.2 u (by rw [e]; simp)
    have h1 := hp.nx u hu.1 hu.2
    have hut : u ≠ t := fun e2 => hnd.2.2 u (by rw [e]; simp) t (by simp) e2
    refine ⟨fun e2 => ?_, h1.2.2, fun e2 => hut (nx_inj hu.1 ht.1 e2)⟩
    rcases b3 with ⟨e0, _⟩ | ⟨q', u', e0, e1, _, h0, _⟩
    · rw [e0] at e; simp at e
    · have e3 : u = u' := nx_inj hu.1 h0 (e2.trans e1)
      subst e3
      rcases List.eq_nil_or_concat r with rfl | ⟨r', z, rfl⟩
      · exact hr rfl
      · rw [List.concat_eq_append] at e
        rw [e0, show q ++ u :: (r' ++ [z]) = (q ++ u :: r') ++ [z] by simp] at e
        obtain ⟨e4, e5⟩ := List.append_inj' e rfl
        obtain rfl : u = z := by simpa using e5
        have h2 := hnd.1
        rw [e0, e4, List.nodup_append] at h2
        exact h2.2.2 u (by simp) u (by simp) rfl
  cases s with
  | nil =>
    have G : Goes m (unlinkT mp a (lastOf P - 1) t) 3 ((m.set b (headOf [])).set (a + 1) (lastOf P)) 1 := by
      refine goes_read hm (rdL_at n1 hnx) (by simp [headOf]) ?_
      unfold unlK
      rw [if_pos (by simp [headOf]), show headOf ([] : List Int) - 1 + 1 = headOf [] by omega, show lastOf P - 1 + 1 = lastOf P by omega, ← hb]
      exact goes_two (goes_st b1 _) (goes_st (by rw [L1]; omega) _)
    have g : ∀ j, rdL ((m.set b (headOf [])).set (a + 1) (lastOf P)) j = if j = a + 1 then lastOf P else if j = b then headOf [] else rdL m j := fun j => by
      rw [rdL_set _ _ _ _ (by rw [L1]; omega), f1]
    refine ⟨_, _, G, hQ.remove ?_ ?_ ?_ ?_ ?_, ⟨by rw [List.length_set, L1], fun j h1 h2 h3 => ?_⟩⟩
    · refine hfirst _ (by rw [g, if_neg b2, if_pos rfl]) (fun hP0 => ?_)
      rw [g, if_neg (by omega), if_neg (fun e => hP0 (hba e.symm))]
    · rw [g, if_pos rfl, List.append_nil]
    · intro q u e
      rw [g, hP3 q u e, if_neg b2, if_pos rfl]
    · intro q u r e hr
      obtain ⟨x1, x2, _⟩ := hP4 q u r e hr
      rw [g, if_neg x2, if_neg x1]
    · intro u hu; cases hu
    · rw [g, if_neg h2, if_neg]
      intro e
      rcases b3 with ⟨_, e2⟩ | ⟨q, u, e0, e2, _⟩
      · exact h1 (e.trans e2)
      · exact h3 u (by rw [e0]; simp) (e.trans e2)
  | cons z s =>
    have hz := hl.2 z (by simp)
    have G : Goes m (unlinkT mp a (lastOf P - 1) t) 3 ((m.set b (headOf (z :: s))).set (nxN mp t) 0) 1 := by
      refine goes_read hm (rdL_at n1 hnx) hs ?_
      unfold unlK
      rw [if_neg (by simp [headOf]; omega), show headOf (z :: s) - 1 + 1 = headOf (z :: s) by omega, ← hb]
      exact goes_two (goes_st b1 _) (goes_st (by rw [L1]; exact n1) _)
    have g : ∀ j, rdL ((m.set b (headOf (z :: s))).set (nxN mp t) 0) j = if j = nxN mp t then 0 else if j = b then headOf (z :: s) else rdL m j := fun j => by
      rw [rdL_set _ _ _ _ (by rw [L1]; exact n1), f1]
    refine ⟨_, _, G, hQ.remove ?_ ?_ ?_ ?_ ?_, ⟨by rw [List.length_set, L1], fun j h1 h2 h3 => ?_⟩⟩
    · refine hfirst _ (by rw [g, if_neg hbt, if_pos rfl]) (fun hP0 => ?_)
      rw [g, if_neg (fun e => n2 e.symm), if_neg (fun e => hP0 (hba e.symm))]
    · rw [g, if_neg (fun e => n3 e.symm), if_neg (fun e => b2 e.symm), hQ.last, lastOf_append (by simp), lastOf_append (by simp), show t :: z :: s = [t] ++ (z :: s) by rfl, lastOf_append (by simp)]
    · intro q u e
      rw [g, hP3 q u e, if_neg hbt, if_pos rfl]
    · intro q u r e hr
      obtain ⟨x1, _, x3⟩ := hP4 q u r e hr
      rw [g, if_neg x3, if_neg x1]
    · intro u hu
      have hu2 := hl.2 u (List.mem_append_right _ (List.mem_cons_of_mem _ hu))
      have hut : nxN mp u ≠ nxN mp t := fun e => hns.1 (by have := nx_inj hu2.1 ht.1 e; rw [← this]; exact hu)
      rw [g, if_neg hut, if_neg (hbs u hu)]
    · rw [g, if_neg (h3 t (by simp)), if_neg]
      intro e
      rcases b3 with ⟨_, e2⟩ | ⟨q, u, e0, e2, _⟩
      · exact h1 (e.trans e2)
      · exact h3 u (by rw [e0]; simp) (e.trans e2)
theorem goes_pop {mp : Mp} (hm : mp.ok) {m : List Int} {a : Nat} {l : List Int} (hp : PlaceOk mp m a) (hQ : QIs (nxN mp) (rdL m) a l) (hl : Thr mp l) :
    ∃ k m', k ≤ 4 ∧ Goes m (popT mp a) k m' (if l = [] then -1 else l.headD 0) ∧ QIs (nxN mp) (rdL m') a l.tail ∧ Left mp m m' a l ∧ (l = [] → m' = m) := by
  have ha := hp.lt
  have hh := Thr.head hl.2
  cases l with
  | nil =>
    refine ⟨1, m, by omega, ?_, hQ, ⟨rfl, fun _ _ _ _ => rfl⟩, fun _ => rfl⟩
    refine goes_read hm (rdL_at (by omega) hQ.first) hh ?_
    unfold popK
    rw [if_pos (by simp [headOf]), if_pos rfl]
    exact .ret _ _
  | cons t s =>
    have ht := hl.2 t (by simp)
    obtain ⟨m', v, G, hQ', hL⟩ := goes_unlink (P := []) hm hp hQ hl
    refine ⟨4, m', by omega, ?_, hQ', hL, fun h => by cases h⟩
    refine goes_read hm (rdL_at (by omega) hQ.first) hh ?_
    unfold popK
    rw [if_neg (by simp [headOf]; omega), if_neg (by simp), show headOf (t :: s) - 1 = t by simp [headOf]]
    exact goes_two G (.ret _ _)
theorem filter_out {l : List Int} {t : Int} (h : t ∉ l) : l.filter (· ≠ t) = l := by
  rw [List.filter_eq_self]
  intro u hu
  simpa using fun e : u = t => h (e ▸ hu)
theorem filter_mid {P s : List Int} {t : Int} (h : (P ++ t :: s).Nodup) : (P ++ t :: s).filter (· ≠ t) = P ++ s := by
  have h1 := List.nodup_append.1 h
  have h2 := List.nodup_cons.1 h1.2.1
  rw [List.filter_append, List.filter_cons_of_neg (by simp), filter_out h2.1, filter_out (fun hh => h1.2.2 t hh t (by simp) rfl)]
theorem goes_rem {mp : Mp} (hm : mp.ok) {m : List Int} {a : Nat} {l : List Int} {t : Int} (hp : PlaceOk mp m a) (hQ : QIs (nxN mp) (rdL m) a l) (hl : Thr mp l) (ht : 0 ≤ t ∧ t < mp.t) :
    ∀ (s P : List Int), l = P ++ s → t ∉ P → ∃ k m', k ≤ 6 + 2 * s.length ∧ Goes m (remT mp a t (lastOf P - 1) P.reverse) k m' (if t ∈ l then 1 else 0) ∧ QIs (nxN mp) (rdL m') a (l.filter (· ≠ t)) ∧ Left mp m m' a l ∧ (t ∉ l → m' = m) := by
  have ha := hp.lt
  have hcell : ∀ s P, l = P ++ s → m[behN mp a (lastOf P - 1)]? = some (headOf s) := fun s P e => by
    rcases List.eq_nil_or_concat P with rfl | ⟨q, u, rfl⟩
    · have : behN mp a (lastOf [] - 1) = a := by simp [behN, lastOf, headOf]
      rw [this]
      exact rdL_at (by omega) (by rw [hQ.first, e]; rfl)
    · rw [List.concat_eq_append] at *
      have hu := hl.2 u (by rw [e]; simp)
      have e2 : behN mp a (lastOf (q ++ [u]) - 1) = nxN mp u := by
        rw [lastOf_snoc]
        unfold behN
        rw [if_neg (by omega), show u + 1 - 1 = u by omega]
      rw [e2]
      exact rdL_at (hp.nx u hu.1 hu.2).1 (hQ.next q u s (by rw [e]; simp))
  have hmt := hm.t
  intro s
  induction s with
  | nil =>
    intro P e hP
    have hc := hcell [] P e
    rw [List.append_nil] at e
    subst e
    refine ⟨1, m, by omega, ?_, by rw [filter_out hP]; exact hQ, ⟨rfl, fun _ _ _ _ => rfl⟩, fun _ => rfl⟩
    rw [remT_eq, if_neg hP]
    refine .op (show (0 : Nat) < 5 by omega) (count_lt (List.getElem?_eq_some_iff.1 hc).1) ?_
    rw [oper_ld hc (by simp [headOf])]
    show Goes m (ansR mp a t _ _ (headOf [])) 0 m 0
    unfold ansR
    rw [thrS_of (by simp [headOf]) hmt.2, if_neg (by simp [headOf]; omega), if_pos (.inl (by simp [headOf]))]
    exact .ret _ _
  | cons u s ih =>
    intro P e hP
    have hc := hcell (u :: s) P e
    have hu := hl.2 u (by rw [e]; simp)
    have hthr : thrS mp (headOf (u :: s)) = u := by
      rw [thrS_of (by simp [headOf]; omega) hmt.2]
      simp [headOf]
    have hop := oper_ld hc (by simp [headOf]; omega)
    by_cases hut : u = t
    · subst hut
      subst e
      obtain ⟨m', v, G, hQ', hL⟩ := goes_unlink hm hp hQ hl
      refine ⟨4, m', by omega, ?_, by rw [filter_mid hl.1]; exact hQ', hL, fun h => absurd (by simp) h⟩
      rw [remT_eq, if_pos (by simp)]
      refine .op (show (0 : Nat) < 5 by omega) (count_lt (List.getElem?_eq_some_iff.1 hc).1) ?_
      rw [hop]
      show Goes m (ansR mp a u _ _ (headOf (u :: s))) 3 m' 1
      unfold ansR
      rw [hthr, if_pos rfl]
      exact goes_bind (κ := fun _ => retT 1) G (.ret _ 1)
    · obtain ⟨k, m', hk, G, hQ', hL, hs⟩ := ih (P ++ [u]) (by rw [e]; simp) (fun h => by
        rcases List.mem_append.1 h with h | h
        · exact hP h
        · simp at h; exact hut h.symm)
      refine ⟨k + 1, m', by simp only [List.length_cons]; omega, ?_, hQ', hL, hs⟩
      rw [remT_eq]
      refine .op (show (0 : Nat) < 5 by omega) (count_lt (List.getElem?_eq_some_iff.1 hc).1) ?_
      rw [hop]
      show Goes m (ansR mp a t _ _ (headOf (u :: s))) k m' _
      have hnP : u ∉ P := by
        have h1 := hl.1
        rw [e] at h1
        have h2 := List.nodup_append.1 h1
        exact fun h => h2.2.2 u h u (by simp) rfl
      unfold ansR
      rw [hthr, if_neg hut, if_neg (by
        intro h
        rcases h with h | h
        · omega
        · exact hnP (by simpa using h))]
      rw [lastOf_snoc, show u + 1 - 1 = u by omega, List.reverse_append] at G
      exact G
/-! the laws' map: eight threads, one object, two monitors -/
def hereM : Mp := ⟨8, 1, 2⟩
theorem here_ok : hereM.ok := ⟨by decide, by decide, by decide⟩
def placeN : Nat → Nat
  | 0 => 53
  | 1 => 55
  | 2 => 61
  | _ => 63
theorem place_cases (k : Nat) : placeN k = 53 ∨ placeN k = 55 ∨ placeN k = 61 ∨ placeN k = 63 := by
  match k with
  | 0 => exact .inl rfl
  | 1 => exact .inr (.inl rfl)
  | 2 => exact .inr (.inr (.inl rfl))
  | (k + 3) => exact .inr (.inr (.inr rfl))
theorem place_ne {j k : Nat} (hj : j < 4) (hk : k < 4) (h : j ≠ k) : placeN j ≠ placeN k ∧ placeN j ≠ placeN k + 1 ∧ placeN j + 1 ≠ placeN k := by
  have : j = 0 ∨ j = 1 ∨ j = 2 ∨ j = 3 := by omega
  have : k = 0 ∨ k = 1 ∨ k = 2 ∨ k = 3 := by omega
  rcases ‹j = 0 ∨ _› with rfl | rfl | rfl | rfl <;> rcases ‹k = 0 ∨ _› with rfl | rfl | rfl | rfl <;> first | exact absurd rfl h | decide
theorem nx_here (u : Int) (h : 0 ≤ u ∧ u < 8) : (nxN hereM u : Int) = 3 + 6 * u := by
  unfold nxN hereM
  simp
  omega
theorem place_ok {m : List Int} (h : m.length = 67) (k : Nat) : PlaceOk hereM m (placeN k) := by
  have := place_cases k
  refine ⟨by omega, fun u h1 h2 => ?_⟩
  have h2' : u < 8 := h2
  have := nx_here u ⟨h1, h2'⟩
  omega
def updL (L : Nat → List Int) (k : Nat) (x : List Int) : Nat → List Int := fun j => if j = k then x else L j
/-- four queues in the laws' cells -/
structure QS (mm : List Int) (L : Nat → List Int) : Prop where
  len : mm.length = 67
  is : ∀ k, k < 4 → QIs (nxN hereM) (rdL mm) (placeN k) (L k)
  thr : ∀ k, k < 4 → Thr hereM (L k)
  apart : ∀ j k, j < 4 → k < 4 → j ≠ k → ∀ u ∈ L j, u ∉ L k
theorem QS.step {mm mm' : List Int} {L : Nat → List Int} (h : QS mm L) {k : Nat} (hk : k < 4) {own l' : List Int} (hL : Left hereM mm mm' (placeN k) own) (hQ : QIs (nxN hereM) (rdL mm') (placeN k) l') (hT : Thr hereM l') (how : ∀ u ∈ own, 0 ≤ u ∧ u < (8 : Int) ∧ ∀ j, j < 4 → j ≠ k → u ∉ L j)
    (hap : ∀ u ∈ l', ∀ j, j < 4 → j ≠ k → u ∉ L j) : QS mm' (updL L k l') := by
  refine ⟨hL.len.trans h.len, fun j hj => ?_, fun j hj => ?_, fun i j hi hj hij u hu => ?_⟩
  · unfold updL
    split
    · next e => rw [e]; exact hQ
    · next e =>
      have hne := place_ne hj hk e
      have p1 := place_cases j
      refine (h.is j hj).congr ?_ ?_ (fun u hu => ?_)
      · refine hL.far _ hne.1 hne.2.1 (fun u hu => ?_)
        have := nx_here u ⟨(how u hu).1, (how u hu).2.1⟩
        have := (how u hu).2.1
        omega
      · refine hL.far _ hne.2.2 (by have := hne.1; omega) (fun u hu => ?_)
        have := nx_here u ⟨(how u hu).1, (how u hu).2.1⟩
        have := (how u hu).2.1
        omega
      · have hu2 := (h.thr j hj).2 u hu
        have hu3 : u < 8 := hu2.2
        have p2 := place_cases k
        have := nx_here u ⟨hu2.1, hu3⟩
        refine hL.far _ (by omega) (by omega) (fun z hz e2 => ?_)
        have := nx_inj hu2.1 (how z hz).1 e2
        subst this
        exact (how u hz).2.2 j hj e hu
  · unfold updL
    split
    · exact hT
    · exact h.thr j hj
  · unfold updL at hu ⊢
    split at hu
    · next e =>
      rw [if_neg (fun e2 => hij (e.trans e2.symm))]
      exact hap u hu j hj (fun e2 => hij (e.trans e2.symm))
    · next e =>
      split
      · next e2 => exact fun hh => hap u hh i hi e hu
      · exact h.apart i j hi hj hij u hu
theorem QS.push {mm : List Int} {L : Nat → List Int} (h : QS mm L) {k : Nat} (hk : k < 4) {t : Int} (ht : 0 ≤ t ∧ t < 8) (hn : ∀ j, j < 4 → t ∉ L j) :
    ∃ c mm', c ≤ 5 ∧ Goes mm (pushT hereM (placeN k) t) c mm' 0 ∧ QS mm' (updL L k (L k ++ [t])) ∧ Left hereM mm mm' (placeN k) (t :: L k) := by
  obtain ⟨c, mm', h1, G, h2, h3⟩ := goes_push here_ok (place_ok h.len k) (h.is k hk) (h.thr k hk) (t := t) ht (hn k hk)
  have hT := h.thr k hk
  refine ⟨c, mm', h1, G, h.step hk h3 h2 ⟨?_, ?_⟩ (fun u hu => ?_) (fun u hu j hj e => ?_), h3⟩
  · rw [List.nodup_append]
    exact ⟨hT.1, by simp, fun a ha b hb e => by simp at hb; subst hb; subst e; exact hn k hk ha⟩
  · intro u hu
    rcases List.mem_append.1 hu with hu | hu
    · exact hT.2 u hu
    · simp at hu; subst hu; exact ht
  · rcases List.mem_cons.1 hu with rfl | hu
    · exact ⟨ht.1, ht.2, fun j hj _ => hn j hj⟩
    · exact ⟨(hT.2 u hu).1, (hT.2 u hu).2, fun j hj e => h.apart k j hk hj (fun e2 => e e2.symm) u hu⟩
  · rcases List.mem_append.1 hu with hu | hu
    · exact h.apart k j hk hj (fun e2 => e e2.symm) u hu
    · simp at hu; subst hu; exact hn j hj
theorem QS.pop {mm : List Int} {L : Nat → List Int} (h : QS mm L) {k : Nat} (hk : k < 4) :
    ∃ c mm', c ≤ 4 ∧ Goes mm (popT hereM (placeN k)) c mm' (if L k = [] then -1 else (L k).headD 0) ∧ QS mm' (updL L k (L k).tail) ∧ Left hereM mm mm' (placeN k) (L k) := by
  obtain ⟨c, mm', h1, G, h2, h3, _⟩ := goes_pop here_ok (place_ok h.len k) (h.is k hk) (h.thr k hk)
  have hT := h.thr k hk
  refine ⟨c, mm', h1, G, h.step hk h3 h2 ⟨hT.1.sublist (List.tail_sublist _), fun u hu => hT.2 u (List.mem_of_mem_tail hu)⟩ (fun u hu => ⟨(hT.2 u hu).1, (hT.2 u hu).2, fun j hj e => h.apart k j hk hj (fun e2 => e e2.symm) u hu⟩) (fun u hu j hj e => h.apart k j hk hj (fun e2 => e e2.symm) u (List.mem_of_mem_tail hu)), h3⟩
theorem QS.rem {mm : List Int} {L : Nat → List Int} (h : QS mm L) {k : Nat} (hk : k < 4) {t : Int} (ht : 0 ≤ t ∧ t < 8) :
    ∃ c mm', c ≤ 6 + 2 * (L k).length ∧ Goes mm (remT hereM (placeN k) t (-1) []) c mm' (if t ∈ L k then 1 else 0) ∧ QS mm' (updL L k ((L k).filter (· ≠ t))) ∧ Left hereM mm mm' (placeN k) (L k) := by
  obtain ⟨c, mm', h1, G, h2, h3, _⟩ := goes_rem here_ok (place_ok h.len k) (h.is k hk) (h.thr k hk) (t := t) ht (L k) [] rfl (by simp)
  have hT := h.thr k hk
  refine ⟨c, mm', h1, G, h.step hk h3 h2 ⟨hT.1.sublist List.filter_sublist, fun u hu => hT.2 u ((List.mem_filter.1 hu).1)⟩ (fun u hu => ⟨(hT.2 u hu).1, (hT.2 u hu).2, fun j hj e => h.apart k j hk hj (fun e2 => e e2.symm) u hu⟩) (fun u hu j hj e => h.apart k j hk hj (fun e2 => e e2.symm) u ((List.mem_filter.1 hu).1)), h3⟩
theorem QS.chain {mm : List Int} {L : Nat → List Int} (h : QS mm L) {k : Nat} (hk : k < 4) : Chain mm hereM (placeN k) (L k) := by
  have hp := place_ok h.len k
  have hT := h.thr k hk
  refine ⟨rdL_at (by have := hp.lt; omega) (h.is k hk).first, fun i t ht => ?_, hT.1, hT.2⟩
  have hm := hT.2 t (List.mem_of_getElem? ht)
  exact rdL_at (hp.nx t hm.1 hm.2).1 ((h.is k hk).walk ht).2
theorem QS.none (mm : List Int) (h : mm = List.replicate 67 0) : QS mm (fun _ => []) := by
  subst h
  refine ⟨by simp, fun k hk => ?_, fun k hk => ⟨List.nodup_nil, fun u hu => by cases hu⟩, fun j k _ _ _ u hu => by cases hu⟩
  have := place_cases k
  refine QIs.nil ?_ ?_
  · unfold rdL
    rw [List.getElem?_replicate, if_pos (by omega)]
    rfl
  · unfold rdL
    rw [List.getElem?_replicate, if_pos (by omega)]
    rfl
end Go.Proofs.YtldofbkjjmnooaaGreat
/- Layer 10's laws: their own functions, over four queues in cells. -/
namespace Go.Proofs.YtldofbkjjmnooaaGreat
open Go.ChangeShapes Go.WideShapes Go.ChangeAt Go.RowKit
set_option linter.unusedVariables false
set_option maxRecDepth 100000
set_option linter.unusedSimpArgs false
set_option maxHeartbeats 1000000 in
theorem qendsM_any (C P S t : Nat) (Q : Nat → Prop) (T : Tre Itm) (L most : Nat) (m m' : List Int) (v n : Int) (w : World) (hG : Goes m T L m' v) (hL : L ≤ most) (hm : most ≤ 1000)
    (h : TkM (cellOps C P) w t Q T) (hC : CellsAt w C S m n) (hQ : ∀ b, Q b → b ≠ C ∧ b ≠ S) (hn : 0 ≤ n ∧ n ≤ 1000000) {mI : Int} (hI : mI = most) :
    Calls Tryz.prog 26 #[pV t, .int .i64 mI] w fun e w' => e = .returned (.int .i64 L) ∧ (∃ Q', TkM (cellOps C P) w' t Q' (retT v) ∧ ∀ b, Q' b → Q b ∨ w.heap.size ≤ b) ∧ CellsAt w' C S m' (n + L) ∧ Keep (fun b => Q b ∨ ofCells C S b) w w' := by
  subst hI
  have H := Lib.hid h
  have HG := Lib.hid hG
  have HC := Lib.hid hC
  have HQ := Lib.hid hQ
  have HL := Lib.hid hL
  have hCl := hC.own.lt
  have hSl := hC.row.lt
  clear h hG hC hQ hL
  go_enter Tryz.func26, Tryz.ntmps26
  go_wp2_with fail
  go_loopw [5] (fun v5 wr => ∃ (I : Nat) (m1 : List Int) (T1 : Tre Itm) (Q1 : Nat → Prop) (j : Nat), I + j = L ∧ v5 = .int .i64 (I : Int) ∧ Goes m1 T1 j m' v ∧ TkM (cellOps C P) wr t Q1 T1 ∧ (∀ b, Q1 b → Q b ∨ w.heap.size ≤ b) ∧ CellsAt wr C S m1 (n + I) ∧ Keep (fun b => Q b ∨ ofCells C S b) w wr)
    (fun v5 _ => L - (intOf v5).toNat)
  case atStart => exact ⟨0, m, T, Q, L, by omega, rfl, HG.out, H.out, fun _ h => .inl h, by simpa using HC.out, Keep.refl _ _⟩
  case round =>
    obtain ⟨I, m1, T1, Q1, j, hIj, rfl, hG, hT, hq, hC, hk⟩ := hrel
    have hLm := HL.out
    have hsz := hk.size
    have hQ1 : ∀ b, Q1 b → b ≠ C ∧ b ≠ S := fun b hb => by
      rcases hq b hb with h | h
      · exact HQ.out b h
      · omega
    rcases hG.cases' with ⟨rfl, rfl, rfl⟩ | ⟨x, κ, j, rfl, rfl, e1, e2, e3⟩
    · obtain rfl : I = L := by omega
      have hD := Lib.hid (tdoneM_ret t Q1 v wr hT)
      have HX := Lib.hid (And.intro (⟨Q1, hT, hq⟩ : ∃ Q', TkM (cellOps C P) wr t Q' (retT v) ∧ ∀ b, Q' b → Q b ∨ w.heap.size ≤ b) (And.intro hC hk))
      clear hG hT hq hC hk hQ1 H HG HC HQ HL
      go_wp2_with (go_at_call 38; (with_reducible refine hD.out.mono ?_); rintro e w2 ⟨rfl, rfl⟩)
      go_ret
      exact ⟨rfl, HX.out⟩
    · have hD := Lib.hid (tdoneM_op t Q1 x κ wr hT)
      have hS := Lib.hid (tstepM_op C P S t Q1 x κ m1 (n + I) wr hT hC e1 hQ1 ⟨by omega, by omega⟩)
      have HX := Lib.hid (And.intro e2 (And.intro e3 (And.intro hq (And.intro hk hsz))))
      have h4 : ¬ ((most : Int) ≤ (I : Int)) := by omega
      have h5 : (I : Int) < (most : Int) := by omega
      clear hG hT hq hC hk hQ1 e1 e2 e3
      go_wp2_with (first
        | (go_at_call 38; (with_reducible refine hD.out.mono ?_); rintro e w2 ⟨rfl, rfl⟩)
        | (go_at_call 37; (with_reducible refine hS.out.mono ?_); rintro e w3 ⟨rfl, ⟨Q3, g1, g2⟩, g3, g4⟩))
      obtain ⟨e2, e3, hq, hk, _⟩ := HX.out
      rw [e2] at g3
      have s4 := g4.size
      go_roundw
      case rel =>
        refine ⟨I + 1, _, _, Q3, j, by omega, by go_num, e3, g1, fun b hb => ?_, by rw [Int.natCast_add, ← Int.add_assoc]; exact g3, hk.step g4 fun b hlt hb => ?_⟩
        · rcases g2 b hb with h | h
          · exact hq b h
          · exact .inr (by omega)
        · rcases hb with hb | hb
          · exact .inl ((hq b hb).resolve_right (by omega))
          · exact .inr hb
      case measure => simp [intOf]; omega
theorem here_any (w : World) : Calls Tryz.prog 12 #[] w fun e w' => e = .returned (mapV hereM) ∧ Below w.heap.size w w' := by
  go_enter Tryz.func12, Tryz.ntmps12
  go_wp2
  exact bodyPost_ret (v := mapV hereM) (results_cell_row rfl _ _ w.heap.size 24 #[.int .i64 8, .int .i64 1, .int .i64 2] (0, 0) _ rfl (Blk.new w 24 _) Tryz.underlying24 rfl (by kernel_rfl)) rfl ⟨rfl, by go_grown⟩
theorem monitor_any (k : Int) (w : World) (h : 0 ≤ k ∧ k ≤ 10) : Calls Tryz.prog 128 #[mapV hereM, .int .i64 k] w fun e w' => e = .returned (.int .i64 (51 + 8 * k)) ∧ Below w.heap.size w w' := by
  rw [show mapV hereM = .agg #[.int .i64 8, .int .i64 1, .int .i64 2] from rfl]
  go_enter Tryz.func128, Tryz.ntmps128
  go_wp2
  go_ret
  exact ⟨rfl, by go_grown⟩
theorem entry_any (k : Int) (w : World) (h : 0 ≤ k ∧ k ≤ 10) : Calls Tryz.prog 82 #[mapV hereM, .int .i64 k] w fun e w' => e = .returned (.int .i64 (51 + 8 * k + 2)) ∧ Below w.heap.size w w' := by
  have HT := Lib.hid fun W => monitor_any k W h
  go_enter Tryz.func82, Tryz.ntmps82
  go_wp2_with (go_at_call 128; refine (HT.out _).mono ?_; rintro e w2 ⟨rfl, b2⟩)
  go_ret
  exact ⟨rfl, ((Below.refl _ w).alloc (Nat.le_refl _) _).trans (b2.mono (by simp))⟩
theorem wait_any (k : Int) (w : World) (h : 0 ≤ k ∧ k ≤ 10) : Calls Tryz.prog 95 #[mapV hereM, .int .i64 k] w fun e w' => e = .returned (.int .i64 (51 + 8 * k + 4)) ∧ Below w.heap.size w w' := by
  have HT := Lib.hid fun W => monitor_any k W h
  go_enter Tryz.func95, Tryz.ntmps95
  go_wp2_with (go_at_call 128; refine (HT.out _).mono ?_; rintro e w2 ⟨rfl, b2⟩)
  go_ret
  exact ⟨rfl, ((Below.refl _ w).alloc (Nat.le_refl _) _).trans (b2.mono (by simp))⟩
theorem place_any (k : Nat) (w : World) (h : k < 4) {kI : Int} (hk : kI = k) : Calls Tryz.prog 16 #[.int .i64 kI] w fun e w' => e = .returned (.int .i64 (placeN k : Int)) ∧ Below w.heap.size w w' := by
  subst hk
  have HE0 := Lib.hid fun W => entry_any 0 W (by decide)
  have HE1 := Lib.hid fun W => entry_any 1 W (by decide)
  have HW0 := Lib.hid fun W => wait_any 0 W (by decide)
  have HW1 := Lib.hid fun W => wait_any 1 W (by decide)
  have hc : k = 0 ∨ k = 1 ∨ k = 2 ∨ k = 3 := by omega
  clear h
  rcases hc with rfl | rfl | rfl | rfl
  · rw [show ((0 : Nat) : Int) = 0 from rfl, show ((placeN 0 : Nat) : Int) = 51 + 8 * 0 + 2 from rfl]
    go_enter Tryz.func16, Tryz.ntmps16
    go_wp2_with (first | (go_at_call 12; refine (here_any _).mono ?_; rintro e w2 ⟨rfl, b2⟩) | (go_at_call 82; refine (HE0.out _).mono ?_; rintro e w3 ⟨rfl, b3⟩))
    go_ret
    exact ⟨rfl, b2.trans (b3.mono b2.size)⟩
  · rw [show ((1 : Nat) : Int) = 1 from rfl, show ((placeN 1 : Nat) : Int) = 51 + 8 * 0 + 4 from rfl]
    go_enter Tryz.func16, Tryz.ntmps16
    go_wp2_with (first | (go_at_call 12; refine (here_any _).mono ?_; rintro e w2 ⟨rfl, b2⟩) | (go_at_call 95; refine (HW0.out _).mono ?_; rintro e w3 ⟨rfl, b3⟩))
    go_ret
    exact ⟨rfl, b2.trans (b3.mono b2.size)⟩
  · rw [show ((2 : Nat) : Int) = 2 from rfl, show ((placeN 2 : Nat) : Int) = 51 + 8 * 1 + 2 from rfl]
    go_enter Tryz.func16, Tryz.ntmps16
    go_wp2_with (first | (go_at_call 12; refine (here_any _).mono ?_; rintro e w2 ⟨rfl, b2⟩) | (go_at_call 82; refine (HE1.out _).mono ?_; rintro e w3 ⟨rfl, b3⟩))
    go_ret
    exact ⟨rfl, b2.trans (b3.mono b2.size)⟩
  · rw [show ((3 : Nat) : Int) = 3 from rfl, show ((placeN 3 : Nat) : Int) = 51 + 8 * 1 + 4 from rfl]
    go_enter Tryz.func16, Tryz.ntmps16
    go_wp2_with (first | (go_at_call 12; refine (here_any _).mono ?_; rintro e w2 ⟨rfl, b2⟩) | (go_at_call 95; refine (HW1.out _).mono ?_; rintro e w3 ⟨rfl, b3⟩))
    go_ret
    exact ⟨rfl, b2.trans (b3.mono b2.size)⟩
/-- the laws' cells, with four queues -/
structure WQ (w : World) (C S : Nat) (mm : List Int) (n : Int) (L : Nat → List Int) : Prop where
  cells : CellsAt w C S mm n
  qs : QS mm L
theorem WQ.keep {w w1 : World} {C S : Nat} {mm : List Int} {n : Int} {L : Nat → List Int} {F : Nat → Prop} (h : WQ w C S mm n L) (hk : Keep F w w1) (h1 : ¬ F C) (h2 : ¬ F S) : WQ w1 C S mm n L := ⟨h.cells.keep hk h1 h2, h.qs⟩
theorem WQ.below {w w1 : World} {C S : Nat} {mm : List Int} {n : Int} {L : Nat → List Int} (h : WQ w C S mm n L) (hb : Below w.heap.size w w1) : WQ w1 C S mm n L := h.keep (F := fun _ => False) (Keep.ofBelow hb) (fun h => h) (fun h => h)
theorem fit_place (k : Nat) {N : Nat} (h : N = 67) : fitS hereM (N : Int) (placeN k : Int) = true := by
  subst h
  rcases place_cases k with e | e | e | e <;> rw [e] <;> decide
theorem qpush_any {w : World} {C S : Nat} {mm : List Int} {n : Int} {L : Nat → List Int} (h : WQ w C S mm n L) (k : Nat) (t : Int) (ht : 0 ≤ t ∧ t < 8) :
    Calls Tryz.prog 20 #[cellsV C, mapV hereM, .int .i64 (placeN k : Int), .int .i64 t] w fun e w' => ∃ t', e = .returned (pV t') ∧ MadeM (cellOps C 0) w (fun b => w.heap.size ≤ b) (pushT hereM (placeN k) t) t' w' := by
  have hl := h.qs.len
  refine push_yes C 0 (placeN k) hereM mm.length t (fun b => w.heap.size ≤ b) w here_ok ht (by have := place_cases k; omega) (fun W hW => len_any C S mm n W (h.cells.keep (Keep.ofBelow (Q := fun _ => False) hW) (fun h => h) (fun h => h))) (fun W B hB hc => ?_) (fun _ h => h)
  have := qright_one hereM mm.length (placeN k) t B W here_ok ⟨by omega, by omega⟩ ht hB hc
  rw [fit_place k hl] at this
  exact this
theorem qrem_any {w : World} {C S : Nat} {mm : List Int} {n : Int} {L : Nat → List Int} (h : WQ w C S mm n L) (k : Nat) (t : Int) (ht : 0 ≤ t ∧ t < 8) :
    Calls Tryz.prog 24 #[cellsV C, mapV hereM, .int .i64 (placeN k : Int), .int .i64 t] w fun e w' => ∃ t', e = .returned (pV t') ∧ MadeM (cellOps C 0) w (fun b => w.heap.size ≤ b) (remT hereM (placeN k) t (-1) []) t' w' := by
  have hl := h.qs.len
  refine rem_yes C 0 (placeN k) hereM mm.length t (fun b => w.heap.size ≤ b) w here_ok ht (by have := place_cases k; omega) (fun W hW => len_any C S mm n W (h.cells.keep (Keep.ofBelow (Q := fun _ => False) hW) (fun h => h) (fun h => h))) (fun W B hB hc => ?_) (fun _ h => h)
  have := qright_one hereM mm.length (placeN k) t B W here_ok ⟨by omega, by omega⟩ ht hB hc
  rw [fit_place k hl] at this
  exact this
theorem qpop_any {w : World} {C S : Nat} {mm : List Int} {n : Int} {L : Nat → List Int} (h : WQ w C S mm n L) (k : Nat) :
    Calls Tryz.prog 22 #[cellsV C, mapV hereM, .int .i64 (placeN k : Int)] w fun e w' => ∃ t', e = .returned (pV t') ∧ MadeM (cellOps C 0) w (fun b => w.heap.size ≤ b) (popT hereM (placeN k)) t' w' := by
  have hl := h.qs.len
  refine pop_yes C 0 (placeN k) hereM mm.length (fun b => w.heap.size ≤ b) w here_ok (by have := place_cases k; omega) (fun W hW => len_any C S mm n W (h.cells.keep (Keep.ofBelow (Q := fun _ => False) hW) (fun h => h) (fun h => h))) (fun W => ?_) (fun _ h => h)
  have := qright_none hereM mm.length (placeN k) W here_ok ⟨by omega, by omega⟩
  rw [fit_place k hl] at this
  exact this
theorem qlook_any {w : World} {C S : Nat} {mm : List Int} {n : Int} {L : Nat → List Int} (h : WQ w C S mm n L) (k : Nat) (hk : k < 4) :
    Calls Tryz.prog 29 #[cellsV C, mapV hereM, .int .i64 (placeN k : Int)] w fun e w' => ∃ v, e = .returned v ∧ RowN w' (fun b => w.heap.size ≤ b) v (L k) ∧ Below w.heap.size w w' :=
  look_yes C S (placeN k) hereM mm (L k) n w here_ok h.cells (h.qs.chain hk) (fit_place k h.qs.len) (by have := place_cases k; omega) (by intro e; have := h.qs.len; rw [e] at this; simp at this)
/-- a new task, to its end -/
theorem qrun_any {w w1 : World} {C S t' : Nat} {mm mm' : List Int} {n v : Int} {L : Nat → List Int} {T : Tre Itm} (h : WQ w C S mm n L) (hM : MadeM (cellOps C 0) w (fun b => w.heap.size ≤ b) T t' w1) {c most : Nat} (hG : Goes mm T c mm' v) (hc : c ≤ most) (hm : most ≤ 1000) (hn : 0 ≤ n ∧ n ≤ 1000000) {mI : Int} (hI : mI = most) :
    Calls Tryz.prog 26 #[pV t', .int .i64 mI] w1 fun e w' => e = .returned (.int .i64 c) ∧ (∃ Q', TkM (cellOps C 0) w' t' Q' (retT v) ∧ ∀ b, Q' b → w.heap.size ≤ b) ∧ CellsAt w' C S mm' (n + c) ∧ Keep (fun b => w.heap.size ≤ b ∨ ofCells C S b) w1 w' := by
  obtain ⟨M, hJ⟩ := hM.2.1
  have hT : TkM (cellOps C 0) w1 t' (fun b => w.heap.size ≤ b ∧ b < w1.heap.size) T := TkM.new hJ hM.1
  have hC := h.cells.keep (Keep.ofBelow (Q := fun _ => False) hM.2.2) (fun h => h) (fun h => h)
  have l1 := h.cells.own.lt
  have l2 := h.cells.row.lt
  refine (qendsM_any C 0 S t' _ T c most mm mm' v n w1 hG hc hm hT hC (fun b hb => by omega) hn hI).mono ?_
  rintro e w' ⟨rfl, ⟨Q', h1, h2⟩, h3, h4⟩
  have s := hM.2.2.size
  refine ⟨rfl, ⟨Q', h1, fun b hb => ?_⟩, h3, h4.mono fun b _ hb => hb.imp (fun h => h.1) id⟩
  rcases h2 b hb with h | h <;> omega
theorem lawpush {w : World} {C S : Nat} {mm : List Int} {n : Int} {L : Nat → List Int} (h : WQ w C S mm n L) (k : Nat) (hk : k < 4) (t : Int) (ht : 0 ≤ t ∧ t < 8) (hn : ∀ j, j < 4 → t ∉ L j) (h0 : 0 ≤ n ∧ n ≤ 100000) :
    Calls Tryz.prog 92 #[cellsV C, mapV hereM, .int .i64 (placeN k : Int), .int .i64 t] w fun e w' => e = .returned (.int .i64 0) ∧ (∃ mm' n', WQ w' C S mm' n' (updL L k (L k ++ [t])) ∧ n ≤ n' ∧ n' ≤ n + 50) ∧ Keep (ofCells C S) w w' := by
  obtain ⟨c, mm', hc, G, hq, _⟩ := h.qs.push hk ht hn
  have hb0 : Below w.heap.size w (w.alloc (.cells #[.int .i64 (hereM.t : Int), .int .i64 (hereM.o : Int), .int .i64 (hereM.n : Int)] 24)) := (Below.refl _ w).alloc (Nat.le_refl _) _
  have HP := Lib.hid (qpush_any (h.below hb0) k t ht)
  have HE := Lib.hid fun w1 t' (hM : MadeM (cellOps C 0) _ _ _ t' w1) => qrun_any (h.below hb0) hM G (Nat.le_trans hc (by omega : 5 ≤ 50)) (by omega) ⟨h0.1, by omega⟩ (mI := 50) rfl
  have HQ := Lib.hid hq
  clear h hq G hn ht
  go_enter Tryz.func92, Tryz.ntmps92
  go_wp2_with (first
    | (go_at_call 20; (with_reducible refine HP.out.mono ?_); rintro e w1 ⟨t', rfl, hM⟩; have HE2 := Lib.hid (HE.out w1 t' hM))
    | (go_at_call 26; (with_reducible refine HE2.out.mono ?_); rintro e w2 ⟨rfl, ⟨Q', g1, g2⟩, g3, g4⟩; have HV := Lib.hid (tvalueM_ret t' Q' 0 w2 g1))
    | (go_at_call 27; (with_reducible refine HV.out.mono ?_); rintro e w3 ⟨rfl, rfl⟩))
  go_ret
  refine ⟨rfl, ⟨mm', n + c, ⟨g3, HQ.out⟩, by omega, by omega⟩, ?_⟩
  have k1 : Keep (ofCells C S) w w1 := (Keep.ofBelow hb0).trans (Keep.ofBelow hM.2.2)
  exact k1.step g4 fun i hi hh => hh.elim (fun hh => by rw [World.size_alloc] at hh; omega) id
theorem lawrem {w : World} {C S : Nat} {mm : List Int} {n : Int} {L : Nat → List Int} (h : WQ w C S mm n L) (k : Nat) (hk : k < 4) (t : Int) (ht : 0 ≤ t ∧ t < 8) (h0 : 0 ≤ n ∧ n ≤ 100000) :
    Calls Tryz.prog 93 #[cellsV C, mapV hereM, .int .i64 (placeN k : Int), .int .i64 t] w fun e w' => e = .returned (.int .i64 (if t ∈ L k then 1 else 0)) ∧ (∃ mm' n', WQ w' C S mm' n' (updL L k ((L k).filter (· ≠ t))) ∧ n ≤ n' ∧ n' ≤ n + 50) ∧ Keep (ofCells C S) w w' := by
  obtain ⟨c, mm', hc, G, hq, _⟩ := h.qs.rem hk ht
  have hlen : (L k).length ≤ 8 := nodup_len0 (k := 8) (h.qs.thr k hk).1 (h.qs.thr k hk).2
  have hb0 : Below w.heap.size w (w.alloc (.cells #[.int .i64 (hereM.t : Int), .int .i64 (hereM.o : Int), .int .i64 (hereM.n : Int)] 24)) := (Below.refl _ w).alloc (Nat.le_refl _) _
  have HP := Lib.hid (qrem_any (h.below hb0) k t ht)
  have HE := Lib.hid fun w1 t' (hM : MadeM (cellOps C 0) _ _ _ t' w1) => qrun_any (h.below hb0) hM G (show c ≤ 50 by omega) (by omega) ⟨h0.1, by omega⟩ (mI := 50) rfl
  have HQ := Lib.hid hq
  have hc2 : c ≤ 50 := by omega
  generalize (if t ∈ L k then (1 : Int) else 0) = rv at *
  clear h hq G ht hlen hc
  go_enter Tryz.func93, Tryz.ntmps93
  go_wp2_with (first
    | (go_at_call 24; (with_reducible refine HP.out.mono ?_); rintro e w1 ⟨t', rfl, hM⟩; have HE2 := Lib.hid (HE.out w1 t' hM))
    | (go_at_call 26; (with_reducible refine HE2.out.mono ?_); rintro e w2 ⟨rfl, ⟨Q', g1, g2⟩, g3, g4⟩; have HV := Lib.hid (tvalueM_ret t' Q' rv w2 g1))
    | (go_at_call 27; (with_reducible refine HV.out.mono ?_); rintro e w3 ⟨rfl, rfl⟩))
  go_ret
  refine ⟨rfl, ⟨mm', n + c, ⟨g3, HQ.out⟩, by omega, by omega⟩, ?_⟩
  have k1 : Keep (ofCells C S) w w1 := (Keep.ofBelow hb0).trans (Keep.ofBelow hM.2.2)
  exact k1.step g4 fun i hi hh => hh.elim (fun hh => by rw [World.size_alloc] at hh; omega) id
theorem lawpop {w : World} {C S : Nat} {mm : List Int} {n : Int} {L : Nat → List Int} (h : WQ w C S mm n L) (k : Nat) (hk : k < 4) (h0 : 0 ≤ n ∧ n ≤ 100000) :
    Calls Tryz.prog 94 #[cellsV C, mapV hereM, .int .i64 (placeN k : Int)] w fun e w' => e = .returned (.int .i64 (if L k = [] then -1 else (L k).headD 0)) ∧ (∃ mm' n', WQ w' C S mm' n' (updL L k (L k).tail) ∧ n ≤ n' ∧ n' ≤ n + 50) ∧ Keep (ofCells C S) w w' := by
  obtain ⟨c, mm', hc, G, hq, _⟩ := h.qs.pop hk
  have hb0 : Below w.heap.size w (w.alloc (.cells #[.int .i64 (hereM.t : Int), .int .i64 (hereM.o : Int), .int .i64 (hereM.n : Int)] 24)) := (Below.refl _ w).alloc (Nat.le_refl _) _
  have HP := Lib.hid (qpop_any (h.below hb0) k)
  have HE := Lib.hid fun w1 t' (hM : MadeM (cellOps C 0) _ _ _ t' w1) => qrun_any (h.below hb0) hM G (Nat.le_trans hc (by omega : 4 ≤ 50)) (by omega) ⟨h0.1, by omega⟩ (mI := 50) rfl
  have HQ := Lib.hid hq
  generalize (if L k = [] then (-1 : Int) else (L k).headD 0) = rv at *
  clear h hq G
  go_enter Tryz.func94, Tryz.ntmps94
  go_wp2_with (first
    | (go_at_call 22; (with_reducible refine HP.out.mono ?_); rintro e w1 ⟨t', rfl, hM⟩; have HE2 := Lib.hid (HE.out w1 t' hM))
    | (go_at_call 26; (with_reducible refine HE2.out.mono ?_); rintro e w2 ⟨rfl, ⟨Q', g1, g2⟩, g3, g4⟩; have HV := Lib.hid (tvalueM_ret t' Q' rv w2 g1))
    | (go_at_call 27; (with_reducible refine HV.out.mono ?_); rintro e w3 ⟨rfl, rfl⟩))
  go_ret
  refine ⟨rfl, ⟨mm', n + c, ⟨g3, HQ.out⟩, by omega, by omega⟩, ?_⟩
  have k1 : Keep (ofCells C S) w w1 := (Keep.ofBelow hb0).trans (Keep.ofBelow hM.2.2)
  exact k1.step g4 fun i hi hh => hh.elim (fun hh => by rw [World.size_alloc] at hh; omega) id
end Go.Proofs.YtldofbkjjmnooaaGreat
/- Layer 10's laws: what is done with four queues whose threads are written out. -/
namespace Go.Proofs.YtldofbkjjmnooaaGreat
open Go.ChangeShapes Go.WideShapes Go.ChangeAt Go.RowKit
set_option linter.unusedVariables false
set_option maxRecDepth 100000
set_option linter.unusedSimpArgs false
def L4 (a b c d : List Int) : Nat → List Int
  | 0 => a
  | 1 => b
  | 2 => c
  | _ => d
theorem four {j : Nat} (h : j < 4) : j = 0 ∨ j = 1 ∨ j = 2 ∨ j = 3 := by omega
theorem l4_0 (a b c d x : List Int) : ∀ j, j < 4 → updL (L4 a b c d) 0 x j = L4 x b c d j := fun j h => by rcases four h with rfl | rfl | rfl | rfl <;> rfl
theorem l4_1 (a b c d x : List Int) : ∀ j, j < 4 → updL (L4 a b c d) 1 x j = L4 a x c d j := fun j h => by rcases four h with rfl | rfl | rfl | rfl <;> rfl
theorem l4_3 (a b c d x : List Int) : ∀ j, j < 4 → updL (L4 a b c d) 3 x j = L4 a b c x j := fun j h => by rcases four h with rfl | rfl | rfl | rfl <;> rfl
theorem l4_not {a b c d : List Int} {t : Int} (h0 : t ∉ a) (h1 : t ∉ b) (h2 : t ∉ c) (h3 : t ∉ d) : ∀ j, j < 4 → t ∉ L4 a b c d j := fun j h => by rcases four h with rfl | rfl | rfl | rfl <;> assumption
theorem QS.ext {mm : List Int} {L L' : Nat → List Int} (h : QS mm L) (e : ∀ j, j < 4 → L j = L' j) : QS mm L' :=
  ⟨h.len, fun k hk => e k hk ▸ h.is k hk, fun k hk => e k hk ▸ h.thr k hk, fun j k hj hk hjk u hu => by rw [← e j hj] at hu; rw [← e k hk]; exact h.apart j k hj hk hjk u hu⟩
theorem WQ.ext {w : World} {C S : Nat} {mm : List Int} {n : Int} {L L' : Nat → List Int} (h : WQ w C S mm n L) (e : ∀ j, j < 4 → L j = L' j) : WQ w C S mm n L' := ⟨h.cells, h.qs.ext e⟩
section
variable {w : World} {C S : Nat} {mm : List Int} {n : Int} {L : Nat → List Int}
/-- after a call on the queues -/
def Aft (w w' : World) (C S : Nat) (n b : Int) (L' : Nat → List Int) : Prop := (∃ mm' n', WQ w' C S mm' n' L' ∧ 0 ≤ n' ∧ n' ≤ b + 50) ∧ Keep (ofCells C S) w w'
theorem vpush {aI : Int} (b : Int) (k : Nat) (hk : k < 4) (ha : aI = (placeN k : Nat)) (t : Int) (ht : 0 ≤ t ∧ t < 8) (L' : Nat → List Int) (hL : ∀ j, j < 4 → updL L k (L k ++ [t]) j = L' j) (hn : ∀ j, j < 4 → t ∉ L j) (h : WQ w C S mm n L) (h0 : 0 ≤ n ∧ n ≤ b) (hb : b ≤ 100000) :
    Calls Tryz.prog 92 #[cellsV C, mapV hereM, .int .i64 aI, .int .i64 t] w fun e w' => e = .returned (.int .i64 0) ∧ Aft w w' C S n b L' := by
  subst ha
  refine (lawpush h k hk t ht hn ⟨h0.1, by omega⟩).mono ?_
  rintro e w' ⟨rfl, ⟨mm', n', h1, h2, h3⟩, h4⟩
  exact ⟨rfl, ⟨mm', n', h1.ext hL, by omega, by omega⟩, h4⟩
theorem vrem {aI : Int} (b : Int) (k : Nat) (hk : k < 4) (ha : aI = (placeN k : Nat)) (t v : Int) (ht : 0 ≤ t ∧ t < 8) (L' : Nat → List Int) (hv : (if t ∈ L k then (1 : Int) else 0) = v) (hL : ∀ j, j < 4 → updL L k ((L k).filter (· ≠ t)) j = L' j) (h : WQ w C S mm n L) (h0 : 0 ≤ n ∧ n ≤ b) (hb : b ≤ 100000) :
    Calls Tryz.prog 93 #[cellsV C, mapV hereM, .int .i64 aI, .int .i64 t] w fun e w' => e = .returned (.int .i64 v) ∧ Aft w w' C S n b L' := by
  subst ha
  subst hv
  refine (lawrem h k hk t ht ⟨h0.1, by omega⟩).mono ?_
  rintro e w' ⟨rfl, ⟨mm', n', h1, h2, h3⟩, h4⟩
  exact ⟨rfl, ⟨mm', n', h1.ext hL, by omega, by omega⟩, h4⟩
theorem vpop {aI : Int} (b : Int) (k : Nat) (hk : k < 4) (ha : aI = (placeN k : Nat)) (v : Int) (L' : Nat → List Int) (hv : (if L k = [] then (-1 : Int) else (L k).headD 0) = v) (hL : ∀ j, j < 4 → updL L k (L k).tail j = L' j) (h : WQ w C S mm n L) (h0 : 0 ≤ n ∧ n ≤ b) (hb : b ≤ 100000) :
    Calls Tryz.prog 94 #[cellsV C, mapV hereM, .int .i64 aI] w fun e w' => e = .returned (.int .i64 v) ∧ Aft w w' C S n b L' := by
  subst ha
  subst hv
  refine (lawpop h k hk ⟨h0.1, by omega⟩).mono ?_
  rintro e w' ⟨rfl, ⟨mm', n', h1, h2, h3⟩, h4⟩
  exact ⟨rfl, ⟨mm', n', h1.ext hL, by omega, by omega⟩, h4⟩
theorem vlook {aI : Int} (k : Nat) (hk : k < 4) (ha : aI = (placeN k : Nat)) (l : List Int) (hl : L k = l) (N : Nat) (hN : N = l.length) (h : WQ w C S mm n L) :
    Calls Tryz.prog 29 #[cellsV C, mapV hereM, .int .i64 aI] w fun e w' => ∃ a c, e = .returned (.slice a N c) ∧ RowN w' (fun b => w.heap.size ≤ b) (.slice a N c) l ∧ Below w.heap.size w w' := by
  subst ha
  subst hN
  subst hl
  refine (qlook_any h k hk).mono ?_
  rintro e w' ⟨v, rfl, h1, h2⟩
  obtain ⟨a, c, rfl, _⟩ := id h1
  exact ⟨a, c, rfl, h1, h2⟩
theorem vload {aI : Int} (b : Int) (i : Nat) (c : Int) (ha : aI = i) (hi : mm[i]? = some c) (h : WQ w C S mm n L) (h0 : 0 ≤ n ∧ n ≤ b) (hb : b ≤ 100000) :
    Calls Tryz.prog 86 #[cellsV C, .int .i64 aI] w fun e w' => e = .returned (.int .u64 c) ∧ (WQ w' C S mm (n + 1) L ∧ 0 ≤ n + 1 ∧ n + 1 ≤ b + 50) ∧ Keep (ofCells C S) w w' := by
  subst ha
  refine (load_yes C S mm n i c w h.cells hi h0.1 (by omega)).mono ?_
  rintro e w' ⟨rfl, h1, h2⟩
  exact ⟨rfl, ⟨⟨h1, h.qs⟩, by omega, by omega⟩, h2⟩
end
theorem vnew (w : World) {aI : Int} (ha : aI = (sizeN hereM : Nat)) : Calls Tryz.prog 13 #[.int .i64 aI] w fun e w' => ∃ C S mm, e = .returned (cellsV C) ∧ WQ w' C S mm 0 (L4 [] [] [] []) ∧ Below w.heap.size w w' ∧ w.heap.size ≤ C ∧ w.heap.size ≤ S := by
  subst ha
  refine (new_some 67 w (by omega)).mono ?_
  rintro e w' ⟨rfl, h1, h2⟩
  exact ⟨_, _, _, rfl, ⟨h1, (QS.none _ rfl).ext fun j h => by rcases four h with rfl | rfl | rfl | rfl <;> rfl⟩, h2, by omega, by omega⟩
/-- rows that are written out -/
theorem row_lit (w : World) (l : List Int) (cs : Array Value) (h : cs = (l.map (Value.int .i64)).toArray) : RowN (w.alloc (.cells cs 3)) (fun b => b = w.heap.size) (.slice (some ⟨w.heap.size, 0, none⟩) l.length l.length) l := by
  subst h
  refine ⟨_, _, rfl, Nat.le_refl _, fun i x hx => ⟨w.heap.size, 0, rfl, rfl, by simp, ?_⟩⟩
  rw [Nat.zero_add]
  exact (Blk.new w 3 _).cell i _ (by rw [List.getElem?_toArray, List.getElem?_map, hx]; rfl)
theorem vints (v : Value) (l : List Int) (N : Nat → Prop) (w : World) (cs : Array Value) (h : RowN w N v l) (hl : l.length ≤ 100) (hcs : cs = (l.map (Value.int .i64)).toArray) {k : Nat} (hk : k = l.length) :
    Calls Tryz.prog 28 #[v, .slice (some ⟨w.heap.size, 0, none⟩) k k] (w.alloc (.cells cs 3)) fun e w' => e = .returned (.bool true) ∧ Below w.heap.size w w' := by
  subst hk
  have k0 : Keep (fun _ => False) w (w.alloc (.cells cs 3)) := (Keep.refl _ _).alloc _
  refine (qints_same v _ N _ l _ (h.keep k0 (fun _ _ h => h)) (row_lit w l cs hcs) (by omega)).mono ?_
  rintro e w' ⟨rfl, hb⟩
  exact ⟨rfl, ((Below.refl _ w).alloc (Nat.le_refl _) _).trans (hb.mono (by simp))⟩
/-- a thread that is none -/
theorem vpush_no {w : World} {C S : Nat} {mm : List Int} {n : Int} {L : Nat → List Int} {aI : Int} (k : Nat) (t : Int) (ht : t = 8 ∨ t = -1 ∨ ¬ (0 ≤ t ∧ t < 8)) (ha : aI = (placeN k : Nat)) (hk : k < 4) (h : WQ w C S mm n L) :
    Calls Tryz.prog 92 #[cellsV C, mapV hereM, .int .i64 aI, .int .i64 t] w fun e w' => e = .returned (.int .i64 (-1)) ∧ Below w.heap.size w w' := by
  have ht2 : ¬ (0 ≤ t ∧ t < 8) := by omega
  have hl := h.qs.len
  have hb0 : Below w.heap.size w (w.alloc (.cells #[.int .i64 (hereM.t : Int), .int .i64 (hereM.o : Int), .int .i64 (hereM.n : Int)] 24)) := (Below.refl _ w).alloc (Nat.le_refl _) _
  have h2 := h.below hb0
  generalize hV : w.alloc (.cells #[.int .i64 (hereM.t : Int), .int .i64 (hereM.o : Int), .int .i64 (hereM.n : Int)] 24) = V at *
  have HP := Lib.hid (push_no C 0 (cellsV C) (hereM.t : Int) (hereM.o : Int) (hereM.n : Int) aI mm.length t (fun b => V.heap.size ≤ b) V (.inr ⟨C, rfl⟩) (fun W hW => len_any C S mm n W (h2.cells.keep (Keep.ofBelow (Q := fun _ => False) hW) (fun h => h) (fun h => h))) (fun W B hB hc => qright_one_out _ _ _ _ _ t B W ht2 hB hc) (fun _ h => h))
  have HE := Lib.hid fun w1 t' (hM : MadeM (cellOps C 0) V (fun b => V.heap.size ≤ b) (retT (-1)) t' w1) => (show Calls Tryz.prog 26 #[pV t', .int .i64 50] w1 fun e w' => e = .returned (.int .i64 0) ∧ w' = w1 ∧ DoneV w1 (some ⟨t', 0, none⟩) (-1) from by
    obtain ⟨M, hJ⟩ := hM.2.1
    have hT : TkM (cellOps C 0) w1 t' (fun b => V.heap.size ≤ b ∧ b < w1.heap.size) (retT (-1)) := TkM.new hJ hM.1
    have hD := Lib.hid (tdoneM_ret t' _ (-1) w1 hT)
    have HDv := Lib.hid hT.done
    clear hT hJ hM
    go_enter Tryz.func26, Tryz.ntmps26
    go_wp2_with fail
    go_loopw [5] (fun v5 wr => v5 = .int .i64 0 ∧ wr = w1) (fun v5 _ => 0)
    case atStart => exact ⟨rfl, rfl⟩
    case round =>
      obtain ⟨rfl, rfl⟩ := hrel
      go_wp2_with (go_at_call 38; (with_reducible refine hD.out.mono ?_); rintro e w2 ⟨rfl, rfl⟩)
      go_ret
      exact ⟨rfl, rfl, HDv.out⟩)
  clear h h2 ht ht2 ha hl
  have mV : Blk V w.heap.size 24 #[.int .i64 (hereM.t : Int), .int .i64 (hereM.o : Int), .int .i64 (hereM.n : Int)] := by rw [← hV]; exact Blk.new w _ _
  have d0 := mV.cell 0 _ rfl
  have d1 := mV.cell 1 _ rfl
  have d2 := mV.cell 2 _ rfl
  go_enter Tryz.func92, Tryz.ntmps92
  go_upto_region 1 with fail
  (try rw [hV])
  clear hV mV
  go_wp2_with (first
    | (go_at_call 20; (with_reducible refine HP.out.mono ?_); rintro e w1 ⟨t', rfl, hM⟩; have HE2 := Lib.hid (HE.out w1 t' hM))
    | (go_at_call 26; (with_reducible refine HE2.out.mono ?_); rintro e w2 ⟨rfl, rfl, hd⟩; have HV := Lib.hid (doneV_value _ (-1) w2 hd))
    | (go_at_call 27; (with_reducible refine HV.out.mono ?_); rintro e w3 ⟨rfl, rfl⟩))
  go_ret
  exact ⟨rfl, hb0.trans (hM.2.2.mono hb0.size)⟩
end Go.Proofs.YtldofbkjjmnooaaGreat
