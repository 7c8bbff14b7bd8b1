/- Package task: what follows in a list of tasks; Seq. -/
import Derived.Test.YtpejmkoheodblaaGreatTaskH
import Derived.Test.YtpejmkoheodblaaGreatRowsOwn
namespace Go.Proofs.YtpejmkoheodblaaGreat
open Go.ChangeShapes Go.WideShapes Go.ChangeAt Go.RowKit
set_option linter.unusedVariables false
set_option maxRecDepth 100000
set_option linter.unusedSimpArgs false
theorem order1_more (C P : Nat) (Q : Nat → Prop) (L : List (Option Addr × List Itm)) (bl B o cap : Nat) (v : Int) (w : World) (hL : L ≠ []) (hb : Blk w bl 59 #[.slice (some ⟨B, o, none⟩) (L.length + 1) cap])
    (hB : Q B) (hR : RowAt (Cont w C P Q) w C P Q B (o + 1) L) (hn : L.length ≤ 1000) (hc : L.length + 1 ≤ cap) (hm : cap ≤ maxLen) (hQ : ∀ k, w.heap.size ≤ k → Q k) :
    Calls Tryz.prog 128 #[.int .i64 v, pV bl] w fun e w' => ∃ t, e = .returned (pV t) ∧ ∃ r v, Made6 w C P Q r v t w' ∧ Res6 L r v := by
  have c0 : w.cell? ⟨bl, 0, none⟩ = some (.slice (some ⟨B, o, none⟩) (L.length + 1) cap) := hb.cell 0 _ rfl
  have h1 : 1 ≤ L.length := by
    cases L with
    | nil => exact absurd rfl hL
    | cons x L => simp
  have hsl := slice_from B o (L.length + 1) cap (by omega) (by omega)
  have HH := Lib.hid (inOrder_any C P Q L (some ⟨B, o + 1, none⟩) (cap - 1) w (fun _ => ⟨B, o + 1, rfl, hB, hR⟩) hn (by omega) (by omega) hQ)
  clear hR hB hQ hm hc hb
  simp only [Nat.add_sub_cancel] at hsl
  generalize L.length = n at *
  go_enter Tryz.func128, Tryz.ntmps128
  go_wp2_with (go_at_call 107; refine HH.out.mono ?_; rintro e w2 ⟨t, r, v, rfl, h1, h2⟩)
  go_ret
  exact ⟨t, rfl, r, v, h1, h2⟩
/-- a continuation, called -/
theorem cont_call (C P : Nat) (Q : Nat → Prop) (f : Nat) (s : List Itm) (v : Int) (w : World) (h : Cont w C P Q f s) (hQ : ∀ k, w.heap.size ≤ k → Q k) :
    Calls Tryz.prog 113 #[.int .i64 v, pV f] w fun e w' => ∃ t, e = .returned (pV t) ∧ Made6 w C P Q (onS s v).1 (onS s v).2 t w' := by
  obtain ⟨h1, bl, B, o, cap, L, h2, h3, h4, h5, h6, h7, h8, h9, rfl⟩ := h.unfold
  refine then1_any f 128 #[pV bl] v w (fun t w' => Made6 w C P Q (onS (flat L) v).1 (onS (flat L) v).2 t w') h2 call_order1 fun w1 hb => ?_
  have hk : Keep (fun _ => False) w w1 := Keep.ofBelow hb
  have hsz := hb.size
  by_cases hL : L = []
  · subst hL
    refine (order1_last bl _ cap v w1 (h4.below hb h4.lt)).mono ?_
    rintro e w' ⟨t, rfl, g1, g2, g3⟩
    obtain ⟨k, e, g2⟩ := g2.resolve_left (fun h => by cases h.1)
    obtain rfl : t = k := by simpa using e
    exact ⟨t, rfl, by omega, ⟨_, _, _, _, g2, rfl, rfl, rfl, rfl⟩, hb.trans (g3.mono hsz)⟩
  · refine (order1_more C P Q L bl B o cap v w1 hL (h4.below hb h4.lt) (h5 hL) (h9.keep (fun f s h => h.keep hk (fun _ _ h => h) (fun _ _ h => h)) hk (fun _ _ h => h) (fun h => h) (fun _ _ h => h)) (by omega) h7 h8 (fun k hk => hQ k (by omega))).mono ?_
    rintro e w' ⟨t, rfl, r, v', ⟨g1, g2, g3⟩, g4⟩
    rcases g4 with ⟨g4, _⟩ | ⟨_, g4⟩
    · exact absurd g4 hL
    · refine ⟨t, rfl, by omega, ?_, hb.trans (g3.mono hsz)⟩
      rw [(g4.on v).1]
      exact TaskIn.value g2 _ (fun h => (g4.on v).2 h)
theorem addr_add (B o j : Nat) : (⟨B, o, none⟩ : Addr).add j = ⟨B, o + j, none⟩ := by
  simp only [Addr.add]
  split
  · next h => subst h; rfl
  · rfl
theorem ptask_info : (Tryz.prog.info? 40).map (fun i => (i.zero, i.size, i.bytes)) = some (some (.pointer none), 1, 8) := by kernel_rfl
theorem clone_nil (w : World) : Calls Tryz.prog 108 #[.slice none 0 0] w fun e w' => e = .returned (.slice none 0 0) ∧ w = w' := by
  have hq : ∀ W : World, (binOp .eql 59 (.slice none 0 0) (.slice none 0 0)).run Tryz.prog W = .ok (.bool true) W := by intro W; kernel_rfl
  go_enter Tryz.func108, Tryz.ntmps108
  go_wp2
  go_ret
  exact ⟨rfl, rfl⟩
theorem clone_any (L : List (Option Addr)) (B o cap : Nat) (w : World) (hne : L ≠ []) (hl : L.length ≤ 1000) (hc : ∀ i x, L[i]? = some x → w.cell? ⟨B, o + i, none⟩ = some (.pointer x)) :
    Calls Tryz.prog 108 #[.slice (some ⟨B, o, none⟩) L.length cap] w fun e w' => ∃ g cap', e = .returned (.slice (some ⟨g, 0, none⟩) L.length cap') ∧ w.heap.size ≤ g ∧ L.length ≤ cap' ∧ cap' ≤ maxLen ∧
      (∀ i x, L[i]? = some x → w'.cell? ⟨g, i, none⟩ = some (.pointer x)) ∧ (∃ cur, Blk w' g 40 cur) ∧ Below w.heap.size w w' := by
  obtain ⟨p0, hp0, hp1, hp2, hp3⟩ := info_parts ptask_info
  have HC := Lib.hid hc
  clear hc
  have hq : ∀ W : World, (binOp .eql 59 (.slice (some ⟨B, o, none⟩) L.length cap) (.slice none 0 0)).run Tryz.prog W = .ok (.bool false) W := by intro W; rfl
  have hown : Hid ((w.alloc (.cells #[] 40)).ownsRow w.heap.size 40 1 (.slice (some ⟨w.heap.size, 0, none⟩) 0 0) 0 []) := Lib.hid ⟨rfl, .inr ⟨w.heap.size, 0, #[], rfl, Nat.le_refl _, Blk.new w _ _, Nat.le_refl _, by unfold maxLen; omega, rfl, rfl⟩⟩
  have hpos : 0 < L.length := by
    cases L with
    | nil => exact absurd rfl hne
    | cons x L => simp
  have hcel : Hid (∀ (j : Nat) (u : Value), (L.map Value.pointer)[j]? = some u → (w.alloc (.cells #[] 40)).cell? ((⟨B, o, none⟩ : Addr).add j) = some u) := Lib.hid (by
    intro j u hu
    rw [List.getElem?_map] at hu
    obtain ⟨y, hy, rfl⟩ := Option.map_eq_some_iff.1 hu
    exact cell_keep6 (by rw [addr_add]; exact HC.out j y hy) ((Keep.refl (fun _ => False) w).alloc _) (fun h => h))
  have hone : Hid (∀ u ∈ L.map Value.pointer, u.oneCell' = true) := Lib.hid (by
    intro u hu
    obtain ⟨y, _, rfl⟩ := List.mem_map.1 hu
    rfl)
  have hlm : (L.map Value.pointer).length = L.length * 1 := by simp
  go_enter Tryz.func108, Tryz.ntmps108
  go_wp2_with (at_builtin; refine wpList_append_own2 _ rfl _ _ 59 rfl w.heap.size 40 p0 (.pointer none) 1 8 Tryz.underlying59 hp0 hp1 hp2 hp3 rfl (by decide) _ 0 [] rfl hown.out ⟨B, o, none⟩ L.length cap (L.map Value.pointer) rfl hlm hcel.out hone.out (by unfold maxLen; omega) (by omega) (by simp) hpos ?_; intro g cap' w5 hrow hgr hg)
  replace hgr : (w.alloc (.cells #[] 40)).grownBy w5 (some w.heap.size) := hgr
  replace hg : some w.heap.size = some g ∨ w.heap.size + 1 ≤ g := by
    rcases hg with h | h
    · exact .inl h
    · exact .inr (by simpa using h)
  have hgs := hgr.size
  simp only [World.size_alloc] at hgs
  have hge : w.heap.size ≤ g := by
    rcases hg with h | h
    · injection h with h; omega
    · omega
  simp only [Nat.zero_add, List.nil_append] at hrow
  have hcl : L.length ≤ cap' ∧ cap' ≤ maxLen := by
    rcases hrow.2 with ⟨h, _⟩ | ⟨g2, c2, cur, e, h1, h2, h3, h4, _⟩
    · cases h
    · obtain ⟨rfl, rfl⟩ : g = g2 ∧ cap' = c2 := by simpa using e
      exact ⟨h3, h4⟩
  go_ret
  refine ⟨g, cap', rfl, hge, hcl.1, hcl.2, fun i y hy => ?_, (row_lt hrow (g := g) rfl).2, ⟨hgr.os, hgr.tape, hgr.output, by omega, fun k hk => ?_⟩⟩
  · have := hrow.cells (g := g) rfl i (.pointer y) (by rw [List.getElem?_map, hy]; rfl)
    rw [addr_add, Nat.zero_add] at this
    exact this
  · rw [hgr.block k (by simp; omega) (fun e => by injection e with e; omega)]
    exact Below.heap_alloc w _ k hk
/-- the tasks of a row, one behind the other -/
theorem seq_any (C P : Nat) (Q : Nat → Prop) (L : List (Option Addr × List Itm)) (B o cap : Nat) (w : World) (hne : L ≠ []) (hl : L.length ≤ 1000) (hR : RowAt (Cont w C P Q) w C P Q B o L) (hQ : ∀ k, w.heap.size ≤ k → Q k) :
    Calls Tryz.prog 78 #[.slice (some ⟨B, o, none⟩) L.length cap] w fun e w' => ∃ t r v, e = .returned (pV t) ∧ Made6 w C P Q r v t w' ∧ Res6 L r v := by
  have HC := Lib.hid (clone_any (L.map (·.1)) B o cap w (by simpa using hne) (by simpa using hl) (fun i x hx => by
    rw [List.getElem?_map] at hx
    obtain ⟨y, hy, rfl⟩ := Option.map_eq_some_iff.1 hx
    exact (hR i y hy).1))
  have HI := Lib.hid fun W g c2 (hb : Below w.heap.size w W) (hg : w.heap.size ≤ g) (hc : L.length ≤ c2) (hm : c2 ≤ maxLen) (hcl : ∀ i x, (L.map (·.1))[i]? = some x → W.cell? ⟨g, i, none⟩ = some (.pointer x)) =>
    inOrder_any C P Q L (some ⟨g, 0, none⟩) c2 W (fun _ => ⟨g, 0, rfl, hQ g hg, fun i x hx => ⟨by rw [Nat.zero_add]; exact hcl i x.1 (by rw [List.getElem?_map, hx]; rfl), (hR i x hx).2.keep (fun f s h => h.keep (Keep.ofBelow (Q := fun _ => False) hb) (fun _ _ h => h) (fun _ _ h => h)) (Keep.ofBelow (Q := fun _ => False) hb) (fun _ _ h => h) (fun _ _ h => h)⟩⟩) hl hc hm (fun k hk => hQ k (Nat.le_trans hb.size hk))
  rw [List.length_map] at HC
  clear hR hQ
  go_enter Tryz.func78, Tryz.ntmps78
  go_wp2_with (first | (go_at_call 108; refine HC.out.mono ?_; rintro e w2 ⟨g, c2, rfl, h1, h2, h3, h4, _, h5⟩; have H2 := Lib.hid (HI.out w2 g c2 h5 h1 h2 h3 h4)) | (go_at_call 107; refine H2.out.mono ?_; rintro e w3 ⟨t, r, v, rfl, ⟨g1, g2, g3⟩, g4⟩))
  go_ret
  have := h5.size
  exact ⟨t, r, v, rfl, ⟨by omega, g2, h5.trans (g3.mono this)⟩, g4⟩
theorem seq_none (C P : Nat) (Q : Nat → Prop) (w : World) :
    Calls Tryz.prog 78 #[.slice none 0 0] w fun e w' => ∃ t, e = .returned (pV t) ∧ Made6 w C P Q [] 0 t w' := by
  have HI := Lib.hid (inOrder_any C P (fun _ => True) [] none 0 w (fun h => absurd rfl h) (by simp) (by simp) (by simp) (fun _ _ => trivial))
  go_enter Tryz.func78, Tryz.ntmps78
  go_wp2_with (first | (go_at_call 108; refine (clone_nil _).mono ?_; rintro e w2 ⟨rfl, rfl⟩) | (go_at_call 107; refine HI.out.mono ?_; rintro e w3 ⟨t, r, v, rfl, ⟨g1, g2, g3⟩, g4⟩))
  go_ret
  rcases g4 with ⟨_, rfl, rfl⟩ | ⟨h, _⟩
  · obtain ⟨d, p, rest, val, hb, h⟩ := g2
    exact ⟨t, rfl, g1, ⟨d, p, rest, val, hb, h⟩, g3⟩
  · exact absurd rfl h
end Go.Proofs.YtpejmkoheodblaaGreat
