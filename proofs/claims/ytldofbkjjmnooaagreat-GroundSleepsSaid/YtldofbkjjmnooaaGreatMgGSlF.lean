/- append to a slice of the call's own: in place, or into a block that is new. No program is named here. -/
import Derived.Test.YtldofbkjjmnooaaGreatMgGSlA
import Derived.Laws.OwnMore
import Derived.OwnWalk
import Derived.Test.YtldofbkjjmnooaaGreatMgGSlE
namespace Go.Proofs.YtldofbkjjmnooaaGreat
open Go.ChangeShapes Go.WideShapes Go.ChangeAt Go.RowKit
set_option linter.unusedVariables false
theorem run_append_own2 {P : Program} (w : World) (base : Nat) (t ty e : TypeId) (i : TypeInfo) (z : Value) (size bytes : Nat) (ht : P.underlying t = some (.slice e)) (hi : P.info? e = some i) (hz : i.zero = some z)
    (hsize : i.size = size) (hby : i.bytes = bytes) (hzs : z.cells.size = size) (hsz : 0 < size)
    (v : Value) (n : Nat) (xs : List Value) (hown : w.ownsRow base e size v n xs)
    (a : Addr) (m c : Nat) (news : List Value) (hl : news.length = m * size) (hnews : ∀ j u, news[j]? = some u → w.cell? (a.add j) = some u) (h1 : ∀ u ∈ news, u.oneCell' = true)
    (h63 : n + m ≤ maxLen) (hbytes : (n + m) * bytes ≤ 140737488355328) (hbase : base ≤ w.heap.size) (hm : 0 < m) :
    ∃ v' w', (Builtin.append_ #[t, t] ty #[v, .slice (some a) m c]).run P w = .ok v' w' ∧ w'.ownsRow base e size v' (n + m) (xs ++ news) ∧ w.grownBy w' v.ownBlock ∧
      ∃ g cap, v' = .slice (some ⟨g, 0, none⟩) (n + m) cap ∧ (v.ownBlock = some g ∨ w.heap.size ≤ g) := by
  obtain ⟨v', w', hr, h2, h3, _⟩ := run_append_own (P := P) w base t ty e i z size bytes ht hi hz hsize hby hzs hsz v n xs hown a m c news hl hnews h1 h63 hbytes hbase
  have hs : ∃ g cap, v' = .slice (some ⟨g, 0, none⟩) (n + m) cap := by
    rcases h2.2 with ⟨_, h0⟩ | ⟨g, cap, cur, hv, _⟩
    · omega
    · exact ⟨g, cap, hv⟩
  obtain ⟨g, cap, hg⟩ := hs
  refine ⟨v', w', hr, h2, h3, g, cap, hg, ?_⟩
  rcases hown.2 with ⟨rfl, rfl⟩ | ⟨g0, cap0, cur, rfl, _, hh, hnc, hcm, _⟩
  · have hx : xs = [] := List.eq_nil_of_length_eq_zero (by simpa using hown.1)
    subst hx
    obtain ⟨v2, w2, hr2, h22, _⟩ := run_append_own (P := P) w w.heap.size t ty e i z size bytes ht hi hz hsize hby hzs hsz (.slice none 0 0) 0 [] (World.ownsRow_nil w _ e size) a m c news hl hnews h1 h63 hbytes (Nat.le_refl _)
    rw [hr] at hr2
    obtain ⟨rfl, rfl⟩ : v' = v2 ∧ w' = w2 := by simpa using hr2
    rcases h22.2 with ⟨_, h0⟩ | ⟨g2, cap2, cur2, hv2, hb2, _⟩
    · omega
    · rw [hg] at hv2
      simp at hv2
      right; omega
  · by_cases hroom : n + m ≤ cap0
    · obtain ⟨w2, hr2, _⟩ := run_append_fits (P := P) w base t ty e i size ht hi hsize g0 n cap0 xs hown a m c news hl hnews h1 hroom
      rw [hr, hg] at hr2
      simp at hr2
      left
      simp [Value.ownBlock, hr2.1.1]
    · subst hsize
      subst hby
      have hsmall : n + m ≤ 9223372036854775807 := by simp only [maxLen] at h63; omega
      have holds : ∀ j u, xs[j]? = some u → w.cell? ((⟨g0, 0, none⟩ : Addr).add j) = some u := hown.cells (g := g0) rfl
      have hr2 := run_append_grow (P := P) w t ty e i z ht hi hz ⟨g0, 0, none⟩ n cap0 xs hown.1 holds a m c news hl hnews (by omega) (by omega) (growslice_fits (by omega) hbytes)
      rw [hr, hg] at hr2
      simp at hr2
      right
      omega
theorem wp_append_own2 {P : Program} (w : World) {o : Oper} {a : Act} {K : Act → World → Prop} {Q : Exit → Act → World → Prop} (s x : Operand) (t : TypeId)
    (ho : o.op = .call { callee := .builtin .append, args := #[s, x], argTypes := #[t, t] })
    (base : Nat) (e : TypeId) (i : TypeInfo) (z : Value) (size bytes : Nat) (ht : P.underlying t = some (.slice e)) (hi : P.info? e = some i) (hz : i.zero = some z)
    (hsize : i.size = size) (hby : i.bytes = bytes) (hzs : z.cells.size = size) (hsz : 0 < size)
    (v : Value) (n : Nat) (xs : List Value) (hs : a.eval s = v) (hown : w.ownsRow base e size v n xs)
    (ad : Addr) (m c : Nat) (news : List Value) (hx : a.eval x = .slice (some ad) m c) (hl : news.length = m * size) (hnews : ∀ j u, news[j]? = some u → w.cell? (ad.add j) = some u) (h1 : ∀ u ∈ news, u.oneCell' = true)
    (h63 : n + m ≤ maxLen) (hbytes : (n + m) * bytes ≤ 140737488355328) (hbase : base ≤ w.heap.size) (hm : 0 < m)
    (h : ∀ g cap w', w'.ownsRow base e size (.slice (some ⟨g, 0, none⟩) (n + m) cap) (n + m) (xs ++ news) → w.grownBy w' v.ownBlock → (v.ownBlock = some g ∨ w.heap.size ≤ g) → K (a.put o.dst (.slice (some ⟨g, 0, none⟩) (n + m) cap)) w') : o.wp P a w K Q := by
  obtain ⟨v', w', hr, h2, h3, g, cap, rfl, h4⟩ := run_append_own2 (P := P) w base t o.type e i z size bytes ht hi hz hsize hby hzs hsz v n xs hown ad m c news hl hnews h1 h63 hbytes hbase hm
  unfold Oper.wp execOp
  simp only [ho, resolve, invoke, builtin, Sem.run_bind, Sem.run_pure, Result.andThen_ok, List.map_toArray, List.map_cons, List.map_nil, hs, hx, hr]
  exact h g cap w' h2 h3 h4
theorem wpList_append_own2 {P : Program} (w : World) {ops : Array Oper} {rest : List Oper} {o : Oper} {a : Act} {Q : Exit → Act → World → Prop} (hgd : o.guard = none) (s x : Operand) (t : TypeId)
    (ho : o.op = .call { callee := .builtin .append, args := #[s, x], argTypes := #[t, t] })
    (base : Nat) (e : TypeId) (i : TypeInfo) (z : Value) (size bytes : Nat) (ht : P.underlying t = some (.slice e)) (hi : P.info? e = some i) (hz : i.zero = some z)
    (hsize : i.size = size) (hby : i.bytes = bytes) (hzs : z.cells.size = size) (hsz : 0 < size)
    (v : Value) (n : Nat) (xs : List Value) (hs : a.eval s = v) (hown : w.ownsRow base e size v n xs)
    (ad : Addr) (m c : Nat) (news : List Value) (hx : a.eval x = .slice (some ad) m c) (hl : news.length = m * size) (hnews : ∀ j u, news[j]? = some u → w.cell? (ad.add j) = some u) (h1 : ∀ u ∈ news, u.oneCell' = true)
    (h63 : n + m ≤ maxLen) (hbytes : (n + m) * bytes ≤ 140737488355328) (hbase : base ≤ w.heap.size) (hm : 0 < m)
    (h : ∀ g cap w', w'.ownsRow base e size (.slice (some ⟨g, 0, none⟩) (n + m) cap) (n + m) (xs ++ news) → w.grownBy w' v.ownBlock → (v.ownBlock = some g ∨ w.heap.size ≤ g) → wpList P ops Q rest (a.put o.dst (.slice (some ⟨g, 0, none⟩) (n + m) cap)) w') : wpList P ops Q (o :: rest) a w :=
  wpList_plain hgd fun _ hK => wp_append_own2 w s x t ho base e i z size bytes ht hi hz hsize hby hzs hsz v n xs hs hown ad m c news hx hl hnews h1 h63 hbytes hbase hm fun g cap w' h2 h3 h4 => hK _ _ (h g cap w' h2 h3 h4)
end Go.Proofs.YtldofbkjjmnooaaGreat
/- Rows of a call's own, blocks that are apart: what several texts want. No program is named here. -/
namespace Go.Proofs.YtldofbkjjmnooaaGreat
open Go.ChangeShapes Go.WideShapes Go.ChangeAt Go.RowKit
set_option linter.unusedVariables false
set_option linter.unusedSimpArgs false
theorem Blk.apart {w : World} {a b : Nat} {t u : TypeId} {xs ys : Array Value} (h1 : Blk w a t xs) (h2 : Blk w b u ys) (ht : t ≠ u) : a ≠ b := by
  rintro rfl
  have h3 : w.heap[a]? = some (.cells ys u (0, 0)) := h2
  rw [show w.heap[a]? = _ from h1] at h3
  have := Option.some.inj h3
  simp at this
  exact ht this.2
theorem ownsRow_keepQ {w w' : World} {B size n : Nat} {e : TypeId} {v : Value} {xs : List Value} {Q : Nat → Prop} (h : w.ownsRow B e size v n xs) (hk : Keep Q w w') (hQ : ∀ g, B ≤ g → ¬ Q g) : w'.ownsRow B e size v n xs := by
  refine ⟨h.1, ?_⟩
  rcases h.2 with h | ⟨g, cap, cur, hv, hg, hh, r⟩
  · exact .inl h
  · exact .inr ⟨g, cap, cur, hv, hg, (hk.block g (Array.getElem?_eq_some_iff.1 hh).1 (hQ g hg)).trans hh, r⟩
theorem row_slice {w : World} {B size n : Nat} {e : TypeId} {v : Value} {xs : List Value} (h : w.ownsRow B e size v n xs) (hn : 0 < n) : ∃ g cap, v = .slice (some ⟨g, 0, none⟩) n cap := by
  rcases h.2 with ⟨_, h0⟩ | ⟨g, cap, cur, hv, _⟩
  · omega
  · exact ⟨g, cap, hv⟩
theorem ownsRow_keep {w w' : World} {B size n : Nat} {e : TypeId} {v : Value} {xs : List Value} (h : w.ownsRow B e size v n xs) (hk : Keep (fun _ => False) w w') : w'.ownsRow B e size v n xs := by
  refine ⟨h.1, ?_⟩
  rcases h.2 with h | ⟨g, cap, cur, hv, hg, hh, r⟩
  · exact .inl h
  · exact .inr ⟨g, cap, cur, hv, hg, (hk.block g (Array.getElem?_eq_some_iff.1 hh).1 (fun h => h)).trans hh, r⟩
theorem cells4_new (w : World) (e : TypeId) (c0 c1 c2 c3 : Value) : ∀ (j : Nat) (u : Value), [c0, c1, c2, c3][j]? = some u → (w.alloc (.cells #[c0, c1, c2, c3] e)).cell? ((⟨w.heap.size, 0, none⟩ : Addr).add j) = some u := by
  intro j u hj
  have hb := Blk.new w e #[c0, c1, c2, c3]
  have := hb.cell j u (by simpa using hj)
  unfold Addr.add
  split
  · subst_vars; exact this
  · simpa using this
/-- what an append to a slice of the call's own leaves as it was -/
theorem grown_below {w w2 : World} {base : Nat} {e : TypeId} {n k : Nat} {v : Value} {xs : List Value} {o : Obj} (hg : (w.alloc o).grownBy w2 v.ownBlock) (hrow : w.ownsRow base e n v k xs) (hh : base ≤ w.heap.size) : Below base w w2 := by
  refine ((Below.refl base w).alloc hh o).grown hg (by simp; omega) fun j ej => ?_
  rcases hrow.2 with ⟨rfl, _⟩ | ⟨g, cap, cur, rfl, hb, _⟩
  · simp [Value.ownBlock] at ej
  · simp [Value.ownBlock] at ej
    omega
theorem tmod7 {A : Int} (h : A.tmod 8 = 7) : 0 ≤ A := by
  rcases Int.le_total 0 A with h0 | h0
  · exact h0
  · have h1 := Int.tmod_nonneg (a := -A) 8 (by omega)
    rw [Int.neg_tmod] at h1
    omega
theorem rem_small (K : Int) (m : Nat) (h0 : 0 < m) (hm : m ≤ 1000) : ∃ k : Nat, wrap64 ((IntKind.u64.wrap K).tmod (m : Int)) = k ∧ k < m := by
  have h1 : 0 ≤ IntKind.u64.wrap K := by rw [IntKind.wrap_u64]; omega
  have h2 : (IntKind.u64.wrap K).tmod (m : Int) = IntKind.u64.wrap K % (m : Int) := Int.tmod_eq_emod_of_nonneg h1
  have h3 : 0 ≤ IntKind.u64.wrap K % (m : Int) := Int.emod_nonneg _ (by omega)
  have h4 : IntKind.u64.wrap K % (m : Int) < m := Int.emod_lt_of_pos _ (by omega)
  obtain ⟨k, hk⟩ := Int.eq_ofNat_of_zero_le h3
  refine ⟨k, ?_, by omega⟩
  rw [h2, hk]
  exact IntWalk.wrap64_in _ ⟨by omega, by omega⟩
theorem own_some {g g' n c : Nat} (h : (Value.slice (some ⟨g, 0, none⟩) n c).ownBlock = some g') : g = g' := by simpa [Value.ownBlock] using h
theorem row_ownkeep {w w' : World} {B size n : Nat} {e : TypeId} {v : Value} {xs : List Value} {Q : Nat → Prop} (h : w.ownsRow B e size v n xs) (hk : Keep Q w w') (hQ : ∀ g, v.ownBlock = some g → ¬ Q g) : w'.ownsRow B e size v n xs := by
  refine ⟨h.1, ?_⟩
  rcases h.2 with h | ⟨g, cap, cur, hv, hg, hh, r⟩
  · exact .inl h
  · exact .inr ⟨g, cap, cur, hv, hg, (hk.block g (Array.getElem?_eq_some_iff.1 hh).1 (hQ g (by rw [hv]; rfl))).trans hh, r⟩
theorem row_lt {w : World} {B size n : Nat} {e : TypeId} {v : Value} {xs : List Value} (h : w.ownsRow B e size v n xs) {g : Nat} (hg : v.ownBlock = some g) : g < w.heap.size ∧ ∃ cur, Blk w g e cur := by
  rcases h.2 with ⟨hv, _⟩ | ⟨g', cap, cur, hv, _, hh, _⟩
  · rw [hv] at hg; simp [Value.ownBlock] at hg
  · rw [hv] at hg
    obtain rfl : g' = g := by simpa [Value.ownBlock] using hg
    exact ⟨(Array.getElem?_eq_some_iff.1 hh).1, cur, hh⟩
theorem rows_apart {w : World} {B B' n n' : Nat} {e e' : TypeId} {v v' : Value} {xs xs' : List Value} (h : w.ownsRow B e 1 v n xs) (h' : w.ownsRow B' e' 1 v' n' xs') (he : e ≠ e') (g : Nat) (hg : v.ownBlock = some g) : ¬ v'.ownBlock = some g := fun hg' => by
  obtain ⟨_, cur, hb⟩ := row_lt h hg
  obtain ⟨_, cur', hb'⟩ := row_lt h' hg'
  exact hb.apart hb' he rfl
theorem grown_keep {w w2 : World} {r : Option Nat} {o : Obj} (hg : (w.alloc o).grownBy w2 r) : Keep (fun b => r = some b) w w2 :=
  ⟨hg.1, hg.2, hg.3, Nat.le_trans (by simp) hg.4, fun k hk hn => (hg.5 k (by simp; omega) (fun e => hn e.symm)).trans (Below.heap_alloc w o k hk)⟩
end Go.Proofs.YtldofbkjjmnooaaGreat
/- Package task: what follows in a list of tasks; Seq. -/
namespace Go.Proofs.YtldofbkjjmnooaaGreat
open Go.ChangeShapes Go.WideShapes Go.ChangeAt Go.RowKit
set_option linter.unusedVariables false
set_option maxRecDepth 100000
set_option linter.unusedSimpArgs false
theorem order1_more (C P : Nat) (Q : Nat → Prop) (L : List (Option Addr × List Itm)) (bl B o cap : Nat) (v : Int) (w : World) (hL : L ≠ []) (hb : Blk w bl 54 #[.slice (some ⟨B, o, none⟩) (L.length + 1) cap])
    (hB : Q B) (hR : RowAt (Cont w C P Q) w C P Q B (o + 1) L) (hn : L.length ≤ 1000) (hc : L.length + 1 ≤ cap) (hm : cap ≤ maxLen) (hQ : ∀ k, w.heap.size ≤ k → Q k) :
    Calls Tryz.prog 291 #[.int .i64 v, pV bl] w fun e w' => ∃ t, e = .returned (pV t) ∧ ∃ r v, Made6 w C P Q r v t w' ∧ Res6 L r v := by
  have c0 : w.cell? ⟨bl, 0, none⟩ = some (.slice (some ⟨B, o, none⟩) (L.length + 1) cap) := hb.cell 0 _ rfl
  have h1 : 1 ≤ L.length := by
    cases L with
    | nil => exact absurd rfl hL
    | cons x L => simp
  have hsl := slice_from B o (L.length + 1) cap (by omega) (by omega)
  have HH := Lib.hid (inOrder_any C P Q L (some ⟨B, o + 1, none⟩) (cap - 1) w (fun _ => ⟨B, o + 1, rfl, hB, hR⟩) hn (by omega) (by omega) hQ)
  clear hR hB hQ hm hc hb
  simp only [Nat.add_sub_cancel] at hsl
  generalize L.length = n at *
  go_enter Tryz.func291, Tryz.ntmps291
  go_wp2_with (go_at_call 224; refine HH.out.mono ?_; rintro e w2 ⟨t, r, v, rfl, h1, h2⟩)
  go_ret
  exact ⟨t, rfl, r, v, h1, h2⟩
/-- a continuation, called -/
theorem cont_call (C P : Nat) (Q : Nat → Prop) (f : Nat) (s : List Itm) (v : Int) (w : World) (h : Cont w C P Q f s) (hQ : ∀ k, w.heap.size ≤ k → Q k) :
    Calls Tryz.prog 221 #[.int .i64 v, pV f] w fun e w' => ∃ t, e = .returned (pV t) ∧ Made6 w C P Q (onS s v).1 (onS s v).2 t w' := by
  obtain ⟨h1, bl, B, o, cap, L, h2, h3, h4, h5, h6, h7, h8, h9, rfl⟩ := h.unfold
  refine then1_any f 291 #[pV bl] v w (fun t w' => Made6 w C P Q (onS (flat L) v).1 (onS (flat L) v).2 t w') h2 call_order1 fun w1 hb => ?_
  have hk : Keep (fun _ => False) w w1 := Keep.ofBelow hb
  have hsz := hb.size
  by_cases hL : L = []
  · subst hL
    refine (order1_last bl _ cap v w1 (h4.below hb h4.lt)).mono ?_
    rintro e w' ⟨t, rfl, g1, g2, g3⟩
    obtain ⟨k, e, g2⟩ := g2.resolve_left (fun h => by cases h.1)
    obtain rfl : t = k := by simpa using e
    exact ⟨t, rfl, by omega, ⟨_, _, _, _, g2, rfl, rfl, rfl, rfl⟩, hb.trans (g3.mono hsz)⟩
  · refine (order1_more C P Q L bl B o cap v w1 hL (h4.below hb h4.lt) (h5 hL) (h9.keep (fun f s h => h.keep hk (fun _ _ h => h) (fun _ _ h => h)) hk (fun _ _ h => h) (fun h => h) (fun _ _ h => h)) (by omega) h7 h8 (fun k hk => hQ k (by omega))).mono ?_
    rintro e w' ⟨t, rfl, r, v', ⟨g1, g2, g3⟩, g4⟩
    rcases g4 with ⟨g4, _⟩ | ⟨_, g4⟩
    · exact absurd g4 hL
    · refine ⟨t, rfl, by omega, ?_, hb.trans (g3.mono hsz)⟩
      rw [(g4.on v).1]
      exact TaskIn.value g2 _ (fun h => (g4.on v).2 h)
theorem addr_add (B o j : Nat) : (⟨B, o, none⟩ : Addr).add j = ⟨B, o + j, none⟩ := by
  simp only [Addr.add]
  split
  · next h => subst h; rfl
  · rfl
theorem ptask_info : (Tryz.prog.info? 40).map (fun i => (i.zero, i.size, i.bytes)) = some (some (.pointer none), 1, 8) := by kernel_rfl
theorem clone_nil (w : World) : Calls Tryz.prog 225 #[.slice none 0 0] w fun e w' => e = .returned (.slice none 0 0) ∧ w = w' := by
  have hq : ∀ W : World, (binOp .eql 54 (.slice none 0 0) (.slice none 0 0)).run Tryz.prog W = .ok (.bool true) W := by intro W; kernel_rfl
  go_enter Tryz.func225, Tryz.ntmps225
  go_wp2
  go_ret
  exact ⟨rfl, rfl⟩
theorem clone_any (L : List (Option Addr)) (B o cap : Nat) (w : World) (hne : L ≠ []) (hl : L.length ≤ 1000) (hc : ∀ i x, L[i]? = some x → w.cell? ⟨B, o + i, none⟩ = some (.pointer x)) :
    Calls Tryz.prog 225 #[.slice (some ⟨B, o, none⟩) L.length cap] w fun e w' => ∃ g cap', e = .returned (.slice (some ⟨g, 0, none⟩) L.length cap') ∧ w.heap.size ≤ g ∧ L.length ≤ cap' ∧ cap' ≤ maxLen ∧
      (∀ i x, L[i]? = some x → w'.cell? ⟨g, i, none⟩ = some (.pointer x)) ∧ (∃ cur, Blk w' g 40 cur) ∧ Below w.heap.size w w' := by
  obtain ⟨p0, hp0, hp1, hp2, hp3⟩ := info_parts ptask_info
  have HC := Lib.hid hc
  clear hc
  have hq : ∀ W : World, (binOp .eql 54 (.slice (some ⟨B, o, none⟩) L.length cap) (.slice none 0 0)).run Tryz.prog W = .ok (.bool false) W := by intro W; rfl
  have hown : Hid ((w.alloc (.cells #[] 40)).ownsRow w.heap.size 40 1 (.slice (some ⟨w.heap.size, 0, none⟩) 0 0) 0 []) := Lib.hid ⟨rfl, .inr ⟨w.heap.size, 0, #[], rfl, Nat.le_refl _, Blk.new w _ _, Nat.le_refl _, by unfold maxLen; omega, rfl, rfl⟩⟩
  have hpos : 0 < L.length := by
    cases L with
    | nil => exact absurd rfl hne
    | cons x L => simp
  have hcel : Hid (∀ (j : Nat) (u : Value), (L.map Value.pointer)[j]? = some u → (w.alloc (.cells #[] 40)).cell? ((⟨B, o, none⟩ : Addr).add j) = some u) := Lib.hid (by
    intro j u hu
    rw [List.getElem?_map] at hu
    obtain ⟨y, hy, rfl⟩ := Option.map_eq_some_iff.1 hu
    exact cell_keep6 (by rw [addr_add]; exact HC.out j y hy) ((Keep.refl (fun _ => False) w).alloc _) (fun h => h))
  have hone : Hid (∀ u ∈ L.map Value.pointer, u.oneCell' = true) := Lib.hid (by
    intro u hu
    obtain ⟨y, _, rfl⟩ := List.mem_map.1 hu
    rfl)
  have hlm : (L.map Value.pointer).length = L.length * 1 := by simp
  go_enter Tryz.func225, Tryz.ntmps225
  go_wp2_with (at_builtin; refine wpList_append_own2 _ rfl _ _ 54 rfl w.heap.size 40 p0 (.pointer none) 1 8 Tryz.underlying54 hp0 hp1 hp2 hp3 rfl (by decide) _ 0 [] rfl hown.out ⟨B, o, none⟩ L.length cap (L.map Value.pointer) rfl hlm hcel.out hone.out (by unfold maxLen; omega) (by omega) (by simp) hpos ?_; intro g cap' w5 hrow hgr hg)
  replace hgr : (w.alloc (.cells #[] 40)).grownBy w5 (some w.heap.size) := hgr
  replace hg : some w.heap.size = some g ∨ w.heap.size + 1 ≤ g := by
    rcases hg with h | h
    · exact .inl h
    · exact .inr (by simpa using h)
  have hgs := hgr.size
  simp only [World.size_alloc] at hgs
  have hge : w.heap.size ≤ g := by
    rcases hg with h | h
    · injection h with h; omega
    · omega
  simp only [Nat.zero_add, List.nil_append] at hrow
  have hcl : L.length ≤ cap' ∧ cap' ≤ maxLen := by
    rcases hrow.2 with ⟨h, _⟩ | ⟨g2, c2, cur, e, h1, h2, h3, h4, _⟩
    · cases h
    · obtain ⟨rfl, rfl⟩ : g = g2 ∧ cap' = c2 := by simpa using e
      exact ⟨h3, h4⟩
  go_ret
  refine ⟨g, cap', rfl, hge, hcl.1, hcl.2, fun i y hy => ?_, (row_lt hrow (g := g) rfl).2, ⟨hgr.os, hgr.tape, hgr.output, by omega, fun k hk => ?_⟩⟩
  · have := hrow.cells (g := g) rfl i (.pointer y) (by rw [List.getElem?_map, hy]; rfl)
    rw [addr_add, Nat.zero_add] at this
    exact this
  · rw [hgr.block k (by simp; omega) (fun e => by injection e with e; omega)]
    exact Below.heap_alloc w _ k hk
/-- the tasks of a row, one behind the other -/
theorem seq_any (C P : Nat) (Q : Nat → Prop) (L : List (Option Addr × List Itm)) (B o cap : Nat) (w : World) (hne : L ≠ []) (hl : L.length ≤ 1000) (hR : RowAt (Cont w C P Q) w C P Q B o L) (hQ : ∀ k, w.heap.size ≤ k → Q k) :
    Calls Tryz.prog 138 #[.slice (some ⟨B, o, none⟩) L.length cap] w fun e w' => ∃ t r v, e = .returned (pV t) ∧ Made6 w C P Q r v t w' ∧ Res6 L r v := by
  have HC := Lib.hid (clone_any (L.map (·.1)) B o cap w (by simpa using hne) (by simpa using hl) (fun i x hx => by
    rw [List.getElem?_map] at hx
    obtain ⟨y, hy, rfl⟩ := Option.map_eq_some_iff.1 hx
    exact (hR i y hy).1))
  have HI := Lib.hid fun W g c2 (hb : Below w.heap.size w W) (hg : w.heap.size ≤ g) (hc : L.length ≤ c2) (hm : c2 ≤ maxLen) (hcl : ∀ i x, (L.map (·.1))[i]? = some x → W.cell? ⟨g, i, none⟩ = some (.pointer x)) =>
    inOrder_any C P Q L (some ⟨g, 0, none⟩) c2 W (fun _ => ⟨g, 0, rfl, hQ g hg, fun i x hx => ⟨by rw [Nat.zero_add]; exact hcl i x.1 (by rw [List.getElem?_map, hx]; rfl), (hR i x hx).2.keep (fun f s h => h.keep (Keep.ofBelow (Q := fun _ => False) hb) (fun _ _ h => h) (fun _ _ h => h)) (Keep.ofBelow (Q := fun _ => False) hb) (fun _ _ h => h) (fun _ _ h => h)⟩⟩) hl hc hm (fun k hk => hQ k (Nat.le_trans hb.size hk))
  rw [List.length_map] at HC
  clear hR hQ
  go_enter Tryz.func138, Tryz.ntmps138
  go_wp2_with (first | (go_at_call 225; refine HC.out.mono ?_; rintro e w2 ⟨g, c2, rfl, h1, h2, h3, h4, _, h5⟩; have H2 := Lib.hid (HI.out w2 g c2 h5 h1 h2 h3 h4)) | (go_at_call 224; refine H2.out.mono ?_; rintro e w3 ⟨t, r, v, rfl, ⟨g1, g2, g3⟩, g4⟩))
  go_ret
  have := h5.size
  exact ⟨t, r, v, rfl, ⟨by omega, g2, h5.trans (g3.mono this)⟩, g4⟩
theorem seq_none (C P : Nat) (Q : Nat → Prop) (w : World) :
    Calls Tryz.prog 138 #[.slice none 0 0] w fun e w' => ∃ t, e = .returned (pV t) ∧ Made6 w C P Q [] 0 t w' := by
  have HI := Lib.hid (inOrder_any C P (fun _ => True) [] none 0 w (fun h => absurd rfl h) (by simp) (by simp) (by simp) (fun _ _ => trivial))
  go_enter Tryz.func138, Tryz.ntmps138
  go_wp2_with (first | (go_at_call 225; refine (clone_nil _).mono ?_; rintro e w2 ⟨rfl, rfl⟩) | (go_at_call 224; refine HI.out.mono ?_; rintro e w3 ⟨t, r, v, rfl, ⟨g1, g2, g3⟩, g4⟩))
  go_ret
  rcases g4 with ⟨_, rfl, rfl⟩ | ⟨h, _⟩
  · obtain ⟨d, p, rest, val, hb, h⟩ := g2
    exact ⟨t, rfl, g1, ⟨d, p, rest, val, hb, h⟩, g3⟩
  · exact absurd rfl h
end Go.Proofs.YtldofbkjjmnooaaGreat
/- Package task: Spin, Loop. -/
namespace Go.Proofs.YtldofbkjjmnooaaGreat
open Go.ChangeShapes Go.WideShapes Go.ChangeAt Go.RowKit
set_option linter.unusedVariables false
set_option maxRecDepth 100000
set_option linter.unusedSimpArgs false
theorem call_spin1 : ∀ (W : World) (args : Array Value), (callFunc 216 args).run Tryz.prog W = .ok (.enter 216 args) W := by
  intro W args
  go_simp
theorem call_spin11 : ∀ (W : World) (args : Array Value), (callFunc 218 args).run Tryz.prog W = .ok (.enter 218 args) W := by
  intro W args
  go_simp
theorem call_loop1 : ∀ (W : World) (args : Array Value), (callFunc 274 args).run Tryz.prog W = .ok (.enter 274 args) W := by
  intro W args
  go_simp
theorem spin11_any (v : Int) (w : World) :
    Calls Tryz.prog 218 #[.int .i64 v] w fun e w' => ∃ t, e = .returned (pV t) ∧ w.heap.size ≤ t ∧ DoneV w' (some ⟨t, 0, none⟩) (if v = 0 then -2147483648 else v) ∧ Below w.heap.size w w' := by
  by_cases h : v = 0
  · subst h
    go_enter Tryz.func218, Tryz.ntmps218
    go_wp2_with (first | (go_at_call 219; refine (truth_any _ _).mono ?_; rintro e w3 ⟨rfl, rfl⟩) | (go_at_call 102; refine (ready_any _ _).mono ?_; rintro e w2 ⟨t, rfl, h1, h2, h3⟩))
    go_ret
    exact ⟨t, rfl, h1, .inr ⟨t, rfl, by simpa using h2⟩, h3⟩
  · go_enter Tryz.func218, Tryz.ntmps218
    go_wp2_with (first | (go_at_call 219; refine (truth_any _ _).mono ?_; rintro e w3 ⟨rfl, rfl⟩) | (go_at_call 102; refine (ready_any _ _).mono ?_; rintro e w2 ⟨t, rfl, h1, h2, h3⟩))
    go_ret
    exact ⟨t, rfl, h1, .inr ⟨t, rfl, by simpa [h] using h2⟩, h3⟩
/-- a try of a spin, and what asks whether it went -/
def SpinMid (w : World) (C : Nat) (Q : Nat → Prop) (x : Itm) (t : Nat) : Prop :=
  ∃ b F caps j k3, Live w t (cloV 260 #[pV b]) (.pointer none) j ∧ Q b ∧ Blk w b 28 #[cloV F caps] ∧ CloAt w C Q x F caps ∧ TreeO w Q j [k3] ∧ Link3 w Q k3
theorem spin1_any (C : Nat) (Q : Nat → Prop) (x : Itm) (bc bi bo bn : Nat) (w : World) (hk : x.kind = 4) (hc : Blk w bc 26 #[cellsV C]) (hi : Blk w bi 3 #[.int .i64 x.at']) (ho : Blk w bo 47 #[.int .u64 x.a]) (hn : Blk w bn 47 #[.int .u64 x.b])
    (hQ : ∀ k, w.heap.size ≤ k → Q k) :
    Calls Tryz.prog 216 #[pV bc, pV bi, pV bo, pV bn] w fun e w' => ∃ t, e = .returned (pV t) ∧ w.heap.size ≤ t ∧ SpinMid w' C Q x t ∧ Below w.heap.size w w' := by
  have c0 : w.cell? ⟨bc, 0, none⟩ = some (cellsV C) := hc.cell 0 _ rfl
  have c1 : w.cell? ⟨bi, 0, none⟩ = some (.int .i64 x.at') := hi.cell 0 _ rfl
  have c2 : w.cell? ⟨bo, 0, none⟩ = some (.int .u64 x.a) := ho.cell 0 _ rfl
  have c3 : w.cell? ⟨bn, 0, none⟩ = some (.int .u64 x.b) := hn.cell 0 _ rfl
  have HS := Lib.hid (tSwap_raw C Q x w (.inr hk) hQ)
  have HQ := Lib.hid hQ
  clear hQ hc hi ho hn
  go_enter Tryz.func216, Tryz.ntmps216
  go_wp2_with (first
    | (go_at_call 217; refine HS.out.mono ?_; rintro e w2 ⟨t, b, F, caps, rfl, h1, h2, h3, h4, h5, h6⟩; have s2 := h6.size; have HT := Lib.hid (then_raw t 218 #[] _ _ _ [] Q w2 ⟨h4, .inl ⟨_, _, rfl, rfl⟩⟩ (.inl ⟨rfl, rfl⟩) (fun k hk => HQ.out k (by omega))))
    | (go_at_call 137; refine HT.out.mono ?_; rintro e w3 ⟨t2, f, j, rfl, g1, g2, g3, g4, g5, gft, g6⟩))
  go_ret
  have k2 : Keep (fun _ => False) w2 w3 := Keep.ofBelow g6
  exact ⟨t2, rfl, by omega, ⟨b, F, caps, j, f, g4, HQ.out b h2, h3.keep k2 (fun h => h), h5.keep k2 (fun _ _ h => h) (fun _ _ h => h), g5.mono (fun _ _ h => h.1), HQ.out f (by omega), g3⟩, h6.trans (g6.mono s2)⟩
theorem loop_any (C P : Nat) (Q : Nat → Prop) (x : Itm) (body : Value) (w : World) (hk : x.kind = 4) (hb : SpinB w C Q x body) (hQ : ∀ k, w.heap.size ≤ k → Q k) :
    Calls Tryz.prog 186 #[body] w fun e w' => ∃ t, e = .returned (pV t) ∧ Made6 w C P Q [x] 0 t w' := by
  have hmf : ∀ (fn : Fn) (first cap : Array Value) (w : World), (Instr.makeFunc fn first cap).run Tryz.prog w = .ok (.func fn first cap) w := fun _ _ _ _ => rfl
  have HB := Lib.hid hb
  have HQ := Lib.hid hQ
  obtain ⟨bc, bi, bo, bn, rfl, q1, q2, q3, q4, b1, b2, b3, b4⟩ := hb
  have HA := Lib.hid fun W (hb : Below w.heap.size w W) => answerT_any 216 #[pV bc, pV bi, pV bo, pV bn] W (fun t w' => W.heap.size ≤ t ∧ SpinMid w' C Q x t ∧ Below W.heap.size W w') call_spin1 (spin1_any C Q x bc bi bo bn W hk (b1.below hb b1.lt) (b2.below hb b2.lt) (b3.below hb b3.lt) (b4.below hb b4.lt) (fun k hk => hQ k (Nat.le_trans hb.size hk)))
  clear hQ b1 b2 b3 b4 q1 q2 q3 q4
  go_enter Tryz.func186, Tryz.ntmps186
  go_upto_region 1 with fail
  generalize hW : (w.alloc _) = W
  have bW : Below w.heap.size w W := by rw [← hW]; go_grown
  have q0 : Blk W w.heap.size 155 #[cloV 216 #[pV bc, pV bi, pV bo, pV bn]] := by rw [← hW]; exact Blk.new w _ _
  clear hW
  have c0 : W.cell? ⟨w.heap.size, 0, none⟩ = some (cloV 216 #[pV bc, pV bi, pV bo, pV bn]) := q0.cell 0 _ rfl
  have sW := bW.size
  have HA2 := Lib.hid (HA.out W bW)
  clear HA
  go_upto_region 2 with (go_at_call 222; refine HA2.out.mono ?_; rintro e w2 ⟨t, rfl, h1, h2, h3⟩)
  obtain ⟨b, F, caps, j, k3, l1, l2, l3, l4, l5, l6⟩ := h2
  have s2 := h3.size
  have HD := Lib.hid (live_done t _ _ j w2 l1)
  have HT := Lib.hid (then_raw t 274 #[pV w.heap.size] _ _ j [k3] Q w2 l1 l5 (fun k hk => HQ.out k (by omega)))
  have Q0 := q0.below h3 q0.lt
  clear c0
  go_wp2_with (first | (go_at_call 38; refine HD.out.mono ?_; rintro e w3 ⟨rfl, rfl⟩) | (go_at_call 137; refine HT.out.mono ?_; rintro e w3 ⟨t2, f, j2, rfl, g1, g2, g3, g4, g5, gft, g6⟩))
  go_ret
  have k2 : Keep (fun _ => False) w2 w3 := Keep.ofBelow g6
  have bw2 : Below w.heap.size w w2 := bW.trans (h3.mono sW)
  have bw3 : Below w.heap.size w w3 := bw2.trans (g6.mono (by omega))
  have hb2 := l3.lt
  refine ⟨t2, rfl, by omega, ⟨_, _, j2, 0, g4.blk, rfl, [k3, f], [], by simpa using g5, .inl ⟨⟨b, F, caps, rfl, rfl, ⟨l2, by omega⟩, l3.keep k2 (fun h => h), l4.keep k2 (fun _ _ h => h) (fun b hb h => ⟨h, by omega⟩)⟩, .inr ⟨hk, k3, f, rfl, l6.keep k2 (fun _ _ h => h) (fun b hb h => ⟨h, by omega⟩), ⟨HQ.out f (by omega), gft⟩, w.heap.size, _, g3, ⟨HQ.out _ (Nat.le_refl _), by have := Q0.lt; omega⟩, Q0.below g6 Q0.lt, ?_⟩⟩, rfl⟩, bw3⟩
  exact HB.out.keep (Keep.ofBelow (Q := fun _ => False) bw3) (fun _ _ h => h) (fun b hb h => ⟨h, by omega⟩)
theorem loop1_any (C P : Nat) (Q : Nat → Prop) (x : Itm) (bb : Nat) (body : Value) (v : Int) (w : World) (hk : x.kind = 4) (hq : Blk w bb 155 #[body]) (hb : SpinB w C Q x body) (hQ : ∀ k, w.heap.size ≤ k → Q k) :
    Calls Tryz.prog 274 #[.int .i64 v, pV bb] w fun e w' => ∃ t, e = .returned (pV t) ∧ ((v = -2147483648 ∧ Made6 w C P Q [x] 0 t w') ∨ (v ≠ -2147483648 ∧ Made6 w C P Q [] v t w')) := by
  have c0 : w.cell? ⟨bb, 0, none⟩ = some body := hq.cell 0 _ rfl
  have HL := Lib.hid (loop_any C P Q x body w hk hb hQ)
  clear hq hQ
  obtain ⟨bc, bi, bo, bn, rfl, _⟩ := hb
  by_cases h : v = -2147483648
  · subst h
    go_enter Tryz.func274, Tryz.ntmps274
    go_wp2_with (go_at_call 186; refine HL.out.mono ?_; rintro e w2 ⟨t, rfl, h1⟩)
    go_ret
    exact ⟨t, rfl, .inl ⟨by first | trivial | rfl, h1⟩⟩
  · go_enter Tryz.func274, Tryz.ntmps274
    go_wp2_with (go_at_call 102; refine (tready_any C P Q _ _).mono ?_; rintro e w2 ⟨t, rfl, h1⟩)
    go_ret
    exact ⟨t, rfl, .inr ⟨h, h1⟩⟩
theorem tspin_any (C P : Nat) (Q : Nat → Prop) (x : Itm) (w : World) (hk : x.kind = 4) (hQ : ∀ k, w.heap.size ≤ k → Q k) :
    Calls Tryz.prog 136 #[cellsV C, .int .i64 x.at', .int .u64 x.a, .int .u64 x.b] w fun e w' => ∃ t, e = .returned (pV t) ∧ Made6 w C P Q [x] 0 t w' := by
  have hmf : ∀ (fn : Fn) (first cap : Array Value) (w : World), (Instr.makeFunc fn first cap).run Tryz.prog w = .ok (.func fn first cap) w := fun _ _ _ _ => rfl
  have HQ := Lib.hid hQ
  clear hQ
  go_enter Tryz.func136, Tryz.ntmps136
  go_upto_region 1 with fail
  generalize hW : (((w.alloc _).alloc _).alloc _).alloc _ = W
  have bW : Below w.heap.size w W := by rw [← hW]; go_grown
  have sW : W.heap.size = w.heap.size + 4 := by rw [← hW]; simp
  have q0 : Blk W w.heap.size 26 #[cellsV C] := by rw [← hW]; have h := Blk.new (w) 26 #[cellsV C]; (try simp only [World.size_alloc] at h); exact (((h.alloc _).alloc _).alloc _)
  have q1 : Blk W (w.heap.size + 1) 3 #[.int .i64 x.at'] := by rw [← hW]; have h := Blk.new ((w).alloc (.cells #[cellsV C] 26)) 3 #[.int .i64 x.at']; (try simp only [World.size_alloc] at h); exact ((h.alloc _).alloc _)
  have q2 : Blk W (w.heap.size + 2) 47 #[.int .u64 x.a] := by rw [← hW]; have h := Blk.new (((w).alloc (.cells #[cellsV C] 26)).alloc (.cells #[.int .i64 x.at'] 3)) 47 #[.int .u64 x.a]; (try simp only [World.size_alloc] at h); exact (h.alloc _)
  have q3 : Blk W (w.heap.size + 3) 47 #[.int .u64 x.b] := by rw [← hW]; have h := Blk.new ((((w).alloc (.cells #[cellsV C] 26)).alloc (.cells #[.int .i64 x.at'] 3)).alloc (.cells #[.int .u64 x.a] 47)) 47 #[.int .u64 x.b]; (try simp only [World.size_alloc] at h); exact h
  clear hW
  have HL := Lib.hid (loop_any C P Q x _ W hk ⟨w.heap.size, w.heap.size + 1, w.heap.size + 2, w.heap.size + 3, rfl, HQ.out _ (by omega), HQ.out _ (by omega), HQ.out _ (by omega), HQ.out _ (by omega), q0, q1, q2, q3⟩ (fun k hk => HQ.out k (by omega)))
  go_wp2_with (go_at_call 186; refine HL.out.mono ?_; rintro e w1 ⟨t, rfl, h1, h2, h3⟩)
  go_ret
  exact ⟨t, rfl, by omega, h2, bW.trans (h3.mono bW.size)⟩
end Go.Proofs.YtldofbkjjmnooaaGreat
