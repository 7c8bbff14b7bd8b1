/- Events: their values, rows of them. No program is named here. -/
import Derived.Test.YtmknnjjmmfbppaaGreatMgBegAA
import Derived.Laws.OwnMore
import Derived.OwnWalk
namespace Go.Proofs.YtmknnjjmmfbppaaGreat
open Go.ChangeShapes Go.WideShapes Go.ChangeAt Go.RowKit
set_option linter.unusedVariables false
/-- an event -/
structure Ev where
  kind : Int
  thr : Int
  idx : Int
  act : Int
  obj : Int
  oth : Int
  code : Int
  val : Int
abbrev evV (e : Ev) : Value := .agg #[.int .i64 e.kind, .int .i64 e.thr, .int .i64 e.idx, .int .i64 e.act, .int .i64 e.obj, .int .i64 e.oth, .int .i64 e.code, .int .i64 e.val]
def evL (e : Ev) : List Value := [.int .i64 e.kind, .int .i64 e.thr, .int .i64 e.idx, .int .i64 e.act, .int .i64 e.obj, .int .i64 e.oth, .int .i64 e.code, .int .i64 e.val]
/-- a row of events, from a place on -/
def EvsAt (w : World) (B off : Nat) (l : List Ev) : Prop := ∀ (i : Nat) (e : Ev), l[i]? = some e → ∀ (j : Nat) (v : Value), (evL e)[j]? = some v → w.cell? ⟨B, off + i * 8 + j, none⟩ = some v
theorem flat8 : ∀ (l : List Ev) (i : Nat) (e : Ev), l[i]? = some e → ∀ (j : Nat) (v : Value), (evL e)[j]? = some v → (l.flatMap evL)[i * 8 + j]? = some v
  | [], i, e, h, _, _, _ => by simp at h
  | a :: l, 0, e, h, j, v, hv => by
    simp at h
    subst h
    rw [List.flatMap_cons, Nat.zero_mul, Nat.zero_add, List.getElem?_append_left (List.getElem?_eq_some_iff.1 hv).1]
    exact hv
  | a :: l, i + 1, e, h, j, v, hv => by
    have h1 : l[i]? = some e := by simpa using h
    rw [List.flatMap_cons, List.getElem?_append_right (by show 8 ≤ _; omega), show (i + 1) * 8 + j - (evL a).length = i * 8 + j by show _ - 8 = _; omega]
    exact flat8 l i e h1 j v hv
theorem evs_lit {w : World} {B : Nat} {t : TypeId} {cs : Array Value} (l : List Ev) (h : Blk w B t cs) (he : cs = (l.flatMap evL).toArray) : EvsAt w B 0 l := fun i e hi j v hv => by
  subst he
  have := h.cell (0 + i * 8 + j) v (by rw [Nat.zero_add, List.getElem?_toArray]; exact flat8 l i e hi j v hv)
  exact this
abbrev evC (e : Ev) : Array Value := #[.int .i64 e.kind, .int .i64 e.thr, .int .i64 e.idx, .int .i64 e.act, .int .i64 e.obj, .int .i64 e.oth, .int .i64 e.code, .int .i64 e.val]
/-- an event in its box: what is read of it -/
structure EvAt (w : World) (bx : Nat) (e : Ev) : Prop where
  b0 : w.cell? ⟨bx, 0, none⟩ = some (.int .i64 e.kind)
  b1 : w.cell? ⟨bx, 1, none⟩ = some (.int .i64 e.thr)
  b2 : w.cell? ⟨bx, 2, none⟩ = some (.int .i64 e.idx)
  b3 : w.cell? ⟨bx, 3, none⟩ = some (.int .i64 e.act)
  b4 : w.cell? ⟨bx, 4, none⟩ = some (.int .i64 e.obj)
  b5 : w.cell? ⟨bx, 5, none⟩ = some (.int .i64 e.oth)
  b6 : w.cell? ⟨bx, 6, none⟩ = some (.int .i64 e.code)
  b7 : w.cell? ⟨bx, 7, none⟩ = some (.int .i64 e.val)
theorem evAt {w : World} {t : TypeId} {bx : Nat} {e : Ev} (h : Blk w bx t (evC e)) : EvAt w bx e := ⟨h.cell 0 _ rfl, h.cell 1 _ rfl, h.cell 2 _ rfl, h.cell 3 _ rfl, h.cell 4 _ rfl, h.cell 5 _ rfl, h.cell 6 _ rfl, h.cell 7 _ rfl⟩
theorem EvAt.conj {w : World} {bx : Nat} {e : Ev} (h : EvAt w bx e) : w.cell? ⟨bx, 0, none⟩ = some (.int .i64 e.kind) ∧ w.cell? ⟨bx, 1, none⟩ = some (.int .i64 e.thr) ∧ w.cell? ⟨bx, 2, none⟩ = some (.int .i64 e.idx) ∧ w.cell? ⟨bx, 3, none⟩ = some (.int .i64 e.act) ∧ w.cell? ⟨bx, 4, none⟩ = some (.int .i64 e.obj) ∧ w.cell? ⟨bx, 5, none⟩ = some (.int .i64 e.oth) ∧ w.cell? ⟨bx, 6, none⟩ = some (.int .i64 e.code) ∧ w.cell? ⟨bx, 7, none⟩ = some (.int .i64 e.val) := ⟨h.b0, h.b1, h.b2, h.b3, h.b4, h.b5, h.b6, h.b7⟩
end Go.Proofs.YtmknnjjmmfbppaaGreat
/- append to a slice of the call's own: in place, or into a block that is new. No program is named here. -/
namespace Go.Proofs.YtmknnjjmmfbppaaGreat
open Go.ChangeShapes Go.WideShapes Go.ChangeAt Go.RowKit
set_option linter.unusedVariables false
theorem run_append_own2 {P : Program} (w : World) (base : Nat) (t ty e : TypeId) (i : TypeInfo) (z : Value) (size bytes : Nat) (ht : P.underlying t = some (.slice e)) (hi : P.info? e = some i) (hz : i.zero = some z)
    (hsize : i.size = size) (hby : i.bytes = bytes) (hzs : z.cells.size = size) (hsz : 0 < size)
    (v : Value) (n : Nat) (xs : List Value) (hown : w.ownsRow base e size v n xs)
    (a : Addr) (m c : Nat) (news : List Value) (hl : news.length = m * size) (hnews : ∀ j u, news[j]? = some u → w.cell? (a.add j) = some u) (h1 : ∀ u ∈ news, u.oneCell' = true)
    (h63 : n + m ≤ maxLen) (hbytes : (n + m) * bytes ≤ 140737488355328) (hbase : base ≤ w.heap.size) (hm : 0 < m) :
    ∃ v' w', (Builtin.append_ #[t, t] ty #[v, .slice (some a) m c]).run P w = .ok v' w' ∧ w'.ownsRow base e size v' (n + m) (xs ++ news) ∧ w.grownBy w' v.ownBlock ∧
      ∃ g cap, v' = .slice (some ⟨g, 0, none⟩) (n + m) cap ∧ (v.ownBlock = some g ∨ w.heap.size ≤ g) := by
  obtain ⟨v', w', hr, h2, h3, _⟩ := run_append_own (P := P) w base t ty e i z size bytes ht hi hz hsize hby hzs hsz v n xs hown a m c news hl hnews h1 h63 hbytes hbase
  have hs : ∃ g cap, v' = .slice (some ⟨g, 0, none⟩) (n + m) cap := by
    rcases h2.2 with ⟨_, h0⟩ | ⟨g, cap, cur, hv, _⟩
    · omega
    · exact ⟨g, cap, hv⟩
  obtain ⟨g, cap, hg⟩ := hs
  refine ⟨v', w', hr, h2, h3, g, cap, hg, ?_⟩
  rcases hown.2 with ⟨rfl, rfl⟩ | ⟨g0, cap0, cur, rfl, _, hh, hnc, hcm, _⟩
  · have hx : xs = [] := List.eq_nil_of_length_eq_zero (by simpa using hown.1)
    subst hx
    obtain ⟨v2, w2, hr2, h22, _⟩ := run_append_own (P := P) w w.heap.size t ty e i z size bytes ht hi hz hsize hby hzs hsz (.slice none 0 0) 0 [] (World.ownsRow_nil w _ e size) a m c news hl hnews h1 h63 hbytes (Nat.le_refl _)
    rw [hr] at hr2
    obtain ⟨rfl, rfl⟩ : v' = v2 ∧ w' = w2 := by simpa using hr2
    rcases h22.2 with ⟨_, h0⟩ | ⟨g2, cap2, cur2, hv2, hb2, _⟩
    · omega
    · rw [hg] at hv2
      simp at hv2
      right; omega
  · by_cases hroom : n + m ≤ cap0
    · obtain ⟨w2, hr2, _⟩ := run_append_fits (P := P) w base t ty e i size ht hi hsize g0 n cap0 xs hown a m c news hl hnews h1 hroom
      rw [hr, hg] at hr2
      simp at hr2
      left
      simp [Value.ownBlock, hr2.1.1]
    · subst hsize
      subst hby
      have hsmall : n + m ≤ 9223372036854775807 := by simp only [maxLen] at h63; omega
      have holds : ∀ j u, xs[j]? = some u → w.cell? ((⟨g0, 0, none⟩ : Addr).add j) = some u := hown.cells (g := g0) rfl
      have hr2 := run_append_grow (P := P) w t ty e i z ht hi hz ⟨g0, 0, none⟩ n cap0 xs hown.1 holds a m c news hl hnews (by omega) (by omega) (growslice_fits (by omega) hbytes)
      rw [hr, hg] at hr2
      simp at hr2
      right
      omega
theorem wp_append_own2 {P : Program} (w : World) {o : Oper} {a : Act} {K : Act → World → Prop} {Q : Exit → Act → World → Prop} (s x : Operand) (t : TypeId)
    (ho : o.op = .call { callee := .builtin .append, args := #[s, x], argTypes := #[t, t] })
    (base : Nat) (e : TypeId) (i : TypeInfo) (z : Value) (size bytes : Nat) (ht : P.underlying t = some (.slice e)) (hi : P.info? e = some i) (hz : i.zero = some z)
    (hsize : i.size = size) (hby : i.bytes = bytes) (hzs : z.cells.size = size) (hsz : 0 < size)
    (v : Value) (n : Nat) (xs : List Value) (hs : a.eval s = v) (hown : w.ownsRow base e size v n xs)
    (ad : Addr) (m c : Nat) (news : List Value) (hx : a.eval x = .slice (some ad) m c) (hl : news.length = m * size) (hnews : ∀ j u, news[j]? = some u → w.cell? (ad.add j) = some u) (h1 : ∀ u ∈ news, u.oneCell' = true)
    (h63 : n + m ≤ maxLen) (hbytes : (n + m) * bytes ≤ 140737488355328) (hbase : base ≤ w.heap.size) (hm : 0 < m)
    (h : ∀ g cap w', w'.ownsRow base e size (.slice (some ⟨g, 0, none⟩) (n + m) cap) (n + m) (xs ++ news) → w.grownBy w' v.ownBlock → (v.ownBlock = some g ∨ w.heap.size ≤ g) → K (a.put o.dst (.slice (some ⟨g, 0, none⟩) (n + m) cap)) w') : o.wp P a w K Q := by
  obtain ⟨v', w', hr, h2, h3, g, cap, rfl, h4⟩ := run_append_own2 (P := P) w base t o.type e i z size bytes ht hi hz hsize hby hzs hsz v n xs hown ad m c news hl hnews h1 h63 hbytes hbase hm
  unfold Oper.wp execOp
  simp only [ho, resolve, invoke, builtin, Sem.run_bind, Sem.run_pure, Result.andThen_ok, List.map_toArray, List.map_cons, List.map_nil, hs, hx, hr]
  exact h g cap w' h2 h3 h4
theorem wpList_append_own2 {P : Program} (w : World) {ops : Array Oper} {rest : List Oper} {o : Oper} {a : Act} {Q : Exit → Act → World → Prop} (hgd : o.guard = none) (s x : Operand) (t : TypeId)
    (ho : o.op = .call { callee := .builtin .append, args := #[s, x], argTypes := #[t, t] })
    (base : Nat) (e : TypeId) (i : TypeInfo) (z : Value) (size bytes : Nat) (ht : P.underlying t = some (.slice e)) (hi : P.info? e = some i) (hz : i.zero = some z)
    (hsize : i.size = size) (hby : i.bytes = bytes) (hzs : z.cells.size = size) (hsz : 0 < size)
    (v : Value) (n : Nat) (xs : List Value) (hs : a.eval s = v) (hown : w.ownsRow base e size v n xs)
    (ad : Addr) (m c : Nat) (news : List Value) (hx : a.eval x = .slice (some ad) m c) (hl : news.length = m * size) (hnews : ∀ j u, news[j]? = some u → w.cell? (ad.add j) = some u) (h1 : ∀ u ∈ news, u.oneCell' = true)
    (h63 : n + m ≤ maxLen) (hbytes : (n + m) * bytes ≤ 140737488355328) (hbase : base ≤ w.heap.size) (hm : 0 < m)
    (h : ∀ g cap w', w'.ownsRow base e size (.slice (some ⟨g, 0, none⟩) (n + m) cap) (n + m) (xs ++ news) → w.grownBy w' v.ownBlock → (v.ownBlock = some g ∨ w.heap.size ≤ g) → wpList P ops Q rest (a.put o.dst (.slice (some ⟨g, 0, none⟩) (n + m) cap)) w') : wpList P ops Q (o :: rest) a w :=
  wpList_plain hgd fun _ hK => wp_append_own2 w s x t ho base e i z size bytes ht hi hz hsize hby hzs hsz v n xs hs hown ad m c news hx hl hnews h1 h63 hbytes hbase hm fun g cap w' h2 h3 h4 => hK _ _ (h g cap w' h2 h3 h4)
end Go.Proofs.YtmknnjjmmfbppaaGreat
