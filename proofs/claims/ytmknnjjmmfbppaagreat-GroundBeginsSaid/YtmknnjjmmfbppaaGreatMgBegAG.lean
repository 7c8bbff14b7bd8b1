/- Rows of a call's own, blocks that are apart: what several texts want. No program is named here. -/
import Derived.Test.YtmknnjjmmfbppaaGreatMgBegAF
import Derived.Test.YtmknnjjmmfbppaaGreatMgBegAD
import Derived.Test.YtmknnjjmmfbppaaGreatMgBegAE
namespace Go.Proofs.YtmknnjjmmfbppaaGreat
open Go.ChangeShapes Go.WideShapes Go.ChangeAt Go.RowKit
set_option linter.unusedVariables false
set_option linter.unusedSimpArgs false
theorem Blk.apart {w : World} {a b : Nat} {t u : TypeId} {xs ys : Array Value} (h1 : Blk w a t xs) (h2 : Blk w b u ys) (ht : t ≠ u) : a ≠ b := by
  rintro rfl
  have h3 : w.heap[a]? = some (.cells ys u (0, 0)) := h2
  rw [show w.heap[a]? = _ from h1] at h3
  have := Option.some.inj h3
  simp at this
  exact ht this.2
theorem ownsRow_keepQ {w w' : World} {B size n : Nat} {e : TypeId} {v : Value} {xs : List Value} {Q : Nat → Prop} (h : w.ownsRow B e size v n xs) (hk : Keep Q w w') (hQ : ∀ g, B ≤ g → ¬ Q g) : w'.ownsRow B e size v n xs := by
  refine ⟨h.1, ?_⟩
  rcases h.2 with h | ⟨g, cap, cur, hv, hg, hh, r⟩
  · exact .inl h
  · exact .inr ⟨g, cap, cur, hv, hg, (hk.block g (Array.getElem?_eq_some_iff.1 hh).1 (hQ g hg)).trans hh, r⟩
theorem row_slice {w : World} {B size n : Nat} {e : TypeId} {v : Value} {xs : List Value} (h : w.ownsRow B e size v n xs) (hn : 0 < n) : ∃ g cap, v = .slice (some ⟨g, 0, none⟩) n cap := by
  rcases h.2 with ⟨_, h0⟩ | ⟨g, cap, cur, hv, _⟩
  · omega
  · exact ⟨g, cap, hv⟩
theorem ownsRow_keep {w w' : World} {B size n : Nat} {e : TypeId} {v : Value} {xs : List Value} (h : w.ownsRow B e size v n xs) (hk : Keep (fun _ => False) w w') : w'.ownsRow B e size v n xs := by
  refine ⟨h.1, ?_⟩
  rcases h.2 with h | ⟨g, cap, cur, hv, hg, hh, r⟩
  · exact .inl h
  · exact .inr ⟨g, cap, cur, hv, hg, (hk.block g (Array.getElem?_eq_some_iff.1 hh).1 (fun h => h)).trans hh, r⟩
theorem cells4_new (w : World) (e : TypeId) (c0 c1 c2 c3 : Value) : ∀ (j : Nat) (u : Value), [c0, c1, c2, c3][j]? = some u → (w.alloc (.cells #[c0, c1, c2, c3] e)).cell? ((⟨w.heap.size, 0, none⟩ : Addr).add j) = some u := by
  intro j u hj
  have hb := Blk.new w e #[c0, c1, c2, c3]
  have := hb.cell j u (by simpa using hj)
  unfold Addr.add
  split
  · subst_vars; exact this
  · simpa using this
/-- what an append to a slice of the call's own leaves as it was -/
theorem grown_below {w w2 : World} {base : Nat} {e : TypeId} {n k : Nat} {v : Value} {xs : List Value} {o : Obj} (hg : (w.alloc o).grownBy w2 v.ownBlock) (hrow : w.ownsRow base e n v k xs) (hh : base ≤ w.heap.size) : Below base w w2 := by
  refine ((Below.refl base w).alloc hh o).grown hg (by simp; omega) fun j ej => ?_
  rcases hrow.2 with ⟨rfl, _⟩ | ⟨g, cap, cur, rfl, hb, _⟩
  · simp [Value.ownBlock] at ej
  · simp [Value.ownBlock] at ej
    omega
theorem tmod7 {A : Int} (h : A.tmod 8 = 7) : 0 ≤ A := by
  rcases Int.le_total 0 A with h0 | h0
  · exact h0
  · have h1 := Int.tmod_nonneg (a := -A) 8 (by omega)
    rw [Int.neg_tmod] at h1
    omega
theorem rem_small (K : Int) (m : Nat) (h0 : 0 < m) (hm : m ≤ 1000) : ∃ k : Nat, wrap64 ((IntKind.u64.wrap K).tmod (m : Int)) = k ∧ k < m := by
  have h1 : 0 ≤ IntKind.u64.wrap K := by rw [IntKind.wrap_u64]; omega
  have h2 : (IntKind.u64.wrap K).tmod (m : Int) = IntKind.u64.wrap K % (m : Int) := Int.tmod_eq_emod_of_nonneg h1
  have h3 : 0 ≤ IntKind.u64.wrap K % (m : Int) := Int.emod_nonneg _ (by omega)
  have h4 : IntKind.u64.wrap K % (m : Int) < m := Int.emod_lt_of_pos _ (by omega)
  obtain ⟨k, hk⟩ := Int.eq_ofNat_of_zero_le h3
  refine ⟨k, ?_, by omega⟩
  rw [h2, hk]
  exact IntWalk.wrap64_in _ ⟨by omega, by omega⟩
theorem own_some {g g' n c : Nat} (h : (Value.slice (some ⟨g, 0, none⟩) n c).ownBlock = some g') : g = g' := by simpa [Value.ownBlock] using h
theorem row_ownkeep {w w' : World} {B size n : Nat} {e : TypeId} {v : Value} {xs : List Value} {Q : Nat → Prop} (h : w.ownsRow B e size v n xs) (hk : Keep Q w w') (hQ : ∀ g, v.ownBlock = some g → ¬ Q g) : w'.ownsRow B e size v n xs := by
  refine ⟨h.1, ?_⟩
  rcases h.2 with h | ⟨g, cap, cur, hv, hg, hh, r⟩
  · exact .inl h
  · exact .inr ⟨g, cap, cur, hv, hg, (hk.block g (Array.getElem?_eq_some_iff.1 hh).1 (hQ g (by rw [hv]; rfl))).trans hh, r⟩
theorem row_lt {w : World} {B size n : Nat} {e : TypeId} {v : Value} {xs : List Value} (h : w.ownsRow B e size v n xs) {g : Nat} (hg : v.ownBlock = some g) : g < w.heap.size ∧ ∃ cur, Blk w g e cur := by
  rcases h.2 with ⟨hv, _⟩ | ⟨g', cap, cur, hv, _, hh, _⟩
  · rw [hv] at hg; simp [Value.ownBlock] at hg
  · rw [hv] at hg
    obtain rfl : g' = g := by simpa [Value.ownBlock] using hg
    exact ⟨(Array.getElem?_eq_some_iff.1 hh).1, cur, hh⟩
theorem rows_apart {w : World} {B B' n n' : Nat} {e e' : TypeId} {v v' : Value} {xs xs' : List Value} (h : w.ownsRow B e 1 v n xs) (h' : w.ownsRow B' e' 1 v' n' xs') (he : e ≠ e') (g : Nat) (hg : v.ownBlock = some g) : ¬ v'.ownBlock = some g := fun hg' => by
  obtain ⟨_, cur, hb⟩ := row_lt h hg
  obtain ⟨_, cur', hb'⟩ := row_lt h' hg'
  exact hb.apart hb' he rfl
theorem grown_keep {w w2 : World} {r : Option Nat} {o : Obj} (hg : (w.alloc o).grownBy w2 r) : Keep (fun b => r = some b) w w2 :=
  ⟨hg.1, hg.2, hg.3, Nat.le_trans (by simp) hg.4, fun k hk hn => (hg.5 k (by simp; omega) (fun e => hn e.symm)).trans (Below.heap_alloc w o k hk)⟩
end Go.Proofs.YtmknnjjmmfbppaaGreat
/- A ground in memory. -/
namespace Go.Proofs.YtmknnjjmmfbppaaGreat
open Go.ChangeShapes Go.WideShapes Go.ChangeAt Go.RowKit
set_option linter.unusedVariables false
set_option maxRecDepth 100000
set_option linter.unusedSimpArgs false
/-- where a ground's blocks lie -/
structure GrP where
  G : Nat
  C : Nat
  S : Nat
  P : Nat
  R : Nat
  cs : List Nat
abbrev grV (g : GrP) : Value := .pointer (some ⟨g.G, 0, none⟩)
abbrev grA (g : GrP) (m : Mp) (vo : Value) : Array Value := #[.int .i64 (m.t : Int), .int .i64 (m.o : Int), .int .i64 (m.n : Int), cellsV g.C, permitsV g.P, .int .i32 0, .int .u32 0, vo]
/-- the blocks of a ground -/
def grB (g : GrP) (vo : Value) : Nat → Prop := fun b => b = g.G ∨ b = g.C ∨ b = g.S ∨ b = g.P ∨ b = g.R ∨ b ∈ g.cs ∨ vo.ownBlock = some b
structure GrAt (w : World) (g : GrP) (m : Mp) (mm : List Int) (k : Int) (l : List Bool) (vo : Value) (E : List Ev) : Prop where
  own : Blk w g.G 49 (grA g m vo)
  cells : CellsAt w g.C g.S mm k
  perms : PermitsAt w g.P g.R g.cs l
  row : w.ownsRow 0 81 8 vo E.length (E.flatMap evL)
  ok : m.ok
  size : mm.length = sizeN m
  few : l.length = m.t
theorem blk_chan {w : World} {B c : Nat} {t : TypeId} {xs : Array Value} {b : Bool} (h : Blk w B t xs) (hc : ChanAt w c b) : B ≠ c := by
  rintro rfl
  obtain ⟨s, r, hx⟩ := hc
  rw [show w.heap[B]? = _ from h] at hx
  cases hx
section
variable {w w1 : World} {g : GrP} {m : Mp} {mm mm' : List Int} {k k' : Int} {l l' : List Bool} {vo vo' : Value} {E E' : List Ev}
theorem GrAt.chan (h : GrAt w g m mm k l vo E) {c : Nat} (hc : c ∈ g.cs) : ∃ b, ChanAt w c b := by
  obtain ⟨i, hi, e⟩ := List.mem_iff_getElem.1 hc
  have hl := h.perms.len
  exact ⟨l[i]'(by omega), h.perms.chan i c _ (by rw [List.getElem?_eq_getElem hi, e]) (by simp)⟩
theorem GrAt.lt (h : GrAt w g m mm k l vo E) {b : Nat} (hb : grB g vo b) : b < w.heap.size := by
  rcases hb with rfl | rfl | rfl | rfl | rfl | hb | hb
  · exact h.own.lt
  · exact h.cells.own.lt
  · exact h.cells.row.lt
  · exact h.perms.own.lt
  · exact h.perms.row.lt
  · obtain ⟨x, s, r, hx⟩ := h.chan hb
    exact (Array.getElem?_eq_some_iff.1 hx).1
  · exact (row_lt h.row hb).1
theorem GrAt.keep {F : Nat → Prop} (h : GrAt w g m mm k l vo E) (hk : Keep F w w1) (hF : ∀ b, grB g vo b → ¬ F b) : GrAt w1 g m mm k l vo E :=
  ⟨h.own.keep hk (hF _ (.inl rfl)), h.cells.keep hk (hF _ (.inr (.inl rfl))) (hF _ (.inr (.inr (.inl rfl)))),
    h.perms.keep hk (hF _ (.inr (.inr (.inr (.inl rfl))))) (hF _ (.inr (.inr (.inr (.inr (.inl rfl)))))) (fun c hc => hF _ (.inr (.inr (.inr (.inr (.inr (.inl hc))))))),
    row_ownkeep h.row hk (fun b hb => hF _ (.inr (.inr (.inr (.inr (.inr (.inr hb))))))), h.ok, h.size, h.few⟩
theorem GrAt.below (h : GrAt w g m mm k l vo E) (hb : Below w.heap.size w w1) : GrAt w1 g m mm k l vo E := h.keep (F := fun _ => False) (Keep.ofBelow hb) (fun _ _ h => h)
theorem GrAt.alloc (h : GrAt w g m mm k l vo E) (o : Obj) : GrAt (w.alloc o) g m mm k l vo E := h.below ((Below.refl _ _).alloc (Nat.le_refl _) o)
theorem GrAt.apartG (h : GrAt w g m mm k l vo E) : g.G ≠ g.C ∧ g.G ≠ g.S ∧ g.G ≠ g.P ∧ g.G ≠ g.R ∧ g.G ∉ g.cs ∧ vo.ownBlock ≠ some g.G := by
  refine ⟨h.own.apart h.cells.own (by decide), h.own.apart h.cells.row (by decide), h.own.apart h.perms.own (by decide), h.own.apart h.perms.row (by decide), fun hc => ?_, fun hg => ?_⟩
  · obtain ⟨b, hb⟩ := h.chan hc
    exact blk_chan h.own hb rfl
  · obtain ⟨_, cur, hB⟩ := row_lt h.row hg
    exact hB.apart h.own (by decide) rfl
theorem GrAt.apartV (h : GrAt w g m mm k l vo E) {b : Nat} (hb : vo.ownBlock = some b) : b ≠ g.G ∧ b ≠ g.C ∧ b ≠ g.S ∧ b ≠ g.P ∧ b ≠ g.R ∧ b ∉ g.cs := by
  obtain ⟨_, cur, hB⟩ := row_lt h.row hb
  refine ⟨hB.apart h.own (by decide), hB.apart h.cells.own (by decide), hB.apart h.cells.row (by decide), hB.apart h.perms.own (by decide), hB.apart h.perms.row (by decide), fun hc => ?_⟩
  obtain ⟨x, hx⟩ := h.chan hc
  exact blk_chan hB hx rfl
/-- cells turn -/
theorem GrAt.cells' (h : GrAt w g m mm k l vo E) (hc : CellsAt w1 g.C g.S mm' k') (hk : Keep (ofCells g.C g.S) w w1) (hl : mm'.length = mm.length) : GrAt w1 g m mm' k' l vo E := by
  obtain ⟨a1, a2, a3, a4, a5, a6⟩ := h.apartG
  have hn : ∀ b, b ≠ g.C → b ≠ g.S → ¬ ofCells g.C g.S b := fun b h1 h2 h3 => by rcases h3 with h3 | h3 <;> contradiction
  refine ⟨h.own.keep hk (hn _ a1 a2), hc, h.perms.keep hk (hn _ (h.perms.own.apart h.cells.own (by decide)) (h.perms.own.apart h.cells.row (by decide))) (hn _ (h.perms.row.apart h.cells.own (by decide)) (h.perms.row.apart h.cells.row (by decide))) (fun c hx => ?_), row_ownkeep h.row hk (fun b hb => hn _ (h.apartV hb).2.1 (h.apartV hb).2.2.1), h.ok, hl.trans h.size, h.few⟩
  obtain ⟨x, hx⟩ := h.chan hx
  exact hn _ (fun e => blk_chan h.cells.own hx e.symm) (fun e => blk_chan h.cells.row hx e.symm)
/-- permits turn -/
theorem GrAt.perms' (h : GrAt w g m mm k l vo E) (hp : PermitsAt w1 g.P g.R g.cs l') (hk : Keep (fun b => b ∈ g.cs) w w1) (hl : l'.length = l.length) : GrAt w1 g m mm k l' vo E := by
  obtain ⟨a1, a2, a3, a4, a5, a6⟩ := h.apartG
  have hn : ∀ {B : Nat} {t : TypeId} {xs : Array Value}, Blk w B t xs → ¬ B ∈ g.cs := fun hB hc => by
    obtain ⟨x, hx⟩ := h.chan hc
    exact blk_chan hB hx rfl
  exact ⟨h.own.keep hk a5, h.cells.keep hk (hn h.cells.own) (hn h.cells.row), hp, row_ownkeep h.row hk (fun b hb => (h.apartV hb).2.2.2.2.2), h.ok, h.size, hl.trans h.few⟩
/-- the log turns -/
theorem GrAt.log' (h : GrAt w g m mm k l vo E) (ho : Blk w1 g.G 49 (grA g m vo')) (hr : w1.ownsRow 0 81 8 vo' E'.length (E'.flatMap evL)) (hk : Keep (fun b => b = g.G ∨ vo.ownBlock = some b) w w1) : GrAt w1 g m mm k l vo' E' := by
  obtain ⟨a1, a2, a3, a4, a5, a6⟩ := h.apartG
  have hn : ∀ b, b ≠ g.G → vo.ownBlock ≠ some b → ¬ (b = g.G ∨ vo.ownBlock = some b) := fun b h1 h2 h3 => by rcases h3 with h3 | h3 <;> contradiction
  refine ⟨ho, h.cells.keep hk (hn _ a1.symm fun e => (h.apartV e).2.1 rfl) (hn _ a2.symm fun e => (h.apartV e).2.2.1 rfl), h.perms.keep hk (hn _ a3.symm fun e => (h.apartV e).2.2.2.1 rfl) (hn _ a4.symm fun e => (h.apartV e).2.2.2.2.1 rfl) (fun c hc => hn _ (fun e => a5 (e ▸ hc)) fun e => (h.apartV e).2.2.2.2.2 hc), hr, h.ok, h.size, h.few⟩
end
end Go.Proofs.YtmknnjjmmfbppaaGreat
