/- A ground in memory. -/
import Derived.Test.YtbaehokffdpopaaGreatMapLay
import Derived.Test.YtbaehokffdpopaaGreatPermC
import Derived.Test.YtbaehokffdpopaaGreatEv
import Derived.Test.YtbaehokffdpopaaGreatRowsOwn
namespace Go.Proofs.YtbaehokffdpopaaGreat
open Go.ChangeShapes Go.WideShapes Go.ChangeAt Go.RowKit
set_option linter.unusedVariables false
set_option maxRecDepth 100000
set_option linter.unusedSimpArgs false
/-- where a ground's blocks lie -/
structure GrP where
  G : Nat
  C : Nat
  S : Nat
  P : Nat
  R : Nat
  cs : List Nat
abbrev grV (g : GrP) : Value := .pointer (some ⟨g.G, 0, none⟩)
abbrev grA (g : GrP) (m : Mp) (vo : Value) : Array Value := #[.int .i64 (m.t : Int), .int .i64 (m.o : Int), .int .i64 (m.n : Int), cellsV g.C, permitsV g.P, .int .i32 0, .int .u32 0, vo]
/-- the blocks of a ground -/
def grB (g : GrP) (vo : Value) : Nat → Prop := fun b => b = g.G ∨ b = g.C ∨ b = g.S ∨ b = g.P ∨ b = g.R ∨ b ∈ g.cs ∨ vo.ownBlock = some b
structure GrAt (w : World) (g : GrP) (m : Mp) (mm : List Int) (k : Int) (l : List Bool) (vo : Value) (E : List Ev) : Prop where
  own : Blk w g.G 49 (grA g m vo)
  cells : CellsAt w g.C g.S mm k
  perms : PermitsAt w g.P g.R g.cs l
  row : w.ownsRow 0 68 8 vo E.length (E.flatMap evL)
  ok : m.ok
  size : mm.length = sizeN m
  few : l.length = m.t
theorem blk_chan {w : World} {B c : Nat} {t : TypeId} {xs : Array Value} {b : Bool} (h : Blk w B t xs) (hc : ChanAt w c b) : B ≠ c := by
  rintro rfl
  obtain ⟨s, r, hx⟩ := hc
  rw [show w.heap[B]? = _ from h] at hx
  cases hx
section
variable {w w1 : World} {g : GrP} {m : Mp} {mm mm' : List Int} {k k' : Int} {l l' : List Bool} {vo vo' : Value} {E E' : List Ev}
theorem GrAt.chan (h : GrAt w g m mm k l vo E) {c : Nat} (hc : c ∈ g.cs) : ∃ b, ChanAt w c b := by
  obtain ⟨i, hi, e⟩ := List.mem_iff_getElem.1 hc
  have hl := h.perms.len
  exact ⟨l[i]'(by omega), h.perms.chan i c _ (by rw [List.getElem?_eq_getElem hi, e]) (by simp)⟩
theorem GrAt.lt (h : GrAt w g m mm k l vo E) {b : Nat} (hb : grB g vo b) : b < w.heap.size := by
  rcases hb with rfl | rfl | rfl | rfl | rfl | hb | hb
  · exact h.own.lt
  · exact h.cells.own.lt
  · exact h.cells.row.lt
  · exact h.perms.own.lt
  · exact h.perms.row.lt
  · obtain ⟨x, s, r, hx⟩ := h.chan hb
    exact (Array.getElem?_eq_some_iff.1 hx).1
  · exact (row_lt h.row hb).1
theorem GrAt.keep {F : Nat → Prop} (h : GrAt w g m mm k l vo E) (hk : Keep F w w1) (hF : ∀ b, grB g vo b → ¬ F b) : GrAt w1 g m mm k l vo E :=
  ⟨h.own.keep hk (hF _ (.inl rfl)), h.cells.keep hk (hF _ (.inr (.inl rfl))) (hF _ (.inr (.inr (.inl rfl)))),
    h.perms.keep hk (hF _ (.inr (.inr (.inr (.inl rfl))))) (hF _ (.inr (.inr (.inr (.inr (.inl rfl)))))) (fun c hc => hF _ (.inr (.inr (.inr (.inr (.inr (.inl hc))))))),
    row_ownkeep h.row hk (fun b hb => hF _ (.inr (.inr (.inr (.inr (.inr (.inr hb))))))), h.ok, h.size, h.few⟩
theorem GrAt.below (h : GrAt w g m mm k l vo E) (hb : Below w.heap.size w w1) : GrAt w1 g m mm k l vo E := h.keep (F := fun _ => False) (Keep.ofBelow hb) (fun _ _ h => h)
theorem GrAt.alloc (h : GrAt w g m mm k l vo E) (o : Obj) : GrAt (w.alloc o) g m mm k l vo E := h.below ((Below.refl _ _).alloc (Nat.le_refl _) o)
theorem GrAt.apartG (h : GrAt w g m mm k l vo E) : g.G ≠ g.C ∧ g.G ≠ g.S ∧ g.G ≠ g.P ∧ g.G ≠ g.R ∧ g.G ∉ g.cs ∧ vo.ownBlock ≠ some g.G := by
  refine ⟨h.own.apart h.cells.own (by decide), h.own.apart h.cells.row (by decide), h.own.apart h.perms.own (by decide), h.own.apart h.perms.row (by decide), fun hc => ?_, fun hg => ?_⟩
  · obtain ⟨b, hb⟩ := h.chan hc
    exact blk_chan h.own hb rfl
  · obtain ⟨_, cur, hB⟩ := row_lt h.row hg
    exact hB.apart h.own (by decide) rfl
theorem GrAt.apartV (h : GrAt w g m mm k l vo E) {b : Nat} (hb : vo.ownBlock = some b) : b ≠ g.G ∧ b ≠ g.C ∧ b ≠ g.S ∧ b ≠ g.P ∧ b ≠ g.R ∧ b ∉ g.cs := by
  obtain ⟨_, cur, hB⟩ := row_lt h.row hb
  refine ⟨hB.apart h.own (by decide), hB.apart h.cells.own (by decide), hB.apart h.cells.row (by decide), hB.apart h.perms.own (by decide), hB.apart h.perms.row (by decide), fun hc => ?_⟩
  obtain ⟨x, hx⟩ := h.chan hc
  exact blk_chan hB hx rfl
/-- cells turn -/
theorem GrAt.cells' (h : GrAt w g m mm k l vo E) (hc : CellsAt w1 g.C g.S mm' k') (hk : Keep (ofCells g.C g.S) w w1) (hl : mm'.length = mm.length) : GrAt w1 g m mm' k' l vo E := by
  obtain ⟨a1, a2, a3, a4, a5, a6⟩ := h.apartG
  have hn : ∀ b, b ≠ g.C → b ≠ g.S → ¬ ofCells g.C g.S b := fun b h1 h2 h3 => by rcases h3 with h3 | h3 <;> contradiction
  refine ⟨h.own.keep hk (hn _ a1 a2), hc, h.perms.keep hk (hn _ (h.perms.own.apart h.cells.own (by decide)) (h.perms.own.apart h.cells.row (by decide))) (hn _ (h.perms.row.apart h.cells.own (by decide)) (h.perms.row.apart h.cells.row (by decide))) (fun c hx => ?_), row_ownkeep h.row hk (fun b hb => hn _ (h.apartV hb).2.1 (h.apartV hb).2.2.1), h.ok, hl.trans h.size, h.few⟩
  obtain ⟨x, hx⟩ := h.chan hx
  exact hn _ (fun e => blk_chan h.cells.own hx e.symm) (fun e => blk_chan h.cells.row hx e.symm)
/-- permits turn -/
theorem GrAt.perms' (h : GrAt w g m mm k l vo E) (hp : PermitsAt w1 g.P g.R g.cs l') (hk : Keep (fun b => b ∈ g.cs) w w1) (hl : l'.length = l.length) : GrAt w1 g m mm k l' vo E := by
  obtain ⟨a1, a2, a3, a4, a5, a6⟩ := h.apartG
  have hn : ∀ {B : Nat} {t : TypeId} {xs : Array Value}, Blk w B t xs → ¬ B ∈ g.cs := fun hB hc => by
    obtain ⟨x, hx⟩ := h.chan hc
    exact blk_chan hB hx rfl
  exact ⟨h.own.keep hk a5, h.cells.keep hk (hn h.cells.own) (hn h.cells.row), hp, row_ownkeep h.row hk (fun b hb => (h.apartV hb).2.2.2.2.2), h.ok, h.size, hl.trans h.few⟩
/-- the log turns -/
theorem GrAt.log' (h : GrAt w g m mm k l vo E) (ho : Blk w1 g.G 49 (grA g m vo')) (hr : w1.ownsRow 0 68 8 vo' E'.length (E'.flatMap evL)) (hk : Keep (fun b => b = g.G ∨ vo.ownBlock = some b) w w1) : GrAt w1 g m mm k l vo' E' := by
  obtain ⟨a1, a2, a3, a4, a5, a6⟩ := h.apartG
  have hn : ∀ b, b ≠ g.G → vo.ownBlock ≠ some b → ¬ (b = g.G ∨ vo.ownBlock = some b) := fun b h1 h2 h3 => by rcases h3 with h3 | h3 <;> contradiction
  refine ⟨ho, h.cells.keep hk (hn _ a1.symm fun e => (h.apartV e).2.1 rfl) (hn _ a2.symm fun e => (h.apartV e).2.2.1 rfl), h.perms.keep hk (hn _ a3.symm fun e => (h.apartV e).2.2.2.1 rfl) (hn _ a4.symm fun e => (h.apartV e).2.2.2.2.1 rfl) (fun c hc => hn _ (fun e => a5 (e ▸ hc)) fun e => (h.apartV e).2.2.2.2.2 hc), hr, h.ok, h.size, h.few⟩
end
end Go.Proofs.YtbaehokffdpopaaGreat
