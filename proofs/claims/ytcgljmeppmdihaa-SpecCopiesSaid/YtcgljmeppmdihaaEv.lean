/- Events: their values, rows of them. No program is named here. -/
import Derived.Test.YtcgljmeppmdihaaBlk
namespace Go.Proofs.Ytcgljmeppmdihaa
open Go.ChangeShapes Go.WideShapes Go.ChangeAt Go.RowKit
set_option linter.unusedVariables false
/-- an event -/
structure Ev where
  kind : Int
  thr : Int
  idx : Int
  act : Int
  obj : Int
  oth : Int
  code : Int
  val : Int
abbrev evV (e : Ev) : Value := .agg #[.int .i64 e.kind, .int .i64 e.thr, .int .i64 e.idx, .int .i64 e.act, .int .i64 e.obj, .int .i64 e.oth, .int .i64 e.code, .int .i64 e.val]
def evL (e : Ev) : List Value := [.int .i64 e.kind, .int .i64 e.thr, .int .i64 e.idx, .int .i64 e.act, .int .i64 e.obj, .int .i64 e.oth, .int .i64 e.code, .int .i64 e.val]
/-- a row of events, from a place on -/
def EvsAt (w : World) (B off : Nat) (l : List Ev) : Prop := ∀ (i : Nat) (e : Ev), l[i]? = some e → ∀ (j : Nat) (v : Value), (evL e)[j]? = some v → w.cell? ⟨B, off + i * 8 + j, none⟩ = some v
theorem flat8 : ∀ (l : List Ev) (i : Nat) (e : Ev), l[i]? = some e → ∀ (j : Nat) (v : Value), (evL e)[j]? = some v → (l.flatMap evL)[i * 8 + j]? = some v
  | [], i, e, h, _, _, _ => by simp at h
  | a :: l, 0, e, h, j, v, hv => by
    simp at h
    subst h
    rw [List.flatMap_cons, Nat.zero_mul, Nat.zero_add, List.getElem?_append_left (List.getElem?_eq_some_iff.1 hv).1]
    exact hv
  | a :: l, i + 1, e, h, j, v, hv => by
    have h1 : l[i]? = some e := by simpa using h
    rw [List.flatMap_cons, List.getElem?_append_right (by show 8 ≤ _; omega), show (i + 1) * 8 + j - (evL a).length = i * 8 + j by show _ - 8 = _; omega]
    exact flat8 l i e h1 j v hv
theorem evs_lit {w : World} {B : Nat} {t : TypeId} {cs : Array Value} (l : List Ev) (h : Blk w B t cs) (he : cs = (l.flatMap evL).toArray) : EvsAt w B 0 l := fun i e hi j v hv => by
  subst he
  have := h.cell (0 + i * 8 + j) v (by rw [Nat.zero_add, List.getElem?_toArray]; exact flat8 l i e hi j v hv)
  exact this
abbrev evC (e : Ev) : Array Value := #[.int .i64 e.kind, .int .i64 e.thr, .int .i64 e.idx, .int .i64 e.act, .int .i64 e.obj, .int .i64 e.oth, .int .i64 e.code, .int .i64 e.val]
/-- an event in its box: what is read of it -/
structure EvAt (w : World) (bx : Nat) (e : Ev) : Prop where
  b0 : w.cell? ⟨bx, 0, none⟩ = some (.int .i64 e.kind)
  b1 : w.cell? ⟨bx, 1, none⟩ = some (.int .i64 e.thr)
  b2 : w.cell? ⟨bx, 2, none⟩ = some (.int .i64 e.idx)
  b3 : w.cell? ⟨bx, 3, none⟩ = some (.int .i64 e.act)
  b4 : w.cell? ⟨bx, 4, none⟩ = some (.int .i64 e.obj)
  b5 : w.cell? ⟨bx, 5, none⟩ = some (.int .i64 e.oth)
  b6 : w.cell? ⟨bx, 6, none⟩ = some (.int .i64 e.code)
  b7 : w.cell? ⟨bx, 7, none⟩ = some (.int .i64 e.val)
theorem evAt {w : World} {t : TypeId} {bx : Nat} {e : Ev} (h : Blk w bx t (evC e)) : EvAt w bx e := ⟨h.cell 0 _ rfl, h.cell 1 _ rfl, h.cell 2 _ rfl, h.cell 3 _ rfl, h.cell 4 _ rfl, h.cell 5 _ rfl, h.cell 6 _ rfl, h.cell 7 _ rfl⟩
theorem EvAt.conj {w : World} {bx : Nat} {e : Ev} (h : EvAt w bx e) : w.cell? ⟨bx, 0, none⟩ = some (.int .i64 e.kind) ∧ w.cell? ⟨bx, 1, none⟩ = some (.int .i64 e.thr) ∧ w.cell? ⟨bx, 2, none⟩ = some (.int .i64 e.idx) ∧ w.cell? ⟨bx, 3, none⟩ = some (.int .i64 e.act) ∧ w.cell? ⟨bx, 4, none⟩ = some (.int .i64 e.obj) ∧ w.cell? ⟨bx, 5, none⟩ = some (.int .i64 e.oth) ∧ w.cell? ⟨bx, 6, none⟩ = some (.int .i64 e.code) ∧ w.cell? ⟨bx, 7, none⟩ = some (.int .i64 e.val) := ⟨h.b0, h.b1, h.b2, h.b3, h.b4, h.b5, h.b6, h.b7⟩
end Go.Proofs.Ytcgljmeppmdihaa
