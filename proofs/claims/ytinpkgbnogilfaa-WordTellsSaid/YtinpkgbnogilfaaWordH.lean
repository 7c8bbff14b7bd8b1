/- Contracts of the statements' helpers near and plain: each returns some header. -/
import Derived.Test.YtinpkgbnogilfaaWordG
namespace Go.Proofs.Ytinpkgbnogilfaa
open Go.ChangeShapes Go.WideShapes Go.ChangeAt Go.RowKit
set_option linter.unusedVariables false
set_option linter.unusedSimpArgs false
open Wd
/-- some header is returned -/
def SomeHd (w : World) (e : Ending) (w' : World) : Prop := ∃ y : Hd, e = .returned (hdV y) ∧ Below w.heap.size w w'
set_option maxRecDepth 100000 in
set_option maxHeartbeats 4000000 in
theorem near_any (x : Hd) (w : World) : Calls Try.prog 7 #[hdV x] w (SomeHd w) := by
  have nn : ∀ t : Int, 0 ≤ IntKind.u64.wrap t := fun t => by rw [IntKind.wrap_u64]; omega
  obtain ⟨t, o, c, m, g, h⟩ := x
  have n0 := nn t
  have n1 := nn o
  have n2 := nn c
  have n3 := nn m
  have n4 := nn g
  have n5 := nn h
  clear nn
  go_enter Try.func7, Try.ntmps7
  go_wp2
  exact bodyPost_ret (v := .agg _) (results_cell_row rfl _ _ (w.heap.size + 1) 23 _ (0, 0) _ rfl (blk_two _ _ _ _) Try.underlying23 rfl hd_size) rfl ⟨⟨_, _, _, _, _, _⟩, rfl, by go_grown⟩
set_option maxRecDepth 100000 in
set_option maxHeartbeats 4000000 in
theorem plain_any (x : Hd) (w : World) : Calls Try.prog 8 #[hdV x] w (SomeHd w) := by
  obtain ⟨t, o, c, m, g, h⟩ := x
  by_cases h2 : t = 2
  · subst h2
    go_enter Try.func8, Try.ntmps8
    go_wp2
    exact bodyPost_ret (v := .agg _) (results_cell_row rfl _ _ (w.heap.size + 1) 23 _ (0, 0) _ rfl (blk_two _ _ _ _) Try.underlying23 rfl hd_size) rfl ⟨⟨_, _, _, _, _, _⟩, rfl, by go_grown⟩
  · by_cases h3 : t = 3
    · subst h3
      go_enter Try.func8, Try.ntmps8
      go_wp2
      exact bodyPost_ret (v := .agg _) (results_cell_row rfl _ _ (w.heap.size + 1) 23 _ (0, 0) _ rfl (blk_two _ _ _ _) Try.underlying23 rfl hd_size) rfl ⟨⟨_, _, _, _, _, _⟩, rfl, by go_grown⟩
    · by_cases h4 : t = 4
      · subst h4
        go_enter Try.func8, Try.ntmps8
        go_wp2
        exact bodyPost_ret (v := .agg _) (results_cell_row rfl _ _ (w.heap.size + 1) 23 _ (0, 0) _ rfl (blk_two _ _ _ _) Try.underlying23 rfl hd_size) rfl ⟨⟨_, _, _, _, _, _⟩, rfl, by go_grown⟩
      · have b2 : (t != 2) = true := by simp [h2]
        have b3 : (t != 3) = true := by simp [h3]
        have b4 : (t != 4) = true := by simp [h4]
        go_enter Try.func8, Try.ntmps8
        go_wp2
        exact bodyPost_ret (v := .agg _) (results_cell_row rfl _ _ (w.heap.size + 1) 23 _ (0, 0) _ rfl (blk_two _ _ _ _) Try.underlying23 rfl hd_size) rfl ⟨⟨_, _, _, _, _, _⟩, rfl, by go_grown⟩
end Go.Proofs.Ytinpkgbnogilfaa
