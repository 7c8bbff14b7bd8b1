/- Package machine: Add of a caller's tasks. -/
import Derived.Test.YtpopcallphbklaaGreatMacG
namespace Go.Proofs.YtpopcallphbklaaGreat
open Go.ChangeShapes Go.WideShapes Go.ChangeAt Go.RowKit
set_option linter.unusedVariables false
set_option maxRecDepth 100000
set_option linter.unusedSimpArgs false
theorem inOrder8_any (sl : Value) (w : World) (hs : ∃ a n c, sl = .slice a n c) : Calls Tryz.prog 65 #[sl] w fun e w' => e = .returned (cloV 95 #[pV w.heap.size]) ∧ Blk w' w.heap.size 61 #[sl] ∧ Below w.heap.size w w' := by
  obtain ⟨a, n, c, rfl⟩ := hs
  have hmf : ∀ (fn : Fn) (first cap : Array Value) (w : World), (Instr.makeFunc fn first cap).run Tryz.prog w = .ok (.func fn first cap) w := fun _ _ _ _ => rfl
  go_enter Tryz.func65, Tryz.ntmps65
  go_wp2
  go_ret
  exact ⟨rfl, Blk.new w _ _, (Below.refl _ w).alloc (Nat.le_refl _) _⟩
/-- tasks that a caller hands over in a slice -/
structure Gives (w : World) (C P : Nat) (O : Nat → Prop) (v : Value) (L : List Tk) : Prop where
  row : (L = [] ∧ v = .slice none 0 0) ∨ (L ≠ [] ∧ ∃ B o cap, v = .slice (some ⟨B, o, none⟩) L.length cap ∧ ∀ i k, L[i]? = some k → w.cell? ⟨B, o + i, none⟩ = some (pV k.t))
  tks : TksAt w C P L
  all : ∀ j ∈ L, ∀ b, j.Q b → O b
  lt : ∀ b, O b → b < w.heap.size
theorem Add_any (C P M : Nat) (U O0 : Nat → Prop) (L : List Th) (TK : List Tk) (v : Value) (w : World) (h : MachAt w C P M U L) (hG : Gives w C P O0 v TK) (hO : ∀ b, O0 b → ¬ U b) (hf : L.length + 1 ≤ 1000) (ht : TK.length ≤ 1000) :
    Calls Tryz.prog 27 #[pV M, v] w fun e w' => e = .returned (.int .i64 L.length) ∧ (∃ X O1 U', MachAt w' C P M U' (L ++ [⟨X, O1, goS (TK.map Tk.x) []⟩]) ∧ ∀ b, U' b → U b ∨ O0 b ∨ w.heap.size ≤ b) ∧ Keep (fun b => U b ∨ O0 b) w w' := by
  have HC : Calls Tryz.prog 62 #[v] w fun e w' => ∃ sl, e = .returned sl ∧ (∃ a n c, sl = .slice a n c) ∧ Below w.heap.size w w' ∧
      ∃ B, RowT w' B sl TK ∧ (TK ≠ [] → w.heap.size ≤ B ∧ B < w'.heap.size) := by
    rcases hG.row with ⟨rfl, rfl⟩ | ⟨hne, B, o, cap, rfl, hc⟩
    · refine (clone_nil w).mono ?_
      rintro e w' ⟨rfl, rfl⟩
      exact ⟨_, rfl, ⟨_, _, _, rfl⟩, Below.refl _ _, 0, ⟨none, 0, rfl, by simp, fun h => absurd rfl h⟩, fun h => absurd rfl h⟩
    · have hcl := clone_any (TK.map fun k => some (⟨k.t, 0, none⟩ : Addr)) B o cap w (by simpa using hne) (by simpa using ht) (fun i x hx => by
        rw [List.getElem?_map] at hx
        obtain ⟨y, hy, rfl⟩ := Option.map_eq_some_iff.1 hx
        exact hc i y hy)
      rw [List.length_map] at hcl
      refine hcl.mono ?_
      rintro e w' ⟨g, cap', rfl, h1, h2, h3, h4, ⟨cur, h5⟩, h6⟩
      refine ⟨_, rfl, ⟨_, _, _, rfl⟩, h6, g, ⟨_, cap', rfl, h2, fun _ => ⟨0, rfl, ⟨cur, h5⟩, fun i k hi => ?_⟩⟩, fun _ => ⟨h1, h5.lt⟩⟩
      rw [Nat.zero_add]
      exact h4 i _ (by rw [List.getElem?_map, hi]; rfl)
  have HA := Lib.hid (show ∀ sl B w2 w3, (∃ a n c, sl = .slice a n c) → Below w.heap.size w w2 → RowT w2 B sl TK → (TK ≠ [] → w.heap.size ≤ B ∧ B < w2.heap.size) → Blk w3 w2.heap.size 61 #[sl] → Below w2.heap.size w2 w3 →
      Calls Tryz.prog 64 #[pV M, cloV 95 #[pV w2.heap.size]] w3 fun e w' => e = .returned (.int .i64 L.length) ∧ (∃ X O1 U', MachAt w' C P M U' (L ++ [⟨X, O1, goS (TK.map Tk.x) []⟩]) ∧ ∀ b, U' b → U b ∨ O0 b ∨ w.heap.size ≤ b) ∧ Keep (fun b => U b ∨ O0 b) w w' from by
    rintro sl B w2 w3 _ hb2 hR hB hbl hb3
    have k2 : Keep (fun _ => False) w w2 := Keep.ofBelow hb2
    have k3 : Keep (fun _ => False) w2 w3 := Keep.ofBelow hb3
    have s2 := hb2.size
    have s3 := hb3.size
    have hbll := hbl.lt
    have qlt : ∀ j ∈ TK, ∀ b, j.Q b → b < w.heap.size := fun j hj b hb => hG.lt b (hG.all j hj b hb)
    have hH : Handed8 w3 C P w2.heap.size (fun b => O0 b ∨ (w.heap.size ≤ b ∧ b < w3.heap.size)) TK :=
      ⟨⟨B, sl, hbl, hR.keep k3 (fun _ h => h), fun hL => ⟨.inr ⟨(hB hL).1, by have := (hB hL).2; omega⟩, fun j hj hq => by have := qlt j hj B hq; have := (hB hL).1; omega⟩⟩, ⟨.inr ⟨s2, hbll⟩, fun j hj hq => by have := qlt j hj _ hq; omega⟩,
        hG.tks.keep (k2.trans k3) (fun _ _ _ _ h => h), fun j hj b hb => .inl (hG.all j hj b hb), fun b hb => hb.elim (fun h => by have := hG.lt b h; omega) (fun h => h.2)⟩
    refine (add_any C P M w2.heap.size U _ L TK w3 (h.still (k2.trans k3)) hH (fun b hb => hb.elim (hO b) (fun hb hU => by have := h.lt b hU; omega)) hf ht).mono ?_
    rintro e w' ⟨rfl, ⟨X, O1, U', g1, g2⟩, g3⟩
    refine ⟨rfl, ⟨X, O1, U', g1, fun b hb => ?_⟩, (k2.trans k3 |>.mono (fun _ _ h => h.elim)).step g3 (fun i hi h => ?_)⟩
    · rcases g2 b hb with h' | (h' | h') | h'
      · exact .inl h'
      · exact .inr (.inl h')
      · exact .inr (.inr h'.1)
      · exact .inr (.inr (by omega))
    · rcases h with h' | h' | h'
      · exact .inl h'
      · exact .inr h'
      · omega)
  clear h hG hO
  go_enter Tryz.func27, Tryz.ntmps27
  go_wp2_with (first
    | (go_at_call 62; refine HC.mono ?_; rintro e w2 ⟨sl, rfl, hsl, hb2, B, hR, hB⟩)
    | (go_at_call 65; refine (inOrder8_any sl w2 hsl).mono ?_; rintro e w3 ⟨rfl, hbl, hb3⟩; have HA2 := Lib.hid (HA.out sl B w2 w3 hsl hb2 hR hB hbl hb3))
    | (go_at_call 64; refine HA2.out.mono ?_; rintro e w4 ⟨rfl, hM, hk⟩))
  go_ret
  exact ⟨rfl, hM, hk⟩
end Go.Proofs.YtpopcallphbklaaGreat
