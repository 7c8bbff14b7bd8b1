/- Package machine: a machine in memory; New, Threads, Can, Pick, Done, Parked. -/
import Derived.Test.YtpopcallphbklaaGreatMacC
namespace Go.Proofs.YtpopcallphbklaaGreat
open Go.ChangeShapes Go.WideShapes Go.ChangeAt Go.RowKit
set_option linter.unusedVariables false
set_option maxRecDepth 100000
set_option linter.unusedSimpArgs false
/-- a thread of a machine: its block, its blocks, what it is -/
structure Th where
  X : Nat
  O : Nat → Prop
  x : Thr
/-- the machine at block M, of the blocks of which U is said: its threads -/
structure MachAt (w : World) (C P M : Nat) (U : Nat → Prop) (L : List Th) : Prop where
  own : ∃ u n0, Blk w M 90 #[u] ∧ w.ownsRow n0 81 1 u L.length (L.map fun k => pV k.X) ∧ n0 ≤ w.heap.size ∧ ∀ g, u.ownBlock = some g → U g ∧ ∀ k ∈ L, ¬ k.O g
  mine : U M ∧ ∀ k ∈ L, ¬ k.O M
  thr : ∀ k ∈ L, ThrAt w C P k.X k.O k.x.1 k.x.2 ∧ ThrOk k.x ∧ (∀ b, k.O b → U b) ∧ k.x.1.length + k.x.2.length ≤ 1000
  apart : L.Pairwise (fun k j => ∀ b, k.O b → ¬ j.O b)
  lt : ∀ b, U b → b < w.heap.size
  few : L.length ≤ 1000
theorem MachAt.keep {w w1 : World} {C P M : Nat} {U F : Nat → Prop} {L : List Th} (h : MachAt w C P M U L) (hk : Keep F w w1) (hn : ∀ b, U b → ¬ F b) : MachAt w1 C P M U L := by
  obtain ⟨u, n0, h1, h2, h3, h4⟩ := h.own
  refine ⟨⟨u, n0, h1.keep hk (hn M h.mine.1), row_ownkeep h2 hk (fun g hg => hn g (h4 g hg).1), Nat.le_trans h3 hk.size, h4⟩, h.mine, fun k hk' => ?_, h.apart, fun b hb => Nat.lt_of_lt_of_le (h.lt b hb) hk.size, h.few⟩
  obtain ⟨a, b, c, d⟩ := h.thr k hk'
  exact ⟨a.keep hk (fun x hx => hn x (c x hx)), b, c, d⟩
theorem MachAt.still {w w1 : World} {C P M : Nat} {U : Nat → Prop} {L : List Th} (h : MachAt w C P M U L) (hk : Keep (fun _ => False) w w1) : MachAt w1 C P M U L := h.keep hk (fun _ _ h => h)
/-- a thread of it has taken a step -/
theorem MachAt.turn {w w1 : World} {C P M i : Nat} {U F O' : Nat → Prop} {L : List Th} {k : Th} {x' : Thr} (h : MachAt w C P M U L) (hi : L[i]? = some k) (hk : Keep (fun b => k.O b ∨ F b) w w1) (hF : ∀ b, U b → ¬ F b) (hT : ThrAt w1 C P k.X O' x'.1 x'.2) (hO : ∀ b, O' b → k.O b ∨ w.heap.size ≤ b) (hok : ThrOk x') (hx : x'.1.length + x'.2.length ≤ 1000) :
    ∃ U', MachAt w1 C P M U' (L.set i ⟨k.X, O', x'⟩) ∧ ∀ b, U' b → U b ∨ w.heap.size ≤ b := by
  have hlt := (List.getElem?_eq_some_iff.1 hi).1
  have hke : L[i] = k := (List.getElem?_eq_some_iff.1 hi).2
  have hkm : k ∈ L := List.mem_of_getElem? hi
  obtain ⟨u, n0, h1, h2, h3, h4⟩ := h.own
  have hs := hk.size
  have hkt := h.thr k hkm
  have oth : ∀ j : Nat, ∀ y, L[j]? = some y → j ≠ i → ∀ b, y.O b → ¬ k.O b := fun j y hj hji b hb hbk => by
    have hjl := (List.getElem?_eq_some_iff.1 hj).1
    have hje : L[j] = y := (List.getElem?_eq_some_iff.1 hj).2
    rcases Nat.lt_or_gt_of_ne hji with hc | hc
    · exact (hje ▸ hke ▸ List.pairwise_iff_getElem.1 h.apart j i hjl hlt hc) b hb hbk
    · exact (hje ▸ hke ▸ List.pairwise_iff_getElem.1 h.apart i j hlt hjl hc) b hbk hb
  have hnew : ∀ b, O' b → ¬ b = M := fun b hb e => by
    subst e
    rcases hO b hb with h' | h'
    · exact h.mine.2 k hkm h'
    · have := h1.lt; omega
  refine ⟨fun b => (U b ∨ w.heap.size ≤ b) ∧ b < w1.heap.size, ⟨⟨u, n0, h1.keep hk (fun h' => h'.elim (h.mine.2 k hkm) (hF M h.mine.1)), ?_, by omega, fun g hg => ⟨⟨.inl (h4 g hg).1, by have := h.lt g (h4 g hg).1; omega⟩, fun y hy => ?_⟩⟩, ⟨⟨.inl h.mine.1, by have := h1.lt; omega⟩, fun y hy hM => ?_⟩, fun y hy => ?_, ?_, fun b hb => hb.2, by simpa using h.few⟩, fun b hb => hb.1⟩
  · have e : (L.set i ⟨k.X, O', x'⟩).map (fun k => pV k.X) = L.map (fun k => pV k.X) := by
      apply List.ext_getElem?
      intro j
      rw [List.getElem?_map, List.getElem?_map]
      by_cases ej : i = j
      · subst ej; rw [List.getElem?_set_self hlt, hi]; simp
      · rw [List.getElem?_set_ne ej]
    rw [List.length_set, e]
    exact row_ownkeep h2 hk (fun g hg h' => h'.elim ((h4 g hg).2 k hkm) (hF g (h4 g hg).1))
  · rcases List.mem_or_eq_of_mem_set hy with hy | rfl
    · exact (h4 g hg).2 y hy
    · intro hb
      rcases hO g hb with h' | h'
      · exact (h4 g hg).2 k hkm h'
      · have := h.lt g (h4 g hg).1; omega
  · rcases List.mem_or_eq_of_mem_set hy with hy | rfl
    · exact h.mine.2 y hy hM
    · exact hnew M hM rfl
  · obtain ⟨j, hj⟩ := List.mem_iff_getElem?.1 hy
    by_cases ej : i = j
    · subst ej
      rw [List.getElem?_set_self hlt] at hj
      obtain rfl := Option.some.inj hj
      refine ⟨hT, hok, fun b hb => ⟨?_, hT.lt b hb⟩, hx⟩
      exact (hO b hb).imp (hkt.2.2.1 b) id
    · rw [List.getElem?_set_ne ej] at hj
      obtain ⟨a, b, c, d⟩ := h.thr y (List.mem_of_getElem? hj)
      refine ⟨a.keep hk (fun z hz h' => h'.elim (oth j y hj (Ne.symm ej) z hz) (hF z (c z hz))), b, fun z hz => ⟨.inl (c z hz), by have := h.lt z (c z hz); omega⟩, d⟩
  · rw [List.pairwise_iff_getElem]
    intro a b ha hb hab z hz hz2
    rw [List.length_set] at ha hb
    by_cases ea : i = a
    · subst ea
      rw [List.getElem_set_self] at hz
      rw [List.getElem_set_ne (by omega)] at hz2
      have hLb : L[b]? = some L[b] := List.getElem?_eq_getElem hb
      rcases hO z hz with h' | h'
      · exact oth b _ hLb (by omega) z hz2 h'
      · have := h.lt z ((h.thr _ (List.getElem_mem hb)).2.2.1 z hz2); omega
    · rw [List.getElem_set_ne ea] at hz
      by_cases eb : i = b
      · subst eb
        rw [List.getElem_set_self] at hz2
        have hLa : L[a]? = some L[a] := List.getElem?_eq_getElem ha
        rcases hO z hz2 with h' | h'
        · exact oth a _ hLa (by omega) z hz h'
        · have := h.lt z ((h.thr _ (List.getElem_mem ha)).2.2.1 z hz); omega
      · rw [List.getElem_set_ne eb] at hz2
        exact List.pairwise_iff_getElem.1 h.apart a b ha hb hab z hz hz2
/-- the threads' states -/
abbrev thrs (L : List Th) : List Thr := L.map Th.x
theorem mnew_any (C P : Nat) (w : World) : Calls Tryz.prog 22 #[] w fun e w' => e = .returned (pV w.heap.size) ∧ MachAt w' C P w.heap.size (fun b => b = w.heap.size) [] ∧ Below w.heap.size w w' := by
  go_enter Tryz.func22, Tryz.ntmps22
  go_wp2
  go_ret
  refine ⟨rfl, ⟨⟨.slice none 0 0, 0, Blk.new w _ _, World.ownsRow_nil _ _ _ _, by omega, fun g h => by simp [Value.ownBlock] at h⟩, ⟨rfl, fun k h => by simp at h⟩, fun k h => by simp at h, List.Pairwise.nil, fun b hb => ?_, by simp⟩, (Below.refl _ w).alloc (Nat.le_refl _) _⟩
  rw [hb]; simp
theorem mthreads_any (C P M : Nat) (U : Nat → Prop) (L : List Th) (w : World) (h : MachAt w C P M U L) : Calls Tryz.prog 12 #[pV M] w fun e w' => e = .returned (.int .i64 L.length) ∧ w = w' := by
  obtain ⟨u, n0, h1, h2, h3, h4⟩ := h.own
  have c0 : w.cell? ⟨M, 0, none⟩ = some u := h1.cell 0 _ rfl
  obtain ⟨a, c, rfl⟩ : ∃ a c, u = .slice a L.length c := by
    rcases h2.2 with ⟨rfl, h0⟩ | ⟨g, cap, cur, rfl, _⟩
    · exact ⟨none, 0, by rw [h0]⟩
    · exact ⟨_, _, rfl⟩
  clear h h1 h2 h3 h4
  go_enter Tryz.func12, Tryz.ntmps12
  go_wp2
  go_ret
  exact ⟨rfl, rfl⟩
theorem mthreads_nil (w : World) : Calls Tryz.prog 12 #[.pointer none] w fun e w' => e = .returned (.int .i64 0) ∧ w = w' := by
  go_enter Tryz.func12, Tryz.ntmps12
  go_wp2
  go_ret
  exact ⟨rfl, rfl⟩
theorem thr_new (C P : Nat) (w : World) : ThrAt (w.alloc (.cells #[.pointer none, .nilFunc, .slice none 0 0] 86)) C P w.heap.size (fun b => b = w.heap.size) [] [] :=
  ⟨_, _, _, 0, Blk.new w _ _, rfl, World.ownsRow_nil _ _ _ _, by omega, fun g h => by simp [Value.ownBlock] at h, fun b hb => by rw [hb]; simp, .inl ⟨rfl, rfl⟩⟩
theorem thread_yes (C P M i : Nat) (U : Nat → Prop) (L : List Th) (k : Th) (w : World) (h : MachAt w C P M U L) (hi : L[i]? = some k) : Calls Tryz.prog 36 #[pV M, .int .i64 i] w fun e w' => e = .returned (pV k.X) ∧ w = w' := by
  have HT := Lib.hid (mthreads_any C P M U L w h)
  obtain ⟨u, n0, h1, h2, h3, h4⟩ := h.own
  have c0 : w.cell? ⟨M, 0, none⟩ = some u := h1.cell 0 _ rfl
  have hlt := (List.getElem?_eq_some_iff.1 hi).1
  obtain ⟨g, c, rfl⟩ := row_slice h2 (by omega)
  have c1 := h2.cellAt i (by omega)
  have e1 : (L.map fun k => pV k.X)[i]? = some (pV k.X) := by rw [List.getElem?_map, hi]; rfl
  have c2 : w.cell? ⟨g, i, none⟩ = some (pV k.X) := by rw [c1]; exact e1
  clear c1 e1
  have hlt' : (i : Int) < (L.length : Int) := by omega
  clear h h1 h2 h3 h4 hi
  go_enter Tryz.func36, Tryz.ntmps36
  go_wp2_with (go_at_call 12; refine HT.out.mono ?_; rintro e w2 ⟨rfl, rfl⟩)
  go_ret
  exact ⟨rfl, rfl⟩
theorem thread_low (m : Value) (t : Int) (w : World) (ht : t < 0) : Calls Tryz.prog 36 #[m, .int .i64 t] w fun e w' => e = .returned (pV w.heap.size) ∧ w' = w.alloc (.cells #[.pointer none, .nilFunc, .slice none 0 0] 86) := by
  go_enter Tryz.func36, Tryz.ntmps36
  go_wp2
  go_ret
  exact ⟨rfl, rfl⟩
theorem thread_high (m : Value) (n : Nat) (t : Int) (w : World) (ht : 0 ≤ t) (hn : (n : Int) ≤ t) (H : Calls Tryz.prog 12 #[m] w fun e w' => e = .returned (.int .i64 n) ∧ w = w') : Calls Tryz.prog 36 #[m, .int .i64 t] w fun e w' => e = .returned (pV w.heap.size) ∧ w' = w.alloc (.cells #[.pointer none, .nilFunc, .slice none 0 0] 86) := by
  go_enter Tryz.func36, Tryz.ntmps36
  go_wp2_with (go_at_call 12; refine H.mono ?_; rintro e w2 ⟨rfl, rfl⟩)
  go_ret
  exact ⟨rfl, rfl⟩
theorem thread_no (C P M : Nat) (U : Nat → Prop) (L : List Th) (t : Int) (w : World) (h : MachAt w C P M U L) (ht : t < 0 ∨ (L.length : Int) ≤ t) : Calls Tryz.prog 36 #[pV M, .int .i64 t] w fun e w' => e = .returned (pV w.heap.size) ∧ w' = w.alloc (.cells #[.pointer none, .nilFunc, .slice none 0 0] 86) := by
  rcases Int.lt_or_le t 0 with h0 | h0
  · exact thread_low _ t w h0
  · exact thread_high _ L.length t w h0 (by omega) (mthreads_any C P M U L w h)
theorem thread_nil (t : Int) (w : World) : Calls Tryz.prog 36 #[.pointer none, .int .i64 t] w fun e w' => e = .returned (pV w.heap.size) ∧ w' = w.alloc (.cells #[.pointer none, .nilFunc, .slice none 0 0] 86) := by
  rcases Int.lt_or_le t 0 with h0 | h0
  · exact thread_low _ t w h0
  · exact thread_high _ 0 t w h0 (by omega) (mthreads_nil w)
/-- a thread, as its number says it -/
theorem thread_any (C P M : Nat) (U : Nat → Prop) (L : List Th) (t : Int) (w : World) (h : MachAt w C P M U L) :
    Calls Tryz.prog 36 #[pV M, .int .i64 t] w fun e w' => ∃ X O, e = .returned (pV X) ∧ ThrAt w' C P X O (thrAt (thrs L) t).1 (thrAt (thrs L) t).2 ∧ Below w.heap.size w w' := by
  by_cases hin : 0 ≤ t ∧ t < (L.length : Int)
  · obtain ⟨i, rfl⟩ := Int.eq_ofNat_of_zero_le hin.1
    have hi : L[i]? = some (L[i]'(by omega)) := by simp
    refine (thread_yes C P M i U L _ w h hi).mono ?_
    rintro e w' ⟨rfl, rfl⟩
    have ex : thrAt (thrs L) (i : Int) = (L[i]'(by omega)).x := thrAt_yes (by rw [List.getElem?_map, hi]; rfl)
    rw [ex]
    exact ⟨_, _, rfl, (h.thr _ (List.getElem_mem _)).1, Below.refl _ _⟩
  · refine (thread_no C P M U L t w h (by omega)).mono ?_
    rintro e w' ⟨rfl, rfl⟩
    rw [thrAt_no (by simp; omega)]
    exact ⟨_, _, rfl, thr_new C P w, (Below.refl _ w).alloc (Nat.le_refl _) _⟩
theorem thread_any_nil (C P : Nat) (t : Int) (w : World) :
    Calls Tryz.prog 36 #[.pointer none, .int .i64 t] w fun e w' => ∃ X O, e = .returned (pV X) ∧ ThrAt w' C P X O [] [] ∧ Below w.heap.size w w' := by
  refine (thread_nil t w).mono ?_
  rintro e w' ⟨rfl, rfl⟩
  exact ⟨_, _, rfl, thr_new C P w, (Below.refl _ w).alloc (Nat.le_refl _) _⟩
theorem thrOk_at {w : World} {C P M : Nat} {U : Nat → Prop} {L : List Th} (h : MachAt w C P M U L) (t : Int) : ThrOk (thrAt (thrs L) t) := by
  by_cases hin : 0 ≤ t ∧ t < (L.length : Int)
  · obtain ⟨i, rfl⟩ := Int.eq_ofNat_of_zero_le hin.1
    have hi : L[i]? = some (L[i]'(by omega)) := by simp
    rw [thrAt_yes (x := (L[i]'(by omega)).x) (by rw [List.getElem?_map, hi]; rfl)]
    exact (h.thr _ (List.getElem_mem _)).2.1
  · rw [thrAt_no (by simp; omega)]
    intro t h; simp at h
theorem mdone_gen (m : Value) (x : Thr) (C P : Nat) (t : Int) (w : World) (hok : ThrOk x) (H : Calls Tryz.prog 36 #[m, .int .i64 t] w fun e w' => ∃ X O, e = .returned (pV X) ∧ ThrAt w' C P X O x.1 x.2 ∧ Below w.heap.size w w') :
    Calls Tryz.prog 32 #[m, .int .i64 t] w fun e w' => e = .returned (.bool x.1.isEmpty) ∧ Below w.heap.size w w' := by
  have HK := Lib.hid hok
  clear hok
  go_enter Tryz.func32, Tryz.ntmps32
  go_wp2_with (first
    | (go_at_call 36; refine H.mono ?_; rintro e w2 ⟨X, O, rfl, hT, hb⟩; obtain ⟨c, x0, HD⟩ := thr_done hT HK.out)
    | (go_at_call 44; refine HD.mono ?_; rintro e w3 ⟨rfl, rfl⟩))
  go_ret
  exact ⟨rfl, hb⟩
theorem mparked_gen (m : Value) (x : Thr) (C P : Nat) (t : Int) (w : World) (H : Calls Tryz.prog 36 #[m, .int .i64 t] w fun e w' => ∃ X O, e = .returned (pV X) ∧ ThrAt w' C P X O x.1 x.2 ∧ Below w.heap.size w w') :
    Calls Tryz.prog 33 #[m, .int .i64 t] w fun e w' => e = .returned (.bool (parkedT x)) ∧ Below w.heap.size w w' := by
  go_enter Tryz.func33, Tryz.ntmps33
  go_wp2_with (first
    | (go_at_call 36; refine H.mono ?_; rintro e w2 ⟨X, O, rfl, hT, hb⟩; obtain ⟨c, x0, HD⟩ := thr_parked hT)
    | (go_at_call 67; refine HD.mono ?_; rintro e w3 ⟨rfl, rfl⟩))
  go_ret
  exact ⟨rfl, hb⟩
end Go.Proofs.YtpopcallphbklaaGreat
