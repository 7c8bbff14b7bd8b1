/- Grounds are made. -/
import Derived.Test.YtldofbkjjmnooaaGreatMgGSlS
import Derived.Test.YtldofbkjjmnooaaGreatMgGSlU
namespace Go.Proofs.YtldofbkjjmnooaaGreat
open Go.ChangeShapes Go.WideShapes Go.ChangeAt Go.RowKit Wd
set_option linter.unusedVariables false
set_option maxRecDepth 100000
set_option linter.unusedSimpArgs false
/-- a slice that reads as a list -/
def SliceAt {α : Type} (enc : α → Value) (w : World) (v : Value) (l : List α) : Prop :=
  ∃ a c, v = .slice a l.length c ∧ ∀ (i : Nat) (x : α), l[i]? = some x → ∃ b off, a = some ⟨b, off, none⟩ ∧ w.cell? ⟨b, off + i, none⟩ = some (enc x)
theorem cell_below {w w1 : World} {p : Addr} {v : Value} (h : w.cell? p = some v) (hb : Below w.heap.size w w1) : w1.cell? p = some v := by
  have hlt : p.block < w.heap.size := by
    unfold World.cell? at h
    rcases Nat.lt_or_ge p.block w.heap.size with h1 | h1
    · exact h1
    · rw [Array.getElem?_eq_none h1] at h
      simp at h
  unfold World.cell? at h ⊢
  rwa [hb.block _ hlt]
theorem SliceAt.below {α : Type} {enc : α → Value} {w w1 : World} {v : Value} {l : List α} (h : SliceAt enc w v l) (hb : Below w.heap.size w w1) : SliceAt enc w1 v l := by
  obtain ⟨a, c, e, h⟩ := h
  refine ⟨a, c, e, fun i x hx => ?_⟩
  obtain ⟨b, off, e1, e2⟩ := h i x hx
  exact ⟨b, off, e1, cell_below e2 hb⟩
def hashO (H : List Int) (o : Nat) : Int := (H[o]?).getD 0
def freshO (F : List Bool) (o : Nat) : Bool := (F[o]?).getD false
theorem elI_any (H : List Int) (hv : Value) (o : Nat) (w : World) (h : SliceAt (Value.int .i64) w hv H) (ho : o < 1000000) :
    Calls Tryz.prog 206 #[hv, .int .i64 (o : Int)] w fun e w' => e = .returned (.int .i64 (hashO H o)) ∧ w = w' := by
  obtain ⟨a, c, rfl, h⟩ := h
  by_cases hlt : o < H.length
  · obtain ⟨b, off, rfl, hc⟩ := h o _ (List.getElem?_eq_getElem hlt)
    have e1 : hashO H o = H[o] := by simp [hashO, hlt]
    rw [e1]
    clear h e1
    generalize H[o] = x at *
    generalize H.length = n at *
    have hi : ∀ W, (Instr.indexAt 37 (.slice (some ⟨b, off, none⟩) n c) (.int .i64 (o : Int))).run Tryz.prog W = .ok (.pointer (some ⟨b, off + o, none⟩)) W := by
      intro W
      go_simp
    go_enter Tryz.func206, Tryz.ntmps206
    go_wp2
    go_ret
    exact ⟨rfl, rfl⟩
  · have e1 : hashO H o = 0 := by simp [hashO, Nat.le_of_not_lt hlt]
    rw [e1]
    clear h e1
    generalize H.length = n at *
    go_enter Tryz.func206, Tryz.ntmps206
    go_wp2
    go_ret
    exact ⟨rfl, rfl⟩
theorem elB_any (F : List Bool) (fv : Value) (o : Nat) (w : World) (h : SliceAt Value.bool w fv F) (ho : o < 1000000) :
    Calls Tryz.prog 205 #[fv, .int .i64 (o : Int)] w fun e w' => e = .returned (.bool (freshO F o)) ∧ w = w' := by
  obtain ⟨a, c, rfl, h⟩ := h
  by_cases hlt : o < F.length
  · obtain ⟨b, off, rfl, hc⟩ := h o _ (List.getElem?_eq_getElem hlt)
    have e1 : freshO F o = F[o] := by simp [freshO, hlt]
    rw [e1]
    clear h e1
    generalize F[o] = x at *
    generalize F.length = n at *
    have hi : ∀ W, (Instr.indexAt 55 (.slice (some ⟨b, off, none⟩) n c) (.int .i64 (o : Int))).run Tryz.prog W = .ok (.pointer (some ⟨b, off + o, none⟩)) W := by
      intro W
      go_simp
    go_enter Tryz.func205, Tryz.ntmps205
    go_wp2
    go_ret
    exact ⟨rfl, rfl⟩
  · have e1 : freshO F o = false := by simp [freshO, Nat.le_of_not_lt hlt]
    rw [e1]
    clear h e1
    generalize F.length = n at *
    go_enter Tryz.func205, Tryz.ntmps205
    go_wp2
    go_ret
    exact ⟨rfl, rfl⟩
def tagO (F : List Bool) (o : Nat) : Int := if freshO F o then 0 else 1
theorem firstTag_any (b : Bool) (w : World) : Calls Tryz.prog 204 #[.bool b] w fun e w' => e = .returned (.int .i64 (if b then 0 else 1)) ∧ w = w' := by
  cases b
  all_goals
    go_enter Tryz.func204, Tryz.ntmps204
    go_wp2
    go_ret
    exact ⟨rfl, rfl⟩
/-- an object's header at first; its word -/
def hd0 (H : List Int) (F : List Bool) (o : Nat) : Hd := ⟨tagO F o, 0, 0, 0, 0, hashO H o⟩
def goodO (H : List Int) (o : Nat) : Prop := 0 ≤ hashO H o ∧ hashO H o ≤ 16777215
theorem hd0_ok {H : List Int} {F : List Bool} {o : Nat} : okP (hd0 H F o) ↔ goodO H o := by
  unfold okP hd0 goodO tagO
  split <;> simp
theorem hd0_pack {H : List Int} {F : List Bool} {o : Nat} (h : goodO H o) : packP (hd0 H F o) = some (wordOf (hd0 H F o)) := by
  rw [packP_eq, if_pos (hd0_ok.2 h)]
theorem hd0_none {H : List Int} {F : List Bool} {o : Nat} (h : ¬ goodO H o) : packP (hd0 H F o) = none := by
  rw [packP_eq, if_neg (fun k => h (hd0_ok.1 k))]
def wordsGo (f : Nat → Int) (mm : List Int) : Nat → List Int
  | 0 => mm
  | j + 1 => (wordsGo f mm j).set (wordN j) (f j)
def safesGo (m : Mp) (mm : List Int) : Nat → List Int
  | 0 => mm
  | j + 1 => (safesGo m mm j).set (safeN m j) 1
theorem wordsGo_len (f : Nat → Int) (mm : List Int) : ∀ j, (wordsGo f mm j).length = mm.length
  | 0 => rfl
  | j + 1 => by simp [wordsGo, wordsGo_len f mm j]
theorem safesGo_len (m : Mp) (mm : List Int) : ∀ j, (safesGo m mm j).length = mm.length
  | 0 => rfl
  | j + 1 => by simp [safesGo, safesGo_len m mm j]
/-- all cells, at first -/
def mmF (m : Mp) (f : Nat → Int) : List Int := layL m (safesGo m (wordsGo f (List.replicate (sizeN m) 0) m.o) m.t)
def mm0 (m : Mp) (H : List Int) (F : List Bool) : List Int := mmF m (fun o => (wordOf (hd0 H F o) : Nat))
def GoodH (m : Mp) (H : List Int) : Prop := ∀ o, o < m.o → goodO H o
def NewF (w : World) (m : Mp) (H : List Int) (f : Nat → Int) (e : Ending) (w' : World) : Prop :=
  (GoodH m H ∧ ∃ g, e = .returned (grV g) ∧ GrAt w' g m (mmF m f) (m.o + m.t + m.n + 1) (List.replicate m.t false) (.slice none 0 0) [] ∧ Below w.heap.size w w' ∧ ∀ b, grB g (.slice none 0 0) b → w.heap.size ≤ b) ∨
  (¬ GoodH m H ∧ e = .returned (.pointer none) ∧ Below w.heap.size w w')
def NewPost (w : World) (m : Mp) (H : List Int) (F : List Bool) (e : Ending) (w' : World) : Prop := NewF w m H (fun o => (wordOf (hd0 H F o) : Nat)) e w'
end Go.Proofs.YtldofbkjjmnooaaGreat
