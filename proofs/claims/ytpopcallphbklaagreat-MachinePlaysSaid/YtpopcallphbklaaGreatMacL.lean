/- Layer 8's laws: rows that read alike; tasks handed to a machine. -/
import Derived.Test.YtpopcallphbklaaGreatMacK
import Derived.Test.YtpopcallphbklaaGreatMacJ
namespace Go.Proofs.YtpopcallphbklaaGreat
open Go.ChangeShapes Go.WideShapes Go.ChangeAt Go.RowKit
set_option linter.unusedVariables false
set_option maxRecDepth 100000
set_option linter.unusedSimpArgs false
theorem idx_ints (len c B o i : Nat) (h : i < len) : ∀ W, (Instr.indexAt 48 (.slice (some ⟨B, o, none⟩) len c) (.int .i64 (i : Int))).run Tryz.prog W = .ok (.pointer (some ⟨B, o + i, none⟩)) W := by
  intro W
  go_simp
set_option maxHeartbeats 4000000 in
theorem ints_same (u v : Value) (l : List Int) (w : World) (hu : RowI w u l) (hv : RowI w v l) (hl : l.length ≤ 100000) :
    Calls Tryz.prog 14 #[u, v] w fun e w' => e = .returned (.bool true) ∧ Below w.heap.size w w' := by
  obtain ⟨a, c, rfl, hp⟩ := id hu
  obtain ⟨a', c', rfl, hp'⟩ := id hv
  have HP := Lib.hid hp
  have HP' := Lib.hid hp'
  clear hu hv hp hp'
  go_enter Tryz.func14, Tryz.ntmps14
  go_upto_region 4 with fail
  go_loopw [5] (fun vi wr => ∃ I : Nat, I ≤ l.length ∧ vi = .int .i64 (I : Int) ∧ Below w.heap.size w wr)
    (fun vi _ => l.length - (intOf vi).toNat)
  case atStart => exact ⟨0, by omega, rfl, Below.refl _ _⟩
  case round =>
    obtain ⟨I, hI, rfl, hb⟩ := hrel
    by_cases hlt : I < l.length
    · obtain ⟨p, hpi⟩ : ∃ p, l[I]? = some p := ⟨_, List.getElem?_eq_getElem hlt⟩
      obtain ⟨B, o, rfl, hB1, c0⟩ := HP.out I p hpi
      obtain ⟨B', o', rfl, hB1', d0⟩ := HP'.out I p hpi
      replace c0 := (hb.cell (p := ⟨B, o + I, none⟩) hB1).trans c0
      replace d0 := (hb.cell (p := ⟨B', o' + I, none⟩) hB1').trans d0
      have hix := idx_ints l.length c B o I hlt
      have hix' := idx_ints l.length c' B' o' I hlt
      have hI3 : (I : Int) < (l.length : Int) := by omega
      clear hpi
      go_upto_region 6 with fail
      go_quiet (fail)
      go_wp2
      go_roundw
      case rel => exact ⟨I + 1, by omega, by go_num, bdrewN hb nq⟩
      case measure => simp [intOf]; omega
    · have hIe : I = l.length := by omega
      subst hIe
      go_wp2
      go_ret
      exact ⟨rfl, hb⟩
theorem madd_all (C S P R M : Nat) (cs : List Nat) (U O0 : Nat → Prop) (s : St) (TK : List Tk) (v : Value) (w : World) (h : MachS w C S P R cs M U s) (hG : Gives w C P O0 v TK)
    (hO : ∀ b, O0 b → ¬ U b ∧ b ≠ C ∧ b ≠ S ∧ b ≠ P ∧ b ≠ R ∧ b ∉ cs) (hok : ∀ k ∈ TK, ParkOk s.ps k.x.1) (hnp : (NoPark s.ts ∧ ∀ k ∈ TK, ∀ y ∈ k.x.1, ¬ (y.kind = 5 ∨ y.kind = 6)) ∨ PermitsAt w P R cs s.ps) (hf : s.ts.length + 1 ≤ 1000) (ht : TK.length ≤ 1000) :
    Calls Tryz.prog 27 #[pV M, v] w fun e w' => e = .returned (.int .i64 s.ts.length) ∧ (∃ U', MachS w' C S P R cs M U' ⟨s.m, s.ps, s.ts ++ [goS (TK.map Tk.x) []], s.n⟩ ∧ ∀ b, U' b → U b ∨ O0 b ∨ w.heap.size ≤ b) ∧ Keep (fun b => U b ∨ O0 b) w w' := by
  obtain ⟨L, hL, hM⟩ := h.mach
  have hLl : L.length = s.ts.length := by rw [← hL]; simp
  refine (Add_any C P M U O0 L TK v w hM hG (fun b hb => (hO b hb).1) (by omega) ht).mono ?_
  rintro e w' ⟨rfl, ⟨X, O1, U', g1, g2⟩, hk⟩
  have hs := hk.size
  have hCl := h.cells.own.lt
  have hSl := h.cells.row.lt
  have out : ∀ b, b = C ∨ b = S ∨ b = P ∨ b = R ∨ b ∈ cs → ¬ (U b ∨ O0 b) := fun b hb h' => by
    have h1 := h.apart b
    have h2 := hO b
    rcases h' with h' | h'
    · have := h1 h'
      rcases hb with hb | hb | hb | hb | hb <;> simp_all
    · have := h2 h'
      rcases hb with hb | hb | hb | hb | hb <;> simp_all
  refine ⟨by rw [hLl], ⟨U', ⟨⟨_, ?_, g1⟩, h.cells.keep hk (out C (.inl rfl)) (out S (.inr (.inl rfl))), ?_, ?_, fun b hb => ?_, by have := h.old.1; omega, by have := h.old.2.1; omega, fun c hc => Nat.lt_of_lt_of_le (h.old.2.2 c hc) hs⟩, g2⟩, hk⟩
  · show (L ++ [_]).map Th.x = _
    rw [List.map_append]
    show thrs L ++ _ = _
    rw [hL]; rfl
  · rcases hnp with ⟨h1, h2⟩ | hP
    · refine .inl fun x hx q hq y hy => ?_
      rcases List.mem_append.1 hx with hx | hx
      · exact h1 x hx q hq y hy
      · obtain rfl := List.mem_singleton.1 hx
        obtain ⟨k, hk', rfl⟩ := List.mem_map.1 (goS_mem _ _ q hq)
        exact h2 k hk' y hy
    · exact .inr (hP.keep hk (out P (by simp)) (out R (by simp)) (fun c hc => out c (by simp [hc])))
  · intro x hx q hq
    rcases List.mem_append.1 hx with hx | hx
    · exact h.ok x hx q hq
    · obtain rfl := List.mem_singleton.1 hx
      obtain ⟨k, hk', rfl⟩ := List.mem_map.1 (goS_mem _ _ q hq)
      exact hok k hk'
  · rcases g2 b hb with h' | h' | h'
    · exact h.apart b h'
    · exact (hO b h').2
    · have h1 := h.old
      exact ⟨by omega, by omega, by omega, by omega, fun hc => by have := h1.2.2 b hc; omega⟩
/-- a new machine, over cells and permits that are there -/
theorem MachS.new {w w' : World} {C S P R M : Nat} {cs : List Nat} {m : List Int} {ps : List Bool} {n : Int} (hM : MachAt w' C P M (fun b => b = M) []) (hC : CellsAt w' C S m n) (hP : NoPark [] ∨ PermitsAt w' P R cs ps) (ha : M ≠ C ∧ M ≠ S ∧ M ≠ P ∧ M ≠ R ∧ M ∉ cs) (ho : P < w'.heap.size ∧ R < w'.heap.size ∧ ∀ c ∈ cs, c < w'.heap.size) :
    MachS w' C S P R cs M (fun b => b = M) ⟨m, ps, [], n⟩ :=
  ⟨⟨[], rfl, hM⟩, hC, hP, fun x hx => by simp at hx, fun b hb => by rw [hb]; exact ha, ho⟩
/-- a task that was made, as one that may be handed over -/
theorem Made6.tk {w w' : World} {C P : Nat} {Q : Nat → Prop} {r : List Itm} {v : Int} {t : Nat} (h : Made6 w C P Q r v t w') (hq : Q t) : TaskG w' C P t (fun b => Q b ∧ b < w'.heap.size) r v := h.taskG hq
end Go.Proofs.YtpopcallphbklaaGreat
