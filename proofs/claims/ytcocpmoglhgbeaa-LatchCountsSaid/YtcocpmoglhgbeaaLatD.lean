/- Layer 9's laws: step; the chapter's examples. -/
import Derived.Test.YtcocpmoglhgbeaaLatC
namespace Go.Proofs.Ytcocpmoglhgbeaa
open Go.ChangeShapes Go.WideShapes Go.ChangeAt Go.RowKit
set_option linter.unusedVariables false
set_option maxRecDepth 100000
set_option linter.unusedSimpArgs false
/-- is it done? -/
def Fin {A : Type} (b : Bool) (T : Tre A) : Prop := (b = true ∧ ∃ u, T = retT u) ∨ (b = false ∧ ∃ x κ, T = opT x κ)
theorem fin_ret {A : Type} (u : Int) : Fin true (retT u : Tre A) := .inl ⟨rfl, u, rfl⟩
theorem fin_op {A : Type} (x : A) (κ : Int → Tre A) : Fin false (opT x κ) := .inr ⟨rfl, x, κ, rfl⟩
theorem fin_spin (x : Itm) : Fin false (spinT x) := .inr ⟨rfl, x, _, spinT_eq x⟩
theorem wdone {n0 : Nat} {X : Nat → Prop} {w : World} {C S t : Nat} {m : List Int} {n : Int} {τ : Nat → Option (Nat × Tre Itm)} {T : Tre Itm} (b : Bool) (k : Nat) (h : Wld n0 X w C S m n τ) (hτ : τ k = some (t, T)) (hb : Fin b T) : Calls Try.prog 14 #[pV t] w fun e w' => e = .returned (.bool b) ∧ w = w' := by
  rcases hb with ⟨rfl, u, rfl⟩ | ⟨rfl, x, κ, rfl⟩
  · exact wdone_ret k h hτ
  · exact wdone_op k h hτ
theorem wstepE {n0 : Nat} {X : Nat → Prop} {w : World} {C S t : Nat} {m m' : List Int} {n v : Int} {o : Bool} {τ : Nat → Option (Nat × Tre Itm)} {x : Itm} {κ : Int → Tre Itm} {T' : Tre Itm} (k : Nat) (h : Wld n0 X w C S m n τ) (hτ : τ k = some (t, opT x κ)) (hk : x.kind < 5) (hn : 0 ≤ n ∧ n ≤ 2000000) (ho : operS m x = (m', v, o)) (hc : countS m x = 1) (hT : κ v = T') :
    Calls Try.prog 13 #[pV t, .int .i64 0] w fun e w' => e = .returned (.bool true) ∧ Wld n0 X w' C S m' (n + 1) (upd τ k (some (t, T'))) ∧ Keep (fun b => n0 ≤ b ∧ ¬ X b) w w' := by
  have := wstep k h hτ hk hn
  rw [ho, hc] at this
  subst hT
  exact this
theorem lstepE {n0 : Nat} {X : Nat → Prop} {w : World} {C S t : Nat} {m m' : List Int} {n v : Int} {o : Bool} {τ : Nat → Option (Nat × Tre Itm)} {x : Itm} {κ : Int → Tre Itm} {T' : Tre Itm} (b : Bool) (k : Nat) (h : Wld n0 X w C S m n τ) (hτ : τ k = some (t, opT x κ)) (hk : x.kind < 5) (hn : 0 ≤ n ∧ n ≤ 2000000) (ho : operS m x = (m', v, o)) (hc : countS m x = 1) (hT : κ v = T') (hb : Fin b T') :
    Calls Try.prog 22 #[pV t] w fun e w' => e = .returned (.bool b) ∧ Wld n0 X w' C S m' (n + 1) (upd τ k (some (t, T'))) ∧ Keep (fun b => n0 ≤ b ∧ ¬ X b) w w' := by
  have HS := Lib.hid (wstepE k h hτ hk hn ho hc hT)
  have HB := Lib.hid hb
  clear h hτ hn ho hc hT hb
  go_enter Try.func22, Try.ntmps22
  go_wp2_with (first
    | (go_at_call 13; refine HS.out.mono ?_; rintro e w2 ⟨rfl, h2, k2⟩; have HD := Lib.hid (wdone b k h2 (upd_same _ _ _) HB.out))
    | (go_at_call 14; refine HD.out.mono ?_; rintro e w3 ⟨rfl, rfl⟩))
  go_ret
  exact ⟨rfl, h2, k2⟩
/- what a step of each tree does -/
theorem otake_yes {m : List Int} {i : Nat} {u : Int} (hi : m[i]? = some 0) (hu : 0 ≤ u ∧ u ≤ 100000) : operS m (takeI i u) = (m.set i (u + 1), 1, true) ∧ countS m (takeI i u) = 1 := ⟨by rw [oper_take hi hu]; rfl, count_in hi⟩
theorem otake_no {m : List Int} {i : Nat} {u c : Int} (hi : m[i]? = some c) (hc : c ≠ 0) (hu : 0 ≤ u ∧ u ≤ 100000) : operS m (takeI i u) = (m, 0, false) ∧ countS m (takeI i u) = 1 := ⟨by rw [oper_take hi hu, if_neg hc], count_in hi⟩
theorem odrop_yes {m : List Int} {i : Nat} {u : Int} (hi : m[i]? = some (u + 1)) (hu : 0 ≤ u ∧ u ≤ 100000) : operS m (dropI i u) = (m.set i 0, 1, true) ∧ countS m (dropI i u) = 1 := ⟨by rw [oper_drop hi hu]; simp, count_in hi⟩
theorem odrop_no {m : List Int} {i : Nat} {u c : Int} (hi : m[i]? = some c) (hc : c ≠ u + 1) (hu : 0 ≤ u ∧ u ≤ 100000) : operS m (dropI i u) = (m, 0, true) ∧ countS m (dropI i u) = 1 := ⟨by rw [oper_drop hi hu, if_neg hc], count_in hi⟩
theorem oload_on {m : List Int} {i : Nat} {c : Int} (hi : m[i]? = some c) (hc : 0 ≤ c ∧ c ≤ 1000000000000) : operS m (loadI i) = (m, c, true) ∧ countS m (loadI i) = 1 := ⟨oper_load hi hc, count_in hi⟩
theorem ostore_on {m : List Int} {i : Nat} {c v : Int} (hi : m[i]? = some c) (hv : 0 ≤ v ∧ v ≤ 1000000000000) : operS m (storeI i v) = (m.set i (v + 1), 1, true) ∧ countS m (storeI i v) = 1 := ⟨oper_store hi hv, count_in hi⟩
section
variable {n0 : Nat} {X : Nat → Prop} {w : World} {C S t : Nat} {m : List Int} {n : Int} {τ : Nat → Option (Nat × Tre Itm)}
theorem ltake_yes (k i : Nat) (u : Int) (h : Wld n0 X w C S m n τ) (hτ : τ k = some (t, spinT (takeI i u))) (hi : m[i]? = some 0) (hu : 0 ≤ u ∧ u ≤ 100000) (hn : 0 ≤ n ∧ n ≤ 2000000) :
    Calls Try.prog 22 #[pV t] w fun e w' => e = .returned (.bool true) ∧ Wld n0 X w' C S (m.set i (u + 1)) (n + 1) (upd τ k (some (t, retT 1))) ∧ Keep (fun b => n0 ≤ b ∧ ¬ X b) w w' := by
  rw [spinT_eq] at hτ
  exact lstepE true k h hτ (show (4 : Nat) < 5 by omega) hn (otake_yes hi hu).1 (otake_yes hi hu).2 (if_neg (by decide)) (fin_ret 1)
theorem ltake_no (k i : Nat) (u c : Int) (h : Wld n0 X w C S m n τ) (hτ : τ k = some (t, spinT (takeI i u))) (hi : m[i]? = some c) (hc : c ≠ 0) (hu : 0 ≤ u ∧ u ≤ 100000) (hn : 0 ≤ n ∧ n ≤ 2000000) :
    Calls Try.prog 22 #[pV t] w fun e w' => e = .returned (.bool false) ∧ Wld n0 X w' C S m (n + 1) τ ∧ Keep (fun b => n0 ≤ b ∧ ¬ X b) w w' := by
  have hτ' := hτ
  rw [spinT_eq] at hτ'
  refine (lstepE false k h hτ' (show (4 : Nat) < 5 by omega) hn (otake_no hi hc hu).1 (otake_no hi hc hu).2 (if_pos (.inl rfl)) (fin_spin _)).mono ?_
  rintro e w' ⟨rfl, h1, h2⟩
  rw [← hτ, upd_id] at h1
  exact ⟨rfl, h1, h2⟩
theorem ldrop_yes (k i : Nat) (u : Int) (h : Wld n0 X w C S m n τ) (hτ : τ k = some (t, itmT [dropI i u] 0)) (hi : m[i]? = some (u + 1)) (hu : 0 ≤ u ∧ u ≤ 100000) (hn : 0 ≤ n ∧ n ≤ 2000000) :
    Calls Try.prog 22 #[pV t] w fun e w' => e = .returned (.bool true) ∧ Wld n0 X w' C S (m.set i 0) (n + 1) (upd τ k (some (t, retT 1))) ∧ Keep (fun b => n0 ≤ b ∧ ¬ X b) w w' :=
  lstepE true k h (x := dropI i u) (κ := itmT []) hτ (show (2 : Nat) < 5 by omega) hn (odrop_yes hi hu).1 (odrop_yes hi hu).2 rfl (fin_ret 1)
theorem ldrop_no (k i : Nat) (u c : Int) (h : Wld n0 X w C S m n τ) (hτ : τ k = some (t, itmT [dropI i u] 0)) (hi : m[i]? = some c) (hc : c ≠ u + 1) (hu : 0 ≤ u ∧ u ≤ 100000) (hn : 0 ≤ n ∧ n ≤ 2000000) :
    Calls Try.prog 22 #[pV t] w fun e w' => e = .returned (.bool true) ∧ Wld n0 X w' C S m (n + 1) (upd τ k (some (t, retT 0))) ∧ Keep (fun b => n0 ≤ b ∧ ¬ X b) w w' :=
  lstepE true k h (x := dropI i u) (κ := itmT []) hτ (show (2 : Nat) < 5 by omega) hn (odrop_no hi hc hu).1 (odrop_no hi hc hu).2 rfl (fin_ret 0)
end
/-- new cells, no tasks yet -/
theorem wnew {a : Int} (k : Nat) (ha : a = k) (w : World) (n0 : Nat) (hn : n0 ≤ w.heap.size) (hk : k ≤ 1000) :
    Calls Try.prog 9 #[.int .i64 a] w fun e w' => ∃ C S, e = .returned (cellsV C) ∧ Wld n0 (fun _ => False) w' C S (List.replicate k 0) 0 (fun _ => none) ∧ Below w.heap.size w w' ∧ w.heap.size ≤ C ∧ w.heap.size ≤ S := by
  subst ha
  refine (new_some k w (by omega)).mono ?_
  rintro e w' ⟨rfl, h1, h2⟩
  exact ⟨_, _, rfl, ⟨h1, ⟨by omega, by omega, by have := h2.size; omega⟩, fun b h => h.elim, fun _ => 0, fun k t T e => by cases e⟩, h2, by omega, by omega⟩
section
variable {n0 : Nat} {X : Nat → Prop} {w : World} {C S : Nat} {m : List Int} {n : Int} {τ : Nat → Option (Nat × Tre Itm)}
theorem wtake {a : Int} (k i : Nat) (ha : a = i) (u : Int) (h : Wld n0 X w C S m n τ) :
    Calls Try.prog 11 #[cellsV C, .int .i64 a, .int .i64 u] w fun e w' => ∃ t, e = .returned (pV t) ∧ Wld n0 X w' C S m n (upd τ k (some (t, spinT (takeI i u)))) ∧ Below w.heap.size w w' := by
  subst ha
  refine (ltake_any C 0 (fun b => w.heap.size ≤ b) i u w (fun _ h => h)).mono ?_
  rintro e w' ⟨t, rfl, hM⟩
  have := h.new k hM.madeT
  rw [take_eq] at this
  exact ⟨t, rfl, this, hM.2.2⟩
theorem wdrop {a : Int} (k i : Nat) (ha : a = i) (u : Int) (h : Wld n0 X w C S m n τ) :
    Calls Try.prog 17 #[cellsV C, .int .i64 a, .int .i64 u] w fun e w' => ∃ t, e = .returned (pV t) ∧ Wld n0 X w' C S m n (upd τ k (some (t, itmT [dropI i u] 0))) ∧ Below w.heap.size w w' := by
  subst ha
  refine (ldrop_any C 0 (fun b => w.heap.size ≤ b) i u w (fun _ h => h)).mono ?_
  rintro e w' ⟨t, rfl, hM⟩
  exact ⟨t, rfl, h.new k hM.madeT, hM.2.2⟩
theorem wbump {a' i' : Int} (k a i : Nat) (ha : a' = a) (hi : i' = i) (u : Int) (h : Wld n0 X w C S m n τ) :
    Calls Try.prog 19 #[cellsV C, .int .i64 a', .int .i64 u, .int .i64 i'] w fun e w' => ∃ t, e = .returned (pV t) ∧ Wld n0 X w' C S m n (upd τ k (some (t, bumpT a u i))) ∧ Below w.heap.size w w' := by
  subst ha hi
  refine (bump_any C 0 (fun b => w.heap.size ≤ b) a u i w (fun _ h => h)).mono ?_
  rintro e w' ⟨t, rfl, hM⟩
  exact ⟨t, rfl, h.new k hM, hM.2.2⟩
end
/-- how the chapter's Bump goes -/
def gT : Nat → Tre Itm
  | 0 => bumpT 0 2 1
  | 1 => inT 0 2 1
  | 2 => stT 0 2 1 0
  | 3 => outT 0 2 0
  | _ => retT 0
def gM : Nat → List Int
  | 0 => [0, 0]
  | 1 => [3, 0]
  | 2 => [3, 0]
  | 3 => [3, 1]
  | _ => [0, 1]
theorem g_step {n0 : Nat} {X : Nat → Prop} {w : World} {C S t : Nat} {n : Int} {τ : Nat → Option (Nat × Tre Itm)} (I : Nat) (hI : I < 4) (h : Wld n0 X w C S (gM I) n τ) (hτ : τ 0 = some (t, gT I)) (hn : 0 ≤ n ∧ n ≤ 2000000) :
    Calls Try.prog 13 #[pV t, .int .i64 0] w fun e w' => e = .returned (.bool true) ∧ Wld n0 X w' C S (gM (I + 1)) (n + 1) (upd τ 0 (some (t, gT (I + 1)))) ∧ Keep (fun b => n0 ≤ b ∧ ¬ X b) w w' := by
  have h3 : (0 : Int) ≤ 2 ∧ (2 : Int) ≤ 100000 := by decide
  match I, hI with
  | 0, _ =>
    unfold gT at hτ
    rw [bumpT_eq] at hτ
    exact wstepE 0 h hτ (show (4 : Nat) < 5 by omega) hn (otake_yes (m := [0, 0]) rfl h3).1 (otake_yes (m := [0, 0]) rfl h3).2 rfl
  | 1, _ => exact wstepE 0 h hτ (show (0 : Nat) < 5 by omega) hn (oload_on (m := [3, 0]) (i := 1) (c := 0) rfl (by decide)).1 (oload_on (m := [3, 0]) (i := 1) (c := 0) rfl (by decide)).2 rfl
  | 2, _ => exact wstepE 0 h hτ (show (1 : Nat) < 5 by omega) hn (ostore_on (m := [3, 0]) (i := 1) (c := 0) rfl (by decide)).1 (ostore_on (m := [3, 0]) (i := 1) (c := 0) rfl (by decide)).2 rfl
  | 3, _ => exact wstepE 0 h hτ (show (2 : Nat) < 5 by omega) hn (odrop_yes (m := [3, 1]) (i := 0) (u := 2) rfl h3).1 (odrop_yes (m := [3, 1]) (i := 0) (u := 2) rfl h3).2 rfl
theorem g_fin (I : Nat) (hI : I ≤ 4) : Fin (I == 4) (gT I) := by
  match I, hI with
  | 0, _ => exact .inr ⟨rfl, _, _, bumpT_eq 0 2 1⟩
  | 1, _ => exact fin_op _ _
  | 2, _ => exact fin_op _ _
  | 3, _ => exact fin_op _ _
  | 4, _ => exact fin_ret 0
end Go.Proofs.Ytcocpmoglhgbeaa
