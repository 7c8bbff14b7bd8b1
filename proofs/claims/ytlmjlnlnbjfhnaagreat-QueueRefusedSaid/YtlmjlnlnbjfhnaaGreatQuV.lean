/- Layer 10's laws: what is done with four queues whose threads are written out. -/
import Derived.Test.YtlmjlnlnbjfhnaaGreatQuW
namespace Go.Proofs.YtlmjlnlnbjfhnaaGreat
open Go.ChangeShapes Go.WideShapes Go.ChangeAt Go.RowKit
set_option linter.unusedVariables false
set_option maxRecDepth 100000
set_option linter.unusedSimpArgs false
def L4 (a b c d : List Int) : Nat → List Int
  | 0 => a
  | 1 => b
  | 2 => c
  | _ => d
theorem four {j : Nat} (h : j < 4) : j = 0 ∨ j = 1 ∨ j = 2 ∨ j = 3 := by omega
theorem l4_0 (a b c d x : List Int) : ∀ j, j < 4 → updL (L4 a b c d) 0 x j = L4 x b c d j := fun j h => by rcases four h with rfl | rfl | rfl | rfl <;> rfl
theorem l4_1 (a b c d x : List Int) : ∀ j, j < 4 → updL (L4 a b c d) 1 x j = L4 a x c d j := fun j h => by rcases four h with rfl | rfl | rfl | rfl <;> rfl
theorem l4_3 (a b c d x : List Int) : ∀ j, j < 4 → updL (L4 a b c d) 3 x j = L4 a b c x j := fun j h => by rcases four h with rfl | rfl | rfl | rfl <;> rfl
theorem l4_not {a b c d : List Int} {t : Int} (h0 : t ∉ a) (h1 : t ∉ b) (h2 : t ∉ c) (h3 : t ∉ d) : ∀ j, j < 4 → t ∉ L4 a b c d j := fun j h => by rcases four h with rfl | rfl | rfl | rfl <;> assumption
theorem QS.ext {mm : List Int} {L L' : Nat → List Int} (h : QS mm L) (e : ∀ j, j < 4 → L j = L' j) : QS mm L' :=
  ⟨h.len, fun k hk => e k hk ▸ h.is k hk, fun k hk => e k hk ▸ h.thr k hk, fun j k hj hk hjk u hu => by rw [← e j hj] at hu; rw [← e k hk]; exact h.apart j k hj hk hjk u hu⟩
theorem WQ.ext {w : World} {C S : Nat} {mm : List Int} {n : Int} {L L' : Nat → List Int} (h : WQ w C S mm n L) (e : ∀ j, j < 4 → L j = L' j) : WQ w C S mm n L' := ⟨h.cells, h.qs.ext e⟩
section
variable {w : World} {C S : Nat} {mm : List Int} {n : Int} {L : Nat → List Int}
/-- after a call on the queues -/
def Aft (w w' : World) (C S : Nat) (n b : Int) (L' : Nat → List Int) : Prop := (∃ mm' n', WQ w' C S mm' n' L' ∧ 0 ≤ n' ∧ n' ≤ b + 50) ∧ Keep (ofCells C S) w w'
theorem vpush {aI : Int} (b : Int) (k : Nat) (hk : k < 4) (ha : aI = (placeN k : Nat)) (t : Int) (ht : 0 ≤ t ∧ t < 8) (L' : Nat → List Int) (hL : ∀ j, j < 4 → updL L k (L k ++ [t]) j = L' j) (hn : ∀ j, j < 4 → t ∉ L j) (h : WQ w C S mm n L) (h0 : 0 ≤ n ∧ n ≤ b) (hb : b ≤ 100000) :
    Calls Tryz.prog 26 #[cellsV C, mapV hereM, .int .i64 aI, .int .i64 t] w fun e w' => e = .returned (.int .i64 0) ∧ Aft w w' C S n b L' := by
  subst ha
  refine (lawpush h k hk t ht hn ⟨h0.1, by omega⟩).mono ?_
  rintro e w' ⟨rfl, ⟨mm', n', h1, h2, h3⟩, h4⟩
  exact ⟨rfl, ⟨mm', n', h1.ext hL, by omega, by omega⟩, h4⟩
theorem vrem {aI : Int} (b : Int) (k : Nat) (hk : k < 4) (ha : aI = (placeN k : Nat)) (t v : Int) (ht : 0 ≤ t ∧ t < 8) (L' : Nat → List Int) (hv : (if t ∈ L k then (1 : Int) else 0) = v) (hL : ∀ j, j < 4 → updL L k ((L k).filter (· ≠ t)) j = L' j) (h : WQ w C S mm n L) (h0 : 0 ≤ n ∧ n ≤ b) (hb : b ≤ 100000) :
    Calls Tryz.prog 27 #[cellsV C, mapV hereM, .int .i64 aI, .int .i64 t] w fun e w' => e = .returned (.int .i64 v) ∧ Aft w w' C S n b L' := by
  subst ha
  subst hv
  refine (lawrem h k hk t ht ⟨h0.1, by omega⟩).mono ?_
  rintro e w' ⟨rfl, ⟨mm', n', h1, h2, h3⟩, h4⟩
  exact ⟨rfl, ⟨mm', n', h1.ext hL, by omega, by omega⟩, h4⟩
theorem vpop {aI : Int} (b : Int) (k : Nat) (hk : k < 4) (ha : aI = (placeN k : Nat)) (v : Int) (L' : Nat → List Int) (hv : (if L k = [] then (-1 : Int) else (L k).headD 0) = v) (hL : ∀ j, j < 4 → updL L k (L k).tail j = L' j) (h : WQ w C S mm n L) (h0 : 0 ≤ n ∧ n ≤ b) (hb : b ≤ 100000) :
    Calls Tryz.prog 28 #[cellsV C, mapV hereM, .int .i64 aI] w fun e w' => e = .returned (.int .i64 v) ∧ Aft w w' C S n b L' := by
  subst ha
  subst hv
  refine (lawpop h k hk ⟨h0.1, by omega⟩).mono ?_
  rintro e w' ⟨rfl, ⟨mm', n', h1, h2, h3⟩, h4⟩
  exact ⟨rfl, ⟨mm', n', h1.ext hL, by omega, by omega⟩, h4⟩
theorem vlook {aI : Int} (k : Nat) (hk : k < 4) (ha : aI = (placeN k : Nat)) (l : List Int) (hl : L k = l) (N : Nat) (hN : N = l.length) (h : WQ w C S mm n L) :
    Calls Tryz.prog 24 #[cellsV C, mapV hereM, .int .i64 aI] w fun e w' => ∃ a c, e = .returned (.slice a N c) ∧ RowN w' (fun b => w.heap.size ≤ b) (.slice a N c) l ∧ Below w.heap.size w w' := by
  subst ha
  subst hN
  subst hl
  refine (qlook_any h k hk).mono ?_
  rintro e w' ⟨v, rfl, h1, h2⟩
  obtain ⟨a, c, rfl, _⟩ := id h1
  exact ⟨a, c, rfl, h1, h2⟩
theorem vload {aI : Int} (b : Int) (i : Nat) (c : Int) (ha : aI = i) (hi : mm[i]? = some c) (h : WQ w C S mm n L) (h0 : 0 ≤ n ∧ n ≤ b) (hb : b ≤ 100000) :
    Calls Tryz.prog 32 #[cellsV C, .int .i64 aI] w fun e w' => e = .returned (.int .u64 c) ∧ (WQ w' C S mm (n + 1) L ∧ 0 ≤ n + 1 ∧ n + 1 ≤ b + 50) ∧ Keep (ofCells C S) w w' := by
  subst ha
  refine (load_yes C S mm n i c w h.cells hi h0.1 (by omega)).mono ?_
  rintro e w' ⟨rfl, h1, h2⟩
  exact ⟨rfl, ⟨⟨h1, h.qs⟩, by omega, by omega⟩, h2⟩
end
theorem vnew (w : World) {aI : Int} (ha : aI = (sizeN hereM : Nat)) : Calls Tryz.prog 8 #[.int .i64 aI] w fun e w' => ∃ C S mm, e = .returned (cellsV C) ∧ WQ w' C S mm 0 (L4 [] [] [] []) ∧ Below w.heap.size w w' ∧ w.heap.size ≤ C ∧ w.heap.size ≤ S := by
  subst ha
  refine (new_some 67 w (by omega)).mono ?_
  rintro e w' ⟨rfl, h1, h2⟩
  exact ⟨_, _, _, rfl, ⟨h1, (QS.none _ rfl).ext fun j h => by rcases four h with rfl | rfl | rfl | rfl <;> rfl⟩, h2, by omega, by omega⟩
/-- rows that are written out -/
theorem row_lit (w : World) (l : List Int) (cs : Array Value) (h : cs = (l.map (Value.int .i64)).toArray) : RowN (w.alloc (.cells cs 3)) (fun b => b = w.heap.size) (.slice (some ⟨w.heap.size, 0, none⟩) l.length l.length) l := by
  subst h
  refine ⟨_, _, rfl, Nat.le_refl _, fun i x hx => ⟨w.heap.size, 0, rfl, rfl, by simp, ?_⟩⟩
  rw [Nat.zero_add]
  exact (Blk.new w 3 _).cell i _ (by rw [List.getElem?_toArray, List.getElem?_map, hx]; rfl)
theorem vints (v : Value) (l : List Int) (N : Nat → Prop) (w : World) (cs : Array Value) (h : RowN w N v l) (hl : l.length ≤ 100) (hcs : cs = (l.map (Value.int .i64)).toArray) {k : Nat} (hk : k = l.length) :
    Calls Tryz.prog 23 #[v, .slice (some ⟨w.heap.size, 0, none⟩) k k] (w.alloc (.cells cs 3)) fun e w' => e = .returned (.bool true) ∧ Below w.heap.size w w' := by
  subst hk
  have k0 : Keep (fun _ => False) w (w.alloc (.cells cs 3)) := (Keep.refl _ _).alloc _
  refine (qints_same v _ N _ l _ (h.keep k0 (fun _ _ h => h)) (row_lit w l cs hcs) (by omega)).mono ?_
  rintro e w' ⟨rfl, hb⟩
  exact ⟨rfl, ((Below.refl _ w).alloc (Nat.le_refl _) _).trans (hb.mono (by simp))⟩
/-- a thread that is none -/
theorem vpush_no {w : World} {C S : Nat} {mm : List Int} {n : Int} {L : Nat → List Int} {aI : Int} (k : Nat) (t : Int) (ht : t = 8 ∨ t = -1 ∨ ¬ (0 ≤ t ∧ t < 8)) (ha : aI = (placeN k : Nat)) (hk : k < 4) (h : WQ w C S mm n L) :
    Calls Tryz.prog 26 #[cellsV C, mapV hereM, .int .i64 aI, .int .i64 t] w fun e w' => e = .returned (.int .i64 (-1)) ∧ Below w.heap.size w w' := by
  have ht2 : ¬ (0 ≤ t ∧ t < 8) := by omega
  have hl := h.qs.len
  have hb0 : Below w.heap.size w (w.alloc (.cells #[.int .i64 (hereM.t : Int), .int .i64 (hereM.o : Int), .int .i64 (hereM.n : Int)] 24)) := (Below.refl _ w).alloc (Nat.le_refl _) _
  have h2 := h.below hb0
  generalize hV : w.alloc (.cells #[.int .i64 (hereM.t : Int), .int .i64 (hereM.o : Int), .int .i64 (hereM.n : Int)] 24) = V at *
  have HP := Lib.hid (push_no C 0 (cellsV C) (hereM.t : Int) (hereM.o : Int) (hereM.n : Int) aI mm.length t (fun b => V.heap.size ≤ b) V (.inr ⟨C, rfl⟩) (fun W hW => len_any C S mm n W (h2.cells.keep (Keep.ofBelow (Q := fun _ => False) hW) (fun h => h) (fun h => h))) (fun W B hB hc => qright_one_out _ _ _ _ _ t B W ht2 hB hc) (fun _ h => h))
  have HE := Lib.hid fun w1 t' (hM : MadeM (cellOps C 0) V (fun b => V.heap.size ≤ b) (retT (-1)) t' w1) => (show Calls Tryz.prog 21 #[pV t', .int .i64 50] w1 fun e w' => e = .returned (.int .i64 0) ∧ w' = w1 ∧ DoneV w1 (some ⟨t', 0, none⟩) (-1) from by
    obtain ⟨M, hJ⟩ := hM.2.1
    have hT : TkM (cellOps C 0) w1 t' (fun b => V.heap.size ≤ b ∧ b < w1.heap.size) (retT (-1)) := TkM.new hJ hM.1
    have hD := Lib.hid (tdoneM_ret t' _ (-1) w1 hT)
    have HDv := Lib.hid hT.done
    clear hT hJ hM
    go_enter Tryz.func21, Tryz.ntmps21
    go_wp2_with fail
    go_loopw [5] (fun v5 wr => v5 = .int .i64 0 ∧ wr = w1) (fun v5 _ => 0)
    case atStart => exact ⟨rfl, rfl⟩
    case round =>
      obtain ⟨rfl, rfl⟩ := hrel
      go_wp2_with (go_at_call 31; (with_reducible refine hD.out.mono ?_); rintro e w2 ⟨rfl, rfl⟩)
      go_ret
      exact ⟨rfl, rfl, HDv.out⟩)
  clear h h2 ht ht2 ha hl
  have mV : Blk V w.heap.size 24 #[.int .i64 (hereM.t : Int), .int .i64 (hereM.o : Int), .int .i64 (hereM.n : Int)] := by rw [← hV]; exact Blk.new w _ _
  have d0 := mV.cell 0 _ rfl
  have d1 := mV.cell 1 _ rfl
  have d2 := mV.cell 2 _ rfl
  go_enter Tryz.func26, Tryz.ntmps26
  go_upto_region 1 with fail
  (try rw [hV])
  clear hV mV
  go_wp2_with (first
    | (go_at_call 15; (with_reducible refine HP.out.mono ?_); rintro e w1 ⟨t', rfl, hM⟩; have HE2 := Lib.hid (HE.out w1 t' hM))
    | (go_at_call 21; (with_reducible refine HE2.out.mono ?_); rintro e w2 ⟨rfl, rfl, hd⟩; have HV := Lib.hid (doneV_value _ (-1) w2 hd))
    | (go_at_call 22; (with_reducible refine HV.out.mono ?_); rintro e w3 ⟨rfl, rfl⟩))
  go_ret
  exact ⟨rfl, hb0.trans (hM.2.2.mono hb0.size)⟩
end Go.Proofs.YtlmjlnlnbjfhnaaGreat
