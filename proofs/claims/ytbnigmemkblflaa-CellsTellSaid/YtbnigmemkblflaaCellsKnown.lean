/- CellsKnown returns true: the chapter's examples; numbers of cells that may not be; none. -/
import Derived.Test.YtbnigmemkblflaaCellsWorks
namespace Go.Proofs.Ytbnigmemkblflaa
open Go.ChangeShapes Go.WideShapes Go.ChangeAt Go.RowKit
set_option linter.unusedVariables false
set_option linter.unusedSimpArgs false
/-- new cells, of which the last one is 0 -/
def Most (w : World) (n m : Nat) (e : Ending) (w' : World) : Prop :=
  ∃ l : List Int, l.length = n ∧ l[m]? = some 0 ∧ e = .returned (cellsV (w.heap.size + 1)) ∧ CellsAt w' (w.heap.size + 1) w.heap.size l 0 ∧ Below w.heap.size w w'
theorem most_gen (n m : Nat) (w : World) (hn : n ≤ 16777216) (hm : m < n) : Calls Try.prog 6 #[.int .i64 n] w (Most w n m) :=
  (new_some n w hn).mono fun e w' ⟨h1, h2, h3⟩ => ⟨_, by simp, by simp [hm], h1, h2, h3⟩
theorem none_slice {w : World} {base : Nat} {u : Value} {xs : List Int} (h : w.ownsRow base 31 1 u xs.length (xs.map (.int .u64))) : ∃ ua uc, u = .slice ua xs.length uc := by
  rcases h.2 with ⟨rfl, h1⟩ | ⟨g, cap, cur, rfl, _⟩
  · exact ⟨none, 0, by rw [h1]⟩
  · exact ⟨_, _, rfl⟩
set_option maxRecDepth 100000 in
set_option maxHeartbeats 4000000 in
theorem known_any (w : World) : Calls Try.prog 5 #[] w fun e w' => e = .returned (.bool true) ∧ Below w.heap.size w w' := by
  have HN := Lib.hid (new_some 0 w (by omega))
  have HM := fun W => Lib.hid (most_gen 16777216 16777215 W (by omega) (by omega))
  go_enter Try.func5, Try.ntmps5
  go_upto_region 3 with (go_at_call 6; refine HN.out.mono ?_; rintro e w1 ⟨rfl, hE, b1⟩)
  have hE1 : CellsAt w1 (w.heap.size + 1) w.heap.size [] 0 := hE
  clear hE HN
  have hE1l := hE1.own.lt
  generalize w.heap.size + 1 = C0 at *
  have HM1 := HM w1
  clear HM
  go_upto_region 4 with (go_at_call 6; refine HM1.out.mono ?_; rintro e w2 ⟨l, hl, hx, rfl, hM2, b2⟩)
  have hE2 := hE1.keep (Keep.ofBelow (Q := fun _ => False) b2) (fun h => h) (fun h => h)
  have HL := Lib.hid hl
  have HX := Lib.hid hx
  clear hl hx
  generalize hc1 : w1.heap.size + 1 = C1 at *
  have HC1 := Lib.hid hc1
  clear hc1
  go_upto_region 6 with fail
  go_wp2_with (go_at_call 8; refine (works_any _).mono ?_; rintro e w3 ⟨rfl, b3⟩)
  have hE3 := hE2.keep (Keep.ofBelow (Q := fun _ => False) b3) (fun h => h) (fun h => h)
  have hM3 := hM2.keep (Keep.ofBelow (Q := fun _ => False) b3) (fun h => h) (fun h => h)
  go_wp2_with fail
  refine (new_none _ _ (.inl (by decide))).mono ?_
  rintro e _ ⟨rfl, rfl⟩
  go_wp2_with fail
  refine (new_none _ _ (.inr (by decide))).mono ?_
  rintro e _ ⟨rfl, rfl⟩
  go_wp2_with fail
  refine (new_none _ _ (.inl (by decide))).mono ?_
  rintro e _ ⟨rfl, rfl⟩
  go_wp2_with fail
  refine (over_nil _).mono ?_
  rintro e _ ⟨rfl, rfl⟩
  go_wp2_with fail
  refine (len_any C0 _ [] 0 _ hE3).mono ?_
  rintro e w4 ⟨rfl, b4⟩
  have hE4 := hE3.keep (Keep.ofBelow (Q := fun _ => False) b4) (fun h => h) (fun h => h)
  have hM4 := hM3.keep (Keep.ofBelow (Q := fun _ => False) b4) (fun h => h) (fun h => h)
  go_wp2_with fail
  refine (load_no C0 _ [] 0 0 _ hE4 (.inr (by decide))).mono ?_
  rintro e w5 ⟨rfl, b5⟩
  have hE5 := hE4.keep (Keep.ofBelow (Q := fun _ => False) b5) (fun h => h) (fun h => h)
  have hM5 := hM4.keep (Keep.ofBelow (Q := fun _ => False) b5) (fun h => h) (fun h => h)
  go_wp2_with fail
  refine (steps_any C0 _ [] 0 _ hE5).mono ?_
  rintro e _ ⟨rfl, rfl⟩
  go_wp2_with fail
  refine (all_any C0 _ [] 0 _ hE5).mono ?_
  rintro e w6 ⟨u, rfl, b6, hrow⟩
  obtain ⟨ua, uc, rfl⟩ := none_slice hrow
  have hM6 := hM5.keep (Keep.ofBelow (Q := fun _ => False) b6) (fun h => h) (fun h => h)
  go_wp2_with fail
  refine (store_yes C1 _ l 0 16777215 0 7 _ hM6 HX.out (by omega) (by omega)).mono ?_
  rintro e w7 ⟨rfl, hM7, k7⟩
  have HY := Lib.hid (show (l.set 16777215 7)[16777215]? = some 7 by rw [List.getElem?_set_self]; rw [HL.out]; omega)
  have HZ := Lib.hid (show (l.set 16777215 7).length = 16777216 by rw [List.length_set, HL.out])
  generalize l.set 16777215 7 = l7 at *
  go_wp2_with fail
  refine (load_yes C1 _ l7 (0 + 1) 16777215 7 _ hM7 HY.out (by omega) (by omega)).mono ?_
  rintro e w8 ⟨rfl, hM8, k8⟩
  go_wp2_with fail
  refine (store_no C1 _ l7 _ 16777216 7 _ hM8 (.inr (by rw [HZ.out]; decide))).mono ?_
  rintro e w9 ⟨rfl, b9⟩
  have hM9 := hM8.keep (Keep.ofBelow (Q := fun _ => False) b9) (fun h => h) (fun h => h)
  go_wp2_with fail
  refine (load_no C1 _ l7 _ (-9223372036854775808) _ hM9 (.inl (by decide))).mono ?_
  rintro e w10 ⟨rfl, b10⟩
  have hM10 := hM9.keep (Keep.ofBelow (Q := fun _ => False) b10) (fun h => h) (fun h => h)
  replace hM10 : CellsAt w10 C1 _ l7 2 := hM10
  go_wp2_with fail
  refine (steps_any C1 _ l7 2 _ hM10).mono ?_
  rintro e _ ⟨rfl, rfl⟩
  go_wp2_with fail
  refine (len_nil _).mono ?_
  rintro e w11 ⟨rfl, b11⟩
  go_wp2_with fail
  refine (load_nil 0 _).mono ?_
  rintro e w12 ⟨rfl, b12⟩
  go_wp2_with fail
  refine (store_nil 0 1 _).mono ?_
  rintro e w13 ⟨rfl, b13⟩
  go_wp2_with fail
  refine (swap_nil 0 0 1 _).mono ?_
  rintro e w14 ⟨rfl, b14⟩
  go_wp2_with fail
  refine (add_nil 0 1 _).mono ?_
  rintro e w15 ⟨rfl, b15⟩
  go_wp2_with fail
  refine (steps_nil _).mono ?_
  rintro e _ ⟨rfl, rfl⟩
  go_wp2_with fail
  refine (all_nil _).mono ?_
  rintro e w16 ⟨rfl, b16⟩
  go_wp2_with fail
  go_ret
  refine ⟨rfl, ?_⟩
  have hc := HC1.out
  have z1 := b1.size
  have z2 := b2.size
  have z3 := b3.size
  have z4 := b4.size
  have z5 := b5.size
  have z6 := b6.size
  have z7 := k7.size
  have z8 := k8.size
  have z9 := b9.size
  have z10 := b10.size
  have z11 := b11.size
  have z12 := b12.size
  have z13 := b13.size
  have z14 := b14.size
  have z15 := b15.size
  have q : ∀ {a b : World}, w.heap.size ≤ a.heap.size → Keep (ofCells C1 w1.heap.size) a b → Below w.heap.size a b := fun h k => k.below h (fun i _ h => by rcases h with h | h <;> omega)
  exact ((((((((((((((b1.trans (b2.mono (by omega))).trans (b3.mono (by omega))).trans (b4.mono (by omega))).trans (b5.mono (by omega))).trans (b6.mono (by omega))).trans (q (by omega) k7)).trans (q (by omega) k8)).trans (b9.mono (by omega))).trans (b10.mono (by omega))).trans (b11.mono (by omega))).trans (b12.mono (by omega))).trans (b13.mono (by omega))).trans (b14.mono (by omega))).trans (b15.mono (by omega))).trans (b16.mono (by omega))
end Go.Proofs.Ytbnigmemkblflaa
