/- The document's automaton: Walk (events that may come, one behind the other). -/
import Derived.Test.YtcgljmeppmdihaaRsP
import Derived.Test.YtcgljmeppmdihaaRsM
import Derived.Test.YtcgljmeppmdihaaSoPure
namespace Go.Proofs.Ytcgljmeppmdihaa
open Go.ChangeShapes Go.WideShapes Go.ChangeAt Go.RowKit
set_option linter.unusedVariables false
set_option maxRecDepth 100000
set_option linter.unusedSimpArgs false
/-- bytes that are read -/
def BytesIn (w : World) (a : Option Addr) (k : Nat) : Prop := ∀ i, i < k → ∃ B o b : Nat, a = some ⟨B, o, none⟩ ∧ B < w.heap.size ∧ b ≤ 255 ∧ w.cell? ⟨B, o + i, none⟩ = some (.int .u8 (b : Int))
theorem BytesIn.below {w w1 : World} {a : Option Addr} {k : Nat} (h : BytesIn w a k) (hb : Below w.heap.size w w1) : BytesIn w1 a k := by
  intro i hi
  obtain ⟨B, o, b, h1, h2, h3, h4⟩ := h i hi
  exact ⟨B, o, b, h1, Nat.lt_of_lt_of_le h2 hb.size, h3, (hb.cell (p := ⟨B, o + i, none⟩) h2).trans h4⟩
theorem idx_u8 (B o len c i : Nat) (h : i < len) : ∀ W, (Instr.indexAt 22 (.slice (some ⟨B, o, none⟩) len c) (.int .i64 (i : Int))).run Try.prog W = .ok (.pointer (some ⟨B, o + i, none⟩)) W := by
  intro W
  go_simp
/-- what Walk gives: an own row of events that the document's automaton takes -/
def WalkPost (w : World) (m n : Nat) (e : Ending) (w' : World) : Prop :=
  ∃ (v : Value) (l : List Ev) (r : RS), e = .returned v ∧ w'.ownsRow w.heap.size 37 8 v l.length (l.flatMap evL) ∧ l.length ≤ 200 ∧ RunR (newR m n) l r ∧ Below w.heap.size w w'
theorem wrow_lower {w : World} {N N' : Nat} {t : TypeId} {k : Nat} {v : Value} {n : Nat} {cs : List Value} (h : w.ownsRow N t k v n cs) (hN : N' ≤ N) : w.ownsRow N' t k v n cs := by
  refine ⟨h.1, ?_⟩
  rcases h.2 with h6 | ⟨g, c6, cur, hv, hb6, h7⟩
  · exact .inl h6
  · exact .inr ⟨g, c6, cur, hv, by omega, h7⟩
/-- where Walk stands -/
structure WkS (w W : World) (N m n : Nat) (p : RPl) (r : RS) (v : Value) (l : List Ev) : Prop where
  rs : RsAt W p r
  run : RunR (newR m n) l r
  len : r.W.length = n ∧ r.D.length = n ∧ r.T.length = m
  row : W.ownsRow N 37 8 v l.length (l.flatMap evL)
  lo : ∀ b, rB p b → w.heap.size ≤ b ∧ b < N
  bw : Below w.heap.size w W
  sz : w.heap.size ≤ N ∧ N ≤ W.heap.size
section
variable {w W W1 : World} {N m n : Nat} {p : RPl} {r : RS} {v : Value} {l : List Ev}
theorem WkS.below (h : WkS w W N m n p r v l) (hb : Below W.heap.size W W1) : WkS w W1 N m n p r v l :=
  ⟨h.rs.below hb, h.run, h.len, row_ownkeep h.row (Keep.ofBelow hb) (fun _ _ h => h), h.lo, h.bw.trans (hb.mono h.bw.size), h.sz.1, Nat.le_trans h.sz.2 hb.size⟩
theorem row_lo {w : World} {N : Nat} {t : TypeId} {k : Nat} {v : Value} {n : Nat} {cs : List Value} (h : w.ownsRow N t k v n cs) (b : Nat) (hb : v.ownBlock = some b) : N ≤ b := by
  rcases h.2 with ⟨hv, _⟩ | ⟨g', cap', cur, hv, hb', _, _⟩
  · rw [hv] at hb; cases hb
  · rw [hv] at hb
    have : g' = b := by simpa [Value.ownBlock] using hb
    omega
theorem WkS.hand (h : WkS w W N m n p r v l) {e : Ev} {q : Ending} (hr : RHand W p r (StepR r e) q W1) : ∃ bt : Bool, q = .returned (.bool bt) ∧ (bt = false → WkS w W1 N m n p r v l) ∧
    (bt = true → ∃ r1, RsAt W1 p r1 ∧ RunR (newR m n) (l ++ [e]) r1 ∧ (r1.W.length = n ∧ r1.D.length = n ∧ r1.T.length = m) ∧ W1.ownsRow N 37 8 v l.length (l.flatMap evL) ∧ Below w.heap.size w W1 ∧ N ≤ W1.heap.size) := by
  have hrow := row_ownkeep h.row hr.1 (fun b hb hq => by have := row_lo h.row b hb; have := (h.lo b hq).2; omega)
  have hbl := h.bw.trans (hr.1.below h.bw.size (fun i _ hq => (h.lo i hq).1))
  have hsz := Nat.le_trans h.sz.2 hr.1.size
  rcases hr.2 with ⟨r1, rfl, hs, hat⟩ | ⟨rfl, hat⟩
  · refine ⟨true, rfl, (fun h => by cases h), fun _ => ⟨r1, hat, h.run.snoc hs, ?_, hrow, hbl, hsz⟩⟩
    obtain ⟨e1, e2, e3⟩ := hs.len
    obtain ⟨f1, f2, f3⟩ := h.len
    exact ⟨by omega, by omega, by omega⟩
  · exact ⟨false, rfl, (fun _ => ⟨hat, h.run, h.len, hrow, h.lo, hbl, h.sz.1, hsz⟩), (fun h => by cases h)⟩
end
theorem evs_len (l : List Ev) : (l.flatMap evL).length = l.length * 8 := by
  induction l with
  | nil => rfl
  | cons a l ih => rw [List.flatMap_cons, List.length_append, ih, evl_len, List.length_cons]; omega
set_option maxHeartbeats 8000000 in
theorem rwalk_any (m n : Nat) (hm : 1 ≤ m ∧ m ≤ 32766) (hn : 1 ≤ n ∧ n ≤ 65536) (a : Option Addr) (k c : Nat) (hk : k ≤ 600) (w : World) (hb : BytesIn w a k) :
    Calls Try.prog 19 #[.slice a k c, .int .i64 (m : Int), .int .i64 (n : Int)] w (WalkPost w m n) := by
  obtain ⟨iE, hzE, hsE, hbE, hcE⟩ := info_parts revs_info
  have HNew := Lib.hid (rnew_any m n w hm hn)
  have HB := Lib.hid hb
  have HM := Lib.hid (And.intro hm hn)
  have hesz : Hid ((Try.prog.info? 37).map (·.size) = some 8) := Lib.hid evt_info
  clear hb hm hn
  go_enter Try.func19, Try.ntmps19
  go_upto_region 1 with fail
  go_upto_region 2 with (go_at_call 32; (with_reducible refine (HNew.out).mono ?_); rintro e1 W ⟨p, rfl, hrs, hlo, hbw⟩)
  have H0 := Lib.hid (show WkS w W W.heap.size m n p (newR m n) (.slice none 0 0) [] from ⟨hrs, .nil, by simp [newR], World.ownsRow_nil _ _ _ _, fun b hb => ⟨hlo b hb, hrs.lt hb⟩, hbw, hbw.size, Nat.le_refl _⟩)
  clear HNew hrs hlo hbw
  go_upto_region 3 with fail
  go_upto_region 4 with fail
  go_loopw [8, 9] (fun v8 v9 wr => ∃ (i j : Nat) (l : List Ev) (r : RS), j = i * 3 ∧ l.length ≤ i ∧ i ≤ 200 ∧ v9 = .int .i64 (j : Int) ∧ WkS w wr W.heap.size m n p r v8 l) (fun _ v9 _ => 600 - (intOf v9).toNat)
  case atStart => exact ⟨0, 0, [], _, rfl, by simp, by omega, rfl, H0.out⟩
  case round =>
    obtain ⟨i, j, l, r, hj, hli, hi, rfl, hS⟩ := hrel
    have HS := Lib.hid hS
    have HJ := Lib.hid (And.intro hj (And.intro hli hi))
    have hj6 : j ≤ 600 := by omega
    clear hS hj hli hi
    have e2 : IntKind.i64.wrap ((j : Int) + 2) = (j : Int) + 2 := IntWalk.i64_in _ ⟨by omega, by omega⟩
    by_cases hlt : j + 2 < k
    · have hltI : (j : Int) + 2 < (k : Int) := by omega
      obtain ⟨B, o, b0, rfl, hBw, hb0, hc0⟩ := HB.out j (by omega)
      obtain ⟨B1, o1, b1, hB1, _, hb1, hc1⟩ := HB.out (j + 1) (by omega)
      obtain ⟨B2, o2, b2, hB2, _, hb2, hc2⟩ := HB.out (j + 2) (by omega)
      obtain ⟨rfl, rfl⟩ : B = B1 ∧ o = o1 := by injection hB1 with h; injection h with h1 h2; exact ⟨h1, h2⟩
      obtain ⟨rfl, rfl⟩ : B = B2 ∧ o = o2 := by injection hB2 with h; injection h with h1 h2; exact ⟨h1, h2⟩
      clear hB1 hB2
      obtain ⟨t, ht⟩ : ∃ t, t = b0 % m := ⟨_, rfl⟩
      have htm : t < m := by rw [ht]; exact Nat.mod_lt _ (by have := HM.out; omega)
      have ew0 : IntKind.i64.wrap (b0 : Int) = (b0 : Int) := IntWalk.i64_in _ ⟨by omega, by omega⟩
      have e1 : IntKind.i64.wrap ((j : Int) + 1) = (j : Int) + 1 := IntWalk.i64_in _ ⟨by omega, by omega⟩
      have ej : ((b0 : Int)).tmod (m : Int) = (t : Int) := by rw [ht]; rfl
      have hm0 : ¬ m = 0 := by omega
      have ix0 := idx_u8 B o k c j (by omega)
      have ix1 : ∀ W, (Instr.indexAt 22 (.slice (some ⟨B, o, none⟩) k c) (.int .i64 ((j : Int) + 1))).run Try.prog W = .ok (.pointer (some ⟨B, o + (j + 1), none⟩)) W := idx_u8 B o k c (j + 1) (by omega)
      have ix2 : ∀ W, (Instr.indexAt 22 (.slice (some ⟨B, o, none⟩) k c) (.int .i64 ((j : Int) + 2))).run Try.prog W = .ok (.pointer (some ⟨B, o + (j + 2), none⟩)) W := idx_u8 B o k c (j + 2) (by omega)
      clear ht
      go_upto_region 6 with fail
      have HSd := Lib.hid (HS.out.below (rdrew wr))
      have bd := Below.refl wr.drew.heap.size wr.drew
      have SK := Lib.hid (show ∀ V, Below wr.drew.heap.size wr.drew V → (V.cell? ⟨B, o + j, none⟩ = some (.int .u8 (b0 : Int)) ∧ V.cell? ⟨B, o + (j + 1), none⟩ = some (.int .u8 (b1 : Int)) ∧ V.cell? ⟨B, o + (j + 2), none⟩ = some (.int .u8 (b2 : Int))) from fun V hV => by
        have hv := HSd.out.bw.trans (hV.mono HSd.out.bw.size)
        exact ⟨(hv.cell (p := ⟨B, o + j, none⟩) hBw).trans hc0, (hv.cell (p := ⟨B, o + (j + 1), none⟩) hBw).trans hc1, (hv.cell (p := ⟨B, o + (j + 2), none⟩) hBw).trans hc2⟩)
      have HNx := Lib.hid fun V (hV : Below wr.drew.heap.size wr.drew V) => rnext_any (HSd.out.rs.below hV) (by have := HSd.out.len; have := HM.out; omega) (by have := HSd.out.len; omega) (by have := HSd.out.len; have := HM.out; omega) (t := t) (by have := HSd.out.len; omega) b1 b2 hb1 hb2
      clear hc0 hc1 hc2
      -- REGION 6
      refine wp_region_held_drew (S := (fun (V : World) => (V.cell? ⟨B, o + j, none⟩ = some (.int .u8 (b0 : Int)) ∧ V.cell? ⟨B, o + (j + 1), none⟩ = some (.int .u8 (b1 : Int)) ∧ V.cell? ⟨B, o + (j + 2), none⟩ = some (.int .u8 (b2 : Int))))) (by kernel_rfl) (SK.out _ bd) (fun hHeld => ?_)
      generalize hWd : wr.drew = Wd at HSd SK hHeld HNx ⊢
      have HBd := Lib.hid (Below.refl Wd.heap.size Wd)
      clear hWd bd
      refine wpAnyH_take (i := 0) (oi := { dst := some 23, op := Op.move (Operand.tmp 7), type := 75, pos := "kit.go:47", after := #[], guard := none }) (v := ?_) rfl (by kernel_rfl) (by kernel_rfl) (by kernel_rfl) (fun _ _ _ h => h) (Or.inl ⟨by rfl, ?_⟩) (by assumption) ?_
      rotate_left
      · intro w hSw; (try dsimp only at hSw); go_simp; try with_reducible rfl
      (try simp only [Act.put, List.setIfInBounds_toArray, List.set_cons_zero, List.set_cons_succ])
      refine wpAnyH_take (i := 1) (oi := { dst := some 24, op := Op.move (Operand.tmp 0), type := 22, pos := "kit.go:47", after := #[], guard := none }) (v := ?_) rfl (by kernel_rfl) (by kernel_rfl) (by kernel_rfl) (fun _ _ _ h => h) (Or.inl ⟨by rfl, ?_⟩) (by assumption) ?_
      rotate_left
      · intro w hSw; (try dsimp only at hSw); go_simp; try with_reducible rfl
      (try simp only [Act.put, List.setIfInBounds_toArray, List.set_cons_zero, List.set_cons_succ])
      refine wpAnyH_take (i := 2) (oi := { dst := some 25, op := Op.move (Operand.tmp 9), type := 3, pos := "kit.go:47", after := #[], guard := none }) (v := ?_) rfl (by kernel_rfl) (by kernel_rfl) (by kernel_rfl) (fun _ _ _ h => h) (Or.inl ⟨by rfl, ?_⟩) (by assumption) ?_
      rotate_left
      · intro w hSw; (try dsimp only at hSw); go_simp; try with_reducible rfl
      (try simp only [Act.put, List.setIfInBounds_toArray, List.set_cons_zero, List.set_cons_succ])
      refine wpAnyH_take (i := 3) (oi := { dst := some 26, op := Op.indexAddr 22 (Operand.tmp 24) (Operand.tmp 25), type := 0, pos := "kit.go:47", after := #[{ on := 1, ground := Ground.data }, { on := 2, ground := Ground.data }], guard := none }) (v := ?_) rfl (by kernel_rfl) (by kernel_rfl) (by kernel_rfl) (fun _ _ _ h => h) (Or.inl ⟨by rfl, ?_⟩) (by assumption) ?_
      rotate_left
      · intro w hSw; (try dsimp only at hSw); go_simp; try with_reducible rfl
      (try simp only [Act.put, List.setIfInBounds_toArray, List.set_cons_zero, List.set_cons_succ])
      refine wpAnyH_take (i := 4) (oi := { dst := some 27, op := Op.load 5 (Operand.tmp 26), type := 5, pos := "kit.go:47", after := #[{ on := 3, ground := Ground.data }], guard := none }) (v := ?_) rfl (by kernel_rfl) (by kernel_rfl) (by kernel_rfl) (fun _ _ _ h => h) (Or.inl ⟨by rfl, ?_⟩) (by assumption) ?_
      rotate_left
      · intro w hSw; (try dsimp only at hSw); go_simp; try with_reducible rfl
      (try simp only [Act.put, List.setIfInBounds_toArray, List.set_cons_zero, List.set_cons_succ])
      refine wpAnyH_take (i := 5) (oi := { dst := some 28, op := Op.convert 5 3 (Operand.tmp 27), type := 3, pos := "kit.go:47", after := #[{ on := 4, ground := Ground.data }], guard := none }) (v := ?_) rfl (by kernel_rfl) (by kernel_rfl) (by kernel_rfl) (fun _ _ _ h => h) (Or.inl ⟨by rfl, ?_⟩) (by assumption) ?_
      rotate_left
      · intro w hSw; (try dsimp only at hSw); go_simp; try with_reducible rfl
      (try simp only [Act.put, List.setIfInBounds_toArray, List.set_cons_zero, List.set_cons_succ])
      refine wpAnyH_take (i := 6) (oi := { dst := some 29, op := Op.move (Operand.tmp 1), type := 3, pos := "kit.go:47", after := #[], guard := none }) (v := ?_) rfl (by kernel_rfl) (by kernel_rfl) (by kernel_rfl) (fun _ _ _ h => h) (Or.inl ⟨by rfl, ?_⟩) (by assumption) ?_
      rotate_left
      · intro w hSw; (try dsimp only at hSw); go_simp; try with_reducible rfl
      (try simp only [Act.put, List.setIfInBounds_toArray, List.set_cons_zero, List.set_cons_succ])
      refine wpAnyH_take (i := 7) (oi := { dst := some 30, op := Op.binOp BinOp.rem 3 (Operand.tmp 28) (Operand.tmp 29) 3, type := 3, pos := "kit.go:47", after := #[{ on := 5, ground := Ground.data }, { on := 6, ground := Ground.data }], guard := none }) (v := ?_) rfl (by kernel_rfl) (by kernel_rfl) (by kernel_rfl) (fun _ _ _ h => h) (Or.inl ⟨by rfl, ?_⟩) (by assumption) ?_
      rotate_left
      · intro w hSw; (try dsimp only at hSw); go_simp; try with_reducible rfl
      (try simp only [Act.put, List.setIfInBounds_toArray, List.set_cons_zero, List.set_cons_succ])
      refine wpAnyH_take (i := 8) (oi := { dst := some 31, op := Op.move (Operand.tmp 0), type := 22, pos := "kit.go:47", after := #[], guard := none }) (v := ?_) rfl (by kernel_rfl) (by kernel_rfl) (by kernel_rfl) (fun _ _ _ h => h) (Or.inl ⟨by rfl, ?_⟩) (by assumption) ?_
      rotate_left
      · intro w hSw; (try dsimp only at hSw); go_simp; try with_reducible rfl
      (try simp only [Act.put, List.setIfInBounds_toArray, List.set_cons_zero, List.set_cons_succ])
      refine wpAnyH_take (i := 9) (oi := { dst := some 32, op := Op.move (Operand.tmp 9), type := 3, pos := "kit.go:47", after := #[], guard := none }) (v := ?_) rfl (by kernel_rfl) (by kernel_rfl) (by kernel_rfl) (fun _ _ _ h => h) (Or.inl ⟨by rfl, ?_⟩) (by assumption) ?_
      rotate_left
      · intro w hSw; (try dsimp only at hSw); go_simp; try with_reducible rfl
      (try simp only [Act.put, List.setIfInBounds_toArray, List.set_cons_zero, List.set_cons_succ])
      refine wpAnyH_take (i := 10) (oi := { dst := some 33, op := Op.binOp BinOp.add 3 (Operand.tmp 32) (Operand.const (Value.int IntKind.i64 1)) 3, type := 3, pos := "kit.go:47", after := #[{ on := 9, ground := Ground.data }], guard := none }) (v := ?_) rfl (by kernel_rfl) (by kernel_rfl) (by kernel_rfl) (fun _ _ _ h => h) (Or.inl ⟨by rfl, ?_⟩) (by assumption) ?_
      rotate_left
      · intro w hSw; (try dsimp only at hSw); go_simp; try with_reducible rfl
      (try simp only [Act.put, List.setIfInBounds_toArray, List.set_cons_zero, List.set_cons_succ])
      refine wpAnyH_take (i := 11) (oi := { dst := some 34, op := Op.indexAddr 22 (Operand.tmp 31) (Operand.tmp 33), type := 0, pos := "kit.go:47", after := #[{ on := 8, ground := Ground.data }, { on := 10, ground := Ground.data }], guard := none }) (v := ?_) rfl (by kernel_rfl) (by kernel_rfl) (by kernel_rfl) (fun _ _ _ h => h) (Or.inl ⟨by rfl, ?_⟩) (by assumption) ?_
      rotate_left
      · intro w hSw; (try dsimp only at hSw); go_simp; try with_reducible rfl
      (try simp only [Act.put, List.setIfInBounds_toArray, List.set_cons_zero, List.set_cons_succ])
      refine wpAnyH_take (i := 12) (oi := { dst := some 35, op := Op.load 5 (Operand.tmp 34), type := 5, pos := "kit.go:47", after := #[{ on := 11, ground := Ground.data }], guard := none }) (v := ?_) rfl (by kernel_rfl) (by kernel_rfl) (by kernel_rfl) (fun _ _ _ h => h) (Or.inl ⟨by rfl, ?_⟩) (by assumption) ?_
      rotate_left
      · intro w hSw; (try dsimp only at hSw); go_simp; try with_reducible rfl
      (try simp only [Act.put, List.setIfInBounds_toArray, List.set_cons_zero, List.set_cons_succ])
      refine wpAnyH_take (i := 13) (oi := { dst := some 36, op := Op.move (Operand.tmp 0), type := 22, pos := "kit.go:47", after := #[], guard := none }) (v := ?_) rfl (by kernel_rfl) (by kernel_rfl) (by kernel_rfl) (fun _ _ _ h => h) (Or.inl ⟨by rfl, ?_⟩) (by assumption) ?_
      rotate_left
      · intro w hSw; (try dsimp only at hSw); go_simp; try with_reducible rfl
      (try simp only [Act.put, List.setIfInBounds_toArray, List.set_cons_zero, List.set_cons_succ])
      refine wpAnyH_take (i := 14) (oi := { dst := some 37, op := Op.move (Operand.tmp 9), type := 3, pos := "kit.go:47", after := #[], guard := none }) (v := ?_) rfl (by kernel_rfl) (by kernel_rfl) (by kernel_rfl) (fun _ _ _ h => h) (Or.inl ⟨by rfl, ?_⟩) (by assumption) ?_
      rotate_left
      · intro w hSw; (try dsimp only at hSw); go_simp; try with_reducible rfl
      (try simp only [Act.put, List.setIfInBounds_toArray, List.set_cons_zero, List.set_cons_succ])
      refine wpAnyH_take (i := 15) (oi := { dst := some 38, op := Op.binOp BinOp.add 3 (Operand.tmp 37) (Operand.const (Value.int IntKind.i64 2)) 3, type := 3, pos := "kit.go:47", after := #[{ on := 14, ground := Ground.data }], guard := none }) (v := ?_) rfl (by kernel_rfl) (by kernel_rfl) (by kernel_rfl) (fun _ _ _ h => h) (Or.inl ⟨by rfl, ?_⟩) (by assumption) ?_
      rotate_left
      · intro w hSw; (try dsimp only at hSw); go_simp; try with_reducible rfl
      (try simp only [Act.put, List.setIfInBounds_toArray, List.set_cons_zero, List.set_cons_succ])
      refine wpAnyH_take (i := 16) (oi := { dst := some 39, op := Op.indexAddr 22 (Operand.tmp 36) (Operand.tmp 38), type := 0, pos := "kit.go:47", after := #[{ on := 13, ground := Ground.data }, { on := 15, ground := Ground.data }], guard := none }) (v := ?_) rfl (by kernel_rfl) (by kernel_rfl) (by kernel_rfl) (fun _ _ _ h => h) (Or.inl ⟨by rfl, ?_⟩) (by assumption) ?_
      rotate_left
      · intro w hSw; (try dsimp only at hSw); go_simp; try with_reducible rfl
      (try simp only [Act.put, List.setIfInBounds_toArray, List.set_cons_zero, List.set_cons_succ])
      refine wpAnyH_take (i := 17) (oi := { dst := some 40, op := Op.load 5 (Operand.tmp 39), type := 5, pos := "kit.go:47", after := #[{ on := 16, ground := Ground.data }], guard := none }) (v := ?_) rfl (by kernel_rfl) (by kernel_rfl) (by kernel_rfl) (fun _ _ _ h => h) (Or.inl ⟨by rfl, ?_⟩) (by assumption) ?_
      rotate_left
      · intro w hSw; (try dsimp only at hSw); go_simp; try with_reducible rfl
      (try simp only [Act.put, List.setIfInBounds_toArray, List.set_cons_zero, List.set_cons_succ])
      refine wpAnyH_ready (rs := [18, 22]) (by kernel_rfl) (by simp) ?_
      refine AllReadyH.cons rfl (fun K hK => ?_) (AllReadyH.cons rfl (fun K hK => ?_) (AllReadyH.nil))
      · go_simp
        (with_reducible refine (HNx.out _ HBd.out).mono ?_)
        rintro e18 w18 ⟨ev, bo, rfl, b18⟩
        have HB18 := Lib.hid (HBd.out.trans (b18.mono HBd.out.size))
        clear b18
        go_wp2_with fail
        refine hK.out _ _ (SK.out _ HB18.out) (fun hHeld => ?_)
        clear hK K
        (try dsimp only [Act.put]); (try simp only [Act.put, List.setIfInBounds_toArray, List.set_cons_zero, List.set_cons_succ])
        refine wpAnyH_take (i := 19) (oi := { dst := some 22, op := Op.move (Operand.tmp 41), type := _, pos := "kit.go:47", after := #[{ on := 18, ground := Ground.data }], guard := none }) (v := ?_) rfl (by kernel_rfl) (by kernel_rfl) (by kernel_rfl) (fun _ _ _ h => h) (Or.inl ⟨by rfl, ?_⟩) (by assumption) ?_
        rotate_left
        · intro w hSw; (try dsimp only at hSw); go_simp; try with_reducible rfl
        (try simp only [Act.put, List.setIfInBounds_toArray, List.set_cons_zero, List.set_cons_succ])
        refine wpAnyH_take (i := 20) (oi := { dst := some 42, op := Op.extract (Operand.tmp 22) 0, type := 37, pos := "kit.go:47", after := #[{ on := 19, ground := Ground.data }], guard := none }) (v := ?_) rfl (by kernel_rfl) (by kernel_rfl) (by kernel_rfl) (fun _ _ _ h => h) (Or.inl ⟨by rfl, ?_⟩) (by assumption) ?_
        rotate_left
        · intro w hSw; (try dsimp only at hSw); go_simp; try with_reducible rfl
        (try simp only [Act.put, List.setIfInBounds_toArray, List.set_cons_zero, List.set_cons_succ])
        refine wpAnyH_take (i := 21) (oi := { dst := some 43, op := Op.extract (Operand.tmp 22) 1, type := 4, pos := "kit.go:47", after := #[{ on := 19, ground := Ground.data }, { on := 23, ground := Ground.gcOnly Departure.lateStores }], guard := none }) (v := ?_) rfl (by kernel_rfl) (by kernel_rfl) (by kernel_rfl) (fun _ _ _ h => h) (Or.inl ⟨by rfl, ?_⟩) (by assumption) ?_
        rotate_left
        · intro w hSw; (try dsimp only at hSw); go_simp; try with_reducible rfl
        (try simp only [Act.put, List.setIfInBounds_toArray, List.set_cons_zero, List.set_cons_succ])
        refine wpAnyH_ready (rs := [22]) (by kernel_rfl) (by simp) ?_
        refine AllReadyH.cons rfl (fun K hK => ?_) (AllReadyH.nil)
        go_simp
        go_wp2_with fail
        refine hK.out _ _ (SK.out _ (HB18.out.alloc HB18.out.size _)) (fun hHeld => ?_)
        have HB22 := Lib.hid (HB18.out.alloc HB18.out.size (.cells (evC ⟨0, 0, 0, 0, 0, 0, 0, 0⟩) 37))
        have HQ22 := Lib.hid (Blk.new w18 37 (evC ⟨0, 0, 0, 0, 0, 0, 0, 0⟩))
        generalize hW22 : w18.alloc _ = W22 at HB22 HQ22 hHeld ⊢
        obtain ⟨bx, hbx0⟩ : ∃ bx, bx = w18.heap.size := ⟨_, rfl⟩
        have hbx : Wd.heap.size ≤ bx := by rw [hbx0]; exact HB18.out.size
        rw [← hbx0] at HQ22 ⊢
        clear hW22 hbx0
        clear hK K
        (try dsimp only [Act.put]); (try simp only [Act.put, List.setIfInBounds_toArray, List.set_cons_zero, List.set_cons_succ])
        refine wpAnyH_ready (rs := [23]) (by kernel_rfl) (by simp) ?_
        refine AllReadyH.cons rfl (fun K hK => ?_) (AllReadyH.nil)
        refine wp_store_row 37 _ _ rfl bx (evC ev) rfl rfl 37 _ HQ22.out hesz.out rfl (ev_one ev) ?_
        refine hK.out _ _ (SK.out _ (rbelow_row HB22.out hbx _)) (fun hHeld => ?_)
        have HB6 := Lib.hid (rbelow_row HB22.out hbx (evC ev))
        have HQ6 := Lib.hid (HQ22.out.row (evC ev))
        generalize hW6 : World.setRow _ _ _ = w6 at HB6 HQ6 hHeld ⊢
        clear hW6
        clear hK K
        (try dsimp only [Act.put]); (try simp only [Act.put, List.setIfInBounds_toArray, List.set_cons_zero, List.set_cons_succ])
        refine wpAnyH_ready (rs := [24]) (by kernel_rfl) (by simp) ?_
        refine AllReadyH.cons rfl (fun K hK => ?_) (AllReadyH.nil)
        go_simp
        refine hK.out _ _ (by assumption) (fun hHeld => ?_)
        clear hK K
        (try dsimp only [Act.put]); (try simp only [Act.put, List.setIfInBounds_toArray, List.set_cons_zero, List.set_cons_succ])
        refine wpAnyH_done (by kernel_rfl) ?_ _
        clear hHeld HNx SK
        have HS6 := Lib.hid (HSd.out.below HB6.out)
        have hbN : W.heap.size ≤ bx := Nat.le_trans HSd.out.sz.2 hbx
        clear HSd HB6
        cases bo with
        | false =>
          go_wp2_with fail
          go_roundw
          case rel => exact ⟨i + 1, j + 3, l, r, by have := HJ.out; omega, by have := HJ.out; omega, by have := HJ.out; omega, by go_num, HS6.out⟩
          case measure => simp [intOf]; omega
        | true =>
          have hTl : r.T.length ≤ 100000 := by have := HS6.out.len; have := HM.out; omega
          have hTd : r.D.length = r.W.length := by have := HS6.out.len; omega
          have HTk := Lib.hid (rtake_any HS6.out.rs hTl hTd ev)
          clear hTl hTd
          rcases ev with ⟨f0, f1, f2, f3, f4, f5, f6, f7⟩
          have d0 := HQ6.out.cell 0 _ rfl
          have d1 := HQ6.out.cell 1 _ rfl
          have d2 := HQ6.out.cell 2 _ rfl
          have d3 := HQ6.out.cell 3 _ rfl
          have d4 := HQ6.out.cell 4 _ rfl
          have d5 := HQ6.out.cell 5 _ rfl
          have d6 := HQ6.out.cell 6 _ rfl
          have d7 := HQ6.out.cell 7 _ rfl
          go_upto_if 49 with (go_at_call 34; (with_reducible refine (HTk.out).mono ?_); rintro e7 w7 hr7; obtain ⟨bt, rfl, hF, hT⟩ := HS6.out.hand hr7; have HF := Lib.hid hF; have HT := Lib.hid hT; have HQ7 := Lib.hid (HQ6.out.keep hr7.1 (fun hq => by have := (HS6.out.lo _ hq).2; omega)))
          clear d0 d1 d2 d3 d4 d5 d6 d7 HTk hF hT hr7
          cases bt with
          | false =>
            go_wp2_with fail
            go_roundw
            case rel => exact ⟨i + 1, j + 3, l, r, by have := HJ.out; omega, by have := HJ.out; omega, by have := HJ.out; omega, by go_num, HF.out rfl⟩
            case measure => simp [intOf]; omega
          | true =>
            obtain ⟨r1, hrs1, hrun1, hlen1, hrow1, hbl1, hsz1⟩ := HT.out rfl
            have HR7 := Lib.hid hrow1
            have H7 := Lib.hid (And.intro hrs1 (And.intro hrun1 (And.intro hlen1 hbl1)))
            have hll : l.length ≤ 200 := by have := HJ.out; omega
            clear hrow1 hrs1 hrun1 hlen1 hbl1
            go_upto_region 5 with (first
              | (refine wpList_load_row rfl 37 _ rfl bx rfl 37 (evC ⟨f0, f1, f2, f3, f4, f5, f6, f7⟩) (0, 0) _ HQ7.out Try.underlying37 rfl hesz.out ?_)
              | (at_builtin; refine wpList_append_own2 _ rfl _ _ 31 rfl W.heap.size 37 iE _ 8 64 Try.underlying31 hzE hsE hbE hcE rfl (by decide) _ l.length _ rfl (HR7.out.alloc _) ⟨w7.heap.size, 0, none⟩ 1 1 (evL ⟨f0, f1, f2, f3, f4, f5, f6, f7⟩) rfl rfl (fun j u hj => evnew w7 ⟨f0, f1, f2, f3, f4, f5, f6, f7⟩ j u hj) (evone ⟨f0, f1, f2, f3, f4, f5, f6, f7⟩) (by unfold maxLen; omega) (by omega) (by rw [World.size_alloc]; omega) (by omega) ?_; intro g8 cap8 w8 hr8 hg8 ho8))
            have hbg := grown_below hg8 HR7.out hsz1
            have hz8 : w7.heap.size ≤ w8.heap.size := by have := hg8.size; rw [World.size_alloc] at this; omega
            rw [evs_snoc] at hr8
            have H8 := Lib.hid (show WkS w w8 W.heap.size m n p r1 (.slice (some ⟨g8, 0, none⟩) (l.length + 1) cap8) (l ++ [⟨f0, f1, f2, f3, f4, f5, f6, f7⟩]) from ⟨H7.out.1.keep (keep_from hbg hsz1 hz8) (fun b hb e => by have := (HS6.out.lo b hb).2; omega), H7.out.2.1, H7.out.2.2.1, by rw [List.length_append]; exact hr8, HS6.out.lo, H7.out.2.2.2.trans (hbg.mono HS6.out.sz.1), HS6.out.sz.1, Nat.le_trans hsz1 hz8⟩)
            clear hr8 hg8 ho8 hbg
            go_wp2_with fail
            go_roundw
            case rel => exact ⟨i + 1, j + 3, _, r1, by have := HJ.out; omega, by rw [List.length_append]; have := HJ.out; simp only [List.length_cons, List.length_nil]; omega, by have := HJ.out; omega, by go_num, H8.out⟩
            case measure => simp [intOf]; omega
      · go_simp
        go_wp2_with fail
        refine hK.out _ _ (SK.out _ (HBd.out.alloc HBd.out.size _)) (fun hHeld => ?_)
        have HB22 := Lib.hid (HBd.out.alloc HBd.out.size (.cells (evC ⟨0, 0, 0, 0, 0, 0, 0, 0⟩) 37))
        have HQ22 := Lib.hid (Blk.new Wd 37 (evC ⟨0, 0, 0, 0, 0, 0, 0, 0⟩))
        generalize hW22 : Wd.alloc _ = W22 at HB22 HQ22 hHeld ⊢
        obtain ⟨bx, hbx0⟩ : ∃ bx, bx = Wd.heap.size := ⟨_, rfl⟩
        have hbx : Wd.heap.size ≤ bx := by rw [hbx0]; exact HBd.out.size
        rw [← hbx0] at HQ22 ⊢
        clear hW22 hbx0
        clear hK K
        (try dsimp only [Act.put]); (try simp only [Act.put, List.setIfInBounds_toArray, List.set_cons_zero, List.set_cons_succ])
        refine wpAnyH_ready (rs := [18]) (by kernel_rfl) (by simp) ?_
        refine AllReadyH.cons rfl (fun K hK => ?_) (AllReadyH.nil)
        go_simp
        (with_reducible refine (HNx.out _ HB22.out).mono ?_)
        rintro e18 w18 ⟨ev, bo, rfl, b18⟩
        have HB18 := Lib.hid (HB22.out.trans (b18.mono HB22.out.size))
        have HQ18 := Lib.hid (HQ22.out.below b18 HQ22.out.lt)
        clear b18
        go_wp2_with fail
        refine hK.out _ _ (SK.out _ HB18.out) (fun hHeld => ?_)
        clear hK K
        (try dsimp only [Act.put]); (try simp only [Act.put, List.setIfInBounds_toArray, List.set_cons_zero, List.set_cons_succ])
        refine wpAnyH_take (i := 19) (oi := { dst := some 22, op := Op.move (Operand.tmp 41), type := _, pos := "kit.go:47", after := #[{ on := 18, ground := Ground.data }], guard := none }) (v := ?_) rfl (by kernel_rfl) (by kernel_rfl) (by kernel_rfl) (fun _ _ _ h => h) (Or.inl ⟨by rfl, ?_⟩) (by assumption) ?_
        rotate_left
        · intro w hSw; (try dsimp only at hSw); go_simp; try with_reducible rfl
        (try simp only [Act.put, List.setIfInBounds_toArray, List.set_cons_zero, List.set_cons_succ])
        refine wpAnyH_take (i := 20) (oi := { dst := some 42, op := Op.extract (Operand.tmp 22) 0, type := 37, pos := "kit.go:47", after := #[{ on := 19, ground := Ground.data }], guard := none }) (v := ?_) rfl (by kernel_rfl) (by kernel_rfl) (by kernel_rfl) (fun _ _ _ h => h) (Or.inl ⟨by rfl, ?_⟩) (by assumption) ?_
        rotate_left
        · intro w hSw; (try dsimp only at hSw); go_simp; try with_reducible rfl
        (try simp only [Act.put, List.setIfInBounds_toArray, List.set_cons_zero, List.set_cons_succ])
        refine wpAnyH_take (i := 21) (oi := { dst := some 43, op := Op.extract (Operand.tmp 22) 1, type := 4, pos := "kit.go:47", after := #[{ on := 19, ground := Ground.data }, { on := 23, ground := Ground.gcOnly Departure.lateStores }], guard := none }) (v := ?_) rfl (by kernel_rfl) (by kernel_rfl) (by kernel_rfl) (fun _ _ _ h => h) (Or.inl ⟨by rfl, ?_⟩) (by assumption) ?_
        rotate_left
        · intro w hSw; (try dsimp only at hSw); go_simp; try with_reducible rfl
        (try simp only [Act.put, List.setIfInBounds_toArray, List.set_cons_zero, List.set_cons_succ])
        refine wpAnyH_ready (rs := [23]) (by kernel_rfl) (by simp) ?_
        refine AllReadyH.cons rfl (fun K hK => ?_) (AllReadyH.nil)
        refine wp_store_row 37 _ _ rfl bx (evC ev) rfl rfl 37 _ HQ18.out hesz.out rfl (ev_one ev) ?_
        refine hK.out _ _ (SK.out _ (rbelow_row HB18.out hbx _)) (fun hHeld => ?_)
        have HB6 := Lib.hid (rbelow_row HB18.out hbx (evC ev))
        have HQ6 := Lib.hid (HQ18.out.row (evC ev))
        generalize hW6 : World.setRow _ _ _ = w6 at HB6 HQ6 hHeld ⊢
        clear hW6
        clear hK K
        (try dsimp only [Act.put]); (try simp only [Act.put, List.setIfInBounds_toArray, List.set_cons_zero, List.set_cons_succ])
        refine wpAnyH_ready (rs := [24]) (by kernel_rfl) (by simp) ?_
        refine AllReadyH.cons rfl (fun K hK => ?_) (AllReadyH.nil)
        go_simp
        refine hK.out _ _ (by assumption) (fun hHeld => ?_)
        clear hK K
        (try dsimp only [Act.put]); (try simp only [Act.put, List.setIfInBounds_toArray, List.set_cons_zero, List.set_cons_succ])
        refine wpAnyH_done (by kernel_rfl) ?_ _
        clear hHeld HNx SK
        have HS6 := Lib.hid (HSd.out.below HB6.out)
        have hbN : W.heap.size ≤ bx := Nat.le_trans HSd.out.sz.2 hbx
        clear HSd HB6
        cases bo with
        | false =>
          go_wp2_with fail
          go_roundw
          case rel => exact ⟨i + 1, j + 3, l, r, by have := HJ.out; omega, by have := HJ.out; omega, by have := HJ.out; omega, by go_num, HS6.out⟩
          case measure => simp [intOf]; omega
        | true =>
          have hTl : r.T.length ≤ 100000 := by have := HS6.out.len; have := HM.out; omega
          have hTd : r.D.length = r.W.length := by have := HS6.out.len; omega
          have HTk := Lib.hid (rtake_any HS6.out.rs hTl hTd ev)
          clear hTl hTd
          rcases ev with ⟨f0, f1, f2, f3, f4, f5, f6, f7⟩
          have d0 := HQ6.out.cell 0 _ rfl
          have d1 := HQ6.out.cell 1 _ rfl
          have d2 := HQ6.out.cell 2 _ rfl
          have d3 := HQ6.out.cell 3 _ rfl
          have d4 := HQ6.out.cell 4 _ rfl
          have d5 := HQ6.out.cell 5 _ rfl
          have d6 := HQ6.out.cell 6 _ rfl
          have d7 := HQ6.out.cell 7 _ rfl
          go_upto_if 49 with (go_at_call 34; (with_reducible refine (HTk.out).mono ?_); rintro e7 w7 hr7; obtain ⟨bt, rfl, hF, hT⟩ := HS6.out.hand hr7; have HF := Lib.hid hF; have HT := Lib.hid hT; have HQ7 := Lib.hid (HQ6.out.keep hr7.1 (fun hq => by have := (HS6.out.lo _ hq).2; omega)))
          clear d0 d1 d2 d3 d4 d5 d6 d7 HTk hF hT hr7
          cases bt with
          | false =>
            go_wp2_with fail
            go_roundw
            case rel => exact ⟨i + 1, j + 3, l, r, by have := HJ.out; omega, by have := HJ.out; omega, by have := HJ.out; omega, by go_num, HF.out rfl⟩
            case measure => simp [intOf]; omega
          | true =>
            obtain ⟨r1, hrs1, hrun1, hlen1, hrow1, hbl1, hsz1⟩ := HT.out rfl
            have HR7 := Lib.hid hrow1
            have H7 := Lib.hid (And.intro hrs1 (And.intro hrun1 (And.intro hlen1 hbl1)))
            have hll : l.length ≤ 200 := by have := HJ.out; omega
            clear hrow1 hrs1 hrun1 hlen1 hbl1
            go_upto_region 5 with (first
              | (refine wpList_load_row rfl 37 _ rfl bx rfl 37 (evC ⟨f0, f1, f2, f3, f4, f5, f6, f7⟩) (0, 0) _ HQ7.out Try.underlying37 rfl hesz.out ?_)
              | (at_builtin; refine wpList_append_own2 _ rfl _ _ 31 rfl W.heap.size 37 iE _ 8 64 Try.underlying31 hzE hsE hbE hcE rfl (by decide) _ l.length _ rfl (HR7.out.alloc _) ⟨w7.heap.size, 0, none⟩ 1 1 (evL ⟨f0, f1, f2, f3, f4, f5, f6, f7⟩) rfl rfl (fun j u hj => evnew w7 ⟨f0, f1, f2, f3, f4, f5, f6, f7⟩ j u hj) (evone ⟨f0, f1, f2, f3, f4, f5, f6, f7⟩) (by unfold maxLen; omega) (by omega) (by rw [World.size_alloc]; omega) (by omega) ?_; intro g8 cap8 w8 hr8 hg8 ho8))
            have hbg := grown_below hg8 HR7.out hsz1
            have hz8 : w7.heap.size ≤ w8.heap.size := by have := hg8.size; rw [World.size_alloc] at this; omega
            rw [evs_snoc] at hr8
            have H8 := Lib.hid (show WkS w w8 W.heap.size m n p r1 (.slice (some ⟨g8, 0, none⟩) (l.length + 1) cap8) (l ++ [⟨f0, f1, f2, f3, f4, f5, f6, f7⟩]) from ⟨H7.out.1.keep (keep_from hbg hsz1 hz8) (fun b hb e => by have := (HS6.out.lo b hb).2; omega), H7.out.2.1, H7.out.2.2.1, by rw [List.length_append]; exact hr8, HS6.out.lo, H7.out.2.2.2.trans (hbg.mono HS6.out.sz.1), HS6.out.sz.1, Nat.le_trans hsz1 hz8⟩)
            clear hr8 hg8 ho8 hbg
            go_wp2_with fail
            go_roundw
            case rel => exact ⟨i + 1, j + 3, _, r1, by have := HJ.out; omega, by rw [List.length_append]; have := HJ.out; simp only [List.length_cons, List.length_nil]; omega, by have := HJ.out; omega, by go_num, H8.out⟩
            case measure => simp [intOf]; omega
      -- END 6
    · have hltI : ¬ (j : Int) + 2 < (k : Int) := by omega
      go_wp2_with fail
      go_ret
      exact ⟨_, l, r, rfl, wrow_lower HS.out.row HS.out.sz.1, by have := HJ.out; omega, HS.out.run, HS.out.bw⟩
end Go.Proofs.Ytcgljmeppmdihaa
