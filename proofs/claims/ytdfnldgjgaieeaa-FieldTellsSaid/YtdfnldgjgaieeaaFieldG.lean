/- Widths that make 64 bits at most: the fields in a row, and what the slice of them reads as. -/
import Derived.Test.YtdfnldgjgaieeaaFieldF
namespace Go.Proofs.Ytdfnldgjgaieeaa
open Go.ChangeShapes Go.WideShapes Go.ChangeAt Go.RowKit Go.Shelf
set_option linter.unusedVariables false
/-- widths as integers -/
def toI (ks : List Nat) : List Int := ks.map fun (k : Nat) => (k : Int)
theorem toI_length (ks : List Nat) : (toI ks).length = ks.length := by simp [toI]
theorem toI_snoc (ks : List Nat) (k : Nat) : toI (ks ++ [k]) = toI ks ++ [(k : Int)] := by simp [toI]
/-- where field i begins -/
def atF (ks : List Nat) (i : Nat) : Nat := (ks.take i).sum
/-- the fields in a row -/
def rowF (a : Nat) : List Nat → List (Int × Int)
  | [] => []
  | k :: ks => ((a : Int), (k : Int)) :: rowF (a + k) ks
theorem wrap64_small (n : Nat) (h : n ≤ 64) : wrap64 (n : Int) = (n : Int) := IntWalk.wrap64_in _ ⟨by omega, by omega⟩
theorem laidW_row (ks : List Nat) (a : Nat) (h : a + ks.sum ≤ 64) : laidW (a : Int) (toI ks) = rowF a ks := by
  induction ks generalizing a with
  | nil => rfl
  | cons k ks ih =>
    have hs : (k :: ks).sum = k + ks.sum := by simp
    have e : wrap64 ((a : Int) + (k : Int)) = ((a + k : Nat) : Int) := by
      rw [← Int.natCast_add]; exact wrap64_small _ (by omega)
    show (_, _) :: laidW (wrap64 ((a : Int) + (k : Int))) (toI ks) = _
    rw [e, ih (a + k) (by omega)]
    rfl
theorem mayP_small (a k : Nat) (h1 : 1 ≤ k) (h2 : a + k ≤ 64) : mayP ((a : Int), (k : Int)) = true := by
  have e : wrap64 (64 - (a : Int)) = 64 - (a : Int) := IntWalk.wrap64_in _ ⟨by omega, by omega⟩
  simp only [mayP, mayW, e, Bool.and_eq_true, decide_eq_true_eq]
  omega
theorem rowF_may (ks : List Nat) (a : Nat) (h : a + ks.sum ≤ 64) (hk : ∀ k ∈ ks, 1 ≤ k) : (rowF a ks).all mayP = true := by
  induction ks generalizing a with
  | nil => rfl
  | cons k ks ih =>
    have hs : (k :: ks).sum = k + ks.sum := by simp
    simp only [rowF, List.all_cons, Bool.and_eq_true]
    exact ⟨mayP_small a k (hk k (by simp)) (by omega), ih (a + k) (by omega) (fun j hj => hk j (by simp [hj]))⟩
theorem rowF_length (ks : List Nat) (a : Nat) : (rowF a ks).length = ks.length := by
  induction ks generalizing a with
  | nil => rfl
  | cons k ks ih => simp [rowF, ih]
theorem rowF_get (ks : List Nat) (a i : Nat) (h : i < ks.length) : (rowF a ks).getD i (0, 0) = (((a + atF ks i : Nat) : Int), ((ks.getD i 0 : Nat) : Int)) := by
  induction ks generalizing a i with
  | nil => simp at h
  | cons k ks ih =>
    cases i with
    | zero => simp [rowF, atF]
    | succ i =>
      have := ih (a + k) i (by simpa using h)
      simp only [rowF, List.getD_cons_succ] at *
      rw [this]
      simp [atF, Nat.add_assoc]
theorem atF_succ (ks : List Nat) (i : Nat) (h : i < ks.length) : atF ks (i + 1) = atF ks i + ks.getD i 0 := by
  have e : ks.getD i 0 = ks[i] := by simp [List.getD_eq_getElem?_getD, h]
  unfold atF
  rw [List.take_succ_eq_append_getElem h, List.sum_append, e]
  simp
theorem atF_all (ks : List Nat) : atF ks ks.length = ks.sum := by simp [atF]
theorem atF_mono (ks : List Nat) (i j : Nat) (h : i ≤ j) (hj : j ≤ ks.length) : atF ks i ≤ atF ks j := by
  induction j with
  | zero => have : i = 0 := by omega
            subst this; exact Nat.le_refl _
  | succ j ih =>
    by_cases e : i = j + 1
    · subst e; exact Nat.le_refl _
    · have := ih (by omega) (by omega)
      rw [atF_succ ks j (by omega)]; omega
theorem atF_le (ks : List Nat) (i : Nat) (h : i ≤ ks.length) : atF ks i ≤ ks.sum := by
  rw [← atF_all]; exact atF_mono ks i _ h (Nat.le_refl _)
/-- the slice of the fields that Lay returned -/
structure FRow (w : World) (lo b : Nat) (u : Value) (ks : List Nat) : Prop where
  val : ∃ a c, u = .slice a ks.length c ∧ (0 < ks.length → a = some ⟨b, 0, none⟩)
  lo : 0 < ks.length → lo ≤ b ∧ b < w.heap.size
  cell : ∀ i, i < ks.length → w.cell? ⟨b, i * 2, none⟩ = some (.int .i64 ((atF ks i : Nat) : Int)) ∧ w.cell? ⟨b, i * 2 + 1, none⟩ = some (.int .i64 ((ks.getD i 0 : Nat) : Int))
theorem fRow_of (w : World) (lo : Nat) (u : Value) (ks : List Nat) (h : FieldsAt w lo u (rowF 0 ks)) : ∃ b, FRow w lo b u ks := by
  obtain ⟨a, c, e, hc⟩ := h
  rw [rowF_length] at e hc
  by_cases h0 : 0 < ks.length
  · obtain ⟨b, e1, e2, e3, _, _⟩ := hc 0 h0
    refine ⟨b, ⟨a, c, e, fun _ => e1⟩, fun _ => ⟨e2, e3⟩, fun i hi => ?_⟩
    obtain ⟨b', f1, f2, f3, f4, f5⟩ := hc i hi
    rw [e1] at f1
    cases f1
    rw [rowF_get ks 0 i hi] at f4 f5
    simp only [Nat.zero_add] at f4 f5
    exact ⟨f4, f5⟩
  · exact ⟨0, ⟨a, c, e, fun h => absurd h h0⟩, fun h => absurd h h0, fun i hi => by omega⟩
theorem FRow.below {w w' : World} {lo b : Nat} {u : Value} {ks : List Nat} (h : FRow w lo b u ks) (hb : Below w.heap.size w w') : FRow w' lo b u ks :=
  ⟨h.val, fun h0 => ⟨(h.lo h0).1, Nat.lt_of_lt_of_le (h.lo h0).2 hb.size⟩, fun i hi =>
    have hl := (h.lo (by omega)).2
    ⟨(hb.cell (p := ⟨b, i * 2, none⟩) hl).trans (h.cell i hi).1, (hb.cell (p := ⟨b, i * 2 + 1, none⟩) hl).trans (h.cell i hi).2⟩⟩
theorem FRow.drew {w : World} {lo b : Nat} {u : Value} {ks : List Nat} (h : FRow w lo b u ks) : FRow w.drew lo b u ks := ⟨h.val, h.lo, h.cell⟩
/-- a slice of numbers that the call made itself reads as these numbers -/
theorem intsAt_of_row {w : World} {lo : Nat} {v : Value} {zs : List Int} (h : w.ownsRow lo 3 1 v zs.length (zs.map (Value.int .i64))) : IntsAt w w.heap.size v zs := by
  obtain ⟨h0, ⟨rfl, hn⟩ | ⟨g, cap, cur, rfl, h2, h3, h4, h5, h6, h7⟩⟩ := h
  · exact ⟨none, 0, by rw [hn], fun i hi => by omega⟩
  · refine ⟨_, cap, rfl, fun i hi => ⟨g, 0, rfl, (Array.getElem?_eq_some_iff.1 h3).1, ?_⟩⟩
    have e : (zs.map (Value.int .i64))[i]? = some (.int .i64 (zs.getD i 0)) := by simp [List.getD_eq_getElem?_getD, hi]
    rw [← h7, List.getElem?_take, if_pos (by omega)] at e
    simpa [World.cell?, h3] using e
theorem row_oneCell {w : World} {lo : Nat} {e : TypeId} {n k : Nat} {v : Value} {xs : List Value} (h : w.ownsRow lo e n v k xs) : v.oneCell' = true := by
  obtain ⟨_, ⟨rfl, _⟩ | ⟨g, cap, cur, rfl, _⟩⟩ := h <;> rfl
theorem infoInt : (Try.prog.info? 3).map (fun i => (i.zero, i.size, i.bytes)) = some (some (.int .i64 0), 1, 8) := by kernel_rfl
/-- numbers that came in: those below len lie in memory, in blocks that were there -/
def NumsIn (k : IntKind) (w : World) (a : Option Addr) (len : Nat) (zs : List Int) : Prop :=
  ∀ i, i < len → ∃ b off, a = some ⟨b, off, none⟩ ∧ b < w.heap.size ∧ w.cell? ⟨b, off + i, none⟩ = some (.int k (zs.getD i 0)) ∧ (Lit.int k (zs.getD i 0)).wf = true
theorem cell_lt {w : World} {b o : Nat} {v : Value} (h : w.cell? ⟨b, o, none⟩ = some v) : b < w.heap.size := by
  by_cases hb : b < w.heap.size
  · exact hb
  · have : w.heap[b]? = none := by simp; omega
    simp [World.cell?, this] at h
theorem numsIn_of {k : IntKind} {w : World} {a : Option Addr} {len cap : Nat} {zs : List Int}
    (h : (a = none ∧ len = 0 ∧ cap = 0 ∧ zs = []) ∨ ∃ x, a = some x ∧ len ≤ cap ∧ cap ≤ maxLen ∧ zs.length = cap ∧ (∀ i, i < zs.length → w.cell? (x.add i) = some (.int k (zs.getD i 0))) ∧ ∀ n ∈ zs, (Lit.int k n).wf = true) :
    NumsIn k w a len zs ∧ len ≤ 9223372036854775807 := by
  rcases h with ⟨rfl, rfl, rfl, rfl⟩ | ⟨x, rfl, hl, hm, hz, hc, hw⟩
  · exact ⟨fun i hi => by omega, by decide⟩
  · refine ⟨fun i hi => ?_, by unfold maxLen at hm; omega⟩
    obtain ⟨b, off, rfl, hc2⟩ := ints_at hc (by omega)
    have h1 := hc2 i (by omega)
    refine ⟨b, off, rfl, cell_lt h1, h1, ?_⟩
    have e : zs.getD i 0 = zs[i] := by simp [List.getD_eq_getElem?_getD, (by omega : i < zs.length)]
    rw [e]
    exact hw _ (List.getElem_mem (by omega))
theorem wf_u8 {z : Int} (h : (Lit.int .u8 z).wf = true) : 0 ≤ z ∧ z ≤ 255 := by
  simpa [Lit.wf, IntKind.min, IntKind.max, IntKind.signed, IntKind.bits] using h
theorem wf_u64 {z : Int} (h : (Lit.int .u64 z).wf = true) : 0 ≤ z ∧ z ≤ 18446744073709551615 := by
  simpa [Lit.wf, IntKind.min, IntKind.max, IntKind.signed, IntKind.bits] using h
/-- widths that the law's first loop has made: in a slice of its own, from block lo on -/
structure Made (w0 : World) (lo : Nat) (ks : List Nat) (v : Value) (w : World) : Prop where
  pos : ∀ k ∈ ks, 1 ≤ k
  sum : ks.sum ≤ 64
  row : w.ownsRow lo 3 1 v ks.length ((toI ks).map (Value.int .i64))
  base : Below w0.heap.size w0 w
  hlo : w0.heap.size ≤ lo
  hhi : lo ≤ w.heap.size
theorem sum_ge (ks : List Nat) (h : ∀ k ∈ ks, 1 ≤ k) : ks.length ≤ ks.sum := by
  induction ks with
  | nil => simp
  | cons k ks ih =>
    have h1 := h k (by simp)
    have h2 := ih (fun j hj => h j (by simp [hj]))
    simp only [List.length_cons, List.sum_cons]; omega
/-- what an append to a slice of the call's own leaves as it was -/
theorem grown_below {w w2 : World} {base : Nat} {e : TypeId} {n k : Nat} {v : Value} {xs : List Value} {o : Obj} (hg : (w.alloc o).grownBy w2 v.ownBlock) (hrow : w.ownsRow base e n v k xs) (hh : base ≤ w.heap.size) : Below base w w2 := by
  refine ((Below.refl base w).alloc hh o).grown hg (by simp; omega) fun j ej => ?_
  rcases hrow.2 with ⟨rfl, _⟩ | ⟨g, cap, cur, rfl, hb, _⟩
  · simp [Value.ownBlock] at ej
  · simp [Value.ownBlock] at ej
    omega
theorem Made.step {w0 w w2 : World} {lo : Nat} {ks : List Nat} {v v' : Value} (M : Made w0 lo ks v w) (n : Nat) (h1 : 1 ≤ n) (h2 : n + ks.sum ≤ 64) (o : Obj)
    (hrow : w2.ownsRow lo 3 1 v' (ks.length + 1) ((toI ks).map (Value.int .i64) ++ [.int .i64 (n : Int)])) (hg : (w.alloc o).grownBy w2 v.ownBlock) : Made w0 lo (ks ++ [n]) v' w2 := by
  refine ⟨?_, by simp; omega, by rw [toI_snoc]; simpa using hrow, ?_, M.hlo, ?_⟩
  · intro k hk
    rcases List.mem_append.1 hk with h | h
    · exact M.pos k h
    · simp at h; omega
  · refine (M.base.alloc M.base.size o).grown hg (by have := M.base.size; simp; omega) fun k e => ?_
    rcases M.row.2 with ⟨rfl, _⟩ | ⟨g, cap, cur, rfl, hb, _⟩
    · simp [Value.ownBlock] at e
    · simp [Value.ownBlock] at e
      have := M.hlo; omega
  · have := hg.size
    have := M.hhi
    simp at *; omega
end Go.Proofs.Ytdfnldgjgaieeaa
