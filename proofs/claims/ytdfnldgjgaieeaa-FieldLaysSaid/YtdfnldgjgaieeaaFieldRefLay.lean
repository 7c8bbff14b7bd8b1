/- The contract of the document's own Lay (doorkeeperref01): for every widths (4096 at most) where each field begins, or that there are none. -/
import Derived.Test.YtdfnldgjgaieeaaFieldG
import Derived.WalkLawsBesides
namespace Go.Proofs.Ytdfnldgjgaieeaa
open Go.ChangeShapes Go.WideShapes Go.ChangeAt Go.RowKit Go.Shelf
set_option linter.unusedVariables false
/-- where the fields begin -/
def posF (ks : List Nat) : List Int := (rowF 0 ks).map Prod.fst
theorem posF_length (ks : List Nat) : (posF ks).length = ks.length := by simp [posF, rowF_length]
theorem rowF_snoc (ks : List Nat) (k a : Nat) : rowF a (ks ++ [k]) = rowF a ks ++ [(((a + ks.sum : Nat) : Int), (k : Int))] := by
  induction ks generalizing a with
  | nil => simp [rowF]
  | cons j ks ih => simp [rowF, ih, Nat.add_assoc]
theorem posF_snoc (ks : List Nat) (k : Nat) : posF (ks ++ [k]) = posF ks ++ [((ks.sum : Nat) : Int)] := by simp [posF, rowF_snoc]
theorem posF_get (ks : List Nat) (i : Nat) (h : i < ks.length) : (posF ks).getD i 0 = ((atF ks i : Nat) : Int) := by
  have := rowF_get ks 0 i h
  simp only [Nat.zero_add] at this
  simp only [List.getD_eq_getElem?_getD] at *
  simp only [posF, List.getElem?_map]
  have hl : i < (rowF 0 ks).length := by rw [rowF_length]; exact h
  simp [hl] at *
  rw [this]
theorem endW_row (ks : List Nat) (a : Nat) (h : a + ks.sum ≤ 64) : endW (a : Int) (toI ks) = ((a + ks.sum : Nat) : Int) := by
  induction ks generalizing a with
  | nil => simp [endW, toI]
  | cons k ks ih =>
    have hs : (k :: ks).sum = k + ks.sum := by simp
    have e : wrap64 ((a : Int) + (k : Int)) = ((a + k : Nat) : Int) := by
      rw [← Int.natCast_add]; exact wrap64_small _ (by omega)
    show endW (wrap64 ((a : Int) + (k : Int))) (toI ks) = _
    rw [e, ih (a + k) (by omega), hs, Nat.add_assoc]
/-- valid widths -/
structure Valid (ks : List Nat) : Prop where
  pos : ∀ k ∈ ks, 1 ≤ k
  sum : ks.sum ≤ 64
theorem bad_prefix (zs : List Int) (ks : List Nat) (z : Int) (k : Nat) (h : zs.take (k + 1) = toI ks ++ [z]) (hv : Valid ks) (hz : z < 1 ∨ 64 - (ks.sum : Int) < z) : (laidW 0 zs).all mayP = false := by
  have h1 := prefix_laid zs (k + 1)
  refine all_prefix h1 ?_
  rw [h, laidW_snoc, all_snoc]
  have e : endW 0 (toI ks) = ((ks.sum : Nat) : Int) := by
    have := endW_row ks 0 (by have := hv.sum; omega)
    simpa using this
  have e2 : mayP (endW 0 (toI ks), z) = false := by
    have e3 : wrap64 (64 - (ks.sum : Int)) = 64 - (ks.sum : Int) := IntWalk.wrap64_in _ ⟨by have := hv.sum; omega, by omega⟩
    rw [e]
    simp only [mayP, mayW, e3, Bool.and_eq_false_imp, Bool.and_eq_true, decide_eq_true_eq, decide_eq_false_iff_not]
    omega
  rw [e2]; simp
def RefPost (w : World) (zs : List Int) (e : Ending) (w' : World) : Prop :=
  Below w.heap.size w w' ∧ ((∃ ks u, zs = toI ks ∧ Valid ks ∧ e = .returned (.tuple #[u, .bool true]) ∧ u.oneCell' = true ∧ w'.ownsRow w.heap.size 3 1 u ks.length ((posF ks).map (Value.int .i64))) ∨
    ((laidW 0 zs).all mayP = false ∧ e = .returned (.tuple #[.slice none 0 0, .bool false])))
theorem vint' {k : IntKind} {a b : Int} (h : a = b) : Value.int k a = Value.int k b := by rw [h]
set_option maxRecDepth 100000 in
set_option maxHeartbeats 2000000 in
theorem refLay_any (v : Value) (zs : List Int) (hlen : zs.length ≤ 4096) (w : World) (hL : IntsAt w w.heap.size v zs) :
    Calls Try.prog 19 #[v] w (RefPost w zs) := by
  obtain ⟨i0, hi, hz0, hz1, hz2⟩ := info_parts infoInt
  obtain ⟨a, c, rfl, hcs⟩ := hL
  have HC := Lib.hid hcs
  clear hcs
  go_enter Try.func19, Try.ntmps19
  go_wp2_with fail
  go_loopw [4, 5, 6] (fun v at' i wr => ∃ ks : List Nat, Valid ks ∧ i = .int .i64 (ks.length : Int) ∧ ks.length ≤ zs.length ∧ zs.take ks.length = toI ks ∧ at' = .int .i64 ((ks.sum : Nat) : Int) ∧ wr.ownsRow w.heap.size 3 1 v ks.length ((posF ks).map (Value.int .i64)) ∧ Below w.heap.size w wr)
    (fun _ _ i _ => zs.length - (intOf i).toNat)
  case atStart => exact ⟨[], ⟨by simp, by simp⟩, rfl, by simp, by simp [toI], rfl, World.ownsRow_nil _ _ _ _, Below.refl _ _⟩
  case round =>
    obtain ⟨ks, hV, rfl, hk, hpre, rfl, hrow, hB⟩ := hrel
    have hs := hV.sum
    have hh := hB.size
    have HP := Lib.hid hpre
    clear hpre
    by_cases hlt : ks.length < zs.length
    · obtain ⟨b, off, rfl, hb, hc⟩ := HC.out ks.length hlt
      replace hc := (hB.cell (p := ⟨b, off + ks.length, none⟩) hb).trans hc
      have hts := take_snoc_int zs ks.length hlt
      rw [HP.out] at hts
      generalize zs.getD ks.length 0 = z at *
      have HT := Lib.hid hts
      clear hts HC
      by_cases h1 : z < 1
      · go_wp2_with fail
        go_ret2
        exact ⟨hB, .inr ⟨bad_prefix zs ks z _ HT.out hV (.inl h1), rfl⟩⟩
      · by_cases h2 : 64 - (ks.sum : Int) < z
        · go_wp2_with fail
          go_ret2
          exact ⟨hB, .inr ⟨bad_prefix zs ks z _ HT.out hV (.inr h2), rfl⟩⟩
        · go_wp2_with (at_builtin; refine wpList_append_own _ rfl _ _ 40 rfl w.heap.size 3 i0 (.int .i64 0) 1 8 Try.underlying40 hi hz0 hz1 hz2 rfl (by decide) _ _ _ rfl (hrow.alloc _) ⟨wr.heap.size, 0, none⟩ 1 1 [.int .i64 ((ks.sum : Nat) : Int)] rfl rfl (cell_one_new _ _ _) (by simp [Value.oneCell']) (by unfold maxLen; omega) (by omega) (by simp; omega) ?_; intro v' w2 hown' hgrow _; have hgb := grown_below hgrow hrow hh; have hc2 : w2.cell? ⟨b, off + ks.length, none⟩ = some (.int .i64 z) := (hgb.cell (p := ⟨b, off + ks.length, none⟩) hb).trans hc)
          obtain ⟨n, rfl⟩ := Int.eq_ofNat_of_zero_le (show 0 ≤ z by omega)
          go_roundw
          case rel => exact ⟨ks ++ [n], ⟨by intro k hk; rcases List.mem_append.1 hk with h | h; exact hV.pos k h; simp at h; omega, by simp; omega⟩, vint' (by simp), by simp; omega, by rw [toI_snoc, ← HT.out]; simp, vint' (by simp), by rw [posF_snoc]; simpa using hown', hB.trans hgb⟩
          case measure => simp [intOf]; omega
    · have he : ks.length = zs.length := by omega
      have hz : zs = toI ks := by rw [← HP.out, he, List.take_length]
      have hrow2 := row_oneCell hrow
      have HZ := Lib.hid hz
      clear hz he HP HC
      go_wp2_with fail
      go_ret2
      exact ⟨hB, .inl ⟨ks, _, HZ.out, hV, rfl, hrow2, hrow⟩⟩
end Go.Proofs.Ytdfnldgjgaieeaa
