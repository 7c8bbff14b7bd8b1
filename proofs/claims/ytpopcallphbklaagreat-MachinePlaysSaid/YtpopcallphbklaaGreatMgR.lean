/- The document's own tasks (doorkeeperref06): on, New, Done, Parked. -/
import Derived.Test.YtpopcallphbklaaGreatProg
import Derived.Test.YtpopcallphbklaaGreatTaskSpec
import Derived.StillTailTactics
import Derived.Deep.CutBlock
import Derived.Deep.RegionHeld3
import Derived.BigGuardPart
import Derived.WalkSpells
import Derived.OwnWalk
import Derived.Lib.Hide
import Derived.Test.YtpopcallphbklaaGreatRowsOwn
import Derived.Test.YtpopcallphbklaaGreatCellsA
import Derived.Test.YtpopcallphbklaaGreatMacC
namespace Go.Proofs.YtpopcallphbklaaGreat
open Go.ChangeShapes Go.WideShapes Go.ChangeAt Go.RowKit
set_option linter.unusedVariables false
set_option maxRecDepth 100000
set_option linter.unusedSimpArgs false
/-- a slice of items, in block I -/
structure ItemsAt (w : World) (I : Nat) (v : Value) (l : List Itm) : Prop where
  is : ∃ a cap, v = .slice a l.length cap ∧ (0 < l.length → a = some ⟨I, 0, none⟩)
  cell : ∀ (i : Nat) (x : Itm), l[i]? = some x → w.cell? ⟨I, i * 4, none⟩ = some (.int .i64 x.kind) ∧ w.cell? ⟨I, i * 4 + 1, none⟩ = some (.int .i64 x.at') ∧ w.cell? ⟨I, i * 4 + 2, none⟩ = some (.int .u64 x.a) ∧ w.cell? ⟨I, i * 4 + 3, none⟩ = some (.int .u64 x.b)
  ok : ∀ x ∈ l, x.ok
  few : l.length ≤ 30
theorem cell_keep {w w1 : World} {Q : Nat → Prop} {p : Addr} {v : Value} (h : w.cell? p = some v) (hk : Keep Q w w1) (hn : ¬ Q p.block) : w1.cell? p = some v := by
  have hb : p.block < w.heap.size := by
    unfold World.cell? at h
    cases hb : w.heap[p.block]? with
    | none => rw [hb] at h; cases h
    | some y => exact (Array.getElem?_eq_some_iff.1 hb).1
  unfold World.cell? at h ⊢
  rw [hk.block p.block hb hn]
  exact h
theorem ItemsAt.keep {w w1 : World} {I : Nat} {v : Value} {l : List Itm} {Q : Nat → Prop} (h : ItemsAt w I v l) (hk : Keep Q w w1) (hn : ¬ Q I) : ItemsAt w1 I v l :=
  ⟨h.is, fun i x hx => ⟨cell_keep (h.cell i x hx).1 hk hn, cell_keep (h.cell i x hx).2.1 hk hn, cell_keep (h.cell i x hx).2.2.1 hk hn, cell_keep (h.cell i x hx).2.2.2 hk hn⟩, h.ok, h.few⟩
/-- a task of the document's: its items, what is left, its value -/
structure RTask (w : World) (T I : Nat) (l r : List Itm) (x : Int) : Prop where
  own : ∃ v, Blk w T 127 #[v, .int .i64 ((l.length - r.length : Nat) : Int), .int .i64 x] ∧ ItemsAt w I v l
  rest : r <:+ l
  ne : T ≠ I
theorem RTask.keep {w w1 : World} {T I : Nat} {l r : List Itm} {x : Int} {Q : Nat → Prop} (h : RTask w T I l r x) (hk : Keep Q w w1) (h1 : ¬ Q T) (h2 : ¬ Q I) : RTask w1 T I l r x := by
  obtain ⟨v, hb, hi⟩ := h.own
  exact ⟨⟨v, hb.keep hk h1, hi.keep hk h2⟩, h.rest, h.ne⟩
abbrev ptrV (T : Nat) : Value := .pointer (some ⟨T, 0, none⟩)
theorem suffix_at {l r : List Itm} {y : Itm} (h : y :: r <:+ l) : l[l.length - (y :: r).length]? = some y ∧ l.length - (y :: r).length < l.length ∧ l.length - r.length = l.length - (y :: r).length + 1 := by
  obtain ⟨p, rfl⟩ := h
  simp
  omega
theorem on_any (T I : Nat) (l r : List Itm) (x : Int) (w : World) (h : RTask w T I l r x) :
    Calls Tryz.prog 63 #[ptrV T] w fun e w' => e = .returned (.tuple #[]) ∧ RTask w' T I l (onS r x).1 (onS r x).2 ∧ Keep (fun k => k = T) w w' := by
  have H0 := Lib.hid h
  clear h
  go_enter Tryz.func63, Tryz.ntmps63
  go_wp2
  go_loopw [25] (fun _ wr => ∃ (r' : List Itm) (x' : Int), onS r' x' = onS r x ∧ r'.length ≤ r.length ∧ RTask wr T I l r' x' ∧ Keep (fun k => k = T) w wr) (fun _ wr => match wr.cell? ⟨T, 1, none⟩ with | some (.int _ z) => l.length - z.toNat | _ => 0)
  case atStart => exact ⟨r, x, rfl, Nat.le_refl _, H0.out, Keep.refl _ _⟩
  case round =>
    obtain ⟨r', x', he, hle, hR, hK⟩ := hrel
    obtain ⟨v, hB, hI⟩ := hR.own
    obtain ⟨a, cap, rfl, hs⟩ := hI.is
    have c0 := hB.cell 0 _ rfl
    have c1 := hB.cell 1 _ rfl
    dsimp only [List.getElem_toArray, List.getElem_cons_zero, List.getElem_cons_succ] at c0 c1
    have hle2 := hR.rest.length_le
    have hfew := hI.few
    cases r' with
    | nil =>
      have HE := Lib.hid he
      have HR := Lib.hid hR
      clear he hI hB hs hR
      simp only [List.length_nil, Nat.sub_zero] at c1
      generalize l.length = n at *
      go_upto_region 0 with fail
      go_quiet (fail)
      go_wp2
      go_end0
      have he := HE.out
      rw [onS_nil] at he
      rw [← he]
      exact ⟨rfl, HR.out.keep (Q := fun _ => False) ((Keep.refl _ _).drewN _) (fun h => h) (fun h => h), hK.drewN _⟩
    | cons y rr =>
      obtain ⟨e1, e2, e3⟩ := suffix_at hR.rest
      obtain rfl := hs (by omega)
      obtain ⟨q0, q1, q2, q3⟩ := hI.cell _ _ e1
      have hy := hI.ok y (List.mem_of_getElem? e1)
      have hcv : y.kind = 7 → IntKind.i64.wrap y.a = y.a := fun h => by have := hy.a; have := hy.ready h; rw [IntKind.wrap_i64]; omega
      have hR7 : ∀ W, Keep (fun _ => False) wr W → RTask ((W.setCell ⟨T, 2, none⟩ (.int .i64 y.a)).setCell ⟨T, 1, none⟩ (.int .i64 ((l.length - (y :: rr).length + 1 : Nat) : Int))) T I l rr y.a := fun W hW => by
        have hb := (((hB.keep hW (fun h => h)).set 2 (.int .i64 y.a)).set 1 (.int .i64 ((l.length - (y :: rr).length + 1 : Nat) : Int)))
        refine ⟨⟨_, ?_, (hI.keep hW (fun h => h)).keep (Q := fun k => k = T) ((((Keep.refl (fun k => k = T) W).set (p := ⟨T, 2, none⟩) (fun _ => rfl) _)).set (p := ⟨T, 1, none⟩) (fun _ => rfl) _) (Ne.symm hR.ne)⟩, (List.suffix_cons y rr).trans hR.rest, hR.ne⟩
        rw [e3]
        exact hb
      have HR := Lib.hid hR
      have HE := Lib.hid he
      have C1 := Lib.hid c1
      have HS := Lib.hid hR7
      have HB := Lib.hid hB
      clear hI hR hB hs he hR7 e1 e3 q1 q3 hy
      generalize l.length = n at *
      generalize n - (y :: rr).length = i at *
      obtain ⟨yk, ya, yv, yb⟩ := y
      dsimp only at *
      by_cases h7 : yk = 7
      · subst h7
        replace hcv := hcv rfl
        go_upto_region 0 with fail
        go_quiet (fail)
        go_wp2
        have kW : Keep (fun _ => False) wr (wr.drewN nq).drew := ((Keep.refl _ _).drewN _).drew
        have B1 := HB.out.keep kW (fun h => h)
        replace c0 : (wr.drewN nq).cell? _ = _ := c0
        replace c1 : (wr.drewN nq).cell? _ = _ := c1
        replace q2 : (wr.drewN nq).cell? _ = _ := q2
        have HS2 := Lib.hid (HS.out _ kW)
        have HK := Lib.hid (hK.step kW (fun _ _ h => h.elim))
        clear kW HS HB q0 hK
        generalize wr.drewN nq = W1 at *
        go_still_tail 15, (by kernel_rfl)
        change wpList _ _ _ _ _ W1.drew
        generalize W1.drew = W2 at *
        clear c0 c1 q2
        have z2 := B1.free 2
        have c2 := B1.cell 2 (.int .i64 x') rfl
        go_upto_region 2 with fail
        have B2 := B1.set 2 (.int .i64 yv)
        have HS3 := Lib.hid HS2
        clear z2 B1 HS2 c2
        generalize hW3 : W2.setCell ⟨T, 2, none⟩ (.int .i64 yv) = W3 at *
        have z1 := B2.free 1
        have c1 := B2.cell 1 (.int .i64 i) rfl
        have i1 : (i : Int) + 1 ≤ 31 := by omega
        go_wp2
        have B3 := (B2.set 1 (.int .i64 ((i : Int) + 1))).cell 1 (.int .i64 ((i : Int) + 1)) rfl
        have hS := HS3.out.out
        rw [Int.natCast_add, Int.natCast_one] at hS
        refine ⟨⟨rr, yv, ?_, ?_, hS, ?_⟩, ?_⟩
        · rw [← HE.out]; exact (onS_ready (x := ⟨7, ya, yv, yb⟩) rfl rr x').symm
        · simp only [List.length_cons] at hle; omega
        · have hk := HK.out
          rw [← hW3]
          exact (hk.set (p := ⟨T, 2, none⟩) (fun _ => rfl) _).set (p := ⟨T, 1, none⟩) (fun _ => rfl) _
        · rw [B3, C1.out]
          simp
          omega
      · go_upto_region 0 with fail
        go_quiet (fail)
        go_wp2
        go_end0
        have he := HE.out
        rw [onS_other h7] at he
        rw [← he]
        exact ⟨rfl, HR.out.keep (Q := fun _ => False) ((Keep.refl _ _).drewN _) (fun h => h) (fun h => h), hK.drewN _⟩
theorem rest_at {l r : List Itm} (h : r <:+ l) : (r = [] → l.length ≤ l.length - r.length) ∧ (r ≠ [] → l.length - r.length < l.length) := by
  have hle := h.length_le
  cases r with
  | nil => simp
  | cons y r => simp at hle ⊢; omega
theorem rdone_any (T I : Nat) (l r : List Itm) (x : Int) (w : World) (h : RTask w T I l r x) :
    Calls Tryz.prog 73 #[ptrV T] w fun e w' => e = .returned (.bool r.isEmpty) ∧ ∃ m, w' = w.drewN m := by
  obtain ⟨v, hB, hI⟩ := h.own
  obtain ⟨a, cap, rfl, hs⟩ := hI.is
  have c0 : w.cell? ⟨T, 0, none⟩ = some (.slice a l.length cap) := hB.cell 0 _ rfl
  have c1 : w.cell? ⟨T, 1, none⟩ = some (.int .i64 ((l.length - r.length : Nat) : Int)) := hB.cell 1 _ rfl
  obtain ⟨hle, hlt⟩ := rest_at h.rest
  clear hB hI hs h
  generalize l.length = n at *
  generalize n - r.length = i at *
  cases r with
  | nil =>
    have hle := hle rfl
    clear hlt
    go_enter Tryz.func73, Tryz.ntmps73
    go_upto_region 1 with fail
    go_quiet (fail)
    go_wp2
    go_ret
    exact ⟨by simp, _, rfl⟩
  | cons y r =>
    have hlt := hlt (by simp)
    clear hle
    go_enter Tryz.func73, Tryz.ntmps73
    go_upto_region 1 with fail
    go_quiet (fail)
    go_wp2
    go_ret
    exact ⟨by simp; omega, _, rfl⟩
theorem rparked_any (T I : Nat) (l r : List Itm) (x : Int) (w : World) (h : RTask w T I l r x) :
    Calls Tryz.prog 68 #[ptrV T] w fun e w' => e = .returned (.bool (parkedS r)) ∧ ∃ m, w' = w.drewN m := by
  have H := fun m => rdone_any T I l r x (w.drewN m) (h.keep (Q := fun _ => False) ((Keep.refl _ _).drewN m) (fun h => h) (fun h => h))
  obtain ⟨v, hB, hI⟩ := h.own
  obtain ⟨a, cap, rfl, hs⟩ := hI.is
  have c0 : w.cell? ⟨T, 0, none⟩ = some (.slice a l.length cap) := hB.cell 0 _ rfl
  have c1 : w.cell? ⟨T, 1, none⟩ = some (.int .i64 ((l.length - r.length : Nat) : Int)) := hB.cell 1 _ rfl
  cases r with
  | nil =>
    simp only [List.isEmpty_nil] at H
    have HH := Lib.hid H
    clear hB hI hs h H
    go_enter Tryz.func68, Tryz.ntmps68
    go_upto_region 1 with fail
    go_quiet (first | (go_at_call 73; exact Calls.quiet_of (HH.out _)))
    go_wp2
    go_ret
    exact ⟨rfl, _, rfl⟩
  | cons y r =>
    obtain ⟨e1, e2, e3⟩ := suffix_at h.rest
    obtain rfl := hs (by omega)
    obtain ⟨q0, q1, q2, q3⟩ := hI.cell _ _ e1
    simp only [List.isEmpty_cons] at H
    have HH := Lib.hid H
    have hfew := hI.few
    clear hB hI hs h H q1 q2 q3 e1 e3
    generalize l.length = n at *
    generalize n - (y :: r).length = i at *
    obtain ⟨yk, ya, yv, yb⟩ := y
    dsimp only at *
    by_cases h5 : yk = 5
    · subst h5
      go_enter Tryz.func68, Tryz.ntmps68
      go_upto_region 1 with fail
      go_quiet (first | (go_at_call 73; exact Calls.quiet_of (HH.out _)))
      go_wp2
      go_ret
      exact ⟨rfl, _, rfl⟩
    · by_cases h6 : yk = 6
      · subst h6
        go_enter Tryz.func68, Tryz.ntmps68
        go_upto_region 1 with fail
        go_quiet (first | (go_at_call 73; exact Calls.quiet_of (HH.out _)))
        go_wp2
        go_ret
        exact ⟨rfl, _, rfl⟩
      · have h5' : ¬ (yk : Int) = 5 := by omega
        have h6' : ¬ (yk : Int) = 6 := by omega
        have hp : parkedS (⟨yk, ya, yv, yb⟩ :: r) = false := by simp [parkedS, h5, h6]
        rw [hp]
        go_enter Tryz.func68, Tryz.ntmps68
        go_upto_region 1 with fail
        go_quiet (first | (go_at_call 73; exact Calls.quiet_of (HH.out _)))
        go_wp2
        go_ret
        exact ⟨by simp [h5', h6'], _, rfl⟩
end Go.Proofs.YtpopcallphbklaaGreat
/- What layer 8's laws draw: items that came in, cut to those that are there. No program is named here. -/
namespace Go.Proofs.YtpopcallphbklaaGreat
open Go.ChangeShapes Go.WideShapes Go.ChangeAt Go.RowKit
set_option linter.unusedVariables false
/-- an item that came in -/
structure Raw where
  k : Int
  a : Int
  x : Int
  y : Int
structure Raw.ok (r : Raw) : Prop where
  k : -9223372036854775808 ≤ r.k ∧ r.k ≤ 9223372036854775807
  a : -9223372036854775808 ≤ r.a ∧ r.a ≤ 9223372036854775807
  x : 0 ≤ r.x ∧ r.x ≤ 18446744073709551615
  y : 0 ≤ r.y ∧ r.y ≤ 18446744073709551615
def kindOf (K : Int) : Nat := (wrap64 ((IntKind.u64.wrap K).tmod 8)).toNat
def cellOf (A : Int) : Nat := (wrap64 ((IntKind.u64.wrap A).tmod 3)).toNat
theorem kindOf_is (K : Int) : wrap64 ((IntKind.u64.wrap K).tmod 8) = (kindOf K : Int) ∧ kindOf K < 8 := by
  obtain ⟨k, h, hk⟩ := rem_small K 8 (by omega) (by omega)
  have e : (IntKind.u64.wrap K).tmod ((8 : Nat) : Int) = (IntKind.u64.wrap K).tmod 8 := rfl
  rw [e] at h
  unfold kindOf
  rw [h]
  simpa using hk
theorem cellOf_is (A : Int) : wrap64 ((IntKind.u64.wrap A).tmod 3) = (cellOf A : Int) ∧ cellOf A < 3 := by
  obtain ⟨k, h, hk⟩ := rem_small A 3 (by omega) (by omega)
  have e : (IntKind.u64.wrap A).tmod ((3 : Nat) : Int) = (IntKind.u64.wrap A).tmod 3 := rfl
  rw [e] at h
  unfold cellOf
  rw [h]
  simpa using hk
/-- cut to n threads and three cells -/
def cutItm (n : Nat) (r : Raw) : Itm := ⟨kindOf r.k, if kindOf r.k = 5 ∨ kindOf r.k = 6 then cellOf r.a % n else cellOf r.a, r.x.tmod 4, r.y.tmod 4⟩
theorem cutItm_ok {n : Nat} {r : Raw} (hn : 1 ≤ n) (hr : r.ok) : (cutItm n r).ok := by
  have h8 := (kindOf_is r.k).2
  have h3 := (cellOf_is r.a).2
  have hm : cellOf r.a % n ≤ cellOf r.a := Nat.mod_le _ _
  have x0 := Int.tmod_nonneg 4 hr.x.1
  have x1 := Int.tmod_lt_of_pos r.x (b := 4) (by omega)
  have y0 := Int.tmod_nonneg 4 hr.y.1
  have y1 := Int.tmod_lt_of_pos r.y (b := 4) (by omega)
  refine ⟨h8, ?_, ?_, ⟨x0, ?_⟩, ⟨y0, ?_⟩, ?_⟩
  · dsimp only [cutItm]; split <;> omega
  · intro h
    dsimp only [cutItm] at h ⊢
    rw [if_pos h]
    omega
  · dsimp only [cutItm]; omega
  · dsimp only [cutItm]; omega
  · intro _; dsimp only [cutItm]; omega
theorem cutItm_park {n : Nat} {r : Raw} (hn : 1 ≤ n) (h : (cutItm n r).kind = 5 ∨ (cutItm n r).kind = 6) : (cutItm n r).at' < n := by
  dsimp only [cutItm] at h ⊢
  rw [if_pos h]
  exact Nat.mod_lt _ (by omega)
theorem cutItm_cell {n : Nat} {r : Raw} : (cutItm n r).at' < 3 := by
  have h3 := (cellOf_is r.a).2
  have hm : cellOf r.a % n ≤ cellOf r.a := Nat.mod_le _ _
  dsimp only [cutItm]
  split <;> omega
def fewS (n : Nat) (R : List Raw) : List Itm := (R.take 8).map (cutItm n)
theorem few_next {n i : Nat} {R : List Raw} {r : Raw} (h : R[i]? = some r) : (R.take (i + 1)).map (cutItm n) = (R.take i).map (cutItm n) ++ [cutItm n r] := by
  rw [List.take_add_one, h]
  simp
theorem few_len {n i : Nat} {R : List Raw} (h : i ≤ R.length) : ((R.take i).map (cutItm n)).length = i := by simp; omega
theorem fewS_end {n i : Nat} {R : List Raw} (h : i ≤ R.length) (h8 : i ≤ 8) (he : i = R.length ∨ i = 8) : (R.take i).map (cutItm n) = fewS n R := by
  unfold fewS
  rcases he with rfl | rfl
  · rw [List.take_of_length_le (Nat.le_refl _), List.take_of_length_le h8]
  · rfl
theorem fewS_len {n : Nat} {R : List Raw} : (fewS n R).length ≤ 8 := by simp [fewS]; omega
end Go.Proofs.YtpopcallphbklaaGreat
/- The document's own tasks (doorkeeperref06), over three cells and some permits: the world, Can. -/
namespace Go.Proofs.YtpopcallphbklaaGreat
open Go.ChangeShapes Go.WideShapes Go.ChangeAt Go.RowKit
set_option linter.unusedVariables false
set_option maxRecDepth 100000
set_option linter.unusedSimpArgs false
def permV (ps : List Bool) : Array Value := (ps.map fun b => Value.int .i64 (if b then 1 else 0)).toArray
theorem permV_at {ps : List Bool} {i : Nat} {b : Bool} (h : ps[i]? = some b) : (permV ps)[i]? = some (.int .i64 (if b then 1 else 0)) := by simp [permV, h]
theorem permV_set (ps : List Bool) (i : Nat) (b : Bool) : (permV ps).setIfInBounds i (.int .i64 (if b then 1 else 0)) = permV (ps.set i b) := by
  simp [permV, List.map_set]
/-- the document's world -/
structure RWorld (w : World) (D C P : Nat) (m : List Int) (ps : List Bool) (n : Int) : Prop where
  own : ∃ cap, Blk w D 58 #[.slice (some ⟨C, 0, none⟩) m.length cap, .int .i64 n, .slice (some ⟨P, 0, none⟩) ps.length ps.length]
  cells : ∃ cur : Array Value, Blk w C 52 cur ∧ cur.toList.take m.length = m.map (Value.int .u64)
  perms : Blk w P 3 (permV ps)
  few : m.length = 3 ∧ ps.length ≤ 16
  ne : D ≠ C ∧ D ≠ P ∧ C ≠ P
theorem RWorld.keep {w w1 : World} {D C P : Nat} {m : List Int} {ps : List Bool} {n : Int} {Q : Nat → Prop} (h : RWorld w D C P m ps n) (hk : Keep Q w w1) (h1 : ¬ Q D) (h2 : ¬ Q C) (h3 : ¬ Q P) : RWorld w1 D C P m ps n := by
  obtain ⟨cap, ho⟩ := h.own
  obtain ⟨cur, hc, ht⟩ := h.cells
  exact ⟨⟨cap, ho.keep hk h1⟩, ⟨cur, hc.keep hk h2, ht⟩, h.perms.keep hk h3, h.few, h.ne⟩
theorem RWorld.at {w : World} {D C P : Nat} {m : List Int} {ps : List Bool} {n : Int} (h : RWorld w D C P m ps n) {i : Nat} {c : Int} (hc : m[i]? = some c) : w.cell? ⟨C, i, none⟩ = some (.int .u64 c) ∧ w.frozen? ⟨C, i, none⟩ = false := by
  obtain ⟨cur, hb, ht⟩ := h.cells
  refine ⟨hb.cell i _ ?_, hb.free i⟩
  have hi := (List.getElem?_eq_some_iff.1 hc).1
  have : (cur.toList.take m.length)[i]? = some (.int .u64 c) := by rw [ht]; simp [hc]
  rw [List.getElem?_take_of_lt hi] at this
  simpa using this
/-- a struct of four cells is stored into a block, cell by cell -/
theorem store4 {W : World} {b : Nat} {t : TypeId} {x0 x1 x2 x3 : Value} (h : Blk W b t #[x0, x1, x2, x3]) (v0 v1 v2 v3 : Value) :
    (W.cell? ⟨b, 0, none⟩ = some x0 ∧ W.frozen? ⟨b, 0, none⟩ = false) ∧
    ((W.setCell ⟨b, 0, none⟩ v0).cell? ⟨b, 1, none⟩ = some x1 ∧ (W.setCell ⟨b, 0, none⟩ v0).frozen? ⟨b, 1, none⟩ = false) ∧
    (((W.setCell ⟨b, 0, none⟩ v0).setCell ⟨b, 1, none⟩ v1).cell? ⟨b, 2, none⟩ = some x2 ∧ ((W.setCell ⟨b, 0, none⟩ v0).setCell ⟨b, 1, none⟩ v1).frozen? ⟨b, 2, none⟩ = false) ∧
    ((((W.setCell ⟨b, 0, none⟩ v0).setCell ⟨b, 1, none⟩ v1).setCell ⟨b, 2, none⟩ v2).cell? ⟨b, 3, none⟩ = some x3 ∧ (((W.setCell ⟨b, 0, none⟩ v0).setCell ⟨b, 1, none⟩ v1).setCell ⟨b, 2, none⟩ v2).frozen? ⟨b, 3, none⟩ = false) ∧
    Blk ((((W.setCell ⟨b, 0, none⟩ v0).setCell ⟨b, 1, none⟩ v1).setCell ⟨b, 2, none⟩ v2).setCell ⟨b, 3, none⟩ v3) b t #[v0, v1, v2, v3] := by
  have h1 := h.set 0 v0
  have h2 := h1.set 1 v1
  have h3 := h2.set 2 v2
  have h4 := h3.set 3 v3
  exact ⟨⟨h.cell 0 _ rfl, h.free 0⟩, ⟨h1.cell 1 _ rfl, h1.free 1⟩, ⟨h2.cell 2 _ rfl, h2.free 2⟩, ⟨h3.cell 3 _ rfl, h3.free 3⟩, h4⟩
theorem Keep.set4 {Q : Nat → Prop} {a W : World} (h : Keep Q a W) {b : Nat} (hb : b < a.heap.size → Q b) (v0 v1 v2 v3 : Value) :
    Keep Q a ((((W.setCell ⟨b, 0, none⟩ v0).setCell ⟨b, 1, none⟩ v1).setCell ⟨b, 2, none⟩ v2).setCell ⟨b, 3, none⟩ v3) :=
  (((h.set (p := ⟨b, 0, none⟩) hb v0).set (p := ⟨b, 1, none⟩) hb v1).set (p := ⟨b, 2, none⟩) hb v2).set (p := ⟨b, 3, none⟩) hb v3
theorem rcan_any (T I D C P : Nat) (l r : List Itm) (x k n : Int) (m : List Int) (ps : List Bool) (w : World) (h : RTask w T I l r x) (hW : RWorld w D C P m ps n) (hok : ParkOk ps r) :
    Calls Tryz.prog 69 #[ptrV T, ptrV D, .int .i64 k] w fun e w' => e = .returned (.bool (canS ps r k)) ∧ Keep (fun _ => False) w w' := by
  have H := Lib.hid fun W (hk : Keep (fun _ => False) w W) => rdone_any T I l r x W (h.keep hk (fun h => h) (fun h => h))
  have H2 := Lib.hid fun W (hk : Keep (fun _ => False) w W) => rparked_any T I l r x W (h.keep hk (fun h => h) (fun h => h))
  obtain ⟨v, hB, hI⟩ := h.own
  obtain ⟨a, cap, rfl, hs⟩ := hI.is
  have c0 : w.cell? ⟨T, 0, none⟩ = some (.slice a l.length cap) := hB.cell 0 _ rfl
  have c1 : w.cell? ⟨T, 1, none⟩ = some (.int .i64 ((l.length - r.length : Nat) : Int)) := hB.cell 1 _ rfl
  cases r with
  | nil =>
    clear hB hI hs h H2 hok
    go_enter Tryz.func69, Tryz.ntmps69
    go_wp2_with (first | (go_at_call 73; refine (H.out _ (Keep.refl _ _)).mono ?_; rintro e w1 ⟨rfl, g1, rfl⟩))
    go_ret
    exact ⟨rfl, (Keep.refl _ _).drewN _⟩
  | cons y r =>
    obtain ⟨e1, e2, e3⟩ := suffix_at h.rest
    obtain rfl := hs (by omega)
    obtain ⟨q0, q1, q2, q3⟩ := hI.cell _ _ e1
    have hy := hI.ok y (List.mem_of_getElem? e1)
    have hfew := hI.few
    obtain ⟨cp, hO⟩ := hW.own
    have d2 : w.cell? ⟨D, 2, none⟩ = some (.slice (some ⟨P, 0, none⟩) ps.length ps.length) := hO.cell 2 _ rfl
    obtain ⟨hm, hp16⟩ := hW.few
    obtain ⟨np, hp⟩ : ∃ np, ps.length = np := ⟨_, rfl⟩
    rw [hp] at d2 hp16
    have HNP := Lib.hid hp
    have hP := hW.perms
    clear hB hI hs h e1 e3 hO hW
    generalize l.length = n at *
    generalize n - (y :: r).length = i at *
    obtain ⟨yk, ya, yv, yb⟩ := y
    dsimp only at *
    by_cases hpk : yk = 5 ∨ yk = 6
    · have hpt : parkedS (⟨yk, ya, yv, yb⟩ :: r) = true := by simp [parkedS, hpk]
      rw [hpt] at H2
      have h3 := hok _ List.mem_cons_self hpk
      dsimp only at h3
      rw [hp] at h3
      obtain ⟨b, hb⟩ : ∃ b, ps[ya]? = some b := ⟨ps[ya]'(by omega), by simp⟩
      have pc := hP.cell ya _ (permV_at hb)
      have HB := Lib.hid hb
      clear hP hy hb hpt
      have ya3 : (ya : Int) < (np : Int) := by omega
      clear hp hok
      go_enter Tryz.func69, Tryz.ntmps69
      go_wp2_with (first
        | (go_at_call 73; refine (H.out _ (Keep.refl _ _)).mono ?_; rintro e w1 ⟨rfl, g1, rfl⟩)
        | (go_at_call 68; refine (H2.out _ ((Keep.refl _ _).drewN _)).mono ?_; rintro e w1 ⟨rfl, g2, rfl⟩))
      have sK : ∀ W, Keep (fun _ => False) w W → (fun w' => w'.cell? ⟨T, 0, none⟩ = some (.slice (some ⟨I, 0, none⟩) n cap) ∧ w'.cell? ⟨T, 1, none⟩ = some (.int .i64 (i : Int)) ∧ w'.cell? ⟨I, i * 4, none⟩ = some (.int .i64 (yk : Int)) ∧ w'.cell? ⟨I, i * 4 + 1, none⟩ = some (.int .i64 (ya : Int)) ∧ w'.cell? ⟨I, i * 4 + 2, none⟩ = some (.int .u64 yv) ∧ w'.cell? ⟨I, i * 4 + 3, none⟩ = some (.int .u64 yb)) W := fun W hk => ⟨cell_keep c0 hk (fun h => h), cell_keep c1 hk (fun h => h), cell_keep q0 hk (fun h => h), cell_keep q1 hk (fun h => h), cell_keep q2 hk (fun h => h), cell_keep q3 hk (fun h => h)⟩
      refine wp_region_held_drew (S := (fun w' => w'.cell? ⟨T, 0, none⟩ = some (.slice (some ⟨I, 0, none⟩) n cap) ∧ w'.cell? ⟨T, 1, none⟩ = some (.int .i64 (i : Int)) ∧ w'.cell? ⟨I, i * 4, none⟩ = some (.int .i64 (yk : Int)) ∧ w'.cell? ⟨I, i * 4 + 1, none⟩ = some (.int .i64 (ya : Int)) ∧ w'.cell? ⟨I, i * 4 + 2, none⟩ = some (.int .u64 yv) ∧ w'.cell? ⟨I, i * 4 + 3, none⟩ = some (.int .u64 yb))) (by kernel_rfl) (sK _ ((Keep.refl _ _).drewN _).drew) (fun hHeld => ?_)
      refine wpAnyH_take (i := 0) (oi := _) (v := ?_) rfl (by kernel_rfl) (by kernel_rfl) (by kernel_rfl) (fun _ _ _ h => h) (Or.inl ⟨by rfl, ?_⟩) (by assumption) ?_
      rotate_left
      · intro w hSw; (try dsimp only at hSw); go_simp; try with_reducible rfl
      (try simp only [Act.put, List.setIfInBounds_toArray, List.set_cons_zero, List.set_cons_succ])
      refine wpAnyH_take (i := 1) (oi := _) (v := ?_) rfl (by kernel_rfl) (by kernel_rfl) (by kernel_rfl) (fun _ _ _ h => h) (Or.inl ⟨by rfl, ?_⟩) (by assumption) ?_
      rotate_left
      · intro w hSw; (try dsimp only at hSw); go_simp; try with_reducible rfl
      (try simp only [Act.put, List.setIfInBounds_toArray, List.set_cons_zero, List.set_cons_succ])
      refine wpAnyH_take (i := 2) (oi := _) (v := ?_) rfl (by kernel_rfl) (by kernel_rfl) (by kernel_rfl) (fun _ _ _ h => h) (Or.inl ⟨by rfl, ?_⟩) (by assumption) ?_
      rotate_left
      · intro w hSw; (try dsimp only at hSw); go_simp; try with_reducible rfl
      (try simp only [Act.put, List.setIfInBounds_toArray, List.set_cons_zero, List.set_cons_succ])
      refine wpAnyH_take (i := 3) (oi := _) (v := ?_) rfl (by kernel_rfl) (by kernel_rfl) (by kernel_rfl) (fun _ _ _ h => h) (Or.inl ⟨by rfl, ?_⟩) (by assumption) ?_
      rotate_left
      · intro w hSw; (try dsimp only at hSw); go_simp; try with_reducible rfl
      (try simp only [Act.put, List.setIfInBounds_toArray, List.set_cons_zero, List.set_cons_succ])
      refine wpAnyH_take (i := 4) (oi := _) (v := ?_) rfl (by kernel_rfl) (by kernel_rfl) (by kernel_rfl) (fun _ _ _ h => h) (Or.inl ⟨by rfl, ?_⟩) (by assumption) ?_
      rotate_left
      · intro w hSw; (try dsimp only at hSw); go_simp; try with_reducible rfl
      (try simp only [Act.put, List.setIfInBounds_toArray, List.set_cons_zero, List.set_cons_succ])
      refine wpAnyH_take (i := 5) (oi := _) (v := ?_) rfl (by kernel_rfl) (by kernel_rfl) (by kernel_rfl) (fun _ _ _ h => h) (Or.inl ⟨by rfl, ?_⟩) (by assumption) ?_
      rotate_left
      · intro w hSw; (try dsimp only at hSw); go_simp; try with_reducible rfl
      (try simp only [Act.put, List.setIfInBounds_toArray, List.set_cons_zero, List.set_cons_succ])
      refine wpAnyH_take (i := 6) (oi := _) (v := ?_) rfl (by kernel_rfl) (by kernel_rfl) (by kernel_rfl) (fun _ _ _ h => h) (Or.inl ⟨by rfl, ?_⟩) (by assumption) ?_
      rotate_left
      · intro w hSw; (try dsimp only at hSw); go_simp; try with_reducible rfl
      (try simp only [Act.put, List.setIfInBounds_toArray, List.set_cons_zero, List.set_cons_succ])
      refine wpAnyH_take (i := 7) (oi := _) (v := ?_) rfl (by kernel_rfl) (by kernel_rfl) (by kernel_rfl) (fun _ _ _ h => h) (Or.inl ⟨by rfl, ?_⟩) (by assumption) ?_
      rotate_left
      · intro w hSw; (try dsimp only at hSw); go_simp; try with_reducible rfl
      (try simp only [Act.put, List.setIfInBounds_toArray, List.set_cons_zero, List.set_cons_succ])
      refine wpAnyH_take (i := 8) (oi := _) (v := ?_) rfl (by kernel_rfl) (by kernel_rfl) (by kernel_rfl) (fun _ _ _ h => h) (Or.inl ⟨by rfl, ?_⟩) (by assumption) ?_
      rotate_left
      · intro w hSw; (try dsimp only at hSw); go_simp; try with_reducible rfl
      (try simp only [Act.put, List.setIfInBounds_toArray, List.set_cons_zero, List.set_cons_succ])
      refine wpAnyH_take (i := 9) (oi := _) (v := ?_) rfl (by kernel_rfl) (by kernel_rfl) (by kernel_rfl) (fun _ _ _ h => h) (Or.inl ⟨by rfl, ?_⟩) (by assumption) ?_
      rotate_left
      · intro w hSw; (try dsimp only at hSw); go_simp; try with_reducible rfl
      (try simp only [Act.put, List.setIfInBounds_toArray, List.set_cons_zero, List.set_cons_succ])
      refine wpAnyH_ready (rs := [10]) (by kernel_rfl) (by simp) ?_
      refine AllReadyH.cons rfl (fun K hK => ?_) AllReadyH.nil
      go_simp
      go_wp2_with fail
      refine hK.out _ _ (sK _ (((Keep.refl _ _).drewN _).alloc _)) (fun hHeld => ?_)
      clear hK K
      (try dsimp only [Act.put]); (try simp only [Act.put, List.setIfInBounds_toArray, List.set_cons_zero, List.set_cons_succ])
      have hA : Keep (fun _ => False) w ((w.drewN (g1 + g2 + 1)).alloc (.cells #[.int .i64 0, .int .i64 0, .int .u64 0, .int .u64 0] 69)) := ((Keep.refl _ _).drewN _).alloc _
      have hN : Blk ((w.drewN (g1 + g2 + 1)).alloc (.cells #[.int .i64 0, .int .i64 0, .int .u64 0, .int .u64 0] 69)) w.heap.size 69 #[.int .i64 0, .int .i64 0, .int .u64 0, .int .u64 0] := Blk.new _ _ _
      generalize ((w.drewN (g1 + g2 + 1)).alloc (.cells #[.int .i64 0, .int .i64 0, .int .u64 0, .int .u64 0] 69)) = W at *
      obtain ⟨⟨n0, n1⟩, ⟨n2, n3⟩, ⟨n4, n5⟩, ⟨n6, n7⟩, hX⟩ := store4 hN (.int .i64 yk) (.int .i64 ya) (.int .u64 yv) (.int .u64 yb)
      have kX := hA.set4 (b := w.heap.size) (fun h => by omega) (.int .i64 yk) (.int .i64 ya) (.int .u64 yv) (.int .u64 yb)
      clear hHeld
      refine wpAnyH_ready (rs := [11]) (by kernel_rfl) (by simp) ?_
      refine AllReadyH.cons rfl (fun K hK => ?_) AllReadyH.nil
      go_simp
      go_wp2_with fail
      refine hK.out _ _ (sK _ kX) (fun hHeld => ?_)
      clear hK K
      (try dsimp only [Act.put]); (try simp only [Act.put, List.setIfInBounds_toArray, List.set_cons_zero, List.set_cons_succ])
      refine wpAnyH_done (by kernel_rfl) ?_ _
      clear n0 n1 n2 n3 n4 n5 n6 n7 hN hA sK
      replace d2 := cell_keep d2 kX (fun h => h)
      replace pc := cell_keep pc kX (fun h => h)
      generalize ((((W.setCell ⟨w.heap.size, 0, none⟩ (.int .i64 yk)).setCell ⟨w.heap.size, 1, none⟩ (.int .i64 ya)).setCell ⟨w.heap.size, 2, none⟩ (.int .u64 yv)).setCell ⟨w.heap.size, 3, none⟩ (.int .u64 yb)) = X at *
      have x0 : X.cell? ⟨w.heap.size, 0, none⟩ = some (.int .i64 yk) := hX.cell 0 _ rfl
      have x1 : X.cell? ⟨w.heap.size, 1, none⟩ = some (.int .i64 ya) := hX.cell 1 _ rfl
      have ya0 : 0 ≤ (ya : Int) ∧ (ya : Int) < (np : Int) := by omega
      clear hX q0 q1 q2 q3 c0 c1
      go_wp2
      · cases b
        all_goals
          simp only [if_true, if_false, Bool.false_eq_true, ↓reduceIte] at pc
          go_quiet (fail)
          go_wp2
          go_ret
          have hb := HB.out
          exact ⟨by simp_all [canS, List.getD_eq_getElem?_getD], kX.drewN _⟩
      · go_ret
        exact ⟨by simp_all [canS]; rw [Bool.eq_iff_iff]; simp; omega, kX⟩
      · go_ret
        exact ⟨by simp_all [canS], kX⟩
    · have hpt : parkedS (⟨yk, ya, yv, yb⟩ :: r) = false := by
        rw [not_or] at hpk
        simp [parkedS, hpk]
      rw [hpt] at H2
      have HP := Lib.hid hpk
      clear hP hy hpt hpk hp hok
      go_enter Tryz.func69, Tryz.ntmps69
      go_wp2_with (first
        | (go_at_call 73; refine (H.out _ (Keep.refl _ _)).mono ?_; rintro e w1 ⟨rfl, g1, rfl⟩)
        | (go_at_call 68; refine (H2.out _ ((Keep.refl _ _).drewN _)).mono ?_; rintro e w1 ⟨rfl, g2, rfl⟩))
      go_ret
      have hpk := HP.out
      exact ⟨by simp [canS, hpk], (Keep.refl _ _).drewN _⟩
end Go.Proofs.YtpopcallphbklaaGreat
/- The document's own tasks (doorkeeperref06): operate. -/
namespace Go.Proofs.YtpopcallphbklaaGreat
open Go.ChangeShapes Go.WideShapes Go.ChangeAt Go.RowKit
set_option linter.unusedVariables false
set_option maxRecDepth 100000
set_option linter.unusedSimpArgs false
theorem RWorld.step {w : World} {D C P : Nat} {m : List Int} {ps : List Bool} {n : Int} (h : RWorld w D C P m ps n) (n' : Int) : RWorld (w.setCell ⟨D, 1, none⟩ (.int .i64 n')) D C P m ps n' := by
  obtain ⟨cap, ho⟩ := h.own
  obtain ⟨cur, hc, ht⟩ := h.cells
  exact ⟨⟨cap, ho.set 1 _⟩, ⟨cur, hc.far (Ne.symm h.ne.1) _ _, ht⟩, h.perms.far (Ne.symm h.ne.2.1) _ _, h.few, h.ne⟩
theorem RWorld.put {w : World} {D C P : Nat} {m : List Int} {ps : List Bool} {n : Int} (h : RWorld w D C P m ps n) {i : Nat} (hi : i < m.length) (v : Int) : RWorld (w.setCell ⟨C, i, none⟩ (.int .u64 v)) D C P (m.set i v) ps n := by
  obtain ⟨cap, ho⟩ := h.own
  obtain ⟨cur, hc, ht⟩ := h.cells
  refine ⟨⟨cap, by rw [List.length_set]; exact ho.far h.ne.1 _ _⟩, ⟨_, hc.set i (.int .u64 v), ?_⟩, h.perms.far (Ne.symm h.ne.2.2) _ _, by rw [List.length_set]; exact h.few, h.ne⟩
  rw [Array.toList_setIfInBounds, List.length_set, List.take_set, ht, List.map_set]
theorem RWorld.grant {w : World} {D C P : Nat} {m : List Int} {ps : List Bool} {n : Int} (h : RWorld w D C P m ps n) (i : Nat) (b : Bool) : RWorld (w.setCell ⟨P, i, none⟩ (.int .i64 (if b then 1 else 0))) D C P m (ps.set i b) n := by
  obtain ⟨cap, ho⟩ := h.own
  obtain ⟨cur, hc, ht⟩ := h.cells
  refine ⟨⟨cap, by rw [List.length_set]; exact ho.far h.ne.2.1 _ _⟩, ⟨cur, hc.far h.ne.2.2 _ _, ht⟩, ?_, by rw [List.length_set]; exact h.few, h.ne⟩
  have := h.perms.set i (.int .i64 (if b then 1 else 0))
  rwa [permV_set] at this
theorem frozen_drew {w : World} {p : Addr} {b : Bool} (h : w.frozen? p = b) : w.drew.frozen? p = b := h
/-- an item, as a value -/
abbrev itmV (x : Itm) : Value := .agg #[.int .i64 x.kind, .int .i64 x.at', .int .u64 x.a, .int .u64 x.b]
set_option maxHeartbeats 2000000 in
theorem rop_any (D C P : Nat) (n : Int) (m : List Int) (ps : List Bool) (x : Itm) (w : World) (hW : RWorld w D C P m ps n) (hx : x.ok) (hn : 0 ≤ n ∧ n ≤ 1000) :
    Calls Tryz.prog 72 #[ptrV D, itmV x] w fun e w' => e = .returned (.tuple #[.int .i64 (operS m x).2.1, .bool (operS m x).2.2]) ∧ RWorld w' D C P (operS m x).1 ps (n + countS m x) ∧ Keep (fun k => k = D ∨ k = C) w w' := by
  obtain ⟨cap, hO⟩ := hW.own
  have hlt := hO.lt
  have hR0 : RWorld (w.alloc (.cells #[.int .i64 x.kind, .int .i64 x.at', .int .u64 x.a, .int .u64 x.b] 69)) D C P m ps n := hW.keep (Q := fun _ => False) ((Keep.refl _ _).alloc _) (fun h => h) (fun h => h) (fun h => h)
  have hX0 : Blk (w.alloc (.cells #[.int .i64 x.kind, .int .i64 x.at', .int .u64 x.a, .int .u64 x.b] 69)) w.heap.size 69 #[.int .i64 x.kind, .int .i64 x.at', .int .u64 x.a, .int .u64 x.b] := Blk.new _ _ _
  have k0 : Keep (fun k => k = D ∨ k = C) w (w.alloc (.cells #[.int .i64 x.kind, .int .i64 x.at', .int .u64 x.a, .int .u64 x.b] 69)) := (Keep.refl _ _).alloc _
  have hCx : C < w.heap.size := by obtain ⟨cur, hc, _⟩ := hW.cells; exact hc.lt
  clear hO hW
  obtain ⟨yk, ya, yv, yb⟩ := x
  dsimp only at hR0 hX0 k0
  go_enter Tryz.func72, Tryz.ntmps72
  go_upto_region 1 with fail
  generalize w.alloc (.cells #[.int .i64 yk, .int .i64 ya, .int .u64 yv, .int .u64 yb] 69) = W0 at *
  obtain ⟨cap, hO⟩ := hR0.own
  have c1 : W0.cell? ⟨D, 1, none⟩ = some (.int .i64 n) := hO.cell 1 _ rfl
  have z1 := hO.free 1
  go_upto_region 2 with fail
  have hR1 := hR0.step (n + 1)
  have hX1 : Blk (W0.setCell ⟨D, 1, none⟩ (.int .i64 (n + 1))) w.heap.size 69 _ := hX0.far (by omega) 1 (.int .i64 (n + 1))
  have k1 := k0.set (p := ⟨D, 1, none⟩) (fun _ => Or.inl rfl) (.int .i64 (n + 1))
  clear hR0 hX0 k0 c1 z1 hO
  generalize W0.setCell ⟨D, 1, none⟩ (.int .i64 (n + 1)) = W1 at *
  obtain ⟨cap, hO⟩ := hR1.own
  have d0 : W1.cell? ⟨D, 0, none⟩ = some (.slice (some ⟨C, 0, none⟩) m.length cap) := hO.cell 0 _ rfl
  have d1 : W1.cell? ⟨D, 1, none⟩ = some (.int .i64 (n + 1)) := hO.cell 1 _ rfl
  have z1 := hO.free 1
  have x0 : W1.cell? ⟨w.heap.size, 0, none⟩ = some (.int .i64 yk) := hX1.cell 0 _ rfl
  have x1 : W1.cell? ⟨w.heap.size, 1, none⟩ = some (.int .i64 ya) := hX1.cell 1 _ rfl
  have x2 : W1.cell? ⟨w.heap.size, 2, none⟩ = some (.int .u64 yv) := hX1.cell 2 _ rfl
  have x3 : W1.cell? ⟨w.heap.size, 3, none⟩ = some (.int .u64 yb) := hX1.cell 3 _ rfl
  obtain ⟨hm, hp⟩ := hR1.few
  have hya := hx.at'
  dsimp only at hya
  by_cases hi : ya < m.length
  · obtain ⟨c, hc⟩ : ∃ c, m[ya]? = some c := ⟨m[ya], by simp [hi]⟩
    obtain ⟨e0, e1⟩ := hR1.at hc
    have hct : countS m ⟨yk, ya, yv, yb⟩ = 1 := by simp [countS, hi]
    have hi0 : ¬ (ya : Int) < 0 := by omega
    have HC := Lib.hid hc
    have HI := Lib.hid hi
    rw [hm] at d0
    have hi3 : (ya : Int) < 3 := by omega
    have hi4 : ¬ (3 : Int) ≤ ya := by omega
    clear hc hi
    have HT := Lib.hid hct
    clear hct
    by_cases h1 : yk = 1
    · subst h1
      have HO : Hid (operS m ⟨1, ya, yv, yb⟩ = (m.set ya yv, 1, true)) := Lib.hid (by simp [operS, HC.out])
      go_wp2
      go_still_tail 8, (by kernel_rfl)
      change wpList _ _ _ _ _ (World.drew _)
      replace hR1 := hR1.keep (Q := fun _ => False) (Keep.refl _ _).drew (fun h => h) (fun h => h) (fun h => h)
      replace e0 := cell_keep e0 (Q := fun _ => False) (Keep.refl _ _).drew (fun h => h)
      replace e1 := frozen_drew e1
      replace k1 := k1.drew
      clear d0 d1 z1 x0 x1 x2 x3 hX1 hO
      generalize W1.drew = W2 at *
      go_wp2
      refine bodyPost_ret (v := .tuple #[.int .i64 1, .bool true]) (by simp [results, Tryz.results72, go_sem]) rfl ?_
      have hop := HO.out
      have hct := HT.out
      rw [hop, hct]
      exact ⟨rfl, hR1.put HI.out yv, k1.set (p := ⟨C, ya, none⟩) (fun _ => Or.inr rfl) _⟩
    · by_cases h2 : yk = 2 ∨ yk = 4
      · have b1 : ¬ (yk : Int) = 1 := by omega
        by_cases hca : c = yv
        · have HO : Hid (operS m ⟨yk, ya, yv, yb⟩ = (m.set ya yb, 1, true)) := Lib.hid (by simp [operS, HC.out, h1, h2, hca])
          have hca' : (c == yv) = true := by simp [hca]
          rcases h2 with rfl | rfl
          all_goals
            go_wp2
            go_quiet (fail)
            go_wp2
            have kq : Keep (fun _ => False) W1 (W1.drewN nq) := (Keep.refl _ _).drewN _
            replace hR1 := hR1.keep kq (fun h => h) (fun h => h) (fun h => h)
            replace e0 := cell_keep e0 kq (fun h => h)
            replace e1 : (W1.drewN nq).frozen? _ = _ := e1
            replace d0 := cell_keep d0 kq (fun h => h)
            replace x0 := cell_keep x0 kq (fun h => h)
            replace x2 := cell_keep x2 kq (fun h => h)
            replace x3 := cell_keep x3 kq (fun h => h)
            replace k1 := k1.drewN nq
            clear kq d1 z1 x1 hX1 hO
            generalize W1.drewN nq = W2 at *
            go_still_tail 8, (by kernel_rfl)
            change wpList _ _ _ _ _ (World.drew _)
            replace hR1 := hR1.keep (Q := fun _ => False) (Keep.refl _ _).drew (fun h => h) (fun h => h) (fun h => h)
            replace e0 := cell_keep e0 (Q := fun _ => False) (Keep.refl _ _).drew (fun h => h)
            replace e1 := frozen_drew e1
            replace k1 := k1.drew
            clear d0 x0 x2 x3
            generalize W2.drew = W3 at *
            go_wp2
            refine bodyPost_ret (v := .tuple #[.int .i64 1, .bool true]) (by simp [results, Tryz.results72, go_sem]) rfl ?_
            have hop := HO.out
            have hct := HT.out
            rw [hop, hct]
            exact ⟨rfl, hR1.put HI.out yb, k1.set (p := ⟨C, ya, none⟩) (fun _ => Or.inr rfl) _⟩
        · have hca' : (c == yv) = false := by simp [hca]
          have HO : Hid (operS m ⟨yk, ya, yv, yb⟩ = (m, 0, yk == 2)) := Lib.hid (by simp [operS, HC.out, h1, h2, hca])
          have hn0 : ¬ c = yv := hca
          rcases h2 with rfl | rfl
          · clear b1
            go_wp2
            go_quiet (fail)
            go_wp2
            go_quiet (fail)
            go_wp2
            refine bodyPost_ret (v := .tuple #[.int .i64 0, .bool true]) (by simp [results, Tryz.results72, go_sem]) rfl ?_
            have hop := HO.out
            have hct := HT.out
            rw [hop, hct]
            exact ⟨rfl, hR1.keep (Q := fun _ => False) (((Keep.refl _ _).drewN _).drewN _) (fun h => h) (fun h => h) (fun h => h), (k1.drewN _).drewN _⟩
          · clear b1
            go_wp2
            go_quiet (fail)
            go_wp2
            go_quiet (fail)
            go_wp2
            refine bodyPost_ret (v := .tuple #[.int .i64 0, .bool false]) (by simp [results, Tryz.results72, go_sem]) rfl ?_
            have hop := HO.out
            have hct := HT.out
            rw [hop, hct]
            exact ⟨rfl, hR1.keep (Q := fun _ => False) (((Keep.refl _ _).drewN _).drewN _) (fun h => h) (fun h => h) (fun h => h), (k1.drewN _).drewN _⟩
      · have b1 : ¬ (yk : Int) = 1 := by omega
        have b2 : ¬ (yk : Int) = 2 := by omega
        have b4 : ¬ (yk : Int) = 4 := by omega
        by_cases h3 : yk = 3
        · subst h3
          have HO : Hid (operS m ⟨3, ya, yv, yb⟩ = (m.set ya (IntKind.u64.wrap (c + yv)), wrap64 (IntKind.u64.wrap (c + yv)), true)) := Lib.hid (by simp [operS, HC.out])
          clear b1 b2 b4
          go_wp2
          go_still_tail 16, (by kernel_rfl)
          change wpList _ _ _ _ _ W1.drew
          replace hR1 := hR1.keep (Q := fun _ => False) (Keep.refl _ _).drew (w1 := W1.drew) (fun h => h) (fun h => h) (fun h => h)
          replace e0 : W1.drew.cell? _ = _ := e0
          replace e1 : W1.drew.frozen? _ = _ := e1
          replace k1 := k1.drew
          clear d0 d1 z1 x0 x1 x2 x3 hX1 hO
          generalize W1.drew = W2 at *
          go_upto_region 18 with fail
          have hR3 := hR1.put HI.out (IntKind.u64.wrap (c + yv))
          have k3 := k1.set (p := ⟨C, ya, none⟩) (fun _ => Or.inr rfl) (.int .u64 (IntKind.u64.wrap (c + yv)))
          clear hR1 e0 e1 k1
          generalize W2.setCell ⟨C, ya, none⟩ (.int .u64 (IntKind.u64.wrap (c + yv))) = W3 at *
          obtain ⟨cap3, hO3⟩ := hR3.own
          have d0 : W3.cell? ⟨D, 0, none⟩ = some (.slice (some ⟨C, 0, none⟩) 3 cap3) := by have := hO3.cell 0 _ rfl; rw [List.length_set, hm] at this; exact this
          have e3 := (hR3.at (i := ya) (c := IntKind.u64.wrap (c + yv)) (List.getElem?_set_self HI.out)).1
          clear hO3
          go_wp2
          refine bodyPost_ret (v := .tuple #[.int .i64 (wrap64 (IntKind.u64.wrap (c + yv))), .bool true]) (by simp [results, Tryz.results72, go_sem]) rfl ?_
          have hop := HO.out
          have hct := HT.out
          rw [hop, hct]
          exact ⟨rfl, hR3, k3⟩
        · have b3 : ¬ (yk : Int) = 3 := by omega
          have HO : Hid (operS m ⟨yk, ya, yv, yb⟩ = (m, wrap64 c, true)) := Lib.hid (by simp [operS, HC.out, h1, h2, h3])
          go_wp2
          refine bodyPost_ret (v := .tuple #[.int .i64 (wrap64 c), .bool true]) (by simp [results, Tryz.results72, go_sem]) rfl ?_
          have hop := HO.out
          have hct := HT.out
          rw [hop, hct]
          exact ⟨rfl, hR1, k1⟩
  · have hi2 : (3 : Int) ≤ ya := by omega
    have hop : operS m ⟨yk, ya, yv, yb⟩ = (m, 0, yk != 4) := by
      simp [operS, List.getElem?_eq_none (by omega : m.length ≤ ya)]
    have hct : countS m ⟨yk, ya, yv, yb⟩ = 0 := by simp [countS, hi]
    have HO := Lib.hid hop
    have HT := Lib.hid hct
    rw [hm] at d0
    clear hop hct
    go_upto_region 5 with fail
    have hR2 := hR1.step n
    have k2 := k1.set (p := ⟨D, 1, none⟩) (fun _ => Or.inl rfl) (.int .i64 n)
    have y0 := (hX1.far (C := D) (by omega) 1 (.int .i64 n)).cell 0 (.int .i64 yk) rfl
    go_quiet (fail)
    go_wp2
    have hop := HO.out
    have hct := HT.out
    have hne : ((yk : Int) != 4) = (yk != 4) := by rw [Bool.eq_iff_iff]; simp; omega
    refine bodyPost_ret (v := .tuple #[.int .i64 0, .bool ((yk : Int) != 4)]) (by simp [results, Tryz.results72, go_sem]) rfl ?_
    rw [hop, hct, hne]
    exact ⟨rfl, by rw [Int.add_zero]; exact hR2.keep (Q := fun _ => False) ((Keep.refl _ _).drewN _) (fun h => h) (fun h => h) (fun h => h), k2.drewN _⟩
end Go.Proofs.YtpopcallphbklaaGreat
/- The document's own tasks (doorkeeperref06): Step, New. (Written by tools/gen_refD.py.) -/
namespace Go.Proofs.YtpopcallphbklaaGreat
open Go.ChangeShapes Go.WideShapes Go.ChangeAt Go.RowKit
set_option linter.unusedVariables false
set_option maxRecDepth 100000
set_option linter.unusedSimpArgs false
theorem RTask.value {w : World} {T I : Nat} {l r : List Itm} {x : Int} (h : RTask w T I l r x) (v : Int) : RTask (w.setCell ⟨T, 2, none⟩ (.int .i64 v)) T I l r v := by
  obtain ⟨s, hb, hi⟩ := h.own
  exact ⟨⟨s, hb.set 2 _, hi.keep (Q := fun k => k = T) ((Keep.refl (fun k => k = T) w).set (p := ⟨T, 2, none⟩) (fun _ => rfl) _) (Ne.symm h.ne)⟩, h.rest, h.ne⟩
theorem RTask.next {w : World} {T I : Nat} {l r : List Itm} {y : Itm} {x : Int} (h : RTask w T I l (y :: r) x) : RTask (w.setCell ⟨T, 1, none⟩ (.int .i64 (((l.length - (y :: r).length : Nat) : Int) + 1))) T I l r x := by
  obtain ⟨s, hb, hi⟩ := h.own
  obtain ⟨e1, e2, e3⟩ := suffix_at h.rest
  refine ⟨⟨s, ?_, hi.keep (Q := fun k => k = T) ((Keep.refl (fun k => k = T) w).set (p := ⟨T, 1, none⟩) (fun _ => rfl) _) (Ne.symm h.ne)⟩, (List.suffix_cons y r).trans h.rest, h.ne⟩
  have := hb.set 1 (.int .i64 (((l.length - (y :: r).length : Nat) : Int) + 1))
  rw [e3]
  exact this
theorem rstep_no (T I D C P : Nat) (l r : List Itm) (x k n : Int) (m : List Int) (ps : List Bool) (w : World) (h : RTask w T I l r x) (hW : RWorld w D C P m ps n) (hok : ParkOk ps r) (hk : canS ps r k = false) :
    Calls Tryz.prog 38 #[ptrV T, ptrV D, .int .i64 k] w fun e w' => e = .returned (.bool false) ∧ Keep (fun _ => False) w w' := by
  have H := Lib.hid (rcan_any T I D C P l r x k n m ps w h hW hok)
  rw [hk] at H
  clear h hW hk hok
  go_enter Tryz.func38, Tryz.ntmps38
  go_wp2_with (go_at_call 69; refine H.out.mono ?_; rintro e w1 ⟨rfl, kC⟩)
  go_ret
  exact ⟨rfl, kC⟩
set_option maxHeartbeats 4000000 in
theorem rstep_yes (T I D C P : Nat) (l r : List Itm) (x k n : Int) (m : List Int) (ps : List Bool) (w : World) (h : RTask w T I l r x) (hW : RWorld w D C P m ps n) (hok : ParkOk ps r) (hne : T ≠ D ∧ T ≠ C ∧ T ≠ P ∧ I ≠ D ∧ I ≠ C ∧ I ≠ P) (hk : canS ps r k = true) (hn : 0 ≤ n ∧ n ≤ 1000) :
    Calls Tryz.prog 38 #[ptrV T, ptrV D, .int .i64 k] w fun e w' => e = .returned (.bool true) ∧ RTask w' T I l (stepS m ps r x k).2.2.1 (stepS m ps r x k).2.2.2 ∧
      RWorld w' D C P (stepS m ps r x k).1 (stepS m ps r x k).2.1 (n + stepCount m r) ∧ Keep (fun b => b = T ∨ b = D ∨ b = C ∨ b = P) w w' := by
  have H := Lib.hid (rcan_any T I D C P l r x k n m ps w h hW hok)
  rw [hk] at H
  cases r with
  | nil => simp [canS] at hk
  | cons y r =>
  have HK := Lib.hid hk
  have HOK := Lib.hid hok
  clear hk hok
  obtain ⟨v, hB, hI⟩ := h.own
  obtain ⟨a, cap, rfl, hs⟩ := hI.is
  obtain ⟨e1, e2, e3⟩ := suffix_at h.rest
  obtain rfl := hs (by omega)
  have hy := hI.ok y (List.mem_of_getElem? e1)
  have hfew := hI.few
  have c0 : w.cell? ⟨T, 0, none⟩ = some (.slice (some ⟨I, 0, none⟩) l.length cap) := hB.cell 0 _ rfl
  have c1 : w.cell? ⟨T, 1, none⟩ = some (.int .i64 ((l.length - (y :: r).length : Nat) : Int)) := hB.cell 1 _ rfl
  obtain ⟨q0, q1, q2, q3⟩ := hI.cell _ _ e1
  have HT := Lib.hid h
  have HW := Lib.hid hW
  have HN := Lib.hid hne
  have HY := Lib.hid hy
  have hi : ((l.length - (y :: r).length : Nat) : Int) < 30 := by omega
  have hTlt := hB.lt
  clear hB hI hs h hW hne hy e1 e3
  obtain ⟨yk, ya, yv, yb⟩ := y
  dsimp only at q0 q1 q2 q3
  generalize hlen : l.length = nl at *
  generalize hidx : nl - (⟨yk, ya, yv, yb⟩ :: r : List Itm).length = i at *
  go_enter Tryz.func38, Tryz.ntmps38
  go_upto_region 3 with (go_at_call 69; refine H.out.mono ?_; rintro e w0 ⟨rfl, kC⟩)
  replace c0 := cell_keep c0 kC (fun h => h)
  replace c1 := cell_keep c1 kC (fun h => h)
  replace q0 := cell_keep q0 kC (fun h => h)
  replace q1 := cell_keep q1 kC (fun h => h)
  replace q2 := cell_keep q2 kC (fun h => h)
  replace q3 := cell_keep q3 kC (fun h => h)
  replace HT := Lib.hid (HT.out.keep kC (fun h => h) (fun h => h))
  replace HW := Lib.hid (HW.out.keep kC (fun h => h) (fun h => h) (fun h => h))
  replace hTlt := Nat.lt_of_lt_of_le hTlt kC.size
  clear H
  have sK : ∀ W : World, Keep (fun _ => False) w0 W → (fun w' => w'.cell? ⟨T, 0, none⟩ = some (.slice (some ⟨I, 0, none⟩) nl cap) ∧ w'.cell? ⟨T, 1, none⟩ = some (.int .i64 (i : Int)) ∧ w'.cell? ⟨I, i * 4, none⟩ = some (.int .i64 (yk : Int)) ∧ w'.cell? ⟨I, i * 4 + 1, none⟩ = some (.int .i64 (ya : Int)) ∧ w'.cell? ⟨I, i * 4 + 2, none⟩ = some (.int .u64 yv) ∧ w'.cell? ⟨I, i * 4 + 3, none⟩ = some (.int .u64 yb)) W := fun W hk => ⟨cell_keep c0 hk (fun h => h), cell_keep c1 hk (fun h => h), cell_keep q0 hk (fun h => h), cell_keep q1 hk (fun h => h), cell_keep q2 hk (fun h => h), cell_keep q3 hk (fun h => h)⟩
  refine wp_region_held_drew (S := (fun w' => w'.cell? ⟨T, 0, none⟩ = some (.slice (some ⟨I, 0, none⟩) nl cap) ∧ w'.cell? ⟨T, 1, none⟩ = some (.int .i64 (i : Int)) ∧ w'.cell? ⟨I, i * 4, none⟩ = some (.int .i64 (yk : Int)) ∧ w'.cell? ⟨I, i * 4 + 1, none⟩ = some (.int .i64 (ya : Int)) ∧ w'.cell? ⟨I, i * 4 + 2, none⟩ = some (.int .u64 yv) ∧ w'.cell? ⟨I, i * 4 + 3, none⟩ = some (.int .u64 yb))) (by kernel_rfl) (sK _ (Keep.refl _ _).drew) (fun hHeld => ?_)
  refine wpAnyH_take (i := 0) (oi := _) (v := ?_) rfl (by kernel_rfl) (by kernel_rfl) (by kernel_rfl) (fun _ _ _ h => h) (Or.inl ⟨by rfl, ?_⟩) (by assumption) ?_
  rotate_left
  · intro w hSw; (try dsimp only at hSw); go_simp; try with_reducible rfl
  (try simp only [Act.put, List.setIfInBounds_toArray, List.set_cons_zero, List.set_cons_succ])
  refine wpAnyH_take (i := 1) (oi := _) (v := ?_) rfl (by kernel_rfl) (by kernel_rfl) (by kernel_rfl) (fun _ _ _ h => h) (Or.inl ⟨by rfl, ?_⟩) (by assumption) ?_
  rotate_left
  · intro w hSw; (try dsimp only at hSw); go_simp; try with_reducible rfl
  (try simp only [Act.put, List.setIfInBounds_toArray, List.set_cons_zero, List.set_cons_succ])
  refine wpAnyH_take (i := 2) (oi := _) (v := ?_) rfl (by kernel_rfl) (by kernel_rfl) (by kernel_rfl) (fun _ _ _ h => h) (Or.inl ⟨by rfl, ?_⟩) (by assumption) ?_
  rotate_left
  · intro w hSw; (try dsimp only at hSw); go_simp; try with_reducible rfl
  (try simp only [Act.put, List.setIfInBounds_toArray, List.set_cons_zero, List.set_cons_succ])
  refine wpAnyH_take (i := 3) (oi := _) (v := ?_) rfl (by kernel_rfl) (by kernel_rfl) (by kernel_rfl) (fun _ _ _ h => h) (Or.inl ⟨by rfl, ?_⟩) (by assumption) ?_
  rotate_left
  · intro w hSw; (try dsimp only at hSw); go_simp; try with_reducible rfl
  (try simp only [Act.put, List.setIfInBounds_toArray, List.set_cons_zero, List.set_cons_succ])
  refine wpAnyH_take (i := 4) (oi := _) (v := ?_) rfl (by kernel_rfl) (by kernel_rfl) (by kernel_rfl) (fun _ _ _ h => h) (Or.inl ⟨by rfl, ?_⟩) (by assumption) ?_
  rotate_left
  · intro w hSw; (try dsimp only at hSw); go_simp; try with_reducible rfl
  (try simp only [Act.put, List.setIfInBounds_toArray, List.set_cons_zero, List.set_cons_succ])
  refine wpAnyH_take (i := 5) (oi := _) (v := ?_) rfl (by kernel_rfl) (by kernel_rfl) (by kernel_rfl) (fun _ _ _ h => h) (Or.inl ⟨by rfl, ?_⟩) (by assumption) ?_
  rotate_left
  · intro w hSw; (try dsimp only at hSw); go_simp; try with_reducible rfl
  (try simp only [Act.put, List.setIfInBounds_toArray, List.set_cons_zero, List.set_cons_succ])
  refine wpAnyH_take (i := 6) (oi := _) (v := ?_) rfl (by kernel_rfl) (by kernel_rfl) (by kernel_rfl) (fun _ _ _ h => h) (Or.inl ⟨by rfl, ?_⟩) (by assumption) ?_
  rotate_left
  · intro w hSw; (try dsimp only at hSw); go_simp; try with_reducible rfl
  (try simp only [Act.put, List.setIfInBounds_toArray, List.set_cons_zero, List.set_cons_succ])
  refine wpAnyH_take (i := 7) (oi := _) (v := ?_) rfl (by kernel_rfl) (by kernel_rfl) (by kernel_rfl) (fun _ _ _ h => h) (Or.inl ⟨by rfl, ?_⟩) (by assumption) ?_
  rotate_left
  · intro w hSw; (try dsimp only at hSw); go_simp; try with_reducible rfl
  (try simp only [Act.put, List.setIfInBounds_toArray, List.set_cons_zero, List.set_cons_succ])
  refine wpAnyH_take (i := 8) (oi := _) (v := ?_) rfl (by kernel_rfl) (by kernel_rfl) (by kernel_rfl) (fun _ _ _ h => h) (Or.inl ⟨by rfl, ?_⟩) (by assumption) ?_
  rotate_left
  · intro w hSw; (try dsimp only at hSw); go_simp; try with_reducible rfl
  (try simp only [Act.put, List.setIfInBounds_toArray, List.set_cons_zero, List.set_cons_succ])
  refine wpAnyH_take (i := 9) (oi := _) (v := ?_) rfl (by kernel_rfl) (by kernel_rfl) (by kernel_rfl) (fun _ _ _ h => h) (Or.inl ⟨by rfl, ?_⟩) (by assumption) ?_
  rotate_left
  · intro w hSw; (try dsimp only at hSw); go_simp; try with_reducible rfl
  (try simp only [Act.put, List.setIfInBounds_toArray, List.set_cons_zero, List.set_cons_succ])
  refine wpAnyH_ready (rs := [10]) (by kernel_rfl) (by simp) ?_
  refine AllReadyH.cons rfl (fun K hK => ?_) AllReadyH.nil
  go_simp
  go_wp2_with fail
  refine hK.out _ _ (sK _ ((Keep.refl _ _).alloc _).drew) (fun hHeld => ?_)
  clear hK K
  (try dsimp only [Act.put]); (try simp only [Act.put, List.setIfInBounds_toArray, List.set_cons_zero, List.set_cons_succ])
  have hA : Keep (fun _ => False) w0 (w0.alloc (.cells #[.int .i64 0, .int .i64 0, .int .u64 0, .int .u64 0] 69)).drew := ((Keep.refl _ _).alloc _).drew
  have hN : Blk (w0.alloc (.cells #[.int .i64 0, .int .i64 0, .int .u64 0, .int .u64 0] 69)).drew w0.heap.size 69 #[.int .i64 0, .int .i64 0, .int .u64 0, .int .u64 0] := Blk.new _ _ _
  generalize (w0.alloc (.cells #[.int .i64 0, .int .i64 0, .int .u64 0, .int .u64 0] 69)).drew = W at *
  obtain ⟨⟨n0, n1⟩, ⟨n2, n3⟩, ⟨n4, n5⟩, ⟨n6, n7⟩, hX⟩ := store4 hN (.int .i64 yk) (.int .i64 ya) (.int .u64 yv) (.int .u64 yb)
  have kX := hA.set4 (b := w0.heap.size) (fun h => by omega) (.int .i64 yk) (.int .i64 ya) (.int .u64 yv) (.int .u64 yb)
  clear hHeld
  refine wpAnyH_ready (rs := [11]) (by kernel_rfl) (by simp) ?_
  refine AllReadyH.cons rfl (fun K hK => ?_) AllReadyH.nil
  go_simp
  go_wp2_with fail
  refine hK.out _ _ (sK _ kX) (fun hHeld => ?_)
  clear hK K
  (try dsimp only [Act.put]); (try simp only [Act.put, List.setIfInBounds_toArray, List.set_cons_zero, List.set_cons_succ])
  refine wpAnyH_done (by kernel_rfl) ?_ _
  clear n0 n1 n2 n3 n4 n5 n6 n7 hN hA sK hHeld
  generalize ((((W.setCell ⟨w0.heap.size, 0, none⟩ (.int .i64 yk)).setCell ⟨w0.heap.size, 1, none⟩ (.int .i64 ya)).setCell ⟨w0.heap.size, 2, none⟩ (.int .u64 yv)).setCell ⟨w0.heap.size, 3, none⟩ (.int .u64 yb)) = X at *
  replace HT := Lib.hid (HT.out.keep kX (fun h => h) (fun h => h))
  replace HW := Lib.hid (HW.out.keep kX (fun h => h) (fun h => h) (fun h => h))
  replace kC := kC.trans kX
  clear q0 q1 q2 q3 c0 c1 kX
  generalize w0.heap.size = b at *
  have H2 := Lib.hid (rparked_any T I l _ x X HT.out)
  by_cases hpk : yk = 5 ∨ yk = 6
  · have hpt : parkedS (⟨yk, ya, yv, yb⟩ :: r) = true := by simp [parkedS, hpk]
    rw [hpt] at H2
    have h3 := HOK.out _ List.mem_cons_self hpk
    dsimp only at h3
    go_upto_region 5 with (first
      | (go_at_call 68; refine H2.out.mono ?_; rintro e w1 ⟨rfl, g1, rfl⟩))
    replace kC := (kC.drewN g1).mono (Q' := fun b => b = T ∨ b = D ∨ b = C ∨ b = P) (fun _ _ h => h.elim)
    have kg : Keep (fun _ => False) X (X.drewN g1) := (Keep.refl _ _).drewN _
    replace HT := Lib.hid (HT.out.keep kg (fun h => h) (fun h => h))
    replace HW := Lib.hid (HW.out.keep kg (fun h => h) (fun h => h) (fun h => h))
    have x1 : (X.drewN g1).cell? ⟨b, 1, none⟩ = some (.int .i64 ya) := hX.cell 1 _ rfl
    clear kg H2 hX
    generalize X.drewN g1 = X1 at *
    by_cases hk0 : k = 0
    · subst hk0
      obtain ⟨cp, hO⟩ := HW.out.own
      obtain ⟨hm4, hp16⟩ := HW.out.few
      obtain ⟨np, hp⟩ : ∃ np, ps.length = np := ⟨_, rfl⟩
      rw [hp] at hp16
      have d2 : X1.cell? ⟨D, 2, none⟩ = some (.slice (some ⟨P, 0, none⟩) np np) := by have := hO.cell 2 _ rfl; rw [hp] at this; exact this
      obtain ⟨pb, hpb⟩ : ∃ pb, ps[ya]? = some pb := ⟨ps[ya]'(by omega), by simp⟩
      have pc := HW.out.perms.cell ya _ (permV_at hpb)
      have pz := HW.out.perms.free ya
      rw [hp] at h3
      have ya3 : 0 ≤ (ya : Int) ∧ (ya : Int) < (np : Int) := by omega
      clear hp
      clear hO hpb
      go_upto_region 6 with fail
      go_still_tail 7, (by kernel_rfl)
      change wpList _ _ _ _ _ X1.drew
      replace HT := Lib.hid (HT.out.keep (Q := fun _ => False) (w1 := X1.drew) (Keep.refl _ _).drew (fun h => h) (fun h => h))
      replace HW := Lib.hid (HW.out.keep (Q := fun _ => False) (w1 := X1.drew) (Keep.refl _ _).drew (fun h => h) (fun h => h) (fun h => h))
      replace kC := kC.drew
      replace pc : X1.drew.cell? _ = _ := pc
      replace pz : X1.drew.frozen? _ = _ := pz
      clear d2 x1
      generalize X1.drew = X2 at *
      go_upto_region 7 with fail
      replace HT := Lib.hid (HT.out.keep (Q := fun k => k = P) ((Keep.refl (fun k => k = P) _).set (p := ⟨P, ya, none⟩) (fun _ => rfl) (.int .i64 0)) HN.out.2.2.1 HN.out.2.2.2.2.2)
      replace HW := Lib.hid (HW.out.grant ya false)
      replace kC := kC.set (p := ⟨P, ya, none⟩) (fun _ => Or.inr (Or.inr (Or.inr rfl))) (.int .i64 0)
      simp only [Bool.false_eq_true, if_false, ↓reduceIte] at HW
      clear pc pz
      generalize X2.setCell ⟨P, ya, none⟩ (.int .i64 0) = X3 at *
      obtain ⟨sT, hBT, hIT⟩ := HT.out.own
      have z2 := hBT.free 2
      have c2 := hBT.cell 2 _ rfl
      clear hBT hIT
      go_upto_region 12 with fail
      replace HT := Lib.hid (HT.out.value 0)
      replace HW := Lib.hid (HW.out.keep (Q := fun k => k = T) ((Keep.refl (fun k => k = T) _).set (p := ⟨T, 2, none⟩) (fun _ => rfl) (.int .i64 0)) (Ne.symm HN.out.1) (Ne.symm HN.out.2.1) (Ne.symm HN.out.2.2.1))
      replace kC := kC.set (p := ⟨T, 2, none⟩) (fun _ => Or.inl rfl) (.int .i64 0)
      clear z2 c2
      generalize X3.setCell ⟨T, 2, none⟩ (.int .i64 0) = Y at *
      obtain ⟨sT, hBT, hIT⟩ := HT.out.own
      have z1 := hBT.free 1
      have c1 : Y.cell? ⟨T, 1, none⟩ = some (.int .i64 i) := by have := hBT.cell 1 _ rfl; rw [hlen, hidx] at this; exact this
      clear hBT hIT
      go_upto_region 13 with fail
      replace HT := Lib.hid HT.out.next
      rw [hlen, hidx] at HT
      replace HW := Lib.hid (HW.out.keep (Q := fun k => k = T) ((Keep.refl (fun k => k = T) _).set (p := ⟨T, 1, none⟩) (fun _ => rfl) (.int .i64 ((i : Int) + 1))) (Ne.symm HN.out.1) (Ne.symm HN.out.2.1) (Ne.symm HN.out.2.2.1))
      replace kC := kC.set (p := ⟨T, 1, none⟩) (fun _ => Or.inl rfl) (.int .i64 ((i : Int) + 1))
      clear z1 c1
      generalize Y.setCell ⟨T, 1, none⟩ (.int .i64 ((i : Int) + 1)) = Z at *
      have HO := Lib.hid (on_any T I l _ 0 Z HT.out)
      clear HT
      go_wp2_with (go_at_call 63; refine HO.out.mono ?_; rintro e w9 ⟨rfl, hT9, k9⟩)
      go_ret
      replace HW := HW.out.keep k9 (Ne.symm HN.out.1) (Ne.symm HN.out.2.1) (Ne.symm HN.out.2.2.1)
      replace kC := kC.step k9 (fun _ _ h => Or.inl h)
      have hst : stepS m ps (⟨yk, ya, yv, yb⟩ :: r) x 0 = (m, ps.set ya false, onS r 0) := by simp [stepS, hpk]
      have hct : stepCount m (⟨yk, ya, yv, yb⟩ :: r) = 0 := by simp [stepCount, hpk]
      rw [hst, hct, Int.add_zero]
      exact ⟨rfl, hT9, HW, kC⟩
    · have hk0' : ¬ k = 0 := hk0
      obtain ⟨sT, hBT, hIT⟩ := HT.out.own
      have z2 := hBT.free 2
      have c2 := hBT.cell 2 _ rfl
      clear hBT hIT
      go_upto_region 12 with fail
      replace HT := Lib.hid (HT.out.value k)
      replace HW := Lib.hid (HW.out.keep (Q := fun k => k = T) ((Keep.refl (fun k => k = T) _).set (p := ⟨T, 2, none⟩) (fun _ => rfl) (.int .i64 k)) (Ne.symm HN.out.1) (Ne.symm HN.out.2.1) (Ne.symm HN.out.2.2.1))
      replace kC := kC.set (p := ⟨T, 2, none⟩) (fun _ => Or.inl rfl) (.int .i64 k)
      clear z2 c2
      generalize X1.setCell ⟨T, 2, none⟩ (.int .i64 k) = Y at *
      obtain ⟨sT, hBT, hIT⟩ := HT.out.own
      have z1 := hBT.free 1
      have c1 : Y.cell? ⟨T, 1, none⟩ = some (.int .i64 i) := by have := hBT.cell 1 _ rfl; rw [hlen, hidx] at this; exact this
      clear hBT hIT
      go_upto_region 13 with fail
      replace HT := Lib.hid HT.out.next
      rw [hlen, hidx] at HT
      replace HW := Lib.hid (HW.out.keep (Q := fun k => k = T) ((Keep.refl (fun k => k = T) _).set (p := ⟨T, 1, none⟩) (fun _ => rfl) (.int .i64 ((i : Int) + 1))) (Ne.symm HN.out.1) (Ne.symm HN.out.2.1) (Ne.symm HN.out.2.2.1))
      replace kC := kC.set (p := ⟨T, 1, none⟩) (fun _ => Or.inl rfl) (.int .i64 ((i : Int) + 1))
      clear z1 c1
      generalize Y.setCell ⟨T, 1, none⟩ (.int .i64 ((i : Int) + 1)) = Z at *
      have HO := Lib.hid (on_any T I l _ k Z HT.out)
      clear HT
      go_wp2_with (go_at_call 63; refine HO.out.mono ?_; rintro e w9 ⟨rfl, hT9, k9⟩)
      go_ret
      replace HW := HW.out.keep k9 (Ne.symm HN.out.1) (Ne.symm HN.out.2.1) (Ne.symm HN.out.2.2.1)
      replace kC := kC.step k9 (fun _ _ h => Or.inl h)
      have hst : stepS m ps (⟨yk, ya, yv, yb⟩ :: r) x k = (m, ps, onS r k) := by simp [stepS, hpk, hk0]
      have hct : stepCount m (⟨yk, ya, yv, yb⟩ :: r) = 0 := by simp [stepCount, hpk]
      rw [hst, hct, Int.add_zero]
      exact ⟨rfl, hT9, HW, kC⟩
  · have hpt : parkedS (⟨yk, ya, yv, yb⟩ :: r) = false := by
      rw [not_or] at hpk
      simp [parkedS, hpk]
    rw [hpt] at H2
    have HPK := Lib.hid hpk
    replace kC := kC.mono (Q' := fun b => b = T ∨ b = D ∨ b = C ∨ b = P) (fun _ _ h => h.elim)
    have hD := HN.out
    clear hpt hpk
    go_upto_region 8 with (first
      | (go_at_call 68; refine H2.out.mono ?_; rintro e w1 ⟨rfl, g1, rfl⟩))
    replace kC := kC.drewN g1
    have kg : Keep (fun _ => False) X (X.drewN g1) := (Keep.refl _ _).drewN _
    replace HT := Lib.hid (HT.out.keep kg (fun h => h) (fun h => h))
    replace HW := Lib.hid (HW.out.keep kg (fun h => h) (fun h => h) (fun h => h))
    have x0 : (X.drewN g1).cell? ⟨b, 0, none⟩ = some (.int .i64 yk) := hX.cell 0 _ rfl
    have x1 : (X.drewN g1).cell? ⟨b, 1, none⟩ = some (.int .i64 ya) := hX.cell 1 _ rfl
    have x2 : (X.drewN g1).cell? ⟨b, 2, none⟩ = some (.int .u64 yv) := hX.cell 2 _ rfl
    have x3 : (X.drewN g1).cell? ⟨b, 3, none⟩ = some (.int .u64 yb) := hX.cell 3 _ rfl
    clear kg H2 hX
    generalize X.drewN g1 = X1 at *
    have HO := Lib.hid (rop_any D C P n m ps ⟨yk, ya, yv, yb⟩ X1 HW.out HY.out hn)
    have hst : stepS m ps (⟨yk, ya, yv, yb⟩ :: r) x k = (if (operS m ⟨yk, ya, yv, yb⟩).2.2 then ((operS m ⟨yk, ya, yv, yb⟩).1, ps, onS r (operS m ⟨yk, ya, yv, yb⟩).2.1) else ((operS m ⟨yk, ya, yv, yb⟩).1, ps, ⟨yk, ya, yv, yb⟩ :: r, x)) := by
      have := HPK.out; simp [stepS, this]
    have hct : stepCount m (⟨yk, ya, yv, yb⟩ :: r) = countS m ⟨yk, ya, yv, yb⟩ := by
      have := HPK.out; simp [stepCount, this]
    have HST := Lib.hid hst
    have HCT := Lib.hid hct
    clear hst hct
    go_upto_region 9 with (first
      | (go_at_call 72; refine HO.out.mono ?_; rintro e w2 ⟨rfl, hW2, k2⟩))
    replace HT := Lib.hid (HT.out.keep k2 (fun h => h.elim hD.1 hD.2.1) (fun h => h.elim hD.2.2.2.1 hD.2.2.2.2.1))
    replace kC := kC.step k2 (fun _ _ h => h.elim (fun h => Or.inr (Or.inl h)) (fun h => Or.inr (Or.inr (Or.inl h))))
    replace HW := Lib.hid hW2
    clear hW2 k2 HO x0 x1 x2 x3
    generalize operS m ⟨yk, ya, yv, yb⟩ = o at *
    obtain ⟨o1, o2, o3⟩ := o
    dsimp only at *
    cases o3
    · go_wp2
      go_ret
      rw [HST.out, HCT.out]
      exact ⟨rfl, HT.out, HW.out, kC⟩
    · go_upto_region 11 with fail
      obtain ⟨sT, hBT, hIT⟩ := HT.out.own
      have z2 := hBT.free 2
      have c2 := hBT.cell 2 _ rfl
      clear hBT hIT
      go_upto_region 12 with fail
      replace HT := Lib.hid (HT.out.value o2)
      replace HW := Lib.hid (HW.out.keep (Q := fun k => k = T) ((Keep.refl (fun k => k = T) _).set (p := ⟨T, 2, none⟩) (fun _ => rfl) (.int .i64 o2)) (Ne.symm HN.out.1) (Ne.symm HN.out.2.1) (Ne.symm HN.out.2.2.1))
      replace kC := kC.set (p := ⟨T, 2, none⟩) (fun _ => Or.inl rfl) (.int .i64 o2)
      clear z2 c2
      generalize w2.setCell ⟨T, 2, none⟩ (.int .i64 o2) = Y at *
      obtain ⟨sT, hBT, hIT⟩ := HT.out.own
      have z1 := hBT.free 1
      have c1 : Y.cell? ⟨T, 1, none⟩ = some (.int .i64 i) := by have := hBT.cell 1 _ rfl; rw [hlen, hidx] at this; exact this
      clear hBT hIT
      go_upto_region 13 with fail
      replace HT := Lib.hid HT.out.next
      rw [hlen, hidx] at HT
      replace HW := Lib.hid (HW.out.keep (Q := fun k => k = T) ((Keep.refl (fun k => k = T) _).set (p := ⟨T, 1, none⟩) (fun _ => rfl) (.int .i64 ((i : Int) + 1))) (Ne.symm HN.out.1) (Ne.symm HN.out.2.1) (Ne.symm HN.out.2.2.1))
      replace kC := kC.set (p := ⟨T, 1, none⟩) (fun _ => Or.inl rfl) (.int .i64 ((i : Int) + 1))
      clear z1 c1
      generalize Y.setCell ⟨T, 1, none⟩ (.int .i64 ((i : Int) + 1)) = Z at *
      have HO := Lib.hid (on_any T I l _ o2 Z HT.out)
      clear HT
      go_wp2_with (go_at_call 63; refine HO.out.mono ?_; rintro e w9 ⟨rfl, hT9, k9⟩)
      go_ret
      replace HW := HW.out.keep k9 (Ne.symm HN.out.1) (Ne.symm HN.out.2.1) (Ne.symm HN.out.2.2.1)
      replace kC := kC.step k9 (fun _ _ h => Or.inl h)
      rw [HST.out, HCT.out]
      exact ⟨rfl, hT9, HW, kC⟩
theorem rnew_any (I : Nat) (v : Value) (l : List Itm) (w : World) (h : ItemsAt w I v l) (hI : I < w.heap.size) :
    Calls Tryz.prog 26 #[v] w fun e w' => e = .returned (ptrV w.heap.size) ∧ RTask w' w.heap.size I l (onS l 0).1 (onS l 0).2 ∧ Below w.heap.size w w' := by
  obtain ⟨a, cap, rfl, hs⟩ := h.is
  have H := Lib.hid (on_any w.heap.size I l l 0 (w.alloc (.cells #[.slice a l.length cap, .int .i64 0, .int .i64 0] 127))
    ⟨⟨_, by rw [Nat.sub_self]; exact Blk.new _ _ _, h.keep (Q := fun _ => False) ((Keep.refl _ _).alloc _) (fun h => h)⟩, List.suffix_refl _, by omega⟩)
  clear hs h
  go_enter Tryz.func26, Tryz.ntmps26
  go_wp2_with (go_at_call 63; refine H.out.mono ?_; rintro e w9 ⟨rfl, hT9, k9⟩)
  go_ret
  exact ⟨rfl, hT9, ((Below.refl _ w).alloc (Nat.le_refl _) _).trans (k9.below (by simp) (fun i _ h => by omega))⟩
end Go.Proofs.YtpopcallphbklaaGreat
