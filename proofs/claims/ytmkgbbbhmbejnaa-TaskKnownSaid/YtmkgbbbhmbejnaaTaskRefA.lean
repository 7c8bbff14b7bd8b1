/- The document's own tasks (doorkeeperref06): on, New, Done, Parked. -/
import Derived.Test.YtmkgbbbhmbejnaaProg
import Derived.Test.YtmkgbbbhmbejnaaTaskSpec
import Derived.StillTailTactics
import Derived.Deep.CutBlock
import Derived.Deep.RegionHeld3
import Derived.BigGuardPart
import Derived.WalkSpells
import Derived.OwnWalk
import Derived.Lib.Hide
namespace Go.Proofs.Ytmkgbbbhmbejnaa
open Go.ChangeShapes Go.WideShapes Go.ChangeAt Go.RowKit
set_option linter.unusedVariables false
set_option maxRecDepth 100000
set_option linter.unusedSimpArgs false
/-- a slice of items, in block I -/
structure ItemsAt (w : World) (I : Nat) (v : Value) (l : List Itm) : Prop where
  is : ∃ a cap, v = .slice a l.length cap ∧ (0 < l.length → a = some ⟨I, 0, none⟩)
  cell : ∀ (i : Nat) (x : Itm), l[i]? = some x → w.cell? ⟨I, i * 4, none⟩ = some (.int .i64 x.kind) ∧ w.cell? ⟨I, i * 4 + 1, none⟩ = some (.int .i64 x.at') ∧ w.cell? ⟨I, i * 4 + 2, none⟩ = some (.int .u64 x.a) ∧ w.cell? ⟨I, i * 4 + 3, none⟩ = some (.int .u64 x.b)
  ok : ∀ x ∈ l, x.ok
  few : l.length ≤ 30
theorem cell_keep {w w1 : World} {Q : Nat → Prop} {p : Addr} {v : Value} (h : w.cell? p = some v) (hk : Keep Q w w1) (hn : ¬ Q p.block) : w1.cell? p = some v := by
  have hb : p.block < w.heap.size := by
    unfold World.cell? at h
    cases hb : w.heap[p.block]? with
    | none => rw [hb] at h; cases h
    | some y => exact (Array.getElem?_eq_some_iff.1 hb).1
  unfold World.cell? at h ⊢
  rw [hk.block p.block hb hn]
  exact h
theorem ItemsAt.keep {w w1 : World} {I : Nat} {v : Value} {l : List Itm} {Q : Nat → Prop} (h : ItemsAt w I v l) (hk : Keep Q w w1) (hn : ¬ Q I) : ItemsAt w1 I v l :=
  ⟨h.is, fun i x hx => ⟨cell_keep (h.cell i x hx).1 hk hn, cell_keep (h.cell i x hx).2.1 hk hn, cell_keep (h.cell i x hx).2.2.1 hk hn, cell_keep (h.cell i x hx).2.2.2 hk hn⟩, h.ok, h.few⟩
/-- a task of the document's: its items, what is left, its value -/
structure RTask (w : World) (T I : Nat) (l r : List Itm) (x : Int) : Prop where
  own : ∃ v, Blk w T 95 #[v, .int .i64 ((l.length - r.length : Nat) : Int), .int .i64 x] ∧ ItemsAt w I v l
  rest : r <:+ l
  ne : T ≠ I
theorem RTask.keep {w w1 : World} {T I : Nat} {l r : List Itm} {x : Int} {Q : Nat → Prop} (h : RTask w T I l r x) (hk : Keep Q w w1) (h1 : ¬ Q T) (h2 : ¬ Q I) : RTask w1 T I l r x := by
  obtain ⟨v, hb, hi⟩ := h.own
  exact ⟨⟨v, hb.keep hk h1, hi.keep hk h2⟩, h.rest, h.ne⟩
abbrev ptrV (T : Nat) : Value := .pointer (some ⟨T, 0, none⟩)
theorem suffix_at {l r : List Itm} {y : Itm} (h : y :: r <:+ l) : l[l.length - (y :: r).length]? = some y ∧ l.length - (y :: r).length < l.length ∧ l.length - r.length = l.length - (y :: r).length + 1 := by
  obtain ⟨p, rfl⟩ := h
  simp
  omega
theorem on_any (T I : Nat) (l r : List Itm) (x : Int) (w : World) (h : RTask w T I l r x) :
    Calls Try.prog 55 #[ptrV T] w fun e w' => e = .returned (.tuple #[]) ∧ RTask w' T I l (onS r x).1 (onS r x).2 ∧ Keep (fun k => k = T) w w' := by
  have H0 := Lib.hid h
  clear h
  go_enter Try.func55, Try.ntmps55
  go_wp2
  go_loopw [25] (fun _ wr => ∃ (r' : List Itm) (x' : Int), onS r' x' = onS r x ∧ r'.length ≤ r.length ∧ RTask wr T I l r' x' ∧ Keep (fun k => k = T) w wr) (fun _ wr => match wr.cell? ⟨T, 1, none⟩ with | some (.int _ z) => l.length - z.toNat | _ => 0)
  case atStart => exact ⟨r, x, rfl, Nat.le_refl _, H0.out, Keep.refl _ _⟩
  case round =>
    obtain ⟨r', x', he, hle, hR, hK⟩ := hrel
    obtain ⟨v, hB, hI⟩ := hR.own
    obtain ⟨a, cap, rfl, hs⟩ := hI.is
    have c0 := hB.cell 0 _ rfl
    have c1 := hB.cell 1 _ rfl
    dsimp only [List.getElem_toArray, List.getElem_cons_zero, List.getElem_cons_succ] at c0 c1
    have hle2 := hR.rest.length_le
    have hfew := hI.few
    cases r' with
    | nil =>
      have HE := Lib.hid he
      have HR := Lib.hid hR
      clear he hI hB hs hR
      simp only [List.length_nil, Nat.sub_zero] at c1
      generalize l.length = n at *
      go_upto_region 0 with fail
      go_quiet (fail)
      go_wp2
      go_end0
      have he := HE.out
      rw [onS_nil] at he
      rw [← he]
      exact ⟨rfl, HR.out.keep (Q := fun _ => False) ((Keep.refl _ _).drewN _) (fun h => h) (fun h => h), hK.drewN _⟩
    | cons y rr =>
      obtain ⟨e1, e2, e3⟩ := suffix_at hR.rest
      obtain rfl := hs (by omega)
      obtain ⟨q0, q1, q2, q3⟩ := hI.cell _ _ e1
      have hy := hI.ok y (List.mem_of_getElem? e1)
      have hcv : y.kind = 7 → IntKind.i64.wrap y.a = y.a := fun h => by have := hy.a; have := hy.ready h; rw [IntKind.wrap_i64]; omega
      have hR7 : ∀ W, Keep (fun _ => False) wr W → RTask ((W.setCell ⟨T, 2, none⟩ (.int .i64 y.a)).setCell ⟨T, 1, none⟩ (.int .i64 ((l.length - (y :: rr).length + 1 : Nat) : Int))) T I l rr y.a := fun W hW => by
        have hb := (((hB.keep hW (fun h => h)).set 2 (.int .i64 y.a)).set 1 (.int .i64 ((l.length - (y :: rr).length + 1 : Nat) : Int)))
        refine ⟨⟨_, ?_, (hI.keep hW (fun h => h)).keep (Q := fun k => k = T) ((((Keep.refl (fun k => k = T) W).set (p := ⟨T, 2, none⟩) (fun _ => rfl) _)).set (p := ⟨T, 1, none⟩) (fun _ => rfl) _) (Ne.symm hR.ne)⟩, (List.suffix_cons y rr).trans hR.rest, hR.ne⟩
        rw [e3]
        exact hb
      have HR := Lib.hid hR
      have HE := Lib.hid he
      have C1 := Lib.hid c1
      have HS := Lib.hid hR7
      have HB := Lib.hid hB
      clear hI hR hB hs he hR7 e1 e3 q1 q3 hy
      generalize l.length = n at *
      generalize n - (y :: rr).length = i at *
      obtain ⟨yk, ya, yv, yb⟩ := y
      dsimp only at *
      by_cases h7 : yk = 7
      · subst h7
        replace hcv := hcv rfl
        go_upto_region 0 with fail
        go_quiet (fail)
        go_wp2
        have kW : Keep (fun _ => False) wr (wr.drewN nq).drew := ((Keep.refl _ _).drewN _).drew
        have B1 := HB.out.keep kW (fun h => h)
        replace c0 : (wr.drewN nq).cell? _ = _ := c0
        replace c1 : (wr.drewN nq).cell? _ = _ := c1
        replace q2 : (wr.drewN nq).cell? _ = _ := q2
        have HS2 := Lib.hid (HS.out _ kW)
        have HK := Lib.hid (hK.step kW (fun _ _ h => h.elim))
        clear kW HS HB q0 hK
        generalize wr.drewN nq = W1 at *
        go_still_tail 15, (by kernel_rfl)
        change wpList _ _ _ _ _ W1.drew
        generalize W1.drew = W2 at *
        clear c0 c1 q2
        have z2 := B1.free 2
        have c2 := B1.cell 2 (.int .i64 x') rfl
        go_upto_region 2 with fail
        have B2 := B1.set 2 (.int .i64 yv)
        have HS3 := Lib.hid HS2
        clear z2 B1 HS2 c2
        generalize hW3 : W2.setCell ⟨T, 2, none⟩ (.int .i64 yv) = W3 at *
        have z1 := B2.free 1
        have c1 := B2.cell 1 (.int .i64 i) rfl
        have i1 : (i : Int) + 1 ≤ 31 := by omega
        go_wp2
        have B3 := (B2.set 1 (.int .i64 ((i : Int) + 1))).cell 1 (.int .i64 ((i : Int) + 1)) rfl
        have hS := HS3.out.out
        rw [Int.natCast_add, Int.natCast_one] at hS
        refine ⟨⟨rr, yv, ?_, ?_, hS, ?_⟩, ?_⟩
        · rw [← HE.out]; exact (onS_ready (x := ⟨7, ya, yv, yb⟩) rfl rr x').symm
        · simp only [List.length_cons] at hle; omega
        · have hk := HK.out
          rw [← hW3]
          exact (hk.set (p := ⟨T, 2, none⟩) (fun _ => rfl) _).set (p := ⟨T, 1, none⟩) (fun _ => rfl) _
        · rw [B3, C1.out]
          simp
          omega
      · go_upto_region 0 with fail
        go_quiet (fail)
        go_wp2
        go_end0
        have he := HE.out
        rw [onS_other h7] at he
        rw [← he]
        exact ⟨rfl, HR.out.keep (Q := fun _ => False) ((Keep.refl _ _).drewN _) (fun h => h) (fun h => h), hK.drewN _⟩
theorem rest_at {l r : List Itm} (h : r <:+ l) : (r = [] → l.length ≤ l.length - r.length) ∧ (r ≠ [] → l.length - r.length < l.length) := by
  have hle := h.length_le
  cases r with
  | nil => simp
  | cons y r => simp at hle ⊢; omega
theorem rdone_any (T I : Nat) (l r : List Itm) (x : Int) (w : World) (h : RTask w T I l r x) :
    Calls Try.prog 56 #[ptrV T] w fun e w' => e = .returned (.bool r.isEmpty) ∧ ∃ m, w' = w.drewN m := by
  obtain ⟨v, hB, hI⟩ := h.own
  obtain ⟨a, cap, rfl, hs⟩ := hI.is
  have c0 : w.cell? ⟨T, 0, none⟩ = some (.slice a l.length cap) := hB.cell 0 _ rfl
  have c1 : w.cell? ⟨T, 1, none⟩ = some (.int .i64 ((l.length - r.length : Nat) : Int)) := hB.cell 1 _ rfl
  obtain ⟨hle, hlt⟩ := rest_at h.rest
  clear hB hI hs h
  generalize l.length = n at *
  generalize n - r.length = i at *
  cases r with
  | nil =>
    have hle := hle rfl
    clear hlt
    go_enter Try.func56, Try.ntmps56
    go_upto_region 1 with fail
    go_quiet (fail)
    go_wp2
    go_ret
    exact ⟨by simp, _, rfl⟩
  | cons y r =>
    have hlt := hlt (by simp)
    clear hle
    go_enter Try.func56, Try.ntmps56
    go_upto_region 1 with fail
    go_quiet (fail)
    go_wp2
    go_ret
    exact ⟨by simp; omega, _, rfl⟩
theorem rparked_any (T I : Nat) (l r : List Itm) (x : Int) (w : World) (h : RTask w T I l r x) :
    Calls Try.prog 57 #[ptrV T] w fun e w' => e = .returned (.bool (parkedS r)) ∧ ∃ m, w' = w.drewN m := by
  have H := fun m => rdone_any T I l r x (w.drewN m) (h.keep (Q := fun _ => False) ((Keep.refl _ _).drewN m) (fun h => h) (fun h => h))
  obtain ⟨v, hB, hI⟩ := h.own
  obtain ⟨a, cap, rfl, hs⟩ := hI.is
  have c0 : w.cell? ⟨T, 0, none⟩ = some (.slice a l.length cap) := hB.cell 0 _ rfl
  have c1 : w.cell? ⟨T, 1, none⟩ = some (.int .i64 ((l.length - r.length : Nat) : Int)) := hB.cell 1 _ rfl
  cases r with
  | nil =>
    simp only [List.isEmpty_nil] at H
    have HH := Lib.hid H
    clear hB hI hs h H
    go_enter Try.func57, Try.ntmps57
    go_upto_region 1 with fail
    go_quiet (first | (go_at_call 56; exact Calls.quiet_of (HH.out _)))
    go_wp2
    go_ret
    exact ⟨rfl, _, rfl⟩
  | cons y r =>
    obtain ⟨e1, e2, e3⟩ := suffix_at h.rest
    obtain rfl := hs (by omega)
    obtain ⟨q0, q1, q2, q3⟩ := hI.cell _ _ e1
    simp only [List.isEmpty_cons] at H
    have HH := Lib.hid H
    have hfew := hI.few
    clear hB hI hs h H q1 q2 q3 e1 e3
    generalize l.length = n at *
    generalize n - (y :: r).length = i at *
    obtain ⟨yk, ya, yv, yb⟩ := y
    dsimp only at *
    by_cases h5 : yk = 5
    · subst h5
      go_enter Try.func57, Try.ntmps57
      go_upto_region 1 with fail
      go_quiet (first | (go_at_call 56; exact Calls.quiet_of (HH.out _)))
      go_wp2
      go_ret
      exact ⟨rfl, _, rfl⟩
    · by_cases h6 : yk = 6
      · subst h6
        go_enter Try.func57, Try.ntmps57
        go_upto_region 1 with fail
        go_quiet (first | (go_at_call 56; exact Calls.quiet_of (HH.out _)))
        go_wp2
        go_ret
        exact ⟨rfl, _, rfl⟩
      · have h5' : ¬ (yk : Int) = 5 := by omega
        have h6' : ¬ (yk : Int) = 6 := by omega
        have hp : parkedS (⟨yk, ya, yv, yb⟩ :: r) = false := by simp [parkedS, h5, h6]
        rw [hp]
        go_enter Try.func57, Try.ntmps57
        go_upto_region 1 with fail
        go_quiet (first | (go_at_call 56; exact Calls.quiet_of (HH.out _)))
        go_wp2
        go_ret
        exact ⟨by simp [h5', h6'], _, rfl⟩
end Go.Proofs.Ytmkgbbbhmbejnaa
