/- Package spec: interrupt (written by tools/gen_sp.py). -/
import Derived.Test.YtcgljmeppmdihaaSpC
namespace Go.Proofs.Ytcgljmeppmdihaa
open Go.ChangeShapes Go.WideShapes Go.ChangeAt Go.RowKit
set_option linter.unusedVariables false
set_option maxRecDepth 100000
set_option linter.unusedSimpArgs false
theorem flagS_get {s : SS} {a t : Nat} {x : Th} (hx : s.T[t]? = some x) : ∃ x2, (flagS s a).T[t]? = some x2 := by
  unfold flagS
  cases hy : s.T[a]? with
  | none => exact ⟨x, hx⟩
  | some y =>
    by_cases h : t = a
    · subst h; exact ⟨_, set_same hx⟩
    · exact ⟨x, (set_other h).trans hx⟩
theorem SpecAt.flagT {w : World} {A : Nat → Prop} {p : Pl} {s : SS} (h : SpecAt w A p s) {a : Nat} {y : Th} (hy : s.T[a]? = some y) : SpecAt (w.setCell ⟨p.T, a * 9 + 5, none⟩ (.bool true)) A p (flagS s a) := by
  unfold flagS
  rw [hy]
  exact h.setT hy (x' := { y with flag := true }) 5 (.bool true) (by omega) rfl
set_option maxHeartbeats 4000000 in
theorem intr_n {w : World} {A : Nat → Prop} {p : Pl} {s : SS} (h : SpecAt w A p s) {t o : Nat} {x : Th} {b : Ob} (hx : s.T[t]? = some x) (hb : s.O[o]? = some b) (kind idx act oth code val : Int) (hn : ¬ (act = 6 ∧ oth = x.arg)) :
    Calls Try.prog 50 #[spV p, evV ⟨kind, (t : Int), idx, act, (o : Int), oth, code, val⟩] w (HandPost w A p s none) := by
  have H := Lib.hid h
  have HX := Lib.hid hx
  have HB := Lib.hid hb
  have ix := idx_thrs p.T s.T.length p.cT t (thr_lt hx)
  have iy := idx_objs p.O s.O.length p.cO o (obj_lt hb)
  have Hhn := Lib.hid hn
  have HF0 := Lib.hid (Fr.boxed h ⟨kind, (t : Int), idx, act, (o : Int), oth, code, val⟩)
  clear h hx hb hn
  go_enter Try.func50, Try.ntmps50
  go_upto_region 1 with fail
  generalize hW : w.alloc _ = W at HF0 ⊢
  obtain ⟨bx, hbx⟩ : ∃ bx, bx = w.heap.size := ⟨_, rfl⟩
  rw [← hbx] at HF0 ⊢
  clear hbx hW
  obtain ⟨⟨c0, c1⟩, b0, b1, b2, b3, b4, b5, b6, b7⟩ := HF0.out.cells
  have xa := (HF0.out.sp.th HX.out).arg
  go_quiet (fail)
  generalize hq : World.drewN _ _ = W2
  have HF1 := Lib.hid (show Fr w W2 A p s bx _ from by rw [← hq]; exact (HF0.out.drewN _))
  clear HF0 c0 c1 b0 b1 b2 b3 b4 b5 b6 b7 xa
  obtain ⟨⟨c0, c1⟩, b0, b1, b2, b3, b4, b5, b6, b7⟩ := HF1.out.cells
  have xa := (HF1.out.sp.th HX.out).arg
  clear hq
  go_upto_region 2 with fail
  have SK := Lib.hid (show ∀ A, Below W2.heap.size W2 A → ((A.cell? ⟨bx, 0, none⟩ = some (.int .i64 kind) ∧ A.cell? ⟨bx, 1, none⟩ = some (.int .i64 (t : Int)) ∧ A.cell? ⟨bx, 2, none⟩ = some (.int .i64 idx) ∧ A.cell? ⟨bx, 3, none⟩ = some (.int .i64 act) ∧ A.cell? ⟨bx, 4, none⟩ = some (.int .i64 (o : Int)) ∧ A.cell? ⟨bx, 5, none⟩ = some (.int .i64 oth) ∧ A.cell? ⟨bx, 6, none⟩ = some (.int .i64 code) ∧ A.cell? ⟨bx, 7, none⟩ = some (.int .i64 val)) ∧ A.cell? ⟨p.T, t * 9 + 2, none⟩ = some (.int .i64 x.arg)) from fun A hA => by have hh := HF1.out.below hA; have he := evAt hh.ev; exact ⟨⟨he.b0, he.b1, he.b2, he.b3, he.b4, he.b5, he.b6, he.b7⟩, (hh.sp.th HX.out).arg⟩)
  have bd : Below W2.heap.size W2 W2.drew := ⟨rfl, rfl, rfl, Nat.le_refl _, fun _ _ => rfl⟩
  go_region_held3 (fun A => (A.cell? ⟨bx, 0, none⟩ = some (.int .i64 kind) ∧ A.cell? ⟨bx, 1, none⟩ = some (.int .i64 (t : Int)) ∧ A.cell? ⟨bx, 2, none⟩ = some (.int .i64 idx) ∧ A.cell? ⟨bx, 3, none⟩ = some (.int .i64 act) ∧ A.cell? ⟨bx, 4, none⟩ = some (.int .i64 (o : Int)) ∧ A.cell? ⟨bx, 5, none⟩ = some (.int .i64 oth) ∧ A.cell? ⟨bx, 6, none⟩ = some (.int .i64 code) ∧ A.cell? ⟨bx, 7, none⟩ = some (.int .i64 val)) ∧ A.cell? ⟨p.T, t * 9 + 2, none⟩ = some (.int .i64 x.arg)) (first | exact SK.out _ bd2 | exact SK.out _ bd) (first | (go_at_call 67; ((with_reducible refine (is_no ⟨kind, (t : Int), idx, act, (o : Int), oth, code, val⟩ _ _ _ Hhn.out).mono ?_)); rintro r w2 ⟨rfl, hb2⟩; have bd2 : Below W2.heap.size W2 w2 := bd.trans hb2))
  have HG := Lib.hid (HF1.out.below bd2)
  clear SK bd hb2 HF1 c0 c1 b0 b1 b2 b3 b4 b5 b6 b7 xa bd2
  go_wp2_with fail
  go_ret
  exact HandPost.no HG.out.sp HG.out.kp
set_option maxHeartbeats 4000000 in
theorem intr_y {w : World} {A : Nat → Prop} {p : Pl} {s : SS} (h : SpecAt w A p s) {t o : Nat} {x : Th} {b : Ob} (hx : s.T[t]? = some x) (hb : s.O[o]? = some b) (kind idx act oth code val : Int) (a : Nat) (y : Th) (h1 : act = 6) (h2 : oth = (a : Int)) (ha : x.arg = (a : Int)) (hy : s.T[a]? = some y) :
    Calls Try.prog 50 #[spV p, evV ⟨kind, (t : Int), idx, act, (o : Int), oth, code, val⟩] w (HandPost w A p s (some (endS (flagS s a) t 0 0))) := by
  have H := Lib.hid h
  have HX := Lib.hid hx
  have HB := Lib.hid hb
  have ix := idx_thrs p.T s.T.length p.cT t (thr_lt hx)
  have iy := idx_objs p.O s.O.length p.cO o (obj_lt hb)
  have iz := idx_thrs p.T s.T.length p.cT a (thr_lt hy)
  have Hh1 := Lib.hid h1
  have Hh2 := Lib.hid h2
  have Hha := Lib.hid ha
  have Hhy := Lib.hid hy
  have HF0 := Lib.hid (Fr.boxed h ⟨kind, (t : Int), idx, act, (o : Int), oth, code, val⟩)
  clear h hx hb h1 h2 ha hy
  go_enter Try.func50, Try.ntmps50
  go_upto_region 1 with fail
  generalize hW : w.alloc _ = W at HF0 ⊢
  obtain ⟨bx, hbx⟩ : ∃ bx, bx = w.heap.size := ⟨_, rfl⟩
  rw [← hbx] at HF0 ⊢
  clear hbx hW
  obtain ⟨⟨c0, c1⟩, b0, b1, b2, b3, b4, b5, b6, b7⟩ := HF0.out.cells
  have xa := (HF0.out.sp.th HX.out).arg
  rw [Hha.out] at xa
  go_quiet (fail)
  generalize hq : World.drewN _ _ = W2
  have HF1 := Lib.hid (show Fr w W2 A p s bx _ from by rw [← hq]; exact (HF0.out.drewN _))
  clear HF0 c0 c1 b0 b1 b2 b3 b4 b5 b6 b7 xa
  obtain ⟨⟨c0, c1⟩, b0, b1, b2, b3, b4, b5, b6, b7⟩ := HF1.out.cells
  have xa := (HF1.out.sp.th HX.out).arg
  rw [Hha.out] at xa
  clear hq
  go_upto_region 2 with fail
  have SK := Lib.hid (show ∀ A, Below W2.heap.size W2 A → ((A.cell? ⟨bx, 0, none⟩ = some (.int .i64 kind) ∧ A.cell? ⟨bx, 1, none⟩ = some (.int .i64 (t : Int)) ∧ A.cell? ⟨bx, 2, none⟩ = some (.int .i64 idx) ∧ A.cell? ⟨bx, 3, none⟩ = some (.int .i64 act) ∧ A.cell? ⟨bx, 4, none⟩ = some (.int .i64 (o : Int)) ∧ A.cell? ⟨bx, 5, none⟩ = some (.int .i64 oth) ∧ A.cell? ⟨bx, 6, none⟩ = some (.int .i64 code) ∧ A.cell? ⟨bx, 7, none⟩ = some (.int .i64 val)) ∧ A.cell? ⟨p.T, t * 9 + 2, none⟩ = some (.int .i64 (a : Int))) from fun A hA => by have hh := HF1.out.below hA; have he := evAt hh.ev; exact ⟨⟨he.b0, he.b1, he.b2, he.b3, he.b4, he.b5, he.b6, he.b7⟩, by have h5 := (hh.sp.th HX.out).arg; rwa [Hha.out] at h5⟩)
  have bd : Below W2.heap.size W2 W2.drew := ⟨rfl, rfl, rfl, Nat.le_refl _, fun _ _ => rfl⟩
  go_region_held3 (fun A => (A.cell? ⟨bx, 0, none⟩ = some (.int .i64 kind) ∧ A.cell? ⟨bx, 1, none⟩ = some (.int .i64 (t : Int)) ∧ A.cell? ⟨bx, 2, none⟩ = some (.int .i64 idx) ∧ A.cell? ⟨bx, 3, none⟩ = some (.int .i64 act) ∧ A.cell? ⟨bx, 4, none⟩ = some (.int .i64 (o : Int)) ∧ A.cell? ⟨bx, 5, none⟩ = some (.int .i64 oth) ∧ A.cell? ⟨bx, 6, none⟩ = some (.int .i64 code) ∧ A.cell? ⟨bx, 7, none⟩ = some (.int .i64 val)) ∧ A.cell? ⟨p.T, t * 9 + 2, none⟩ = some (.int .i64 (a : Int))) (first | exact SK.out _ bd2 | exact SK.out _ bd) (first | (go_at_call 67; ((with_reducible refine (is_yes ⟨kind, (t : Int), idx, act, (o : Int), oth, code, val⟩ _ _ _ Hh1.out Hh2.out).mono ?_)); rintro r w2 ⟨rfl, hb2⟩; have bd2 : Below W2.heap.size W2 w2 := bd.trans hb2))
  have HG := Lib.hid (HF1.out.below bd2)
  clear SK bd hb2 HF1 c0 c1 b0 b1 b2 b3 b4 b5 b6 b7 xa bd2
  obtain ⟨⟨c0, c1⟩, b0, b1, b2, b3, b4, b5, b6, b7⟩ := HG.out.cells
  have xa := (HG.out.sp.th HX.out).arg
  rw [Hha.out] at xa
  have yf := (HG.out.sp.th Hhy.out).flag
  have fy := HG.out.sp.freeT (a * 9 + 5)
  have hTm := HG.out.sp.mine.2.1
  go_upto_region 4 with fail
  have HGd := Lib.hid (HG.out.drew)
  go_still_tail 11, (by kernel_rfl)
  change wpList _ _ _ _ _ (w2.drew)
  generalize w2.drew = Wd at HGd ⊢
  have yf := (HGd.out.sp.th Hhy.out).flag
  have fy := HGd.out.sp.freeT (a * 9 + 5)
  have HO := Lib.hid (show Fr w (Wd.setCell ⟨p.T, a * 9 + 5, none⟩ (.bool true)) A p (flagS s a) bx _ from HGd.out.step (HGd.out.sp.flagT Hhy.out) ((Keep.refl A _).set (fun _ => hTm) _))
  obtain ⟨x2, hx2⟩ := flagS_get (s := s) (a := a) HX.out
  have HX2 := Lib.hid hx2
  clear hx2
  go_wp2_with fail
  refine (end_any HO.out.sp HX2.out 0 0).mono ?_
  rintro r9 w9 ⟨rfl, hs9, hk9⟩
  go_wp2_with fail
  go_ret
  exact HandPost.yes hs9 (HO.out.kp.trans hk9)
theorem interrupt_any {w : World} {A : Nat → Prop} {p : Pl} {s : SS} (h : SpecAt w A p s) {t o : Nat} {x : Th} {b : Ob} (hx : s.T[t]? = some x) (hb : s.O[o]? = some b) (kind idx act oth code val : Int) (hv : 0 ≤ x.arg ∧ x.arg < s.T.length) :
    Calls Try.prog 50 #[spV p, evV ⟨kind, (t : Int), idx, act, (o : Int), oth, code, val⟩] w (HandPost w A p s (interruptS s t x ⟨kind, (t : Int), idx, act, (o : Int), oth, code, val⟩)) := by
  unfold interruptS
  dsimp only
  by_cases h1 : act = 6 ∧ oth = x.arg
  · rw [if_pos h1]
    obtain ⟨y, hy⟩ : ∃ y, s.T[x.arg.toNat]? = some y := ⟨_, List.getElem?_eq_getElem (by omega)⟩
    exact intr_y h hx hb kind idx act oth code val x.arg.toNat y h1.1 (by omega) (by omega) hy
  · rw [if_neg h1]
    exact intr_n h hx hb kind idx act oth code val h1
end Go.Proofs.Ytcgljmeppmdihaa
