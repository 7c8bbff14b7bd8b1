/- Law 12's own functions: call, act, back, takes, seen. -/
import Derived.Test.YtcgljmeppmdihaaSpR
import Derived.Test.YtcgljmeppmdihaaSpS
import Derived.Test.YtcgljmeppmdihaaSpT
namespace Go.Proofs.Ytcgljmeppmdihaa
open Go.ChangeShapes Go.WideShapes Go.ChangeAt Go.RowKit
set_option linter.unusedVariables false
set_option maxRecDepth 100000
set_option linter.unusedSimpArgs false
theorem lcall_any (t i op arg : Int) (w : World) : Calls Try.prog 15 #[.int .i64 t, .int .i64 i, .int .i64 op, .int .i64 arg] w fun e w' => e = .returned (evV ⟨0, t, i, op, 0, arg, 0, 0⟩) ∧ Below w.heap.size w w' := by
  go_enter Try.func15, Try.ntmps15
  go_wp2_with fail
  exact bodyPost_ret (v := evV ⟨0, t, i, op, 0, arg, 0, 0⟩) (by simp [results, Try.results15, go_sem]) rfl ⟨rfl, by go_grown⟩
theorem lact_any (t what other : Int) (w : World) : Calls Try.prog 16 #[.int .i64 t, .int .i64 what, .int .i64 other] w fun e w' => e = .returned (evV ⟨1, t, 0, what, 0, other, 0, 0⟩) ∧ Below w.heap.size w w' := by
  go_enter Try.func16, Try.ntmps16
  go_wp2_with fail
  exact bodyPost_ret (v := evV ⟨1, t, 0, what, 0, other, 0, 0⟩) (by simp [results, Try.results16, go_sem]) rfl ⟨rfl, by go_grown⟩
theorem lback_any (t i code value : Int) (w : World) : Calls Try.prog 17 #[.int .i64 t, .int .i64 i, .int .i64 code, .int .i64 value] w fun e w' => e = .returned (evV ⟨2, t, i, 0, 0, 0, code, value⟩) ∧ Below w.heap.size w w' := by
  go_enter Try.func17, Try.ntmps17
  go_wp2_with fail
  exact bodyPost_ret (v := evV ⟨2, t, i, 0, 0, 0, code, value⟩) (by simp [results, Try.results17, go_sem]) rfl ⟨rfl, by go_grown⟩
/-- events, one behind the other: the state, and whether all may come -/
def takesS (s : SS) : List Ev → SS × Bool
  | [] => (s, true)
  | e :: l => match takeS s e with
    | some s' => takesS s' l
    | none => (s, false)
theorem takesS_wf : ∀ (l : List Ev) {s : SS}, WF s → WF (takesS s l).1
  | [], s, h => h
  | e :: l, s, h => by
    unfold takesS
    split
    · rename_i s' hs
      exact takesS_wf l (takeS_wf h hs)
    · exact h
theorem EvsAt.keep {w w1 : World} {F : Nat → Prop} {B off : Nat} {l : List Ev} (h : EvsAt w B off l) (hk : Keep F w w1) (hn : ¬ F B) : EvsAt w1 B off l := fun i e he j v hv => scell_keep (h i e he j v hv) hk hn
theorem idx_evs (B off len c i : Nat) (h : i < len) : ∀ W, (Instr.indexAt 31 (.slice (some ⟨B, off, none⟩) len c) (.int .i64 (i : Int))).run Try.prog W = .ok (.pointer (some ⟨B, off + i * 8, none⟩)) W := by
  intro W
  go_simp
/-- what a run of events leaves -/
def RunPost (w : World) (A : Nat → Prop) (p : Pl) (r : SS × Bool) (e : Ending) (w' : World) : Prop :=
  e = .returned (.bool r.2) ∧ ∃ A' : Nat → Prop, SpecAt w' A' p r.1 ∧ Keep A w w' ∧ (∀ b, A' b → A b ∨ w.heap.size ≤ b) ∧ ∀ b, A b → A' b
theorem takesS_step {s s' : SS} {e : Ev} {l : List Ev} {k : Nat} (h : l[k]? = some e) (hs : takeS s e = some s') : takesS s (l.drop k) = takesS s' (l.drop (k + 1)) := by
  obtain ⟨hlt, rfl⟩ := List.getElem?_eq_some_iff.1 h
  rw [List.drop_eq_getElem_cons hlt]
  show (match takeS s l[k] with | some s' => takesS s' (l.drop (k + 1)) | none => (s, false)) = _
  rw [hs]
theorem takesS_stop {s : SS} {e : Ev} {l : List Ev} {k : Nat} (h : l[k]? = some e) (hs : takeS s e = none) : takesS s (l.drop k) = (s, false) := by
  obtain ⟨hlt, rfl⟩ := List.getElem?_eq_some_iff.1 h
  rw [List.drop_eq_getElem_cons hlt]
  show (match takeS s l[k] with | some s' => takesS s' (l.drop (k + 1)) | none => (s, false)) = _
  rw [hs]
set_option maxHeartbeats 4000000 in
theorem takes_any {w : World} {A : Nat → Prop} {p : Pl} {s : SS} (h : SpecAt w A p s) (hwf : WF s) (l : List Ev) (B off c : Nat) (hE : EvsAt w B off l) (hB : ¬ A B) (hBl : B < w.heap.size ∨ l = []) (hll : l.length ≤ 1000000) :
    Calls Try.prog 11 #[spV p, .slice (some ⟨B, off, none⟩) l.length c] w (RunPost w A p (takesS s l)) := by
  have H := Lib.hid h
  have HWF := Lib.hid hwf
  have HE := Lib.hid hE
  have HB := Lib.hid hB
  have HBl := Lib.hid hBl
  obtain ⟨ll, hl0⟩ : ∃ ll, ll = l.length := ⟨_, rfl⟩
  have HLL := Lib.hid hl0
  rw [← hl0] at hll ⊢
  clear h hwf hE hB hBl hl0
  go_enter Try.func11, Try.ntmps11
  go_upto_region 2 with fail
  go_loopw [5] (fun v5 wr => ∃ (k : Nat) (s1 : SS) (A1 : Nat → Prop), k ≤ ll ∧ v5 = .int .i64 k ∧ Hid (takesS s l = takesS s1 (l.drop k)) ∧ Hid (WF s1) ∧ SpecAt wr A1 p s1 ∧ Keep A w wr ∧ Hid ((∀ b, A1 b → A b ∨ w.heap.size ≤ b) ∧ ∀ b, A b → A1 b)) (fun v5 _ => ll - (intOf v5).toNat)
  case atStart => exact ⟨0, s, A, by omega, rfl, Lib.hid (by simp), HWF, H.out, Keep.refl _ _, Lib.hid ⟨fun b hb => .inl hb, fun _ hb => hb⟩⟩
  case round =>
    obtain ⟨k, s1, A1, hk, rfl, hr, hw, hs, hkp, hA⟩ := hrel
    by_cases hlt : k < ll
    · obtain ⟨e, he⟩ : ∃ e, l[k]? = some e := ⟨_, List.getElem?_eq_getElem (by rw [← HLL.out]; exact hlt)⟩
      have hEk := HE.out.keep hkp HB.out
      have b0 := hEk k e he 0 _ rfl
      have b1 := hEk k e he 1 _ rfl
      have b2 := hEk k e he 2 _ rfl
      have b3 := hEk k e he 3 _ rfl
      have b4 := hEk k e he 4 _ rfl
      have b5 := hEk k e he 5 _ rfl
      have b6 := hEk k e he 6 _ rfl
      have b7 := hEk k e he 7 _ rfl
      rw [Nat.add_zero] at b0
      have ix := idx_evs B off ll c k hlt
      have hki : (k : Int) < (ll : Int) := by omega
      have HS := Lib.hid hs
      have HKp := Lib.hid hkp
      have He := Lib.hid he
      clear hEk hs hkp he
      go_wp2_with fail
      refine (take_any HS.out hw.out e).mono ?_
      rintro r w2 ⟨rfl, A2, h2, k2, a2, a3⟩
      clear b0 b1 b2 b3 b4 b5 b6 b7 ix
      have HK2 := Lib.hid (show Keep A w w2 from HKp.out.step k2 (fun i hi hq => (hA.out.1 i hq).resolve_right (by omega)))
      have HA2 := Lib.hid (show (∀ b, A2 b → A b ∨ w.heap.size ≤ b) ∧ ∀ b, A b → A2 b from ⟨fun b hb => (a2 b hb).elim (hA.out.1 b) (fun h => .inr (Nat.le_trans HKp.out.size h)), fun b hb => a3 b (hA.out.2 b hb)⟩)
      clear k2 a2 a3
      cases ht : takeS s1 e with
      | none =>
        rw [ht] at h2
        have H2 := Lib.hid h2
        have Ht := Lib.hid ht
        clear h2 ht
        go_wp2_with fail
        go_ret
        have e9 := hr.out.trans (takesS_stop He.out Ht.out)
        rw [e9]
        exact ⟨rfl, A2, H2.out, HK2.out, HA2.out⟩
      | some s2 =>
        rw [ht] at h2
        have H2 := Lib.hid h2
        have Ht := Lib.hid ht
        clear h2 ht
        go_wp2_with fail
        go_roundw
        case rel => exact ⟨k + 1, s2, A2, by omega, by go_num, Lib.hid (hr.out.trans (takesS_step He.out Ht.out)), Lib.hid (takeS_wf hw.out Ht.out), H2.out, HK2.out, HA2⟩
        case measure => simp [intOf]; omega
    · obtain rfl : k = ll := by omega
      have hki : ¬ (k : Int) < (k : Int) := by omega
      have HS := Lib.hid hs
      have HKp := Lib.hid hkp
      clear hs hkp
      go_wp2_with fail
      go_ret
      have e9 := hr.out
      rw [HLL.out, List.drop_length] at e9
      rw [e9]
      exact ⟨rfl, A1, HS.out, HKp.out, hA.out⟩
end Go.Proofs.Ytcgljmeppmdihaa
