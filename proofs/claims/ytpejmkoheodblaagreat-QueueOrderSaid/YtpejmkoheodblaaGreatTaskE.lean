/- Package task: operations on cells, done. -/
import Derived.Test.YtpejmkoheodblaaGreatTaskD
namespace Go.Proofs.YtpejmkoheodblaaGreat
open Go.ChangeShapes Go.WideShapes Go.ChangeAt Go.RowKit
set_option linter.unusedVariables false
set_option maxRecDepth 100000
set_option linter.unusedSimpArgs false
/-- what an operation leaves -/
def DoneOp (C S : Nat) (m : List Int) (n : Int) (x : Itm) (w : World) (v : Int) (w' : World) : Prop :=
  v = (operS m x).2.1 ∧ CellsAt w' C S (operS m x).1 (n + countS m x) ∧ Keep (ofCells C S) w w'
theorem clo_load (C S : Nat) (Q : Nat → Prop) (m : List Int) (n : Int) (x : Itm) (bc bi : Nat) (w : World) (hk : x.kind = 0) (hc : Blk w bc 26 #[cellsV C]) (hi : Blk w bi 3 #[.int .i64 x.at'])
    (hC : CellsAt w C S m n) (h0 : 0 ≤ n) (h1 : n < 9223372036854775807) :
    Calls Tryz.prog 122 #[pV bc, pV bi] w fun e w' => ∃ v, e = .returned (.int .i64 v) ∧ DoneOp C S m n x w v w' := by
  have c0 : w.cell? ⟨bc, 0, none⟩ = some (cellsV C) := hc.cell 0 _ rfl
  have c1 : w.cell? ⟨bi, 0, none⟩ = some (.int .i64 x.at') := hi.cell 0 _ rfl
  cases hx : m[x.at']? with
  | some c =>
    have HL := Lib.hid (load_yes C S m n x.at' c w hC hx h0 h1)
    have HX := Lib.hid hx
    have hlt : x.at' < m.length := (List.getElem?_eq_some_iff.1 hx).1
    have HE := Lib.hid hlt
    clear hC hx h1 hlt hc hi
    go_enter Tryz.func122, Tryz.ntmps122
    go_wp2_with (go_at_call 123; refine HL.out.mono ?_; rintro e w2 ⟨rfl, hC2, hk2⟩)
    go_ret
    refine ⟨_, rfl, ?_, ?_, hk2⟩
    · simp [operS, HX.out, hk, wrap64]
    · have := HE.out
      simpa [operS, HX.out, hk, countS, this] using hC2
  | none =>
    have hge : m.length ≤ x.at' := List.getElem?_eq_none_iff.1 hx
    have HL := Lib.hid (load_no C S m n x.at' w hC (.inr (by omega)))
    have HX := Lib.hid hx
    have HC := Lib.hid hC
    have HE := Lib.hid hge
    clear hC hx h1 hge hc hi
    go_enter Tryz.func122, Tryz.ntmps122
    go_wp2_with (go_at_call 123; refine HL.out.mono ?_; rintro e w2 ⟨rfl, hk2⟩)
    go_ret
    have hge := HE.out
    refine ⟨_, rfl, ?_, ?_, Keep.ofBelow hk2⟩
    · simp [operS, HX.out, hk, wrap64]
    · have h3 := HC.out.keep (Keep.ofBelow (Q := fun _ => False) hk2) (fun h => h) (fun h => h)
      have e1 : (operS m x).1 = m := by simp [operS, HX.out]
      have e2 : countS m x = 0 := by simp [countS]; omega
      rw [e1, e2]; simpa using h3
theorem clo_store (C S : Nat) (Q : Nat → Prop) (m : List Int) (n : Int) (x : Itm) (bc bi bv : Nat) (w : World) (hk : x.kind = 1) (hc : Blk w bc 26 #[cellsV C]) (hi : Blk w bi 3 #[.int .i64 x.at']) (hv : Blk w bv 47 #[.int .u64 x.a])
    (hC : CellsAt w C S m n) (h0 : 0 ≤ n) (h1 : n < 9223372036854775807) :
    Calls Tryz.prog 110 #[pV bc, pV bi, pV bv] w fun e w' => ∃ v, e = .returned (.int .i64 v) ∧ DoneOp C S m n x w v w' := by
  have c0 : w.cell? ⟨bc, 0, none⟩ = some (cellsV C) := hc.cell 0 _ rfl
  have c1 : w.cell? ⟨bi, 0, none⟩ = some (.int .i64 x.at') := hi.cell 0 _ rfl
  have c2 : w.cell? ⟨bv, 0, none⟩ = some (.int .u64 x.a) := hv.cell 0 _ rfl
  cases hx : m[x.at']? with
  | some c =>
    have HL := Lib.hid (store_yes C S m n x.at' c x.a w hC hx h0 h1)
    have HX := Lib.hid hx
    have HE := Lib.hid (List.getElem?_eq_some_iff.1 hx).1
    clear hC hx h1 hc hi hv
    go_enter Tryz.func110, Tryz.ntmps110
    go_wp2_with (first | (go_at_call 40; refine HL.out.mono ?_; rintro e w2 ⟨rfl, hC2, hk2⟩) | (go_at_call 111; refine (truth_any _ _).mono ?_; rintro e w3 ⟨rfl, rfl⟩))
    go_ret
    refine ⟨_, rfl, ?_, ?_, hk2⟩
    · simp [operS, HX.out, hk]
    · have := HE.out
      simpa [operS, HX.out, hk, countS, this] using hC2
  | none =>
    have hge : m.length ≤ x.at' := List.getElem?_eq_none_iff.1 hx
    have HL := Lib.hid (store_no C S m n x.at' x.a w hC (.inr (by omega)))
    have HX := Lib.hid hx
    have HC := Lib.hid hC
    have HE := Lib.hid hge
    clear hC hx h1 hge hc hi hv
    go_enter Tryz.func110, Tryz.ntmps110
    go_wp2_with (first | (go_at_call 40; refine HL.out.mono ?_; rintro e w2 ⟨rfl, hk2⟩) | (go_at_call 111; refine (truth_any _ _).mono ?_; rintro e w3 ⟨rfl, rfl⟩))
    go_ret
    have hge := HE.out
    refine ⟨_, rfl, ?_, ?_, Keep.ofBelow hk2⟩
    · simp [operS, HX.out, hk]
    · have h3 := HC.out.keep (Keep.ofBelow (Q := fun _ => False) hk2) (fun h => h) (fun h => h)
      have e1 : (operS m x).1 = m := by simp [operS, HX.out]
      have e2 : countS m x = 0 := by simp [countS]; omega
      rw [e1, e2]; simpa using h3
theorem clo_swap (C S : Nat) (Q : Nat → Prop) (m : List Int) (n : Int) (x : Itm) (bc bi bo bn : Nat) (w : World) (hk : x.kind = 2 ∨ x.kind = 4) (hc : Blk w bc 26 #[cellsV C]) (hi : Blk w bi 3 #[.int .i64 x.at']) (hv : Blk w bo 47 #[.int .u64 x.a]) (hv2 : Blk w bn 47 #[.int .u64 x.b])
    (hC : CellsAt w C S m n) (h0 : 0 ≤ n) (h1 : n < 9223372036854775807) :
    Calls Tryz.prog 149 #[pV bc, pV bi, pV bo, pV bn] w fun e w' => ∃ v, e = .returned (.int .i64 v) ∧ DoneOp C S m n x w v w' := by
  have c0 : w.cell? ⟨bc, 0, none⟩ = some (cellsV C) := hc.cell 0 _ rfl
  have c1 : w.cell? ⟨bi, 0, none⟩ = some (.int .i64 x.at') := hi.cell 0 _ rfl
  have c2 : w.cell? ⟨bo, 0, none⟩ = some (.int .u64 x.a) := hv.cell 0 _ rfl
  have c3 : w.cell? ⟨bn, 0, none⟩ = some (.int .u64 x.b) := hv2.cell 0 _ rfl
  have HK := Lib.hid hk
  have e13 : x.kind ≠ 1 ∧ x.kind ≠ 3 := by omega
  cases hx : m[x.at']? with
  | some c =>
    have HX := Lib.hid hx
    have HE := Lib.hid (List.getElem?_eq_some_iff.1 hx).1
    by_cases hca : c = x.a
    · have HL := Lib.hid (swap_yes C S m n x.at' x.a x.b w hC (by rw [hx, hca]) h0 h1)
      have HA := Lib.hid hca
      have HN := Lib.hid e13
      clear hC hx h1 hc hi hv hv2 hca hk e13
      go_enter Tryz.func149, Tryz.ntmps149
      go_wp2_with (first | (go_at_call 150; refine HL.out.mono ?_; rintro e w2 ⟨rfl, hC2, hk2⟩) | (go_at_call 111; refine (truth_any _ _).mono ?_; rintro e w3 ⟨rfl, rfl⟩))
      go_ret
      refine ⟨_, rfl, ?_, ?_, hk2⟩
      · simp [operS, HX.out, HK.out, HN.out, HA.out]
      · rw [show (operS m x).1 = m.set x.at' x.b by simp [operS, HX.out, HK.out, HN.out, HA.out], show countS m x = 1 by simp [countS, HE.out]]; exact hC2
    · have HL := Lib.hid (swap_other C S m n x.at' c x.a x.b w hC hx hca h0 h1)
      have HA := Lib.hid hca
      have HN := Lib.hid e13
      clear hC hx h1 hc hi hv hv2 hca hk e13
      go_enter Tryz.func149, Tryz.ntmps149
      go_wp2_with (first | (go_at_call 150; refine HL.out.mono ?_; rintro e w2 ⟨rfl, hC2, hk2⟩) | (go_at_call 111; refine (truth_any _ _).mono ?_; rintro e w3 ⟨rfl, rfl⟩))
      go_ret
      refine ⟨_, rfl, ?_, ?_, hk2⟩
      · simp [operS, HX.out, HK.out, HN.out, HA.out]
      · rw [show (operS m x).1 = m by simp [operS, HX.out, HK.out, HN.out, HA.out], show countS m x = 1 by simp [countS, HE.out]]; exact hC2
  | none =>
    have hge : m.length ≤ x.at' := List.getElem?_eq_none_iff.1 hx
    have HL := Lib.hid (swap_no C S m n x.at' x.a x.b w hC (.inr (by omega)))
    have HX := Lib.hid hx
    have HC := Lib.hid hC
    have HE := Lib.hid hge
    clear hC hx h1 hge hc hi hv hv2 hk e13
    go_enter Tryz.func149, Tryz.ntmps149
    go_wp2_with (first | (go_at_call 150; refine HL.out.mono ?_; rintro e w2 ⟨rfl, hk2⟩) | (go_at_call 111; refine (truth_any _ _).mono ?_; rintro e w3 ⟨rfl, rfl⟩))
    go_ret
    have hge := HE.out
    refine ⟨_, rfl, ?_, ?_, Keep.ofBelow hk2⟩
    · simp [operS, HX.out]
    · have h3 := HC.out.keep (Keep.ofBelow (Q := fun _ => False) hk2) (fun h => h) (fun h => h)
      have e1 : (operS m x).1 = m := by simp [operS, HX.out]
      have e2 : countS m x = 0 := by simp [countS]; omega
      rw [e1, e2]; simpa using h3
theorem call_load1 : ∀ (W : World) (args : Array Value), (callFunc 122 args).run Tryz.prog W = .ok (.enter 122 args) W := by
  intro W args
  go_simp
theorem call_store1 : ∀ (W : World) (args : Array Value), (callFunc 110 args).run Tryz.prog W = .ok (.enter 110 args) W := by
  intro W args
  go_simp
theorem call_swap1 : ∀ (W : World) (args : Array Value), (callFunc 149 args).run Tryz.prog W = .ok (.enter 149 args) W := by
  intro W args
  go_simp
/-- what a task's 'do' does -/
theorem do6_any (C S : Nat) (Q : Nat → Prop) (m : List Int) (n : Int) (x : Itm) (b F : Nat) (caps : Array Value) (w : World) (hb : Blk w b 28 #[cloV F caps]) (hx : CloAt w C Q x F caps)
    (hC : CellsAt w C S m n) (h0 : 0 ≤ n) (h1 : n < 9223372036854775807) :
    Calls Tryz.prog 129 #[pV b] w fun e w' => ∃ v, e = .returned (.int .i64 v) ∧ DoneOp C S m n x w v w' := by
  have c0 : w.cell? ⟨b, 0, none⟩ = some (cloV F caps) := hb.cell 0 _ rfl
  have HH : Hid (Calls Tryz.prog 130 #[cloV F caps] w fun e w' => ∃ v, e = .returned (.int .i64 v) ∧ DoneOp C S m n x w v w') := by
    refine Lib.hid ?_
    obtain ⟨bc, bi, _, _, hc, hi, ⟨hk, rfl, rfl⟩ | ⟨hk, rfl, bv, rfl, _, hv⟩ | ⟨hk, rfl, bo, bn, rfl, _, _, hv, hv2⟩ | ⟨hk, hno, bv, rfl, _, hv⟩⟩ := hx
    · exact answerI_any _ _ w (DoneOp C S m n x w) call_load1 (clo_load C S Q m n x bc bi w hk hc hi hC h0 h1)
    · exact answerI_any _ _ w (DoneOp C S m n x w) call_store1 (clo_store C S Q m n x bc bi bv w hk hc hi hv hC h0 h1)
    · exact answerI_any _ _ w (DoneOp C S m n x w) call_swap1 (clo_swap C S Q m n x bc bi bo bn w hk hc hi hv hv2 hC h0 h1)
    · exact hno.elim
  clear hx hC h1 hb
  go_enter Tryz.func129, Tryz.ntmps129
  go_wp2_with (go_at_call 130; refine HH.out.mono ?_; rintro e w2 ⟨v, rfl, hp⟩)
  go_ret
  exact ⟨v, rfl, hp⟩
end Go.Proofs.YtpejmkoheodblaaGreat
