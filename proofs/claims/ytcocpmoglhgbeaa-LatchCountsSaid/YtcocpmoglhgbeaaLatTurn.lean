/- Layer 9's laws: whose turn is next. -/
import Derived.Test.YtcocpmoglhgbeaaLatF
import Derived.Test.YtcocpmoglhgbeaaLatSpec
namespace Go.Proofs.Ytcocpmoglhgbeaa
open Go.ChangeShapes Go.WideShapes Go.ChangeAt Go.RowKit
set_option linter.unusedVariables false
set_option maxRecDepth 100000
set_option linter.unusedSimpArgs false
/-- bytes in memory -/
def BytesAt (w : World) (n0 : Nat) (a : Option Addr) (len : Nat) : Prop :=
  ∀ i, i < len → ∃ (b off : Nat) (x : Nat), a = some ⟨b, off, none⟩ ∧ b < n0 ∧ w.cell? ⟨b, off + i, none⟩ = some (.int .u8 (x : Int)) ∧ x ≤ 255
theorem BytesAt.keep {w w1 : World} {n0 : Nat} {a : Option Addr} {len : Nat} {F : Nat → Prop} (h : BytesAt w n0 a len) (hk : Keep F w w1) (hF : ∀ b, F b → n0 ≤ b) : BytesAt w1 n0 a len := fun i hi => by
  obtain ⟨b, off, x, e, hb, hc, hx⟩ := h i hi
  exact ⟨b, off, x, e, hb, cell_keep6 hc hk (fun hf => by have := hF b hf; omega), hx⟩
theorem BytesAt.cut {w : World} {n0 : Nat} {a : Option Addr} {len l : Nat} (h : BytesAt w n0 a len) (hl : l ≤ len) : BytesAt w n0 a l := fun i hi => h i (by omega)
theorem idx_u8s (len c B o i : Nat) (h : i < len) : ∀ W, (Instr.indexAt 40 (.slice (some ⟨B, o, none⟩) len c) (.int .i64 (i : Int))).run Try.prog W = .ok (.pointer (some ⟨B, o + i, none⟩)) W := by
  intro W
  go_simp
abbrev turnsV (a : Option Addr) (l cap n i : Nat) : Array Value := #[.slice a l cap, .int .i64 n, .int .i64 i]
set_option maxHeartbeats 2000000 in
theorem next_any (Y n i l cap n0 : Nat) (a : Option Addr) (w : World) (hY : Blk w Y 43 (turnsV a l cap n i)) (hB : BytesAt w n0 a l) (hn0 : n0 ≤ Y) (hn : 1 ≤ n ∧ n ≤ 6) (hi : i ≤ 100000) (hl : l ≤ 200) :
    Calls Try.prog 21 #[pV Y] w fun e w' => ∃ t : Nat, e = .returned (.int .i64 (t : Int)) ∧ t < n ∧ (l ≤ i → t = (i + 1) % n) ∧ Blk w' Y 43 (turnsV a l cap n (i + 1)) ∧ Keep (fun b => b = Y) w w' := by
  have hY1 := hY.set 2 (.int .i64 ((i : Int) + 1))
  have k1 : Keep (fun b => b = Y) w (w.setCell ⟨Y, 2, none⟩ (.int .i64 ((i : Int) + 1))) := (Keep.refl (fun b => b = Y) w).set (p := ⟨Y, 2, none⟩) (fun _ => rfl) _
  have hB1 := hB.keep k1 (fun b e => by rw [e]; exact hn0)
  have c0 : w.cell? ⟨Y, 2, none⟩ = some (.int .i64 (i : Int)) := hY.cell 2 _ rfl
  have z0 := hY.free 2
  have e1 : IntKind.i64.wrap ((i : Int) + 1) = (i : Int) + 1 := IntWalk.i64_in _ ⟨by omega, by omega⟩
  have HY1 := Lib.hid hY1
  have HB1 := Lib.hid hB1
  have HK1 := Lib.hid k1
  have HN := Lib.hid hn
  have HI := Lib.hid hi
  clear hY hB hY1 k1 hB1
  go_enter Try.func21, Try.ntmps21
  go_upto_region 2 with fail
  generalize w.setCell ⟨Y, 2, none⟩ (.int .i64 ((i : Int) + 1)) = w1 at *
  have hY1 := HY1.out
  have f0 : w1.cell? ⟨Y, 0, none⟩ = some (.slice a l cap) := hY1.cell 0 _ rfl
  have f1 : w1.cell? ⟨Y, 1, none⟩ = some (.int .i64 (n : Int)) := hY1.cell 1 _ rfl
  have f2 : w1.cell? ⟨Y, 2, none⟩ = some (.int .i64 ((i : Int) + 1)) := hY1.cell 2 _ rfl
  clear c0 z0 hY1
  have hnz : ¬ (n : Int) = 0 := by omega
  by_cases hlt : i < l
  · obtain ⟨b, off, x, rfl, hb, hc, hx⟩ := HB1.out i hlt
    have hq : ((x : Int).tmod (n : Int)) = ((x % n : Nat) : Int) := rfl
    have hle : (i : Int) + 1 ≤ (l : Int) := by omega
    have e3 : (i : Int) + 1 - 1 = (i : Int) := by omega
    go_upto_if 1 with fail
    go_quiet (fail)
    have ix := idx_u8s l cap b off i hlt (w1.drewN nq)
    go_upto_region 3 with fail
    go_quiet (fail)
    go_wp2
    go_ret
    refine ⟨x % n, rfl, Nat.mod_lt _ (by omega), fun h => by omega, ?_, ?_⟩
    · exact (HY1.out.drewN _).drewN _
    · exact (HK1.out.drewN _).drewN _
  · have hq : (((i : Int) + 1).tmod (n : Int)) = (((i + 1) % n : Nat) : Int) := rfl
    have hle : ¬ ((i : Int) + 1 ≤ (l : Int)) := by omega
    go_upto_if 1 with fail
    go_quiet (fail)
    go_upto_region 4 with fail
    go_quiet (fail)
    go_wp2
    go_ret
    refine ⟨(i + 1) % n, rfl, Nat.mod_lt _ (by omega), fun h => rfl, ?_, ?_⟩
    · exact (HY1.out.drewN _).drewN _
    · exact (HK1.out.drewN _).drewN _
end Go.Proofs.Ytcocpmoglhgbeaa
