/- Decode, of all bytes. -/
import Derived.Test.YtkmadabpfialbaaGreatDoorScPicks
import Derived.Lib.ItoaWalk
import Derived.StillTailTactics
import Derived.Deep.CutBlock
import Derived.Deep.RegionHeld3
import Derived.BigGuardPart
import Derived.WalkSpells
import Derived.OwnWalk
namespace Go.Proofs.YtkmadabpfialbaaGreatDoor
open Go.ChangeShapes Go.WideShapes Go.ChangeAt Go.RowKit
set_option linter.unusedVariables false
set_option maxRecDepth 100000
set_option linter.unusedSimpArgs false
def kindD (b : Int) : Int := if b / 64 = 3 then 1 else if b / 64 = 2 then 2 else 0
theorem kindIn_any (b : Int) (w : World) (h0 : 0 ≤ b) (h1 : b ≤ 255) : Calls Tryz.prog 18 #[.int .u8 b] w fun e w' => e = .returned (.int .i64 (kindD b)) ∧ w = w' := by
  go_enter Tryz.func18, Tryz.ntmps18
  go_wp2
  · rename_i h; have e : kindD b = 1 := by rw [kindD, if_pos (by simpa using h)]
    rw [e]; go_ret; exact ⟨rfl, rfl⟩
  · rename_i h2 h; have e : kindD b = 2 := by rw [kindD, if_neg (by simpa using h2), if_pos (by simpa using h)]
    rw [e]; go_ret; exact ⟨rfl, rfl⟩
  · rename_i h2 h; have e : kindD b = 0 := by rw [kindD, if_neg (by simpa using h2), if_neg (by simpa using h)]
    rw [e]; go_ret; exact ⟨rfl, rfl⟩
theorem picks_info : (Tryz.prog.info? 46).map (fun i => (i.zero, i.size, i.bytes)) = some (some (.agg #[.int .i64 0, .int .i64 0]), 2, 16) := by kernel_rfl
def decodeB (b : UInt8) : Pk := ((b.toNat : Int) % 64, kindD (b.toNat : Int))
def decodeL (s : ByteArray) : List Pk := s.data.toList.map decodeB
def rowD (l : List Pk) (n k : Nat) : List Value := pkCells (l.take k) ++ List.replicate ((n - k) * 2) (.int .i64 0)
theorem rowD_step (l : List Pk) (k : Nat) (p : Pk) (h : l[k]? = some p) : ((rowD l l.length k).set (k * 2) (.int .i64 p.1)).set (k * 2 + 1) (.int .i64 p.2) = rowD l l.length (k + 1) := by
  have hk : k < l.length := (List.getElem?_eq_some_iff.1 h).1
  have e1 : rowD l l.length k = pkCells (l.take k) ++ (Value.int .i64 0 :: Value.int .i64 0 :: List.replicate ((l.length - (k + 1)) * 2) (.int .i64 0)) := by
    unfold rowD
    rw [show (l.length - k) * 2 = (l.length - (k + 1)) * 2 + 1 + 1 by omega, List.replicate_succ, List.replicate_succ]
  have e2 : (pkCells (l.take k)).length = k * 2 := by rw [pkCells_len, List.length_take]; omega
  have m1 := Lib.set_mid (pkCells (l.take k)) (Value.int .i64 0) (Value.int .i64 p.1) (Value.int .i64 0 :: List.replicate ((l.length - (k + 1)) * 2) (.int .i64 0))
  have m2 := Lib.set_mid (pkCells (l.take k) ++ [Value.int .i64 p.1]) (Value.int .i64 0) (Value.int .i64 p.2) (List.replicate ((l.length - (k + 1)) * 2) (.int .i64 0))
  rw [e2] at m1
  rw [List.length_append, e2, List.length_singleton] at m2
  rw [e1, m1]
  rw [show pkCells (l.take k) ++ Value.int .i64 p.1 :: (Value.int .i64 0 :: List.replicate ((l.length - (k + 1)) * 2) (.int .i64 0)) = (pkCells (l.take k) ++ [Value.int .i64 p.1]) ++ Value.int .i64 0 :: List.replicate ((l.length - (k + 1)) * 2) (.int .i64 0) by simp, m2]
  unfold rowD
  rw [take_at h, pkCells_snoc]
  simp
theorem rowD_zero (l : List Pk) (n k : Nat) (h : k ≤ l.length) (hk : k < n) : (rowD l n k)[k * 2]? = some (.int .i64 0) ∧ (rowD l n k)[k * 2 + 1]? = some (.int .i64 0) := by
  have e2 : (pkCells (l.take k)).length = k * 2 := by rw [pkCells_len, List.length_take]; omega
  unfold rowD
  rw [List.getElem?_append_right (by omega), List.getElem?_append_right (by omega), e2, List.getElem?_replicate, List.getElem?_replicate, if_pos (by omega), if_pos (by omega)]
  exact ⟨rfl, rfl⟩
theorem decodeL_len (s : ByteArray) : (decodeL s).length = s.size := by simp [decodeL]
theorem made_zeros (n : Nat) (l : List Pk) : (madeCells (Value.agg #[.int .i64 0, .int .i64 0]).cells (n * 2)).toList = rowD l n 0 := by
  have e : (Value.agg #[.int .i64 0, .int .i64 0]).cells = #[.int .i64 0, .int .i64 0] := by rfl
  rw [e]
  have e2 : rowD l n 0 = List.replicate (n * 2) (.int .i64 0) := by simp [rowD, pkCells]
  rw [e2]
  apply List.ext_getElem
  · simp [madeCells]
  · intro i h1 h2
    simp [madeCells] at h1 ⊢
    rcases Nat.mod_two_eq_zero_or_one i with h | h <;> simp [h]
theorem bit63 (b : Int) (h0 : 0 ≤ b) (h1 : b ≤ 255) : IntKind.i64.wrap (bits BinOp.and IntKind.u8 b 63) = b % 64 := by
  have h : ∀ n : Fin 256, IntKind.i64.wrap (bits BinOp.and IntKind.u8 ((n.val : Nat) : Int) 63) = ((n.val : Nat) : Int) % 64 := by decide +kernel
  have := h ⟨b.toNat, by omega⟩
  simpa [Int.toNat_of_nonneg h0] using this
theorem str_at (s : ByteArray) (k : Nat) (W : World) (hk : k < s.size) : (Instr.index 9 (.string s) (.int .i64 (k : Int))).run Tryz.prog W = .ok (.int .u8 ((s.data.toList.getD k 0).toNat : Int)) W := by
  have e := Lib.getD_at s k hk
  go_simp
set_option maxHeartbeats 2000000 in
theorem decode_any (s : ByteArray) (w : World) (hs : s.size ≤ 100000) :
    Calls Tryz.prog 5 #[.string s] w fun e w' => ∃ v, e = .returned v ∧ Below w.heap.size w w' ∧ w'.ownsRow w.heap.size 46 2 v (decodeL s).length (pkCells (decodeL s)) := by
  obtain ⟨i0, hi, hz0, hz1, hz2⟩ := info_parts picks_info
  obtain ⟨w1, hmk, hown, hgr⟩ := run_makeSlice_full (P := Tryz.prog) (w := w) w.heap.size 22 46 i0 _ 2 Tryz.underlying22 hi hz0 hz1 .i64 .i64 s.size (by omega) (by rw [hz2]; omega) (by unfold maxLen; omega) (Nat.le_refl _)
  rw [made_zeros s.size (decodeL s)] at hown
  have hB : Below w.heap.size w w1 := ⟨hgr.os, hgr.tape, hgr.output, hgr.size, fun k hk => hgr.block k hk (by simp)⟩
  have hl := decodeL_len s
  go_enter Tryz.func5, Tryz.ntmps5
  go_wp2
  go_loopw [10] (fun i wr => ∃ k : Nat, k ≤ s.size ∧ i = .int .i64 (k : Int) ∧ wr.ownsRow w.heap.size 46 2 (.slice (some ⟨w.heap.size, 0, none⟩) s.size s.size) s.size (rowD (decodeL s) s.size k) ∧ Below w.heap.size w wr)
    (fun i _ => s.size - (intOf i).toNat)
  case atStart => exact ⟨0, by omega, rfl, hown, hB⟩
  case round =>
    obtain ⟨k, hk, rfl, hrow, hb⟩ := hrel
    by_cases hlt : k < s.size
    · have hix := fun W => str_at s k W hlt
      obtain ⟨b, hbv⟩ : ∃ b : Int, b = ((s.data.toList.getD k 0).toNat : Int) := ⟨_, rfl⟩
      rw [← hbv] at hix
      have hb0 : 0 ≤ b := by omega
      have hb1 : b ≤ 255 := by have := (s.data.toList.getD k 0).toNat_lt; omega
      have HL := Lib.hid (show (decodeL s)[k]? = some (b % 64, kindD b) by
        have hk2 : k < s.data.toList.length := by simpa using hlt
        rw [hbv]
        simp [decodeL, decodeB, List.getD_eq_getElem?_getD, List.getElem?_eq_getElem hk2])
      have c0 := hrow.cellAt (k * 2) (by omega)
      have c1 := hrow.cellAt (k * 2 + 1) (by omega)
      have f0 := hrow.frozenAt (k * 2)
      have f1 := hrow.frozenAt (k * 2 + 1)
      obtain ⟨e0, e1⟩ := rowD_zero (decodeL s) s.size k (by omega) hlt
      rw [e0] at c0
      rw [e1] at c1
      have HB := Lib.hid hbv
      have HR := Lib.hid hrow
      have hbit : IntKind.i64.wrap (bits BinOp.and IntKind.u8 b 63) = b % 64 := bit63 b hb0 hb1
      clear hbv e0 e1 hrow
      go_upto_region 5 with fail
      go_region_held3 (fun _ => True) (exact trivial) (first
        | (go_at_call 18; refine (kindIn_any _ _ hb0 hb1).mono ?_; rintro e w2 ⟨rfl, rfl⟩))
      all_goals
        go_wp2
        go_roundw
        case rel =>
          refine ⟨k + 1, by omega, by go_num, ?_, ?_⟩
          · have h1 := HR.out.stored (k * 2) (.int .i64 (b % 64))
            have h2 := h1.1.stored (k * 2 + 1) (.int .i64 (kindD b))
            have h3 := rowD_step (decodeL s) k _ HL.out
            rw [decodeL_len] at h3
            rw [← h3]
            exact h2.1
          · exact ((hb.setCell (p := ⟨w.heap.size, k * 2, none⟩) (Nat.le_refl _) _).setCell (p := ⟨w.heap.size, k * 2 + 1, none⟩) (Nat.le_refl _) _).drew
        case measure => simp [intOf]; omega
    · have hke : k = s.size := by omega
      subst hke
      go_wp2
      go_ret
      refine ⟨_, rfl, hb, ?_⟩
      rw [hl]
      have e : rowD (decodeL s) s.size s.size = pkCells (decodeL s) := by
        unfold rowD
        rw [List.take_of_length_le (by omega)]
        simp
      rw [← e]
      exact hrow
end Go.Proofs.YtkmadabpfialbaaGreatDoor
