/- The document's own answers of layer 7 (doorkeeperref07): digits, Print. -/
import Derived.Test.YtkmadabpfialbaaGreatDoorScRefB
namespace Go.Proofs.YtkmadabpfialbaaGreatDoor
open Go.ChangeShapes Go.WideShapes Go.ChangeAt Go.RowKit Go.Maps
set_option linter.unusedVariables false
set_option maxRecDepth 100000
set_option linter.unusedSimpArgs false
theorem conv_one (b : UInt8) (v : Int) (hv : v = (b.toNat : Int)) (w : World) : (convert 78 9 (.slice (some ⟨w.heap.size, 0, none⟩) 1 1)).run Tryz.prog (w.alloc (.cells #[.int .u8 v] 5)) = .ok (.string ⟨#[b]⟩) (w.alloc (.cells #[.int .u8 v] 5)) := by
  subst hv
  have hB := Blk.new w 5 #[.int .u8 (b.toNat : Int)]
  exact run_convert_bytes_back _ 78 9 5 ⟨w.heap.size, 0, none⟩ 1 [b] Tryz.underlying78 Tryz.underlying5 Tryz.underlying9 (fun j hj => by
    obtain rfl : j = 0 := by simp at hj; omega
    exact hB.cell 0 _ rfl)
theorem bytes_app (l r : List UInt8) : ((⟨l.toArray⟩ : ByteArray) ++ ⟨r.toArray⟩) = ⟨(l ++ r).toArray⟩ := by
  apply ByteArray.ext
  simp
theorem rdigits_any : ∀ (f n : Nat) (w : World), n ≤ f → n ≤ 99999 → Calls Tryz.prog 27 #[.int .i64 (n : Int)] w fun e w' => e = .returned (strV (Lib.decDigits n)) ∧ Below w.heap.size w w' := by
  intro f
  induction f with
  | zero =>
    intro n w hf hn
    obtain rfl : n = 0 := by omega
    have hcv := conv_one (UInt8.ofNat 48) 48 rfl
    go_enter Tryz.func27, Tryz.ntmps27
    go_wp2
    go_ret
    rw [dec_small (by omega)]
    exact ⟨rfl, by go_grown⟩
  | succ f ih =>
    intro n w hf hn
    have e0 : IntKind.u8.wrap (48 + (n : Int) % 10) = 48 + (n : Int) % 10 := by rw [IntKind.wrap_u8]; omega
    have hcv := conv_one (UInt8.ofNat (48 + n % 10)) (48 + (n : Int) % 10) (by rw [UInt8.toNat_ofNat']; omega)
    by_cases hs : n < 10
    · have hs2 : (n : Int) < 10 := by omega
      have hd : Hid (Lib.decDigits n = [UInt8.ofNat (48 + n % 10)]) := Lib.hid (by rw [dec_small hs, Nat.mod_eq_of_lt hs])
      clear ih hs
      go_enter Tryz.func27, Tryz.ntmps27
      generalize UInt8.ofNat (48 + n % 10) = b at *
      go_wp2
      go_ret
      rw [hd.out]
      exact ⟨rfl, by go_grown⟩
    · have hs2 : ¬ (n : Int) < 10 := by omega
      have hd : Hid (Lib.decDigits n = Lib.decDigits (n / 10) ++ [UInt8.ofNat (48 + n % 10)]) := Lib.hid (dec_big hs)
      have e10 : (n : Int) / 10 = ((n / 10 : Nat) : Int) := by omega
      have HI := Lib.hid (fun W => ih (n / 10) W (by omega) (by omega))
      have hql : ¬ 9223372036854775807 < (Lib.decDigits (n / 10)).length + 1 := by have := dec_len (u := n / 10) (by omega); omega
      clear ih hs
      generalize UInt8.ofNat (48 + n % 10) = b at *
      generalize n / 10 = q at *
      go_enter Tryz.func27, Tryz.ntmps27
      go_wp2_with (go_at_call 27; (try simp only [e10]); refine (HI.out _).mono ?_; rintro e w1 ⟨rfl, b1⟩)
      go_ret
      rw [hd.out]
      refine ⟨congrArg (fun x => Ending.returned (.string x)) (bytes_app _ [b]), ?_⟩
      simp only [World.size_alloc] at b1
      exact ((Below.refl _ w).alloc (Nat.le_refl _) _).trans (b1.mono (by omega))
end Go.Proofs.YtkmadabpfialbaaGreatDoor
