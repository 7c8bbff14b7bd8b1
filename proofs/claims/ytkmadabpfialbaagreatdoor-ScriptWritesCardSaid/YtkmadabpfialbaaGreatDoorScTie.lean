/- What the listed variables hold, as the walks ask for it; what the library's functions answer, the world behind them told by its frame alone. -/
import Derived.Test.YtkmadabpfialbaaGreatDoorShelf
import Derived.Test.YtkmadabpfialbaaGreatDoorKeep
import Derived.WalkSmall
import Derived.Lib.QuietBelow
namespace Go.Proofs.YtkmadabpfialbaaGreatDoor
open Go.ChangeShapes Go.WideShapes Go.ChangeAt Go.RowKit
set_option linter.unusedVariables false
structure TieW (w : World) : Prop where
  pow : Lib.TabIs Tryz.prog w "internal/strconv.uint64pow10" .u64 Lib.pow10Tab
  syn : ∃ tp p, w.var? Tryz.prog "strconv.ErrSyntax" = some #[.iface tp p]
  rng : ∃ tp p, w.var? Tryz.prog "strconv.ErrRange" = some #[.iface tp p]
  typ : w.cell? ⟨0, 0, none⟩ = some (.iface 112 (.agg #[.pointer (some ⟨9, 34, none⟩)]))
theorem gPow : Tryz.prog.globalNamed "internal/strconv.uint64pow10" = some 4 := by kernel_rfl
theorem gSyn : Tryz.prog.globalNamed "strconv.ErrSyntax" = some 2 := by kernel_rfl
theorem gRng : Tryz.prog.globalNamed "strconv.ErrRange" = some 3 := by kernel_rfl
theorem var_lt {P : Program} {w : World} {n : String} {g : Nat} {cs : Array Value} (hg : P.globalNamed n = some g) (h : w.var? P n = some cs) : g < w.heap.size := by
  unfold World.var? at h
  simp only [hg, Option.bind_some] at h
  cases hb : w.heap[g]? with
  | none => rw [hb] at h; cases h
  | some y => exact (Array.getElem?_eq_some_iff.1 hb).1
theorem TieW.keep {w w' : World} {Q : Nat → Prop} (h : TieW w) (hk : Keep Q w w') (hq : ∀ i, i ≤ 4 → ¬ Q i) : TieW w' := by
  have lp : 4 < w.heap.size := var_lt gPow h.pow
  have e : ∀ g, g ≤ 4 → w'.heap[g]? = w.heap[g]? := fun g hg => hk.block g (by omega) (hq g hg)
  refine ⟨?_, ?_, ?_, ?_⟩
  · have := h.pow
    unfold Lib.TabIs World.var? at this ⊢
    simp only [gPow, Option.bind_some] at this ⊢
    rw [e _ (by omega)]; exact this
  · obtain ⟨tp, p, hv⟩ := h.syn
    refine ⟨tp, p, ?_⟩
    unfold World.var? at hv ⊢
    simp only [gSyn, Option.bind_some] at hv ⊢
    rw [e _ (by omega)]; exact hv
  · obtain ⟨tp, p, hv⟩ := h.rng
    refine ⟨tp, p, ?_⟩
    unfold World.var? at hv ⊢
    simp only [gRng, Option.bind_some] at hv ⊢
    rw [e _ (by omega)]; exact hv
  · have := h.typ
    unfold World.cell? at this ⊢
    rw [e (⟨0, 0, none⟩ : Addr).block (by simp)]; exact this
theorem TieW.big {w : World} (h : TieW w) : 4 < w.heap.size := var_lt gPow h.pow
theorem TieW.below {w w' : World} {n : Nat} (h : TieW w) (hb : Below n w w') (hn : 4 < n) : TieW w' :=
  h.keep (Q := fun i => n ≤ i) ⟨hb.os, hb.tape, hb.output, hb.size, fun k _ hk => hb.block k (by omega)⟩ (fun i hi hc => by omega)
theorem itoa_any (n : Int) (h0 : -9223372036854775808 ≤ n) (h1 : n ≤ 9223372036854775807) (w : World) (ht : TieW w) :
    Calls Tryz.prog 38 #[.int .i64 n] w fun e w' => e = .returned (.string ⟨(Lib.itoa n).toArray⟩) ∧ Below w.heap.size w w' :=
  (Tryz.strconv_Itoa n h0 h1 w ht.pow).mono fun e w' ⟨he, k, os, hw⟩ => ⟨he, by rw [hw]; exact below_regrown w (w.drewN k).drawn os⟩
/-- Atoi: a number, or an error that is not nil -/
def AtoiPost (l : List UInt8) (w : World) (e : Ending) (w' : World) : Prop :=
  Below w.heap.size w w' ∧ ((∃ v, Lib.atoiAll l = .ok v ∧ e = .returned (.tuple #[.int .i64 v, .nilIface])) ∨ ((∀ v, Lib.atoiAll l ≠ .ok v) ∧ ∃ v t a, e = .returned (.tuple #[.int .i64 v, .iface t (.pointer (some a))])))
theorem atoi_any (s : ByteArray) (hs : s.size ≤ 1000000) (w : World) (ht : TieW w) : Calls Tryz.prog 44 #[.string s] w (AtoiPost s.data.toList w) := by
  rcases h : Lib.atoiAll s.data.toList with v | _ | _
  · refine (Tryz.strconv_Atoi_ok s (by omega) v h w).mono fun e w' ⟨he, hw⟩ => ⟨?_, .inl ⟨v, h, he⟩⟩
    rcases hw with rfl | ⟨t, rfl⟩
    · exact Below.refl _ _
    · exact Lib.bytesWorld_below w _ t
  · obtain ⟨tp, p, hv⟩ := ht.syn
    refine (Any.strconv_Atoi_syntax_var Tryz.laysC172 s (by omega) h tp p w hv).mono fun e w' ⟨N, he, _, _, hb⟩ => ⟨hb, .inr ⟨(fun v e => by rw [h] at e; cases e), _, _, _, he⟩⟩
  · obtain ⟨tp, p, hv⟩ := ht.rng
    refine (Tryz.strconv_Atoi_range_var s (by omega) h tp p w hv).mono fun e w' ⟨N, he, _, _, hb⟩ => ⟨hb, .inr ⟨(fun v e => by rw [h] at e; cases e), _, _, _, he⟩⟩
end Go.Proofs.YtkmadabpfialbaaGreatDoor
