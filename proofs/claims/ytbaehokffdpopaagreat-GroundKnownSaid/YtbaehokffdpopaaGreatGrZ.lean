/- The document's word of a header, as law 13 takes it. -/
import Derived.Test.YtbaehokffdpopaaGreatGrX
import Derived.Test.YtbaehokffdpopaaGreatGrY
import Derived.Test.YtbaehokffdpopaaGreatGrR
import Derived.Test.YtbaehokffdpopaaGreatWordRefB
namespace Go.Proofs.YtbaehokffdpopaaGreat
open Go.ChangeShapes Go.WideShapes Go.ChangeAt Go.RowKit Wd
set_option linter.unusedVariables false
set_option maxRecDepth 100000
set_option linter.unusedSimpArgs false
theorem packed13_any (x : Hd) (v : Nat) (hp : packP x = some v) (w : World) : Calls Tryz.prog 45 #[hdV x] w fun e w' => e = .returned (.int .u64 (v : Int)) ∧ Below w.heap.size w w' := by
  have HP : Hid (∀ V, Calls Tryz.prog 72 #[hdV x] V fun e w' => e = .returned (.tuple #[.int .u64 (v : Int), .bool true]) ∧ Below V.heap.size V w') := Lib.hid fun V => by
    have := refPack_any x V
    rw [hp] at this
    exact this
  clear hp
  go_enter Tryz.func45, Tryz.ntmps45
  go_upto_region 1 with fail
  generalize hW : (World.alloc _ _) = W
  have bW : Below w.heap.size w W := by rw [← hW]; go_grown
  have hB : Blk W w.heap.size 77 (hdArr x) := by rw [← hW]; exact Blk.new _ _ _
  clear hW
  have q0 := hB.cell 0 _ rfl
  have q1 := hB.cell 1 _ rfl
  have q2 := hB.cell 2 _ rfl
  have q3 := hB.cell 3 _ rfl
  have q4 := hB.cell 4 _ rfl
  have q5 := hB.cell 5 _ rfl
  go_wp2_with (first
    | (go_at_call 72; refine (HP.out _).mono ?_; rintro e w3 ⟨rfl, b3⟩))
  go_ret
  exact ⟨rfl, bW.trans (b3.mono bW.size)⟩
/-- the document's row of a ground's cells -/
theorem rcells13_any (m : Mp) (H : List Int) (F : List Bool) (ha : Option Addr) (hc : Nat) (fa : Option Addr) (fc : Nat) (w : World) (hm : m.ok) (hh : SliceAt intE w (.slice ha H.length hc) H) (hf : SliceAt Value.bool w (.slice fa F.length fc) F)
    (f : Nat → Int) (hg : ∀ o, o < m.o → ∃ u : Nat, packP (hd0 H F o) = some u ∧ (u : Int) = f o) : Calls Tryz.prog 14 #[mapV m, .slice ha H.length hc, .slice fa F.length fc] w (RCellsPost w m f) :=
  rcells_gen m H F ha hc fa fc w hm hh hf f fun o ho V => by
    obtain ⟨u, hu, he⟩ := hg o ho
    have h1 := refPack_any (hd0 H F o) V
    rw [hu] at h1
    rw [← he]
    exact h1
end Go.Proofs.YtbaehokffdpopaaGreat
