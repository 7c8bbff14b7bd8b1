/- Where this program has the library's locks. -/
import Derived.Test.YtbaehokffdpopaaGreatProg
import Derived.Conc.MuLib
import Derived.Conc.MuLone
import Derived.KernelRfl
namespace Go.Proofs.YtbaehokffdpopaaGreat
open Go.Proofs
abbrev muL : Go.Conc.Locks.MuLink := { lock := 133, unlock := 134, ilock := 182, iunlock := 183, lockSlow := 222, unlockSlow := 225, disable := 218, enable := 220, acquire := 221, relMerge := 223, cas32 := 219, add32 := 224, tMutex := 44, tIMutex := 42, tPMutex := 220, tPIMutex := 232, tPI32 := 234, tUP := 236, tNoCopy := 39, tU32 := 40 }
theorem muLib : Go.Conc.Locks.MuLib Tryz.prog muL :=
  ⟨Tryz.func133, Tryz.func134, Tryz.func182, Tryz.func183, Tryz.func218, Tryz.func220, Tryz.func221, Tryz.func223, Tryz.func219, Tryz.func224,
    Tryz.underlying42, Tryz.runUnderlying42, Tryz.sizeOf42, Tryz.isAgg42, Tryz.zeroValue42, Tryz.underlying44, Tryz.runUnderlying44, Tryz.sizeOf44, Tryz.isAgg44, Tryz.zeroValue44,
    Tryz.underlying220, Tryz.runUnderlying220, Tryz.sizeOf220, Tryz.isAgg220, Tryz.zeroValue220, Tryz.underlying232, Tryz.runUnderlying232, Tryz.sizeOf232, Tryz.isAgg232, Tryz.zeroValue232,
    Tryz.underlying234, Tryz.runUnderlying234, Tryz.sizeOf234, Tryz.isAgg234, Tryz.zeroValue234, Tryz.underlying236, Tryz.runUnderlying236, Tryz.sizeOf236, Tryz.isAgg236, Tryz.zeroValue236,
    Tryz.underlying39, Tryz.runUnderlying39, Tryz.sizeOf39, Tryz.isAgg39, Tryz.zeroValue39, Tryz.underlying21, Tryz.runUnderlying21, Tryz.sizeOf21, Tryz.isAgg21, Tryz.zeroValue21, by kernel_rfl⟩
end Go.Proofs.YtbaehokffdpopaaGreat
