/-
  No cell of these rows narrows 'for every input' (looked for: loops, veiled, ifaces, maps, wideKeys, modest, calm, conditions, laid).
  DERIVED. THE GIVEN ROWS OF THIS SEAT. 9 by the template 'for every input the law returns true; each argument reads behind the call as it read before'; 0 by the template 'total and deterministic' (their statements: YtldofbkjjmnooaaGreatTotals.lean).
  GIVEN WITH THE SEED: the statements are not yours to turn. If you find one false, say at which input.
  Laid BY PROGRAM, IN A SANDBOX (cutbox-rows.mjs): the forced cells as the released guide's own fill.sh prints them over the translation 18109c1588d87b60… (all of the seat's roots in one cut). By AI agents, Wed Nov 11 2026. No macro, syntax, notation, axiom, sorry.
-/
import Derived.Test.YtldofbkjjmnooaaGreatChecked
import GoSem.Claim
import GoSem.ClaimJoined
import GoSem.ClaimMapViews
import Derived.JoinedTies
import Derived.KernelRfl
namespace Go.Proofs.YtldofbkjjmnooaaGreat
/- THE CELL 'sum', in the pinned program and in every row, IS THE sha256 OF THE DUMP (.gsa) THAT YtldofbkjjmnooaaGreatProg.lean LOADS. Nothing in Lean hashes anything: it is a label: what it is worth is what the hold of that sum in a sandbox is worth. -/
noncomputable def Tryz.pinned : Pinned := { name := "ytldofbkjjmnooaagreat", sum := "18109c1588d87b607a08e0968a595c0eabd309429d9e96fb187746ecd29efb66", checked := Tryz.checked }
namespace Rows
def none {H : Type} : Left H := { results := [], args := [] }

/-- 'doorkeeperlaw10.QueueTells': WHATEVER THE INPUT: true; the input reads as it did. -/
def queueTellsSpec : ChangeSpec := { name := "queueTells", fn := fun _ => fun
  | [d] => { results := [.lit (.bool true)], args := [d] }
  | _ => none }
def queueTellsRow : OpenClaim := { program := "ytldofbkjjmnooaagreat", sum := "18109c1588d87b607a08e0968a595c0eabd309429d9e96fb187746ecd29efb66", func := "doorkeeper/doorkeeperlaw10.QueueTells", spec := "queueTells", inPlace := ["sync/atomic.AddInt64", "sync/atomic.LoadInt64"], unfollowed := true, recurses := true, apart := false }
def QueueTellsSaid : Prop := queueTellsRow.holds Tryz.pinned (OpenSpec.ofChange queueTellsSpec)

/-- ITS FALSE NEIGHBOUR: 'it returns false'. Refute it at one input. -/
def queueTellsWrong : ChangeSpec := { name := "queueTells", fn := fun _ => fun
  | [d] => { results := [.lit (.bool false)], args := [d] }
  | _ => none }
def QueueTellsWrongFalsely : Prop := queueTellsRow.holds Tryz.pinned (OpenSpec.ofChange queueTellsWrong)

/-- 'doorkeeperlaw11.PoolShares': WHATEVER THE INPUT: true; the input reads as it did. -/
def poolSharesSpec : ChangeSpec := { name := "poolShares", fn := fun _ => fun
  | [d1, d2, d3] => { results := [.lit (.bool true)], args := [d1, d2, d3] }
  | _ => none }
def poolSharesRow : OpenClaim := { program := "ytldofbkjjmnooaagreat", sum := "18109c1588d87b607a08e0968a595c0eabd309429d9e96fb187746ecd29efb66", func := "doorkeeper/doorkeeperlaw11.PoolShares", spec := "poolShares", inPlace := ["sync/atomic.AddInt64"], unfollowed := true, recurses := true, apart := false }
def PoolSharesSaid : Prop := poolSharesRow.holds Tryz.pinned (OpenSpec.ofChange poolSharesSpec)

/-- ITS FALSE NEIGHBOUR: 'it returns false'. Refute it at one input. -/
def poolSharesWrong : ChangeSpec := { name := "poolShares", fn := fun _ => fun
  | [d1, d2, d3] => { results := [.lit (.bool false)], args := [d1, d2, d3] }
  | _ => none }
def PoolSharesWrongFalsely : Prop := poolSharesRow.holds Tryz.pinned (OpenSpec.ofChange poolSharesWrong)

/-- 'doorkeeperlaw13.GroundBegins': WHATEVER THE INPUT: true; the input reads as it did. -/
def groundBeginsSpec : ChangeSpec := { name := "groundBegins", fn := fun _ => fun
  | [d1, d2, d3] => { results := [.lit (.bool true)], args := [d1, d2, d3] }
  | _ => none }
def groundBeginsRow : OpenClaim := { program := "ytldofbkjjmnooaagreat", sum := "18109c1588d87b607a08e0968a595c0eabd309429d9e96fb187746ecd29efb66", func := "doorkeeper/doorkeeperlaw13.GroundBegins", spec := "groundBegins", inPlace := ["sync/atomic.AddInt64", "(*internal/sync.Mutex).Lock", "internal/race.Disable", "sync/atomic.CompareAndSwapInt32", "internal/race.Enable", "internal/race.Acquire", "(*internal/sync.Mutex).lockSlow", "internal/sync.runtime_canSpin", "internal/sync.runtime_doSpin", "internal/sync.throw", "internal/sync.runtime_nanotime", "internal/sync.runtime_SemacquireMutex", "sync/atomic.AddInt32", "(*internal/sync.Mutex).Unlock", "internal/race.ReleaseMerge", "(*internal/sync.Mutex).unlockSlow", "internal/sync.fatal", "internal/sync.runtime_Semrelease"], unfollowed := true, recurses := true, apart := false }
def GroundBeginsSaid : Prop := groundBeginsRow.holds Tryz.pinned (OpenSpec.ofChange groundBeginsSpec)

/-- ITS FALSE NEIGHBOUR: 'it returns false'. Refute it at one input. -/
def groundBeginsWrong : ChangeSpec := { name := "groundBegins", fn := fun _ => fun
  | [d1, d2, d3] => { results := [.lit (.bool false)], args := [d1, d2, d3] }
  | _ => none }
def GroundBeginsWrongFalsely : Prop := groundBeginsRow.holds Tryz.pinned (OpenSpec.ofChange groundBeginsWrong)

/-- 'doorkeeperlaw13.GroundSleeps': WHATEVER THE INPUT: true; the input reads as it did. -/
def groundSleepsSpec : ChangeSpec := { name := "groundSleeps", fn := fun _ => fun
  | [d1, d2] => { results := [.lit (.bool true)], args := [d1, d2] }
  | _ => none }
def groundSleepsRow : OpenClaim := { program := "ytldofbkjjmnooaagreat", sum := "18109c1588d87b607a08e0968a595c0eabd309429d9e96fb187746ecd29efb66", func := "doorkeeper/doorkeeperlaw13.GroundSleeps", spec := "groundSleeps", inPlace := ["sync/atomic.AddInt64", "(*internal/sync.Mutex).Lock", "internal/race.Disable", "sync/atomic.CompareAndSwapInt32", "internal/race.Enable", "internal/race.Acquire", "(*internal/sync.Mutex).lockSlow", "internal/sync.runtime_canSpin", "internal/sync.runtime_doSpin", "internal/sync.throw", "internal/sync.runtime_nanotime", "internal/sync.runtime_SemacquireMutex", "sync/atomic.AddInt32", "(*internal/sync.Mutex).Unlock", "internal/race.ReleaseMerge", "(*internal/sync.Mutex).unlockSlow", "internal/sync.fatal", "internal/sync.runtime_Semrelease"], unfollowed := true, recurses := true, apart := false }
def GroundSleepsSaid : Prop := groundSleepsRow.holds Tryz.pinned (OpenSpec.ofChange groundSleepsSpec)

/-- ITS FALSE NEIGHBOUR: 'it returns false'. Refute it at one input. -/
def groundSleepsWrong : ChangeSpec := { name := "groundSleeps", fn := fun _ => fun
  | [d1, d2] => { results := [.lit (.bool false)], args := [d1, d2] }
  | _ => none }
def GroundSleepsWrongFalsely : Prop := groundSleepsRow.holds Tryz.pinned (OpenSpec.ofChange groundSleepsWrong)

/-- 'doorkeeperlaw14.FatLinear': WHATEVER THE INPUT: true; the input reads as it did. -/
def fatLinearSpec : ChangeSpec := { name := "fatLinear", fn := fun _ => fun
  | [d] => { results := [.lit (.bool true)], args := [d] }
  | _ => none }
def fatLinearRow : OpenClaim := { program := "ytldofbkjjmnooaagreat", sum := "18109c1588d87b607a08e0968a595c0eabd309429d9e96fb187746ecd29efb66", func := "doorkeeper/doorkeeperlaw14.FatLinear", spec := "fatLinear", inPlace := ["sync/atomic.AddInt64", "(*internal/sync.Mutex).Lock", "internal/race.Disable", "sync/atomic.CompareAndSwapInt32", "internal/race.Enable", "internal/race.Acquire", "(*internal/sync.Mutex).lockSlow", "internal/sync.runtime_canSpin", "internal/sync.runtime_doSpin", "internal/sync.throw", "internal/sync.runtime_nanotime", "internal/sync.runtime_SemacquireMutex", "sync/atomic.AddInt32", "(*internal/sync.Mutex).Unlock", "internal/race.ReleaseMerge", "(*internal/sync.Mutex).unlockSlow", "internal/sync.fatal", "internal/sync.runtime_Semrelease", "sync/atomic.LoadInt64"], unfollowed := true, recurses := true, apart := false }
def FatLinearSaid : Prop := fatLinearRow.holds Tryz.pinned (OpenSpec.ofChange fatLinearSpec)

/-- ITS FALSE NEIGHBOUR: 'it returns false'. Refute it at one input. -/
def fatLinearWrong : ChangeSpec := { name := "fatLinear", fn := fun _ => fun
  | [d] => { results := [.lit (.bool false)], args := [d] }
  | _ => none }
def FatLinearWrongFalsely : Prop := fatLinearRow.holds Tryz.pinned (OpenSpec.ofChange fatLinearWrong)

/-- 'doorkeeperlaw14.FatStale': WHATEVER THE INPUT: true; the input reads as it did. -/
def fatStaleSpec : ChangeSpec := { name := "fatStale", fn := fun _ => fun
  | [d1, d2] => { results := [.lit (.bool true)], args := [d1, d2] }
  | _ => none }
def fatStaleRow : OpenClaim := { program := "ytldofbkjjmnooaagreat", sum := "18109c1588d87b607a08e0968a595c0eabd309429d9e96fb187746ecd29efb66", func := "doorkeeper/doorkeeperlaw14.FatStale", spec := "fatStale", inPlace := ["sync/atomic.AddInt64", "(*internal/sync.Mutex).Lock", "internal/race.Disable", "sync/atomic.CompareAndSwapInt32", "internal/race.Enable", "internal/race.Acquire", "(*internal/sync.Mutex).lockSlow", "internal/sync.runtime_canSpin", "internal/sync.runtime_doSpin", "internal/sync.throw", "internal/sync.runtime_nanotime", "internal/sync.runtime_SemacquireMutex", "sync/atomic.AddInt32", "(*internal/sync.Mutex).Unlock", "internal/race.ReleaseMerge", "(*internal/sync.Mutex).unlockSlow", "internal/sync.fatal", "internal/sync.runtime_Semrelease"], unfollowed := true, recurses := true, apart := false }
def FatStaleSaid : Prop := fatStaleRow.holds Tryz.pinned (OpenSpec.ofChange fatStaleSpec)

/-- ITS FALSE NEIGHBOUR: 'it returns false'. Refute it at one input. -/
def fatStaleWrong : ChangeSpec := { name := "fatStale", fn := fun _ => fun
  | [d1, d2] => { results := [.lit (.bool false)], args := [d1, d2] }
  | _ => none }
def FatStaleWrongFalsely : Prop := fatStaleRow.holds Tryz.pinned (OpenSpec.ofChange fatStaleWrong)

/-- 'doorkeeperlaw14.FatOrder': WHATEVER THE INPUT: true; the input reads as it did. -/
def fatOrderSpec : ChangeSpec := { name := "fatOrder", fn := fun _ => fun
  | [d1, d2] => { results := [.lit (.bool true)], args := [d1, d2] }
  | _ => none }
def fatOrderRow : OpenClaim := { program := "ytldofbkjjmnooaagreat", sum := "18109c1588d87b607a08e0968a595c0eabd309429d9e96fb187746ecd29efb66", func := "doorkeeper/doorkeeperlaw14.FatOrder", spec := "fatOrder", inPlace := ["sync/atomic.AddInt64", "(*internal/sync.Mutex).Lock", "internal/race.Disable", "sync/atomic.CompareAndSwapInt32", "internal/race.Enable", "internal/race.Acquire", "(*internal/sync.Mutex).lockSlow", "internal/sync.runtime_canSpin", "internal/sync.runtime_doSpin", "internal/sync.throw", "internal/sync.runtime_nanotime", "internal/sync.runtime_SemacquireMutex", "sync/atomic.AddInt32", "(*internal/sync.Mutex).Unlock", "internal/race.ReleaseMerge", "(*internal/sync.Mutex).unlockSlow", "internal/sync.fatal", "internal/sync.runtime_Semrelease"], unfollowed := true, recurses := true, apart := false }
def FatOrderSaid : Prop := fatOrderRow.holds Tryz.pinned (OpenSpec.ofChange fatOrderSpec)

/-- ITS FALSE NEIGHBOUR: 'it returns false'. Refute it at one input. -/
def fatOrderWrong : ChangeSpec := { name := "fatOrder", fn := fun _ => fun
  | [d1, d2] => { results := [.lit (.bool false)], args := [d1, d2] }
  | _ => none }
def FatOrderWrongFalsely : Prop := fatOrderRow.holds Tryz.pinned (OpenSpec.ofChange fatOrderWrong)

/-- 'doorkeeperlaw14.FatEnds': WHATEVER THE INPUT: true; the input reads as it did. -/
def fatEndsSpec : ChangeSpec := { name := "fatEnds", fn := fun _ => fun
  | [d1, d2, d3] => { results := [.lit (.bool true)], args := [d1, d2, d3] }
  | _ => none }
def fatEndsRow : OpenClaim := { program := "ytldofbkjjmnooaagreat", sum := "18109c1588d87b607a08e0968a595c0eabd309429d9e96fb187746ecd29efb66", func := "doorkeeper/doorkeeperlaw14.FatEnds", spec := "fatEnds", inPlace := ["sync/atomic.AddInt64", "(*internal/sync.Mutex).Lock", "internal/race.Disable", "sync/atomic.CompareAndSwapInt32", "internal/race.Enable", "internal/race.Acquire", "(*internal/sync.Mutex).lockSlow", "internal/sync.runtime_canSpin", "internal/sync.runtime_doSpin", "internal/sync.throw", "internal/sync.runtime_nanotime", "internal/sync.runtime_SemacquireMutex", "sync/atomic.AddInt32", "(*internal/sync.Mutex).Unlock", "internal/race.ReleaseMerge", "(*internal/sync.Mutex).unlockSlow", "internal/sync.fatal", "internal/sync.runtime_Semrelease"], unfollowed := true, recurses := true, apart := false }
def FatEndsSaid : Prop := fatEndsRow.holds Tryz.pinned (OpenSpec.ofChange fatEndsSpec)

/-- ITS FALSE NEIGHBOUR: 'it returns false'. Refute it at one input. -/
def fatEndsWrong : ChangeSpec := { name := "fatEnds", fn := fun _ => fun
  | [d1, d2, d3] => { results := [.lit (.bool false)], args := [d1, d2, d3] }
  | _ => none }
def FatEndsWrongFalsely : Prop := fatEndsRow.holds Tryz.pinned (OpenSpec.ofChange fatEndsWrong)

/-- 'doorkeeperlaw14.FatKnown': WHATEVER THE INPUT: true; the input reads as it did. -/
def fatKnownSpec : ChangeSpec := { name := "fatKnown", fn := fun _ => fun
  | [] => { results := [.lit (.bool true)], args := [] }
  | _ => none }
def fatKnownRow : OpenClaim := { program := "ytldofbkjjmnooaagreat", sum := "18109c1588d87b607a08e0968a595c0eabd309429d9e96fb187746ecd29efb66", func := "doorkeeper/doorkeeperlaw14.FatKnown", spec := "fatKnown", inPlace := ["sync/atomic.AddInt64", "(*internal/sync.Mutex).Lock", "internal/race.Disable", "sync/atomic.CompareAndSwapInt32", "internal/race.Enable", "internal/race.Acquire", "(*internal/sync.Mutex).lockSlow", "internal/sync.runtime_canSpin", "internal/sync.runtime_doSpin", "internal/sync.throw", "internal/sync.runtime_nanotime", "internal/sync.runtime_SemacquireMutex", "sync/atomic.AddInt32", "(*internal/sync.Mutex).Unlock", "internal/race.ReleaseMerge", "(*internal/sync.Mutex).unlockSlow", "internal/sync.fatal", "internal/sync.runtime_Semrelease"], unfollowed := true, recurses := true, apart := false }
def FatKnownSaid : Prop := fatKnownRow.holds Tryz.pinned (OpenSpec.ofChange fatKnownSpec)

/-- ITS FALSE NEIGHBOUR: 'it returns false'. Refute it at one input. -/
def fatKnownWrong : ChangeSpec := { name := "fatKnown", fn := fun _ => fun
  | [] => { results := [.lit (.bool false)], args := [] }
  | _ => none }
def FatKnownWrongFalsely : Prop := fatKnownRow.holds Tryz.pinned (OpenSpec.ofChange fatKnownWrong)

/- THE SECOND FORM. 'bulk': how many values and letters a reading holds, each counted each time it is reached (what is shared counts as often as it is met; a slice's spare places count too). A statement '..UptoSaid' is the law's where the arguments, and the package variables that the reading takes, are together of bulk at most 1048576: NARROWER than '..Said'. Prove '..Said' where nothing that the law and all that it calls make is longer than what came in: it says more and counts as full. Else prove '..UptoSaid'. A law counts once. -/
mutual
def uptoBulk {H : Type} : DataW H → Nat
  | .lit (.string bytes) => bytes.length + 1
  | .lit _ => 1
  | .nil => 1
  | .ptr d => uptoBulk d + 1
  | .slice elems spare => uptoBulkAll elems + uptoBulkAll spare + 1
  | .agg parts => uptoBulkAll parts + 1
  | .iface _ d => uptoBulk d + 1
  | .map entries => uptoBulkEntries entries + 1
  | .held _ => 1
def uptoBulkAll {H : Type} : List (DataW H) → Nat
  | [] => 0
  | d :: r => uptoBulk d + uptoBulkAll r
def uptoBulkEntries {H : Type} : List (Lit × DataW H) → Nat
  | [] => 0
  | x :: r => uptoBulkEntry x + uptoBulkEntries r
def uptoBulkEntry {H : Type} : Lit × DataW H → Nat
  | (.string bytes, d) => bytes.length + uptoBulk d + 1
  | (_, d) => uptoBulk d + 1
 end
def uptoSmall : (H : Type) → List (DataW H) → Bool := fun _ ds => decide (uptoBulkAll ds ≤ 1048576)
def OpenSpec.upto (s : _root_.Go.ChangeSpec) : _root_.Go.OpenSpec := { _root_.Go.OpenSpec.ofChange s with cond := some uptoSmall }

/-- 'doorkeeperlaw10.QueueTells', WHERE WHAT IT READS IS OF BULK AT MOST 1048576: true; the input reads as it did. -/
def queueTellsUptoRow : OpenClaim := { program := "ytldofbkjjmnooaagreat", sum := "18109c1588d87b607a08e0968a595c0eabd309429d9e96fb187746ecd29efb66", func := "doorkeeper/doorkeeperlaw10.QueueTells", spec := "queueTells", inPlace := ["sync/atomic.AddInt64", "sync/atomic.LoadInt64"], unfollowed := true, recurses := true, apart := false, narrowed := true }
def QueueTellsUptoSaid : Prop := queueTellsUptoRow.holds Tryz.pinned (OpenSpec.upto queueTellsSpec)

/-- 'doorkeeperlaw11.PoolShares', WHERE WHAT IT READS IS OF BULK AT MOST 1048576: true; the input reads as it did. -/
def poolSharesUptoRow : OpenClaim := { program := "ytldofbkjjmnooaagreat", sum := "18109c1588d87b607a08e0968a595c0eabd309429d9e96fb187746ecd29efb66", func := "doorkeeper/doorkeeperlaw11.PoolShares", spec := "poolShares", inPlace := ["sync/atomic.AddInt64"], unfollowed := true, recurses := true, apart := false, narrowed := true }
def PoolSharesUptoSaid : Prop := poolSharesUptoRow.holds Tryz.pinned (OpenSpec.upto poolSharesSpec)

/-- 'doorkeeperlaw13.GroundBegins', WHERE WHAT IT READS IS OF BULK AT MOST 1048576: true; the input reads as it did. -/
def groundBeginsUptoRow : OpenClaim := { program := "ytldofbkjjmnooaagreat", sum := "18109c1588d87b607a08e0968a595c0eabd309429d9e96fb187746ecd29efb66", func := "doorkeeper/doorkeeperlaw13.GroundBegins", spec := "groundBegins", inPlace := ["sync/atomic.AddInt64", "(*internal/sync.Mutex).Lock", "internal/race.Disable", "sync/atomic.CompareAndSwapInt32", "internal/race.Enable", "internal/race.Acquire", "(*internal/sync.Mutex).lockSlow", "internal/sync.runtime_canSpin", "internal/sync.runtime_doSpin", "internal/sync.throw", "internal/sync.runtime_nanotime", "internal/sync.runtime_SemacquireMutex", "sync/atomic.AddInt32", "(*internal/sync.Mutex).Unlock", "internal/race.ReleaseMerge", "(*internal/sync.Mutex).unlockSlow", "internal/sync.fatal", "internal/sync.runtime_Semrelease"], unfollowed := true, recurses := true, apart := false, narrowed := true }
def GroundBeginsUptoSaid : Prop := groundBeginsUptoRow.holds Tryz.pinned (OpenSpec.upto groundBeginsSpec)

/-- 'doorkeeperlaw13.GroundSleeps', WHERE WHAT IT READS IS OF BULK AT MOST 1048576: true; the input reads as it did. -/
def groundSleepsUptoRow : OpenClaim := { program := "ytldofbkjjmnooaagreat", sum := "18109c1588d87b607a08e0968a595c0eabd309429d9e96fb187746ecd29efb66", func := "doorkeeper/doorkeeperlaw13.GroundSleeps", spec := "groundSleeps", inPlace := ["sync/atomic.AddInt64", "(*internal/sync.Mutex).Lock", "internal/race.Disable", "sync/atomic.CompareAndSwapInt32", "internal/race.Enable", "internal/race.Acquire", "(*internal/sync.Mutex).lockSlow", "internal/sync.runtime_canSpin", "internal/sync.runtime_doSpin", "internal/sync.throw", "internal/sync.runtime_nanotime", "internal/sync.runtime_SemacquireMutex", "sync/atomic.AddInt32", "(*internal/sync.Mutex).Unlock", "internal/race.ReleaseMerge", "(*internal/sync.Mutex).unlockSlow", "internal/sync.fatal", "internal/sync.runtime_Semrelease"], unfollowed := true, recurses := true, apart := false, narrowed := true }
def GroundSleepsUptoSaid : Prop := groundSleepsUptoRow.holds Tryz.pinned (OpenSpec.upto groundSleepsSpec)

/-- 'doorkeeperlaw14.FatLinear', WHERE WHAT IT READS IS OF BULK AT MOST 1048576: true; the input reads as it did. -/
def fatLinearUptoRow : OpenClaim := { program := "ytldofbkjjmnooaagreat", sum := "18109c1588d87b607a08e0968a595c0eabd309429d9e96fb187746ecd29efb66", func := "doorkeeper/doorkeeperlaw14.FatLinear", spec := "fatLinear", inPlace := ["sync/atomic.AddInt64", "(*internal/sync.Mutex).Lock", "internal/race.Disable", "sync/atomic.CompareAndSwapInt32", "internal/race.Enable", "internal/race.Acquire", "(*internal/sync.Mutex).lockSlow", "internal/sync.runtime_canSpin", "internal/sync.runtime_doSpin", "internal/sync.throw", "internal/sync.runtime_nanotime", "internal/sync.runtime_SemacquireMutex", "sync/atomic.AddInt32", "(*internal/sync.Mutex).Unlock", "internal/race.ReleaseMerge", "(*internal/sync.Mutex).unlockSlow", "internal/sync.fatal", "internal/sync.runtime_Semrelease", "sync/atomic.LoadInt64"], unfollowed := true, recurses := true, apart := false, narrowed := true }
def FatLinearUptoSaid : Prop := fatLinearUptoRow.holds Tryz.pinned (OpenSpec.upto fatLinearSpec)

/-- 'doorkeeperlaw14.FatStale', WHERE WHAT IT READS IS OF BULK AT MOST 1048576: true; the input reads as it did. -/
def fatStaleUptoRow : OpenClaim := { program := "ytldofbkjjmnooaagreat", sum := "18109c1588d87b607a08e0968a595c0eabd309429d9e96fb187746ecd29efb66", func := "doorkeeper/doorkeeperlaw14.FatStale", spec := "fatStale", inPlace := ["sync/atomic.AddInt64", "(*internal/sync.Mutex).Lock", "internal/race.Disable", "sync/atomic.CompareAndSwapInt32", "internal/race.Enable", "internal/race.Acquire", "(*internal/sync.Mutex).lockSlow", "internal/sync.runtime_canSpin", "internal/sync.runtime_doSpin", "internal/sync.throw", "internal/sync.runtime_nanotime", "internal/sync.runtime_SemacquireMutex", "sync/atomic.AddInt32", "(*internal/sync.Mutex).Unlock", "internal/race.ReleaseMerge", "(*internal/sync.Mutex).unlockSlow", "internal/sync.fatal", "internal/sync.runtime_Semrelease"], unfollowed := true, recurses := true, apart := false, narrowed := true }
def FatStaleUptoSaid : Prop := fatStaleUptoRow.holds Tryz.pinned (OpenSpec.upto fatStaleSpec)

/-- 'doorkeeperlaw14.FatOrder', WHERE WHAT IT READS IS OF BULK AT MOST 1048576: true; the input reads as it did. -/
def fatOrderUptoRow : OpenClaim := { program := "ytldofbkjjmnooaagreat", sum := "18109c1588d87b607a08e0968a595c0eabd309429d9e96fb187746ecd29efb66", func := "doorkeeper/doorkeeperlaw14.FatOrder", spec := "fatOrder", inPlace := ["sync/atomic.AddInt64", "(*internal/sync.Mutex).Lock", "internal/race.Disable", "sync/atomic.CompareAndSwapInt32", "internal/race.Enable", "internal/race.Acquire", "(*internal/sync.Mutex).lockSlow", "internal/sync.runtime_canSpin", "internal/sync.runtime_doSpin", "internal/sync.throw", "internal/sync.runtime_nanotime", "internal/sync.runtime_SemacquireMutex", "sync/atomic.AddInt32", "(*internal/sync.Mutex).Unlock", "internal/race.ReleaseMerge", "(*internal/sync.Mutex).unlockSlow", "internal/sync.fatal", "internal/sync.runtime_Semrelease"], unfollowed := true, recurses := true, apart := false, narrowed := true }
def FatOrderUptoSaid : Prop := fatOrderUptoRow.holds Tryz.pinned (OpenSpec.upto fatOrderSpec)

/-- 'doorkeeperlaw14.FatEnds', WHERE WHAT IT READS IS OF BULK AT MOST 1048576: true; the input reads as it did. -/
def fatEndsUptoRow : OpenClaim := { program := "ytldofbkjjmnooaagreat", sum := "18109c1588d87b607a08e0968a595c0eabd309429d9e96fb187746ecd29efb66", func := "doorkeeper/doorkeeperlaw14.FatEnds", spec := "fatEnds", inPlace := ["sync/atomic.AddInt64", "(*internal/sync.Mutex).Lock", "internal/race.Disable", "sync/atomic.CompareAndSwapInt32", "internal/race.Enable", "internal/race.Acquire", "(*internal/sync.Mutex).lockSlow", "internal/sync.runtime_canSpin", "internal/sync.runtime_doSpin", "internal/sync.throw", "internal/sync.runtime_nanotime", "internal/sync.runtime_SemacquireMutex", "sync/atomic.AddInt32", "(*internal/sync.Mutex).Unlock", "internal/race.ReleaseMerge", "(*internal/sync.Mutex).unlockSlow", "internal/sync.fatal", "internal/sync.runtime_Semrelease"], unfollowed := true, recurses := true, apart := false, narrowed := true }
def FatEndsUptoSaid : Prop := fatEndsUptoRow.holds Tryz.pinned (OpenSpec.upto fatEndsSpec)

/-- 'doorkeeperlaw14.FatKnown', WHERE WHAT IT READS IS OF BULK AT MOST 1048576: true; the input reads as it did. -/
def fatKnownUptoRow : OpenClaim := { program := "ytldofbkjjmnooaagreat", sum := "18109c1588d87b607a08e0968a595c0eabd309429d9e96fb187746ecd29efb66", func := "doorkeeper/doorkeeperlaw14.FatKnown", spec := "fatKnown", inPlace := ["sync/atomic.AddInt64", "(*internal/sync.Mutex).Lock", "internal/race.Disable", "sync/atomic.CompareAndSwapInt32", "internal/race.Enable", "internal/race.Acquire", "(*internal/sync.Mutex).lockSlow", "internal/sync.runtime_canSpin", "internal/sync.runtime_doSpin", "internal/sync.throw", "internal/sync.runtime_nanotime", "internal/sync.runtime_SemacquireMutex", "sync/atomic.AddInt32", "(*internal/sync.Mutex).Unlock", "internal/race.ReleaseMerge", "(*internal/sync.Mutex).unlockSlow", "internal/sync.fatal", "internal/sync.runtime_Semrelease"], unfollowed := true, recurses := true, apart := false, narrowed := true }
def FatKnownUptoSaid : Prop := fatKnownUptoRow.holds Tryz.pinned (OpenSpec.upto fatKnownSpec)

end Rows
end Go.Proofs.YtldofbkjjmnooaaGreat
