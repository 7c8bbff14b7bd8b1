/-
  No cell of these rows narrows 'for every input' (looked for: loops, veiled, ifaces, maps, wideKeys, modest, calm, conditions, laid).
  DERIVED. THE GIVEN ROWS OF THIS SEAT. 4 by the template 'for every input the law returns true; each argument reads behind the call as it read before'; 0 by the template 'total and deterministic' (their statements: YtmknnjjmmfbppaaGreatTotals.lean).
  GIVEN WITH THE SEED: the statements are not yours to turn. If you find one false, say at which input.
  Laid BY PROGRAM, IN A SANDBOX (cutbox-rows.mjs): the forced cells as the released guide's own fill.sh prints them over the translation 27be7d15483aa63b… (all of the seat's roots in one cut). By AI agents, Wed Nov 11 2026. No macro, syntax, notation, axiom, sorry.
-/
import Derived.Test.YtmknnjjmmfbppaaGreatChecked
import GoSem.Claim
import GoSem.ClaimJoined
import GoSem.ClaimMapViews
import Derived.JoinedTies
import Derived.KernelRfl
namespace Go.Proofs.YtmknnjjmmfbppaaGreat
/- THE CELL 'sum', in the pinned program and in every row, IS THE sha256 OF THE DUMP (.gsa) THAT YtmknnjjmmfbppaaGreatProg.lean LOADS. Nothing in Lean hashes anything: it is a label: what it is worth is what the hold of that sum in a sandbox is worth. -/
noncomputable def Tryz.pinned : Pinned := { name := "ytmknnjjmmfbppaagreat", sum := "27be7d15483aa63ba4baa32a9386fc75b6aad8eb27c5a580136a72ca48114d3d", checked := Tryz.checked }
namespace Rows
def none {H : Type} : Left H := { results := [], args := [] }

/-- 'doorkeeperlaw13.GroundBegins': WHATEVER THE INPUT: true; the input reads as it did. -/
def groundBeginsSpec : ChangeSpec := { name := "groundBegins", fn := fun _ => fun
  | [d1, d2, d3] => { results := [.lit (.bool true)], args := [d1, d2, d3] }
  | _ => none }
def groundBeginsRow : OpenClaim := { program := "ytmknnjjmmfbppaagreat", sum := "27be7d15483aa63ba4baa32a9386fc75b6aad8eb27c5a580136a72ca48114d3d", func := "doorkeeper/doorkeeperlaw13.GroundBegins", spec := "groundBegins", inPlace := ["sync/atomic.AddInt64", "(*internal/sync.Mutex).Lock", "internal/race.Disable", "sync/atomic.CompareAndSwapInt32", "internal/race.Enable", "internal/race.Acquire", "(*internal/sync.Mutex).lockSlow", "internal/sync.runtime_canSpin", "internal/sync.runtime_doSpin", "internal/sync.throw", "internal/sync.runtime_nanotime", "internal/sync.runtime_SemacquireMutex", "sync/atomic.AddInt32", "(*internal/sync.Mutex).Unlock", "internal/race.ReleaseMerge", "(*internal/sync.Mutex).unlockSlow", "internal/sync.fatal", "internal/sync.runtime_Semrelease"], unfollowed := true, recurses := true, apart := false }
def GroundBeginsSaid : Prop := groundBeginsRow.holds Tryz.pinned (OpenSpec.ofChange groundBeginsSpec)

/-- ITS FALSE NEIGHBOUR: 'it returns false'. Refute it at one input. -/
def groundBeginsWrong : ChangeSpec := { name := "groundBegins", fn := fun _ => fun
  | [d1, d2, d3] => { results := [.lit (.bool false)], args := [d1, d2, d3] }
  | _ => none }
def GroundBeginsWrongFalsely : Prop := groundBeginsRow.holds Tryz.pinned (OpenSpec.ofChange groundBeginsWrong)

/-- 'doorkeeperlaw15.WakeLinear': WHATEVER THE INPUT: true; the input reads as it did. -/
def wakeLinearSpec : ChangeSpec := { name := "wakeLinear", fn := fun _ => fun
  | [d] => { results := [.lit (.bool true)], args := [d] }
  | _ => none }
def wakeLinearRow : OpenClaim := { program := "ytmknnjjmmfbppaagreat", sum := "27be7d15483aa63ba4baa32a9386fc75b6aad8eb27c5a580136a72ca48114d3d", func := "doorkeeper/doorkeeperlaw15.WakeLinear", spec := "wakeLinear", inPlace := ["sync/atomic.AddInt64", "(*internal/sync.Mutex).Lock", "internal/race.Disable", "sync/atomic.CompareAndSwapInt32", "internal/race.Enable", "internal/race.Acquire", "(*internal/sync.Mutex).lockSlow", "internal/sync.runtime_canSpin", "internal/sync.runtime_doSpin", "internal/sync.throw", "internal/sync.runtime_nanotime", "internal/sync.runtime_SemacquireMutex", "sync/atomic.AddInt32", "(*internal/sync.Mutex).Unlock", "internal/race.ReleaseMerge", "(*internal/sync.Mutex).unlockSlow", "internal/sync.fatal", "internal/sync.runtime_Semrelease"], unfollowed := true, recurses := true, apart := false }
def WakeLinearSaid : Prop := wakeLinearRow.holds Tryz.pinned (OpenSpec.ofChange wakeLinearSpec)

/-- ITS FALSE NEIGHBOUR: 'it returns false'. Refute it at one input. -/
def wakeLinearWrong : ChangeSpec := { name := "wakeLinear", fn := fun _ => fun
  | [d] => { results := [.lit (.bool false)], args := [d] }
  | _ => none }
def WakeLinearWrongFalsely : Prop := wakeLinearRow.holds Tryz.pinned (OpenSpec.ofChange wakeLinearWrong)

/-- 'doorkeeperlaw15.WakeQueues': WHATEVER THE INPUT: true; the input reads as it did. -/
def wakeQueuesSpec : ChangeSpec := { name := "wakeQueues", fn := fun _ => fun
  | [d1, d2, d3] => { results := [.lit (.bool true)], args := [d1, d2, d3] }
  | _ => none }
def wakeQueuesRow : OpenClaim := { program := "ytmknnjjmmfbppaagreat", sum := "27be7d15483aa63ba4baa32a9386fc75b6aad8eb27c5a580136a72ca48114d3d", func := "doorkeeper/doorkeeperlaw15.WakeQueues", spec := "wakeQueues", inPlace := ["sync/atomic.AddInt64", "(*internal/sync.Mutex).Lock", "internal/race.Disable", "sync/atomic.CompareAndSwapInt32", "internal/race.Enable", "internal/race.Acquire", "(*internal/sync.Mutex).lockSlow", "internal/sync.runtime_canSpin", "internal/sync.runtime_doSpin", "internal/sync.throw", "internal/sync.runtime_nanotime", "internal/sync.runtime_SemacquireMutex", "sync/atomic.AddInt32", "(*internal/sync.Mutex).Unlock", "internal/race.ReleaseMerge", "(*internal/sync.Mutex).unlockSlow", "internal/sync.fatal", "internal/sync.runtime_Semrelease"], unfollowed := true, recurses := true, apart := false }
def WakeQueuesSaid : Prop := wakeQueuesRow.holds Tryz.pinned (OpenSpec.ofChange wakeQueuesSpec)

/-- ITS FALSE NEIGHBOUR: 'it returns false'. Refute it at one input. -/
def wakeQueuesWrong : ChangeSpec := { name := "wakeQueues", fn := fun _ => fun
  | [d1, d2, d3] => { results := [.lit (.bool false)], args := [d1, d2, d3] }
  | _ => none }
def WakeQueuesWrongFalsely : Prop := wakeQueuesRow.holds Tryz.pinned (OpenSpec.ofChange wakeQueuesWrong)

/-- 'doorkeeperlaw15.WakeKnown': WHATEVER THE INPUT: true; the input reads as it did. -/
def wakeKnownSpec : ChangeSpec := { name := "wakeKnown", fn := fun _ => fun
  | [] => { results := [.lit (.bool true)], args := [] }
  | _ => none }
def wakeKnownRow : OpenClaim := { program := "ytmknnjjmmfbppaagreat", sum := "27be7d15483aa63ba4baa32a9386fc75b6aad8eb27c5a580136a72ca48114d3d", func := "doorkeeper/doorkeeperlaw15.WakeKnown", spec := "wakeKnown", inPlace := ["sync/atomic.AddInt64", "(*internal/sync.Mutex).Lock", "internal/race.Disable", "sync/atomic.CompareAndSwapInt32", "internal/race.Enable", "internal/race.Acquire", "(*internal/sync.Mutex).lockSlow", "internal/sync.runtime_canSpin", "internal/sync.runtime_doSpin", "internal/sync.throw", "internal/sync.runtime_nanotime", "internal/sync.runtime_SemacquireMutex", "sync/atomic.AddInt32", "(*internal/sync.Mutex).Unlock", "internal/race.ReleaseMerge", "(*internal/sync.Mutex).unlockSlow", "internal/sync.fatal", "internal/sync.runtime_Semrelease"], unfollowed := true, recurses := true, apart := false }
def WakeKnownSaid : Prop := wakeKnownRow.holds Tryz.pinned (OpenSpec.ofChange wakeKnownSpec)

/-- ITS FALSE NEIGHBOUR: 'it returns false'. Refute it at one input. -/
def wakeKnownWrong : ChangeSpec := { name := "wakeKnown", fn := fun _ => fun
  | [] => { results := [.lit (.bool false)], args := [] }
  | _ => none }
def WakeKnownWrongFalsely : Prop := wakeKnownRow.holds Tryz.pinned (OpenSpec.ofChange wakeKnownWrong)

/- THE SECOND FORM. 'bulk': how many values and letters a reading holds, each counted each time it is reached (what is shared counts as often as it is met; a slice's spare places count too). A statement '..UptoSaid' is the law's where the arguments, and the package variables that the reading takes, are together of bulk at most 1048576: NARROWER than '..Said'. Prove '..Said' where nothing that the law and all that it calls make is longer than what came in: it says more and counts as full. Else prove '..UptoSaid'. A law counts once. -/
mutual
def uptoBulk {H : Type} : DataW H → Nat
  | .lit (.string bytes) => bytes.length + 1
  | .lit _ => 1
  | .nil => 1
  | .ptr d => uptoBulk d + 1
  | .slice elems spare => uptoBulkAll elems + uptoBulkAll spare + 1
  | .agg parts => uptoBulkAll parts + 1
  | .iface _ d => uptoBulk d + 1
  | .map entries => uptoBulkEntries entries + 1
  | .held _ => 1
def uptoBulkAll {H : Type} : List (DataW H) → Nat
  | [] => 0
  | d :: r => uptoBulk d + uptoBulkAll r
def uptoBulkEntries {H : Type} : List (Lit × DataW H) → Nat
  | [] => 0
  | x :: r => uptoBulkEntry x + uptoBulkEntries r
def uptoBulkEntry {H : Type} : Lit × DataW H → Nat
  | (.string bytes, d) => bytes.length + uptoBulk d + 1
  | (_, d) => uptoBulk d + 1
 end
def uptoSmall : (H : Type) → List (DataW H) → Bool := fun _ ds => decide (uptoBulkAll ds ≤ 1048576)
def OpenSpec.upto (s : _root_.Go.ChangeSpec) : _root_.Go.OpenSpec := { _root_.Go.OpenSpec.ofChange s with cond := some uptoSmall }

/-- 'doorkeeperlaw13.GroundBegins', WHERE WHAT IT READS IS OF BULK AT MOST 1048576: true; the input reads as it did. -/
def groundBeginsUptoRow : OpenClaim := { program := "ytmknnjjmmfbppaagreat", sum := "27be7d15483aa63ba4baa32a9386fc75b6aad8eb27c5a580136a72ca48114d3d", func := "doorkeeper/doorkeeperlaw13.GroundBegins", spec := "groundBegins", inPlace := ["sync/atomic.AddInt64", "(*internal/sync.Mutex).Lock", "internal/race.Disable", "sync/atomic.CompareAndSwapInt32", "internal/race.Enable", "internal/race.Acquire", "(*internal/sync.Mutex).lockSlow", "internal/sync.runtime_canSpin", "internal/sync.runtime_doSpin", "internal/sync.throw", "internal/sync.runtime_nanotime", "internal/sync.runtime_SemacquireMutex", "sync/atomic.AddInt32", "(*internal/sync.Mutex).Unlock", "internal/race.ReleaseMerge", "(*internal/sync.Mutex).unlockSlow", "internal/sync.fatal", "internal/sync.runtime_Semrelease"], unfollowed := true, recurses := true, apart := false, narrowed := true }
def GroundBeginsUptoSaid : Prop := groundBeginsUptoRow.holds Tryz.pinned (OpenSpec.upto groundBeginsSpec)

/-- 'doorkeeperlaw15.WakeLinear', WHERE WHAT IT READS IS OF BULK AT MOST 1048576: true; the input reads as it did. -/
def wakeLinearUptoRow : OpenClaim := { program := "ytmknnjjmmfbppaagreat", sum := "27be7d15483aa63ba4baa32a9386fc75b6aad8eb27c5a580136a72ca48114d3d", func := "doorkeeper/doorkeeperlaw15.WakeLinear", spec := "wakeLinear", inPlace := ["sync/atomic.AddInt64", "(*internal/sync.Mutex).Lock", "internal/race.Disable", "sync/atomic.CompareAndSwapInt32", "internal/race.Enable", "internal/race.Acquire", "(*internal/sync.Mutex).lockSlow", "internal/sync.runtime_canSpin", "internal/sync.runtime_doSpin", "internal/sync.throw", "internal/sync.runtime_nanotime", "internal/sync.runtime_SemacquireMutex", "sync/atomic.AddInt32", "(*internal/sync.Mutex).Unlock", "internal/race.ReleaseMerge", "(*internal/sync.Mutex).unlockSlow", "internal/sync.fatal", "internal/sync.runtime_Semrelease"], unfollowed := true, recurses := true, apart := false, narrowed := true }
def WakeLinearUptoSaid : Prop := wakeLinearUptoRow.holds Tryz.pinned (OpenSpec.upto wakeLinearSpec)

/-- 'doorkeeperlaw15.WakeQueues', WHERE WHAT IT READS IS OF BULK AT MOST 1048576: true; the input reads as it did. -/
def wakeQueuesUptoRow : OpenClaim := { program := "ytmknnjjmmfbppaagreat", sum := "27be7d15483aa63ba4baa32a9386fc75b6aad8eb27c5a580136a72ca48114d3d", func := "doorkeeper/doorkeeperlaw15.WakeQueues", spec := "wakeQueues", inPlace := ["sync/atomic.AddInt64", "(*internal/sync.Mutex).Lock", "internal/race.Disable", "sync/atomic.CompareAndSwapInt32", "internal/race.Enable", "internal/race.Acquire", "(*internal/sync.Mutex).lockSlow", "internal/sync.runtime_canSpin", "internal/sync.runtime_doSpin", "internal/sync.throw", "internal/sync.runtime_nanotime", "internal/sync.runtime_SemacquireMutex", "sync/atomic.AddInt32", "(*internal/sync.Mutex).Unlock", "internal/race.ReleaseMerge", "(*internal/sync.Mutex).unlockSlow", "internal/sync.fatal", "internal/sync.runtime_Semrelease"], unfollowed := true, recurses := true, apart := false, narrowed := true }
def WakeQueuesUptoSaid : Prop := wakeQueuesUptoRow.holds Tryz.pinned (OpenSpec.upto wakeQueuesSpec)

/-- 'doorkeeperlaw15.WakeKnown', WHERE WHAT IT READS IS OF BULK AT MOST 1048576: true; the input reads as it did. -/
def wakeKnownUptoRow : OpenClaim := { program := "ytmknnjjmmfbppaagreat", sum := "27be7d15483aa63ba4baa32a9386fc75b6aad8eb27c5a580136a72ca48114d3d", func := "doorkeeper/doorkeeperlaw15.WakeKnown", spec := "wakeKnown", inPlace := ["sync/atomic.AddInt64", "(*internal/sync.Mutex).Lock", "internal/race.Disable", "sync/atomic.CompareAndSwapInt32", "internal/race.Enable", "internal/race.Acquire", "(*internal/sync.Mutex).lockSlow", "internal/sync.runtime_canSpin", "internal/sync.runtime_doSpin", "internal/sync.throw", "internal/sync.runtime_nanotime", "internal/sync.runtime_SemacquireMutex", "sync/atomic.AddInt32", "(*internal/sync.Mutex).Unlock", "internal/race.ReleaseMerge", "(*internal/sync.Mutex).unlockSlow", "internal/sync.fatal", "internal/sync.runtime_Semrelease"], unfollowed := true, recurses := true, apart := false, narrowed := true }
def WakeKnownUptoSaid : Prop := wakeKnownUptoRow.holds Tryz.pinned (OpenSpec.upto wakeKnownSpec)

end Rows
end Go.Proofs.YtmknnjjmmfbppaaGreat
