/-
  No cell of these rows narrows 'for every input' (looked for: loops, veiled, ifaces, maps, wideKeys, modest, calm, conditions, laid).
  DERIVED. THE GIVEN ROWS OF THIS SEAT. 5 by the template 'for every input the law returns true; each argument reads behind the call as it read before'; 0 by the template 'total and deterministic' (their statements: YtpejmkoheodblaaGreatTotals.lean).
  GIVEN WITH THE SEED: the statements are not yours to turn. If you find one false, say at which input.
  Laid BY PROGRAM, IN A SANDBOX (cutbox-rows.mjs): the forced cells as the released guide's own fill.sh prints them over the translation 2b059ecd28dcdd1c… (all of the seat's roots in one cut). By AI agents, Wed Nov 11 2026. No macro, syntax, notation, axiom, sorry.
-/
import Derived.Test.YtpejmkoheodblaaGreatChecked
import GoSem.Claim
import GoSem.ClaimJoined
import GoSem.ClaimMapViews
import Derived.JoinedTies
import Derived.KernelRfl
namespace Go.Proofs.YtpejmkoheodblaaGreat
/- THE CELL 'sum', in the pinned program and in every row, IS THE sha256 OF THE DUMP (.gsa) THAT YtpejmkoheodblaaGreatProg.lean LOADS. Nothing in Lean hashes anything: it is a label: what it is worth is what the hold of that sum in a sandbox is worth. -/
noncomputable def Tryz.pinned : Pinned := { name := "ytpejmkoheodblaagreat", sum := "2b059ecd28dcdd1c60ae5312cd07354e0ce28c0047c6ed074c33f601f11b8fba", checked := Tryz.checked }
namespace Rows
def none {H : Type} : Left H := { results := [], args := [] }

/-- 'doorkeeperlaw10.QueueTells': WHATEVER THE INPUT: true; the input reads as it did. -/
def queueTellsSpec : ChangeSpec := { name := "queueTells", fn := fun _ => fun
  | [d] => { results := [.lit (.bool true)], args := [d] }
  | _ => none }
def queueTellsRow : OpenClaim := { program := "ytpejmkoheodblaagreat", sum := "2b059ecd28dcdd1c60ae5312cd07354e0ce28c0047c6ed074c33f601f11b8fba", func := "doorkeeper/doorkeeperlaw10.QueueTells", spec := "queueTells", inPlace := ["sync/atomic.AddInt64", "sync/atomic.LoadInt64"], unfollowed := true, recurses := true, apart := false }
def QueueTellsSaid : Prop := queueTellsRow.holds Tryz.pinned (OpenSpec.ofChange queueTellsSpec)

/-- ITS FALSE NEIGHBOUR: 'it returns false'. Refute it at one input. -/
def queueTellsWrong : ChangeSpec := { name := "queueTells", fn := fun _ => fun
  | [d] => { results := [.lit (.bool false)], args := [d] }
  | _ => none }
def QueueTellsWrongFalsely : Prop := queueTellsRow.holds Tryz.pinned (OpenSpec.ofChange queueTellsWrong)

/-- 'doorkeeperlaw10.QueueOrder': WHATEVER THE INPUT: true; the input reads as it did. -/
def queueOrderSpec : ChangeSpec := { name := "queueOrder", fn := fun _ => fun
  | [d1, d2, d3] => { results := [.lit (.bool true)], args := [d1, d2, d3] }
  | _ => none }
def queueOrderRow : OpenClaim := { program := "ytpejmkoheodblaagreat", sum := "2b059ecd28dcdd1c60ae5312cd07354e0ce28c0047c6ed074c33f601f11b8fba", func := "doorkeeper/doorkeeperlaw10.QueueOrder", spec := "queueOrder", inPlace := ["sync/atomic.AddInt64"], unfollowed := true, recurses := true, apart := false }
def QueueOrderSaid : Prop := queueOrderRow.holds Tryz.pinned (OpenSpec.ofChange queueOrderSpec)

/-- ITS FALSE NEIGHBOUR: 'it returns false'. Refute it at one input. -/
def queueOrderWrong : ChangeSpec := { name := "queueOrder", fn := fun _ => fun
  | [d1, d2, d3] => { results := [.lit (.bool false)], args := [d1, d2, d3] }
  | _ => none }
def QueueOrderWrongFalsely : Prop := queueOrderRow.holds Tryz.pinned (OpenSpec.ofChange queueOrderWrong)

/-- 'doorkeeperlaw11.PoolShares': WHATEVER THE INPUT: true; the input reads as it did. -/
def poolSharesSpec : ChangeSpec := { name := "poolShares", fn := fun _ => fun
  | [d1, d2, d3] => { results := [.lit (.bool true)], args := [d1, d2, d3] }
  | _ => none }
def poolSharesRow : OpenClaim := { program := "ytpejmkoheodblaagreat", sum := "2b059ecd28dcdd1c60ae5312cd07354e0ce28c0047c6ed074c33f601f11b8fba", func := "doorkeeper/doorkeeperlaw11.PoolShares", spec := "poolShares", inPlace := ["sync/atomic.AddInt64"], unfollowed := true, recurses := true, apart := false }
def PoolSharesSaid : Prop := poolSharesRow.holds Tryz.pinned (OpenSpec.ofChange poolSharesSpec)

/-- ITS FALSE NEIGHBOUR: 'it returns false'. Refute it at one input. -/
def poolSharesWrong : ChangeSpec := { name := "poolShares", fn := fun _ => fun
  | [d1, d2, d3] => { results := [.lit (.bool false)], args := [d1, d2, d3] }
  | _ => none }
def PoolSharesWrongFalsely : Prop := poolSharesRow.holds Tryz.pinned (OpenSpec.ofChange poolSharesWrong)

/-- 'doorkeeperlaw11.PoolFree': WHATEVER THE INPUT: true; the input reads as it did. -/
def poolFreeSpec : ChangeSpec := { name := "poolFree", fn := fun _ => fun
  | [d1, d2, d3] => { results := [.lit (.bool true)], args := [d1, d2, d3] }
  | _ => none }
def poolFreeRow : OpenClaim := { program := "ytpejmkoheodblaagreat", sum := "2b059ecd28dcdd1c60ae5312cd07354e0ce28c0047c6ed074c33f601f11b8fba", func := "doorkeeper/doorkeeperlaw11.PoolFree", spec := "poolFree", inPlace := ["sync/atomic.AddInt64", "sync/atomic.LoadInt64"], unfollowed := true, recurses := true, apart := false }
def PoolFreeSaid : Prop := poolFreeRow.holds Tryz.pinned (OpenSpec.ofChange poolFreeSpec)

/-- ITS FALSE NEIGHBOUR: 'it returns false'. Refute it at one input. -/
def poolFreeWrong : ChangeSpec := { name := "poolFree", fn := fun _ => fun
  | [d1, d2, d3] => { results := [.lit (.bool false)], args := [d1, d2, d3] }
  | _ => none }
def PoolFreeWrongFalsely : Prop := poolFreeRow.holds Tryz.pinned (OpenSpec.ofChange poolFreeWrong)

/-- 'doorkeeperlaw11.PoolKnown': WHATEVER THE INPUT: true; the input reads as it did. -/
def poolKnownSpec : ChangeSpec := { name := "poolKnown", fn := fun _ => fun
  | [] => { results := [.lit (.bool true)], args := [] }
  | _ => none }
def poolKnownRow : OpenClaim := { program := "ytpejmkoheodblaagreat", sum := "2b059ecd28dcdd1c60ae5312cd07354e0ce28c0047c6ed074c33f601f11b8fba", func := "doorkeeper/doorkeeperlaw11.PoolKnown", spec := "poolKnown", inPlace := ["sync/atomic.AddInt64"], unfollowed := true, recurses := true, apart := false }
def PoolKnownSaid : Prop := poolKnownRow.holds Tryz.pinned (OpenSpec.ofChange poolKnownSpec)

/-- ITS FALSE NEIGHBOUR: 'it returns false'. Refute it at one input. -/
def poolKnownWrong : ChangeSpec := { name := "poolKnown", fn := fun _ => fun
  | [] => { results := [.lit (.bool false)], args := [] }
  | _ => none }
def PoolKnownWrongFalsely : Prop := poolKnownRow.holds Tryz.pinned (OpenSpec.ofChange poolKnownWrong)

/- THE SECOND FORM. 'bulk': how many values and letters a reading holds, each counted each time it is reached (what is shared counts as often as it is met; a slice's spare places count too). A statement '..UptoSaid' is the law's where the arguments, and the package variables that the reading takes, are together of bulk at most 1048576: NARROWER than '..Said'. Prove '..Said' where nothing that the law and all that it calls make is longer than what came in: it says more and counts as full. Else prove '..UptoSaid'. A law counts once. -/
mutual
def uptoBulk {H : Type} : DataW H → Nat
  | .lit (.string bytes) => bytes.length + 1
  | .lit _ => 1
  | .nil => 1
  | .ptr d => uptoBulk d + 1
  | .slice elems spare => uptoBulkAll elems + uptoBulkAll spare + 1
  | .agg parts => uptoBulkAll parts + 1
  | .iface _ d => uptoBulk d + 1
  | .map entries => uptoBulkEntries entries + 1
  | .held _ => 1
def uptoBulkAll {H : Type} : List (DataW H) → Nat
  | [] => 0
  | d :: r => uptoBulk d + uptoBulkAll r
def uptoBulkEntries {H : Type} : List (Lit × DataW H) → Nat
  | [] => 0
  | x :: r => uptoBulkEntry x + uptoBulkEntries r
def uptoBulkEntry {H : Type} : Lit × DataW H → Nat
  | (.string bytes, d) => bytes.length + uptoBulk d + 1
  | (_, d) => uptoBulk d + 1
 end
def uptoSmall : (H : Type) → List (DataW H) → Bool := fun _ ds => decide (uptoBulkAll ds ≤ 1048576)
def OpenSpec.upto (s : _root_.Go.ChangeSpec) : _root_.Go.OpenSpec := { _root_.Go.OpenSpec.ofChange s with cond := some uptoSmall }

/-- 'doorkeeperlaw10.QueueTells', WHERE WHAT IT READS IS OF BULK AT MOST 1048576: true; the input reads as it did. -/
def queueTellsUptoRow : OpenClaim := { program := "ytpejmkoheodblaagreat", sum := "2b059ecd28dcdd1c60ae5312cd07354e0ce28c0047c6ed074c33f601f11b8fba", func := "doorkeeper/doorkeeperlaw10.QueueTells", spec := "queueTells", inPlace := ["sync/atomic.AddInt64", "sync/atomic.LoadInt64"], unfollowed := true, recurses := true, apart := false, narrowed := true }
def QueueTellsUptoSaid : Prop := queueTellsUptoRow.holds Tryz.pinned (OpenSpec.upto queueTellsSpec)

/-- 'doorkeeperlaw10.QueueOrder', WHERE WHAT IT READS IS OF BULK AT MOST 1048576: true; the input reads as it did. -/
def queueOrderUptoRow : OpenClaim := { program := "ytpejmkoheodblaagreat", sum := "2b059ecd28dcdd1c60ae5312cd07354e0ce28c0047c6ed074c33f601f11b8fba", func := "doorkeeper/doorkeeperlaw10.QueueOrder", spec := "queueOrder", inPlace := ["sync/atomic.AddInt64"], unfollowed := true, recurses := true, apart := false, narrowed := true }
def QueueOrderUptoSaid : Prop := queueOrderUptoRow.holds Tryz.pinned (OpenSpec.upto queueOrderSpec)

/-- 'doorkeeperlaw11.PoolShares', WHERE WHAT IT READS IS OF BULK AT MOST 1048576: true; the input reads as it did. -/
def poolSharesUptoRow : OpenClaim := { program := "ytpejmkoheodblaagreat", sum := "2b059ecd28dcdd1c60ae5312cd07354e0ce28c0047c6ed074c33f601f11b8fba", func := "doorkeeper/doorkeeperlaw11.PoolShares", spec := "poolShares", inPlace := ["sync/atomic.AddInt64"], unfollowed := true, recurses := true, apart := false, narrowed := true }
def PoolSharesUptoSaid : Prop := poolSharesUptoRow.holds Tryz.pinned (OpenSpec.upto poolSharesSpec)

/-- 'doorkeeperlaw11.PoolFree', WHERE WHAT IT READS IS OF BULK AT MOST 1048576: true; the input reads as it did. -/
def poolFreeUptoRow : OpenClaim := { program := "ytpejmkoheodblaagreat", sum := "2b059ecd28dcdd1c60ae5312cd07354e0ce28c0047c6ed074c33f601f11b8fba", func := "doorkeeper/doorkeeperlaw11.PoolFree", spec := "poolFree", inPlace := ["sync/atomic.AddInt64", "sync/atomic.LoadInt64"], unfollowed := true, recurses := true, apart := false, narrowed := true }
def PoolFreeUptoSaid : Prop := poolFreeUptoRow.holds Tryz.pinned (OpenSpec.upto poolFreeSpec)

/-- 'doorkeeperlaw11.PoolKnown', WHERE WHAT IT READS IS OF BULK AT MOST 1048576: true; the input reads as it did. -/
def poolKnownUptoRow : OpenClaim := { program := "ytpejmkoheodblaagreat", sum := "2b059ecd28dcdd1c60ae5312cd07354e0ce28c0047c6ed074c33f601f11b8fba", func := "doorkeeper/doorkeeperlaw11.PoolKnown", spec := "poolKnown", inPlace := ["sync/atomic.AddInt64"], unfollowed := true, recurses := true, apart := false, narrowed := true }
def PoolKnownUptoSaid : Prop := poolKnownUptoRow.holds Tryz.pinned (OpenSpec.upto poolKnownSpec)

end Rows
end Go.Proofs.YtpejmkoheodblaaGreat
