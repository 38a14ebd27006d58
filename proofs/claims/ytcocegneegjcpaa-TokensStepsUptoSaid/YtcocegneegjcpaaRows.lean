/-
  No cell of these rows narrows 'for every input' (looked for: loops, veiled, ifaces, maps, wideKeys, modest, calm, conditions, laid).
  DERIVED. THE GIVEN ROWS OF THIS SEAT. 4 by the template 'for every input the law returns true; each argument reads behind the call as it read before'; 0 by the template 'total and deterministic' (their statements: YtcocegneegjcpaaTotals.lean).
  GIVEN WITH THE SEED: the statements are not yours to turn. If you find one false, say at which input.
  Laid BY PROGRAM, IN A SANDBOX (cutbox-rows.mjs): the forced cells as the released guide's own fill.sh prints them over the translation bc3de491dd174312… (all of the seat's roots in one cut). By AI agents, Wed Nov 11 2026. No macro, syntax, notation, axiom, sorry.
-/
import Derived.Test.YtcocegneegjcpaaChecked
import GoSem.Claim
import GoSem.ClaimJoined
import GoSem.ClaimMapViews
import Derived.JoinedTies
import Derived.KernelRfl
namespace Go.Proofs.Ytcocegneegjcpaa
/- THE CELL 'sum', in the pinned program and in every row, IS THE sha256 OF THE DUMP (.gsa) THAT YtcocegneegjcpaaProg.lean LOADS. Nothing in Lean hashes anything: it is a label: what it is worth is what the hold of that sum in a sandbox is worth. -/
noncomputable def Try.pinned : Pinned := { name := "ytcocegneegjcpaa", sum := "bc3de491dd174312181be718475e638b249ddd3bc7dbc3d71395745312beb94c", checked := Try.checked }
namespace Rows
def none {H : Type} : Left H := { results := [], args := [] }

/-- 'abacuslaw03.GaugesSteps': WHATEVER THE INPUT: true; the input reads as it did. -/
def gaugesStepsSpec : ChangeSpec := { name := "gaugesSteps", fn := fun _ => fun
  | [d1, d2, d3] => { results := [.lit (.bool true)], args := [d1, d2, d3] }
  | _ => none }
def gaugesStepsRow : OpenClaim := { program := "ytcocegneegjcpaa", sum := "bc3de491dd174312181be718475e638b249ddd3bc7dbc3d71395745312beb94c", func := "abacus/abacuslaw03.GaugesSteps", spec := "gaugesSteps", inPlace := ["sync/atomic.LoadUint64", "sync/atomic.SwapUint64", "sync/atomic.AddUint64", "sync/atomic.CompareAndSwapUint64", "math.Float64frombits", "math.Float64bits"], unfollowed := true, recurses := true, apart := false }
def GaugesStepsSaid : Prop := gaugesStepsRow.holds Try.pinned (OpenSpec.ofChange gaugesStepsSpec)

/-- ITS FALSE NEIGHBOUR: 'it returns false'. Refute it at one input. -/
def gaugesStepsWrong : ChangeSpec := { name := "gaugesSteps", fn := fun _ => fun
  | [d1, d2, d3] => { results := [.lit (.bool false)], args := [d1, d2, d3] }
  | _ => none }
def GaugesStepsWrongFalsely : Prop := gaugesStepsRow.holds Try.pinned (OpenSpec.ofChange gaugesStepsWrong)

/-- 'abacuslaw04.ShardsSteps': WHATEVER THE INPUT: true; the input reads as it did. -/
def shardsStepsSpec : ChangeSpec := { name := "shardsSteps", fn := fun _ => fun
  | [d1, d2, d3] => { results := [.lit (.bool true)], args := [d1, d2, d3] }
  | _ => none }
def shardsStepsRow : OpenClaim := { program := "ytcocegneegjcpaa", sum := "bc3de491dd174312181be718475e638b249ddd3bc7dbc3d71395745312beb94c", func := "abacus/abacuslaw04.ShardsSteps", spec := "shardsSteps", inPlace := ["sync/atomic.AddUint64", "sync/atomic.LoadUint64", "sync/atomic.SwapUint64", "sync/atomic.CompareAndSwapUint64"], unfollowed := true, recurses := true, apart := false }
def ShardsStepsSaid : Prop := shardsStepsRow.holds Try.pinned (OpenSpec.ofChange shardsStepsSpec)

/-- ITS FALSE NEIGHBOUR: 'it returns false'. Refute it at one input. -/
def shardsStepsWrong : ChangeSpec := { name := "shardsSteps", fn := fun _ => fun
  | [d1, d2, d3] => { results := [.lit (.bool false)], args := [d1, d2, d3] }
  | _ => none }
def ShardsStepsWrongFalsely : Prop := shardsStepsRow.holds Try.pinned (OpenSpec.ofChange shardsStepsWrong)

/-- 'abacuslaw04.ShardsCalls': WHATEVER THE INPUT: true; the input reads as it did. -/
def shardsCallsSpec : ChangeSpec := { name := "shardsCalls", fn := fun _ => fun
  | [d1, d2] => { results := [.lit (.bool true)], args := [d1, d2] }
  | _ => none }
def shardsCallsRow : OpenClaim := { program := "ytcocegneegjcpaa", sum := "bc3de491dd174312181be718475e638b249ddd3bc7dbc3d71395745312beb94c", func := "abacus/abacuslaw04.ShardsCalls", spec := "shardsCalls", inPlace := ["sync/atomic.AddUint64", "sync/atomic.LoadUint64", "sync/atomic.SwapUint64"], apart := false }
def ShardsCallsSaid : Prop := shardsCallsRow.holds Try.pinned (OpenSpec.ofChange shardsCallsSpec)

/-- ITS FALSE NEIGHBOUR: 'it returns false'. Refute it at one input. -/
def shardsCallsWrong : ChangeSpec := { name := "shardsCalls", fn := fun _ => fun
  | [d1, d2] => { results := [.lit (.bool false)], args := [d1, d2] }
  | _ => none }
def ShardsCallsWrongFalsely : Prop := shardsCallsRow.holds Try.pinned (OpenSpec.ofChange shardsCallsWrong)

/-- 'abacuslaw06.TokensSteps': WHATEVER THE INPUT: true; the input reads as it did. -/
def tokensStepsSpec : ChangeSpec := { name := "tokensSteps", fn := fun _ => fun
  | [d1, d2, d3, d4] => { results := [.lit (.bool true)], args := [d1, d2, d3, d4] }
  | _ => none }
def tokensStepsRow : OpenClaim := { program := "ytcocegneegjcpaa", sum := "bc3de491dd174312181be718475e638b249ddd3bc7dbc3d71395745312beb94c", func := "abacus/abacuslaw06.TokensSteps", spec := "tokensSteps", inPlace := ["sync/atomic.LoadUint64", "sync/atomic.SwapUint64", "sync/atomic.AddUint64", "sync/atomic.CompareAndSwapUint64"], unfollowed := true, recurses := true, apart := false }
def TokensStepsSaid : Prop := tokensStepsRow.holds Try.pinned (OpenSpec.ofChange tokensStepsSpec)

/-- ITS FALSE NEIGHBOUR: 'it returns false'. Refute it at one input. -/
def tokensStepsWrong : ChangeSpec := { name := "tokensSteps", fn := fun _ => fun
  | [d1, d2, d3, d4] => { results := [.lit (.bool false)], args := [d1, d2, d3, d4] }
  | _ => none }
def TokensStepsWrongFalsely : Prop := tokensStepsRow.holds Try.pinned (OpenSpec.ofChange tokensStepsWrong)

/- THE SECOND FORM. 'bulk': how many values and letters a reading holds, each counted each time it is reached (what is shared counts as often as it is met; a slice's spare places count too). A statement '..UptoSaid' is the law's where the arguments, and the package variables that the reading takes, are together of bulk at most 1048576: NARROWER than '..Said'. Prove '..Said' where nothing that the law and all that it calls make is longer than what came in: it says more and counts as full. Else prove '..UptoSaid'. A law counts once. -/
mutual
def uptoBulk {H : Type} : DataW H → Nat
  | .lit (.string bytes) => bytes.length + 1
  | .lit _ => 1
  | .nil => 1
  | .ptr d => uptoBulk d + 1
  | .slice elems spare => uptoBulkAll elems + uptoBulkAll spare + 1
  | .agg parts => uptoBulkAll parts + 1
  | .iface _ d => uptoBulk d + 1
  | .map entries => uptoBulkEntries entries + 1
  | .held _ => 1
def uptoBulkAll {H : Type} : List (DataW H) → Nat
  | [] => 0
  | d :: r => uptoBulk d + uptoBulkAll r
def uptoBulkEntries {H : Type} : List (Lit × DataW H) → Nat
  | [] => 0
  | x :: r => uptoBulkEntry x + uptoBulkEntries r
def uptoBulkEntry {H : Type} : Lit × DataW H → Nat
  | (.string bytes, d) => bytes.length + uptoBulk d + 1
  | (_, d) => uptoBulk d + 1
 end
def uptoSmall : (H : Type) → List (DataW H) → Bool := fun _ ds => decide (uptoBulkAll ds ≤ 1048576)
def OpenSpec.upto (s : _root_.Go.ChangeSpec) : _root_.Go.OpenSpec := { _root_.Go.OpenSpec.ofChange s with cond := some uptoSmall }

/-- 'abacuslaw03.GaugesSteps', WHERE WHAT IT READS IS OF BULK AT MOST 1048576: true; the input reads as it did. -/
def gaugesStepsUptoRow : OpenClaim := { program := "ytcocegneegjcpaa", sum := "bc3de491dd174312181be718475e638b249ddd3bc7dbc3d71395745312beb94c", func := "abacus/abacuslaw03.GaugesSteps", spec := "gaugesSteps", inPlace := ["sync/atomic.LoadUint64", "sync/atomic.SwapUint64", "sync/atomic.AddUint64", "sync/atomic.CompareAndSwapUint64", "math.Float64frombits", "math.Float64bits"], unfollowed := true, recurses := true, apart := false, narrowed := true }
def GaugesStepsUptoSaid : Prop := gaugesStepsUptoRow.holds Try.pinned (OpenSpec.upto gaugesStepsSpec)

/-- 'abacuslaw04.ShardsSteps', WHERE WHAT IT READS IS OF BULK AT MOST 1048576: true; the input reads as it did. -/
def shardsStepsUptoRow : OpenClaim := { program := "ytcocegneegjcpaa", sum := "bc3de491dd174312181be718475e638b249ddd3bc7dbc3d71395745312beb94c", func := "abacus/abacuslaw04.ShardsSteps", spec := "shardsSteps", inPlace := ["sync/atomic.AddUint64", "sync/atomic.LoadUint64", "sync/atomic.SwapUint64", "sync/atomic.CompareAndSwapUint64"], unfollowed := true, recurses := true, apart := false, narrowed := true }
def ShardsStepsUptoSaid : Prop := shardsStepsUptoRow.holds Try.pinned (OpenSpec.upto shardsStepsSpec)

/-- 'abacuslaw04.ShardsCalls', WHERE WHAT IT READS IS OF BULK AT MOST 1048576: true; the input reads as it did. -/
def shardsCallsUptoRow : OpenClaim := { program := "ytcocegneegjcpaa", sum := "bc3de491dd174312181be718475e638b249ddd3bc7dbc3d71395745312beb94c", func := "abacus/abacuslaw04.ShardsCalls", spec := "shardsCalls", inPlace := ["sync/atomic.AddUint64", "sync/atomic.LoadUint64", "sync/atomic.SwapUint64"], apart := false, narrowed := true }
def ShardsCallsUptoSaid : Prop := shardsCallsUptoRow.holds Try.pinned (OpenSpec.upto shardsCallsSpec)

/-- 'abacuslaw06.TokensSteps', WHERE WHAT IT READS IS OF BULK AT MOST 1048576: true; the input reads as it did. -/
def tokensStepsUptoRow : OpenClaim := { program := "ytcocegneegjcpaa", sum := "bc3de491dd174312181be718475e638b249ddd3bc7dbc3d71395745312beb94c", func := "abacus/abacuslaw06.TokensSteps", spec := "tokensSteps", inPlace := ["sync/atomic.LoadUint64", "sync/atomic.SwapUint64", "sync/atomic.AddUint64", "sync/atomic.CompareAndSwapUint64"], unfollowed := true, recurses := true, apart := false, narrowed := true }
def TokensStepsUptoSaid : Prop := tokensStepsUptoRow.holds Try.pinned (OpenSpec.upto tokensStepsSpec)

end Rows
end Go.Proofs.Ytcocegneegjcpaa
