/-
  No cell of these rows narrows 'for every input' (looked for: loops, veiled, ifaces, maps, wideKeys, modest, calm, conditions, laid).
  DERIVED. THE GIVEN ROWS OF THIS SEAT. 12 by the template 'for every input the law returns true; each argument reads behind the call as it read before'; 0 by the template 'total and deterministic' (their statements: YtdhnekakofahnaaTotals.lean).
  GIVEN WITH THE SEED: the statements are not yours to turn. If you find one false, say at which input.
  Laid BY PROGRAM, IN A SANDBOX (cutbox-rows.mjs): the forced cells as the released guide's own fill.sh prints them over the translation afc8a81bed8778b5… (all of the seat's roots in one cut). By AI agents, Wed Nov 11 2026. No macro, syntax, notation, axiom, sorry.
-/
import Derived.Test.YtdhnekakofahnaaChecked
import GoSem.Claim
import GoSem.ClaimJoined
import GoSem.ClaimMapViews
import Derived.JoinedTies
import Derived.KernelRfl
namespace Go.Proofs.Ytdhnekakofahnaa
/- THE CELL 'sum', in the pinned program and in every row, IS THE sha256 OF THE DUMP (.gsa) THAT YtdhnekakofahnaaProg.lean LOADS. Nothing in Lean hashes anything: it is a label: what it is worth is what the hold of that sum in a sandbox is worth. -/
noncomputable def Try.pinned : Pinned := { name := "ytdhnekakofahnaa", sum := "afc8a81bed8778b5531c28623e721f44b2f728060b5cec973ed9a139196c5565", checked := Try.checked }
namespace Rows
def none {H : Type} : Left H := { results := [], args := [] }

/-- 'abacuslaw03.GaugesPlain': WHATEVER THE INPUT: true; the input reads as it did. -/
def gaugesPlainSpec : ChangeSpec := { name := "gaugesPlain", fn := fun _ => fun
  | [d1, d2, d3] => { results := [.lit (.bool true)], args := [d1, d2, d3] }
  | _ => none }
def gaugesPlainRow : OpenClaim := { program := "ytdhnekakofahnaa", sum := "afc8a81bed8778b5531c28623e721f44b2f728060b5cec973ed9a139196c5565", func := "abacus/abacuslaw03.GaugesPlain", spec := "gaugesPlain", inPlace := ["sync/atomic.LoadUint64", "sync/atomic.SwapUint64", "sync/atomic.AddUint64", "sync/atomic.CompareAndSwapUint64", "math.Float64frombits", "math.Float64bits"], unfollowed := true, recurses := true, apart := false }
def GaugesPlainSaid : Prop := gaugesPlainRow.holds Try.pinned (OpenSpec.ofChange gaugesPlainSpec)

/-- ITS FALSE NEIGHBOUR: 'it returns false'. Refute it at one input. -/
def gaugesPlainWrong : ChangeSpec := { name := "gaugesPlain", fn := fun _ => fun
  | [d1, d2, d3] => { results := [.lit (.bool false)], args := [d1, d2, d3] }
  | _ => none }
def GaugesPlainWrongFalsely : Prop := gaugesPlainRow.holds Try.pinned (OpenSpec.ofChange gaugesPlainWrong)

/-- 'abacuslaw04.ShardsSteps': WHATEVER THE INPUT: true; the input reads as it did. -/
def shardsStepsSpec : ChangeSpec := { name := "shardsSteps", fn := fun _ => fun
  | [d1, d2, d3] => { results := [.lit (.bool true)], args := [d1, d2, d3] }
  | _ => none }
def shardsStepsRow : OpenClaim := { program := "ytdhnekakofahnaa", sum := "afc8a81bed8778b5531c28623e721f44b2f728060b5cec973ed9a139196c5565", func := "abacus/abacuslaw04.ShardsSteps", spec := "shardsSteps", inPlace := ["sync/atomic.AddUint64", "sync/atomic.LoadUint64", "sync/atomic.SwapUint64", "sync/atomic.CompareAndSwapUint64"], unfollowed := true, recurses := true, apart := false }
def ShardsStepsSaid : Prop := shardsStepsRow.holds Try.pinned (OpenSpec.ofChange shardsStepsSpec)

/-- ITS FALSE NEIGHBOUR: 'it returns false'. Refute it at one input. -/
def shardsStepsWrong : ChangeSpec := { name := "shardsSteps", fn := fun _ => fun
  | [d1, d2, d3] => { results := [.lit (.bool false)], args := [d1, d2, d3] }
  | _ => none }
def ShardsStepsWrongFalsely : Prop := shardsStepsRow.holds Try.pinned (OpenSpec.ofChange shardsStepsWrong)

/-- 'abacuslaw04.ShardsCalls': WHATEVER THE INPUT: true; the input reads as it did. -/
def shardsCallsSpec : ChangeSpec := { name := "shardsCalls", fn := fun _ => fun
  | [d1, d2] => { results := [.lit (.bool true)], args := [d1, d2] }
  | _ => none }
def shardsCallsRow : OpenClaim := { program := "ytdhnekakofahnaa", sum := "afc8a81bed8778b5531c28623e721f44b2f728060b5cec973ed9a139196c5565", func := "abacus/abacuslaw04.ShardsCalls", spec := "shardsCalls", inPlace := ["sync/atomic.AddUint64", "sync/atomic.LoadUint64", "sync/atomic.SwapUint64"], apart := false }
def ShardsCallsSaid : Prop := shardsCallsRow.holds Try.pinned (OpenSpec.ofChange shardsCallsSpec)

/-- ITS FALSE NEIGHBOUR: 'it returns false'. Refute it at one input. -/
def shardsCallsWrong : ChangeSpec := { name := "shardsCalls", fn := fun _ => fun
  | [d1, d2] => { results := [.lit (.bool false)], args := [d1, d2] }
  | _ => none }
def ShardsCallsWrongFalsely : Prop := shardsCallsRow.holds Try.pinned (OpenSpec.ofChange shardsCallsWrong)

/-- 'abacuslaw04.ShardsStill': WHATEVER THE INPUT: true; the input reads as it did. -/
def shardsStillSpec : ChangeSpec := { name := "shardsStill", fn := fun _ => fun
  | [d1, d2, d3] => { results := [.lit (.bool true)], args := [d1, d2, d3] }
  | _ => none }
def shardsStillRow : OpenClaim := { program := "ytdhnekakofahnaa", sum := "afc8a81bed8778b5531c28623e721f44b2f728060b5cec973ed9a139196c5565", func := "abacus/abacuslaw04.ShardsStill", spec := "shardsStill", inPlace := ["sync/atomic.AddUint64", "sync/atomic.LoadUint64", "sync/atomic.SwapUint64", "sync/atomic.CompareAndSwapUint64"], unfollowed := true, recurses := true, apart := false }
def ShardsStillSaid : Prop := shardsStillRow.holds Try.pinned (OpenSpec.ofChange shardsStillSpec)

/-- ITS FALSE NEIGHBOUR: 'it returns false'. Refute it at one input. -/
def shardsStillWrong : ChangeSpec := { name := "shardsStill", fn := fun _ => fun
  | [d1, d2, d3] => { results := [.lit (.bool false)], args := [d1, d2, d3] }
  | _ => none }
def ShardsStillWrongFalsely : Prop := shardsStillRow.holds Try.pinned (OpenSpec.ofChange shardsStillWrong)

/-- 'abacuslaw04.ShardsBetween': WHATEVER THE INPUT: true; the input reads as it did. -/
def shardsBetweenSpec : ChangeSpec := { name := "shardsBetween", fn := fun _ => fun
  | [d1, d2, d3] => { results := [.lit (.bool true)], args := [d1, d2, d3] }
  | _ => none }
def shardsBetweenRow : OpenClaim := { program := "ytdhnekakofahnaa", sum := "afc8a81bed8778b5531c28623e721f44b2f728060b5cec973ed9a139196c5565", func := "abacus/abacuslaw04.ShardsBetween", spec := "shardsBetween", inPlace := ["sync/atomic.AddUint64", "sync/atomic.LoadUint64", "sync/atomic.SwapUint64", "sync/atomic.CompareAndSwapUint64"], unfollowed := true, recurses := true, apart := false }
def ShardsBetweenSaid : Prop := shardsBetweenRow.holds Try.pinned (OpenSpec.ofChange shardsBetweenSpec)

/-- ITS FALSE NEIGHBOUR: 'it returns false'. Refute it at one input. -/
def shardsBetweenWrong : ChangeSpec := { name := "shardsBetween", fn := fun _ => fun
  | [d1, d2, d3] => { results := [.lit (.bool false)], args := [d1, d2, d3] }
  | _ => none }
def ShardsBetweenWrongFalsely : Prop := shardsBetweenRow.holds Try.pinned (OpenSpec.ofChange shardsBetweenWrong)

/-- 'abacuslaw06.TokensSteps': WHATEVER THE INPUT: true; the input reads as it did. -/
def tokensStepsSpec : ChangeSpec := { name := "tokensSteps", fn := fun _ => fun
  | [d1, d2, d3, d4] => { results := [.lit (.bool true)], args := [d1, d2, d3, d4] }
  | _ => none }
def tokensStepsRow : OpenClaim := { program := "ytdhnekakofahnaa", sum := "afc8a81bed8778b5531c28623e721f44b2f728060b5cec973ed9a139196c5565", func := "abacus/abacuslaw06.TokensSteps", spec := "tokensSteps", inPlace := ["sync/atomic.LoadUint64", "sync/atomic.SwapUint64", "sync/atomic.AddUint64", "sync/atomic.CompareAndSwapUint64"], unfollowed := true, recurses := true, apart := false }
def TokensStepsSaid : Prop := tokensStepsRow.holds Try.pinned (OpenSpec.ofChange tokensStepsSpec)

/-- ITS FALSE NEIGHBOUR: 'it returns false'. Refute it at one input. -/
def tokensStepsWrong : ChangeSpec := { name := "tokensSteps", fn := fun _ => fun
  | [d1, d2, d3, d4] => { results := [.lit (.bool false)], args := [d1, d2, d3, d4] }
  | _ => none }
def TokensStepsWrongFalsely : Prop := tokensStepsRow.holds Try.pinned (OpenSpec.ofChange tokensStepsWrong)

/-- 'abacuslaw06.TokensCalls': WHATEVER THE INPUT: true; the input reads as it did. -/
def tokensCallsSpec : ChangeSpec := { name := "tokensCalls", fn := fun _ => fun
  | [d1, d2, d3] => { results := [.lit (.bool true)], args := [d1, d2, d3] }
  | _ => none }
def tokensCallsRow : OpenClaim := { program := "ytdhnekakofahnaa", sum := "afc8a81bed8778b5531c28623e721f44b2f728060b5cec973ed9a139196c5565", func := "abacus/abacuslaw06.TokensCalls", spec := "tokensCalls", inPlace := ["sync/atomic.LoadUint64", "sync/atomic.SwapUint64", "sync/atomic.AddUint64", "sync/atomic.CompareAndSwapUint64"], unfollowed := true, recurses := true, apart := false }
def TokensCallsSaid : Prop := tokensCallsRow.holds Try.pinned (OpenSpec.ofChange tokensCallsSpec)

/-- ITS FALSE NEIGHBOUR: 'it returns false'. Refute it at one input. -/
def tokensCallsWrong : ChangeSpec := { name := "tokensCalls", fn := fun _ => fun
  | [d1, d2, d3] => { results := [.lit (.bool false)], args := [d1, d2, d3] }
  | _ => none }
def TokensCallsWrongFalsely : Prop := tokensCallsRow.holds Try.pinned (OpenSpec.ofChange tokensCallsWrong)

/-- 'abacuslaw06.TokensNil': WHATEVER THE INPUT: true; the input reads as it did. -/
def tokensNilSpec : ChangeSpec := { name := "tokensNil", fn := fun _ => fun
  | [d] => { results := [.lit (.bool true)], args := [d] }
  | _ => none }
def tokensNilRow : OpenClaim := { program := "ytdhnekakofahnaa", sum := "afc8a81bed8778b5531c28623e721f44b2f728060b5cec973ed9a139196c5565", func := "abacus/abacuslaw06.TokensNil", spec := "tokensNil", inPlace := ["sync/atomic.LoadUint64", "sync/atomic.SwapUint64", "sync/atomic.AddUint64", "sync/atomic.CompareAndSwapUint64"], unfollowed := true, recurses := true, apart := false }
def TokensNilSaid : Prop := tokensNilRow.holds Try.pinned (OpenSpec.ofChange tokensNilSpec)

/-- ITS FALSE NEIGHBOUR: 'it returns false'. Refute it at one input. -/
def tokensNilWrong : ChangeSpec := { name := "tokensNil", fn := fun _ => fun
  | [d] => { results := [.lit (.bool false)], args := [d] }
  | _ => none }
def TokensNilWrongFalsely : Prop := tokensNilRow.holds Try.pinned (OpenSpec.ofChange tokensNilWrong)

/-- 'abacuslaw06.TokensLimit': WHATEVER THE INPUT: true; the input reads as it did. -/
def tokensLimitSpec : ChangeSpec := { name := "tokensLimit", fn := fun _ => fun
  | [d1, d2, d3, d4] => { results := [.lit (.bool true)], args := [d1, d2, d3, d4] }
  | _ => none }
def tokensLimitRow : OpenClaim := { program := "ytdhnekakofahnaa", sum := "afc8a81bed8778b5531c28623e721f44b2f728060b5cec973ed9a139196c5565", func := "abacus/abacuslaw06.TokensLimit", spec := "tokensLimit", inPlace := ["sync/atomic.LoadUint64", "sync/atomic.SwapUint64", "sync/atomic.AddUint64", "sync/atomic.CompareAndSwapUint64"], unfollowed := true, recurses := true, apart := false }
def TokensLimitSaid : Prop := tokensLimitRow.holds Try.pinned (OpenSpec.ofChange tokensLimitSpec)

/-- ITS FALSE NEIGHBOUR: 'it returns false'. Refute it at one input. -/
def tokensLimitWrong : ChangeSpec := { name := "tokensLimit", fn := fun _ => fun
  | [d1, d2, d3, d4] => { results := [.lit (.bool false)], args := [d1, d2, d3, d4] }
  | _ => none }
def TokensLimitWrongFalsely : Prop := tokensLimitRow.holds Try.pinned (OpenSpec.ofChange tokensLimitWrong)

/-- 'abacuslaw06.TokensFree': WHATEVER THE INPUT: true; the input reads as it did. -/
def tokensFreeSpec : ChangeSpec := { name := "tokensFree", fn := fun _ => fun
  | [d1, d2, d3, d4] => { results := [.lit (.bool true)], args := [d1, d2, d3, d4] }
  | _ => none }
def tokensFreeRow : OpenClaim := { program := "ytdhnekakofahnaa", sum := "afc8a81bed8778b5531c28623e721f44b2f728060b5cec973ed9a139196c5565", func := "abacus/abacuslaw06.TokensFree", spec := "tokensFree", inPlace := ["sync/atomic.LoadUint64", "sync/atomic.SwapUint64", "sync/atomic.AddUint64", "sync/atomic.CompareAndSwapUint64"], unfollowed := true, recurses := true, apart := false }
def TokensFreeSaid : Prop := tokensFreeRow.holds Try.pinned (OpenSpec.ofChange tokensFreeSpec)

/-- ITS FALSE NEIGHBOUR: 'it returns false'. Refute it at one input. -/
def tokensFreeWrong : ChangeSpec := { name := "tokensFree", fn := fun _ => fun
  | [d1, d2, d3, d4] => { results := [.lit (.bool false)], args := [d1, d2, d3, d4] }
  | _ => none }
def TokensFreeWrongFalsely : Prop := tokensFreeRow.holds Try.pinned (OpenSpec.ofChange tokensFreeWrong)

/-- 'abacuslaw06.TokensWait': WHATEVER THE INPUT: true; the input reads as it did. -/
def tokensWaitSpec : ChangeSpec := { name := "tokensWait", fn := fun _ => fun
  | [d1, d2, d3, d4, d5] => { results := [.lit (.bool true)], args := [d1, d2, d3, d4, d5] }
  | _ => none }
def tokensWaitRow : OpenClaim := { program := "ytdhnekakofahnaa", sum := "afc8a81bed8778b5531c28623e721f44b2f728060b5cec973ed9a139196c5565", func := "abacus/abacuslaw06.TokensWait", spec := "tokensWait", inPlace := ["sync/atomic.LoadUint64", "sync/atomic.SwapUint64", "sync/atomic.AddUint64", "sync/atomic.CompareAndSwapUint64"], unfollowed := true, recurses := true, apart := false }
def TokensWaitSaid : Prop := tokensWaitRow.holds Try.pinned (OpenSpec.ofChange tokensWaitSpec)

/-- ITS FALSE NEIGHBOUR: 'it returns false'. Refute it at one input. -/
def tokensWaitWrong : ChangeSpec := { name := "tokensWait", fn := fun _ => fun
  | [d1, d2, d3, d4, d5] => { results := [.lit (.bool false)], args := [d1, d2, d3, d4, d5] }
  | _ => none }
def TokensWaitWrongFalsely : Prop := tokensWaitRow.holds Try.pinned (OpenSpec.ofChange tokensWaitWrong)

/-- 'abacuslaw06.TokensPlain': WHATEVER THE INPUT: true; the input reads as it did. -/
def tokensPlainSpec : ChangeSpec := { name := "tokensPlain", fn := fun _ => fun
  | [d1, d2, d3, d4] => { results := [.lit (.bool true)], args := [d1, d2, d3, d4] }
  | _ => none }
def tokensPlainRow : OpenClaim := { program := "ytdhnekakofahnaa", sum := "afc8a81bed8778b5531c28623e721f44b2f728060b5cec973ed9a139196c5565", func := "abacus/abacuslaw06.TokensPlain", spec := "tokensPlain", inPlace := ["sync/atomic.LoadUint64", "sync/atomic.SwapUint64", "sync/atomic.AddUint64", "sync/atomic.CompareAndSwapUint64"], unfollowed := true, recurses := true, apart := false }
def TokensPlainSaid : Prop := tokensPlainRow.holds Try.pinned (OpenSpec.ofChange tokensPlainSpec)

/-- ITS FALSE NEIGHBOUR: 'it returns false'. Refute it at one input. -/
def tokensPlainWrong : ChangeSpec := { name := "tokensPlain", fn := fun _ => fun
  | [d1, d2, d3, d4] => { results := [.lit (.bool false)], args := [d1, d2, d3, d4] }
  | _ => none }
def TokensPlainWrongFalsely : Prop := tokensPlainRow.holds Try.pinned (OpenSpec.ofChange tokensPlainWrong)

/- THE SECOND FORM. 'bulk': how many values and letters a reading holds, each counted each time it is reached (what is shared counts as often as it is met; a slice's spare places count too). A statement '..UptoSaid' is the law's where the arguments, and the package variables that the reading takes, are together of bulk at most 1048576: NARROWER than '..Said'. Prove '..Said' where nothing that the law and all that it calls make is longer than what came in: it says more and counts as full. Else prove '..UptoSaid'. A law counts once. -/
mutual
def uptoBulk {H : Type} : DataW H → Nat
  | .lit (.string bytes) => bytes.length + 1
  | .lit _ => 1
  | .nil => 1
  | .ptr d => uptoBulk d + 1
  | .slice elems spare => uptoBulkAll elems + uptoBulkAll spare + 1
  | .agg parts => uptoBulkAll parts + 1
  | .iface _ d => uptoBulk d + 1
  | .map entries => uptoBulkEntries entries + 1
  | .held _ => 1
def uptoBulkAll {H : Type} : List (DataW H) → Nat
  | [] => 0
  | d :: r => uptoBulk d + uptoBulkAll r
def uptoBulkEntries {H : Type} : List (Lit × DataW H) → Nat
  | [] => 0
  | x :: r => uptoBulkEntry x + uptoBulkEntries r
def uptoBulkEntry {H : Type} : Lit × DataW H → Nat
  | (.string bytes, d) => bytes.length + uptoBulk d + 1
  | (_, d) => uptoBulk d + 1
 end
def uptoSmall : (H : Type) → List (DataW H) → Bool := fun _ ds => decide (uptoBulkAll ds ≤ 1048576)
def OpenSpec.upto (s : _root_.Go.ChangeSpec) : _root_.Go.OpenSpec := { _root_.Go.OpenSpec.ofChange s with cond := some uptoSmall }

/-- 'abacuslaw03.GaugesPlain', WHERE WHAT IT READS IS OF BULK AT MOST 1048576: true; the input reads as it did. -/
def gaugesPlainUptoRow : OpenClaim := { program := "ytdhnekakofahnaa", sum := "afc8a81bed8778b5531c28623e721f44b2f728060b5cec973ed9a139196c5565", func := "abacus/abacuslaw03.GaugesPlain", spec := "gaugesPlain", inPlace := ["sync/atomic.LoadUint64", "sync/atomic.SwapUint64", "sync/atomic.AddUint64", "sync/atomic.CompareAndSwapUint64", "math.Float64frombits", "math.Float64bits"], unfollowed := true, recurses := true, apart := false, narrowed := true }
def GaugesPlainUptoSaid : Prop := gaugesPlainUptoRow.holds Try.pinned (OpenSpec.upto gaugesPlainSpec)

/-- 'abacuslaw04.ShardsSteps', WHERE WHAT IT READS IS OF BULK AT MOST 1048576: true; the input reads as it did. -/
def shardsStepsUptoRow : OpenClaim := { program := "ytdhnekakofahnaa", sum := "afc8a81bed8778b5531c28623e721f44b2f728060b5cec973ed9a139196c5565", func := "abacus/abacuslaw04.ShardsSteps", spec := "shardsSteps", inPlace := ["sync/atomic.AddUint64", "sync/atomic.LoadUint64", "sync/atomic.SwapUint64", "sync/atomic.CompareAndSwapUint64"], unfollowed := true, recurses := true, apart := false, narrowed := true }
def ShardsStepsUptoSaid : Prop := shardsStepsUptoRow.holds Try.pinned (OpenSpec.upto shardsStepsSpec)

/-- 'abacuslaw04.ShardsCalls', WHERE WHAT IT READS IS OF BULK AT MOST 1048576: true; the input reads as it did. -/
def shardsCallsUptoRow : OpenClaim := { program := "ytdhnekakofahnaa", sum := "afc8a81bed8778b5531c28623e721f44b2f728060b5cec973ed9a139196c5565", func := "abacus/abacuslaw04.ShardsCalls", spec := "shardsCalls", inPlace := ["sync/atomic.AddUint64", "sync/atomic.LoadUint64", "sync/atomic.SwapUint64"], apart := false, narrowed := true }
def ShardsCallsUptoSaid : Prop := shardsCallsUptoRow.holds Try.pinned (OpenSpec.upto shardsCallsSpec)

/-- 'abacuslaw04.ShardsStill', WHERE WHAT IT READS IS OF BULK AT MOST 1048576: true; the input reads as it did. -/
def shardsStillUptoRow : OpenClaim := { program := "ytdhnekakofahnaa", sum := "afc8a81bed8778b5531c28623e721f44b2f728060b5cec973ed9a139196c5565", func := "abacus/abacuslaw04.ShardsStill", spec := "shardsStill", inPlace := ["sync/atomic.AddUint64", "sync/atomic.LoadUint64", "sync/atomic.SwapUint64", "sync/atomic.CompareAndSwapUint64"], unfollowed := true, recurses := true, apart := false, narrowed := true }
def ShardsStillUptoSaid : Prop := shardsStillUptoRow.holds Try.pinned (OpenSpec.upto shardsStillSpec)

/-- 'abacuslaw04.ShardsBetween', WHERE WHAT IT READS IS OF BULK AT MOST 1048576: true; the input reads as it did. -/
def shardsBetweenUptoRow : OpenClaim := { program := "ytdhnekakofahnaa", sum := "afc8a81bed8778b5531c28623e721f44b2f728060b5cec973ed9a139196c5565", func := "abacus/abacuslaw04.ShardsBetween", spec := "shardsBetween", inPlace := ["sync/atomic.AddUint64", "sync/atomic.LoadUint64", "sync/atomic.SwapUint64", "sync/atomic.CompareAndSwapUint64"], unfollowed := true, recurses := true, apart := false, narrowed := true }
def ShardsBetweenUptoSaid : Prop := shardsBetweenUptoRow.holds Try.pinned (OpenSpec.upto shardsBetweenSpec)

/-- 'abacuslaw06.TokensSteps', WHERE WHAT IT READS IS OF BULK AT MOST 1048576: true; the input reads as it did. -/
def tokensStepsUptoRow : OpenClaim := { program := "ytdhnekakofahnaa", sum := "afc8a81bed8778b5531c28623e721f44b2f728060b5cec973ed9a139196c5565", func := "abacus/abacuslaw06.TokensSteps", spec := "tokensSteps", inPlace := ["sync/atomic.LoadUint64", "sync/atomic.SwapUint64", "sync/atomic.AddUint64", "sync/atomic.CompareAndSwapUint64"], unfollowed := true, recurses := true, apart := false, narrowed := true }
def TokensStepsUptoSaid : Prop := tokensStepsUptoRow.holds Try.pinned (OpenSpec.upto tokensStepsSpec)

/-- 'abacuslaw06.TokensCalls', WHERE WHAT IT READS IS OF BULK AT MOST 1048576: true; the input reads as it did. -/
def tokensCallsUptoRow : OpenClaim := { program := "ytdhnekakofahnaa", sum := "afc8a81bed8778b5531c28623e721f44b2f728060b5cec973ed9a139196c5565", func := "abacus/abacuslaw06.TokensCalls", spec := "tokensCalls", inPlace := ["sync/atomic.LoadUint64", "sync/atomic.SwapUint64", "sync/atomic.AddUint64", "sync/atomic.CompareAndSwapUint64"], unfollowed := true, recurses := true, apart := false, narrowed := true }
def TokensCallsUptoSaid : Prop := tokensCallsUptoRow.holds Try.pinned (OpenSpec.upto tokensCallsSpec)

/-- 'abacuslaw06.TokensNil', WHERE WHAT IT READS IS OF BULK AT MOST 1048576: true; the input reads as it did. -/
def tokensNilUptoRow : OpenClaim := { program := "ytdhnekakofahnaa", sum := "afc8a81bed8778b5531c28623e721f44b2f728060b5cec973ed9a139196c5565", func := "abacus/abacuslaw06.TokensNil", spec := "tokensNil", inPlace := ["sync/atomic.LoadUint64", "sync/atomic.SwapUint64", "sync/atomic.AddUint64", "sync/atomic.CompareAndSwapUint64"], unfollowed := true, recurses := true, apart := false, narrowed := true }
def TokensNilUptoSaid : Prop := tokensNilUptoRow.holds Try.pinned (OpenSpec.upto tokensNilSpec)

/-- 'abacuslaw06.TokensLimit', WHERE WHAT IT READS IS OF BULK AT MOST 1048576: true; the input reads as it did. -/
def tokensLimitUptoRow : OpenClaim := { program := "ytdhnekakofahnaa", sum := "afc8a81bed8778b5531c28623e721f44b2f728060b5cec973ed9a139196c5565", func := "abacus/abacuslaw06.TokensLimit", spec := "tokensLimit", inPlace := ["sync/atomic.LoadUint64", "sync/atomic.SwapUint64", "sync/atomic.AddUint64", "sync/atomic.CompareAndSwapUint64"], unfollowed := true, recurses := true, apart := false, narrowed := true }
def TokensLimitUptoSaid : Prop := tokensLimitUptoRow.holds Try.pinned (OpenSpec.upto tokensLimitSpec)

/-- 'abacuslaw06.TokensFree', WHERE WHAT IT READS IS OF BULK AT MOST 1048576: true; the input reads as it did. -/
def tokensFreeUptoRow : OpenClaim := { program := "ytdhnekakofahnaa", sum := "afc8a81bed8778b5531c28623e721f44b2f728060b5cec973ed9a139196c5565", func := "abacus/abacuslaw06.TokensFree", spec := "tokensFree", inPlace := ["sync/atomic.LoadUint64", "sync/atomic.SwapUint64", "sync/atomic.AddUint64", "sync/atomic.CompareAndSwapUint64"], unfollowed := true, recurses := true, apart := false, narrowed := true }
def TokensFreeUptoSaid : Prop := tokensFreeUptoRow.holds Try.pinned (OpenSpec.upto tokensFreeSpec)

/-- 'abacuslaw06.TokensWait', WHERE WHAT IT READS IS OF BULK AT MOST 1048576: true; the input reads as it did. -/
def tokensWaitUptoRow : OpenClaim := { program := "ytdhnekakofahnaa", sum := "afc8a81bed8778b5531c28623e721f44b2f728060b5cec973ed9a139196c5565", func := "abacus/abacuslaw06.TokensWait", spec := "tokensWait", inPlace := ["sync/atomic.LoadUint64", "sync/atomic.SwapUint64", "sync/atomic.AddUint64", "sync/atomic.CompareAndSwapUint64"], unfollowed := true, recurses := true, apart := false, narrowed := true }
def TokensWaitUptoSaid : Prop := tokensWaitUptoRow.holds Try.pinned (OpenSpec.upto tokensWaitSpec)

/-- 'abacuslaw06.TokensPlain', WHERE WHAT IT READS IS OF BULK AT MOST 1048576: true; the input reads as it did. -/
def tokensPlainUptoRow : OpenClaim := { program := "ytdhnekakofahnaa", sum := "afc8a81bed8778b5531c28623e721f44b2f728060b5cec973ed9a139196c5565", func := "abacus/abacuslaw06.TokensPlain", spec := "tokensPlain", inPlace := ["sync/atomic.LoadUint64", "sync/atomic.SwapUint64", "sync/atomic.AddUint64", "sync/atomic.CompareAndSwapUint64"], unfollowed := true, recurses := true, apart := false, narrowed := true }
def TokensPlainUptoSaid : Prop := tokensPlainUptoRow.holds Try.pinned (OpenSpec.upto tokensPlainSpec)

end Rows
end Go.Proofs.Ytdhnekakofahnaa
