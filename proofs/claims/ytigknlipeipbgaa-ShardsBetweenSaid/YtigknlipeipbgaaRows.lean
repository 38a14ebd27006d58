/-
  No cell of these rows narrows 'for every input' (looked for: loops, veiled, ifaces, maps, wideKeys, modest, calm, conditions, laid).
  DERIVED. THE GIVEN ROWS OF THIS SEAT. 9 by the template 'for every input the law returns true; each argument reads behind the call as it read before'; 0 by the template 'total and deterministic' (their statements: YtigknlipeipbgaaTotals.lean).
  GIVEN WITH THE SEED: the statements are not yours to turn. If you find one false, say at which input.
  Laid BY PROGRAM, IN A SANDBOX (cutbox-rows.mjs): the forced cells as the released guide's own fill.sh prints them over the translation d9b518f54dee684f… (all of the seat's roots in one cut). By AI agents, Wed Nov 11 2026. No macro, syntax, notation, axiom, sorry.
-/
import Derived.Test.YtigknlipeipbgaaChecked
import GoSem.Claim
import GoSem.ClaimJoined
import GoSem.ClaimMapViews
import Derived.JoinedTies
import Derived.KernelRfl
namespace Go.Proofs.Ytigknlipeipbgaa
/- THE CELL 'sum', in the pinned program and in every row, IS THE sha256 OF THE DUMP (.gsa) THAT YtigknlipeipbgaaProg.lean LOADS. Nothing in Lean hashes anything: it is a label: what it is worth is what the hold of that sum in a sandbox is worth. -/
noncomputable def Try.pinned : Pinned := { name := "ytigknlipeipbgaa", sum := "d9b518f54dee684f66b11c600c0869ffa0b315198f5d2b363c9fc9dae11be2d2", checked := Try.checked }
namespace Rows
def none {H : Type} : Left H := { results := [], args := [] }

/-- 'abacuslaw03.GaugesSteps': WHATEVER THE INPUT: true; the input reads as it did. -/
def gaugesStepsSpec : ChangeSpec := { name := "gaugesSteps", fn := fun _ => fun
  | [d1, d2, d3] => { results := [.lit (.bool true)], args := [d1, d2, d3] }
  | _ => none }
def gaugesStepsRow : OpenClaim := { program := "ytigknlipeipbgaa", sum := "d9b518f54dee684f66b11c600c0869ffa0b315198f5d2b363c9fc9dae11be2d2", func := "abacus/abacuslaw03.GaugesSteps", spec := "gaugesSteps", inPlace := ["sync/atomic.LoadUint64", "sync/atomic.SwapUint64", "sync/atomic.AddUint64", "sync/atomic.CompareAndSwapUint64", "math.Float64frombits", "math.Float64bits"], unfollowed := true, recurses := true, apart := false }
def GaugesStepsSaid : Prop := gaugesStepsRow.holds Try.pinned (OpenSpec.ofChange gaugesStepsSpec)

/-- ITS FALSE NEIGHBOUR: 'it returns false'. Refute it at one input. -/
def gaugesStepsWrong : ChangeSpec := { name := "gaugesSteps", fn := fun _ => fun
  | [d1, d2, d3] => { results := [.lit (.bool false)], args := [d1, d2, d3] }
  | _ => none }
def GaugesStepsWrongFalsely : Prop := gaugesStepsRow.holds Try.pinned (OpenSpec.ofChange gaugesStepsWrong)

/-- 'abacuslaw03.GaugesPlain': WHATEVER THE INPUT: true; the input reads as it did. -/
def gaugesPlainSpec : ChangeSpec := { name := "gaugesPlain", fn := fun _ => fun
  | [d1, d2, d3] => { results := [.lit (.bool true)], args := [d1, d2, d3] }
  | _ => none }
def gaugesPlainRow : OpenClaim := { program := "ytigknlipeipbgaa", sum := "d9b518f54dee684f66b11c600c0869ffa0b315198f5d2b363c9fc9dae11be2d2", func := "abacus/abacuslaw03.GaugesPlain", spec := "gaugesPlain", inPlace := ["sync/atomic.LoadUint64", "sync/atomic.SwapUint64", "sync/atomic.AddUint64", "sync/atomic.CompareAndSwapUint64", "math.Float64frombits", "math.Float64bits"], unfollowed := true, recurses := true, apart := false }
def GaugesPlainSaid : Prop := gaugesPlainRow.holds Try.pinned (OpenSpec.ofChange gaugesPlainSpec)

/-- ITS FALSE NEIGHBOUR: 'it returns false'. Refute it at one input. -/
def gaugesPlainWrong : ChangeSpec := { name := "gaugesPlain", fn := fun _ => fun
  | [d1, d2, d3] => { results := [.lit (.bool false)], args := [d1, d2, d3] }
  | _ => none }
def GaugesPlainWrongFalsely : Prop := gaugesPlainRow.holds Try.pinned (OpenSpec.ofChange gaugesPlainWrong)

/-- 'abacuslaw03.GaugesMost': WHATEVER THE INPUT: true; the input reads as it did. -/
def gaugesMostSpec : ChangeSpec := { name := "gaugesMost", fn := fun _ => fun
  | [d1, d2, d3, d4] => { results := [.lit (.bool true)], args := [d1, d2, d3, d4] }
  | _ => none }
def gaugesMostRow : OpenClaim := { program := "ytigknlipeipbgaa", sum := "d9b518f54dee684f66b11c600c0869ffa0b315198f5d2b363c9fc9dae11be2d2", func := "abacus/abacuslaw03.GaugesMost", spec := "gaugesMost", inPlace := ["sync/atomic.LoadUint64", "sync/atomic.SwapUint64", "sync/atomic.AddUint64", "sync/atomic.CompareAndSwapUint64", "math.Float64frombits", "math.Float64bits"], unfollowed := true, recurses := true, apart := false }
def GaugesMostSaid : Prop := gaugesMostRow.holds Try.pinned (OpenSpec.ofChange gaugesMostSpec)

/-- ITS FALSE NEIGHBOUR: 'it returns false'. Refute it at one input. -/
def gaugesMostWrong : ChangeSpec := { name := "gaugesMost", fn := fun _ => fun
  | [d1, d2, d3, d4] => { results := [.lit (.bool false)], args := [d1, d2, d3, d4] }
  | _ => none }
def GaugesMostWrongFalsely : Prop := gaugesMostRow.holds Try.pinned (OpenSpec.ofChange gaugesMostWrong)

/-- 'abacuslaw03.GaugesAdded': WHATEVER THE INPUT: true; the input reads as it did. -/
def gaugesAddedSpec : ChangeSpec := { name := "gaugesAdded", fn := fun _ => fun
  | [d1, d2, d3] => { results := [.lit (.bool true)], args := [d1, d2, d3] }
  | _ => none }
def gaugesAddedRow : OpenClaim := { program := "ytigknlipeipbgaa", sum := "d9b518f54dee684f66b11c600c0869ffa0b315198f5d2b363c9fc9dae11be2d2", func := "abacus/abacuslaw03.GaugesAdded", spec := "gaugesAdded", inPlace := ["sync/atomic.LoadUint64", "sync/atomic.SwapUint64", "sync/atomic.AddUint64", "sync/atomic.CompareAndSwapUint64", "math.Float64frombits", "math.Float64bits"], unfollowed := true, recurses := true, apart := false }
def GaugesAddedSaid : Prop := gaugesAddedRow.holds Try.pinned (OpenSpec.ofChange gaugesAddedSpec)

/-- ITS FALSE NEIGHBOUR: 'it returns false'. Refute it at one input. -/
def gaugesAddedWrong : ChangeSpec := { name := "gaugesAdded", fn := fun _ => fun
  | [d1, d2, d3] => { results := [.lit (.bool false)], args := [d1, d2, d3] }
  | _ => none }
def GaugesAddedWrongFalsely : Prop := gaugesAddedRow.holds Try.pinned (OpenSpec.ofChange gaugesAddedWrong)

/-- 'abacuslaw04.ShardsSteps': WHATEVER THE INPUT: true; the input reads as it did. -/
def shardsStepsSpec : ChangeSpec := { name := "shardsSteps", fn := fun _ => fun
  | [d1, d2, d3] => { results := [.lit (.bool true)], args := [d1, d2, d3] }
  | _ => none }
def shardsStepsRow : OpenClaim := { program := "ytigknlipeipbgaa", sum := "d9b518f54dee684f66b11c600c0869ffa0b315198f5d2b363c9fc9dae11be2d2", func := "abacus/abacuslaw04.ShardsSteps", spec := "shardsSteps", inPlace := ["sync/atomic.AddUint64", "sync/atomic.LoadUint64", "sync/atomic.SwapUint64", "sync/atomic.CompareAndSwapUint64"], unfollowed := true, recurses := true, apart := false }
def ShardsStepsSaid : Prop := shardsStepsRow.holds Try.pinned (OpenSpec.ofChange shardsStepsSpec)

/-- ITS FALSE NEIGHBOUR: 'it returns false'. Refute it at one input. -/
def shardsStepsWrong : ChangeSpec := { name := "shardsSteps", fn := fun _ => fun
  | [d1, d2, d3] => { results := [.lit (.bool false)], args := [d1, d2, d3] }
  | _ => none }
def ShardsStepsWrongFalsely : Prop := shardsStepsRow.holds Try.pinned (OpenSpec.ofChange shardsStepsWrong)

/-- 'abacuslaw04.ShardsCalls': WHATEVER THE INPUT: true; the input reads as it did. -/
def shardsCallsSpec : ChangeSpec := { name := "shardsCalls", fn := fun _ => fun
  | [d1, d2] => { results := [.lit (.bool true)], args := [d1, d2] }
  | _ => none }
def shardsCallsRow : OpenClaim := { program := "ytigknlipeipbgaa", sum := "d9b518f54dee684f66b11c600c0869ffa0b315198f5d2b363c9fc9dae11be2d2", func := "abacus/abacuslaw04.ShardsCalls", spec := "shardsCalls", inPlace := ["sync/atomic.AddUint64", "sync/atomic.LoadUint64", "sync/atomic.SwapUint64"], apart := false }
def ShardsCallsSaid : Prop := shardsCallsRow.holds Try.pinned (OpenSpec.ofChange shardsCallsSpec)

/-- ITS FALSE NEIGHBOUR: 'it returns false'. Refute it at one input. -/
def shardsCallsWrong : ChangeSpec := { name := "shardsCalls", fn := fun _ => fun
  | [d1, d2] => { results := [.lit (.bool false)], args := [d1, d2] }
  | _ => none }
def ShardsCallsWrongFalsely : Prop := shardsCallsRow.holds Try.pinned (OpenSpec.ofChange shardsCallsWrong)

/-- 'abacuslaw04.ShardsStill': WHATEVER THE INPUT: true; the input reads as it did. -/
def shardsStillSpec : ChangeSpec := { name := "shardsStill", fn := fun _ => fun
  | [d1, d2, d3] => { results := [.lit (.bool true)], args := [d1, d2, d3] }
  | _ => none }
def shardsStillRow : OpenClaim := { program := "ytigknlipeipbgaa", sum := "d9b518f54dee684f66b11c600c0869ffa0b315198f5d2b363c9fc9dae11be2d2", func := "abacus/abacuslaw04.ShardsStill", spec := "shardsStill", inPlace := ["sync/atomic.AddUint64", "sync/atomic.LoadUint64", "sync/atomic.SwapUint64", "sync/atomic.CompareAndSwapUint64"], unfollowed := true, recurses := true, apart := false }
def ShardsStillSaid : Prop := shardsStillRow.holds Try.pinned (OpenSpec.ofChange shardsStillSpec)

/-- ITS FALSE NEIGHBOUR: 'it returns false'. Refute it at one input. -/
def shardsStillWrong : ChangeSpec := { name := "shardsStill", fn := fun _ => fun
  | [d1, d2, d3] => { results := [.lit (.bool false)], args := [d1, d2, d3] }
  | _ => none }
def ShardsStillWrongFalsely : Prop := shardsStillRow.holds Try.pinned (OpenSpec.ofChange shardsStillWrong)

/-- 'abacuslaw04.ShardsBetween': WHATEVER THE INPUT: true; the input reads as it did. -/
def shardsBetweenSpec : ChangeSpec := { name := "shardsBetween", fn := fun _ => fun
  | [d1, d2, d3] => { results := [.lit (.bool true)], args := [d1, d2, d3] }
  | _ => none }
def shardsBetweenRow : OpenClaim := { program := "ytigknlipeipbgaa", sum := "d9b518f54dee684f66b11c600c0869ffa0b315198f5d2b363c9fc9dae11be2d2", func := "abacus/abacuslaw04.ShardsBetween", spec := "shardsBetween", inPlace := ["sync/atomic.AddUint64", "sync/atomic.LoadUint64", "sync/atomic.SwapUint64", "sync/atomic.CompareAndSwapUint64"], unfollowed := true, recurses := true, apart := false }
def ShardsBetweenSaid : Prop := shardsBetweenRow.holds Try.pinned (OpenSpec.ofChange shardsBetweenSpec)

/-- ITS FALSE NEIGHBOUR: 'it returns false'. Refute it at one input. -/
def shardsBetweenWrong : ChangeSpec := { name := "shardsBetween", fn := fun _ => fun
  | [d1, d2, d3] => { results := [.lit (.bool false)], args := [d1, d2, d3] }
  | _ => none }
def ShardsBetweenWrongFalsely : Prop := shardsBetweenRow.holds Try.pinned (OpenSpec.ofChange shardsBetweenWrong)

/-- 'abacuslaw06.TokensSteps': WHATEVER THE INPUT: true; the input reads as it did. -/
def tokensStepsSpec : ChangeSpec := { name := "tokensSteps", fn := fun _ => fun
  | [d1, d2, d3, d4] => { results := [.lit (.bool true)], args := [d1, d2, d3, d4] }
  | _ => none }
def tokensStepsRow : OpenClaim := { program := "ytigknlipeipbgaa", sum := "d9b518f54dee684f66b11c600c0869ffa0b315198f5d2b363c9fc9dae11be2d2", func := "abacus/abacuslaw06.TokensSteps", spec := "tokensSteps", inPlace := ["sync/atomic.LoadUint64", "sync/atomic.SwapUint64", "sync/atomic.AddUint64", "sync/atomic.CompareAndSwapUint64"], unfollowed := true, recurses := true, apart := false }
def TokensStepsSaid : Prop := tokensStepsRow.holds Try.pinned (OpenSpec.ofChange tokensStepsSpec)

/-- ITS FALSE NEIGHBOUR: 'it returns false'. Refute it at one input. -/
def tokensStepsWrong : ChangeSpec := { name := "tokensSteps", fn := fun _ => fun
  | [d1, d2, d3, d4] => { results := [.lit (.bool false)], args := [d1, d2, d3, d4] }
  | _ => none }
def TokensStepsWrongFalsely : Prop := tokensStepsRow.holds Try.pinned (OpenSpec.ofChange tokensStepsWrong)

/- THE SECOND FORM. 'bulk': how many values and letters a reading holds, each counted each time it is reached (what is shared counts as often as it is met; a slice's spare places count too). A statement '..UptoSaid' is the law's where the arguments, and the package variables that the reading takes, are together of bulk at most 1048576: NARROWER than '..Said'. Prove '..Said' where nothing that the law and all that it calls make is longer than what came in: it says more and counts as full. Else prove '..UptoSaid'. A law counts once. -/
mutual
def uptoBulk {H : Type} : DataW H → Nat
  | .lit (.string bytes) => bytes.length + 1
  | .lit _ => 1
  | .nil => 1
  | .ptr d => uptoBulk d + 1
  | .slice elems spare => uptoBulkAll elems + uptoBulkAll spare + 1
  | .agg parts => uptoBulkAll parts + 1
  | .iface _ d => uptoBulk d + 1
  | .map entries => uptoBulkEntries entries + 1
  | .held _ => 1
def uptoBulkAll {H : Type} : List (DataW H) → Nat
  | [] => 0
  | d :: r => uptoBulk d + uptoBulkAll r
def uptoBulkEntries {H : Type} : List (Lit × DataW H) → Nat
  | [] => 0
  | x :: r => uptoBulkEntry x + uptoBulkEntries r
def uptoBulkEntry {H : Type} : Lit × DataW H → Nat
  | (.string bytes, d) => bytes.length + uptoBulk d + 1
  | (_, d) => uptoBulk d + 1
 end
def uptoSmall : (H : Type) → List (DataW H) → Bool := fun _ ds => decide (uptoBulkAll ds ≤ 1048576)
def OpenSpec.upto (s : _root_.Go.ChangeSpec) : _root_.Go.OpenSpec := { _root_.Go.OpenSpec.ofChange s with cond := some uptoSmall }

/-- 'abacuslaw03.GaugesSteps', WHERE WHAT IT READS IS OF BULK AT MOST 1048576: true; the input reads as it did. -/
def gaugesStepsUptoRow : OpenClaim := { program := "ytigknlipeipbgaa", sum := "d9b518f54dee684f66b11c600c0869ffa0b315198f5d2b363c9fc9dae11be2d2", func := "abacus/abacuslaw03.GaugesSteps", spec := "gaugesSteps", inPlace := ["sync/atomic.LoadUint64", "sync/atomic.SwapUint64", "sync/atomic.AddUint64", "sync/atomic.CompareAndSwapUint64", "math.Float64frombits", "math.Float64bits"], unfollowed := true, recurses := true, apart := false, narrowed := true }
def GaugesStepsUptoSaid : Prop := gaugesStepsUptoRow.holds Try.pinned (OpenSpec.upto gaugesStepsSpec)

/-- 'abacuslaw03.GaugesPlain', WHERE WHAT IT READS IS OF BULK AT MOST 1048576: true; the input reads as it did. -/
def gaugesPlainUptoRow : OpenClaim := { program := "ytigknlipeipbgaa", sum := "d9b518f54dee684f66b11c600c0869ffa0b315198f5d2b363c9fc9dae11be2d2", func := "abacus/abacuslaw03.GaugesPlain", spec := "gaugesPlain", inPlace := ["sync/atomic.LoadUint64", "sync/atomic.SwapUint64", "sync/atomic.AddUint64", "sync/atomic.CompareAndSwapUint64", "math.Float64frombits", "math.Float64bits"], unfollowed := true, recurses := true, apart := false, narrowed := true }
def GaugesPlainUptoSaid : Prop := gaugesPlainUptoRow.holds Try.pinned (OpenSpec.upto gaugesPlainSpec)

/-- 'abacuslaw03.GaugesMost', WHERE WHAT IT READS IS OF BULK AT MOST 1048576: true; the input reads as it did. -/
def gaugesMostUptoRow : OpenClaim := { program := "ytigknlipeipbgaa", sum := "d9b518f54dee684f66b11c600c0869ffa0b315198f5d2b363c9fc9dae11be2d2", func := "abacus/abacuslaw03.GaugesMost", spec := "gaugesMost", inPlace := ["sync/atomic.LoadUint64", "sync/atomic.SwapUint64", "sync/atomic.AddUint64", "sync/atomic.CompareAndSwapUint64", "math.Float64frombits", "math.Float64bits"], unfollowed := true, recurses := true, apart := false, narrowed := true }
def GaugesMostUptoSaid : Prop := gaugesMostUptoRow.holds Try.pinned (OpenSpec.upto gaugesMostSpec)

/-- 'abacuslaw03.GaugesAdded', WHERE WHAT IT READS IS OF BULK AT MOST 1048576: true; the input reads as it did. -/
def gaugesAddedUptoRow : OpenClaim := { program := "ytigknlipeipbgaa", sum := "d9b518f54dee684f66b11c600c0869ffa0b315198f5d2b363c9fc9dae11be2d2", func := "abacus/abacuslaw03.GaugesAdded", spec := "gaugesAdded", inPlace := ["sync/atomic.LoadUint64", "sync/atomic.SwapUint64", "sync/atomic.AddUint64", "sync/atomic.CompareAndSwapUint64", "math.Float64frombits", "math.Float64bits"], unfollowed := true, recurses := true, apart := false, narrowed := true }
def GaugesAddedUptoSaid : Prop := gaugesAddedUptoRow.holds Try.pinned (OpenSpec.upto gaugesAddedSpec)

/-- 'abacuslaw04.ShardsSteps', WHERE WHAT IT READS IS OF BULK AT MOST 1048576: true; the input reads as it did. -/
def shardsStepsUptoRow : OpenClaim := { program := "ytigknlipeipbgaa", sum := "d9b518f54dee684f66b11c600c0869ffa0b315198f5d2b363c9fc9dae11be2d2", func := "abacus/abacuslaw04.ShardsSteps", spec := "shardsSteps", inPlace := ["sync/atomic.AddUint64", "sync/atomic.LoadUint64", "sync/atomic.SwapUint64", "sync/atomic.CompareAndSwapUint64"], unfollowed := true, recurses := true, apart := false, narrowed := true }
def ShardsStepsUptoSaid : Prop := shardsStepsUptoRow.holds Try.pinned (OpenSpec.upto shardsStepsSpec)

/-- 'abacuslaw04.ShardsCalls', WHERE WHAT IT READS IS OF BULK AT MOST 1048576: true; the input reads as it did. -/
def shardsCallsUptoRow : OpenClaim := { program := "ytigknlipeipbgaa", sum := "d9b518f54dee684f66b11c600c0869ffa0b315198f5d2b363c9fc9dae11be2d2", func := "abacus/abacuslaw04.ShardsCalls", spec := "shardsCalls", inPlace := ["sync/atomic.AddUint64", "sync/atomic.LoadUint64", "sync/atomic.SwapUint64"], apart := false, narrowed := true }
def ShardsCallsUptoSaid : Prop := shardsCallsUptoRow.holds Try.pinned (OpenSpec.upto shardsCallsSpec)

/-- 'abacuslaw04.ShardsStill', WHERE WHAT IT READS IS OF BULK AT MOST 1048576: true; the input reads as it did. -/
def shardsStillUptoRow : OpenClaim := { program := "ytigknlipeipbgaa", sum := "d9b518f54dee684f66b11c600c0869ffa0b315198f5d2b363c9fc9dae11be2d2", func := "abacus/abacuslaw04.ShardsStill", spec := "shardsStill", inPlace := ["sync/atomic.AddUint64", "sync/atomic.LoadUint64", "sync/atomic.SwapUint64", "sync/atomic.CompareAndSwapUint64"], unfollowed := true, recurses := true, apart := false, narrowed := true }
def ShardsStillUptoSaid : Prop := shardsStillUptoRow.holds Try.pinned (OpenSpec.upto shardsStillSpec)

/-- 'abacuslaw04.ShardsBetween', WHERE WHAT IT READS IS OF BULK AT MOST 1048576: true; the input reads as it did. -/
def shardsBetweenUptoRow : OpenClaim := { program := "ytigknlipeipbgaa", sum := "d9b518f54dee684f66b11c600c0869ffa0b315198f5d2b363c9fc9dae11be2d2", func := "abacus/abacuslaw04.ShardsBetween", spec := "shardsBetween", inPlace := ["sync/atomic.AddUint64", "sync/atomic.LoadUint64", "sync/atomic.SwapUint64", "sync/atomic.CompareAndSwapUint64"], unfollowed := true, recurses := true, apart := false, narrowed := true }
def ShardsBetweenUptoSaid : Prop := shardsBetweenUptoRow.holds Try.pinned (OpenSpec.upto shardsBetweenSpec)

/-- 'abacuslaw06.TokensSteps', WHERE WHAT IT READS IS OF BULK AT MOST 1048576: true; the input reads as it did. -/
def tokensStepsUptoRow : OpenClaim := { program := "ytigknlipeipbgaa", sum := "d9b518f54dee684f66b11c600c0869ffa0b315198f5d2b363c9fc9dae11be2d2", func := "abacus/abacuslaw06.TokensSteps", spec := "tokensSteps", inPlace := ["sync/atomic.LoadUint64", "sync/atomic.SwapUint64", "sync/atomic.AddUint64", "sync/atomic.CompareAndSwapUint64"], unfollowed := true, recurses := true, apart := false, narrowed := true }
def TokensStepsUptoSaid : Prop := tokensStepsUptoRow.holds Try.pinned (OpenSpec.upto tokensStepsSpec)

end Rows
end Go.Proofs.Ytigknlipeipbgaa
