/-
  No cell of these rows narrows 'for every input' (looked for: loops, veiled, ifaces, maps, wideKeys, modest, calm, conditions, laid).
  DERIVED. THE GIVEN ROWS OF THIS SEAT. 7 by the template 'for every input the law returns true; each argument reads behind the call as it read before'; 0 by the template 'total and deterministic' (their statements: YtiifhkfkcljoiaaTotals.lean).
  GIVEN WITH THE SEED: the statements are not yours to turn. If you find one false, say at which input.
  Laid BY PROGRAM, IN A SANDBOX (cutbox-rows.mjs): the forced cells as the released guide's own fill.sh prints them over the translation 3fc3d0238785c4a2… (all of the seat's roots in one cut). By AI agents, Wed Nov 11 2026. No macro, syntax, notation, axiom, sorry.
-/
import Derived.Test.YtiifhkfkcljoiaaChecked
import GoSem.Claim
import GoSem.ClaimJoined
import GoSem.ClaimMapViews
import Derived.JoinedTies
import Derived.KernelRfl
namespace Go.Proofs.Ytiifhkfkcljoiaa
/- THE CELL 'sum', in the pinned program and in every row, IS THE sha256 OF THE DUMP (.gsa) THAT YtiifhkfkcljoiaaProg.lean LOADS. Nothing in Lean hashes anything: it is a label: what it is worth is what the hold of that sum in a sandbox is worth. -/
noncomputable def Try.pinned : Pinned := { name := "ytiifhkfkcljoiaa", sum := "3fc3d0238785c4a2276343dbac161ffbf0286e982d368543a866c04249fc4fb5", checked := Try.checked }
namespace Rows
def none {H : Type} : Left H := { results := [], args := [] }

/-- 'abacuslaw10.HistSteps': WHATEVER THE INPUT: true; the input reads as it did. -/
def histStepsSpec : ChangeSpec := { name := "histSteps", fn := fun _ => fun
  | [d1, d2, d3] => { results := [.lit (.bool true)], args := [d1, d2, d3] }
  | _ => none }
def histStepsRow : OpenClaim := { program := "ytiifhkfkcljoiaa", sum := "3fc3d0238785c4a2276343dbac161ffbf0286e982d368543a866c04249fc4fb5", func := "abacus/abacuslaw10.HistSteps", spec := "histSteps", inPlace := ["sync/atomic.StoreUint64", "sync/atomic.LoadUint64", "sync/atomic.SwapUint64", "sync/atomic.AddUint64", "sync/atomic.CompareAndSwapUint64"], unfollowed := true, recurses := true, apart := false }
def HistStepsSaid : Prop := histStepsRow.holds Try.pinned (OpenSpec.ofChange histStepsSpec)

/-- ITS FALSE NEIGHBOUR: 'it returns false'. Refute it at one input. -/
def histStepsWrong : ChangeSpec := { name := "histSteps", fn := fun _ => fun
  | [d1, d2, d3] => { results := [.lit (.bool false)], args := [d1, d2, d3] }
  | _ => none }
def HistStepsWrongFalsely : Prop := histStepsRow.holds Try.pinned (OpenSpec.ofChange histStepsWrong)

/-- 'abacuslaw10.HistShots': WHATEVER THE INPUT: true; the input reads as it did. -/
def histShotsSpec : ChangeSpec := { name := "histShots", fn := fun _ => fun
  | [d1, d2, d3] => { results := [.lit (.bool true)], args := [d1, d2, d3] }
  | _ => none }
def histShotsRow : OpenClaim := { program := "ytiifhkfkcljoiaa", sum := "3fc3d0238785c4a2276343dbac161ffbf0286e982d368543a866c04249fc4fb5", func := "abacus/abacuslaw10.HistShots", spec := "histShots", inPlace := ["sync/atomic.StoreUint64", "sync/atomic.LoadUint64", "sync/atomic.SwapUint64", "sync/atomic.AddUint64", "sync/atomic.CompareAndSwapUint64"], unfollowed := true, recurses := true, apart := false }
def HistShotsSaid : Prop := histShotsRow.holds Try.pinned (OpenSpec.ofChange histShotsSpec)

/-- ITS FALSE NEIGHBOUR: 'it returns false'. Refute it at one input. -/
def histShotsWrong : ChangeSpec := { name := "histShots", fn := fun _ => fun
  | [d1, d2, d3] => { results := [.lit (.bool false)], args := [d1, d2, d3] }
  | _ => none }
def HistShotsWrongFalsely : Prop := histShotsRow.holds Try.pinned (OpenSpec.ofChange histShotsWrong)

/-- 'abacuslaw10.HistNil': WHATEVER THE INPUT: true; the input reads as it did. -/
def histNilSpec : ChangeSpec := { name := "histNil", fn := fun _ => fun
  | [d] => { results := [.lit (.bool true)], args := [d] }
  | _ => none }
def histNilRow : OpenClaim := { program := "ytiifhkfkcljoiaa", sum := "3fc3d0238785c4a2276343dbac161ffbf0286e982d368543a866c04249fc4fb5", func := "abacus/abacuslaw10.HistNil", spec := "histNil", inPlace := ["sync/atomic.LoadUint64", "sync/atomic.SwapUint64", "sync/atomic.AddUint64", "sync/atomic.CompareAndSwapUint64", "sync/atomic.StoreUint64"], unfollowed := true, recurses := true, apart := false }
def HistNilSaid : Prop := histNilRow.holds Try.pinned (OpenSpec.ofChange histNilSpec)

/-- ITS FALSE NEIGHBOUR: 'it returns false'. Refute it at one input. -/
def histNilWrong : ChangeSpec := { name := "histNil", fn := fun _ => fun
  | [d] => { results := [.lit (.bool false)], args := [d] }
  | _ => none }
def HistNilWrongFalsely : Prop := histNilRow.holds Try.pinned (OpenSpec.ofChange histNilWrong)

/-- 'abacuslaw10.HistStill': WHATEVER THE INPUT: true; the input reads as it did. -/
def histStillSpec : ChangeSpec := { name := "histStill", fn := fun _ => fun
  | [d1, d2, d3] => { results := [.lit (.bool true)], args := [d1, d2, d3] }
  | _ => none }
def histStillRow : OpenClaim := { program := "ytiifhkfkcljoiaa", sum := "3fc3d0238785c4a2276343dbac161ffbf0286e982d368543a866c04249fc4fb5", func := "abacus/abacuslaw10.HistStill", spec := "histStill", inPlace := ["sync/atomic.StoreUint64", "sync/atomic.LoadUint64", "sync/atomic.SwapUint64", "sync/atomic.AddUint64", "sync/atomic.CompareAndSwapUint64"], unfollowed := true, recurses := true, apart := false }
def HistStillSaid : Prop := histStillRow.holds Try.pinned (OpenSpec.ofChange histStillSpec)

/-- ITS FALSE NEIGHBOUR: 'it returns false'. Refute it at one input. -/
def histStillWrong : ChangeSpec := { name := "histStill", fn := fun _ => fun
  | [d1, d2, d3] => { results := [.lit (.bool false)], args := [d1, d2, d3] }
  | _ => none }
def HistStillWrongFalsely : Prop := histStillRow.holds Try.pinned (OpenSpec.ofChange histStillWrong)

/-- 'abacuslaw10.HistMeanwhile': WHATEVER THE INPUT: true; the input reads as it did. -/
def histMeanwhileSpec : ChangeSpec := { name := "histMeanwhile", fn := fun _ => fun
  | [d1, d2, d3] => { results := [.lit (.bool true)], args := [d1, d2, d3] }
  | _ => none }
def histMeanwhileRow : OpenClaim := { program := "ytiifhkfkcljoiaa", sum := "3fc3d0238785c4a2276343dbac161ffbf0286e982d368543a866c04249fc4fb5", func := "abacus/abacuslaw10.HistMeanwhile", spec := "histMeanwhile", inPlace := ["sync/atomic.StoreUint64", "sync/atomic.LoadUint64", "sync/atomic.SwapUint64", "sync/atomic.AddUint64", "sync/atomic.CompareAndSwapUint64"], unfollowed := true, recurses := true, apart := false }
def HistMeanwhileSaid : Prop := histMeanwhileRow.holds Try.pinned (OpenSpec.ofChange histMeanwhileSpec)

/-- ITS FALSE NEIGHBOUR: 'it returns false'. Refute it at one input. -/
def histMeanwhileWrong : ChangeSpec := { name := "histMeanwhile", fn := fun _ => fun
  | [d1, d2, d3] => { results := [.lit (.bool false)], args := [d1, d2, d3] }
  | _ => none }
def HistMeanwhileWrongFalsely : Prop := histMeanwhileRow.holds Try.pinned (OpenSpec.ofChange histMeanwhileWrong)

/-- 'abacuslaw10.HistMerges': WHATEVER THE INPUT: true; the input reads as it did. -/
def histMergesSpec : ChangeSpec := { name := "histMerges", fn := fun _ => fun
  | [d1, d2, d3] => { results := [.lit (.bool true)], args := [d1, d2, d3] }
  | _ => none }
def histMergesRow : OpenClaim := { program := "ytiifhkfkcljoiaa", sum := "3fc3d0238785c4a2276343dbac161ffbf0286e982d368543a866c04249fc4fb5", func := "abacus/abacuslaw10.HistMerges", spec := "histMerges", inPlace := ["sync/atomic.StoreUint64", "sync/atomic.LoadUint64", "sync/atomic.SwapUint64", "sync/atomic.AddUint64", "sync/atomic.CompareAndSwapUint64"], unfollowed := true, recurses := true, apart := false }
def HistMergesSaid : Prop := histMergesRow.holds Try.pinned (OpenSpec.ofChange histMergesSpec)

/-- ITS FALSE NEIGHBOUR: 'it returns false'. Refute it at one input. -/
def histMergesWrong : ChangeSpec := { name := "histMerges", fn := fun _ => fun
  | [d1, d2, d3] => { results := [.lit (.bool false)], args := [d1, d2, d3] }
  | _ => none }
def HistMergesWrongFalsely : Prop := histMergesRow.holds Try.pinned (OpenSpec.ofChange histMergesWrong)

/-- 'abacuslaw10.HistOwn': WHATEVER THE INPUT: true; the input reads as it did. -/
def histOwnSpec : ChangeSpec := { name := "histOwn", fn := fun _ => fun
  | [d1, d2] => { results := [.lit (.bool true)], args := [d1, d2] }
  | _ => none }
def histOwnRow : OpenClaim := { program := "ytiifhkfkcljoiaa", sum := "3fc3d0238785c4a2276343dbac161ffbf0286e982d368543a866c04249fc4fb5", func := "abacus/abacuslaw10.HistOwn", spec := "histOwn", inPlace := ["sync/atomic.StoreUint64", "sync/atomic.LoadUint64", "sync/atomic.SwapUint64", "sync/atomic.AddUint64", "sync/atomic.CompareAndSwapUint64"], unfollowed := true, recurses := true, apart := false }
def HistOwnSaid : Prop := histOwnRow.holds Try.pinned (OpenSpec.ofChange histOwnSpec)

/-- ITS FALSE NEIGHBOUR: 'it returns false'. Refute it at one input. -/
def histOwnWrong : ChangeSpec := { name := "histOwn", fn := fun _ => fun
  | [d1, d2] => { results := [.lit (.bool false)], args := [d1, d2] }
  | _ => none }
def HistOwnWrongFalsely : Prop := histOwnRow.holds Try.pinned (OpenSpec.ofChange histOwnWrong)

/- THE SECOND FORM. 'bulk': how many values and letters a reading holds, each counted each time it is reached (what is shared counts as often as it is met; a slice's spare places count too). A statement '..UptoSaid' is the law's where the arguments, and the package variables that the reading takes, are together of bulk at most 1048576: NARROWER than '..Said'. Prove '..Said' where nothing that the law and all that it calls make is longer than what came in: it says more and counts as full. Else prove '..UptoSaid'. A law counts once. -/
mutual
def uptoBulk {H : Type} : DataW H → Nat
  | .lit (.string bytes) => bytes.length + 1
  | .lit _ => 1
  | .nil => 1
  | .ptr d => uptoBulk d + 1
  | .slice elems spare => uptoBulkAll elems + uptoBulkAll spare + 1
  | .agg parts => uptoBulkAll parts + 1
  | .iface _ d => uptoBulk d + 1
  | .map entries => uptoBulkEntries entries + 1
  | .held _ => 1
def uptoBulkAll {H : Type} : List (DataW H) → Nat
  | [] => 0
  | d :: r => uptoBulk d + uptoBulkAll r
def uptoBulkEntries {H : Type} : List (Lit × DataW H) → Nat
  | [] => 0
  | x :: r => uptoBulkEntry x + uptoBulkEntries r
def uptoBulkEntry {H : Type} : Lit × DataW H → Nat
  | (.string bytes, d) => bytes.length + uptoBulk d + 1
  | (_, d) => uptoBulk d + 1
 end
def uptoSmall : (H : Type) → List (DataW H) → Bool := fun _ ds => decide (uptoBulkAll ds ≤ 1048576)
def OpenSpec.upto (s : _root_.Go.ChangeSpec) : _root_.Go.OpenSpec := { _root_.Go.OpenSpec.ofChange s with cond := some uptoSmall }

/-- 'abacuslaw10.HistSteps', WHERE WHAT IT READS IS OF BULK AT MOST 1048576: true; the input reads as it did. -/
def histStepsUptoRow : OpenClaim := { program := "ytiifhkfkcljoiaa", sum := "3fc3d0238785c4a2276343dbac161ffbf0286e982d368543a866c04249fc4fb5", func := "abacus/abacuslaw10.HistSteps", spec := "histSteps", inPlace := ["sync/atomic.StoreUint64", "sync/atomic.LoadUint64", "sync/atomic.SwapUint64", "sync/atomic.AddUint64", "sync/atomic.CompareAndSwapUint64"], unfollowed := true, recurses := true, apart := false, narrowed := true }
def HistStepsUptoSaid : Prop := histStepsUptoRow.holds Try.pinned (OpenSpec.upto histStepsSpec)

/-- 'abacuslaw10.HistShots', WHERE WHAT IT READS IS OF BULK AT MOST 1048576: true; the input reads as it did. -/
def histShotsUptoRow : OpenClaim := { program := "ytiifhkfkcljoiaa", sum := "3fc3d0238785c4a2276343dbac161ffbf0286e982d368543a866c04249fc4fb5", func := "abacus/abacuslaw10.HistShots", spec := "histShots", inPlace := ["sync/atomic.StoreUint64", "sync/atomic.LoadUint64", "sync/atomic.SwapUint64", "sync/atomic.AddUint64", "sync/atomic.CompareAndSwapUint64"], unfollowed := true, recurses := true, apart := false, narrowed := true }
def HistShotsUptoSaid : Prop := histShotsUptoRow.holds Try.pinned (OpenSpec.upto histShotsSpec)

/-- 'abacuslaw10.HistNil', WHERE WHAT IT READS IS OF BULK AT MOST 1048576: true; the input reads as it did. -/
def histNilUptoRow : OpenClaim := { program := "ytiifhkfkcljoiaa", sum := "3fc3d0238785c4a2276343dbac161ffbf0286e982d368543a866c04249fc4fb5", func := "abacus/abacuslaw10.HistNil", spec := "histNil", inPlace := ["sync/atomic.LoadUint64", "sync/atomic.SwapUint64", "sync/atomic.AddUint64", "sync/atomic.CompareAndSwapUint64", "sync/atomic.StoreUint64"], unfollowed := true, recurses := true, apart := false, narrowed := true }
def HistNilUptoSaid : Prop := histNilUptoRow.holds Try.pinned (OpenSpec.upto histNilSpec)

/-- 'abacuslaw10.HistStill', WHERE WHAT IT READS IS OF BULK AT MOST 1048576: true; the input reads as it did. -/
def histStillUptoRow : OpenClaim := { program := "ytiifhkfkcljoiaa", sum := "3fc3d0238785c4a2276343dbac161ffbf0286e982d368543a866c04249fc4fb5", func := "abacus/abacuslaw10.HistStill", spec := "histStill", inPlace := ["sync/atomic.StoreUint64", "sync/atomic.LoadUint64", "sync/atomic.SwapUint64", "sync/atomic.AddUint64", "sync/atomic.CompareAndSwapUint64"], unfollowed := true, recurses := true, apart := false, narrowed := true }
def HistStillUptoSaid : Prop := histStillUptoRow.holds Try.pinned (OpenSpec.upto histStillSpec)

/-- 'abacuslaw10.HistMeanwhile', WHERE WHAT IT READS IS OF BULK AT MOST 1048576: true; the input reads as it did. -/
def histMeanwhileUptoRow : OpenClaim := { program := "ytiifhkfkcljoiaa", sum := "3fc3d0238785c4a2276343dbac161ffbf0286e982d368543a866c04249fc4fb5", func := "abacus/abacuslaw10.HistMeanwhile", spec := "histMeanwhile", inPlace := ["sync/atomic.StoreUint64", "sync/atomic.LoadUint64", "sync/atomic.SwapUint64", "sync/atomic.AddUint64", "sync/atomic.CompareAndSwapUint64"], unfollowed := true, recurses := true, apart := false, narrowed := true }
def HistMeanwhileUptoSaid : Prop := histMeanwhileUptoRow.holds Try.pinned (OpenSpec.upto histMeanwhileSpec)

/-- 'abacuslaw10.HistMerges', WHERE WHAT IT READS IS OF BULK AT MOST 1048576: true; the input reads as it did. -/
def histMergesUptoRow : OpenClaim := { program := "ytiifhkfkcljoiaa", sum := "3fc3d0238785c4a2276343dbac161ffbf0286e982d368543a866c04249fc4fb5", func := "abacus/abacuslaw10.HistMerges", spec := "histMerges", inPlace := ["sync/atomic.StoreUint64", "sync/atomic.LoadUint64", "sync/atomic.SwapUint64", "sync/atomic.AddUint64", "sync/atomic.CompareAndSwapUint64"], unfollowed := true, recurses := true, apart := false, narrowed := true }
def HistMergesUptoSaid : Prop := histMergesUptoRow.holds Try.pinned (OpenSpec.upto histMergesSpec)

/-- 'abacuslaw10.HistOwn', WHERE WHAT IT READS IS OF BULK AT MOST 1048576: true; the input reads as it did. -/
def histOwnUptoRow : OpenClaim := { program := "ytiifhkfkcljoiaa", sum := "3fc3d0238785c4a2276343dbac161ffbf0286e982d368543a866c04249fc4fb5", func := "abacus/abacuslaw10.HistOwn", spec := "histOwn", inPlace := ["sync/atomic.StoreUint64", "sync/atomic.LoadUint64", "sync/atomic.SwapUint64", "sync/atomic.AddUint64", "sync/atomic.CompareAndSwapUint64"], unfollowed := true, recurses := true, apart := false, narrowed := true }
def HistOwnUptoSaid : Prop := histOwnUptoRow.holds Try.pinned (OpenSpec.upto histOwnSpec)

end Rows
end Go.Proofs.Ytiifhkfkcljoiaa
