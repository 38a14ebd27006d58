/-
  No cell of these rows narrows 'for every input' (looked for: loops, veiled, ifaces, maps, wideKeys, modest, calm, conditions, laid).
  DERIVED. THE GIVEN ROWS OF THIS SEAT. 3 by the template 'for every input the law returns true; each argument reads behind the call as it read before'; 0 by the template 'total and deterministic' (their statements: YtamigipljgijlaaTotals.lean).
  GIVEN WITH THE SEED: the statements are not yours to turn. If you find one false, say at which input.
  Laid BY PROGRAM, IN A SANDBOX (cutbox-rows.mjs): the forced cells as the released guide's own fill.sh prints them over the translation f26c48c4f99e219f… (all of the seat's roots in one cut). By AI agents, Wed Nov 11 2026. No macro, syntax, notation, axiom, sorry.
-/
import Derived.Test.YtamigipljgijlaaChecked
import GoSem.Claim
import GoSem.ClaimJoined
import GoSem.ClaimMapViews
import Derived.JoinedTies
import Derived.KernelRfl
namespace Go.Proofs.Ytamigipljgijlaa
/- THE CELL 'sum', in the pinned program and in every row, IS THE sha256 OF THE DUMP (.gsa) THAT YtamigipljgijlaaProg.lean LOADS. Nothing in Lean hashes anything: it is a label: what it is worth is what the hold of that sum in a sandbox is worth. -/
noncomputable def Try.pinned : Pinned := { name := "ytamigipljgijlaa", sum := "f26c48c4f99e219f0be392a589d35c136fe8ccf4eefa43f532f188756c6f343d", checked := Try.checked }
namespace Rows
def none {H : Type} : Left H := { results := [], args := [] }

/-- 'abacuslaw07.SemSteps': WHATEVER THE INPUT: true; the input reads as it did. -/
def semStepsSpec : ChangeSpec := { name := "semSteps", fn := fun _ => fun
  | [d1, d2, d3] => { results := [.lit (.bool true)], args := [d1, d2, d3] }
  | _ => none }
def semStepsRow : OpenClaim := { program := "ytamigipljgijlaa", sum := "f26c48c4f99e219f0be392a589d35c136fe8ccf4eefa43f532f188756c6f343d", func := "abacus/abacuslaw07.SemSteps", spec := "semSteps", inPlace := ["sync/atomic.LoadUint64", "sync/atomic.SwapUint64", "sync/atomic.AddUint64", "sync/atomic.CompareAndSwapUint64"], unfollowed := true, recurses := true, apart := false }
def SemStepsSaid : Prop := semStepsRow.holds Try.pinned (OpenSpec.ofChange semStepsSpec)

/-- ITS FALSE NEIGHBOUR: 'it returns false'. Refute it at one input. -/
def semStepsWrong : ChangeSpec := { name := "semSteps", fn := fun _ => fun
  | [d1, d2, d3] => { results := [.lit (.bool false)], args := [d1, d2, d3] }
  | _ => none }
def SemStepsWrongFalsely : Prop := semStepsRow.holds Try.pinned (OpenSpec.ofChange semStepsWrong)

/-- 'abacuslaw07.SemNever': WHATEVER THE INPUT: true; the input reads as it did. -/
def semNeverSpec : ChangeSpec := { name := "semNever", fn := fun _ => fun
  | [d1, d2, d3, d4, d5] => { results := [.lit (.bool true)], args := [d1, d2, d3, d4, d5] }
  | _ => none }
def semNeverRow : OpenClaim := { program := "ytamigipljgijlaa", sum := "f26c48c4f99e219f0be392a589d35c136fe8ccf4eefa43f532f188756c6f343d", func := "abacus/abacuslaw07.SemNever", spec := "semNever", inPlace := ["sync/atomic.LoadUint64", "sync/atomic.SwapUint64", "sync/atomic.AddUint64", "sync/atomic.CompareAndSwapUint64"], unfollowed := true, recurses := true, apart := false }
def SemNeverSaid : Prop := semNeverRow.holds Try.pinned (OpenSpec.ofChange semNeverSpec)

/-- ITS FALSE NEIGHBOUR: 'it returns false'. Refute it at one input. -/
def semNeverWrong : ChangeSpec := { name := "semNever", fn := fun _ => fun
  | [d1, d2, d3, d4, d5] => { results := [.lit (.bool false)], args := [d1, d2, d3, d4, d5] }
  | _ => none }
def SemNeverWrongFalsely : Prop := semNeverRow.holds Try.pinned (OpenSpec.ofChange semNeverWrong)

/-- 'abacuslaw07.SemOrder': WHATEVER THE INPUT: true; the input reads as it did. -/
def semOrderSpec : ChangeSpec := { name := "semOrder", fn := fun _ => fun
  | [d1, d2, d3] => { results := [.lit (.bool true)], args := [d1, d2, d3] }
  | _ => none }
def semOrderRow : OpenClaim := { program := "ytamigipljgijlaa", sum := "f26c48c4f99e219f0be392a589d35c136fe8ccf4eefa43f532f188756c6f343d", func := "abacus/abacuslaw07.SemOrder", spec := "semOrder", inPlace := ["sync/atomic.LoadUint64", "sync/atomic.SwapUint64", "sync/atomic.AddUint64", "sync/atomic.CompareAndSwapUint64"], unfollowed := true, recurses := true, apart := false }
def SemOrderSaid : Prop := semOrderRow.holds Try.pinned (OpenSpec.ofChange semOrderSpec)

/-- ITS FALSE NEIGHBOUR: 'it returns false'. Refute it at one input. -/
def semOrderWrong : ChangeSpec := { name := "semOrder", fn := fun _ => fun
  | [d1, d2, d3] => { results := [.lit (.bool false)], args := [d1, d2, d3] }
  | _ => none }
def SemOrderWrongFalsely : Prop := semOrderRow.holds Try.pinned (OpenSpec.ofChange semOrderWrong)

/- THE SECOND FORM. 'bulk': how many values and letters a reading holds, each counted each time it is reached (what is shared counts as often as it is met; a slice's spare places count too). A statement '..UptoSaid' is the law's where the arguments, and the package variables that the reading takes, are together of bulk at most 1048576: NARROWER than '..Said'. Prove '..Said' where nothing that the law and all that it calls make is longer than what came in: it says more and counts as full. Else prove '..UptoSaid'. A law counts once. -/
mutual
def uptoBulk {H : Type} : DataW H → Nat
  | .lit (.string bytes) => bytes.length + 1
  | .lit _ => 1
  | .nil => 1
  | .ptr d => uptoBulk d + 1
  | .slice elems spare => uptoBulkAll elems + uptoBulkAll spare + 1
  | .agg parts => uptoBulkAll parts + 1
  | .iface _ d => uptoBulk d + 1
  | .map entries => uptoBulkEntries entries + 1
  | .held _ => 1
def uptoBulkAll {H : Type} : List (DataW H) → Nat
  | [] => 0
  | d :: r => uptoBulk d + uptoBulkAll r
def uptoBulkEntries {H : Type} : List (Lit × DataW H) → Nat
  | [] => 0
  | x :: r => uptoBulkEntry x + uptoBulkEntries r
def uptoBulkEntry {H : Type} : Lit × DataW H → Nat
  | (.string bytes, d) => bytes.length + uptoBulk d + 1
  | (_, d) => uptoBulk d + 1
 end
def uptoSmall : (H : Type) → List (DataW H) → Bool := fun _ ds => decide (uptoBulkAll ds ≤ 1048576)
def OpenSpec.upto (s : _root_.Go.ChangeSpec) : _root_.Go.OpenSpec := { _root_.Go.OpenSpec.ofChange s with cond := some uptoSmall }

/-- 'abacuslaw07.SemSteps', WHERE WHAT IT READS IS OF BULK AT MOST 1048576: true; the input reads as it did. -/
def semStepsUptoRow : OpenClaim := { program := "ytamigipljgijlaa", sum := "f26c48c4f99e219f0be392a589d35c136fe8ccf4eefa43f532f188756c6f343d", func := "abacus/abacuslaw07.SemSteps", spec := "semSteps", inPlace := ["sync/atomic.LoadUint64", "sync/atomic.SwapUint64", "sync/atomic.AddUint64", "sync/atomic.CompareAndSwapUint64"], unfollowed := true, recurses := true, apart := false, narrowed := true }
def SemStepsUptoSaid : Prop := semStepsUptoRow.holds Try.pinned (OpenSpec.upto semStepsSpec)

/-- 'abacuslaw07.SemNever', WHERE WHAT IT READS IS OF BULK AT MOST 1048576: true; the input reads as it did. -/
def semNeverUptoRow : OpenClaim := { program := "ytamigipljgijlaa", sum := "f26c48c4f99e219f0be392a589d35c136fe8ccf4eefa43f532f188756c6f343d", func := "abacus/abacuslaw07.SemNever", spec := "semNever", inPlace := ["sync/atomic.LoadUint64", "sync/atomic.SwapUint64", "sync/atomic.AddUint64", "sync/atomic.CompareAndSwapUint64"], unfollowed := true, recurses := true, apart := false, narrowed := true }
def SemNeverUptoSaid : Prop := semNeverUptoRow.holds Try.pinned (OpenSpec.upto semNeverSpec)

/-- 'abacuslaw07.SemOrder', WHERE WHAT IT READS IS OF BULK AT MOST 1048576: true; the input reads as it did. -/
def semOrderUptoRow : OpenClaim := { program := "ytamigipljgijlaa", sum := "f26c48c4f99e219f0be392a589d35c136fe8ccf4eefa43f532f188756c6f343d", func := "abacus/abacuslaw07.SemOrder", spec := "semOrder", inPlace := ["sync/atomic.LoadUint64", "sync/atomic.SwapUint64", "sync/atomic.AddUint64", "sync/atomic.CompareAndSwapUint64"], unfollowed := true, recurses := true, apart := false, narrowed := true }
def SemOrderUptoSaid : Prop := semOrderUptoRow.holds Try.pinned (OpenSpec.upto semOrderSpec)

end Rows
end Go.Proofs.Ytamigipljgijlaa
