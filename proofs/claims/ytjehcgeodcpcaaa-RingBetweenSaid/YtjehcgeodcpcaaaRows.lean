/-
  No cell of these rows narrows 'for every input' (looked for: loops, veiled, ifaces, maps, wideKeys, modest, calm, conditions, laid).
  DERIVED. THE GIVEN ROWS OF THIS SEAT. 4 by the template 'for every input the law returns true; each argument reads behind the call as it read before'; 0 by the template 'total and deterministic' (their statements: YtjehcgeodcpcaaaTotals.lean).
  GIVEN WITH THE SEED: the statements are not yours to turn. If you find one false, say at which input.
  Laid BY PROGRAM, IN A SANDBOX (cutbox-rows.mjs): the forced cells as the released guide's own fill.sh prints them over the translation 10aafae8f7f13e39… (all of the seat's roots in one cut). By AI agents, Wed Nov 11 2026. No macro, syntax, notation, axiom, sorry.
-/
import Derived.Test.YtjehcgeodcpcaaaChecked
import GoSem.Claim
import GoSem.ClaimJoined
import GoSem.ClaimMapViews
import Derived.JoinedTies
import Derived.KernelRfl
namespace Go.Proofs.Ytjehcgeodcpcaaa
/- THE CELL 'sum', in the pinned program and in every row, IS THE sha256 OF THE DUMP (.gsa) THAT YtjehcgeodcpcaaaProg.lean LOADS. Nothing in Lean hashes anything: it is a label: what it is worth is what the hold of that sum in a sandbox is worth. -/
noncomputable def Try.pinned : Pinned := { name := "ytjehcgeodcpcaaa", sum := "10aafae8f7f13e3957c8d853b8a28394117d7c37850888faaf27df1fb823a0bd", checked := Try.checked }
namespace Rows
def none {H : Type} : Left H := { results := [], args := [] }

/-- 'abacuslaw05.RingSteps': WHATEVER THE INPUT: true; the input reads as it did. -/
def ringStepsSpec : ChangeSpec := { name := "ringSteps", fn := fun _ => fun
  | [d1, d2, d3, d4] => { results := [.lit (.bool true)], args := [d1, d2, d3, d4] }
  | _ => none }
def ringStepsRow : OpenClaim := { program := "ytjehcgeodcpcaaa", sum := "10aafae8f7f13e3957c8d853b8a28394117d7c37850888faaf27df1fb823a0bd", func := "abacus/abacuslaw05.RingSteps", spec := "ringSteps", inPlace := ["sync/atomic.LoadUint64", "sync/atomic.SwapUint64", "sync/atomic.AddUint64", "sync/atomic.CompareAndSwapUint64"], unfollowed := true, recurses := true, apart := false }
def RingStepsSaid : Prop := ringStepsRow.holds Try.pinned (OpenSpec.ofChange ringStepsSpec)

/-- ITS FALSE NEIGHBOUR: 'it returns false'. Refute it at one input. -/
def ringStepsWrong : ChangeSpec := { name := "ringSteps", fn := fun _ => fun
  | [d1, d2, d3, d4] => { results := [.lit (.bool false)], args := [d1, d2, d3, d4] }
  | _ => none }
def RingStepsWrongFalsely : Prop := ringStepsRow.holds Try.pinned (OpenSpec.ofChange ringStepsWrong)

/-- 'abacuslaw05.RingPlain': WHATEVER THE INPUT: true; the input reads as it did. -/
def ringPlainSpec : ChangeSpec := { name := "ringPlain", fn := fun _ => fun
  | [d1, d2, d3] => { results := [.lit (.bool true)], args := [d1, d2, d3] }
  | _ => none }
def ringPlainRow : OpenClaim := { program := "ytjehcgeodcpcaaa", sum := "10aafae8f7f13e3957c8d853b8a28394117d7c37850888faaf27df1fb823a0bd", func := "abacus/abacuslaw05.RingPlain", spec := "ringPlain", inPlace := ["sync/atomic.LoadUint64", "sync/atomic.SwapUint64", "sync/atomic.AddUint64", "sync/atomic.CompareAndSwapUint64"], unfollowed := true, recurses := true, apart := false }
def RingPlainSaid : Prop := ringPlainRow.holds Try.pinned (OpenSpec.ofChange ringPlainSpec)

/-- ITS FALSE NEIGHBOUR: 'it returns false'. Refute it at one input. -/
def ringPlainWrong : ChangeSpec := { name := "ringPlain", fn := fun _ => fun
  | [d1, d2, d3] => { results := [.lit (.bool false)], args := [d1, d2, d3] }
  | _ => none }
def RingPlainWrongFalsely : Prop := ringPlainRow.holds Try.pinned (OpenSpec.ofChange ringPlainWrong)

/-- 'abacuslaw05.RingStill': WHATEVER THE INPUT: true; the input reads as it did. -/
def ringStillSpec : ChangeSpec := { name := "ringStill", fn := fun _ => fun
  | [d1, d2, d3, d4] => { results := [.lit (.bool true)], args := [d1, d2, d3, d4] }
  | _ => none }
def ringStillRow : OpenClaim := { program := "ytjehcgeodcpcaaa", sum := "10aafae8f7f13e3957c8d853b8a28394117d7c37850888faaf27df1fb823a0bd", func := "abacus/abacuslaw05.RingStill", spec := "ringStill", inPlace := ["sync/atomic.LoadUint64", "sync/atomic.SwapUint64", "sync/atomic.AddUint64", "sync/atomic.CompareAndSwapUint64"], unfollowed := true, recurses := true, apart := false }
def RingStillSaid : Prop := ringStillRow.holds Try.pinned (OpenSpec.ofChange ringStillSpec)

/-- ITS FALSE NEIGHBOUR: 'it returns false'. Refute it at one input. -/
def ringStillWrong : ChangeSpec := { name := "ringStill", fn := fun _ => fun
  | [d1, d2, d3, d4] => { results := [.lit (.bool false)], args := [d1, d2, d3, d4] }
  | _ => none }
def RingStillWrongFalsely : Prop := ringStillRow.holds Try.pinned (OpenSpec.ofChange ringStillWrong)

/-- 'abacuslaw05.RingBetween': WHATEVER THE INPUT: true; the input reads as it did. -/
def ringBetweenSpec : ChangeSpec := { name := "ringBetween", fn := fun _ => fun
  | [d1, d2, d3, d4] => { results := [.lit (.bool true)], args := [d1, d2, d3, d4] }
  | _ => none }
def ringBetweenRow : OpenClaim := { program := "ytjehcgeodcpcaaa", sum := "10aafae8f7f13e3957c8d853b8a28394117d7c37850888faaf27df1fb823a0bd", func := "abacus/abacuslaw05.RingBetween", spec := "ringBetween", inPlace := ["sync/atomic.LoadUint64", "sync/atomic.SwapUint64", "sync/atomic.AddUint64", "sync/atomic.CompareAndSwapUint64"], unfollowed := true, recurses := true, apart := false }
def RingBetweenSaid : Prop := ringBetweenRow.holds Try.pinned (OpenSpec.ofChange ringBetweenSpec)

/-- ITS FALSE NEIGHBOUR: 'it returns false'. Refute it at one input. -/
def ringBetweenWrong : ChangeSpec := { name := "ringBetween", fn := fun _ => fun
  | [d1, d2, d3, d4] => { results := [.lit (.bool false)], args := [d1, d2, d3, d4] }
  | _ => none }
def RingBetweenWrongFalsely : Prop := ringBetweenRow.holds Try.pinned (OpenSpec.ofChange ringBetweenWrong)

/- THE SECOND FORM. 'bulk': how many values and letters a reading holds, each counted each time it is reached (what is shared counts as often as it is met; a slice's spare places count too). A statement '..UptoSaid' is the law's where the arguments, and the package variables that the reading takes, are together of bulk at most 1048576: NARROWER than '..Said'. Prove '..Said' where nothing that the law and all that it calls make is longer than what came in: it says more and counts as full. Else prove '..UptoSaid'. A law counts once. -/
mutual
def uptoBulk {H : Type} : DataW H → Nat
  | .lit (.string bytes) => bytes.length + 1
  | .lit _ => 1
  | .nil => 1
  | .ptr d => uptoBulk d + 1
  | .slice elems spare => uptoBulkAll elems + uptoBulkAll spare + 1
  | .agg parts => uptoBulkAll parts + 1
  | .iface _ d => uptoBulk d + 1
  | .map entries => uptoBulkEntries entries + 1
  | .held _ => 1
def uptoBulkAll {H : Type} : List (DataW H) → Nat
  | [] => 0
  | d :: r => uptoBulk d + uptoBulkAll r
def uptoBulkEntries {H : Type} : List (Lit × DataW H) → Nat
  | [] => 0
  | x :: r => uptoBulkEntry x + uptoBulkEntries r
def uptoBulkEntry {H : Type} : Lit × DataW H → Nat
  | (.string bytes, d) => bytes.length + uptoBulk d + 1
  | (_, d) => uptoBulk d + 1
 end
def uptoSmall : (H : Type) → List (DataW H) → Bool := fun _ ds => decide (uptoBulkAll ds ≤ 1048576)
def OpenSpec.upto (s : _root_.Go.ChangeSpec) : _root_.Go.OpenSpec := { _root_.Go.OpenSpec.ofChange s with cond := some uptoSmall }

/-- 'abacuslaw05.RingSteps', WHERE WHAT IT READS IS OF BULK AT MOST 1048576: true; the input reads as it did. -/
def ringStepsUptoRow : OpenClaim := { program := "ytjehcgeodcpcaaa", sum := "10aafae8f7f13e3957c8d853b8a28394117d7c37850888faaf27df1fb823a0bd", func := "abacus/abacuslaw05.RingSteps", spec := "ringSteps", inPlace := ["sync/atomic.LoadUint64", "sync/atomic.SwapUint64", "sync/atomic.AddUint64", "sync/atomic.CompareAndSwapUint64"], unfollowed := true, recurses := true, apart := false, narrowed := true }
def RingStepsUptoSaid : Prop := ringStepsUptoRow.holds Try.pinned (OpenSpec.upto ringStepsSpec)

/-- 'abacuslaw05.RingPlain', WHERE WHAT IT READS IS OF BULK AT MOST 1048576: true; the input reads as it did. -/
def ringPlainUptoRow : OpenClaim := { program := "ytjehcgeodcpcaaa", sum := "10aafae8f7f13e3957c8d853b8a28394117d7c37850888faaf27df1fb823a0bd", func := "abacus/abacuslaw05.RingPlain", spec := "ringPlain", inPlace := ["sync/atomic.LoadUint64", "sync/atomic.SwapUint64", "sync/atomic.AddUint64", "sync/atomic.CompareAndSwapUint64"], unfollowed := true, recurses := true, apart := false, narrowed := true }
def RingPlainUptoSaid : Prop := ringPlainUptoRow.holds Try.pinned (OpenSpec.upto ringPlainSpec)

/-- 'abacuslaw05.RingStill', WHERE WHAT IT READS IS OF BULK AT MOST 1048576: true; the input reads as it did. -/
def ringStillUptoRow : OpenClaim := { program := "ytjehcgeodcpcaaa", sum := "10aafae8f7f13e3957c8d853b8a28394117d7c37850888faaf27df1fb823a0bd", func := "abacus/abacuslaw05.RingStill", spec := "ringStill", inPlace := ["sync/atomic.LoadUint64", "sync/atomic.SwapUint64", "sync/atomic.AddUint64", "sync/atomic.CompareAndSwapUint64"], unfollowed := true, recurses := true, apart := false, narrowed := true }
def RingStillUptoSaid : Prop := ringStillUptoRow.holds Try.pinned (OpenSpec.upto ringStillSpec)

/-- 'abacuslaw05.RingBetween', WHERE WHAT IT READS IS OF BULK AT MOST 1048576: true; the input reads as it did. -/
def ringBetweenUptoRow : OpenClaim := { program := "ytjehcgeodcpcaaa", sum := "10aafae8f7f13e3957c8d853b8a28394117d7c37850888faaf27df1fb823a0bd", func := "abacus/abacuslaw05.RingBetween", spec := "ringBetween", inPlace := ["sync/atomic.LoadUint64", "sync/atomic.SwapUint64", "sync/atomic.AddUint64", "sync/atomic.CompareAndSwapUint64"], unfollowed := true, recurses := true, apart := false, narrowed := true }
def RingBetweenUptoSaid : Prop := ringBetweenUptoRow.holds Try.pinned (OpenSpec.upto ringBetweenSpec)

end Rows
end Go.Proofs.Ytjehcgeodcpcaaa
