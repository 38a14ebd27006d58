/- THE WALKS of scale's and the document's own small functions: what a scale may be. -/
import Derived.Test.YtiifhkfkcljoiaaRows
import Derived.Test.YtiifhkfkcljoiaaWs
import Derived.WalkKit
import Derived.WalkSpells
import Derived.WalkLawsBesides
import Derived.BigQuiet
import Derived.Lib.Hide
import Derived.Deep.DeepCutAuto
import Derived.IntWalk
import Derived.ProofKit
import Derived.Deep.RegionWith
import Derived.Deep.RegionHeld3
import Derived.Deep.QuietTactic
namespace Go.Proofs.Ytiifhkfkcljoiaa.Sc
open Go.RowKit

def rightB (l h d : Int) : Bool := decide (1 ≤ l ∧ l ≤ 1099511627776 ∧ 2 * l ≤ h ∧ h ≤ 2305843009213693952 ∧ 1 ≤ d ∧ d ≤ 3)
theorem right_of {l h d : Int} (r : rightB l h d = true) : 1 ≤ l ∧ l ≤ 1099511627776 ∧ 2 * l ≤ h ∧ h ≤ 2305843009213693952 ∧ 1 ≤ d ∧ d ≤ 3 := by simpa [rightB] using r
theorem wrong_of {l h d : Int} (r : rightB l h d = false) : l < 1 ∨ 1099511627776 < l ∨ h < 2 * l ∨ 2305843009213693952 < h ∨ d < 1 ∨ 3 < d := by
  have : ¬ (1 ≤ l ∧ l ≤ 1099511627776 ∧ 2 * l ≤ h ∧ h ≤ 2305843009213693952 ∧ 1 ≤ d ∧ d ≤ 3) := by simpa only [rightB, decide_eq_false_iff_not] using r
  omega
def scaleV (l h d : Int) : Value := .agg #[.int .i64 l, .int .i64 h, .int .i64 d]

theorem check_yes {l h d : Int} (r : rightB l h d = true) (w : World) : Calls Try.prog 50 #[.agg #[.int .i64 l, .int .i64 h, .int .i64 d]] w fun e w' => e = .returned (.int .i64 0) ∧ Below w.heap.size w w' := by
  obtain ⟨a1, a2, a3, a4, a5, a6⟩ := right_of r
  clear r
  go_enter Try.func50, Try.ntmps50
  go_wp2
  go_ret
  exact ⟨rfl, (Below.refl _ _).alloc (Nat.le_refl _) _⟩
theorem check_no {l h d : Int} (r : rightB l h d = false) (w : World) : Calls Try.prog 50 #[.agg #[.int .i64 l, .int .i64 h, .int .i64 d]] w fun e w' => e = .returned (.int .i64 80) ∧ Below w.heap.size w w' := by
  have a := wrong_of r
  clear r
  go_enter Try.func50, Try.ntmps50
  go_wp2
  all_goals first | (go_ret; exact ⟨rfl, (Below.refl _ _).alloc (Nat.le_refl _) _⟩) | (exfalso; simp_all; omega)
end Go.Proofs.Ytiifhkfkcljoiaa.Sc
