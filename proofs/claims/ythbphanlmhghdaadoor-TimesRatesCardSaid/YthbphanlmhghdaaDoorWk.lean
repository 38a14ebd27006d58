/- THE WALKS of a unit's name and size, and of the document's PrintSpan. -/
import Derived.Test.YthbphanlmhghdaaDoorWj
namespace Go.Proofs.YthbphanlmhghdaaDoor
open Go.RowKit

def str (l : List UInt8) : Value := .string ⟨l.toArray⟩
def spanOut (d : Int) : List UInt8 × Int := if d < 0 ∨ 2305843009213693952 < d then ([], 2) else (TM.spanText d.toNat, 0)
theorem spanOut_bad {d : Int} (h : d < 0 ∨ 2305843009213693952 < d) : spanOut d = ([], 2) := if_pos h
theorem spanOut_ok {d : Nat} (h : (d : Int) ≤ 2305843009213693952) : spanOut d = (TM.spanText d, 0) := by
  unfold spanOut
  rw [if_neg (by omega), Int.toNat_natCast]

set_option maxRecDepth 100000 in
set_option maxHeartbeats 1000000 in
theorem unit_any (k : Nat) (w : World) (hk : k < 6) :
    Calls Tryd.prog 42 #[.int .i64 k] w fun e w' => e = .returned (.tuple #[.string ⟨(TM.uname k).toArray⟩, .int .i64 (TM.usize k)]) ∧ Below w.heap.size w w' := by
  have : k = 0 ∨ k = 1 ∨ k = 2 ∨ k = 3 ∨ k = 4 ∨ k = 5 := by omega
  rcases this with rfl | rfl | rfl | rfl | rfl | rfl
  all_goals
    go_enter Tryd.func42, Tryd.ntmps42
    go_wp2
    go_region
    all_goals
      go_wp2
      go_ret2
      exact ⟨rfl, below_drewN (((Below.refl _ _).alloc (Nat.le_refl _) _).alloc (by simp) _) _⟩
end Go.Proofs.YthbphanlmhghdaaDoor
