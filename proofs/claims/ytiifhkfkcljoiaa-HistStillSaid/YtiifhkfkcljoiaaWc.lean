/- THE WALKS of a ruler's bounds. -/
import Derived.Test.YtiifhkfkcljoiaaWb
namespace Go.Proofs.Ytiifhkfkcljoiaa.Sc
open Go.RowKit
theorem pOf_val {h i : Nat} (hi : (i : Int) ≤ 67584) : wrap64 ((i : Int) - wrap64 ((SC.dOf h i : Int) * 2 ^ h)) = (SC.pOf h i : Int) := by
  have : SC.dOf h i * 2 ^ h ≤ i := Nat.le_trans (Nat.mul_le_mul_right _ (SC.dOf_le h i)) (Nat.div_mul_le_self i (2 ^ h))
  rw [mul_pow]
  unfold SC.pOf
  generalize SC.dOf h i * 2 ^ h = a at *
  rw [wrap64_in (n := (a : Int)) (by omega), wrap64_in (by omega)]
  omega
theorem pow40 {e : Nat} (h : e ≤ 40) : 2 ^ e ≤ 1099511627776 := by
  have : 2 ^ e ≤ 2 ^ 40 := Nat.pow_le_pow_right (by omega) h
  omega
end Go.Proofs.Ytiifhkfkcljoiaa.Sc
