/- THE WALKS of scale.Bounds. -/
import Derived.Test.YtiifhkfkcljoiaaWe
namespace Go.Proofs.Ytiifhkfkcljoiaa.Sc
open Go.RowKit
theorem low_in {l h d : Int} (r : rightB l h d = true) {i : Nat} (hi : i < cnt l h d) : SC.low (hOf d) (eOf l) i ≤ 2305843009213693952 ∧ (i : Int) ≤ 67584 := by
  obtain ⟨a1, a2, a3, a4, a5, a6⟩ := right_of r
  have hs := (cnt_val r).2
  unfold cnt at hi
  have h1 := SC.low_mono (hOf d) (eOf l) (i := i) (j := SC.idx (hOf d) (eOf l) h.toNat) (by omega)
  have h2 := (SC.idx_within (hOf d) (eOf l) h.toNat (by omega)).1
  omega
end Go.Proofs.Ytiifhkfkcljoiaa.Sc
