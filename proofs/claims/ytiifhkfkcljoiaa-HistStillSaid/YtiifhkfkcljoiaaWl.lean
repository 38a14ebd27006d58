/- Buckets of whole numbers in integers, and what the laws ask of them. -/
import Derived.Test.YtiifhkfkcljoiaaWf
namespace Go.Proofs.Ytiifhkfkcljoiaa.Sc
open Go.RowKit
def aI (l d v : Int) : Int := (SC.idx (hOf d) (eOf l) v.toNat : Int)
def loI (l d i : Int) : Int := (SC.low (hOf d) (eOf l) i.toNat : Int)
def hiI (l d i : Int) : Int := (SC.next (hOf d) (eOf l) i.toNat : Int) - 1
def nI (l h d : Int) : Int := (cnt l h d : Int)
theorem index_in {l h d v : Int} (r : rightB l h d = true) (w : World) (c1 : 0 ≤ v) (c2 : v ≤ h) : Calls Try.prog 32 #[.agg #[.int .i64 l, .int .i64 h, .int .i64 d], .int .i64 v] w fun e w' => e = .returned (.tuple #[.int .i64 (aI l d v), .int .i64 0]) ∧ Below w.heap.size w w' := sindex_yes r w c1 c2
theorem count_in {l h d : Int} (r : rightB l h d = true) (w : World) : Calls Try.prog 31 #[.agg #[.int .i64 l, .int .i64 h, .int .i64 d]] w fun e w' => e = .returned (.tuple #[.int .i64 (nI l h d), .int .i64 0]) ∧ Below w.heap.size w w' := scount_yes r w

theorem n_in {l h d : Int} (r : rightB l h d = true) : 1 ≤ nI l h d ∧ nI l h d ≤ 67585 := by
  have := (cnt_val r).2
  unfold nI cnt; omega
theorem a_in {l h d v : Int} (r : rightB l h d = true) (c1 : 0 ≤ v) (c2 : v ≤ h) : 0 ≤ aI l d v ∧ aI l d v < nI l h d ∧ loI l d (aI l d v) ≤ v ∧ v ≤ hiI l d (aI l d v) := by
  obtain ⟨a1, a2, a3, a4, a5, a6⟩ := right_of r
  have hm := SC.idx_mono (h := hOf d) (e := eOf l) (n := v.toNat) (m := h.toNat) (by omega) (by omega)
  have hw := SC.idx_within (hOf d) (eOf l) v.toNat (by omega)
  unfold aI nI cnt loI hiI
  rw [Int.toNat_natCast]
  omega
theorem a_mono {l h d v w : Int} (r : rightB l h d = true) (_c1 : 0 ≤ v) (c2 : v ≤ w) (c3 : w ≤ h) : aI l d v ≤ aI l d w := by
  obtain ⟨a1, a2, a3, a4, a5, a6⟩ := right_of r
  have hm := SC.idx_mono (h := hOf d) (e := eOf l) (n := v.toNat) (m := w.toNat) (by omega) (by omega)
  unfold aI; omega
theorem lo_hi {l h d i : Int} (r : rightB l h d = true) (c1 : 0 ≤ i) (c2 : i < nI l h d) : 0 ≤ loI l d i ∧ loI l d i ≤ 2305843009213693952 ∧ loI l d i ≤ hiI l d i ∧ hiI l d i ≤ 4611687117939015680 := by
  obtain ⟨a1, a2, a3, a4, a5, a6⟩ := right_of r
  unfold nI at c2
  obtain ⟨h1, h2⟩ := low_in r (i := i.toNat) (by omega)
  have h3 := SC.low_lt_next (hOf d) (eOf l) i.toNat
  have h4 := SC.next_bound (hOf d) (eOf l) i.toNat
  have h5 := pow40 (e := eOf l) (by have := (eOf_val a1 a2).2; omega)
  unfold loI hiI; omega
theorem lo_zero (l d : Int) : loI l d 0 = 0 := by unfold loI; rw [show (0 : Int).toNat = 0 from rfl, SC.low_zero]; rfl
theorem hi_step {l d i : Int} (c : 1 ≤ i) : hiI l d (i - 1) + 1 = loI l d i := by
  unfold hiI loI
  rw [SC.next_low, show (i - 1).toNat + 1 = i.toNat by omega]; omega
theorem last_in {l h d : Int} (r : rightB l h d = true) : loI l d (nI l h d - 1) ≤ h ∧ h ≤ hiI l d (nI l h d - 1) := by
  obtain ⟨a1, a2, a3, a4, a5, a6⟩ := right_of r
  have hw := SC.idx_within (hOf d) (eOf l) h.toNat (by omega)
  unfold loI hiI nI cnt
  rw [show ((SC.idx (hOf d) (eOf l) h.toNat + 1 : Nat) - 1 : Int).toNat = SC.idx (hOf d) (eOf l) h.toNat by omega]
  omega
end Go.Proofs.Ytiifhkfkcljoiaa.Sc
