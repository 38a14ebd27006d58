/- THE WALK of the law 'ScaleDigits'. -/
import Derived.Test.YtaeffkgnfbomdaaLd
namespace Go.Proofs.Ytaeffkgnfbomdaa
open Go.RowKit
theorem eOf_of {l : Int} {k : Nat} (h1 : 1 ≤ l) (h2 : l ≤ 1099511627776) (h3 : (2 ^ k : Nat) ≤ l) (h4 : l < 2 * (2 ^ k : Nat)) : eOf l = k := by
  unfold eOf
  have := SC.bl_of (n := l.toNat) (k := k) (by omega) (by rw [Nat.pow_succ]; omega) (by omega)
  omega
/-- what the law asks of a bucket, in the walk's own words -/
theorem digits_math (hh e i ten : Nat) (ht : ten < 2 ^ hh) (ht0 : 0 < ten) :
    (SC.low hh e i / 2 ^ e < 2 ^ hh → SC.next hh e i - 1 - SC.low hh e i = 2 ^ e - 1) ∧ (2 ^ hh ≤ SC.low hh e i / 2 ^ e → SC.next hh e i - 1 - SC.low hh e i < SC.low hh e i / ten) := by
  have hp := Nat.two_pow_pos (SC.dOf hh i + e)
  have he : SC.next hh e i - 1 - SC.low hh e i = 2 ^ (SC.dOf hh i + e) - 1 := by
    unfold SC.next SC.low; rw [Nat.add_mul]; omega
  have hq : SC.low hh e i / 2 ^ e = SC.pOf hh i * 2 ^ SC.dOf hh i := by
    unfold SC.low; rw [Nat.pow_add, ← Nat.mul_assoc, Nat.mul_div_cancel _ (Nat.two_pow_pos e)]
  have hd : SC.dOf hh i = 0 ∨ 2 ^ hh ≤ SC.pOf hh i := by
    by_cases h0 : i / 2 ^ hh = 0
    · exact .inl (SC.dOf_zero h0)
    · obtain ⟨D, hD⟩ : ∃ D, i / 2 ^ hh = D + 1 := ⟨i / 2 ^ hh - 1, (Nat.succ_pred_eq_of_ne_zero h0).symm⟩
      right
      have h1 := Nat.div_mul_le_self i (2 ^ hh)
      rw [hD, Nat.add_mul] at h1
      unfold SC.pOf; rw [SC.dOf_succ hD]; omega
  rw [hq, he]
  constructor
  · intro hlt
    rcases hd with h0 | h0
    · rw [h0, Nat.zero_add]
    · have := Nat.mul_le_mul h0 (Nat.two_pow_pos (SC.dOf hh i)); omega
  · intro hge
    have hpp : 2 ^ hh ≤ SC.pOf hh i := by
      rcases hd with h0 | h0
      · rw [h0] at hge; simpa using hge
      · exact h0
    have h1 : 2 ^ (SC.dOf hh i + e) ≤ SC.low hh e i / ten := by
      rw [Nat.le_div_iff_mul_le ht0]
      unfold SC.low
      rw [Nat.mul_comm]
      exact Nat.mul_le_mul_right _ (by omega)
    omega
/-- half of S, and 10 to the power of Digits -/
def tOf (d : Int) : Nat := if d = 1 then 10 else if d = 2 then 100 else 1000
theorem t_lt (d : Int) : tOf d < 2 ^ hOf d ∧ 0 < tOf d := by unfold tOf hOf; split <;> (try split) <;> decide
theorem digits_int {l h d i : Int} (r : rightB l h d = true) (c1 : 0 ≤ i) (c2 : i < nI l h d) : (loI l d i / (2 ^ eOf l : Nat) < (2 ^ hOf d : Nat) → hiI l d i - loI l d i = (2 ^ eOf l : Nat) - 1) ∧ ((2 ^ hOf d : Nat) ≤ loI l d i / (2 ^ eOf l : Nat) → hiI l d i - loI l d i < loI l d i / tOf d) := by
  obtain ⟨m1, m2⟩ := digits_math (hOf d) (eOf l) i.toNat (tOf d) (t_lt d).1 (t_lt d).2
  have hl := SC.low_lt_next (hOf d) (eOf l) i.toNat
  have hp := Nat.two_pow_pos (eOf l)
  unfold loI hiI
  rw [← Int.natCast_ediv, ← Int.natCast_ediv]
  constructor
  · intro h1
    have := m1 (by omega)
    omega
  · intro h1
    have := m2 (by omega)
    omega
end Go.Proofs.Ytaeffkgnfbomdaa
