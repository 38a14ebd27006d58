/- PLAIN MATHEMATICS: powers of two as floats. No program. -/
import Derived.Test.YtaeffkgnfbomdaaTop
namespace Go.Proofs.Ytaeffkgnfbomdaa.FL
open Go Ieee
/-- the bits of 2^k -/
def powB (k : Int) : Nat := if k < -1022 then 2 ^ (k + 1074).toNat else (k + 1023).toNat * 4503599627370496
theorem bl_two (j : Nat) (hj : j < 64) : Lib.bitLen (2 ^ j) = j + 1 :=
  SC.bl_of (Nat.le_refl _) (Nat.pow_lt_pow_right (by omega) (by omega)) (Nat.pow_lt_pow_right (by omega) hj)
theorem powB_in {k : Int} (h1 : -1074 ≤ k) (h2 : k ≤ 1023) : 0 < powB k ∧ powB k < 9218868437227405312 := by
  unfold powB
  split
  · have h3 := Nat.two_pow_pos (k + 1074).toNat
    have h4 : 2 ^ (k + 1074).toNat < 2 ^ 52 := Nat.pow_lt_pow_right (by omega) (by omega)
    omega
  · omega
theorem powB_parts {k : Int} (h1 : -1074 ≤ k) (h2 : k ≤ 1023) : part (powB k) = 9223372036854775808 ∧ power (powB k) = k := by
  unfold powB
  split
  · rename_i h
    have h4 : 2 ^ (k + 1074).toNat < 2 ^ 52 := Nat.pow_lt_pow_right (by omega) (by omega)
    have em : mant (2 ^ (k + 1074).toNat) = 2 ^ (k + 1074).toNat := by unfold mant; rw [if_pos (by omega)]
    have ep : pw (2 ^ (k + 1074).toNat) = 1 := by unfold pw; rw [if_pos (by omega)]
    have eb := bl_two (k + 1074).toNat (by omega)
    unfold part power
    rw [em, ep, eb]
    constructor
    · rw [← Nat.pow_add, show (k + 1074).toNat + (64 - ((k + 1074).toNat + 1)) = 63 by omega]
    · omega
  · obtain ⟨n, hn⟩ : ∃ n : Nat, (k + 1023).toNat = n + 1 := ⟨(k + 1022).toNat, by omega⟩
    rw [hn]
    have em : mant ((n + 1) * 4503599627370496) = 4503599627370496 := by unfold mant; rw [if_neg (by omega), Nat.mul_mod_left]
    have ep : pw ((n + 1) * 4503599627370496) = n + 1 := by unfold pw; rw [if_neg (by omega), Nat.mul_div_cancel _ (by omega)]
    have eb : Lib.bitLen 4503599627370496 = 53 := bl_two 52 (by omega)
    unfold part power
    rw [em, ep, eb]
    exact ⟨rfl, by omega⟩
theorem pow_split {k : Int} {s : Nat} (hs : s ≤ 8) : k * 256 = k * 2 ^ s * 2 ^ (8 - s) := by
  rw [Int.mul_assoc, ← Int.pow_add, show s + (8 - s) = 8 by omega]; rfl
theorem powB_ix {k : Int} (h1 : -1074 ≤ k) (h2 : k ≤ 1023) : ix (powB k) = k * 256 := by
  obtain ⟨a, b⟩ := powB_parts h1 h2
  unfold ix
  rw [a, b]
  show k * 256 + ((0 : Nat) : Int) = _
  omega
theorem powB_bk {k : Int} {s : Nat} (hs : s ≤ 8) (h1 : -1074 ≤ k) (h2 : k ≤ 1023) : bk (s : Int) (powB k) = k * 2 ^ s := by
  unfold bk
  rw [powB_ix h1 h2, show (8 - (s : Int)).toNat = 8 - s by omega, pow_split hs]
  exact (coN_pow _ _).1
theorem powB_top {k : Int} {s : Nat} (hs : s ≤ 8) (h1 : -1074 ≤ k) (h2 : k ≤ 1023) : IsTop (s : Int) (k * 2 ^ s) (powB k) := by
  obtain ⟨p1, p2⟩ := powB_in h1 h2
  obtain ⟨a, b⟩ := powB_parts h1 h2
  refine ⟨⟨by omega, .inr (by rw [powB_bk hs h1 h2]; exact Int.le_refl _)⟩, fun c hc => ?_⟩
  rcases Nat.lt_or_ge (powB k) c with hlt | hge
  · exfalso
    have hix : k * 256 < ix c := by
      unfold ix
      rcases plex p1 hlt with h | ⟨h, h'⟩
      · rw [b] at h; omega
      · rw [a] at h'; rw [b] at h
        have := rt_pos h'
        omega
    rw [pow_split hs] at hix
    have h3 := (coN_pow (8 - s) (k * 2 ^ s)).2 _ hix
    rcases hc.2 with h0 | h0
    · omega
    · unfold bk at h0
      rw [show (8 - (s : Int)).toNat = 8 - s by omega] at h0
      omega
  · exact hge
/-- 1 times a power of two, and 2^-53 times one -/
theorem mul_norm : ∀ n : Fin 2046, double.mul 4607182418800017408 ((n.val + 1) * 4503599627370496) = some ((n.val + 1) * 4503599627370496) := by decide +kernel
theorem mul_sub : ∀ n : Fin 52, double.mul 4368491638549381120 ((n.val + 2) * 4503599627370496) = some (2 ^ n.val) := by decide +kernel
end Go.Proofs.Ytaeffkgnfbomdaa.FL
