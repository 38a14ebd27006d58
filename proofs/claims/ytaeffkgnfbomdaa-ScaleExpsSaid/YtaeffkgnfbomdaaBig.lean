/- PLAIN MATHEMATICS: that the squares of one word tell the root, and what the document's own answer is. No program. -/
import Derived.Test.YtaeffkgnfbomdaaTop
namespace Go.Proofs.Ytaeffkgnfbomdaa.FL
open Go

/-- the greatest r with r^256 at most n, given its places above 'todo' -/
def rootUp (n : Nat) : Nat → Nat → Nat
  | 0, r => r
  | k + 1, r => if (r + 2 ^ k) ^ 256 ≤ n then rootUp n k (r + 2 ^ k) else rootUp n k r
def rootAt (i : Nat) : Nat := rootUp (2 ^ (i + 13312)) 52 4503599627370496
def rtOk (i : Nat) : Bool := let r := rootAt i; decide (r ^ 256 < 2 ^ (i + 13312)) && decide (2 ^ (i + 13312) < (r + 1) ^ 256) && decide (4503599627370496 ≤ r) && decide (rt (r * 2048) ≤ i) && decide (i + 1 ≤ rt ((r + 1) * 2048))
theorem rt_ok_all : ∀ i : Fin 255, rtOk (i.val + 1) = true := by decide +kernel
theorem rt_ok (i : Nat) (h1 : 1 ≤ i) (h2 : i ≤ 255) : rootAt i ^ 256 < 2 ^ (i + 13312) ∧ 2 ^ (i + 13312) < (rootAt i + 1) ^ 256 ∧ 4503599627370496 ≤ rootAt i ∧ rt (rootAt i * 2048) ≤ i ∧ i + 1 ≤ rt ((rootAt i + 1) * 2048) := by
  have := rt_ok_all ⟨i - 1, by omega⟩
  rw [show (⟨i - 1, by omega⟩ : Fin 255).val + 1 = i by simp; omega] at this
  simpa [rtOk, and_assoc] using this

/-- r is how many bits n has -/
def IsBits (n r : Nat) : Prop := (n = 0 ∧ r = 0) ∨ (1 ≤ r ∧ 2 ^ (r - 1) ≤ n ∧ n < 2 ^ r)
theorem isBits_unique {n r s : Nat} (h : IsBits n r) (g : IsBits n s) : r = s := by
  rcases h with ⟨rfl, rfl⟩ | ⟨a, b, c⟩ <;> rcases g with ⟨h1, h2⟩ | ⟨x, y, z⟩
  · exact h2.symm
  · have := Nat.two_pow_pos (s - 1); omega
  · have := Nat.two_pow_pos (r - 1); omega
  · have e1 := (Nat.pow_lt_pow_iff_right (a := 2) (by omega)).1 (Nat.lt_of_le_of_lt b z)
    have e2 := (Nat.pow_lt_pow_iff_right (a := 2) (by omega)).1 (Nat.lt_of_le_of_lt y c)
    omega
/-- twice as many bits, or one less -/
theorem isBits_sq {n r q : Nat} (hn : n ≠ 0) (h : IsBits n r) (g : IsBits (n * n) q) : (q + 1) / 2 = r := by
  rcases h with ⟨h1, _⟩ | ⟨a, b, c⟩
  · omega
  rcases g with ⟨h1, _⟩ | ⟨x, y, z⟩
  · have := Nat.mul_pos (Nat.pos_of_ne_zero hn) (Nat.pos_of_ne_zero hn); omega
  have u1 : 2 ^ (r - 1 + (r - 1)) ≤ n * n := by rw [Nat.pow_add]; exact Nat.mul_le_mul b b
  have u2 : n * n < 2 ^ (r + r) := by rw [Nat.pow_add]; exact Nat.mul_lt_mul'' c c
  have e1 := (Nat.pow_lt_pow_iff_right (a := 2) (by omega)).1 (Nat.lt_of_le_of_lt u1 z)
  have e2 := (Nat.pow_lt_pow_iff_right (a := 2) (by omega)).1 (Nat.lt_of_le_of_lt y u2)
  omega
theorem exp_gt {m a N r : Nat} (h : 2 ^ a < m) (hN : N ≠ 0) (c : m ^ N < 2 ^ r) : a * N < r := by
  have l : 2 ^ (a * N) < m ^ N := by rw [Nat.pow_mul]; exact Nat.pow_lt_pow_left h hN
  exact (Nat.pow_lt_pow_iff_right (a := 2) (by omega)).1 (Nat.lt_trans l c)
theorem exp_lt {m a N r : Nat} (h : m < 2 ^ a) (hN : N ≠ 0) (c : 2 ^ r ≤ m ^ N) : r < a * N := by
  have l : m ^ N < 2 ^ (a * N) := by rw [Nat.pow_mul]; exact Nat.pow_lt_pow_left h hN
  exact (Nat.pow_lt_pow_iff_right (a := 2) (by omega)).1 (Nat.lt_of_le_of_lt c l)
/-- the root of a part, by the number of bits of its 256th power -/
theorem rt_bits {m r : Nat} (h1 : 4503599627370496 < m) (h2 : m < 9007199254740992) (hr : IsBits (m ^ 256) r) : r = rt (m * 2048) + 13312 := by
  rcases hr with ⟨h0, _⟩ | ⟨a, b, c⟩
  · have := Nat.pow_pos (n := 256) (show 0 < m by omega); omega
  have e1 : 52 * 256 < r := exp_gt (N := 256) (show 2 ^ 52 < m by omega) (by omega) c
  have e2 : r - 1 < 53 * 256 := exp_lt (N := 256) (show m < 2 ^ 53 by omega) (by omega) b
  obtain ⟨j, rfl⟩ : ∃ j, r = j + 13312 := ⟨r - 13312, by omega⟩
  have hj1 : 1 ≤ j := by omega
  have hj2 : j ≤ 256 := by omega
  have up : rt (m * 2048) ≤ j := by
    by_cases h : j = 256
    · rw [h]; exact rt_le _
    · obtain ⟨x1, x2, x3, x4, x5⟩ := rt_ok j hj1 (by omega)
      have hle : m ≤ rootAt j := by
        rcases Nat.lt_or_ge (rootAt j) m with hh | hh
        · have := Nat.pow_le_pow_left (show rootAt j + 1 ≤ m by omega) 256
          omega
        · exact hh
      exact Nat.le_trans (rt_mono (by omega) (Nat.mul_le_mul_right 2048 hle)) x4
  have dn : j ≤ rt (m * 2048) := by
    by_cases h : j = 1
    · rw [h]; exact rt_pos (by omega)
    · obtain ⟨x1, x2, x3, x4, x5⟩ := rt_ok (j - 1) (by omega) (by omega)
      have hlt : rootAt (j - 1) + 1 ≤ m := by
        rcases Nat.lt_or_ge (rootAt (j - 1)) m with hh | hh
        · omega
        · have h3 := Nat.pow_le_pow_left hh 256
          rw [show j + 13312 - 1 = j - 1 + 13312 by omega] at b
          omega
      have := rt_mono (p := (rootAt (j - 1) + 1) * 2048) (q := m * 2048) (by omega) (Nat.mul_le_mul_right 2048 hlt)
      omega
  omega
end Go.Proofs.Ytaeffkgnfbomdaa.FL
