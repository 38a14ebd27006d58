/- PLAIN MATHEMATICS: the document's own place of a float is that by the squares of one word. No program. -/
import Derived.Test.YtaeffkgnfbomdaaBig
import Derived.Test.YtaeffkgnfbomdaaPow
namespace Go.Proofs.Ytaeffkgnfbomdaa.FL
open Go
theorem isBits_exists (n : Nat) : ∃ r, IsBits n r := by
  by_cases h : n = 0
  · exact ⟨0, .inl ⟨h, rfl⟩⟩
  · exact ⟨n.log2 + 1, .inr ⟨by omega, by simpa using Nat.log2_self_le h, Nat.lt_log2_self⟩⟩
theorem isBits_shift {n r k : Nat} (h0 : n ≠ 0) (h : IsBits n r) : IsBits (n * 2 ^ k) (r + k) := by
  rcases h with ⟨h1, _⟩ | ⟨a, b, c⟩
  · omega
  · right
    refine ⟨by omega, ?_, ?_⟩
    · rw [show r + k - 1 = r - 1 + k by omega, Nat.pow_add]; exact Nat.mul_le_mul_right _ b
    · rw [Nat.pow_add]; exact Nat.mul_lt_mul_of_pos_right c (Nat.two_pow_pos k)
theorem odd_one {m : Nat} (hm : m % 2 = 1) : ∀ (k a : Nat), m * 2 ^ a = 2 ^ k → m = 1 := by
  intro k
  induction k with
  | zero =>
    intro a h
    exact Nat.eq_one_of_mul_eq_one_right (by simpa using h)
  | succ k ih =>
    intro a h
    cases a with
    | zero => rw [Nat.pow_succ] at h; simp at h; omega
    | succ a =>
      rw [Nat.pow_succ, Nat.pow_succ, ← Nat.mul_assoc] at h
      exact ih a (by omega)
/-- a float's amount as m 2^e, m odd -/
def Odd2 (b m t : Nat) : Prop := mant b = m * 2 ^ t ∧ m % 2 = 1
theorem fine8 {b m t r : Nat} (h0 : 0 < b) (ho : Odd2 b m t) (hm : 1 < m) (hr : IsBits (m ^ 256) r) : ((pw b : Int) - 1075 + t) * 256 + r = ix b := by
  obtain ⟨h1, h2⟩ := ho
  obtain ⟨a, b1, c, d⟩ := mant_bl h0
  unfold ix power part
  generalize Lib.bitLen (mant b) = L at *
  have e1 : m * 2 ^ (t + (53 - L)) = mant b * 2 ^ (53 - L) := by rw [h1, Nat.pow_add, Nat.mul_assoc]
  have lo : 2 ^ 52 ≤ mant b * 2 ^ (53 - L) := by
    have := Nat.mul_le_mul_right (2 ^ (53 - L)) c
    rwa [← Nat.pow_add, show L - 1 + (53 - L) = 52 by omega] at this
  have hi : mant b * 2 ^ (53 - L) < 2 ^ 53 := by
    have := Nat.mul_lt_mul_of_pos_right d (Nat.two_pow_pos (53 - L))
    rwa [← Nat.pow_add, show L + (53 - L) = 53 by omega] at this
  have ne : mant b * 2 ^ (53 - L) ≠ 2 ^ 52 := by
    intro he
    rw [← e1] at he
    have := odd_one h2 _ _ he
    omega
  have hp : mant b * 2 ^ (64 - L) = mant b * 2 ^ (53 - L) * 2048 := by
    rw [show 64 - L = 53 - L + 11 by omega, Nat.pow_add, ← Nat.mul_assoc]
  rw [hp]
  rw [← e1] at lo hi ne ⊢
  have hne : m ^ 256 ≠ 0 := by have := Nat.pow_pos (n := 256) (show 0 < m by omega); omega
  have hb : IsBits ((m * 2 ^ (t + (53 - L))) ^ 256) (r + (t + (53 - L)) * 256) := by
    rw [Nat.mul_pow, ← Nat.pow_mul]
    exact isBits_shift hne hr
  have := rt_bits (by omega) (by omega) hb
  generalize rt (m * 2 ^ (t + (53 - L)) * 2048) = R at *
  omega
theorem fine {b m t : Nat} (h0 : 0 < b) (ho : Odd2 b m t) (hm : 1 < m) : ∀ (k n r : Nat), n + k = 8 → IsBits (m ^ (2 ^ n)) r → ((pw b : Int) - 1075 + t) * 2 ^ n + r = bk (n : Int) b := by
  intro k
  induction k with
  | zero =>
    intro n r hn hr
    obtain rfl : n = 8 := by omega
    exact fine8 h0 ho hm hr
  | succ k ih =>
    intro n r hn hr
    obtain ⟨q, hq⟩ := isBits_exists (m ^ (2 ^ (n + 1)))
    have h1 := ih (n + 1) q (by omega) hq
    have hpos : m ^ (2 ^ n) ≠ 0 := by have := Nat.pow_pos (n := 2 ^ n) (show 0 < m by omega); omega
    have hsq : m ^ (2 ^ (n + 1)) = m ^ (2 ^ n) * m ^ (2 ^ n) := by rw [← Nat.pow_add, Nat.pow_succ]; congr 1; omega
    rw [hsq] at hq
    have h2 := isBits_sq hpos hr hq
    have h3 := bk_coarser (s := ((n + 1 : Nat) : Int)) (by omega) b
    rw [show (((n + 1 : Nat) : Int) - 1) = (n : Int) by omega] at h3
    rw [h3, ← h1]
    unfold co
    rw [Int.pow_succ, ← Int.mul_assoc]
    generalize ((pw b : Int) - 1075 + t) * 2 ^ n = X
    omega
theorem fine_one {b t : Nat} (_h0 : 0 < b) (ho : Odd2 b 1 t) {n : Nat} (hn : n ≤ 8) : ((pw b : Int) - 1075 + t) * 2 ^ n = bk (n : Int) b := by
  obtain ⟨h1, _⟩ := ho
  rw [Nat.one_mul] at h1
  have ht : t < 53 := (Nat.pow_lt_pow_iff_right (a := 2) (by omega)).1 (by rw [← h1]; exact mant_lt)
  have eb : Lib.bitLen (mant b) = t + 1 := by rw [h1]; exact bl_two t (by omega)
  have hp : part b = 9223372036854775808 := by
    unfold part; rw [eb, h1, ← Nat.pow_add, show t + (64 - (t + 1)) = 63 by omega]
  have hi : ix b = ((pw b : Int) - 1075 + t) * 256 := by
    unfold ix power
    rw [hp, eb]
    show _ * 256 + ((0 : Nat) : Int) = _
    omega
  unfold bk
  rw [hi, show (8 - (n : Int)).toNat = 8 - n by omega, pow_split hn]
  exact (coN_pow _ _).1.symm
theorem coN_add (j k : Nat) (i : Int) : coN (j + k) i = coN k (coN j i) := by
  induction j generalizing i with
  | zero => simp [coN]
  | succ j ih => rw [show j + 1 + k = (j + k) + 1 by omega, coN, coN, ih]
theorem coN_ceil (k : Nat) : ∀ i : Int, coN k i * 2 ^ k < i + 2 ^ k ∧ i ≤ coN k i * 2 ^ k := by
  induction k with
  | zero => intro i; simp [coN]; omega
  | succ k ih =>
    intro i
    have h := ih (co i)
    rw [coN, Int.pow_succ, ← Int.mul_assoc]
    generalize coN k (co i) * 2 ^ k = X at *
    generalize (2 : Int) ^ k = P at *
    unfold co at h
    omega
theorem bk_low {j : Nat} (b : Nat) : bk (-(j : Int)) b = coN j (bk 0 b) := by
  unfold bk
  rw [show (8 - -(j : Int)).toNat = 8 + j by omega, coN_add]
  rfl
end Go.Proofs.Ytaeffkgnfbomdaa.FL
