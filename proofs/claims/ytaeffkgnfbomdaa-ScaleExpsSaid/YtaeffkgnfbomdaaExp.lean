/- PLAIN MATHEMATICS of the exponential scale: the bucket of a float by its bits. No program. -/
import Derived.Test.YtaeffkgnfbomdaaNum
import Derived.Test.YtaeffkgnfbomdaaFlt
namespace Go.Proofs.Ytaeffkgnfbomdaa.FL
open Go

/-- coarser -/
def co (i : Int) : Int := (i + 1) / 2
def coN : Nat → Int → Int
  | 0, i => i
  | k + 1, i => coN k (co i)
theorem coN_succ (k : Nat) (i : Int) : coN (k + 1) i = co (coN k i) := by
  induction k generalizing i with
  | zero => rfl
  | succ k ih => rw [coN, ih]; rfl
theorem co_mono {i j : Int} (h : i ≤ j) : co i ≤ co j := by unfold co; omega
theorem coN_mono (k : Nat) {i j : Int} (h : i ≤ j) : coN k i ≤ coN k j := by
  induction k generalizing i j with
  | zero => exact h
  | succ k ih => exact ih (co_mono h)
/-- the loop of squares: what is left of the part, and the digits so far -/
def rl : Nat → Nat → Nat → Nat
  | 0, _, i => i
  | k + 1, p, i => if 9223372036854775808 ≤ p * p / 18446744073709551616 then rl k (p * p / 18446744073709551616) (2 * i + 1) else rl k (2 * (p * p / 18446744073709551616)) (2 * i)
def rt (p : Nat) : Nat := if p = 9223372036854775808 then 0 else rl 8 p 0 + 1
theorem rl_bd (k : Nat) : ∀ p i, i * 2 ^ k ≤ rl k p i ∧ rl k p i < (i + 1) * 2 ^ k := by
  induction k with
  | zero => intro p i; simp [rl]
  | succ k ih =>
    intro p i
    rw [rl, Nat.pow_succ]
    have e1 : i * (2 ^ k * 2) = 2 * i * 2 ^ k := by rw [Nat.mul_comm (2 ^ k) 2, ← Nat.mul_assoc, Nat.mul_comm i 2]
    have e2 : (i + 1) * (2 ^ k * 2) = 2 * i * 2 ^ k + 2 ^ k + 2 ^ k := by rw [Nat.add_mul, e1]; omega
    split
    · have := ih (p * p / 18446744073709551616) (2 * i + 1)
      rw [Nat.add_mul, Nat.add_mul, Nat.add_mul] at this
      omega
    · have := ih (2 * (p * p / 18446744073709551616)) (2 * i)
      rw [Nat.add_mul] at this
      omega
theorem rl_mono (k : Nat) : ∀ p q i, p ≤ q → rl k p i ≤ rl k q i := by
  induction k with
  | zero => intro p q i _; exact Nat.le_refl _
  | succ k ih =>
    intro p q i h
    have hm : p * p / 18446744073709551616 ≤ q * q / 18446744073709551616 := Nat.div_le_div_right (Nat.mul_le_mul h h)
    rw [rl, rl]
    split <;> split
    · exact ih _ _ _ hm
    · omega
    · have a := (rl_bd k (2 * (p * p / 18446744073709551616)) (2 * i)).2
      have b := (rl_bd k (q * q / 18446744073709551616) (2 * i + 1)).1
      omega
    · exact ih _ _ _ (by omega)
theorem rt_le (p : Nat) : rt p ≤ 256 := by
  unfold rt
  split
  · omega
  · have := (rl_bd 8 p 0).2; omega
theorem rt_mono {p q : Nat} (h0 : 9223372036854775808 ≤ p) (h : p ≤ q) : rt p ≤ rt q := by
  unfold rt
  split
  · omega
  · rw [if_neg (by omega)]
    have := rl_mono 8 p q 0 h
    omega
theorem rt_pos {p : Nat} (h0 : 9223372036854775808 < p) : 1 ≤ rt p := by
  unfold rt; rw [if_neg (by omega)]; omega

/-- the part and the power of a finite float above 0 -/
def part (b : Nat) : Nat := mant b * 2 ^ (64 - Lib.bitLen (mant b))
def power (b : Nat) : Int := (pw b : Int) + Lib.bitLen (mant b) - 1076
def ix (b : Nat) : Int := power b * 256 + rt (part b)
def bk (s : Int) (b : Nat) : Int := coN (8 - s).toNat (ix b)

theorem mant_bl {b : Nat} (h : 0 < b) : 1 ≤ Lib.bitLen (mant b) ∧ Lib.bitLen (mant b) ≤ 53 ∧ 2 ^ (Lib.bitLen (mant b) - 1) ≤ mant b ∧ mant b < 2 ^ Lib.bitLen (mant b) := by
  have h1 := mant_lt (b := b)
  obtain ⟨a, c, d⟩ := SC.bl_pos (n := mant b) (by have := mant_pos h; omega) (by omega)
  have : Lib.bitLen (mant b) - 1 < 53 := (Nat.pow_lt_pow_iff_right (a := 2) (by omega)).1 (Nat.lt_of_le_of_lt c (by omega))
  exact ⟨a, by omega, c, d⟩
theorem part_in {b : Nat} (h : 0 < b) : 9223372036854775808 ≤ part b ∧ part b < 18446744073709551616 := by
  obtain ⟨a, b1, c, d⟩ := mant_bl h
  unfold part
  constructor
  · have := Nat.mul_le_mul_right (2 ^ (64 - Lib.bitLen (mant b))) c
    rw [← Nat.pow_add, show Lib.bitLen (mant b) - 1 + (64 - Lib.bitLen (mant b)) = 63 by omega] at this
    exact this
  · have := Nat.mul_lt_mul_of_pos_right d (Nat.two_pow_pos (64 - Lib.bitLen (mant b)))
    rw [← Nat.pow_add, show Lib.bitLen (mant b) + (64 - Lib.bitLen (mant b)) = 64 by omega] at this
    exact this
theorem bl_mono {a b : Nat} (h : a ≤ b) (hb : b < 2 ^ 64) : Lib.bitLen a ≤ Lib.bitLen b := by
  by_cases h0 : a = 0
  · subst h0; rw [SC.bl_zero]; omega
  · obtain ⟨x, y, z⟩ := SC.bl_pos h0 (by omega)
    have := (Nat.pow_lt_pow_iff_right (a := 2) (by omega)).1 (Nat.lt_of_le_of_lt (Nat.le_trans y h) (SC.bl_lt hb))
    omega
/-- a float of lesser bits: a lesser power, or the same and a lesser part -/
theorem plex {b c : Nat} (h0 : 0 < b) (h : b < c) : power b < power c ∨ power b = power c ∧ part b < part c := by
  obtain ⟨a1, b1, c1, d1⟩ := mant_bl h0
  obtain ⟨a2, b2, c2, d2⟩ := mant_bl (b := c) (by omega)
  have m2 := mant_lt (b := c)
  unfold power part
  rcases lex h with hp | ⟨hp, hm⟩
  · have hn := mant_norm (b := c) (by have := pw_pos b; omega)
    have : Lib.bitLen (mant c) = 53 := SC.bl_of (n := mant c) (k := 52) (by omega) (by omega) (by omega)
    left; omega
  · have := bl_mono (Nat.le_of_lt hm) (by omega)
    by_cases he : Lib.bitLen (mant b) = Lib.bitLen (mant c)
    · right
      rw [he, hp]
      exact ⟨rfl, Nat.mul_lt_mul_of_pos_right hm (Nat.two_pow_pos _)⟩
    · left; omega
theorem ix_mono {b c : Nat} (h0 : 0 < b) (h : b ≤ c) : ix b ≤ ix c := by
  by_cases he : b = c
  · subst he; exact Int.le_refl _
  · unfold ix
    have hb := rt_le (part b)
    rcases plex h0 (c := c) (by omega) with hp | ⟨hp, hq⟩
    · omega
    · have := rt_mono (part_in h0).1 (Nat.le_of_lt hq)
      omega
theorem bk_mono (s : Int) {b c : Nat} (h0 : 0 < b) (h : b ≤ c) : bk s b ≤ bk s c := coN_mono _ (ix_mono h0 h)
theorem bk_coarser {s : Int} (hs : s ≤ 8) (b : Nat) : bk (s - 1) b = co (bk s b) := by
  unfold bk
  rw [show (8 - (s - 1)).toNat = (8 - s).toNat + 1 by omega, coN_succ]
theorem coN_pow : ∀ (k : Nat) (i : Int), coN k (i * 2 ^ k) = i ∧ (∀ j, i * 2 ^ k < j → i < coN k j) := by
  intro k
  induction k with
  | zero => intro i; simp [coN]
  | succ k ih =>
    intro i
    have e : i * 2 ^ (k + 1) = 2 * (i * 2 ^ k) := by rw [Int.pow_succ, ← Int.mul_assoc, Int.mul_comm]
    constructor
    · rw [coN, e, show co (2 * (i * 2 ^ k)) = i * 2 ^ k by unfold co; omega]; exact (ih i).1
    · intro j hj
      rw [e] at hj
      rw [coN]
      exact (ih i).2 _ (by unfold co; omega)
/-- the greatest float of a bucket: is it within? -/
def inB (s i : Int) (b : Nat) : Prop := b ≤ 9218868437227405311 ∧ (b = 0 ∨ bk s b ≤ i)
theorem inB_down {s i : Int} {b c : Nat} (h : inB s i c) (hb : b ≤ c) : inB s i b := by
  refine ⟨Nat.le_trans hb h.1, ?_⟩
  rcases Nat.eq_zero_or_pos b with h0 | h0
  · exact .inl h0
  · rcases h.2 with rfl | h2
    · omega
    · exact .inr (Int.le_trans (bk_mono s h0 hb) h2)
end Go.Proofs.Ytaeffkgnfbomdaa.FL
