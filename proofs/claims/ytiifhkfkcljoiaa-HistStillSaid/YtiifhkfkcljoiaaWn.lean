/- PLAIN MATHEMATICS of the log-linear scale: which bucket a number has, and a bucket's bounds. No program. -/
import Derived.Lib.ItoaNum
namespace Go.Proofs.Ytiifhkfkcljoiaa.Sc.SC
open Go

theorem bl_pos {n : Nat} (h : n ≠ 0) (hn : n < 2 ^ 64) : 1 ≤ Lib.bitLen n ∧ 2 ^ (Lib.bitLen n - 1) ≤ n ∧ n < 2 ^ Lib.bitLen n := Lib.bitLenAux_bounds 64 n hn h
theorem bl_zero : Lib.bitLen 0 = 0 := Lib.bitLenAux_zero 64
theorem bl_lt {n : Nat} (hn : n < 2 ^ 64) : n < 2 ^ Lib.bitLen n := by
  by_cases h : n = 0
  · subst h; exact Nat.two_pow_pos _
  · exact (bl_pos h hn).2.2
theorem bl_of {n k : Nat} (h1 : 2 ^ k ≤ n) (h2 : n < 2 ^ (k + 1)) (hn : n < 2 ^ 64) : Lib.bitLen n = k + 1 := by
  have h0 : n ≠ 0 := by have := Nat.two_pow_pos k; omega
  obtain ⟨a, b, c⟩ := bl_pos h0 hn
  have e1 : k < Lib.bitLen n := (Nat.pow_lt_pow_iff_right (a := 2) (by omega)).1 (Nat.lt_of_le_of_lt h1 c)
  have e2 : Lib.bitLen n - 1 < k + 1 := (Nat.pow_lt_pow_iff_right (a := 2) (by omega)).1 (Nat.lt_of_le_of_lt b h2)
  omega
theorem bl_le64 {n : Nat} (hn : n < 2 ^ 64) : Lib.bitLen n ≤ 64 := Lib.bitLen_le n 64 (Nat.le_refl _) hn

/-- how often a number is halved till it is below 2^(h+1) -/
def dbl (h u : Nat) : Nat := Lib.bitLen u - (h + 1)
/-- the bucket -/
def idx (h e n : Nat) : Nat := dbl h (n / 2 ^ e) * 2 ^ h + n / 2 ^ e / 2 ^ dbl h (n / 2 ^ e)
/-- the doublings of a bucket, its place among those, its least number -/
def dOf (h i : Nat) : Nat := i / 2 ^ h - 1
def pOf (h i : Nat) : Nat := i - dOf h i * 2 ^ h
def low (h e i : Nat) : Nat := pOf h i * 2 ^ (dOf h i + e)
def next (h e i : Nat) : Nat := (pOf h i + 1) * 2 ^ (dOf h i + e)

theorem dbl_small {h u : Nat} (hu : u < 2 ^ (h + 1)) (h64 : u < 2 ^ 64) : dbl h u = 0 := by
  unfold dbl
  by_cases h0 : u = 0
  · subst h0; rw [bl_zero]; omega
  · obtain ⟨a, b, c⟩ := bl_pos h0 h64
    have := (Nat.pow_lt_pow_iff_right (a := 2) (by omega)).1 (Nat.lt_of_le_of_lt b hu)
    omega
theorem dbl_great {h u : Nat} (hu : 2 ^ (h + 1) ≤ u) (h64 : u < 2 ^ 64) : 1 ≤ dbl h u ∧ 2 ^ h ≤ u / 2 ^ dbl h u ∧ u / 2 ^ dbl h u < 2 ^ (h + 1) := by
  unfold dbl
  have h0 : u ≠ 0 := by have := Nat.two_pow_pos (h + 1); omega
  obtain ⟨a, b, c⟩ := bl_pos h0 h64
  have hl := (Nat.pow_lt_pow_iff_right (a := 2) (by omega)).1 (Nat.lt_of_le_of_lt hu c)
  refine ⟨by omega, ?_, ?_⟩
  · rw [Nat.le_div_iff_mul_le (Nat.two_pow_pos _), ← Nat.pow_add]
    rw [show h + (Lib.bitLen u - (h + 1)) = Lib.bitLen u - 1 by omega]; exact b
  · rw [Nat.div_lt_iff_lt_mul (Nat.two_pow_pos _), ← Nat.pow_add]
    rw [show h + 1 + (Lib.bitLen u - (h + 1)) = Lib.bitLen u by omega]; exact c
theorem dbl_lt {h u : Nat} (h64 : u < 2 ^ 64) : u / 2 ^ dbl h u < 2 ^ (h + 1) := by
  by_cases hu : u < 2 ^ (h + 1)
  · rw [dbl_small hu h64]; simpa using hu
  · exact (dbl_great (by omega) h64).2.2
/-- the least such number of halvings -/
theorem dbl_of {h u k : Nat} (h64 : u < 2 ^ 64) (h1 : u / 2 ^ k < 2 ^ (h + 1)) (h2 : k = 0 ∨ 2 ^ h ≤ u / 2 ^ k) : dbl h u = k := by
  rcases h2 with rfl | h2
  · exact dbl_small (by simpa using h1) h64
  · unfold dbl
    rw [Nat.div_lt_iff_lt_mul (Nat.two_pow_pos _), ← Nat.pow_add] at h1
    rw [Nat.le_div_iff_mul_le (Nat.two_pow_pos _), ← Nat.pow_add] at h2
    rw [bl_of h2 (by rw [show h + k + 1 = h + 1 + k by omega]; exact h1) h64]
    omega

theorem dOf_idx (h D p : Nat) (hp : p < 2 ^ (h + 1)) (hd : D = 0 ∨ 2 ^ h ≤ p) : dOf h (D * 2 ^ h + p) = D ∧ pOf h (D * 2 ^ h + p) = p := by
  have hpos := Nat.two_pow_pos h
  have e : dOf h (D * 2 ^ h + p) = D := by
    unfold dOf
    rw [Nat.add_comm, Nat.add_mul_div_right _ _ hpos]
    rw [Nat.pow_succ] at hp
    rcases hd with rfl | hd
    · have : p / 2 ^ h < 2 := (Nat.div_lt_iff_lt_mul hpos).2 (by omega)
      omega
    · have : p / 2 ^ h = 1 := Nat.div_eq_of_lt_le (by omega) (by omega)
      omega
  exact ⟨e, by unfold pOf; rw [e]; omega⟩
theorem idx_parts (h e n : Nat) (hn : n < 2 ^ 64) : dOf h (idx h e n) = dbl h (n / 2 ^ e) ∧ pOf h (idx h e n) = n / 2 ^ (dbl h (n / 2 ^ e) + e) := by
  have h64 : n / 2 ^ e < 2 ^ 64 := Nat.lt_of_le_of_lt (Nat.div_le_self _ _) hn
  have := dOf_idx h (dbl h (n / 2 ^ e)) (n / 2 ^ e / 2 ^ dbl h (n / 2 ^ e)) (dbl_lt h64) (by
    by_cases hu : n / 2 ^ e < 2 ^ (h + 1)
    · exact .inl (dbl_small hu h64)
    · exact .inr (dbl_great (by omega) h64).2.1)
  refine ⟨this.1, this.2.trans ?_⟩
  rw [Nat.div_div_eq_div_mul, ← Nat.pow_add, Nat.add_comm]
theorem idx_within (h e n : Nat) (hn : n < 2 ^ 64) : low h e (idx h e n) ≤ n ∧ n < next h e (idx h e n) := by
  obtain ⟨a, b⟩ := idx_parts h e n hn
  unfold low next
  rw [a, b]
  exact ⟨Nat.div_mul_le_self _ _, by rw [Nat.mul_comm]; exact Nat.lt_mul_div_succ n (Nat.two_pow_pos _)⟩
theorem dOf_le (h i : Nat) : dOf h i ≤ i / 2 ^ h := Nat.sub_le _ _
theorem dOf_zero {h i : Nat} (hq : i / 2 ^ h = 0) : dOf h i = 0 := by unfold dOf; rw [hq]
theorem dOf_succ {h i q : Nat} (hq : i / 2 ^ h = q + 1) : dOf h i = q := by unfold dOf; rw [hq]; rfl
theorem next_low (h e i : Nat) : next h e i = low h e (i + 1) := by
  have hpos := Nat.two_pow_pos h
  unfold next low
  by_cases hs : 2 ^ h ∣ i + 1
  · have hq : (i + 1) / 2 ^ h = i / 2 ^ h + 1 := by rw [Nat.succ_div, if_pos hs]
    have hdiv : i + 1 = (i / 2 ^ h + 1) * 2 ^ h := by
      have := Nat.div_mul_cancel hs
      rw [hq] at this; exact this.symm
    by_cases h0 : i / 2 ^ h = 0
    · have e1 : dOf h (i + 1) = 0 := by rw [h0] at hq; exact dOf_succ hq
      have e2 : dOf h i = 0 := dOf_zero h0
      simp only [pOf, e1, e2]; simp
    · obtain ⟨D, hD⟩ : ∃ D, i / 2 ^ h = D + 1 := ⟨i / 2 ^ h - 1, (Nat.succ_pred_eq_of_ne_zero h0).symm⟩
      rw [hD] at hq hdiv
      have e1 : dOf h (i + 1) = D + 1 := dOf_succ hq
      have e2 : dOf h i = D := dOf_succ hD
      simp only [pOf, e1, e2]
      rw [show i - D * 2 ^ h + 1 = 2 * 2 ^ h by rw [Nat.add_mul, Nat.add_mul] at hdiv; omega]
      rw [show i + 1 - (D + 1) * 2 ^ h = 2 ^ h by rw [hdiv, Nat.add_mul (D + 1)]; omega]
      rw [show D + 1 + e = (D + e) + 1 by omega, Nat.pow_succ 2 (D + e)]
      rw [Nat.mul_comm 2 (2 ^ h), Nat.mul_assoc, Nat.mul_comm 2]
  · have hq : (i + 1) / 2 ^ h = i / 2 ^ h := by rw [Nat.succ_div, if_neg hs]; rfl
    have e1 : dOf h (i + 1) = dOf h i := by unfold dOf; rw [hq]
    have e2 : pOf h (i + 1) = pOf h i + 1 := by
      unfold pOf
      rw [e1]
      have : dOf h i * 2 ^ h ≤ i := Nat.le_trans (Nat.mul_le_mul_right _ (dOf_le h i)) (Nat.div_mul_le_self i (2 ^ h))
      omega
    rw [e1, e2]
theorem low_lt_next (h e i : Nat) : low h e i < next h e i := by
  unfold low next
  exact (Nat.mul_lt_mul_right (Nat.two_pow_pos _)).2 (by omega)
theorem low_succ (h e i : Nat) : low h e i < low h e (i + 1) := by rw [← next_low]; exact low_lt_next h e i
theorem low_mono (h e : Nat) : ∀ {i j : Nat}, i ≤ j → low h e i ≤ low h e j := by
  intro i j hij
  induction j with
  | zero => have : i = 0 := by omega
            subst this; exact Nat.le_refl _
  | succ j ih =>
    by_cases hj : i = j + 1
    · subst hj; exact Nat.le_refl _
    · exact Nat.le_trans (ih (by omega)) (Nat.le_of_lt (low_succ h e j))
/-- no number has another bucket -/
theorem idx_unique {h e n i : Nat} (hn : n < 2 ^ 64) (h1 : low h e i ≤ n) (h2 : n < next h e i) : idx h e n = i := by
  obtain ⟨a, b⟩ := idx_within h e n hn
  rw [next_low] at b h2
  rcases Nat.lt_trichotomy (idx h e n) i with hlt | heq | hgt
  · have := low_mono h e (i := idx h e n + 1) (j := i) (by omega); omega
  · exact heq
  · have := low_mono h e (i := i + 1) (j := idx h e n) (by omega); omega
theorem idx_mono {h e n m : Nat} (hm : m < 2 ^ 64) (hnm : n ≤ m) : idx h e n ≤ idx h e m := by
  obtain ⟨a, _⟩ := idx_within h e n (by omega)
  obtain ⟨_, b⟩ := idx_within h e m hm
  rw [next_low] at b
  by_cases hlt : idx h e m < idx h e n
  · have := low_mono h e (i := idx h e m + 1) (j := idx h e n) (by omega); omega
  · omega
theorem low_zero (h e : Nat) : low h e 0 = 0 := by simp [low, pOf]
theorem next_bound (h e i : Nat) : next h e i ≤ 2 * low h e i + 2 ^ e := by
  unfold next low
  by_cases h0 : i = 0
  · subst h0; simp [pOf, dOf]
  · have hp : 1 ≤ pOf h i := by
      unfold pOf
      have := Nat.div_mul_le_self i (2 ^ h)
      have h1 := Nat.two_pow_pos h
      by_cases hq : i / 2 ^ h = 0
      · rw [dOf_zero hq]; omega
      · obtain ⟨k, hk⟩ : ∃ k, i / 2 ^ h = k + 1 := ⟨i / 2 ^ h - 1, (Nat.succ_pred_eq_of_ne_zero hq).symm⟩
        rw [hk, Nat.add_mul] at this
        rw [dOf_succ hk]
        omega
    have : (pOf h i + 1) * 2 ^ (dOf h i + e) ≤ 2 * pOf h i * 2 ^ (dOf h i + e) := Nat.mul_le_mul_right _ (by omega)
    rw [Nat.mul_assoc] at this
    exact Nat.le_trans this (Nat.le_add_right _ _)
theorem idx_small {h e n : Nat} (hn : n < 2 ^ 64) (hh : h ≤ 10) : idx h e n ≤ 67584 := by
  have h64 : n / 2 ^ e < 2 ^ 64 := Nat.lt_of_le_of_lt (Nat.div_le_self _ _) hn
  unfold idx
  have a := dbl_lt (h := h) h64
  have b : dbl h (n / 2 ^ e) ≤ 64 := by unfold dbl; have := bl_le64 h64; omega
  have c : 2 ^ h ≤ 2 ^ 10 := Nat.pow_le_pow_right (by omega) hh
  have d := Nat.mul_le_mul b c
  rw [Nat.pow_succ] at a
  omega
end Go.Proofs.Ytiifhkfkcljoiaa.Sc.SC
