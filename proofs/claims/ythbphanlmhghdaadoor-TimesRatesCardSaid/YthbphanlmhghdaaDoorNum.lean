import Derived.Test.YthbphanlmhghdaaDoorDiv
namespace TM

def maxAt : Int := 2305843009213693952
def maxPer : Int := 1099511627776

theorem maxAt_eq : maxAt = 2305843009213693952 := rfl
theorem maxPer_eq : maxPer = 1099511627776 := rfl

/-- one bit more of a number -/
theorem half_step (a : Int) (n : Nat) : a / 2 ^ n = 2 * (a / 2 ^ (n + 1)) + a / 2 ^ n % 2 := by
  have e : a / 2 ^ (n + 1) = a / 2 ^ n / 2 := by
    rw [Int.pow_succ, Int.ediv_ediv_of_nonneg (Int.le_of_lt (Int.pow_pos (by omega)))]
  rw [e]
  omega

theorem high_zero (a : Int) (h0 : 0 ≤ a) (h : a < 9223372036854775808) : a / 2 ^ 63 = 0 := by
  apply Int.ediv_eq_zero_of_lt h0
  simpa using h

theorem part_nonneg (a : Int) (n : Nat) (h0 : 0 ≤ a) : 0 ≤ a / 2 ^ n := Int.ediv_nonneg h0 (Int.le_of_lt (Int.pow_pos (by omega)))
theorem part_le (a : Int) (n : Nat) (h0 : 0 ≤ a) : a / 2 ^ n ≤ a := by
  have : (1 : Int) ≤ 2 ^ n := Int.pow_pos (by omega)
  exact Int.ediv_le_self _ h0

/-- WHAT 'divided' KEEPS while it goes through the bits of a, from above: n bits are left. -/
def DivR (a b c : Int) (n : Nat) (q r : Int) (much : Bool) : Prop :=
  0 ≤ r ∧ r < c ∧ 0 ≤ q ∧ q ≤ 2305843009213693952 ∧ (much = false → q * c + r = a / 2 ^ n * b) ∧ (much = true → 2305843009213693953 * c ≤ a / 2 ^ n * b)

theorem divR_start (a b c : Int) (h0 : 0 ≤ a) (h : a < 9223372036854775808) (hc : 1 ≤ c) : DivR a b c 63 0 0 false := by
  refine ⟨by omega, by omega, by omega, by omega, fun _ => ?_, fun h => by cases h⟩
  rw [high_zero a h0 h]
  omega

/-- q and r with one bit more, ahead of the inner loop -/
def oneQ (b c q bit : Int) : Int := 2 * q + (if bit = 1 then b / c else 0)
def oneRest (b c r bit : Int) : Int := 2 * r + (if bit = 1 then b % c else 0)

theorem one_rest {a b c : Int} {n : Nat} {q r : Int} {much : Bool} (h : DivR a b c (n + 1) q r much) (bit : Int) (hc : 1 ≤ c) : 0 ≤ oneRest b c r bit ∧ oneRest b c r bit < 3 * c := by
  obtain ⟨h1, h2, _, _, _, _⟩ := h
  have p0 := Int.emod_nonneg b (by omega : c ≠ 0)
  have p1 := Int.emod_lt_of_pos b (by omega : 0 < c)
  unfold oneRest
  split <;> omega

/-- the inner loop takes c off at most twice -/
theorem few {j c r : Int} (hc : 1 ≤ c) (h : 0 ≤ r - j * c) (hr : r < 3 * c) : j ≤ 2 := by
  have : j * c < 3 * c := by omega
  have := Int.lt_of_mul_lt_mul_right this (by omega)
  omega

theorem divR_step {a b c : Int} {n : Nat} {q r : Int} {much : Bool} (h : DivR a b c (n + 1) q r much) (ha : 0 ≤ a) (hb : 0 ≤ b) (hc : 1 ≤ c)
    (bit : Int) (hbit : bit = a / 2 ^ n % 2) (j : Int) (hj : 0 ≤ j) (h0 : 0 ≤ oneRest b c r bit - j * c) (h1 : oneRest b c r bit - j * c < c) :
    (oneQ b c q bit + j ≤ 2305843009213693952 → DivR a b c n (oneQ b c q bit + j) (oneRest b c r bit - j * c) much) ∧
    (2305843009213693952 < oneQ b c q bit + j → DivR a b c n 0 (oneRest b c r bit - j * c) true) := by
  obtain ⟨h2, h3, h4, h5, h6, h7⟩ := h
  have hs := half_step a n
  have e := Int.emod_add_mul_ediv b c
  have q0 : 0 ≤ b / c := Int.ediv_nonneg hb (by omega)
  have hP := part_nonneg a (n + 1) ha
  have hP' := part_nonneg a n ha
  have hle : a / 2 ^ (n + 1) * b ≤ a / 2 ^ n * b := Int.mul_le_mul_of_nonneg_right (by omega) hb
  have key : much = false → (oneQ b c q bit + j) * c + (oneRest b c r bit - j * c) = a / 2 ^ n * b := by
    intro hm
    have h6 := h6 hm
    have hb2 : bit = 0 ∨ bit = 1 := by omega
    rw [hs]
    unfold oneQ oneRest
    rcases hb2 with hb2 | hb2
    · have : a / 2 ^ n % 2 = 0 := by omega
      rw [this, if_neg (by omega), if_neg (by omega), Int.add_mul, Int.add_zero, Int.add_zero, Int.add_zero, Int.mul_assoc, Int.mul_assoc]
      omega
    · have : a / 2 ^ n % 2 = 1 := by omega
      rw [this, if_pos hb2, if_pos hb2, Int.add_mul, Int.add_mul, Int.add_mul, Int.mul_assoc, Int.mul_assoc, Int.mul_comm (b / c) c]
      omega
  have hq : 0 ≤ oneQ b c q bit := by
    unfold oneQ
    split <;> omega
  refine ⟨fun hl => ⟨h0, h1, by omega, hl, key, fun hm => by have := h7 hm; omega⟩, fun hg => ⟨h0, h1, by omega, by omega, (fun hm => by cases hm), (fun _ => ?_)⟩⟩
  cases hm : much
  · have k := key hm
    have : 2305843009213693953 * c ≤ (oneQ b c q bit + j) * c := Int.mul_le_mul_of_nonneg_right (by omega) (by omega)
    omega
  · have := h7 hm
    omega

/-- What 'divided' answers, and 'over': the quotient, or the greatest and one more. -/
def divV (a b c : Int) : Int := if a * b / c ≤ 2305843009213693952 then a * b / c else 2305843009213693953
def divW (a b c : Int) : Bool := if a * b / c ≤ 2305843009213693952 then decide (a * b % c = 0) else false

theorem divR_end {a b c : Int} {q r : Int} {much : Bool} (h : DivR a b c 0 q r much) (hc : 1 ≤ c) :
    (much = false → q = divV a b c ∧ decide (r = 0) = divW a b c) ∧ (much = true → (2305843009213693953 : Int) = divV a b c ∧ false = divW a b c) := by
  obtain ⟨h2, h3, h4, h5, h6, h7⟩ := h
  have e1 : a / 2 ^ 0 = a := by simp
  rw [e1] at h6 h7
  constructor
  · intro hm
    have h6 := h6 hm
    obtain ⟨x, y⟩ := quo_of (a * b) c q (by omega) (by omega) (by omega)
    unfold divV divW
    rw [x, if_pos h5, if_pos h5, y]
    refine ⟨rfl, ?_⟩
    congr 1
    rw [show a * b - q * c = r by omega]
  · intro hm
    have h7 := h7 hm
    have : 2305843009213693953 ≤ a * b / c := Int.le_ediv_of_mul_le (by omega) h7
    unfold divV divW
    rw [if_neg (by omega), if_neg (by omega)]
    exact ⟨rfl, rfl⟩

/-- WHAT 'wide' KEEPS. -/
def WideR (a b : Int) (n : Nat) (h l : Int) : Prop := 0 ≤ h ∧ 0 ≤ l ∧ l < 1152921504606846976 ∧ h * 1152921504606846976 + l = a / 2 ^ n * b

theorem wideR_start (a b : Int) (h0 : 0 ≤ a) (h : a < 9223372036854775808) : WideR a b 63 0 0 := by
  refine ⟨by omega, by omega, by omega, ?_⟩
  rw [high_zero a h0 h]
  omega

theorem wideR_high {a b : Int} {n : Nat} {h l : Int} (r : WideR a b n h l) (ha : 0 ≤ a) (ha' : a ≤ 1099511627776) (hb : 0 ≤ b) (hb' : b ≤ 2305843009213693952) : h ≤ 2199023255552 := by
  obtain ⟨h1, h2, h3, h4⟩ := r
  have := mul_le (part_nonneg a n ha) (Int.le_trans (part_le a n ha) ha') hb hb'
  omega

def oneLow (b l bit : Int) : Int := 2 * l + (if bit = 1 then b else 0)

theorem one_low {a b : Int} {n : Nat} {h l : Int} (r : WideR a b (n + 1) h l) (bit : Int) (hb : 0 ≤ b) (hb' : b ≤ 2305843009213693952) : 0 ≤ oneLow b l bit ∧ oneLow b l bit < 4611686018427387904 := by
  obtain ⟨h1, h2, h3, h4⟩ := r
  unfold oneLow
  split <;> omega

theorem wideR_step {a b : Int} {n : Nat} {h l : Int} (r : WideR a b (n + 1) h l) (bit : Int) (hbit : bit = a / 2 ^ n % 2) (j : Int) (hj : 0 ≤ j)
    (h0 : 0 ≤ oneLow b l bit - j * 1152921504606846976) (h1 : oneLow b l bit - j * 1152921504606846976 < 1152921504606846976) :
    WideR a b n (2 * h + j) (oneLow b l bit - j * 1152921504606846976) := by
  obtain ⟨r1, r2, r3, r4⟩ := r
  refine ⟨by omega, h0, h1, ?_⟩
  have hs := half_step a n
  rw [hs]
  have hb2 : bit = 0 ∨ bit = 1 := by omega
  unfold oneLow
  rcases hb2 with hb2 | hb2
  · have : a / 2 ^ n % 2 = 0 := by omega
    rw [this, if_neg (by omega), Int.add_zero, Int.add_zero, Int.mul_assoc]
    omega
  · have : a / 2 ^ n % 2 = 1 := by omega
    rw [this, if_pos hb2, Int.add_mul (2 * (a / 2 ^ (n + 1))) 1 b, Int.mul_assoc 2, Int.one_mul]
    omega

theorem wideR_end {a b h l : Int} (r : WideR a b 0 h l) : h = a * b / 1152921504606846976 ∧ l = a * b % 1152921504606846976 := by
  obtain ⟨r1, r2, r3, r4⟩ := r
  have e1 : a / 2 ^ 0 = a := by simp
  rw [e1] at r4
  omega

/-- which of two is greater -/
def cmpI (x y : Int) : Int := if x < y then -1 else if x = y then 0 else 1

theorem cmpI_words (x y K : Int) (hK : K = 1152921504606846976 ∨ K = 18446744073709551616) :
    cmpI x y = if x / K < y / K then -1 else if x / K = y / K then cmpI (x % K) (y % K) else 1 := by
  unfold cmpI
  rcases hK with rfl | rfl <;> (repeat' split) <;> omega

theorem cmpI_swap (x y : Int) : cmpI y x = - cmpI x y := by unfold cmpI; repeat' split <;> omega
theorem cmpI_vals (x y : Int) : cmpI x y = -1 ∧ x < y ∨ cmpI x y = 0 ∧ x = y ∨ cmpI x y = 1 ∧ y < x := by unfold cmpI; repeat' split <;> omega

end TM
