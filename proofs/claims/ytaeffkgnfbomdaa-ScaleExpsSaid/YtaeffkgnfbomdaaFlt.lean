/- PLAIN MATHEMATICS of floats by their bits: how two stand to each other. No program. -/
import Ieee.Arith
namespace Go.Proofs.Ytaeffkgnfbomdaa.FL
open Ieee

/-- the significand and the power of a finite float of 0 or more, by its bits -/
def mant (b : Nat) : Nat := if b < 4503599627370496 then b else 4503599627370496 + b % 4503599627370496
def pw (b : Nat) : Nat := if b < 4503599627370496 then 1 else b / 4503599627370496

theorem read_fin {b : Nat} (h : b < 9218868437227405312) : double.read b = .number false (mant b) (-1074 + ((pw b - 1 : Nat) : Int)) := by
  have e1 : b / 9223372036854775808 % 2 = 0 := by omega
  have e2 : b % 9223372036854775808 = b := by omega
  simp only [Format.read, double, Format.signWeight, Format.binade, Format.infRung, Format.leastPlace, mant, pw]
  simp only [show (2 : Nat) ^ (11 + 52) = 9223372036854775808 from rfl, show (2 : Nat) ^ 52 = 4503599627370496 from rfl, show ((2 : Nat) ^ 11 - 1) * 4503599627370496 = 9218868437227405312 from rfl, e1, e2]
  by_cases hb : b < 4503599627370496
  · simp [hb]
  · simp [hb, h]
theorem read_neg {b : Nat} (h : b < 9218868437227405312) : double.read (9223372036854775808 + b) = .number true (mant b) (-1074 + ((pw b - 1 : Nat) : Int)) := by
  have e1 : (9223372036854775808 + b) / 9223372036854775808 % 2 = 1 := by omega
  have e2 : (9223372036854775808 + b) % 9223372036854775808 = b := by omega
  simp only [Format.read, double, Format.signWeight, Format.binade, Format.infRung, Format.leastPlace, mant, pw]
  simp only [show (2 : Nat) ^ (11 + 52) = 9223372036854775808 from rfl, show (2 : Nat) ^ 52 = 4503599627370496 from rfl, show ((2 : Nat) ^ 11 - 1) * 4503599627370496 = 9218868437227405312 from rfl, e1, e2]
  by_cases hb : b < 4503599627370496
  · simp [hb]
  · simp [hb, h]
theorem read_inf (s : Bool) : double.read ((if s then 9223372036854775808 else 0) + 9218868437227405312) = .infinity s := by cases s <;> decide +kernel
theorem read_nan {b : Nat} (h : 9218868437227405312 < b % 9223372036854775808) : (double.read b).isNaN = true := by
  simp only [Format.read, double, Format.signWeight, Format.binade, Format.infRung, Format.leastPlace]
  simp only [show (2 : Nat) ^ (11 + 52) = 9223372036854775808 from rfl, show (2 : Nat) ^ 52 = 4503599627370496 from rfl, show ((2 : Nat) ^ 11 - 1) * 4503599627370496 = 9218868437227405312 from rfl]
  rw [if_neg (by omega), if_neg (by omega), if_neg (by omega)]
  rfl

theorem mant_lt {b : Nat} : mant b < 9007199254740992 := by unfold mant; split <;> omega
theorem pw_pos (b : Nat) : 1 ≤ pw b := by unfold pw; split <;> omega
theorem mant_norm {b : Nat} (h : 1 < pw b) : 4503599627370496 ≤ mant b := by unfold pw at h; unfold mant; split at h <;> (split <;> omega)
/-- a float of lesser bits: a lesser power, or the same and a lesser significand -/
theorem lex {b c : Nat} (h : b < c) : pw b < pw c ∨ pw b = pw c ∧ mant b < mant c := by
  unfold pw mant; split <;> split <;> omega

theorem order_lt {b c : Nat} (h : b < c) (hc : c < 9218868437227405312) : double.order b c = some .lt := by
  unfold Format.order
  rw [read_fin (by omega), read_fin hc]
  simp only [Datum.order]
  congr 1
  have hb := pw_pos b
  have hc1 := pw_pos c
  rw [Int.compare_eq_lt]
  rcases lex h with hp | ⟨hp, hm⟩
  · rw [Int.min_eq_left (by omega)]
    rw [show (-1074 + ((pw b - 1 : Nat) : Int) - (-1074 + ((pw b - 1 : Nat) : Int))).toNat = 0 by omega]
    rw [show (-1074 + ((pw c - 1 : Nat) : Int) - (-1074 + ((pw b - 1 : Nat) : Int))).toNat = (pw c - pw b - 1) + 1 by omega]
    simp only [signed]
    simp only [Bool.false_eq_true, if_false]
    have h1 := mant_lt (b := b)
    have h2 := mant_norm (b := c) (by omega)
    have h3 := Nat.two_pow_pos (pw c - pw b - 1)
    rw [Nat.shiftLeft_eq, Nat.shiftLeft_eq, Nat.pow_succ]
    have h4 : mant c * 1 ≤ mant c * 2 ^ (pw c - pw b - 1) := Nat.mul_le_mul_left _ h3
    have h5 : mant c * (2 ^ (pw c - pw b - 1) * 2) = mant c * 2 ^ (pw c - pw b - 1) * 2 := by rw [Nat.mul_assoc]
    omega
  · rw [hp, Int.min_self]
    rw [show (-1074 + ((pw c - 1 : Nat) : Int) - (-1074 + ((pw c - 1 : Nat) : Int))).toNat = 0 by omega]
    simp only [signed]
    simp only [Bool.false_eq_true, if_false, Nat.shiftLeft_zero]
    omega
theorem order_eq {b : Nat} (hb : b < 9218868437227405312) : double.order b b = some .eq := by
  unfold Format.order
  rw [read_fin hb]
  simp [Datum.order]
theorem order_gt {b c : Nat} (h : c < b) (hb : b < 9218868437227405312) : double.order b c = some .gt := by
  have h1 := order_lt h hb
  unfold Format.order at *
  rw [read_fin (b := c) (by omega), read_fin hb] at h1
  rw [read_fin (b := c) (by omega), read_fin hb]
  simp only [Datum.order] at *
  simp only [Option.some.injEq] at *
  rw [Int.min_comm]
  rw [Int.compare_eq_lt] at h1
  exact Int.compare_eq_gt.2 h1
theorem order_eq_neg {b : Nat} (hb : b < 9218868437227405312) : double.order (9223372036854775808 + b) (9223372036854775808 + b) = some .eq := by
  unfold Format.order
  rw [read_neg hb]
  simp [Datum.order]
theorem order_inf (s : Bool) : double.order ((if s then 9223372036854775808 else 0) + 9218868437227405312) ((if s then 9223372036854775808 else 0) + 9218868437227405312) = some .eq := by cases s <;> decide +kernel
theorem order_nan {b c : Nat} (h : 9218868437227405312 < b % 9223372036854775808) : double.order b c = none := by
  have := read_nan h
  unfold Format.order
  cases hd : double.read b with
  | nan s f => rfl
  | number s m e => rw [hd] at this; cases this
  | infinity s => rw [hd] at this; cases this
theorem order_inf_max : double.order 9218868437227405312 9218868437227405311 = some .gt := by decide +kernel
theorem mant_pos {b : Nat} (h : 0 < b) : 0 < mant b := by unfold mant; split <;> omega
theorem order_neg0 {b : Nat} (h0 : 0 < b) (hb : b < 9218868437227405312) : double.order (9223372036854775808 + b) 0 = some .lt := by
  have hm := mant_pos h0
  unfold Format.order
  rw [read_neg hb, read_fin (b := 0) (by omega)]
  have hz : mant 0 = 0 := by decide
  simp only [Datum.order, hz]
  congr 1
  rw [Int.compare_eq_lt]
  generalize (_ : Int).toNat = k
  simp only [signed, if_true]
  simp only [Bool.false_eq_true, if_false, Nat.zero_shiftLeft]
  have := Nat.two_pow_pos k
  have h2 : 0 < mant b <<< k := by rw [Nat.shiftLeft_eq]; exact Nat.mul_pos hm this
  omega
theorem order_negzero : double.order 9223372036854775808 0 = some .eq := by decide +kernel
end Go.Proofs.Ytaeffkgnfbomdaa.FL
