/- PLAIN MATHEMATICS of floats by their bits: the order of all of them, below 0 too. No program. -/
import Ieee.Arith
namespace Go.Proofs.Ytcocegneegjcpaa.GM
open Ieee

/-- the significand and the power of a finite float of 0 or more, by its bits -/
def mant (b : Nat) : Nat := if b < 4503599627370496 then b else 4503599627370496 + b % 4503599627370496
def pw (b : Nat) : Nat := if b < 4503599627370496 then 1 else b / 4503599627370496

theorem read_fin {b : Nat} (h : b < 9218868437227405312) : double.read b = .number false (mant b) (-1074 + ((pw b - 1 : Nat) : Int)) := by
  have e1 : b / 9223372036854775808 % 2 = 0 := by omega
  have e2 : b % 9223372036854775808 = b := by omega
  simp only [Format.read, double, Format.signWeight, Format.binade, Format.infRung, Format.leastPlace, mant, pw]
  simp only [show (2 : Nat) ^ (11 + 52) = 9223372036854775808 from rfl, show (2 : Nat) ^ 52 = 4503599627370496 from rfl, show ((2 : Nat) ^ 11 - 1) * 4503599627370496 = 9218868437227405312 from rfl, e1, e2]
  by_cases hb : b < 4503599627370496
  · simp [hb]
  · simp [hb, h]
theorem read_neg {b : Nat} (h : b < 9218868437227405312) : double.read (9223372036854775808 + b) = .number true (mant b) (-1074 + ((pw b - 1 : Nat) : Int)) := by
  have e1 : (9223372036854775808 + b) / 9223372036854775808 % 2 = 1 := by omega
  have e2 : (9223372036854775808 + b) % 9223372036854775808 = b := by omega
  simp only [Format.read, double, Format.signWeight, Format.binade, Format.infRung, Format.leastPlace, mant, pw]
  simp only [show (2 : Nat) ^ (11 + 52) = 9223372036854775808 from rfl, show (2 : Nat) ^ 52 = 4503599627370496 from rfl, show ((2 : Nat) ^ 11 - 1) * 4503599627370496 = 9218868437227405312 from rfl, e1, e2]
  by_cases hb : b < 4503599627370496
  · simp [hb]
  · simp [hb, h]
theorem read_inf : double.read 9218868437227405312 = .infinity false := by decide +kernel
theorem read_ninf : double.read 18442240474082181120 = .infinity true := by decide +kernel
theorem read_nan {b : Nat} (h : 9218868437227405312 < b % 9223372036854775808) : (double.read b).isNaN = true := by
  simp only [Format.read, double, Format.signWeight, Format.binade, Format.infRung, Format.leastPlace]
  simp only [show (2 : Nat) ^ (11 + 52) = 9223372036854775808 from rfl, show (2 : Nat) ^ 52 = 4503599627370496 from rfl, show ((2 : Nat) ^ 11 - 1) * 4503599627370496 = 9218868437227405312 from rfl]
  rw [if_neg (by omega), if_neg (by omega), if_neg (by omega)]
  rfl

theorem mant_lt {b : Nat} : mant b < 9007199254740992 := by unfold mant; split <;> omega
theorem pw_pos (b : Nat) : 1 ≤ pw b := by unfold pw; split <;> omega
theorem mant_norm {b : Nat} (h : 1 < pw b) : 4503599627370496 ≤ mant b := by unfold pw at h; unfold mant; split at h <;> (split <;> omega)
theorem mant_pos {b : Nat} (h : 0 < b) : 0 < mant b := by unfold mant; split <;> omega
/-- a float of lesser bits: a lesser power, or the same and a lesser significand -/
theorem lex {b c : Nat} (h : b < c) : pw b < pw c ∨ pw b = pw c ∧ mant b < mant c := by
  unfold pw mant; split <;> split <;> omega
/-- the digits of two, moved to one place -/
def up (b c : Nat) : Nat := (-1074 + ((pw b - 1 : Nat) : Int) - min (-1074 + ((pw b - 1 : Nat) : Int)) (-1074 + ((pw c - 1 : Nat) : Int))).toNat
theorem up_lt {b c : Nat} (h : b < c) : mant b <<< up b c < mant c <<< up c b := by
  have hb := pw_pos b
  have hc1 := pw_pos c
  unfold up
  rcases lex h with hp | ⟨hp, hm⟩
  · rw [Int.min_eq_left (by omega), Int.min_eq_right (by omega)]
    rw [show (-1074 + ((pw b - 1 : Nat) : Int) - (-1074 + ((pw b - 1 : Nat) : Int))).toNat = 0 by omega]
    rw [show (-1074 + ((pw c - 1 : Nat) : Int) - (-1074 + ((pw b - 1 : Nat) : Int))).toNat = (pw c - pw b - 1) + 1 by omega]
    have h1 := mant_lt (b := b)
    have h2 := mant_norm (b := c) (by omega)
    have h3 := Nat.two_pow_pos (pw c - pw b - 1)
    rw [Nat.shiftLeft_eq, Nat.shiftLeft_eq, Nat.pow_succ]
    have h4 : mant c * 1 ≤ mant c * 2 ^ (pw c - pw b - 1) := Nat.mul_le_mul_left _ h3
    have h5 : mant c * (2 ^ (pw c - pw b - 1) * 2) = mant c * 2 ^ (pw c - pw b - 1) * 2 := by rw [Nat.mul_assoc]
    omega
  · rw [hp, Int.min_self]
    rw [show (-1074 + ((pw c - 1 : Nat) : Int) - (-1074 + ((pw c - 1 : Nat) : Int))).toNat = 0 by omega]
    simp only [Nat.shiftLeft_zero]
    omega
/-- a float as a whole number that stands as it stands -/
def sv (b : Nat) : Int := if b < 9223372036854775808 then (b : Int) else -((b - 9223372036854775808 : Nat) : Int)
def nan (b : Nat) : Bool := decide (9218868437227405312 < b % 9223372036854775808)
theorem shl_pos {m k : Nat} (h : 0 < m) : 0 < m <<< k := by
  rw [Nat.shiftLeft_eq]
  exact Nat.mul_pos h (Nat.two_pow_pos k)
theorem up_cmp (b c : Nat) : (b < c ∧ mant b <<< up b c < mant c <<< up c b) ∨ (b = c ∧ mant b <<< up b c = mant c <<< up c b) ∨ (c < b ∧ mant c <<< up c b < mant b <<< up b c) := by
  rcases Nat.lt_trichotomy b c with h | h | h
  · exact .inl ⟨h, up_lt h⟩
  · subst h; exact .inr (.inl ⟨rfl, rfl⟩)
  · exact .inr (.inr ⟨h, up_lt h⟩)
theorem cmp_of {a b c d : Int} (h1 : a < b ↔ c < d) (h2 : a = b ↔ c = d) : compare a b = compare c d := by
  rcases Int.lt_trichotomy a b with h | h | h
  · rw [Int.compare_eq_lt.2 h, Int.compare_eq_lt.2 (h1.1 h)]
  · rw [Int.compare_eq_eq.2 h, Int.compare_eq_eq.2 (h2.1 h)]
  · have h3 : d < c := by
      rcases Int.lt_trichotomy c d with k | k | k
      · have := h1.2 k; omega
      · have := h2.2 k; omega
      · exact k
    rw [Int.compare_eq_gt.2 h, Int.compare_eq_gt.2 h3]
theorem fin_order (s t : Bool) {b c : Nat} : Datum.order (.number s (mant b) (-1074 + ((pw b - 1 : Nat) : Int))) (.number t (mant c) (-1074 + ((pw c - 1 : Nat) : Int))) = some (compare (if s then -(b : Int) else b) (if t then -(c : Int) else c)) := by
  have e1 : (-1074 + ((pw b - 1 : Nat) : Int) - min (-1074 + ((pw b - 1 : Nat) : Int)) (-1074 + ((pw c - 1 : Nat) : Int))).toNat = up b c := rfl
  have e2 : (-1074 + ((pw c - 1 : Nat) : Int) - min (-1074 + ((pw b - 1 : Nat) : Int)) (-1074 + ((pw c - 1 : Nat) : Int))).toNat = up c b := by unfold up; rw [Int.min_comm]
  simp only [Datum.order, e1, e2]
  congr 1
  have hm0 : mant 0 = 0 := by decide
  have hb0 : b = 0 → mant b <<< up b c = 0 := fun h => by subst h; rw [hm0]; simp
  have hc0 : c = 0 → mant c <<< up c b = 0 := fun h => by subst h; rw [hm0]; simp
  have hb1 : 0 < b → 0 < mant b <<< up b c := fun h => shl_pos (mant_pos h)
  have hc1 : 0 < c → 0 < mant c <<< up c b := fun h => shl_pos (mant_pos h)
  have hcmp := up_cmp b c
  unfold signed
  generalize mant b <<< up b c = u at *
  generalize mant c <<< up c b = v at *
  cases s <;> cases t <;> simp only [if_true, Bool.false_eq_true, if_false] <;> refine cmp_of ?_ ?_ <;> omega
theorem read_not {b : Nat} (h : nan b = false) (hb : b < 18446744073709551616) :
    (∃ s, double.read b = .number s (mant (b % 9223372036854775808)) (-1074 + ((pw (b % 9223372036854775808) - 1 : Nat) : Int)) ∧ sv b = (if s then -((b % 9223372036854775808 : Nat) : Int) else ((b % 9223372036854775808 : Nat) : Int)) ∧ b % 9223372036854775808 < 9218868437227405312)
    ∨ (∃ s, double.read b = .infinity s ∧ sv b = (if s then -9218868437227405312 else 9218868437227405312)) := by
  have h' : b % 9223372036854775808 ≤ 9218868437227405312 := by simpa [nan] using h
  by_cases hf : b % 9223372036854775808 < 9218868437227405312
  · left
    by_cases hs : b < 9223372036854775808
    · refine ⟨false, ?_, ?_, hf⟩
      · rw [Nat.mod_eq_of_lt hs] at hf ⊢
        exact read_fin hf
      · unfold sv
        rw [if_pos hs, Nat.mod_eq_of_lt hs, if_neg (by simp)]
    · have e : b % 9223372036854775808 = b - 9223372036854775808 := by omega
      refine ⟨true, ?_, ?_, hf⟩
      · have := read_neg hf
        rwa [show 9223372036854775808 + b % 9223372036854775808 = b by omega] at this
      · unfold sv
        rw [if_neg hs, e, if_pos rfl]
  · right
    by_cases hs : b < 9223372036854775808
    · have e : b = 9218868437227405312 := by omega
      refine ⟨false, by rw [e]; exact read_inf, ?_⟩
      unfold sv
      rw [if_pos hs, if_neg (by simp)]
      omega
    · have e : b = 18442240474082181120 := by omega
      refine ⟨true, by rw [e]; exact read_ninf, ?_⟩
      unfold sv
      rw [if_neg hs, if_pos rfl]
      omega
/-- the order of two that are numbers -/
theorem order_num {b c : Nat} (hb : nan b = false) (hc : nan c = false) (lb : b < 18446744073709551616) (lc : c < 18446744073709551616) : double.order b c = some (compare (sv b) (sv c)) := by
  unfold Format.order
  rcases read_not hb lb with ⟨s, hr, hv, hl⟩ | ⟨s, hr, hv⟩ <;> rcases read_not hc lc with ⟨t, kr, kv, kl⟩ | ⟨t, kr, kv⟩
  · rw [hr, kr, hv, kv]
    exact fin_order s t
  · rw [hr, kr, hv, kv]
    simp only [Datum.order]
    congr 1
    cases t <;> cases s <;> simp only [if_true, Bool.false_eq_true, if_false] <;> first | exact (Int.compare_eq_lt.2 (by omega)).symm | exact (Int.compare_eq_gt.2 (by omega)).symm
  · rw [hr, kr, hv, kv]
    simp only [Datum.order]
    congr 1
    cases t <;> cases s <;> simp only [if_true, Bool.false_eq_true, if_false] <;> first | exact (Int.compare_eq_lt.2 (by omega)).symm | exact (Int.compare_eq_gt.2 (by omega)).symm
  · rw [hr, kr, hv, kv]
    simp only [Datum.order]
    congr 1
    cases t <;> cases s <;> decide
theorem order_nan1 {b c : Nat} (h : nan b = true) : double.order b c = none := by
  have := read_nan (b := b) (by simpa [nan] using h)
  unfold Format.order
  cases hd : double.read b with
  | nan s f => rfl
  | number s m e => rw [hd] at this; cases this
  | infinity s => rw [hd] at this; cases this
theorem order_nan2 {b c : Nat} (h : nan c = true) : double.order b c = none := by
  have := read_nan (b := c) (by simpa [nan] using h)
  unfold Format.order
  cases hd : double.read c with
  | nan s f => cases double.read b <;> rfl
  | number s m e => rw [hd] at this; cases this
  | infinity s => rw [hd] at this; cases this

/-- where a float stands: -0 below 0 -/
def rank (b : Nat) : Nat := if b < 9223372036854775808 then b + 9223372036854775808 else 18446744073709551615 - b
def above (a b : Nat) : Bool := !nan a && (nan b || decide (rank b < rank a))
/-- the bits of a float, one pattern of what is no number -/
def bitsOf (b : Nat) : Nat := if nan b then 9221120237041090561 else b
section
variable {a b c : Nat}
theorem self_eq (lb : b < 18446744073709551616) : (double.order b b == some .eq) = !nan b := by
  cases h : nan b with
  | true => rw [order_nan1 h]; rfl
  | false => rw [order_num h h lb lb, Int.compare_eq_eq.2 rfl]; rfl
theorem self_ne (lb : b < 18446744073709551616) : (double.order b b != some .eq) = nan b := by
  have := self_eq lb
  simp only [bne, this]
  simp
theorem zero_eq (lb : b < 18446744073709551616) : (double.order b 0 == some .eq) = decide (b = 0 ∨ b = 9223372036854775808) := by
  cases h : nan b with
  | true =>
    rw [order_nan1 h]
    have h' : 9218868437227405312 < b % 9223372036854775808 := by simpa [nan] using h
    have : ¬ (b = 0 ∨ b = 9223372036854775808) := by omega
    simp [this]
  | false =>
    rw [order_num h (by decide) lb (by omega)]
    have h' : b % 9223372036854775808 ≤ 9218868437227405312 := by simpa [nan] using h
    have z : sv 0 = 0 := by decide
    rw [z]
    by_cases e : b = 0 ∨ b = 9223372036854775808
    · have : sv b = 0 := by rcases e with rfl | rfl <;> decide
      rw [this]
      simp [e]
    · have : ¬ sv b = 0 := by unfold sv; split <;> omega
      have h2 : compare (sv b) 0 ≠ .eq := fun k => this (Int.compare_eq_eq.1 k)
      simp [e]
      simpa using h2
/-- the code's way: not a number; two noughts; greater -/
theorem above_nan (h : nan b = true) : above a b = !nan a := by simp [above, h]
theorem above_zero (ha : a = 0 ∨ a = 9223372036854775808) (hb : b = 0 ∨ b = 9223372036854775808) : above a b = (decide (a < 9223372036854775808) && decide (9223372036854775808 ≤ b)) := by
  rcases ha with rfl | rfl <;> rcases hb with rfl | rfl <;> decide
theorem above_gt (la : a < 18446744073709551616) (lb : b < 18446744073709551616) (h : nan b = false) (hz : ¬ ((a = 0 ∨ a = 9223372036854775808) ∧ (b = 0 ∨ b = 9223372036854775808))) : (double.order a b == some .gt) = above a b := by
  cases ha : nan a with
  | true => rw [order_nan1 ha]; simp [above, ha]
  | false =>
    rw [order_num ha h la lb]
    have key : sv b < sv a ↔ rank b < rank a := by unfold sv rank; split <;> split <;> omega
    by_cases e : sv b < sv a
    · rw [Int.compare_eq_gt.2 e]
      simp [above, ha, h, key.1 e]
    · have h2 : compare (sv a) (sv b) ≠ .gt := fun k => e (Int.compare_eq_gt.1 k)
      have h3 : ¬ rank b < rank a := fun k => e (key.2 k)
      simp [above, ha, h, h3]
      simpa using h2
/-- above is a whole order of what are numbers -/
theorem rank_inj (la : a < 18446744073709551616) (lb : b < 18446744073709551616) (h : rank a = rank b) : a = b := by unfold rank at h; split at h <;> split at h <;> omega
theorem nan_bits (b : Nat) : nan (bitsOf b) = nan b := by
  unfold bitsOf
  split
  · rename_i h; rw [h]; decide
  · rfl
theorem bits_lt (lb : b < 18446744073709551616) : bitsOf b < 18446744073709551616 := by unfold bitsOf; split <;> omega
theorem bits_bits (b : Nat) : bitsOf (bitsOf b) = bitsOf b := by
  unfold bitsOf
  split
  · decide
  · rfl
theorem bits_num (h : nan b = false) : bitsOf b = b := by unfold bitsOf; rw [h]; rfl
theorem above_bits1 (a b : Nat) : above (bitsOf a) b = above a b := by
  unfold above
  rw [nan_bits]
  cases h : nan a with
  | true => rfl
  | false => rw [bits_num h]
theorem above_bits2 (a b : Nat) : above a (bitsOf b) = above a b := by
  unfold above
  rw [nan_bits]
  cases h : nan b with
  | true => rfl
  | false => rw [bits_num h]
end
end Go.Proofs.Ytcocegneegjcpaa.GM
