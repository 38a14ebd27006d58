/- a plain pack of facts on division of two words (the school way, halves of 32 bits) -/
namespace TM

/-- the unique quotient -/
theorem quo_of (n v q : Int) (hv : 0 < v) (h0 : 0 ≤ n - q * v) (h1 : n - q * v < v) : n / v = q ∧ n % v = n - q * v := by
  have e : n = (n - q * v) + v * q := by rw [Int.mul_comm v q]; omega
  have hq : n / v = q := by
    rw [e, Int.add_mul_ediv_left _ _ (by omega), Int.ediv_eq_zero_of_lt h0 h1]; omega
  refine ⟨hq, ?_⟩
  have := Int.emod_add_mul_ediv n v
  rw [hq, Int.mul_comm] at this
  omega

/-- the guess less the right digit: N = U*B + d, v = v1*B + v0, U = q*v1 + r: what is left by q -/
theorem left_by (U d v1 v0 q r : Int) (hU : U = q * v1 + r) :
    U * 4294967296 + d - q * (v1 * 4294967296 + v0) = r * 4294967296 + d - q * v0 := by
  subst hU
  rw [Int.mul_add, Int.add_mul, ← Int.mul_assoc]
  omega

/-- the product of two halves -/
theorem half_mul (a b : Int) (ha0 : 0 ≤ a) (ha : a ≤ 4294967297) (hb0 : 0 ≤ b) (hb : b ≤ 4294967295) : 0 ≤ a * b ∧ a * b ≤ 18446744073709551615 := by
  have h1 := Int.mul_nonneg ha0 hb0
  have h2 : a * b ≤ 4294967297 * 4294967295 := Int.le_trans (Int.mul_le_mul_of_nonneg_right ha hb0) (Int.mul_le_mul_of_nonneg_left hb (by omega))
  omega

/-- a product of nonnegative numbers lies below, where the factors do -/
theorem mul_le {a b A B : Int} (ha0 : 0 ≤ a) (ha : a ≤ A) (hb0 : 0 ≤ b) (hb : b ≤ B) : a * b ≤ A * B :=
  Int.le_trans (Int.mul_le_mul_of_nonneg_right ha hb0) (Int.mul_le_mul_of_nonneg_left hb (by omega))

/-- THE GUESS AT ITS BEGINNING. -/
theorem guess_start (U v1 v0 : Int) (hU0 : 0 ≤ U) (hU : U < v1 * 4294967296 + v0) (h1 : 2147483648 ≤ v1) (h1' : v1 ≤ 4294967295) (h0 : 0 ≤ v0) (h0' : v0 ≤ 4294967295) :
    0 ≤ U / v1 ∧ U / v1 ≤ 4294967297 ∧ 0 ≤ U % v1 ∧ U % v1 < v1 ∧ U = (U / v1) * v1 + U % v1 := by
  have e := Int.emod_add_mul_ediv U v1
  have p0 := Int.emod_nonneg U (by omega : v1 ≠ 0)
  have p1 := Int.emod_lt_of_pos U (by omega : 0 < v1)
  have q0 : 0 ≤ U / v1 := Int.ediv_nonneg hU0 (by omega)
  refine ⟨q0, ?_, p0, p1, by rw [Int.mul_comm]; omega⟩
  apply Int.le_of_lt_add_one
  apply Int.ediv_lt_of_lt_mul (by omega)
  -- U < v1*B + v0 <= (B+2) * v1
  omega

/-- THE GUESS IS NEVER TOO SMALL: where the guess leaves less than nothing, the right one is smaller. -/
theorem guess_high {N v q : Int} (hv : 0 < v) (h : N - q * v < 0) : N / v < q := by
  apply Int.ediv_lt_of_lt_mul hv
  omega
theorem guess_low {N v q : Int} (hv : 0 < v) (h : 0 ≤ N - q * v) : q ≤ N / v := by
  apply Int.le_ediv_of_mul_le hv
  omega

/-- What the loop keeps of a guess: U = q*v1 + r; the right digit is no greater. -/
def Guess (U d v1 v0 q r : Int) : Prop :=
  U = q * v1 + r ∧ 0 ≤ q ∧ q ≤ 4294967297 ∧ 0 ≤ r ∧ r ≤ 4294967295 ∧ (U * 4294967296 + d) / (v1 * 4294967296 + v0) ≤ q

section
variable {U d v1 v0 : Int}

theorem guess_init (hU0 : 0 ≤ U) (hU : U < v1 * 4294967296 + v0) (h1 : 2147483648 ≤ v1) (h1' : v1 ≤ 4294967295) (h0 : 0 ≤ v0) (h0' : v0 ≤ 4294967295) (hd : 0 ≤ d) (hd' : d ≤ 4294967295) :
    Guess U d v1 v0 (U / v1) (U - U / v1 * v1) := by
  obtain ⟨a, b, c, e, f⟩ := guess_start U v1 v0 hU0 hU h1 h1' h0 h0'
  have g : U - U / v1 * v1 = U % v1 := by omega
  rw [g]
  refine ⟨f, a, b, c, by omega, ?_⟩
  have l := left_by U d v1 v0 (U / v1 + 1) (U % v1 - v1) (by rw [Int.add_mul]; omega)
  have m := guess_high (N := U * 4294967296 + d) (v := v1 * 4294967296 + v0) (q := U / v1 + 1) (by omega) (by
    rw [l, Int.add_mul]
    have := Int.mul_nonneg a h0
    omega)
  omega

theorem digit_lt (hU : U < v1 * 4294967296 + v0) (h1 : 2147483648 ≤ v1) (h0 : 0 ≤ v0) (hd' : d ≤ 4294967295) :
    (U * 4294967296 + d) / (v1 * 4294967296 + v0) < 4294967296 := by
  apply Int.ediv_lt_of_lt_mul (by omega)
  have : (v1 * 4294967296 + v0 - 1) * 4294967296 ≥ U * 4294967296 := Int.mul_le_mul_of_nonneg_right (by omega) (by omega)
  omega

/-- the products that the loop makes fit into a word -/
theorem guess_fits {q r : Int} (g : Guess U d v1 v0 q r) (h0 : 0 ≤ v0) (h0' : v0 ≤ 4294967295) : 0 ≤ q * v0 ∧ q * v0 ≤ 18446744073709551615 :=
  half_mul q v0 g.2.1 g.2.2.1 h0 h0'

/-- the test said yes: one less is a guess still, or the right digit where the rest is great -/
theorem guess_yes {q r : Int} (g : Guess U d v1 v0 q r) (hU : U < v1 * 4294967296 + v0) (h1 : 2147483648 ≤ v1) (h0 : 0 ≤ v0) (hd : d ≤ 4294967295)
    (hc : 4294967296 ≤ q ∨ 4294967296 * r + d < q * v0) (hd0 : 0 ≤ d) : 1 ≤ q ∧ (U * 4294967296 + d) / (v1 * 4294967296 + v0) ≤ q - 1 ∧ U = (q - 1) * v1 + (r + v1) := by
  obtain ⟨gU, gq, _, _, _, gl⟩ := g
  have hq : (U * 4294967296 + d) / (v1 * 4294967296 + v0) ≤ q - 1 := by
    rcases hc with hc | hc
    · have := digit_lt hU h1 h0 hd
      omega
    · have l := left_by U d v1 v0 q r gU
      have := guess_high (N := U * 4294967296 + d) (v := v1 * 4294967296 + v0) (q := q) (by omega) (by omega)
      omega
  refine ⟨?_, hq, by rw [Int.sub_mul]; omega⟩
  rcases hc with hc | hc
  · omega
  · apply Decidable.byContradiction
    intro h
    have : q = 0 := by omega
    subst this
    omega

theorem guess_again {q r : Int} (g : Guess U d v1 v0 q r) (hU : U < v1 * 4294967296 + v0) (h1 : 2147483648 ≤ v1) (h0 : 0 ≤ v0) (hd : d ≤ 4294967295)
    (hc : 4294967296 ≤ q ∨ 4294967296 * r + d < q * v0) (hd0 : 0 ≤ d) (hr : r + v1 < 4294967296) : Guess U d v1 v0 (q - 1) (r + v1) := by
  obtain ⟨a, b, c⟩ := guess_yes g hU h1 h0 hd hc hd0
  obtain ⟨gU, gq, gq', gr, _, gl⟩ := g
  exact ⟨c, by omega, by omega, by omega, by omega, b⟩

/-- the test said no: this is the digit -/
theorem guess_no {q r : Int} (g : Guess U d v1 v0 q r) (h1 : 2147483648 ≤ v1) (h0 : 0 ≤ v0) (hc : ¬ 4294967296 * r + d < q * v0) :
    q = (U * 4294967296 + d) / (v1 * 4294967296 + v0) := by
  obtain ⟨gU, gq, _, _, _, gl⟩ := g
  have l := left_by U d v1 v0 q r gU
  have := guess_low (N := U * 4294967296 + d) (v := v1 * 4294967296 + v0) (q := q) (by omega) (by omega)
  omega

/-- the rest grew great: one less is the digit -/
theorem guess_great {q r : Int} (g : Guess U d v1 v0 q r) (hU : U < v1 * 4294967296 + v0) (h1 : 2147483648 ≤ v1) (h0 : 0 ≤ v0) (h0' : v0 ≤ 4294967295) (hd : d ≤ 4294967295)
    (hc : 4294967296 ≤ q ∨ 4294967296 * r + d < q * v0) (hd0 : 0 ≤ d) (hr : 4294967296 ≤ r + v1) : q - 1 = (U * 4294967296 + d) / (v1 * 4294967296 + v0) := by
  obtain ⟨a, b, c⟩ := guess_yes g hU h1 h0 hd hc hd0
  obtain ⟨gU, gq, gq', gr, gr', gl⟩ := g
  have l := left_by U d v1 v0 (q - 1) (r + v1) c
  have m := mul_le (a := q - 1) (b := v0) (A := 4294967296) (B := 4294967295) (by omega) (by omega) h0 h0'
  have := guess_low (N := U * 4294967296 + d) (v := v1 * 4294967296 + v0) (q := q - 1) (by omega) (by omega)
  omega

/-- what is left, in the loop's own wrapped words -/
theorem rest_of {q : Int} (hv : 0 < v1 * 4294967296 + v0) (hq : q = (U * 4294967296 + d) / (v1 * 4294967296 + v0)) :
    U * 4294967296 + d - q * (v1 * 4294967296 + v0) = (U * 4294967296 + d) % (v1 * 4294967296 + v0) ∧ 0 ≤ (U * 4294967296 + d) % (v1 * 4294967296 + v0) ∧ (U * 4294967296 + d) % (v1 * 4294967296 + v0) < v1 * 4294967296 + v0 := by
  subst hq
  have := Int.emod_add_mul_ediv (U * 4294967296 + d) (v1 * 4294967296 + v0)
  refine ⟨by rw [Int.mul_comm ((U * 4294967296 + d) / (v1 * 4294967296 + v0))]; omega, Int.emod_nonneg _ (by omega), Int.emod_lt_of_pos _ hv⟩
end

/-- two digits are the quotient -/
theorem two_digits (U d1 d0 v : Int) (hv : 0 < v) :
    (U * 18446744073709551616 + (d1 * 4294967296 + d0)) / v = (U * 4294967296 + d1) / v * 4294967296 + ((U * 4294967296 + d1) % v * 4294967296 + d0) / v ∧
    (U * 18446744073709551616 + (d1 * 4294967296 + d0)) % v = ((U * 4294967296 + d1) % v * 4294967296 + d0) % v := by
  have e1 := Int.emod_add_mul_ediv (U * 4294967296 + d1) v
  have e2 := Int.emod_add_mul_ediv ((U * 4294967296 + d1) % v * 4294967296 + d0) v
  have p0 := Int.emod_nonneg ((U * 4294967296 + d1) % v * 4294967296 + d0) (by omega : v ≠ 0)
  have p1 := Int.emod_lt_of_pos ((U * 4294967296 + d1) % v * 4294967296 + d0) hv
  generalize (U * 4294967296 + d1) % v = r1 at *
  generalize (U * 4294967296 + d1) / v = q1 at *
  generalize (r1 * 4294967296 + d0) / v = q0 at *
  generalize (r1 * 4294967296 + d0) % v = r0 at *
  have hn : U * 18446744073709551616 + (d1 * 4294967296 + d0) - (q1 * 4294967296 + q0) * v = r0 := by
    rw [Int.add_mul, Int.mul_right_comm, Int.mul_comm q1 v, Int.mul_comm q0 v]
    omega
  obtain ⟨a, b⟩ := quo_of (U * 18446744073709551616 + (d1 * 4294967296 + d0)) v (q1 * 4294967296 + q0) hv (by omega) (by omega)
  exact ⟨a, by omega⟩

/-- shifted both: the same quotient, the rest shifted -/
theorem shifted (n y k : Int) (hk : 0 < k) : (n * k) / (y * k) = n / y ∧ (n * k) % (y * k) / k = n % y := by
  refine ⟨Int.mul_ediv_mul_of_pos_left n y hk, ?_⟩
  rw [Int.mul_comm n k, Int.mul_comm y k, Int.mul_emod_mul_of_pos _ _ hk]
  exact Int.mul_ediv_cancel_left _ (by omega)
end TM
