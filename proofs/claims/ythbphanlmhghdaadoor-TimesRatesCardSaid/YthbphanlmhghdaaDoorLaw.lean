import Derived.Test.YthbphanlmhghdaaDoorNum
namespace TM

/-! ### what rates bring -/
def right (N P : Int) : Prop := 0 ≤ N ∧ N ≤ 1099511627776 ∧ 1 ≤ P ∧ P ≤ 2305843009213693952
instance (N P : Int) : Decidable (right N P) := by unfold right; infer_instance
def costQ (N P n : Int) : Int := n * P / N + (if n * P % N = 0 then 0 else 1)
def accOut (N P d : Int) : Int × Int :=
  if ¬ right N P then (0, 21) else if d < 0 ∨ 2305843009213693952 < d then (0, 2) else if 2305843009213693952 < N * d / P then (0, 3) else (N * d / P, 0)
def costOut (N P n : Int) : Int × Int :=
  if ¬ right N P then (0, 21) else if n < 0 ∨ 2305843009213693952 < n then (0, 2) else if n = 0 then (0, 0) else if N = 0 then (0, 3)
  else if 2305843009213693952 < costQ N P n then (0, 3) else (costQ N P n, 0)

theorem accOut_rate {N P d : Int} (h : ¬ right N P) : accOut N P d = (0, 21) := by unfold accOut; rw [if_pos h]
theorem accOut_span {N P d : Int} (h : right N P) (h2 : d < 0 ∨ 2305843009213693952 < d) : accOut N P d = (0, 2) := by
  unfold accOut; rw [if_neg (by simpa using h), if_pos h2]
theorem accOut_many {N P d : Int} (h : right N P) (h2 : ¬ (d < 0 ∨ 2305843009213693952 < d)) (h3 : 2305843009213693952 < N * d / P) : accOut N P d = (0, 3) := by
  unfold accOut; rw [if_neg (by simpa using h), if_neg h2, if_pos h3]
theorem accOut_ok {N P d : Int} (h : right N P) (h2 : ¬ (d < 0 ∨ 2305843009213693952 < d)) (h3 : ¬ 2305843009213693952 < N * d / P) : accOut N P d = (N * d / P, 0) := by
  unfold accOut; rw [if_neg (by simpa using h), if_neg h2, if_neg h3]

/-- one of four -/
theorem accOut_cases (N P d : Int) : (¬ right N P ∧ accOut N P d = (0, 21)) ∨ (right N P ∧ (d < 0 ∨ 2305843009213693952 < d) ∧ accOut N P d = (0, 2)) ∨
    (right N P ∧ 0 ≤ d ∧ d ≤ 2305843009213693952 ∧ 2305843009213693952 < N * d / P ∧ accOut N P d = (0, 3)) ∨
    (right N P ∧ 0 ≤ d ∧ d ≤ 2305843009213693952 ∧ 0 ≤ N * d / P ∧ N * d / P ≤ 2305843009213693952 ∧ accOut N P d = (N * d / P, 0)) := by
  by_cases h : right N P
  · by_cases h2 : d < 0 ∨ 2305843009213693952 < d
    · exact .inr (.inl ⟨h, h2, accOut_span h h2⟩)
    · by_cases h3 : 2305843009213693952 < N * d / P
      · exact .inr (.inr (.inl ⟨h, by omega, by omega, h3, accOut_many h h2 h3⟩))
      · have : 0 ≤ N * d / P := Int.ediv_nonneg (Int.mul_nonneg h.1 (by omega)) (by have := h.2.2.1; omega)
        exact .inr (.inr (.inr ⟨h, by omega, by omega, this, by omega, accOut_ok h h2 h3⟩))
  · exact .inl ⟨h, accOut_rate h⟩

theorem costOut_cases (N P n : Int) : (¬ right N P ∧ costOut N P n = (0, 21)) ∨ (right N P ∧ (n < 0 ∨ 2305843009213693952 < n) ∧ costOut N P n = (0, 2)) ∨
    (right N P ∧ n = 0 ∧ costOut N P n = (0, 0)) ∨ (right N P ∧ 1 ≤ n ∧ n ≤ 2305843009213693952 ∧ N = 0 ∧ costOut N P n = (0, 3)) ∨
    (right N P ∧ 1 ≤ n ∧ n ≤ 2305843009213693952 ∧ 1 ≤ N ∧ 2305843009213693952 < costQ N P n ∧ costOut N P n = (0, 3)) ∨
    (right N P ∧ 1 ≤ n ∧ n ≤ 2305843009213693952 ∧ 1 ≤ N ∧ costQ N P n ≤ 2305843009213693952 ∧ costOut N P n = (costQ N P n, 0)) := by
  unfold costOut
  by_cases h : right N P
  · rw [if_neg (by simpa using h)]
    by_cases h2 : n < 0 ∨ 2305843009213693952 < n
    · rw [if_pos h2]; exact .inr (.inl ⟨h, h2, rfl⟩)
    · rw [if_neg h2]
      by_cases h3 : n = 0
      · rw [if_pos h3]; exact .inr (.inr (.inl ⟨h, h3, rfl⟩))
      · rw [if_neg h3]
        by_cases h4 : N = 0
        · rw [if_pos h4]; exact .inr (.inr (.inr (.inl ⟨h, by omega, by omega, h4, rfl⟩)))
        · rw [if_neg h4]
          have := h.1
          by_cases h5 : 2305843009213693952 < costQ N P n
          · rw [if_pos h5]; exact .inr (.inr (.inr (.inr (.inl ⟨h, by omega, by omega, by omega, h5, rfl⟩))))
          · rw [if_neg h5]; exact .inr (.inr (.inr (.inr (.inr ⟨h, by omega, by omega, by omega, by omega, rfl⟩))))
  · rw [if_pos h]; exact .inl ⟨h, rfl⟩

/-! ### adjoint -/
theorem acc_ge (N P d n : Int) (hP : 1 ≤ P) : n ≤ N * d / P ↔ n * P ≤ N * d := Int.le_ediv_iff_mul_le (by omega)
theorem cost_le (N P d n : Int) (hN : 1 ≤ N) : costQ N P n ≤ d ↔ n * P ≤ N * d := by
  have e := Int.emod_add_mul_ediv (n * P) N
  have p0 := Int.emod_nonneg (n * P) (by omega : N ≠ 0)
  have p1 := Int.emod_lt_of_pos (n * P) (by omega : 0 < N)
  unfold costQ
  split
  · rename_i h
    rw [Int.add_zero]
    constructor
    · intro g
      have : N * (n * P / N) ≤ N * d := Int.mul_le_mul_of_nonneg_left g (by omega)
      omega
    · intro g
      have : N * (n * P / N) ≤ N * d := by omega
      exact Int.le_of_mul_le_mul_left this (by omega)
  · rename_i h
    constructor
    · intro g
      have : N * (n * P / N + 1) ≤ N * d := Int.mul_le_mul_of_nonneg_left g (by omega)
      rw [Int.mul_add, Int.mul_one] at this
      omega
    · intro g
      have : N * (n * P / N) < N * d := by omega
      have := Int.lt_of_mul_lt_mul_left this (by omega)
      omega
theorem adjoint (N P d n : Int) (hP : 1 ≤ P) (hN : 1 ≤ N) : n ≤ N * d / P ↔ costQ N P n ≤ d := by rw [acc_ge N P d n hP, cost_le N P d n hN]

/-! ### parts -/
theorem parts (N P d e : Int) (hP : 1 ≤ P) : N * d / P + N * e / P ≤ N * (d + e) / P ∧ N * (d + e) / P ≤ N * d / P + N * e / P + 1 := by
  have e1 := Int.emod_add_mul_ediv (N * d) P
  have e2 := Int.emod_add_mul_ediv (N * e) P
  have a0 := Int.emod_nonneg (N * d) (by omega : P ≠ 0)
  have a1 := Int.emod_lt_of_pos (N * d) (by omega : 0 < P)
  have b0 := Int.emod_nonneg (N * e) (by omega : P ≠ 0)
  have b1 := Int.emod_lt_of_pos (N * e) (by omega : 0 < P)
  rw [Int.mul_add]
  constructor
  · apply Int.le_ediv_of_mul_le (by omega)
    rw [Int.add_mul, Int.mul_comm _ P, Int.mul_comm _ P]
    omega
  · apply Int.le_of_lt_add_one
    apply Int.ediv_lt_of_lt_mul (by omega)
    rw [Int.add_mul, Int.add_mul, Int.add_mul, Int.mul_comm _ P, Int.mul_comm _ P]
    omega

/-! ### great -/
theorem mono {N1 P1 N2 P2 d : Int} (h1 : 1 ≤ P1) (h2 : 1 ≤ P2) (hd : 0 ≤ d) (h : N1 * P2 ≤ N2 * P1) : N1 * d / P1 ≤ N2 * d / P2 := by
  apply Int.le_ediv_of_mul_le (by omega)
  have a : N1 * d / P1 * P1 ≤ N1 * d := Int.ediv_mul_le _ (by omega)
  have b : N1 * d / P1 * P1 * P2 ≤ N1 * d * P2 := Int.mul_le_mul_of_nonneg_right a (by omega)
  have c : N1 * P2 * d ≤ N2 * P1 * d := Int.mul_le_mul_of_nonneg_right h hd
  apply Int.le_of_mul_le_mul_right (a := P1) _ (by omega)
  calc N1 * d / P1 * P2 * P1 = N1 * d / P1 * P1 * P2 := Int.mul_right_comm _ _ _
    _ ≤ N1 * d * P2 := b
    _ = N1 * P2 * d := Int.mul_right_comm _ _ _
    _ ≤ N2 * P1 * d := c
    _ = N2 * d * P1 := Int.mul_right_comm _ _ _
theorem great_trans {N1 P1 N2 P2 N3 P3 : Int} (h1 : 1 ≤ P1) (h2 : 1 ≤ P2) (h3 : 1 ≤ P3) (a : N1 * P2 ≤ N2 * P1) (b : N2 * P3 ≤ N3 * P2) : N1 * P3 ≤ N3 * P1 := by
  apply Int.le_of_mul_le_mul_right (a := P2) _ (by omega)
  have a' : N1 * P2 * P3 ≤ N2 * P1 * P3 := Int.mul_le_mul_of_nonneg_right a (by omega)
  have b' : N2 * P3 * P1 ≤ N3 * P2 * P1 := Int.mul_le_mul_of_nonneg_right b (by omega)
  calc N1 * P3 * P2 = N1 * P2 * P3 := Int.mul_right_comm _ _ _
    _ ≤ N2 * P1 * P3 := a'
    _ = N2 * P3 * P1 := Int.mul_right_comm _ _ _
    _ ≤ N3 * P2 * P1 := b'
    _ = N3 * P1 * P2 := Int.mul_right_comm _ _ _

/-! ### lowest terms -/
def gcdI (N P : Int) : Int := (Nat.gcd N.toNat P.toNat : Nat)
theorem gcdI_step (a b : Nat) : Nat.gcd b (a % b) = Nat.gcd a b := by rw [Nat.gcd_comm b, ← Nat.gcd_rec, Nat.gcd_comm]
theorem lowest_facts (N P : Int) (hN : 0 ≤ N) (hP : 1 ≤ P) : 1 ≤ gcdI N P ∧ 0 ≤ N / gcdI N P ∧ N / gcdI N P ≤ N ∧ 1 ≤ P / gcdI N P ∧ P / gcdI N P ≤ P ∧ N * (P / gcdI N P) = N / gcdI N P * P := by
  obtain ⟨n, rfl⟩ := Int.eq_ofNat_of_zero_le hN
  obtain ⟨p, rfl⟩ := Int.eq_ofNat_of_zero_le (by omega : 0 ≤ P)
  have hg : gcdI n p = (Nat.gcd n p : Nat) := by simp [gcdI]
  have hp : 0 < Nat.gcd n p := Nat.gcd_pos_of_pos_right n (by omega)
  rw [hg]
  obtain ⟨x, hx⟩ := Nat.gcd_dvd_left n p
  obtain ⟨y, hy⟩ := Nat.gcd_dvd_right n p
  have q1 : (n : Int) / (Nat.gcd n p : Nat) = (x : Nat) := by
    rw [← Int.natCast_ediv]; congr 1
    exact Nat.div_eq_of_eq_mul_right hp hx
  have q2 : (p : Int) / (Nat.gcd n p : Nat) = (y : Nat) := by
    rw [← Int.natCast_ediv]; congr 1
    exact Nat.div_eq_of_eq_mul_right hp hy
  rw [q1, q2]
  have hxn : x ≤ n := by
    have := Nat.le_mul_of_pos_left x hp
    omega
  have hyp : y ≤ p := by
    have := Nat.le_mul_of_pos_left y hp
    omega
  have hy1 : 1 ≤ y := by
    rcases Nat.eq_zero_or_pos y with h | h
    · rw [h, Nat.mul_zero] at hy; omega
    · exact h
  refine ⟨by omega, by omega, by omega, by omega, by omega, ?_⟩
  have : n * y = x * p := by
    generalize Nat.gcd n p = g at *
    subst hx hy
    rw [Nat.mul_comm g x, Nat.mul_assoc]
  rw [← Int.natCast_mul, ← Int.natCast_mul, this]

/-! ### windows -/
theorem window_in (a l : Int) (hl : 1 ≤ l) (ha : 0 ≤ a) : 0 ≤ a / l ∧ a / l * l ≤ a ∧ a < a / l * l + l := by
  have e := Int.emod_add_mul_ediv a l
  have p0 := Int.emod_nonneg a (by omega : l ≠ 0)
  have p1 := Int.emod_lt_of_pos a (by omega : 0 < l)
  rw [Int.mul_comm (a / l) l]
  exact ⟨Int.ediv_nonneg ha (by omega), by omega, by omega⟩
theorem window_after (v w l : Int) (hl : 1 ≤ l) (h : w + 1 ≤ v) : w * l + l ≤ v * l := by
  have := Int.mul_le_mul_of_nonneg_right h (by omega : 0 ≤ l)
  rw [Int.add_mul, Int.one_mul] at this
  exact this
end TM
