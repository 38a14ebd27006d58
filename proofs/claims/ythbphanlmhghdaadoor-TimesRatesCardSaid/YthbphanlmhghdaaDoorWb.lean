/- THE WALKS of what a rate may be, of the bits of a product and of a quotient. -/
import Derived.Test.YthbphanlmhghdaaDoorWa
import Derived.Lib.Hide
namespace Go.Proofs.YthbphanlmhghdaaDoor
open Go.RowKit

def rateOut (N P : Int) : Int := if TM.right N P then 0 else 21
theorem rateOut_ok {N P : Int} (h : TM.right N P) : rateOut N P = 0 := if_pos h
theorem rateOut_bad {N P : Int} (h : ¬ TM.right N P) : rateOut N P = 21 := if_neg h
theorem not_right {N P : Int} (h : ¬ TM.right N P) : N < 0 ∨ (0 ≤ N ∧ 1099511627776 < N) ∨ (0 ≤ N ∧ N ≤ 1099511627776 ∧ P < 1) ∨ (0 ≤ N ∧ N ≤ 1099511627776 ∧ 1 ≤ P ∧ 2305843009213693952 < P) := by
  unfold TM.right at h
  omega

theorem checkRate_any (N P : Int) (w : World) : Calls Tryd.prog 16 #[.agg #[.int .i64 N, .int .i64 P]] w fun e w' => e = .returned (.int .i64 (rateOut N P)) ∧ Below w.heap.size w w' := by
  by_cases h : TM.right N P
  · rw [rateOut_ok h]
    obtain ⟨h1, h2, h3, h4⟩ := h
    go_enter Tryd.func16, Tryd.ntmps16
    go_wp2
    go_ret
    exact ⟨rfl, (Below.refl _ _).alloc (Nat.le_refl _) _⟩
  · rw [rateOut_bad h]
    have h' := not_right h
    clear h
    rcases h' with h1 | ⟨h0, h1⟩ | ⟨h0, h2, h1⟩ | ⟨h0, h2, h3, h1⟩
    all_goals
      go_enter Tryd.func16, Tryd.ntmps16
      go_wp2
      go_ret
      exact ⟨rfl, (Below.refl _ _).alloc (Nat.le_refl _) _⟩
theorem right_any (N P : Int) (w : World) : Calls Tryd.prog 49 #[.agg #[.int .i64 N, .int .i64 P]] w fun e w' => e = .returned (.bool (decide (TM.right N P))) ∧ Below w.heap.size w w' := by
  by_cases h : TM.right N P
  · rw [decide_eq_true h]
    obtain ⟨h1, h2, h3, h4⟩ := h
    go_enter Tryd.func49, Tryd.ntmps49
    go_wp2
    go_ret
    exact ⟨rfl, (Below.refl _ _).alloc (Nat.le_refl _) _⟩
  · rw [decide_eq_false h]
    have h' := not_right h
    clear h
    rcases h' with h1 | ⟨h0, h1⟩ | ⟨h0, h2, h1⟩ | ⟨h0, h2, h3, h1⟩
    rotate_right
    · have hd : decide (P ≤ 2305843009213693952) = false := decide_eq_false (by omega)
      go_enter Tryd.func49, Tryd.ntmps49
      go_wp2
      go_ret
      exact ⟨rfl, (Below.refl _ _).alloc (Nat.le_refl _) _⟩
    all_goals
      go_enter Tryd.func49, Tryd.ntmps49
      go_wp2
      go_ret
      exact ⟨rfl, (Below.refl _ _).alloc (Nat.le_refl _) _⟩
theorem refCheckRate_any (N P : Int) (w : World) : Calls Tryd.prog 17 #[.agg #[.int .i64 N, .int .i64 P]] w fun e w' => e = .returned (.int .i64 (rateOut N P)) ∧ Below w.heap.size w w' := by
  by_cases h : TM.right N P
  · rw [rateOut_ok h]
    have hd : decide (TM.right N P) = true := decide_eq_true h
    clear h
    go_enter Tryd.func17, Tryd.ntmps17
    go_wp2_with (go_at_call 49; refine (right_any _ _ _).mono ?_; rintro e w' ⟨rfl, hb⟩)
    go_ret
    exact ⟨rfl, ((Below.refl _ _).alloc (Nat.le_refl _) _).trans (hb.mono (by simp))⟩
  · rw [rateOut_bad h]
    have hd : decide (TM.right N P) = false := decide_eq_false h
    clear h
    go_enter Tryd.func17, Tryd.ntmps17
    go_wp2_with (go_at_call 49; refine (right_any _ _ _).mono ?_; rintro e w' ⟨rfl, hb⟩)
    go_ret
    exact ⟨rfl, ((Below.refl _ _).alloc (Nat.le_refl _) _).trans (hb.mono (by simp))⟩

/-! ### divided -/
theorem and_one (n : Int) : bits .and .i64 n 1 = n % 2 := by
  have h1 : (BitVec.ofInt 64 1).toNat = 2 ^ 1 - 1 := by decide
  have key : (BitVec.ofInt 64 n &&& BitVec.ofInt 64 1).toNat = (n % ((2 ^ 64 : Nat) : Int)).toNat % 2 ^ 1 := by
    rw [BitVec.toNat_and, BitVec.toNat_ofInt, h1, Nat.and_two_pow_sub_one_eq_mod]
  show IntKind.i64.wrap ((BitVec.ofInt 64 n &&& BitVec.ofInt 64 1).toNat : Nat) = n % 2
  rw [key, IntKind.wrap_i64]
  omega
theorem quo_le (b c : Int) (hb : 0 ≤ b) (hb' : b ≤ 2305843009213693952) (hc : 1 ≤ c) : 0 ≤ b / c ∧ b / c ≤ 2305843009213693952 ∧ 0 ≤ b % c ∧ b % c < c :=
  ⟨Int.ediv_nonneg hb (by omega), Int.le_trans (Int.ediv_le_self _ hb) hb', Int.emod_nonneg _ (by omega), Int.emod_lt_of_pos _ (by omega)⟩
theorem ret_ib {a b : Int} {x y : Bool} (h : a = b) (h' : x = y) : Ending.returned (.tuple #[.int .i64 a, .bool x]) = Ending.returned (.tuple #[.int .i64 b, .bool y]) := by rw [h, h']
theorem ret_ii {k m : IntKind} {a b c d : Int} (h : a = b) (h' : c = d) : Ending.returned (.tuple #[.int k a, .int m c]) = Ending.returned (.tuple #[.int k b, .int m d]) := by rw [h, h']
theorem ret_i {k : IntKind} {a b : Int} (h : a = b) : Ending.returned (.int k a) = Ending.returned (.int k b) := by rw [h]

/-- what the inner loop keeps -/
def Off (q1 r1 c q r : Int) : Prop := ∃ j : Int, 0 ≤ j ∧ q = q1 + j ∧ r = r1 - j * c ∧ 0 ≤ r
theorem off_start (q1 r1 c : Int) (h : 0 ≤ r1) : Off q1 r1 c q1 r1 := ⟨0, by omega, by omega, by omega, h⟩
theorem off_step {q1 r1 c q r : Int} (h : Off q1 r1 c q r) (hr : c ≤ r) : Off q1 r1 c (q + 1) (r - c) := by
  obtain ⟨j, hj, rfl, rfl, h0⟩ := h
  exact ⟨j + 1, by omega, by omega, by rw [Int.add_mul]; omega, by omega⟩
theorem off_le {q1 r1 c q r : Int} (h : Off q1 r1 c q r) (hc : 1 ≤ c) (h3 : r1 < 3 * c) : q1 ≤ q ∧ q ≤ q1 + 2 ∧ 0 ≤ r ∧ r ≤ r1 := by
  obtain ⟨j, hj, rfl, rfl, h0⟩ := h
  have := TM.few hc h0 h3
  have := Int.mul_nonneg hj (by omega : 0 ≤ c)
  omega
theorem off_end {a b c : Int} {n : Nat} {q r : Int} {much : Bool} (h : TM.DivR a b c (n + 1) q r much) (ha : 0 ≤ a) (hb : 0 ≤ b) (hc : 1 ≤ c) {bit : Int} (hbit : bit = a / 2 ^ n % 2)
    {Q R : Int} (o : Off (TM.oneQ b c q bit) (TM.oneRest b c r bit) c Q R) (hR : R < c) :
    (Q ≤ 2305843009213693952 → TM.DivR a b c n Q R much) ∧ (2305843009213693952 < Q → TM.DivR a b c n 0 R true) := by
  obtain ⟨j, hj, rfl, rfl, h0⟩ := o
  exact TM.divR_step h ha hb hc bit hbit j hj h0 hR

set_option maxHeartbeats 1000000 in
theorem divided_any (a b c : Int) (w : World) (ha : 0 ≤ a) (ha' : a ≤ 2305843009213693952) (hb : 0 ≤ b) (hb' : b ≤ 2305843009213693952) (hc : 1 ≤ c) (hc' : c ≤ 2305843009213693952) :
    Calls Tryd.prog 54 #[.int .i64 a, .int .i64 b, .int .i64 c] w fun e w' => e = .returned (.tuple #[.int .i64 (TM.divV a b c), .bool (TM.divW a b c)]) ∧ w = w' := by
  obtain ⟨hq0, hq1, hm0, hm1⟩ := quo_le b c hb hb' hc
  go_enter Tryd.func54, Tryd.ntmps54
  go_wp2
  go_loop [8, 9, 10, 11] (fun q r m k => ∃ (n : Nat) (Q R : Int) (M : Bool), n ≤ 63 ∧ TM.DivR a b c n Q R M ∧ q = .int .i64 Q ∧ r = .int .i64 R ∧ m = .bool M ∧ k = .int .i64 ((n : Int) - 1)) (fun _ _ _ k => (intOf k + 1).toNat)
  case atStart => exact ⟨63, 0, 0, false, by omega, TM.divR_start a b c ha (by omega) hc, rfl, rfl, rfl, rfl⟩
  case round =>
    obtain ⟨n, Q, R, M, hn, hR, rfl, rfl, rfl, rfl⟩ := hrel
    cases n with
    | zero =>
      have hend := Lib.hid (TM.divR_end hR hc)
      clear hR
      cases M
      · go_wp2
        go_ret2
        obtain ⟨e1, e2⟩ := hend.out.1 trivial
        exact ⟨ret_ib e1 e2, rfl⟩
      · go_wp2
        go_ret2
        obtain ⟨e1, e2⟩ := hend.out.2 trivial
        exact ⟨ret_ib e1 e2, rfl⟩
    | succ n =>
      have hQ0 := hR.2.2.1
      have hQ1 := hR.2.2.2.1
      have hR0 := hR.1
      have hR1 := hR.2.1
      have hb2 : a / 2 ^ n % 2 = 0 ∨ a / 2 ^ n % 2 = 1 := by omega
      have hbit := and_one (a / 2 ^ n)
      have HR := Lib.hid hR
      clear hR
      rcases hb2 with hb2 | hb2
      · rw [hb2] at hbit
        have HB := Lib.hid hb2
        clear hb2
        go_wp2
        go_loop [8, 9] (fun q r => ∃ Q2 R2 : Int, q = .int .i64 Q2 ∧ r = .int .i64 R2 ∧ Off (2 * Q) (2 * R) c Q2 R2) (fun _ r => (intOf r).toNat)
        case atStart => exact ⟨_, _, rfl, rfl, off_start _ _ _ (by omega)⟩
        case round =>
          obtain ⟨Q2, R2, rfl, rfl, ho⟩ := hrel
          obtain ⟨b1, b2, b3, b4⟩ := off_le ho hc (by omega)
          by_cases hlt : c ≤ R2
          · go_wp2
            go_round
            case rel => exact ⟨_, _, rfl, rfl, off_step ho hlt⟩
            case measure => simp [intOf]; omega
          · have hend := Lib.hid (off_end (Q := Q2) (R := R2) HR.out ha hb hc HB.out.symm (by rw [TM.oneQ, TM.oneRest, if_neg (by omega), if_neg (by omega), Int.add_zero, Int.add_zero]; exact ho) (by omega))
            clear ho
            by_cases hm : 2305843009213693952 < Q2
            · go_wp2
              go_round
              case rel => exact ⟨n, 0, R2, true, by omega, hend.out.2 hm, rfl, rfl, rfl, rfl⟩
              case measure => simp [intOf]
            · go_wp2
              go_round
              case rel => exact ⟨n, Q2, R2, M, by omega, hend.out.1 (by omega), rfl, rfl, rfl, rfl⟩
              case measure => simp [intOf]
      · rw [hb2] at hbit
        have HB := Lib.hid hb2
        clear hb2
        go_wp2
        go_loop [8, 9] (fun q r => ∃ Q2 R2 : Int, q = .int .i64 Q2 ∧ r = .int .i64 R2 ∧ Off (2 * Q + b / c) (2 * R + b % c) c Q2 R2) (fun _ r => (intOf r).toNat)
        case atStart => exact ⟨_, _, rfl, rfl, off_start _ _ _ (by omega)⟩
        case round =>
          obtain ⟨Q2, R2, rfl, rfl, ho⟩ := hrel
          obtain ⟨b1, b2, b3, b4⟩ := off_le ho hc (by omega)
          by_cases hlt : c ≤ R2
          · go_wp2
            go_round
            case rel => exact ⟨_, _, rfl, rfl, off_step ho hlt⟩
            case measure => simp [intOf]; omega
          · have hend := Lib.hid (off_end (Q := Q2) (R := R2) HR.out ha hb hc HB.out.symm (by rw [TM.oneQ, TM.oneRest, if_pos rfl, if_pos rfl]; exact ho) (by omega))
            clear ho
            by_cases hm : 2305843009213693952 < Q2
            · go_wp2
              go_round
              case rel => exact ⟨n, 0, R2, true, by omega, hend.out.2 hm, rfl, rfl, rfl, rfl⟩
              case measure => simp [intOf]
            · go_wp2
              go_round
              case rel => exact ⟨n, Q2, R2, M, by omega, hend.out.1 (by omega), rfl, rfl, rfl, rfl⟩
              case measure => simp [intOf]
end Go.Proofs.YthbphanlmhghdaaDoor
