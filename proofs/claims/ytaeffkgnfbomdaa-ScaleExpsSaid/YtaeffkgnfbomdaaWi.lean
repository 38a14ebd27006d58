/- THE WALKS of Exp, case by case. -/
import Derived.Test.YtaeffkgnfbomdaaWh
namespace Go.Proofs.Ytaeffkgnfbomdaa
open Go.RowKit
def lOrd (a b : Nat) : Option Ordering := FloatKind.f64.format.order a b
theorem isInf_any (b : Nat) (h : b < 18446744073709551616) (w : World) : Calls Try.prog 38 #[.float .f64 b, .int .i64 0] w fun e w' => e = .returned (.bool (FloatKind.f64.format.order (b % 9223372036854775808) 9218868437227405311 == some .gt)) ∧ w = w' := by
  have H := Lib.hid h
  clear h
  go_enter Try.func38, Try.ntmps38
  go_wp2_with (go_at_call 28; refine (abs_any b H.out _).mono ?_; rintro e w' ⟨rfl, rfl⟩)
  go_ret
  exact ⟨rfl, rfl⟩
theorem exp_bad {s : Int} {b : Nat} (w : World) (hs : s < -4 ∨ 8 < s) : Calls Try.prog 19 #[.int .i64 s, .float .f64 b] w fun e w' => e = .returned (.tuple #[.agg #[.int .i64 0, .int .i64 0], .int .i64 2]) ∧ Below w.heap.size w w' := by
  have hb : (decide (-4 ≤ s) && decide (s ≤ 8)) = false := by simp; omega
  have HS := Lib.hid hb
  clear hs hb
  go_enter Try.func19, Try.ntmps19
  go_wp2_with (go_at_call 36; refine (isSchema_any s _).mono ?_; rw [HS.out]; rintro e w' ⟨rfl, rfl⟩)
  exact bodyPost_ret (v := .tuple #[.agg #[.int .i64 0, .int .i64 0], .int .i64 2]) (by simp [results, Try.results19, go_sem]) rfl ⟨rfl, (Below.refl _ _).alloc (Nat.le_refl _) _⟩
theorem exp_pos {s : Int} {b : Nat} (w : World) (hs1 : -4 ≤ s) (hs2 : s ≤ 8) (h0 : 0 < b) (h : b < 9218868437227405312) : Calls Try.prog 19 #[.int .i64 s, .float .f64 b] w fun e w' => e = .returned (.tuple #[.agg #[.int .i64 1, .int .i64 (FL.bk s b)], .int .i64 0]) ∧ Below w.heap.size w w' := by
  have HS := Lib.hid (show (decide (-4 ≤ s) && decide (s ≤ 8)) = true by simp; omega)
  have HN := Lib.hid (show (FloatKind.f64.format.order b b != some .eq) = false by rw [show FloatKind.f64.format.order b b = some .eq from FL.order_eq h]; rfl)
  have HI := Lib.hid (show (FloatKind.f64.format.order (b % 9223372036854775808) 9218868437227405311 == some .gt) = false by
    rw [Nat.mod_eq_of_lt (by omega)]
    by_cases he : b = 9218868437227405311
    · subst he; rw [show FloatKind.f64.format.order 9218868437227405311 9218868437227405311 = some .eq from FL.order_eq (by omega)]; rfl
    · rw [show FloatKind.f64.format.order b 9218868437227405311 = some .lt from FL.order_lt (by omega) (by omega)]; rfl)
  have HZ : FloatKind.f64.format.order b 0 = some .gt := FL.order_gt h0 h
  have HB := Lib.hid (fun w => bucket_any (b := b) w hs1 hs2 h0 h)
  have HL := Lib.hid (show b < 18446744073709551616 by omega)
  clear hs1 hs2 h0 h
  go_enter Try.func19, Try.ntmps19
  go_wp2_with (first
    | (go_at_call 36; refine (isSchema_any s _).mono ?_; rw [HS.out]; rintro e w' ⟨rfl, rfl⟩)
    | (go_at_call 37; refine (isNaN_any b _).mono ?_; rw [HN.out]; rintro e w' ⟨rfl, rfl⟩)
    | (go_at_call 38; refine (isInf_any b HL.out _).mono ?_; rw [HI.out]; rintro e w' ⟨rfl, rfl⟩)
    | (go_at_call 39; refine (HB.out _).mono ?_; rintro e w' ⟨rfl, rfl⟩))
  exact bodyPost_ret (v := .tuple #[.agg #[.int .i64 1, .int .i64 (FL.bk s b)], .int .i64 0]) (by simp [results, Try.results19, go_sem]) rfl ⟨rfl, (Below.refl _ _).alloc (Nat.le_refl _) _⟩
theorem neg_of {c : Nat} (h : c < 9223372036854775808) : Op.negFloat .f64 (9223372036854775808 + c) = c := by
  show (9223372036854775808 + c) ^^^ 9223372036854775808 = c
  have e := Nat.two_pow_add_eq_or_of_lt (i := 63) (b := c) h 1
  have e2 : 9223372036854775808 + c = 9223372036854775808 ^^^ c := by
    rw [show 9223372036854775808 + c = 9223372036854775808 ||| c from e]
    apply Nat.eq_of_testBit_eq
    intro i
    rw [Nat.testBit_or, Nat.testBit_xor]
    by_cases hi : i < 63
    · rw [show (9223372036854775808 : Nat) = 2 ^ 63 from rfl, Nat.testBit_two_pow_of_ne (by omega)]; simp
    · rw [Nat.testBit_lt_two_pow (x := c) (Nat.lt_of_lt_of_le h (Nat.pow_le_pow_right (n := 2) (i := 63) (by omega) (by omega)))]; simp
  rw [e2, Nat.xor_comm 9223372036854775808 c, Nat.xor_assoc, Nat.xor_self, Nat.xor_zero]
theorem neg_to {c : Nat} (h : c < 9223372036854775808) : Op.negFloat .f64 c = 9223372036854775808 + c := by
  have h1 := neg_of h
  have h2 : Op.negFloat .f64 (Op.negFloat .f64 (9223372036854775808 + c)) = 9223372036854775808 + c := by
    unfold Op.negFloat; rw [Nat.xor_assoc, Nat.xor_self, Nat.xor_zero]
  rw [h1] at h2
  exact h2
theorem exp_neg {s : Int} {c : Nat} (w : World) (hs1 : -4 ≤ s) (hs2 : s ≤ 8) (h0 : 0 < c) (h : c < 9218868437227405312) : Calls Try.prog 19 #[.int .i64 s, .float .f64 (9223372036854775808 + c)] w fun e w' => e = .returned (.tuple #[.agg #[.int .i64 (-1), .int .i64 (FL.bk s c)], .int .i64 0]) ∧ Below w.heap.size w w' := by
  have HS := Lib.hid (show (decide (-4 ≤ s) && decide (s ≤ 8)) = true by simp; omega)
  have HN := Lib.hid (show (FloatKind.f64.format.order (9223372036854775808 + c) (9223372036854775808 + c) != some .eq) = false by rw [show FloatKind.f64.format.order (9223372036854775808 + c) (9223372036854775808 + c) = some .eq from FL.order_eq_neg h]; rfl)
  have HI := Lib.hid (show (FloatKind.f64.format.order ((9223372036854775808 + c) % 9223372036854775808) 9218868437227405311 == some .gt) = false by
    rw [show (9223372036854775808 + c) % 9223372036854775808 = c by omega]
    by_cases he : c = 9218868437227405311
    · subst he; rw [show FloatKind.f64.format.order 9218868437227405311 9218868437227405311 = some .eq from FL.order_eq (by omega)]; rfl
    · rw [show FloatKind.f64.format.order c 9218868437227405311 = some .lt from FL.order_lt (by omega) (by omega)]; rfl)
  have hz : FloatKind.f64.format.order (9223372036854775808 + c) 0 = some .lt := FL.order_neg0 h0 h
  have hn : Op.unary .neg (.float .f64 (9223372036854775808 + c)) = pure (.float .f64 c) := by
    show pure (Value.float .f64 (Op.negFloat .f64 (9223372036854775808 + c))) = _
    rw [neg_of (c := c) (by omega)]
  have HB := Lib.hid (fun w => bucket_any (b := c) w hs1 hs2 h0 h)
  have HL := Lib.hid (show 9223372036854775808 + c < 18446744073709551616 by omega)
  generalize 9223372036854775808 + c = b at *
  clear hs1 hs2 h0 h
  go_enter Try.func19, Try.ntmps19
  go_wp2_with (first
    | (go_at_call 36; refine (isSchema_any s _).mono ?_; rw [HS.out]; rintro e w' ⟨rfl, rfl⟩)
    | (go_at_call 37; refine (isNaN_any b _).mono ?_; rw [HN.out]; rintro e w' ⟨rfl, rfl⟩)
    | (go_at_call 38; refine (isInf_any b HL.out _).mono ?_; rw [HI.out]; rintro e w' ⟨rfl, rfl⟩)
    | (go_at_call 39; refine (HB.out _).mono ?_; rintro e w' ⟨rfl, rfl⟩))
  exact bodyPost_ret (v := .tuple #[.agg #[.int .i64 (-1), .int .i64 (FL.bk s c)], .int .i64 0]) (by simp [results, Try.results19, go_sem]) rfl ⟨rfl, (Below.refl _ _).alloc (Nat.le_refl _) _⟩
/-- +0 and -0 -/
theorem exp_zero {s : Int} {b : Nat} (w : World) (hs1 : -4 ≤ s) (hs2 : s ≤ 8) (hb : b = 0 ∨ b = 9223372036854775808) : Calls Try.prog 19 #[.int .i64 s, .float .f64 b] w fun e w' => e = .returned (.tuple #[.agg #[.int .i64 0, .int .i64 0], .int .i64 0]) ∧ Below w.heap.size w w' := by
  have HS := Lib.hid (show (decide (-4 ≤ s) && decide (s ≤ 8)) = true by simp; omega)
  have HN := Lib.hid (show (FloatKind.f64.format.order b b != some .eq) = false by rcases hb with rfl | rfl <;> decide +kernel)
  have HI := Lib.hid (show (FloatKind.f64.format.order (b % 9223372036854775808) 9218868437227405311 == some .gt) = false by rcases hb with rfl | rfl <;> decide +kernel)
  have HZ : FloatKind.f64.format.order b 0 = some .eq := by rcases hb with rfl | rfl <;> decide +kernel
  have HL := Lib.hid (show b < 18446744073709551616 by omega)
  clear hs1 hs2 hb
  go_enter Try.func19, Try.ntmps19
  go_wp2_with (first
    | (go_at_call 36; refine (isSchema_any s _).mono ?_; rw [HS.out]; rintro e w' ⟨rfl, rfl⟩)
    | (go_at_call 37; refine (isNaN_any b _).mono ?_; rw [HN.out]; rintro e w' ⟨rfl, rfl⟩)
    | (go_at_call 38; refine (isInf_any b HL.out _).mono ?_; rw [HI.out]; rintro e w' ⟨rfl, rfl⟩))
  exact bodyPost_ret (v := .tuple #[.agg #[.int .i64 0, .int .i64 0], .int .i64 0]) (by simp [results, Try.results19, go_sem]) rfl ⟨rfl, (Below.refl _ _).alloc (Nat.le_refl _) _⟩
theorem exp_inf {s : Int} {b : Nat} (w : World) (hs1 : -4 ≤ s) (hs2 : s ≤ 8) (hb : b = 9218868437227405312 ∨ b = 18442240474082181120) : Calls Try.prog 19 #[.int .i64 s, .float .f64 b] w fun e w' => e = .returned (.tuple #[.agg #[.int .i64 0, .int .i64 0], .int .i64 81]) ∧ Below w.heap.size w w' := by
  have HS := Lib.hid (show (decide (-4 ≤ s) && decide (s ≤ 8)) = true by simp; omega)
  have HN := Lib.hid (show (FloatKind.f64.format.order b b != some .eq) = false by rcases hb with rfl | rfl <;> decide +kernel)
  have HI := Lib.hid (show (FloatKind.f64.format.order (b % 9223372036854775808) 9218868437227405311 == some .gt) = true by rcases hb with rfl | rfl <;> decide +kernel)
  have HL := Lib.hid (show b < 18446744073709551616 by omega)
  clear hs1 hs2 hb
  go_enter Try.func19, Try.ntmps19
  go_wp2_with (first
    | (go_at_call 36; refine (isSchema_any s _).mono ?_; rw [HS.out]; rintro e w' ⟨rfl, rfl⟩)
    | (go_at_call 37; refine (isNaN_any b _).mono ?_; rw [HN.out]; rintro e w' ⟨rfl, rfl⟩)
    | (go_at_call 38; refine (isInf_any b HL.out _).mono ?_; rw [HI.out]; rintro e w' ⟨rfl, rfl⟩))
  exact bodyPost_ret (v := .tuple #[.agg #[.int .i64 0, .int .i64 0], .int .i64 81]) (by simp [results, Try.results19, go_sem]) rfl ⟨rfl, (Below.refl _ _).alloc (Nat.le_refl _) _⟩
theorem exp_nan {s : Int} {b : Nat} (w : World) (hs1 : -4 ≤ s) (hs2 : s ≤ 8) (hb : 9218868437227405312 < b % 9223372036854775808) : Calls Try.prog 19 #[.int .i64 s, .float .f64 b] w fun e w' => e = .returned (.tuple #[.agg #[.int .i64 0, .int .i64 0], .int .i64 81]) ∧ Below w.heap.size w w' := by
  have HS := Lib.hid (show (decide (-4 ≤ s) && decide (s ≤ 8)) = true by simp; omega)
  have HN := Lib.hid (show (FloatKind.f64.format.order b b != some .eq) = true by rw [show FloatKind.f64.format.order b b = none from FL.order_nan hb]; rfl)
  clear hs1 hs2 hb
  go_enter Try.func19, Try.ntmps19
  go_wp2_with (first
    | (go_at_call 36; refine (isSchema_any s _).mono ?_; rw [HS.out]; rintro e w' ⟨rfl, rfl⟩)
    | (go_at_call 37; refine (isNaN_any b _).mono ?_; rw [HN.out]; rintro e w' ⟨rfl, rfl⟩))
  exact bodyPost_ret (v := .tuple #[.agg #[.int .i64 0, .int .i64 0], .int .i64 81]) (by simp [results, Try.results19, go_sem]) rfl ⟨rfl, (Below.refl _ _).alloc (Nat.le_refl _) _⟩
/-- what a float is -/
theorem kinds (b : Nat) (h : b < 18446744073709551616) : (0 < b ∧ b < 9218868437227405312) ∨ (∃ c, b = 9223372036854775808 + c ∧ 0 < c ∧ c < 9218868437227405312) ∨ (b = 0 ∨ b = 9223372036854775808) ∨ (b = 9218868437227405312 ∨ b = 18442240474082181120) ∨ 9218868437227405312 < b % 9223372036854775808 := by
  rcases Nat.lt_or_ge b 9223372036854775808 with h1 | h1
  · omega
  · obtain ⟨c, rfl⟩ : ∃ c, b = 9223372036854775808 + c := ⟨b - 9223372036854775808, by omega⟩
    rcases Nat.eq_zero_or_pos c with h0 | h0
    · omega
    · rcases Nat.lt_or_ge c 9218868437227405312 with h2 | h2
      · exact .inr (.inl ⟨c, rfl, h0, h2⟩)
      · omega
end Go.Proofs.Ytaeffkgnfbomdaa
