/- THE WALK of math.Ldexp(1, k). -/
import Derived.Test.YtaeffkgnfbomdaaLi
import Derived.Test.YtaeffkgnfbomdaaPow
import Derived.Laws.FloatArith
namespace Go.Proofs.Ytaeffkgnfbomdaa
open Go.RowKit
set_option maxRecDepth 100000
theorem normalize_one (w : World) : Calls Try.prog 56 #[.float .f64 4607182418800017408] w fun e w' => e = .returned (.tuple #[.float .f64 4607182418800017408, .int .i64 0]) ∧ w = w' := by
  have h1 : FloatKind.f64.format.order (4607182418800017408 % 9223372036854775808) 4503599627370496 = some .gt := by decide +kernel
  go_enter Try.func56, Try.ntmps56
  go_wp2_with (go_at_call 28; refine (abs_any 4607182418800017408 (by omega) _).mono ?_; rintro e w' ⟨rfl, rfl⟩)
  go_ret2
  exact ⟨rfl, rfl⟩
theorem or_zero (X : Nat) (h : X < 18446744073709551616) : bits .or .u64 0 (X : Int) = (X : Int) := by
  have := bits_or_u64_nat 0 X (by omega) h
  simpa using this
theorem ldexp_norm {k : Int} (h1 : -1022 ≤ k) (h2 : k ≤ 1023) (w : World) : Calls Try.prog 47 #[.float .f64 4607182418800017408, .int .i64 k] w fun e w' => e = .returned (.float .f64 (FL.powB k)) ∧ w = w' := by
  have f1 : FloatKind.f64.format.order 4607182418800017408 0 = some .gt := by decide +kernel
  have HN := Lib.hid (show (FloatKind.f64.format.order 4607182418800017408 4607182418800017408 != some .eq) = false by decide +kernel)
  have HI := Lib.hid (show (FloatKind.f64.format.order (4607182418800017408 % 9223372036854775808) 9218868437227405311 == some .gt) = false by decide +kernel)
  have g1 : bits .andNot .u64 4607182418800017408 9218868437227405312 = 0 := by decide +kernel
  have g2 : bits .and .i64 1023 2047 = 1023 := by decide +kernel
  have r1 := run_bits 4607182418800017408 w
  obtain ⟨X, hX⟩ : ∃ X, (k + 1023).toNat * 4503599627370496 = X := ⟨_, rfl⟩
  have hp : FL.powB k = X := by unfold FL.powB; rw [if_neg (by omega)]; exact hX
  have HX := Lib.hid (show bits .or .u64 0 ((k + 1023) * 4503599627370496) = (X : Int) by
    rw [show (k + 1023) * 4503599627370496 = (X : Int) by omega]; exact or_zero X (by omega))
  have HM := Lib.hid (show floatBits .mul .f64 4607182418800017408 X = some (FL.powB k) by
    rw [hp, ← hX]
    obtain ⟨n, hn⟩ : ∃ n : Nat, (k + 1023).toNat = n + 1 := ⟨(k + 1022).toNat, by omega⟩
    rw [hn]
    exact FL.mul_norm ⟨n, by omega⟩)
  clear hX hp
  go_enter Try.func47, Try.ntmps47
  go_upto_region 21 with (first
    | (go_at_call 37; refine (isNaN_any 4607182418800017408 _).mono ?_; rw [HN.out]; rintro e w' ⟨rfl, rfl⟩)
    | (go_at_call 38; refine (isInf_any 4607182418800017408 (by omega) _).mono ?_; rw [HI.out]; rintro e w' ⟨rfl, rfl⟩)
    | (go_at_call 56; refine (normalize_one _).mono ?_; rintro e w' ⟨rfl, rfl⟩))
  rw [HX.out]
  have r2 := run_frombits X w
  have r3 := run_float_arith (P := Try.prog) w .mul 35 .f64 4607182418800017408 X (FL.powB k) HM.out
  go_wp2_with (fail)
  go_ret
  exact ⟨rfl, rfl⟩
theorem ldexp_sub {k : Int} (h1 : -1074 ≤ k) (h2 : k < -1022) (w : World) : Calls Try.prog 47 #[.float .f64 4607182418800017408, .int .i64 k] w fun e w' => e = .returned (.float .f64 (FL.powB k)) ∧ w = w' := by
  have f1 : FloatKind.f64.format.order 4607182418800017408 0 = some .gt := by decide +kernel
  have HN := Lib.hid (show (FloatKind.f64.format.order 4607182418800017408 4607182418800017408 != some .eq) = false by decide +kernel)
  have HI := Lib.hid (show (FloatKind.f64.format.order (4607182418800017408 % 9223372036854775808) 9218868437227405311 == some .gt) = false by decide +kernel)
  have g1 : bits .andNot .u64 4607182418800017408 9218868437227405312 = 0 := by decide +kernel
  have g2 : bits .and .i64 1023 2047 = 1023 := by decide +kernel
  have r1 := run_bits 4607182418800017408 w
  obtain ⟨X, hX⟩ : ∃ X, (k + 53 + 1023).toNat * 4503599627370496 = X := ⟨_, rfl⟩
  have HX := Lib.hid (show bits .or .u64 0 ((k + 53 + 1023) * 4503599627370496) = (X : Int) by
    rw [show (k + 53 + 1023) * 4503599627370496 = (X : Int) by omega]; exact or_zero X (by omega))
  have HM := Lib.hid (show floatBits .mul .f64 4368491638549381120 X = some (FL.powB k) by
    rw [← hX]
    obtain ⟨n, hn⟩ : ∃ n : Nat, (k + 53 + 1023).toNat = n + 2 := ⟨(k + 1074).toNat, by omega⟩
    rw [hn, show FL.powB k = 2 ^ n by unfold FL.powB; rw [if_pos (by omega)]; congr 1; omega]
    exact FL.mul_sub ⟨n, by omega⟩)
  clear hX
  go_enter Try.func47, Try.ntmps47
  go_upto_region 21 with (first
    | (go_at_call 37; refine (isNaN_any 4607182418800017408 _).mono ?_; rw [HN.out]; rintro e w' ⟨rfl, rfl⟩)
    | (go_at_call 38; refine (isInf_any 4607182418800017408 (by omega) _).mono ?_; rw [HI.out]; rintro e w' ⟨rfl, rfl⟩)
    | (go_at_call 56; refine (normalize_one _).mono ?_; rintro e w' ⟨rfl, rfl⟩))
  rw [HX.out]
  have r2 := run_frombits X w
  have r3 := run_float_arith (P := Try.prog) w .mul 35 .f64 4368491638549381120 X (FL.powB k) HM.out
  go_wp2_with (fail)
  go_ret
  exact ⟨rfl, rfl⟩
theorem ldexp_any {k : Int} (h1 : -1074 ≤ k) (h2 : k ≤ 1023) (w : World) : Calls Try.prog 29 #[.float .f64 4607182418800017408, .int .i64 k] w fun e w' => e = .returned (.float .f64 (FL.powB k)) ∧ w = w' := by
  have H : ∀ w, Calls Try.prog 47 #[.float .f64 4607182418800017408, .int .i64 k] w fun e w' => e = .returned (.float .f64 (FL.powB k)) ∧ w = w' := fun w => by
    rcases Int.lt_or_le k (-1022) with h | h
    · exact ldexp_sub h1 h w
    · exact ldexp_norm h h2 w
  have HL := Lib.hid H
  clear H h1 h2
  go_enter Try.func29, Try.ntmps29
  go_wp2_with (go_at_call 47; refine (HL.out _).mono ?_; rintro e w' ⟨rfl, rfl⟩)
  go_ret
  exact ⟨rfl, rfl⟩
end Go.Proofs.Ytaeffkgnfbomdaa
