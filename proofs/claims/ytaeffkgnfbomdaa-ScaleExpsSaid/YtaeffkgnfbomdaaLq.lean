/- THE LAW 'ScaleExps', whatever comes in. -/
import Derived.Test.YtaeffkgnfbomdaaWt
namespace Go.Proofs.Ytaeffkgnfbomdaa
open Go.RowKit
set_option maxRecDepth 100000
theorem upper_no {s i : Int} (hs : s < -4 ∨ 8 < s) (w : World) : Calls Try.prog 23 #[.int .i64 s, .int .i64 i] w fun e w' => e = .returned (.tuple #[.float .f64 0, .int .i64 2]) ∧ Below w.heap.size w w' := by
  have HE := Lib.hid (fun w => ends_no hs w)
  clear hs
  go_enter Try.func23, Try.ntmps23
  go_wp2_with (go_at_call 21; refine (HE.out _).mono ?_; rintro e w' ⟨rfl, rfl⟩)
  go_ret2
  exact ⟨rfl, ((Below.refl _ _).alloc (Nat.le_refl _) _).alloc (by simp) _⟩
theorem upper_low {s i : Int} (hs1 : -4 ≤ s) (hs2 : s ≤ 8) (hi : i < FL.bk s 1 - 1) (w : World) : Calls Try.prog 23 #[.int .i64 s, .int .i64 i] w fun e w' => e = .returned (.tuple #[.float .f64 0, .int .i64 2]) ∧ Below w.heap.size w w' := by
  have HE := Lib.hid (fun w => ends_yes hs1 hs2 w)
  obtain ⟨⟨hf1, hf2⟩, _⟩ := ends_in hs1 hs2
  generalize FL.bk s 1 = f at *
  generalize FL.bk s 9218868437227405311 = g at *
  clear hs1 hs2
  go_enter Try.func23, Try.ntmps23
  go_wp2_with (go_at_call 21; refine (HE.out _).mono ?_; rintro e w' ⟨rfl, rfl⟩)
  go_ret2
  exact ⟨rfl, ((Below.refl _ _).alloc (Nat.le_refl _) _).alloc (by simp) _⟩
theorem exp_both (s : Int) (b : Nat) (hb : b < 18446744073709551616) : ∃ y0 y1 ey : Int, (∀ w, Calls Try.prog 19 #[.int .i64 s, .float .f64 b] w fun e w' => e = .returned (.tuple #[.agg #[.int .i64 y0, .int .i64 y1], .int .i64 ey]) ∧ Below w.heap.size w w') ∧ ∀ w, Calls Try.prog 20 #[.int .i64 s, .float .f64 b] w fun e w' => e = .returned (.tuple #[.agg #[.int .i64 y0, .int .i64 y1], .int .i64 ey]) ∧ Below w.heap.size w w' := by
  by_cases hs : s < -4 ∨ 8 < s
  · exact ⟨0, 0, 2, fun w => exp_bad w hs, fun w => refExp_bad w hs⟩
  · rcases kinds b hb with ⟨h1, h2⟩ | ⟨c, rfl, h1, h2⟩ | h | h | h
    · exact ⟨1, _, 0, fun w => exp_pos w (by omega) (by omega) h1 h2, fun w => refExp_pos w (by omega) (by omega) h1 h2⟩
    · exact ⟨-1, _, 0, fun w => exp_neg w (by omega) (by omega) h1 h2, fun w => refExp_neg w (by omega) (by omega) h1 h2⟩
    · exact ⟨0, 0, 0, fun w => exp_zero w (by omega) (by omega) h, fun w => refExp_zero w (by omega) (by omega) h⟩
    · exact ⟨0, 0, 81, fun w => exp_inf w (by omega) (by omega) h, fun w => refExp_fault w (by omega) (by omega) hb (by omega)⟩
    · exact ⟨0, 0, 81, fun w => exp_nan w (by omega) (by omega) h, fun w => refExp_fault w (by omega) (by omega) hb (by omega)⟩
theorem ends_both (s : Int) : ∃ y0 y1 ey : Int, (∀ w, Calls Try.prog 21 #[.int .i64 s] w fun e w' => e = .returned (.tuple #[.int .i64 y0, .int .i64 y1, .int .i64 ey]) ∧ w = w') ∧ ∀ w, Calls Try.prog 22 #[.int .i64 s] w fun e w' => e = .returned (.tuple #[.int .i64 y0, .int .i64 y1, .int .i64 ey]) ∧ Below w.heap.size w w' := by
  by_cases hs : s < -4 ∨ 8 < s
  · exact ⟨0, 0, 2, fun w => ends_no hs w, fun w => (refEnds_no hs w).mono fun _ _ ⟨a, b⟩ => ⟨a, b ▸ Below.refl _ _⟩⟩
  · exact ⟨_, _, 0, fun w => ends_yes (by omega) (by omega) w, fun w => refEnds_yes (by omega) (by omega) w⟩
theorem upper_both (s i : Int) : ∃ (u : Nat) (ey : Int), (∀ w, Calls Try.prog 23 #[.int .i64 s, .int .i64 i] w fun e w' => e = .returned (.tuple #[.float .f64 u, .int .i64 ey]) ∧ Below w.heap.size w w') ∧ ∀ w, Calls Try.prog 24 #[.int .i64 s, .int .i64 i] w fun e w' => e = .returned (.tuple #[.float .f64 u, .int .i64 ey]) ∧ Below w.heap.size w w' := by
  by_cases hs : s < -4 ∨ 8 < s
  · exact ⟨0, 2, fun w => upper_no hs w, fun w => refUpper_no hs w⟩
  · rcases Int.lt_or_le i (FL.bk s 1 - 1) with h1 | h1
    · exact ⟨0, 2, fun w => upper_low (by omega) (by omega) h1 w, fun w => refUpper_out (by omega) (by omega) (.inl h1) w⟩
    · rcases Int.lt_or_le (FL.bk s 9218868437227405311) i with h2 | h2
      · exact ⟨0, 2, fun w => upper_out (by omega) (by omega) h2 h1 w, fun w => refUpper_out (by omega) (by omega) (.inr h2) w⟩
      · obtain ⟨F, hF⟩ := FL.top_exists s i
        exact ⟨F, 0, fun w => upper_any (by omega) (by omega) h1 h2 hF w, fun w => refUpper_any (by omega) (by omega) h1 h2 hF w⟩
theorem exps_x {s i : Int} {b : Nat} {y0 y1 ey c d e2 e3 : Int} {u : Nat}
    (HX : Hid (∀ w, Calls Try.prog 19 #[.int .i64 s, .float .f64 b] w fun e w' => e = .returned (.tuple #[.agg #[.int .i64 y0, .int .i64 y1], .int .i64 ey]) ∧ Below w.heap.size w w'))
    (HY : Hid (∀ w, Calls Try.prog 20 #[.int .i64 s, .float .f64 b] w fun e w' => e = .returned (.tuple #[.agg #[.int .i64 y0, .int .i64 y1], .int .i64 ey]) ∧ Below w.heap.size w w'))
    (HE : Hid (∀ w, Calls Try.prog 21 #[.int .i64 s] w fun e w' => e = .returned (.tuple #[.int .i64 c, .int .i64 d, .int .i64 e2]) ∧ w = w'))
    (HF : Hid (∀ w, Calls Try.prog 22 #[.int .i64 s] w fun e w' => e = .returned (.tuple #[.int .i64 c, .int .i64 d, .int .i64 e2]) ∧ Below w.heap.size w w'))
    (HU : Hid (∀ w, Calls Try.prog 23 #[.int .i64 s, .int .i64 i] w fun e w' => e = .returned (.tuple #[.float .f64 u, .int .i64 e3]) ∧ Below w.heap.size w w'))
    (HV : Hid (∀ w, Calls Try.prog 24 #[.int .i64 s, .int .i64 i] w fun e w' => e = .returned (.tuple #[.float .f64 u, .int .i64 e3]) ∧ Below w.heap.size w w'))
    (HC : Hid (∀ w, Calls Try.prog 26 #[.int .i64 i] w fun e w' => e = .returned (.int .i64 (FL.co i)) ∧ w = w'))
    (HD : Hid (∀ w, Calls Try.prog 27 #[.int .i64 i] w fun e w' => e = .returned (.int .i64 (FL.co i)) ∧ w = w'))
    (w : World) : Calls Try.prog 4 #[.int .i64 s, .float .f64 b, .int .i64 i] w fun e w' => e = .returned (.bool true) ∧ Below w.heap.size w w' := by
  go_enter Try.func4, Try.ntmps4
  go_wp2_with (first
    | (go_at_call 18; (refine (begins_any _).mono ?_); rintro e w9 ⟨rfl, hb⟩; have HB9 := Lib.hid (two_stay HB8 hb); clear hb)
    | (go_at_call 19; ((with_reducible refine (HX.out _).mono ?_); rintro e w2 ⟨rfl, hb⟩; have HB2 := Lib.hid (grow2 (o := .cells #[.int .i64 y0, .int .i64 y1] 37) (Below.refl _ _) (Nat.le_refl _) hb); obtain ⟨a0, a1⟩ := new2 w2 (.int .i64 y0) (.int .i64 y1); clear hb))
    | (go_at_call 20; ((with_reducible refine (HY.out _).mono ?_); rintro e w3 ⟨rfl, hb⟩; have HB3 := Lib.hid (grow2 (o := .cells #[.int .i64 y0, .int .i64 y1] 37) HB2.out (Nat.le_refl _) hb); have a2 := (keep (o' := .cells #[.int .i64 y0, .int .i64 y1] 37) hb a0).2; have a3 := (keep (o' := .cells #[.int .i64 y0, .int .i64 y1] 37) hb a1).2; clear a0 a1; obtain ⟨b0, b1⟩ := new2 w3 (.int .i64 y0) (.int .i64 y1); clear hb))
    | (go_at_call 21; refine (HE.out _).mono ?_; rintro e wx ⟨rfl, rfl⟩)
    | (go_at_call 22; ((with_reducible refine (HF.out _).mono ?_); rintro e w4 ⟨rfl, hb⟩; have HB4 := Lib.hid (two_stay HB3 hb); clear hb))
    | (go_at_call 23; ((with_reducible refine (HU.out _).mono ?_); rintro e w5 ⟨rfl, hb⟩; have HB5 := Lib.hid (two_stay HB4 hb); clear hb))
    | (go_at_call 24; ((with_reducible refine (HV.out _).mono ?_); rintro e w6 ⟨rfl, hb⟩; have HB8 := Lib.hid (two_stay HB5 hb); have hr := run_bits u w6; clear hb))
    | (go_at_call 26; refine (HC.out _).mono ?_; rintro e wx ⟨rfl, rfl⟩)
    | (go_at_call 27; refine (HD.out _).mono ?_; rintro e wx ⟨rfl, rfl⟩))
  go_ret
  exact ⟨rfl, HB9.out⟩
theorem expsLaw_any (s : Int) (b : Nat) (i : Int) (hb : b < 18446744073709551616) (hi1 : -9223372036854775808 ≤ i) (hi2 : i ≤ 9223372036854775807) (w : World) : Calls Try.prog 4 #[.int .i64 s, .float .f64 b, .int .i64 i] w fun e w' => e = .returned (.bool true) ∧ Below w.heap.size w w' := by
  obtain ⟨y0, y1, ey, HX, HY⟩ := exp_both s b hb
  obtain ⟨c, d, e2, HE, HF⟩ := ends_both s
  obtain ⟨u, e3, HU, HV⟩ := upper_both s i
  exact exps_x (Lib.hid HX) (Lib.hid HY) (Lib.hid HE) (Lib.hid HF) (Lib.hid HU) (Lib.hid HV) (Lib.hid fun w => coarser_any i w hi1 hi2) (Lib.hid fun w => refCoarser_any i hi1 hi2 w) w
end Go.Proofs.Ytaeffkgnfbomdaa
