/- THE WALK of the law 'ScalePowers'. -/
import Derived.Test.YtaeffkgnfbomdaaWm
import Derived.Test.YtaeffkgnfbomdaaLk
namespace Go.Proofs.Ytaeffkgnfbomdaa
open Go.RowKit
set_option maxRecDepth 100000
theorem pow_out {s k : Int} (h : s < 0 ∨ 8 < s ∨ k < -1074 ∨ 1023 < k) (w : World) : Calls Try.prog 8 #[.int .i64 s, .int .i64 k] w fun e w' => e = .returned (.bool true) ∧ Below w.heap.size w w' := by
  have H := Lib.hid h
  by_cases h1 : s < 0
  · clear h
    go_enter Try.func8, Try.ntmps8
    go_wp2_with (go_at_call 18; (refine (begins_any _).mono ?_); rintro e w1 ⟨rfl, hb⟩; have HB1 := Lib.hid hb; clear hb)
    go_ret
    exact ⟨rfl, HB1.out⟩
  have k1 : 0 ≤ s := by omega
  clear h1
  by_cases h2 : 8 < s
  · clear h
    go_enter Try.func8, Try.ntmps8
    go_wp2_with (go_at_call 18; (refine (begins_any _).mono ?_); rintro e w1 ⟨rfl, hb⟩; have HB1 := Lib.hid hb; clear hb)
    go_ret
    exact ⟨rfl, HB1.out⟩
  have k2 : s ≤ 8 := by omega
  clear h2
  by_cases h3 : k < -1074
  · clear h
    go_enter Try.func8, Try.ntmps8
    go_wp2_with (go_at_call 18; (refine (begins_any _).mono ?_); rintro e w1 ⟨rfl, hb⟩; have HB1 := Lib.hid hb; clear hb)
    go_ret
    exact ⟨rfl, HB1.out⟩
  have k3 : -1074 ≤ k := by omega
  have k4 : 1023 < k := by omega
  clear h h3
  go_enter Try.func8, Try.ntmps8
  go_wp2_with (go_at_call 18; (refine (begins_any _).mono ?_); rintro e w1 ⟨rfl, hb⟩; have HB1 := Lib.hid hb; clear hb)
  go_ret
  exact ⟨rfl, HB1.out⟩
theorem pow_in {n : Nat} {k kT T : Int} {X : Nat} (hn : (n : Int) ≤ 8) (hT : IntKind.i64.wrap ((2 : Int) ^ n) = T) (hkT : IntKind.i64.wrap (k * T) = kT) (h1 : -1074 ≤ k) (h2 : k ≤ 1023)
    (HL : Hid (∀ w, Calls Try.prog 29 #[.float .f64 4607182418800017408, .int .i64 k] w fun e w' => e = .returned (.float .f64 X) ∧ w = w'))
    (HX : Hid (∀ w, Calls Try.prog 19 #[.int .i64 n, .float .f64 X] w fun e w' => e = .returned (.tuple #[.agg #[.int .i64 1, .int .i64 kT], .int .i64 0]) ∧ Below w.heap.size w w'))
    (HU : Hid (∀ w, Calls Try.prog 23 #[.int .i64 n, .int .i64 kT] w fun e w' => e = .returned (.tuple #[.float .f64 X, .int .i64 0]) ∧ Below w.heap.size w w')) (w : World) : Calls Try.prog 8 #[.int .i64 n, .int .i64 k] w fun e w' => e = .returned (.bool true) ∧ Below w.heap.size w w' := by
  go_enter Try.func8, Try.ntmps8
  go_upto_region 8 with (first
    | (go_at_call 18; (refine (begins_any _).mono ?_); rintro e w1 ⟨rfl, hb⟩; have HB1 := Lib.hid hb; clear hb)
    | (go_at_call 29; (refine (HL.out _).mono ?_); rintro e wx ⟨rfl, rfl⟩)
    | (go_at_call 19; ((with_reducible refine (HX.out _).mono ?_); rintro e w2 ⟨rfl, hb⟩; have HB2 := Lib.hid (grow2 (o := .cells #[.int .i64 1, .int .i64 kT] 37) HB1.out (Nat.le_refl _) hb); obtain ⟨a0, a1⟩ := new2 w2 (.int .i64 1) (.int .i64 kT); clear hb))
    | (go_at_call 23; ((with_reducible refine (HU.out _).mono ?_); rintro e w5 ⟨rfl, hb⟩; have a2 := (keep (o' := .cells #[] 37) hb a0).1; have a3 := (keep (o' := .cells #[] 37) hb a1).1; have HB5 := Lib.hid (HB2.out.trans (hb.mono (by have := HB2.out.size; simpa using this))); clear hb a0 a1)))
  have hr : ∀ j, (callFunc 25 #[.float .f64 X]).run Try.prog (w5.drewN j) = .ok (.value (.int .u64 X)) (w5.drewN j) := fun j => run_bits X _
  have hr0 := run_bits X w5
  go_quiet (fail)
  go_wp2_with (fail)
  go_ret
  exact ⟨rfl, Below.drewN' HB5.out _⟩
theorem pow_law_any (s k : Int) (w : World) : Calls Try.prog 8 #[.int .i64 s, .int .i64 k] w fun e w' => e = .returned (.bool true) ∧ Below w.heap.size w w' := by
  by_cases h : s < 0 ∨ 8 < s ∨ k < -1074 ∨ 1023 < k
  · exact pow_out h w
  obtain ⟨n, rfl⟩ := Int.eq_ofNat_of_zero_le (show 0 ≤ s by omega)
  have hn : n ≤ 8 := by omega
  have h1 : -1074 ≤ k := by omega
  have h2 : k ≤ 1023 := by omega
  obtain ⟨p1, p2⟩ := FL.powB_in h1 h2
  have hb := FL.powB_bk hn h1 h2
  have ht := FL.powB_top hn h1 h2
  have hin := bk_in (s := (n : Int)) p1 p2
  have hp : (2 : Int) ^ n ≤ 256 ∧ 1 ≤ (2 : Int) ^ n ∧ -274944 ≤ k * 2 ^ n ∧ k * 2 ^ n ≤ 261888 := by
    obtain rfl | rfl | rfl | rfl | rfl | rfl | rfl | rfl | rfl : n = 0 ∨ n = 1 ∨ n = 2 ∨ n = 3 ∨ n = 4 ∨ n = 5 ∨ n = 6 ∨ n = 7 ∨ n = 8 := by omega
    all_goals (simp only [show (2 : Int) ^ 0 = 1 from rfl, show (2 : Int) ^ 1 = 2 from rfl, show (2 : Int) ^ 2 = 4 from rfl, show (2 : Int) ^ 3 = 8 from rfl, show (2 : Int) ^ 4 = 16 from rfl, show (2 : Int) ^ 5 = 32 from rfl, show (2 : Int) ^ 6 = 64 from rfl, show (2 : Int) ^ 7 = 128 from rfl, show (2 : Int) ^ 8 = 256 from rfl]; omega)
  rw [hb] at hin
  refine pow_in (n := n) (k := k) (kT := k * 2 ^ n) (T := 2 ^ n) (X := FL.powB k) (by omega) (IntWalk.i64_in _ (by omega)) (IntWalk.i64_in _ (by omega)) h1 h2 (Lib.hid fun w => ldexp_any h1 h2 w) (Lib.hid fun w => ?_) (Lib.hid fun w => upper_any (by omega) (by omega) (by omega) (by omega) ht w) w
  have := exp_pos (s := (n : Int)) (b := FL.powB k) w (by omega) (by omega) p1 p2
  rwa [hb] at this
end Go.Proofs.Ytaeffkgnfbomdaa
