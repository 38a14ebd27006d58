/- THE WALKS of the exponential scale's small functions. -/
import Derived.Test.YtaeffkgnfbomdaaWf
import Derived.Test.YtaeffkgnfbomdaaExp
import Derived.Laws.Cover2
import Derived.Laws.Externs
import Derived.Laws.Bits64b
namespace Go.Proofs.Ytaeffkgnfbomdaa
open Go.RowKit

theorem and1_i64 (i : Int) : bits .and .i64 i 1 = i % 2 := by
  have h1 : (BitVec.ofInt 64 i).toNat = (i % 18446744073709551616).toNat := BitVec.toNat_ofInt i
  show IntKind.i64.wrap ((BitVec.ofInt 64 i &&& BitVec.ofInt 64 1).toNat : Int) = _
  rw [BitVec.toNat_and, h1, show (BitVec.ofInt 64 1).toNat = 1 from rfl, Nat.and_one_is_mod, IntKind.wrap_i64]
  omega
theorem and52 (b : Nat) (h : b < 18446744073709551616) : bits .and .u64 (b : Int) 4503599627370495 = ((b % 4503599627370496 : Nat) : Int) := by
  have h1 := bits_and_u64_nat b 4503599627370495 h (by omega)
  have e : b &&& 4503599627370495 = b % 4503599627370496 := Nat.and_two_pow_sub_one_eq_mod b 52
  rw [e] at h1
  exact h1
theorem andNot63 (b : Nat) (h : b < 18446744073709551616) : bits .andNot .u64 (b : Int) 9223372036854775808 = ((b % 9223372036854775808 : Nat) : Int) := by
  have h1 : (BitVec.ofInt 64 (b : Int)).toNat = b := by
    rw [BitVec.ofInt_natCast, BitVec.toNat_ofNat]; exact Nat.mod_eq_of_lt (by omega)
  show IntKind.u64.wrap ((BitVec.ofInt 64 (b : Int) &&& ~~~BitVec.ofInt 64 9223372036854775808).toNat : Int) = _
  rw [BitVec.toNat_and, h1, show (~~~BitVec.ofInt 64 9223372036854775808).toNat = 2 ^ 63 - 1 from rfl, Nat.and_two_pow_sub_one_eq_mod, IntKind.wrap_u64]
  omega
theorem or_join (a p : Nat) (h : a * 2 ^ (p + 1) + 2 ^ p < 18446744073709551616) : bits .or .u64 ((a * 2 ^ (p + 1) : Nat) : Int) ((2 ^ p : Nat) : Int) = ((a * 2 ^ (p + 1) + 2 ^ p : Nat) : Int) := by
  have hp := Nat.two_pow_pos p
  rw [bits_or_u64_nat _ _ (Nat.lt_of_le_of_lt (Nat.le_add_right _ _) h) (Nat.lt_of_le_of_lt (Nat.le_add_left _ _) h)]
  have := Nat.two_pow_add_eq_or_of_lt (i := p + 1) (b := 2 ^ p) (by rw [Nat.pow_succ]; have := Nat.two_pow_pos p; omega) a
  rw [Nat.mul_comm a, ← this]
theorem or52 (b : Nat) (h : b < 4503599627370496) : bits .or .u64 (b : Int) 4503599627370496 = ((4503599627370496 + b : Nat) : Int) := by
  have h1 := bits_or_u64_nat b 4503599627370496 (by omega) (by omega)
  have e := Nat.two_pow_add_eq_or_of_lt (i := 52) (b := b) (by omega) 1
  rw [Nat.or_comm, show 4503599627370496 ||| b = 4503599627370496 + b from e.symm] at h1
  exact h1

theorem run_bits (b : Nat) (w : World) : (callFunc 25 #[.float .f64 b]).run Try.prog w = .ok (.value (.int .u64 b)) w := by
  rw [run_callFunc_extern (P := Try.prog) Try.func25 (by kernel_rfl) (by kernel_rfl) (by kernel_rfl) (e := Extern.MathFloatBits.float64bits) (by kernel_rfl)]
  rfl
theorem run_frombits (n : Nat) (w : World) : (callFunc 45 #[.int .u64 (n : Int)]).run Try.prog w = .ok (.value (.float .f64 n)) w := by
  rw [run_callFunc_extern (P := Try.prog) Try.func45 (by kernel_rfl) (by kernel_rfl) (by kernel_rfl) (e := Extern.MathFloatBits.float64frombits) (by kernel_rfl)]
  rfl

theorem isSchema_any (s : Int) (w : World) : Calls Try.prog 36 #[.int .i64 s] w fun e w' => e = .returned (.bool (decide (-4 ≤ s) && decide (s ≤ 8))) ∧ w = w' := by
  go_enter Try.func36, Try.ntmps36
  go_wp2
  all_goals (go_ret; refine ⟨?_, rfl⟩; congr 2; simp; omega)
theorem isNaN_any (b : Nat) (w : World) : Calls Try.prog 37 #[.float .f64 b] w fun e w' => e = .returned (.bool (FloatKind.f64.format.order b b != some .eq)) ∧ w = w' := by
  go_enter Try.func37, Try.ntmps37
  go_wp2
  go_ret
  exact ⟨rfl, rfl⟩
theorem abs_any (b : Nat) (h : b < 18446744073709551616) (w : World) : Calls Try.prog 28 #[.float .f64 b] w fun e w' => e = .returned (.float .f64 (b % 9223372036854775808)) ∧ w = w' := by
  have h1 := run_bits b w
  have h2 := andNot63 b h
  have h3 : (callFunc 45 #[.int .u64 ((b : Int) % 9223372036854775808)]).run Try.prog w = .ok (.value (.float .f64 (b % 9223372036854775808))) w := run_frombits (b % 9223372036854775808) w
  clear h
  go_enter Try.func28, Try.ntmps28
  go_wp2
  go_ret
  exact ⟨rfl, rfl⟩
theorem coarser_any (i : Int) (w : World) (h1 : -9223372036854775808 ≤ i) (h2 : i ≤ 9223372036854775807) : Calls Try.prog 26 #[.int .i64 i] w fun e w' => e = .returned (.int .i64 (FL.co i)) ∧ w = w' := by
  go_enter Try.func26, Try.ntmps26
  go_wp2
  go_ret
  refine ⟨ret_int ?_, rfl⟩
  rw [and1_i64, wrap64_in (by omega)]
  unfold FL.co
  omega
theorem lz_any (x : Int) (w : World) (h0 : 0 ≤ x) (h1 : x ≤ 18446744073709551615) : Calls Try.prog 59 #[.int .u64 x] w fun e w' => e = .returned (.int .i64 (64 - (Lib.bitLen x.toNat : Int))) ∧ w = w' :=
  (Try.bits_LeadingZeros64 x w h0 h1).mono fun _ _ ⟨a, b⟩ => ⟨a, b.symm⟩
theorem apart_sub {b : Nat} (w : World) (h0 : 0 < b) (h : (b : Int) < 4503599627370496) : Calls Try.prog 50 #[.float .f64 b] w fun e w' => e = .returned (.tuple #[.int .u64 (FL.part b), .int .i64 (FL.power b)]) ∧ w = w' := by
  have h1 := run_bits b w
  have h2 := and52 b (by omega)
  have h3 : (b : Int) % 4503599627370496 = b := by omega
  have h4 : (b : Int) / 4503599627370496 = 0 := by omega
  have em : FL.mant b = b := by unfold FL.mant; rw [if_pos (by omega)]
  have ep : FL.pw b = 1 := by unfold FL.pw; rw [if_pos (by omega)]
  obtain ⟨l1, l2, l3, l4⟩ := FL.mant_bl (b := b) (by omega)
  have hP : FL.part b = FL.mant b * 2 ^ (64 - Lib.bitLen (FL.mant b)) := rfl
  have hQ : FL.power b = (FL.pw b : Int) + Lib.bitLen (FL.mant b) - 1076 := rfl
  have hin := FL.part_in (b := b) (by omega)
  rw [em] at hP hQ l1 l2 l3 l4
  rw [ep] at hQ
  clear em ep
  generalize FL.part b = p at *
  generalize FL.power b = q at *
  obtain ⟨S, hS⟩ : ∃ S : Nat, (64 : Int) - (Lib.bitLen b : Int) = (S : Int) := ⟨64 - Lib.bitLen b, by omega⟩
  rw [show 64 - Lib.bitLen b = S by omega] at hP
  have hp : (b : Int) * 2 ^ S = (p : Int) := by rw [hP]; simp
  have HP := Lib.hid hp
  have HW := Lib.hid (show IntKind.u64.wrap (p : Int) = p from IntWalk.u64_in _ (by omega))
  have hS2 : (S : Int) ≤ 63 := by omega
  have HQ := Lib.hid hQ
  have HS := Lib.hid hS
  clear hp hQ hS hP l1 l2 l3 l4 hin
  go_enter Try.func50, Try.ntmps50
  go_wp2_with (go_at_call 59; refine (lz_any (b : Int) _ (by omega) (by omega)).mono ?_; rw [Int.toNat_natCast, HS.out]; rintro e w' ⟨rfl, rfl⟩)
  go_ret2
  refine ⟨?_, rfl⟩
  show Ending.returned (.tuple #[.int .u64 (IntKind.u64.wrap (b * 2 ^ S)), .int .i64 (-1011 - S)]) = _
  rw [HP.out, HW.out, show (-1011 - S : Int) = q by have := HQ.out; have := HS.out; omega]
set_option maxRecDepth 100000 in
theorem apart_norm {b : Nat} (w : World) (h0 : 4503599627370496 ≤ b) (h : b < 9218868437227405312) : Calls Try.prog 50 #[.float .f64 b] w fun e w' => e = .returned (.tuple #[.int .u64 (FL.part b), .int .i64 (FL.power b)]) ∧ w = w' := by
  have h1 := run_bits b w
  have em : FL.mant b = 4503599627370496 + b % 4503599627370496 := by unfold FL.mant; rw [if_neg (by omega)]
  have ep : FL.pw b = b / 4503599627370496 := by unfold FL.pw; rw [if_neg (by omega)]
  have h2 := and52 b (by omega)
  have h3 : (b : Int) / 4503599627370496 = ((b / 4503599627370496 : Nat) : Int) := by omega
  have h5 := or52 (b % 4503599627370496) (by omega)
  have hc : 1 ≤ ((b / 4503599627370496 : Nat) : Int) ∧ ((b / 4503599627370496 : Nat) : Int) ≤ 2046 := by omega
  have hr : ((b % 4503599627370496 : Nat) : Int) < 4503599627370496 := by omega
  obtain ⟨hc1, hc2⟩ := hc
  obtain ⟨m, hm⟩ : ∃ m : Nat, 4503599627370496 + b % 4503599627370496 = m := ⟨_, rfl⟩
  rw [hm] at em h5
  generalize b / 4503599627370496 = c at *
  have hm1 : (m : Int) < 9007199254740992 := by omega
  have hm2 : 4503599627370496 ≤ (m : Int) := by omega
  clear hm
  generalize b % 4503599627370496 = r at *
  obtain ⟨l1, l2, l3, l4⟩ := FL.mant_bl (b := b) (by omega)
  have hP : FL.part b = FL.mant b * 2 ^ (64 - Lib.bitLen (FL.mant b)) := rfl
  have hQ : FL.power b = (FL.pw b : Int) + Lib.bitLen (FL.mant b) - 1076 := rfl
  have hin := FL.part_in (b := b) (by omega)
  rw [em] at hP hQ l1 l2 l3 l4
  rw [ep] at hQ
  clear em ep
  generalize FL.part b = p at *
  generalize FL.power b = q at *
  obtain ⟨S, hS⟩ : ∃ S : Nat, (64 : Int) - (Lib.bitLen m : Int) = (S : Int) := ⟨64 - Lib.bitLen m, by omega⟩
  rw [show 64 - Lib.bitLen m = S by omega] at hP
  have hp : (m : Int) * 2 ^ S = (p : Int) := by rw [hP]; simp
  have HP := Lib.hid hp
  have HW := Lib.hid (show IntKind.u64.wrap (p : Int) = p from IntWalk.u64_in _ (by omega))
  have hS2 : (S : Int) ≤ 63 := by omega
  have HQ := Lib.hid hQ
  have HS := Lib.hid hS
  clear hp hQ hS hP l1 l2 l3 l4 hin
  clear h0 h hm2
  have hd : decide (0 < c) = true := by simp; omega
  go_enter Try.func50, Try.ntmps50
  go_wp2_with (go_at_call 59; refine (lz_any (m : Int) _ (by omega) (by omega)).mono ?_; rw [Int.toNat_natCast, HS.out]; rintro e w' ⟨rfl, rfl⟩)
  go_ret2
  refine ⟨?_, rfl⟩
  show Ending.returned (.tuple #[.int .u64 (IntKind.u64.wrap (m * 2 ^ S)), .int .i64 ((c : Int) - 1023 + 63 - 52 - S)]) = _
  rw [HP.out, HW.out, show ((c : Int) - 1023 + 63 - 52 - S : Int) = q by have := HQ.out; have := HS.out; omega]
theorem apart_any {b : Nat} (w : World) (h0 : 0 < b) (h : b < 9218868437227405312) : Calls Try.prog 50 #[.float .f64 b] w fun e w' => e = .returned (.tuple #[.int .u64 (FL.part b), .int .i64 (FL.power b)]) ∧ w = w' := by
  by_cases hb : b < 4503599627370496
  · exact apart_sub w h0 (by omega)
  · exact apart_norm w (by omega) h
end Go.Proofs.Ytaeffkgnfbomdaa
