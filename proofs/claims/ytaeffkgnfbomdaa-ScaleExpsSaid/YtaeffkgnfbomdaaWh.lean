/- THE WALKS of root and bucket. -/
import Derived.Test.YtaeffkgnfbomdaaWg
namespace Go.Proofs.Ytaeffkgnfbomdaa
open Go.RowKit
theorem mul64_any (x : Nat) (hx : x < 18446744073709551616) (w : World) : Calls Try.prog 60 #[.int .u64 x, .int .u64 x] w fun e w' => e = .returned (.tuple #[.int .u64 ((x * x / 18446744073709551616 : Nat) : Int), .int .u64 ((x * x % 18446744073709551616 : Nat) : Int)]) ∧ w = w' :=
  (Try.bits_Mul64 x x hx hx w).mono fun _ _ ⟨a, b⟩ => ⟨a, b.symm⟩
theorem sq_lt {x : Nat} (hx : x < 18446744073709551616) : x * x / 18446744073709551616 < 18446744073709551616 := by
  have : x * x < 18446744073709551616 * 18446744073709551616 := Nat.mul_lt_mul'' hx hx
  exact (Nat.div_lt_iff_lt_mul (by omega)).2 this
theorem root_one (w : World) : Calls Try.prog 51 #[.int .u64 9223372036854775808] w fun e w' => e = .returned (.int .i64 0) ∧ w = w' := by
  go_enter Try.func51, Try.ntmps51
  go_wp2
  go_ret
  exact ⟨rfl, rfl⟩
/-- the state of the loop: what is left of the part, the digits so far, how many rounds -/
def RootAt (part : Nat) (sp si sk : Value) : Prop := ∃ p i k : Nat, sp = .int .u64 p ∧ si = .int .i64 i ∧ sk = .int .i64 k ∧ k ≤ 8 ∧ p < 18446744073709551616 ∧ i < 2 ^ k ∧ FL.rl (8 - k) p i = FL.rl 8 part 0
theorem rl_hi {k p i q : Nat} (hk : k < 8) (hq : p * p / 18446744073709551616 = q) (h : 9223372036854775808 ≤ q) : FL.rl (8 - k) p i = FL.rl (8 - (k + 1)) q (2 * i + 1) := by
  rw [show 8 - k = (8 - (k + 1)) + 1 by omega, FL.rl, hq, if_pos h]
theorem rl_lo {k p i q : Nat} (hk : k < 8) (hq : p * p / 18446744073709551616 = q) (h : ¬ 9223372036854775808 ≤ q) : FL.rl (8 - k) p i = FL.rl (8 - (k + 1)) (2 * q) (2 * i) := by
  rw [show 8 - k = (8 - (k + 1)) + 1 by omega, FL.rl, hq, if_neg h]
theorem two_k {i k : Nat} (h : i < 2 ^ k) (hk : k ≤ 8) : i < 256 := by
  have : 2 ^ k ≤ 2 ^ 8 := Nat.pow_le_pow_right (by omega) hk
  omega
theorem root_any {part : Nat} (w : World) (h : part < 18446744073709551616) (hne : part ≠ 9223372036854775808) : Calls Try.prog 51 #[.int .u64 part] w fun e w' => e = .returned (.int .i64 (FL.rt part)) ∧ w = w' := by
  have hd : ((part : Int) == 9223372036854775808) = false := by simp; omega
  have hr : FL.rt part = FL.rl 8 part 0 + 1 := by unfold FL.rt; rw [if_neg hne]
  have hb := (FL.rl_bd 8 part 0).2
  have HN := Lib.hid h
  clear h hne
  rw [hr]
  have HB := Lib.hid hb
  clear hb hr
  go_enter Try.func51, Try.ntmps51
  go_wp2
  go_loop [0, 3, 6] (fun sp si sk => RootAt part sp si sk) (fun _ _ sk => (8 - intOf sk).toNat)
  case atStart => exact ⟨part, 0, 0, rfl, rfl, rfl, by omega, HN.out, by simp, rfl⟩
  case round =>
    obtain ⟨p, i, k, rfl, rfl, rfl, hk, hp, hi, hrl⟩ := hrel
    have hi8 := two_k hi hk
    have hi9 : (i : Int) < 256 := by omega
    have HP := Lib.hid hp
    have HI := Lib.hid hi
    have HR := Lib.hid hrl
    have hq := sq_lt hp
    clear hp hi hrl hi8
    by_cases hlt : (k : Int) < 8
    · obtain ⟨q, hqe⟩ : ∃ q, p * p / 18446744073709551616 = q := ⟨_, rfl⟩
      rw [hqe] at hq
      have hqi : (q : Int) < 18446744073709551616 := by omega
      have HQ := Lib.hid hqe
      clear hqe hq
      rcases Int.lt_or_le (q : Int) 9223372036854775808 with hge | hge
      · have HL := Lib.hid (rl_lo (i := i) (k := k) (by omega) HQ.out (by omega))
        have HT := Lib.hid (show decide ((9223372036854775808 : Int) ≤ (q : Int)) = false from decide_eq_false (by omega))
        have HG := Lib.hid hge
        clear hge
        go_upto_if 17 with (go_at_call 60; refine (mul64_any p HP.out _).mono ?_; rw [HQ.out]; rintro e w' ⟨rfl, rfl⟩)
        rw [HT.out]
        go_wp2_with (fail)
        go_round
        case rel =>
          have h2 := HI.out
          have h3 := HG.out
          exact ⟨2 * q, 2 * i, k + 1, by rw [IntWalk.u64_in _ (by omega)]; go_num, by go_num, by go_num, by omega, by omega, by rw [Nat.pow_succ]; omega, HL.out.symm.trans HR.out⟩
        case measure => simp [intOf]; omega
      · have HL := Lib.hid (rl_hi (i := i) (k := k) (by omega) HQ.out (by omega))
        go_wp2_with (go_at_call 60; refine (mul64_any p HP.out _).mono ?_; rw [HQ.out]; rintro e w' ⟨rfl, rfl⟩)
        go_round
        case rel =>
          have h2 := HI.out
          exact ⟨q, 2 * i + 1, k + 1, by go_num, by go_num, by go_num, by omega, by omega, by rw [Nat.pow_succ]; omega, HL.out.symm.trans HR.out⟩
        case measure => simp [intOf]; omega
    · obtain rfl : k = 8 := by omega
      have hlt' : ¬ (8 : Int) < 8 := by omega
      clear hlt hk
      have hz : i = FL.rl 8 part 0 := HR.out
      have HZ := Lib.hid hz
      clear hz
      go_wp2
      go_ret
      exact ⟨ret_int (by rw [← HZ.out]), rfl⟩
theorem root_all {part : Nat} (w : World) (h : part < 18446744073709551616) : Calls Try.prog 51 #[.int .u64 part] w fun e w' => e = .returned (.int .i64 (FL.rt part)) ∧ w = w' := by
  by_cases h1 : part = 9223372036854775808
  · subst h1
    refine (root_one w).mono fun e w' ⟨a, b⟩ => ⟨by rw [a]; rfl, b⟩
  · exact root_any w h h1
theorem coN_bd (k : Nat) : ∀ i : Int, -4611686018427387904 ≤ i → i ≤ 4611686018427387904 → -4611686018427387904 ≤ FL.coN k i ∧ FL.coN k i ≤ 4611686018427387904 := by
  induction k with
  | zero => intro i h1 h2; exact ⟨h1, h2⟩
  | succ k ih => intro i h1 h2; exact ih _ (by unfold FL.co; omega) (by unfold FL.co; omega)
theorem power_in {b : Nat} (h0 : 0 < b) (h : b < 9218868437227405312) : -1075 ≤ FL.power b ∧ FL.power b ≤ 1023 := by
  obtain ⟨l1, l2, l3, l4⟩ := FL.mant_bl h0
  unfold FL.power
  have h1 := FL.pw_pos b
  have h2 : FL.pw b ≤ 2046 := by unfold FL.pw; split <;> omega
  omega
theorem ix_in {b : Nat} (h0 : 0 < b) (h : b < 9218868437227405312) : -275200 ≤ FL.ix b ∧ FL.ix b ≤ 262144 := by
  have h1 := power_in h0 h
  have h2 := FL.rt_le (FL.part b)
  unfold FL.ix
  omega
def BAt (S : Nat) (v : Int) (s7 s20 : Value) : Prop := ∃ (k : Nat) (y : Int), s7 = .int .i64 y ∧ s20 = .int .i64 k ∧ k ≤ S ∧ -4611686018427387904 ≤ y ∧ y ≤ 4611686018427387904 ∧ FL.coN (S - k) y = v
theorem coN_step {S k : Nat} {y v : Int} (hk : k < S) (h : FL.coN (S - k) y = v) : FL.coN (S - (k + 1)) (FL.co y) = v := by
  rw [show S - k = (S - (k + 1)) + 1 by omega] at h; exact h
theorem bucket_any {s : Int} {b : Nat} (w : World) (hs1 : -4 ≤ s) (hs2 : s ≤ 8) (h0 : 0 < b) (h : b < 9218868437227405312) : Calls Try.prog 39 #[.int .i64 s, .float .f64 b] w fun e w' => e = .returned (.int .i64 (FL.bk s b)) ∧ w = w' := by
  obtain ⟨p1, p2⟩ := power_in h0 h
  obtain ⟨i1, i2⟩ := ix_in h0 h
  have hr := FL.rt_le (FL.part b)
  have hp := (FL.part_in h0).2
  have hix : FL.ix b = FL.power b * 256 + FL.rt (FL.part b) := rfl
  have HA := Lib.hid (fun w => apart_any w h0 h)
  have HBK := Lib.hid (show FL.bk s b = FL.coN (8 - s).toNat (FL.ix b) from rfl)
  generalize FL.bk s b = v at *
  generalize FL.part b = part at *
  generalize FL.power b = pow at *
  have HR := Lib.hid (fun w => root_all (part := part) w hp)
  generalize FL.rt part = r at *
  generalize FL.ix b = x at *
  have hr1 : (r : Int) ≤ 256 := by omega
  have HX := Lib.hid (show pow * 256 + r = x by omega)
  clear h0 h hix hr hp
  go_enter Try.func39, Try.ntmps39
  go_upto_region 3 with (first
    | (go_at_call 50; refine (HA.out _).mono ?_; rintro e w' ⟨rfl, rfl⟩)
    | (go_at_call 51; refine (HR.out _).mono ?_; rintro e w' ⟨rfl, rfl⟩))
  rw [HX.out]
  obtain ⟨S, hS⟩ : ∃ S : Nat, 8 - s = (S : Int) := ⟨(8 - s).toNat, by omega⟩
  have hv : FL.coN (S - 0) x = v := by rw [HBK.out, hS]; simp
  have HV := Lib.hid hv
  have hS12 : (S : Int) ≤ 12 := by omega
  have HS := Lib.hid hS
  clear hv hS
  go_wp2_with (fail)
  rw [HS.out]
  go_loop [7, 20] (fun s7 s20 => BAt S v s7 s20) (fun _ s20 => (S - intOf s20).toNat)
  case atStart => exact ⟨0, x, rfl, rfl, Nat.zero_le _, by omega, by omega, HV.out⟩
  case round =>
    obtain ⟨k, y, rfl, rfl, hk, hy1, hy2, hc⟩ := hrel
    have HC := Lib.hid hc
    clear hc
    have hk12 : (k : Int) ≤ 12 := by omega
    by_cases hlt : (k : Int) < S
    · go_wp2_with (go_at_call 26; refine (coarser_any y _ (by omega) (by omega)).mono ?_; rintro e w' ⟨rfl, rfl⟩)
      go_round
      case rel => exact ⟨k + 1, FL.co y, rfl, by go_num, by omega, by unfold FL.co; omega, by unfold FL.co; omega, coN_step (by omega) HC.out⟩
      case measure => simp [intOf]; omega
    · have hz : y = v := by have := HC.out; rw [show S - k = 0 by omega] at this; exact this
      have HZ := Lib.hid hz
      clear hz
      go_wp2
      go_ret
      exact ⟨ret_int HZ.out, rfl⟩
end Go.Proofs.Ytaeffkgnfbomdaa
