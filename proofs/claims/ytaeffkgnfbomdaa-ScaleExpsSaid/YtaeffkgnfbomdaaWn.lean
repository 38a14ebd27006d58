/- THE WALKS of the document's parts and ceil. -/
import Derived.Test.YtaeffkgnfbomdaaLi
import Derived.Test.YtaeffkgnfbomdaaBih
namespace Go.Proofs.Ytaeffkgnfbomdaa
open Go.RowKit
set_option maxRecDepth 100000
theorem and11 (c : Nat) (h : c < 2048) : bits .and .u64 (c : Int) 2047 = (c : Int) := by
  have h1 := bits_and_u64_nat c 2047 (by omega) (by omega)
  have e : c &&& 2047 = c % 2048 := Nat.and_two_pow_sub_one_eq_mod c 11
  rw [e, Nat.mod_eq_of_lt h] at h1
  exact h1
/-- the state of the loop of halvings of the significand -/
def MAt (m0 : Nat) (p0 : Int) (s5 s6 : Value) : Prop := ∃ M t : Nat, s5 = .int .u64 (M : Int) ∧ s6 = .int .i64 (p0 - 1075 + t) ∧ m0 = M * 2 ^ t ∧ 1 ≤ M ∧ t ≤ 64
theorem m_step {m0 M t : Nat} (h : m0 = M * 2 ^ t) (he : M % 2 = 0) : m0 = M / 2 * 2 ^ (t + 1) := by
  rw [h, Nat.pow_succ, Nat.mul_comm (2 ^ t) 2, ← Nat.mul_assoc]; congr 1; omega
theorem t_le {m0 M t : Nat} (h : m0 = M * 2 ^ t) (h1 : 1 ≤ M) (h2 : m0 < 9007199254740992) : t ≤ 52 := by
  have h3 : 2 ^ t ≤ m0 := by rw [h]; exact Nat.le_mul_of_pos_left _ h1
  have := (Nat.pow_lt_pow_iff_right (a := 2) (by omega)).1 (Nat.lt_of_le_of_lt h3 (show m0 < 2 ^ 53 by omega))
  omega
def PartsOut (b : Nat) (e : Ending) : Prop := ∃ m t : Nat, FL.Odd2 b m t ∧ e = .returned (.tuple #[.int .u64 (m : Int), .int .i64 ((FL.pw b : Int) - 1075 + t)])
theorem parts_sub {b : Nat} (w : World) (h0 : 0 < b) (h : (b : Int) < 4503599627370496) : Calls Try.prog 52 #[.float .f64 b] w fun e w' => PartsOut b e ∧ w = w' := by
  have h1 := run_bits b w
  have h2 := and52 b (by omega)
  have h3 : (b : Int) % 4503599627370496 = b := by omega
  have h4 : (b : Int) / 4503599627370496 = 0 := by omega
  have h5 : bits .and .u64 0 2047 = 0 := and11 0 (by omega)
  have em : FL.mant b = b := by unfold FL.mant; rw [if_pos (by omega)]
  have ep : (FL.pw b : Int) = 1 := by unfold FL.pw; rw [if_pos (by omega)]; rfl
  have HL : Hid (∀ M t : Nat, b = M * 2 ^ t → M % 2 = 1 → PartsOut b (.returned (.tuple #[.int .u64 (M : Int), .int .i64 (1 - 1075 + t)]))) := Lib.hid fun M t h ho => ⟨M, t, ⟨em.trans h, ho⟩, by rw [ep]⟩
  clear em ep
  go_enter Try.func52, Try.ntmps52
  go_wp2_with (fail)
  go_loop [5, 6] (fun s5 s6 => MAt b 1 s5 s6) (fun s5 _ => (intOf s5).toNat)
  case atStart => exact ⟨b, 0, rfl, by go_num, by simp, by omega, by omega⟩
  case round =>
    obtain ⟨M, t, rfl, rfl, hm, hM, ht⟩ := hrel
    have HT := Lib.hid (t_le hm hM (by omega))
    have HS := Lib.hid (m_step hm)
    have HLM := Lib.hid (HL.out M t hm)
    have hMb : (M : Int) < 9007199254740992 := by
      have : M ≤ M * 2 ^ t := Nat.le_mul_of_pos_right _ (Nat.two_pow_pos t)
      omega
    have hM1 : 1 ≤ (M : Int) := by omega
    have ht1 : (t : Int) ≤ 64 := by omega
    clear hm
    by_cases he : (M : Int) % 2 = 0
    · go_wp2_with (fail)
      go_round
      case rel => exact ⟨M / 2, t + 1, by go_num, by go_num, HS.out (by omega), by omega, by have := HT.out; omega⟩
      case measure => simp [intOf]; omega
    · have he2 : ((M : Int) % 2 == 0) = false := beq_false_of_ne he
      have he3 : (M : Int) % 2 = 1 := by omega
      clear he
      go_wp2_with (fail)
      go_ret2
      exact ⟨HLM.out (by omega), rfl⟩
theorem parts_norm {b : Nat} (w : World) (h0 : 4503599627370496 ≤ b) (h : b < 9218868437227405312) : Calls Try.prog 52 #[.float .f64 b] w fun e w' => PartsOut b e ∧ w = w' := by
  have h1 := run_bits b w
  have em : FL.mant b = 4503599627370496 + b % 4503599627370496 := by unfold FL.mant; rw [if_neg (by omega)]
  have ep : (FL.pw b : Int) = ((b / 4503599627370496 : Nat) : Int) := by unfold FL.pw; rw [if_neg (by omega)]
  have h2 := and52 b (by omega)
  have h3 : (b : Int) / 4503599627370496 = ((b / 4503599627370496 : Nat) : Int) := by omega
  have h5 := and11 (b / 4503599627370496) (by omega)
  have hc1 : 1 ≤ ((b / 4503599627370496 : Nat) : Int) := by omega
  have hc2 : ((b / 4503599627370496 : Nat) : Int) ≤ 2046 := by omega
  have hr : ((b % 4503599627370496 : Nat) : Int) < 4503599627370496 := by omega
  obtain ⟨m, hm⟩ : ∃ m : Nat, 4503599627370496 + b % 4503599627370496 = m := ⟨_, rfl⟩
  rw [hm] at em
  have hm1 : (m : Int) < 9007199254740992 := by omega
  have hm0 : 0 < m := by omega
  have hmr : ((b % 4503599627370496 : Nat) : Int) + 4503599627370496 = (m : Int) := by omega
  have hd : ((b / 4503599627370496 : Nat) == 0) = false := beq_false_of_ne (by omega)
  have hd2 : (((b / 4503599627370496 : Nat) : Int) == 0) = false := beq_false_of_ne (by omega)
  clear hm h0 h
  generalize b / 4503599627370496 = c at *
  generalize b % 4503599627370496 = r at *
  have HL : Hid (∀ M t : Nat, m = M * 2 ^ t → M % 2 = 1 → PartsOut b (.returned (.tuple #[.int .u64 (M : Int), .int .i64 ((c : Int) - 1075 + t)]))) := Lib.hid fun M t h ho => ⟨M, t, ⟨em.trans h, ho⟩, by rw [ep]⟩
  clear em ep
  go_enter Try.func52, Try.ntmps52
  go_wp2_with (fail)
  go_loop [5, 6] (fun s5 s6 => MAt m (c : Int) s5 s6) (fun s5 _ => (intOf s5).toNat)
  case atStart => exact ⟨m, 0, rfl, by go_num, by simp, by omega, by omega⟩
  case round =>
    obtain ⟨M, t, rfl, rfl, hm, hM, ht⟩ := hrel
    have HT := Lib.hid (t_le hm hM (by omega))
    have HS := Lib.hid (m_step hm)
    have HLM := Lib.hid (HL.out M t hm)
    have hMb : (M : Int) < 9007199254740992 := by
      have : M ≤ M * 2 ^ t := Nat.le_mul_of_pos_right _ (Nat.two_pow_pos t)
      omega
    have hM1 : 1 ≤ (M : Int) := by omega
    have ht1 : (t : Int) ≤ 64 := by omega
    clear hm
    by_cases he : (M : Int) % 2 = 0
    · go_wp2_with (fail)
      go_round
      case rel => exact ⟨M / 2, t + 1, by go_num, by go_num, HS.out (by omega), by omega, by have := HT.out; omega⟩
      case measure => simp [intOf]; omega
    · have he2 : ((M : Int) % 2 == 0) = false := beq_false_of_ne he
      have he3 : (M : Int) % 2 = 1 := by omega
      clear he
      go_wp2_with (fail)
      go_ret2
      exact ⟨HLM.out (by omega), rfl⟩
theorem parts_out {b : Nat} (w : World) (h0 : 0 < b) (h : b < 9218868437227405312) : Calls Try.prog 52 #[.float .f64 b] w fun e w' => PartsOut b e ∧ w = w' := by
  by_cases hb : b < 4503599627370496
  · exact parts_sub w h0 (by omega)
  · exact parts_norm w (by omega) h
end Go.Proofs.Ytaeffkgnfbomdaa
