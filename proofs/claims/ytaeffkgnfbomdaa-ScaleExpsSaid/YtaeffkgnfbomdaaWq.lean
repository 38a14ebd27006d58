/- THE WALK of the document's place of a float. -/
import Derived.Test.YtaeffkgnfbomdaaWp
namespace Go.Proofs.Ytaeffkgnfbomdaa
open Go.RowKit
set_option maxRecDepth 100000
theorem odd_small {b m t : Nat} (h : FL.Odd2 b m t) : 1 ≤ m ∧ m < 9007199254740992 ∧ t ≤ 52 := by
  obtain ⟨h1, h2⟩ := h
  have h3 := FL.mant_lt (b := b)
  have h4 : m ≤ m * 2 ^ t := Nat.le_mul_of_pos_right _ (Nat.two_pow_pos t)
  exact ⟨by omega, by omega, t_le h1 (by omega) h3⟩
theorem pw_le {b : Nat} (h : b < 9218868437227405312) : FL.pw b ≤ 2046 := by unfold FL.pw; split <;> omega
theorem V2 (m : Nat) (h : m < 9007199254740992) : V [m % 4294967296, m / 4294967296] 2 = m ∧ Small [m % 4294967296, m / 4294967296] := by
  constructor
  · show 0 + m % 4294967296 * 2 ^ (32 * 0) + m / 4294967296 * 2 ^ (32 * 1) = m
    omega
  · intro x hx
    simp at hx
    omega
theorem words_row {w : World} {b : Nat} {ys : List Nat} (h : Row w b 76 (u32s ys)) : Words w b ys := fun j hj => (h.cell j).trans (u32s_get hj)
theorem row2 (w : World) (m : Nat) : Row (w.alloc (.cells #[.int .u32 ((m : Int) % 4294967296), .int .u32 ((m : Int) / 4294967296)] 76)) w.heap.size 76 (u32s [m % 4294967296, m / 4294967296]) := by
  have : (u32s [m % 4294967296, m / 4294967296]) = [.int .u32 ((m : Int) % 4294967296), .int .u32 ((m : Int) / 4294967296)] := by simp [u32s]
  rw [this]
  exact Row.new w 76 _
set_option maxHeartbeats 1000000 in
theorem refIdx_m0 {b : Nat} (h0 : 0 < b) (h : b < 9218868437227405312) (w : World) : Calls Try.prog 41 #[.int .i64 0, .float .f64 b] w fun e w' => e = .returned (.int .i64 (FL.bk 0 b)) ∧ Below w.heap.size w w' := by
  have HP := Lib.hid (fun w => parts_out w h0 h)
  have HF1 := Lib.hid (fun t (ho : FL.Odd2 b 1 t) => FL.fine_one h0 ho (n := 0) (by omega))
  have HFN := Lib.hid (fun m t r (ho : FL.Odd2 b m t) (hm : 1 < m) (hr : FL.IsBits (m ^ (2 ^ 0)) r) => FL.fine h0 ho hm 8 0 r rfl hr)
  have hb0 := bk_small (s := 0) h0 h
  obtain ⟨B0, hB0⟩ : ∃ B0, FL.bk 0 b = B0 := ⟨_, rfl⟩
  have hlo : FL.coN 0 B0 = FL.bk 0 b := by rw [← hB0]; exact (FL.bk_low (j := 0) b).symm
  rw [hB0] at hb0
  have HCE := Lib.hid (fun w => ceil0 B0 (by omega) (by omega) w)
  have HLO := Lib.hid hlo
  have HB0 := Lib.hid hB0
  have hpw := pw_le h
  have hpw0 := FL.pw_pos b
  clear h0 h hlo hB0
  go_enter Try.func41, Try.ntmps41
  go_upto_region 2 with (go_at_call 52; refine (HP.out _).mono ?_; rintro e wx ⟨⟨m, t, ho, rfl⟩, rfl⟩; have HO := Lib.hid ho; clear ho)
  obtain ⟨m1, m2, m3⟩ := odd_small HO.out
  have hm1 : 1 ≤ (m : Int) := by omega
  have hm2 : (m : Int) < 9007199254740992 := by omega
  have hpi : 1 ≤ (FL.pw b : Int) ∧ (FL.pw b : Int) ≤ 2046 := by omega
  have ht : (t : Int) ≤ 52 := by omega
  have hE1 : -1200 ≤ (FL.pw b : Int) - 1075 + t ∧ (FL.pw b : Int) - 1075 + t ≤ 1200 := by omega
  have HFN2 := Lib.hid (fun r hm hr => HFN.out m t r HO.out hm hr)
  have HEQ : Hid (m = 1 → (FL.pw b : Int) - 1075 + t = B0) := Lib.hid fun he => by
    subst he
    have := HF1.out t HO.out
    have h2 := HB0.out
    simp at this
    omega
  have HFN3 : Hid (∀ r : Nat, 1 < m → FL.IsBits m r → (FL.pw b : Int) - 1075 + t + r = B0) := Lib.hid fun r hm hr => by
    have := HFN2.out r hm (by simpa using hr)
    have h2 := HB0.out
    simp at this
    omega
  clear hpi HF1 HFN HFN2
  generalize (FL.pw b : Int) - 1075 + t = E at *
  obtain ⟨hE1, hE2⟩ := hE1
  by_cases hm : m = 1
  · have HE := Lib.hid (HEQ.out hm)
    subst hm
    go_wp2_with (fail)
    refine wp_loop_rounds 1 ?_
    rw [rounds_succ]
    rw [HE.out]
    go_wp2_with (go_at_call 54; refine (HCE.out _).mono ?_; rw [HLO.out]; rintro e wx ⟨rfl, rfl⟩)
    go_ret
    exact ⟨rfl, Below.refl _ _⟩
  · have hm3 : 1 < (m : Int) := by omega
    have hmd : decide (1 < m) = true := decide_eq_true (by omega)
    have HB := Lib.hid (fun w => bits_any (xs := [m % 4294967296, m / 4294967296]) (n := 2) rfl (w.alloc (.cells #[.int .u32 ((m : Int) % 4294967296), .int .u32 ((m : Int) / 4294967296)] 76)) (words_row (row2 w m)) (V2 m m2).2 (by omega))
    have HV := Lib.hid (V2 m m2).1
    have HM := Lib.hid m2
    have hmn : 1 < m := by omega
    have HMN := Lib.hid hmn
    clear hm m1 m2 hmn
    go_wp2_with (fail)
    refine wp_loop_rounds 1 ?_
    rw [rounds_succ]
    go_wp2_with (first
      | (go_at_call 53; refine (HB.out _).mono ?_; rw [HV.out]; rintro e wx ⟨⟨r, hr, rfl⟩, rfl⟩; have HR := Lib.hid (show wrap64 (E + (r : Int)) = B0 by have h1 := HFN3.out r HMN.out hr; rw [h1]; exact wrap64_in (by omega)); clear hr)
      | (go_at_call 54; rw [HR.out]; ((with_reducible refine (HCE.out _).mono ?_)); rw [HLO.out]; rintro e wx ⟨rfl, rfl⟩))
    go_ret
    exact ⟨rfl, (Below.refl _ _).alloc (Nat.le_refl _) _⟩
set_option maxHeartbeats 1000000 in
theorem refIdx_m1 {b : Nat} (h0 : 0 < b) (h : b < 9218868437227405312) (w : World) : Calls Try.prog 41 #[.int .i64 (-1), .float .f64 b] w fun e w' => e = .returned (.int .i64 (FL.bk (-1) b)) ∧ Below w.heap.size w w' := by
  have HP := Lib.hid (fun w => parts_out w h0 h)
  have HF1 := Lib.hid (fun t (ho : FL.Odd2 b 1 t) => FL.fine_one h0 ho (n := 0) (by omega))
  have HFN := Lib.hid (fun m t r (ho : FL.Odd2 b m t) (hm : 1 < m) (hr : FL.IsBits (m ^ (2 ^ 0)) r) => FL.fine h0 ho hm 8 0 r rfl hr)
  have hb0 := bk_small (s := 0) h0 h
  obtain ⟨B0, hB0⟩ : ∃ B0, FL.bk 0 b = B0 := ⟨_, rfl⟩
  have hlo : FL.coN 1 B0 = FL.bk (-1) b := by rw [← hB0]; exact (FL.bk_low (j := 1) b).symm
  rw [hB0] at hb0
  have HCE := Lib.hid (fun w => ceil1 B0 (by omega) (by omega) w)
  have HLO := Lib.hid hlo
  have HB0 := Lib.hid hB0
  have hpw := pw_le h
  have hpw0 := FL.pw_pos b
  clear h0 h hlo hB0
  go_enter Try.func41, Try.ntmps41
  go_upto_region 2 with (go_at_call 52; refine (HP.out _).mono ?_; rintro e wx ⟨⟨m, t, ho, rfl⟩, rfl⟩; have HO := Lib.hid ho; clear ho)
  obtain ⟨m1, m2, m3⟩ := odd_small HO.out
  have hm1 : 1 ≤ (m : Int) := by omega
  have hm2 : (m : Int) < 9007199254740992 := by omega
  have hpi : 1 ≤ (FL.pw b : Int) ∧ (FL.pw b : Int) ≤ 2046 := by omega
  have ht : (t : Int) ≤ 52 := by omega
  have hE1 : -1200 ≤ (FL.pw b : Int) - 1075 + t ∧ (FL.pw b : Int) - 1075 + t ≤ 1200 := by omega
  have HFN2 := Lib.hid (fun r hm hr => HFN.out m t r HO.out hm hr)
  have HEQ : Hid (m = 1 → (FL.pw b : Int) - 1075 + t = B0) := Lib.hid fun he => by
    subst he
    have := HF1.out t HO.out
    have h2 := HB0.out
    simp at this
    omega
  have HFN3 : Hid (∀ r : Nat, 1 < m → FL.IsBits m r → (FL.pw b : Int) - 1075 + t + r = B0) := Lib.hid fun r hm hr => by
    have := HFN2.out r hm (by simpa using hr)
    have h2 := HB0.out
    simp at this
    omega
  clear hpi HF1 HFN HFN2
  generalize (FL.pw b : Int) - 1075 + t = E at *
  obtain ⟨hE1, hE2⟩ := hE1
  by_cases hm : m = 1
  · have HE := Lib.hid (HEQ.out hm)
    subst hm
    go_wp2_with (fail)
    refine wp_loop_rounds 2 ?_
    rw [rounds_succ]
    go_wp2_with (fail)
    rw [rounds_succ]
    rw [HE.out]
    go_wp2_with (go_at_call 54; refine (HCE.out _).mono ?_; rw [HLO.out]; rintro e wx ⟨rfl, rfl⟩)
    go_ret
    exact ⟨rfl, Below.refl _ _⟩
  · have hm3 : 1 < (m : Int) := by omega
    have hmd : decide (1 < m) = true := decide_eq_true (by omega)
    have HB := Lib.hid (fun w => bits_any (xs := [m % 4294967296, m / 4294967296]) (n := 2) rfl (w.alloc (.cells #[.int .u32 ((m : Int) % 4294967296), .int .u32 ((m : Int) / 4294967296)] 76)) (words_row (row2 w m)) (V2 m m2).2 (by omega))
    have HV := Lib.hid (V2 m m2).1
    have HM := Lib.hid m2
    have hmn : 1 < m := by omega
    have HMN := Lib.hid hmn
    clear hm m1 m2 hmn
    go_wp2_with (fail)
    refine wp_loop_rounds 2 ?_
    rw [rounds_succ]
    go_wp2_with (fail)
    rw [rounds_succ]
    go_wp2_with (first
      | (go_at_call 53; refine (HB.out _).mono ?_; rw [HV.out]; rintro e wx ⟨⟨r, hr, rfl⟩, rfl⟩; have HR := Lib.hid (show wrap64 (E + (r : Int)) = B0 by have h1 := HFN3.out r HMN.out hr; rw [h1]; exact wrap64_in (by omega)); clear hr)
      | (go_at_call 54; rw [HR.out]; ((with_reducible refine (HCE.out _).mono ?_)); rw [HLO.out]; rintro e wx ⟨rfl, rfl⟩))
    go_ret
    exact ⟨rfl, (Below.refl _ _).alloc (Nat.le_refl _) _⟩
set_option maxHeartbeats 1000000 in
theorem refIdx_m2 {b : Nat} (h0 : 0 < b) (h : b < 9218868437227405312) (w : World) : Calls Try.prog 41 #[.int .i64 (-2), .float .f64 b] w fun e w' => e = .returned (.int .i64 (FL.bk (-2) b)) ∧ Below w.heap.size w w' := by
  have HP := Lib.hid (fun w => parts_out w h0 h)
  have HF1 := Lib.hid (fun t (ho : FL.Odd2 b 1 t) => FL.fine_one h0 ho (n := 0) (by omega))
  have HFN := Lib.hid (fun m t r (ho : FL.Odd2 b m t) (hm : 1 < m) (hr : FL.IsBits (m ^ (2 ^ 0)) r) => FL.fine h0 ho hm 8 0 r rfl hr)
  have hb0 := bk_small (s := 0) h0 h
  obtain ⟨B0, hB0⟩ : ∃ B0, FL.bk 0 b = B0 := ⟨_, rfl⟩
  have hlo : FL.coN 2 B0 = FL.bk (-2) b := by rw [← hB0]; exact (FL.bk_low (j := 2) b).symm
  rw [hB0] at hb0
  have HCE := Lib.hid (fun w => ceil2 B0 (by omega) (by omega) w)
  have HLO := Lib.hid hlo
  have HB0 := Lib.hid hB0
  have hpw := pw_le h
  have hpw0 := FL.pw_pos b
  clear h0 h hlo hB0
  go_enter Try.func41, Try.ntmps41
  go_upto_region 2 with (go_at_call 52; refine (HP.out _).mono ?_; rintro e wx ⟨⟨m, t, ho, rfl⟩, rfl⟩; have HO := Lib.hid ho; clear ho)
  obtain ⟨m1, m2, m3⟩ := odd_small HO.out
  have hm1 : 1 ≤ (m : Int) := by omega
  have hm2 : (m : Int) < 9007199254740992 := by omega
  have hpi : 1 ≤ (FL.pw b : Int) ∧ (FL.pw b : Int) ≤ 2046 := by omega
  have ht : (t : Int) ≤ 52 := by omega
  have hE1 : -1200 ≤ (FL.pw b : Int) - 1075 + t ∧ (FL.pw b : Int) - 1075 + t ≤ 1200 := by omega
  have HFN2 := Lib.hid (fun r hm hr => HFN.out m t r HO.out hm hr)
  have HEQ : Hid (m = 1 → (FL.pw b : Int) - 1075 + t = B0) := Lib.hid fun he => by
    subst he
    have := HF1.out t HO.out
    have h2 := HB0.out
    simp at this
    omega
  have HFN3 : Hid (∀ r : Nat, 1 < m → FL.IsBits m r → (FL.pw b : Int) - 1075 + t + r = B0) := Lib.hid fun r hm hr => by
    have := HFN2.out r hm (by simpa using hr)
    have h2 := HB0.out
    simp at this
    omega
  clear hpi HF1 HFN HFN2
  generalize (FL.pw b : Int) - 1075 + t = E at *
  obtain ⟨hE1, hE2⟩ := hE1
  by_cases hm : m = 1
  · have HE := Lib.hid (HEQ.out hm)
    subst hm
    go_wp2_with (fail)
    refine wp_loop_rounds 3 ?_
    rw [rounds_succ]
    go_wp2_with (fail)
    rw [rounds_succ]
    go_wp2_with (fail)
    rw [rounds_succ]
    rw [HE.out]
    go_wp2_with (go_at_call 54; refine (HCE.out _).mono ?_; rw [HLO.out]; rintro e wx ⟨rfl, rfl⟩)
    go_ret
    exact ⟨rfl, Below.refl _ _⟩
  · have hm3 : 1 < (m : Int) := by omega
    have hmd : decide (1 < m) = true := decide_eq_true (by omega)
    have HB := Lib.hid (fun w => bits_any (xs := [m % 4294967296, m / 4294967296]) (n := 2) rfl (w.alloc (.cells #[.int .u32 ((m : Int) % 4294967296), .int .u32 ((m : Int) / 4294967296)] 76)) (words_row (row2 w m)) (V2 m m2).2 (by omega))
    have HV := Lib.hid (V2 m m2).1
    have HM := Lib.hid m2
    have hmn : 1 < m := by omega
    have HMN := Lib.hid hmn
    clear hm m1 m2 hmn
    go_wp2_with (fail)
    refine wp_loop_rounds 3 ?_
    rw [rounds_succ]
    go_wp2_with (fail)
    rw [rounds_succ]
    go_wp2_with (fail)
    rw [rounds_succ]
    go_wp2_with (first
      | (go_at_call 53; refine (HB.out _).mono ?_; rw [HV.out]; rintro e wx ⟨⟨r, hr, rfl⟩, rfl⟩; have HR := Lib.hid (show wrap64 (E + (r : Int)) = B0 by have h1 := HFN3.out r HMN.out hr; rw [h1]; exact wrap64_in (by omega)); clear hr)
      | (go_at_call 54; rw [HR.out]; ((with_reducible refine (HCE.out _).mono ?_)); rw [HLO.out]; rintro e wx ⟨rfl, rfl⟩))
    go_ret
    exact ⟨rfl, (Below.refl _ _).alloc (Nat.le_refl _) _⟩
set_option maxHeartbeats 1000000 in
theorem refIdx_m3 {b : Nat} (h0 : 0 < b) (h : b < 9218868437227405312) (w : World) : Calls Try.prog 41 #[.int .i64 (-3), .float .f64 b] w fun e w' => e = .returned (.int .i64 (FL.bk (-3) b)) ∧ Below w.heap.size w w' := by
  have HP := Lib.hid (fun w => parts_out w h0 h)
  have HF1 := Lib.hid (fun t (ho : FL.Odd2 b 1 t) => FL.fine_one h0 ho (n := 0) (by omega))
  have HFN := Lib.hid (fun m t r (ho : FL.Odd2 b m t) (hm : 1 < m) (hr : FL.IsBits (m ^ (2 ^ 0)) r) => FL.fine h0 ho hm 8 0 r rfl hr)
  have hb0 := bk_small (s := 0) h0 h
  obtain ⟨B0, hB0⟩ : ∃ B0, FL.bk 0 b = B0 := ⟨_, rfl⟩
  have hlo : FL.coN 3 B0 = FL.bk (-3) b := by rw [← hB0]; exact (FL.bk_low (j := 3) b).symm
  rw [hB0] at hb0
  have HCE := Lib.hid (fun w => ceil3 B0 (by omega) (by omega) w)
  have HLO := Lib.hid hlo
  have HB0 := Lib.hid hB0
  have hpw := pw_le h
  have hpw0 := FL.pw_pos b
  clear h0 h hlo hB0
  go_enter Try.func41, Try.ntmps41
  go_upto_region 2 with (go_at_call 52; refine (HP.out _).mono ?_; rintro e wx ⟨⟨m, t, ho, rfl⟩, rfl⟩; have HO := Lib.hid ho; clear ho)
  obtain ⟨m1, m2, m3⟩ := odd_small HO.out
  have hm1 : 1 ≤ (m : Int) := by omega
  have hm2 : (m : Int) < 9007199254740992 := by omega
  have hpi : 1 ≤ (FL.pw b : Int) ∧ (FL.pw b : Int) ≤ 2046 := by omega
  have ht : (t : Int) ≤ 52 := by omega
  have hE1 : -1200 ≤ (FL.pw b : Int) - 1075 + t ∧ (FL.pw b : Int) - 1075 + t ≤ 1200 := by omega
  have HFN2 := Lib.hid (fun r hm hr => HFN.out m t r HO.out hm hr)
  have HEQ : Hid (m = 1 → (FL.pw b : Int) - 1075 + t = B0) := Lib.hid fun he => by
    subst he
    have := HF1.out t HO.out
    have h2 := HB0.out
    simp at this
    omega
  have HFN3 : Hid (∀ r : Nat, 1 < m → FL.IsBits m r → (FL.pw b : Int) - 1075 + t + r = B0) := Lib.hid fun r hm hr => by
    have := HFN2.out r hm (by simpa using hr)
    have h2 := HB0.out
    simp at this
    omega
  clear hpi HF1 HFN HFN2
  generalize (FL.pw b : Int) - 1075 + t = E at *
  obtain ⟨hE1, hE2⟩ := hE1
  by_cases hm : m = 1
  · have HE := Lib.hid (HEQ.out hm)
    subst hm
    go_wp2_with (fail)
    refine wp_loop_rounds 4 ?_
    rw [rounds_succ]
    go_wp2_with (fail)
    rw [rounds_succ]
    go_wp2_with (fail)
    rw [rounds_succ]
    go_wp2_with (fail)
    rw [rounds_succ]
    rw [HE.out]
    go_wp2_with (go_at_call 54; refine (HCE.out _).mono ?_; rw [HLO.out]; rintro e wx ⟨rfl, rfl⟩)
    go_ret
    exact ⟨rfl, Below.refl _ _⟩
  · have hm3 : 1 < (m : Int) := by omega
    have hmd : decide (1 < m) = true := decide_eq_true (by omega)
    have HB := Lib.hid (fun w => bits_any (xs := [m % 4294967296, m / 4294967296]) (n := 2) rfl (w.alloc (.cells #[.int .u32 ((m : Int) % 4294967296), .int .u32 ((m : Int) / 4294967296)] 76)) (words_row (row2 w m)) (V2 m m2).2 (by omega))
    have HV := Lib.hid (V2 m m2).1
    have HM := Lib.hid m2
    have hmn : 1 < m := by omega
    have HMN := Lib.hid hmn
    clear hm m1 m2 hmn
    go_wp2_with (fail)
    refine wp_loop_rounds 4 ?_
    rw [rounds_succ]
    go_wp2_with (fail)
    rw [rounds_succ]
    go_wp2_with (fail)
    rw [rounds_succ]
    go_wp2_with (fail)
    rw [rounds_succ]
    go_wp2_with (first
      | (go_at_call 53; refine (HB.out _).mono ?_; rw [HV.out]; rintro e wx ⟨⟨r, hr, rfl⟩, rfl⟩; have HR := Lib.hid (show wrap64 (E + (r : Int)) = B0 by have h1 := HFN3.out r HMN.out hr; rw [h1]; exact wrap64_in (by omega)); clear hr)
      | (go_at_call 54; rw [HR.out]; ((with_reducible refine (HCE.out _).mono ?_)); rw [HLO.out]; rintro e wx ⟨rfl, rfl⟩))
    go_ret
    exact ⟨rfl, (Below.refl _ _).alloc (Nat.le_refl _) _⟩
set_option maxHeartbeats 1000000 in
theorem refIdx_m4 {b : Nat} (h0 : 0 < b) (h : b < 9218868437227405312) (w : World) : Calls Try.prog 41 #[.int .i64 (-4), .float .f64 b] w fun e w' => e = .returned (.int .i64 (FL.bk (-4) b)) ∧ Below w.heap.size w w' := by
  have HP := Lib.hid (fun w => parts_out w h0 h)
  have HF1 := Lib.hid (fun t (ho : FL.Odd2 b 1 t) => FL.fine_one h0 ho (n := 0) (by omega))
  have HFN := Lib.hid (fun m t r (ho : FL.Odd2 b m t) (hm : 1 < m) (hr : FL.IsBits (m ^ (2 ^ 0)) r) => FL.fine h0 ho hm 8 0 r rfl hr)
  have hb0 := bk_small (s := 0) h0 h
  obtain ⟨B0, hB0⟩ : ∃ B0, FL.bk 0 b = B0 := ⟨_, rfl⟩
  have hlo : FL.coN 4 B0 = FL.bk (-4) b := by rw [← hB0]; exact (FL.bk_low (j := 4) b).symm
  rw [hB0] at hb0
  have HCE := Lib.hid (fun w => ceil4 B0 (by omega) (by omega) w)
  have HLO := Lib.hid hlo
  have HB0 := Lib.hid hB0
  have hpw := pw_le h
  have hpw0 := FL.pw_pos b
  clear h0 h hlo hB0
  go_enter Try.func41, Try.ntmps41
  go_upto_region 2 with (go_at_call 52; refine (HP.out _).mono ?_; rintro e wx ⟨⟨m, t, ho, rfl⟩, rfl⟩; have HO := Lib.hid ho; clear ho)
  obtain ⟨m1, m2, m3⟩ := odd_small HO.out
  have hm1 : 1 ≤ (m : Int) := by omega
  have hm2 : (m : Int) < 9007199254740992 := by omega
  have hpi : 1 ≤ (FL.pw b : Int) ∧ (FL.pw b : Int) ≤ 2046 := by omega
  have ht : (t : Int) ≤ 52 := by omega
  have hE1 : -1200 ≤ (FL.pw b : Int) - 1075 + t ∧ (FL.pw b : Int) - 1075 + t ≤ 1200 := by omega
  have HFN2 := Lib.hid (fun r hm hr => HFN.out m t r HO.out hm hr)
  have HEQ : Hid (m = 1 → (FL.pw b : Int) - 1075 + t = B0) := Lib.hid fun he => by
    subst he
    have := HF1.out t HO.out
    have h2 := HB0.out
    simp at this
    omega
  have HFN3 : Hid (∀ r : Nat, 1 < m → FL.IsBits m r → (FL.pw b : Int) - 1075 + t + r = B0) := Lib.hid fun r hm hr => by
    have := HFN2.out r hm (by simpa using hr)
    have h2 := HB0.out
    simp at this
    omega
  clear hpi HF1 HFN HFN2
  generalize (FL.pw b : Int) - 1075 + t = E at *
  obtain ⟨hE1, hE2⟩ := hE1
  by_cases hm : m = 1
  · have HE := Lib.hid (HEQ.out hm)
    subst hm
    go_wp2_with (fail)
    refine wp_loop_rounds 5 ?_
    rw [rounds_succ]
    go_wp2_with (fail)
    rw [rounds_succ]
    go_wp2_with (fail)
    rw [rounds_succ]
    go_wp2_with (fail)
    rw [rounds_succ]
    go_wp2_with (fail)
    rw [rounds_succ]
    rw [HE.out]
    go_wp2_with (go_at_call 54; refine (HCE.out _).mono ?_; rw [HLO.out]; rintro e wx ⟨rfl, rfl⟩)
    go_ret
    exact ⟨rfl, Below.refl _ _⟩
  · have hm3 : 1 < (m : Int) := by omega
    have hmd : decide (1 < m) = true := decide_eq_true (by omega)
    have HB := Lib.hid (fun w => bits_any (xs := [m % 4294967296, m / 4294967296]) (n := 2) rfl (w.alloc (.cells #[.int .u32 ((m : Int) % 4294967296), .int .u32 ((m : Int) / 4294967296)] 76)) (words_row (row2 w m)) (V2 m m2).2 (by omega))
    have HV := Lib.hid (V2 m m2).1
    have HM := Lib.hid m2
    have hmn : 1 < m := by omega
    have HMN := Lib.hid hmn
    clear hm m1 m2 hmn
    go_wp2_with (fail)
    refine wp_loop_rounds 5 ?_
    rw [rounds_succ]
    go_wp2_with (fail)
    rw [rounds_succ]
    go_wp2_with (fail)
    rw [rounds_succ]
    go_wp2_with (fail)
    rw [rounds_succ]
    go_wp2_with (fail)
    rw [rounds_succ]
    go_wp2_with (first
      | (go_at_call 53; refine (HB.out _).mono ?_; rw [HV.out]; rintro e wx ⟨⟨r, hr, rfl⟩, rfl⟩; have HR := Lib.hid (show wrap64 (E + (r : Int)) = B0 by have h1 := HFN3.out r HMN.out hr; rw [h1]; exact wrap64_in (by omega)); clear hr)
      | (go_at_call 54; rw [HR.out]; ((with_reducible refine (HCE.out _).mono ?_)); rw [HLO.out]; rintro e wx ⟨rfl, rfl⟩))
    go_ret
    exact ⟨rfl, (Below.refl _ _).alloc (Nat.le_refl _) _⟩
end Go.Proofs.Ytaeffkgnfbomdaa
