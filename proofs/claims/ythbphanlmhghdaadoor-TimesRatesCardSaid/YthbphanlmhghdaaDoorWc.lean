/- THE WALKS of a product's two words (the document's), of a greatest common divisor, of the product of two numbers and of what is greater. -/
import Derived.Test.YthbphanlmhghdaaDoorWb
import Derived.Test.YthbphanlmhghdaaDoorShelf
import Derived.RegionTactic
import Derived.ChangeAlike
import Derived.Deep.QuietTactic
import Derived.BigQuiet
namespace Go.Proofs.YthbphanlmhghdaaDoor
open Go.RowKit

/-! ### the document's product -/
theorem low_end {a b : Int} {n : Nat} {h l : Int} (r : TM.WideR a b (n + 1) h l) {bit : Int} (hbit : bit = a / 2 ^ n % 2)
    {H L : Int} (o : Off (2 * h) (TM.oneLow b l bit) 1152921504606846976 H L) (hL : L < 1152921504606846976) : TM.WideR a b n H L := by
  obtain ⟨j, hj, rfl, rfl, h0⟩ := o
  exact TM.wideR_step r bit hbit j hj h0 hL
theorem low_off {q1 r1 q r : Int} (h : Off q1 r1 1152921504606846976 q r) (h3 : r1 ≤ 4611686018427387904) : q1 ≤ q ∧ q ≤ q1 + 4 ∧ 0 ≤ r ∧ r ≤ r1 := by
  obtain ⟨j, hj, rfl, rfl, h0⟩ := h
  omega

set_option maxHeartbeats 1000000 in
theorem wide_any (a b : Int) (w : World) (ha : 0 ≤ a) (ha' : a ≤ 1099511627776) (hb : 0 ≤ b) (hb' : b ≤ 2305843009213693952) :
    Calls Tryd.prog 52 #[.int .i64 a, .int .i64 b] w fun e w' => e = .returned (.tuple #[.int .i64 (a * b / 1152921504606846976), .int .i64 (a * b % 1152921504606846976)]) ∧ w = w' := by
  go_enter Tryd.func52, Tryd.ntmps52
  go_wp2
  go_loop [6, 7, 8] (fun h l k => ∃ (n : Nat) (H L : Int), n ≤ 63 ∧ TM.WideR a b n H L ∧ h = .int .i64 H ∧ l = .int .i64 L ∧ k = .int .i64 ((n : Int) - 1)) (fun _ _ k => (intOf k + 1).toNat)
  case atStart => exact ⟨63, 0, 0, by omega, TM.wideR_start a b ha (by omega), rfl, rfl, rfl⟩
  case round =>
    obtain ⟨n, H, L, hn, hR, rfl, rfl, rfl⟩ := hrel
    cases n with
    | zero =>
      have hend := Lib.hid (TM.wideR_end hR)
      clear hR
      go_wp2
      go_ret2
      exact ⟨ret_ii hend.out.1 hend.out.2, rfl⟩
    | succ n =>
      have hH0 := hR.1
      have hL0 := hR.2.1
      have hL1 := hR.2.2.1
      have hH1 := TM.wideR_high hR ha ha' hb hb'
      have hb2 : a / 2 ^ n % 2 = 0 ∨ a / 2 ^ n % 2 = 1 := by omega
      have hbit := and_one (a / 2 ^ n)
      have HR := Lib.hid hR
      clear hR
      rcases hb2 with hb2 | hb2
      · rw [hb2] at hbit
        have HB := Lib.hid hb2
        clear hb2
        go_wp2
        go_loop [6, 7] (fun h l => ∃ H2 L2 : Int, h = .int .i64 H2 ∧ l = .int .i64 L2 ∧ Off (2 * H) (2 * L) 1152921504606846976 H2 L2) (fun _ l => (intOf l).toNat)
        case atStart => exact ⟨_, _, rfl, rfl, off_start _ _ _ (by omega)⟩
        case round =>
          obtain ⟨H2, L2, rfl, rfl, ho⟩ := hrel
          obtain ⟨b1, b2, b3, b4⟩ := low_off ho (by omega)
          by_cases hlt : 1152921504606846976 ≤ L2
          · go_wp2
            go_round
            case rel => exact ⟨_, _, rfl, rfl, off_step ho hlt⟩
            case measure => simp [intOf]; omega
          · have hend := Lib.hid (low_end (H := H2) (L := L2) HR.out HB.out.symm (by rw [TM.oneLow, if_neg (by omega), Int.add_zero]; exact ho) (by omega))
            clear ho
            go_wp2
            go_round
            case rel => exact ⟨n, H2, L2, by omega, hend.out, rfl, rfl, rfl⟩
            case measure => simp [intOf]
      · rw [hb2] at hbit
        have HB := Lib.hid hb2
        clear hb2
        go_wp2
        go_loop [6, 7] (fun h l => ∃ H2 L2 : Int, h = .int .i64 H2 ∧ l = .int .i64 L2 ∧ Off (2 * H) (2 * L + b) 1152921504606846976 H2 L2) (fun _ l => (intOf l).toNat)
        case atStart => exact ⟨_, _, rfl, rfl, off_start _ _ _ (by omega)⟩
        case round =>
          obtain ⟨H2, L2, rfl, rfl, ho⟩ := hrel
          obtain ⟨b1, b2, b3, b4⟩ := low_off ho (by omega)
          by_cases hlt : 1152921504606846976 ≤ L2
          · go_wp2
            go_round
            case rel => exact ⟨_, _, rfl, rfl, off_step ho hlt⟩
            case measure => simp [intOf]; omega
          · have hend := Lib.hid (low_end (H := H2) (L := L2) HR.out HB.out.symm (by rw [TM.oneLow, if_pos rfl]; exact ho) (by omega))
            clear ho
            go_wp2
            go_round
            case rel => exact ⟨n, H2, L2, by omega, hend.out, rfl, rfl, rfl⟩
            case measure => simp [intOf]

/-! ### the product of two numbers -/
theorem mul64_int (x y : Int) (hx : 0 ≤ x) (hx' : x ≤ 9223372036854775807) (hy : 0 ≤ y) (hy' : y ≤ 9223372036854775807) (w : World) :
    Calls Tryd.prog 59 #[.int .u64 x, .int .u64 y] w fun e w' => e = .returned (.tuple #[.int .u64 (x * y / 18446744073709551616), .int .u64 (x * y % 18446744073709551616)]) ∧ w = w' := by
  obtain ⟨m, rfl⟩ := Int.eq_ofNat_of_zero_le hx
  obtain ⟨n, rfl⟩ := Int.eq_ofNat_of_zero_le hy
  refine (Tryd.bits_Mul64 m n (by omega) (by omega) w).mono ?_
  rintro e w' ⟨rfl, rfl⟩
  exact ⟨ret_ii (by simp) (by simp), rfl⟩

theorem product_any (x y : Int) (w : World) (hx : 0 ≤ x) (hx' : x ≤ 9223372036854775807) (hy : 0 ≤ y) (hy' : y ≤ 9223372036854775807) :
    Calls Tryd.prog 46 #[.int .i64 x, .int .i64 y] w fun e w' => e = .returned (.agg #[.int .u64 (x * y / 18446744073709551616), .int .u64 (x * y % 18446744073709551616)]) ∧ Below w.heap.size w w' := by
  go_enter Tryd.func46, Tryd.ntmps46
  go_wp2_with (go_at_call 59; refine (mul64_int _ _ hx hx' hy hy' _).mono ?_; rintro e w' ⟨rfl, rfl⟩)
  refine bodyPost_ret (v := .agg #[.int .u64 (x * y / 18446744073709551616), .int .u64 (x * y % 18446744073709551616)]) (by simp [results, Tryd.results46, go_sem]) rfl ⟨rfl, (Below.refl _ _).alloc (Nat.le_refl _) _⟩

/-! ### a greatest common divisor -/
theorem drew_one (w : World) (m : Nat) : (w.drewN m).drew = w.drewN (m + 1) := rfl
theorem gcd_next (x y : Nat) : Nat.gcd y (x % y) = Nat.gcd x y := TM.gcdI_step x y
set_option maxHeartbeats 400000 in
theorem divisor_any (a b : Nat) (w : World) (ha : (a : Int) ≤ 9223372036854775807) (hb : (b : Int) ≤ 9223372036854775807) :
    Calls Tryd.prog 50 #[.int .i64 a, .int .i64 b] w fun e w' => e = .returned (.int .i64 ((Nat.gcd a b : Nat) : Int)) ∧ ∃ n, w' = w.drewN n := by
  go_enter Tryd.func50, Tryd.ntmps50
  go_wp2
  go_loopw [0, 1] (fun p q wr => ∃ (x y m : Nat), (x : Int) ≤ 9223372036854775807 ∧ (y : Int) ≤ 9223372036854775807 ∧ Nat.gcd x y = Nat.gcd a b ∧ p = .int .i64 x ∧ q = .int .i64 y ∧ wr = w.drewN m) (fun _ q _ => (intOf q).toNat)
  case atStart => exact ⟨a, b, 0, ha, hb, rfl, rfl, rfl, rfl⟩
  case round =>
    obtain ⟨x, y, m, hx, hy, hg, rfl, rfl, rfl⟩ := hrel
    have HG := Lib.hid hg
    clear hg
    by_cases h0 : y = 0
    · subst h0
      have HG' := Lib.hid ((Nat.gcd_zero_right x).symm.trans HG.out)
      go_wp2
      go_ret
      exact ⟨ret_i (by rw [HG'.out]), _, rfl⟩
    · have h1 : 0 < y := by omega
      have h2 : x % y < y := Nat.mod_lt _ h1
      go_wp2
      go_region
      all_goals
        go_wp2
        go_roundw
        case rel => exact ⟨y, x % y, _, by omega, by omega, (gcd_next x y).trans HG.out, rfl, by go_num, drew_one _ _⟩
        case measure => simp only [intOf]; omega
end Go.Proofs.YthbphanlmhghdaaDoor
