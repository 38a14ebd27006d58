/- THE WALK of the law 'ScaleDigits', to its end. -/
import Derived.Test.YtaeffkgnfbomdaaLc
namespace Go.Proofs.Ytaeffkgnfbomdaa
open Go.RowKit
set_option maxRecDepth 100000
theorem digits_wrong {l h d i : Int} (r : rightB l h d = false) (w : World) : Calls Try.prog 6 #[.agg #[.int .i64 l, .int .i64 h, .int .i64 d], .int .i64 i] w fun e w' => e = .returned (.bool true) ∧ Below w.heap.size w w' := by
  have HN := Lib.hid (show Below w.heap.size w (w.alloc (.cells #[.int .i64 l, .int .i64 h, .int .i64 d] 23)) from (Below.refl _ _).alloc (Nat.le_refl _) _)
  have HB := Lib.hid (Below.refl (w.alloc (.cells #[.int .i64 l, .int .i64 h, .int .i64 d] 23)).heap.size (w.alloc (.cells #[.int .i64 l, .int .i64 h, .int .i64 d] 23)))
  obtain ⟨c0, c1, c2⟩ := box3 HB.out
  have HR := Lib.hid r
  clear r
  go_enter Try.func6, Try.ntmps6
  go_wp2_with (first
    | (go_at_call 18; (with_reducible refine (begins_any _).mono ?_); rintro e wx ⟨rfl, hb⟩; have HB := Lib.hid (two_stay HB hb); clear hb; clear c0 c1 c2; obtain ⟨c0, c1, c2⟩ := box3 HB.out)
    | (go_at_call 16; (with_reducible refine (sbounds_no HR.out _).mono ?_); rintro e wx ⟨rfl, hb⟩; have HB := Lib.hid (two_stay HB hb); clear hb; clear c0 c1 c2; obtain ⟨c0, c1, c2⟩ := box3 HB.out))
  go_ret
  exact ⟨rfl, HN.out.trans (HB.out.mono (by simp))⟩
theorem digits_off {l h d i : Int} (r : rightB l h d = true) (hi : i < 0 ∨ nI l h d ≤ i) (w : World) : Calls Try.prog 6 #[.agg #[.int .i64 l, .int .i64 h, .int .i64 d], .int .i64 i] w fun e w' => e = .returned (.bool true) ∧ Below w.heap.size w w' := by
  have HN := Lib.hid (show Below w.heap.size w (w.alloc (.cells #[.int .i64 l, .int .i64 h, .int .i64 d] 23)) from (Below.refl _ _).alloc (Nat.le_refl _) _)
  have HB := Lib.hid (Below.refl (w.alloc (.cells #[.int .i64 l, .int .i64 h, .int .i64 d] 23)).heap.size (w.alloc (.cells #[.int .i64 l, .int .i64 h, .int .i64 d] 23)))
  obtain ⟨c0, c1, c2⟩ := box3 HB.out
  have HR := Lib.hid r
  have HI := Lib.hid hi
  clear hi
  clear r
  go_enter Try.func6, Try.ntmps6
  go_wp2_with (first
    | (go_at_call 18; (with_reducible refine (begins_any _).mono ?_); rintro e wx ⟨rfl, hb⟩; have HB := Lib.hid (two_stay HB hb); clear hb; clear c0 c1 c2; obtain ⟨c0, c1, c2⟩ := box3 HB.out)
    | (go_at_call 16; (with_reducible refine (bounds_off HR.out _ HI.out).mono ?_); rintro e wx ⟨rfl, hb⟩; have HB := Lib.hid (two_stay HB hb); clear hb; clear c0 c1 c2; obtain ⟨c0, c1, c2⟩ := box3 HB.out))
  go_ret
  exact ⟨rfl, HN.out.trans (HB.out.mono (by simp))⟩
/-- the state of the first loop -/
def UAt (l : Int) (s8 : Value) : Prop := ∃ k : Nat, s8 = .int .i64 ((2 ^ k : Nat) : Int) ∧ ((2 ^ k : Nat) : Int) ≤ l
theorem digits1 {l h i lo hi : Int} (a1 : 1 ≤ l) (a2 : l ≤ 1099511627776)
    (HC : Hid (∀ w, Calls Try.prog 16 #[.agg #[.int .i64 l, .int .i64 h, .int .i64 1], .int .i64 i] w fun e w' => e = .returned (.tuple #[.int .i64 lo, .int .i64 hi, .int .i64 0]) ∧ Below w.heap.size w w'))
    (b0 : 0 ≤ lo) (b1 : lo ≤ 2305843009213693952) (b2 : lo ≤ hi) (b3 : hi ≤ 4611687117939015680)
    (HM : Hid ((lo / (2 ^ eOf l : Nat) < 16 → hi - lo = (2 ^ eOf l : Nat) - 1) ∧ (16 ≤ lo / (2 ^ eOf l : Nat) → hi - lo < lo / 10))) (w : World) : Calls Try.prog 6 #[.agg #[.int .i64 l, .int .i64 h, .int .i64 1], .int .i64 i] w fun e w' => e = .returned (.bool true) ∧ Below w.heap.size w w' := by
  have HN := Lib.hid (show Below w.heap.size w (w.alloc (.cells #[.int .i64 l, .int .i64 h, .int .i64 1] 23)) from (Below.refl _ _).alloc (Nat.le_refl _) _)
  have HB := Lib.hid (Below.refl (w.alloc (.cells #[.int .i64 l, .int .i64 h, .int .i64 1] 23)).heap.size (w.alloc (.cells #[.int .i64 l, .int .i64 h, .int .i64 1] 23)))
  obtain ⟨c0, c1, c2⟩ := box3 HB.out
  go_enter Try.func6, Try.ntmps6
  go_wp2_with (first
    | (go_at_call 18; (with_reducible refine (begins_any _).mono ?_); rintro e wx ⟨rfl, hb⟩; have HB := Lib.hid (two_stay HB hb); clear hb; clear c0 c1 c2; obtain ⟨c0, c1, c2⟩ := box3 HB.out)
    | (go_at_call 16; (with_reducible refine (HC.out _).mono ?_); rintro e wx ⟨rfl, hb⟩; have HB := Lib.hid (two_stay HB hb); clear hb; clear c0 c1 c2; obtain ⟨c0, c1, c2⟩ := box3 HB.out))
  go_loop [8] (fun s8 => UAt l s8) (fun s8 => (l - intOf s8).toNat)
  case atStart => exact ⟨0, rfl, by simpa using a1⟩
  case round =>
    obtain ⟨k, rfl, hk⟩ := hrel
    have hq := Nat.two_pow_pos k
    have HP := Lib.hid (show (2 ^ (k + 1) : Nat) = 2 * 2 ^ k from Nat.pow_succ' )
    have HE := Lib.hid (fun (h : l < 2 * ((2 ^ k : Nat) : Int)) => eOf_of (l := l) (k := k) a1 a2 hk h)
    have hq1 : 1 ≤ ((2 ^ k : Nat) : Int) := by omega
    clear hq
    generalize hqe : ((2 ^ k : Nat) : Int) = q at *
    have HQ := Lib.hid hqe
    clear hqe
    by_cases hlt : 2 * q ≤ l
    · go_wp2_with (fail)
      go_round
      case rel =>
        have h1 := HP.out
        have h2 := HQ.out
        exact ⟨k + 1, by congr 1; omega, by omega⟩
      case measure => simp [intOf]; omega
    · have hlt2 : l < 2 * q := by omega
      have HZ := Lib.hid (HE.out hlt2)
      have HM2 : Hid ((lo / q < 16 → hi - lo = q - 1) ∧ (16 ≤ lo / q → hi - lo < lo / 10)) := by
        have h1 := HM.out
        rw [HZ.out, HQ.out] at h1
        exact Lib.hid h1
      clear hlt HE
      by_cases hc : lo / q < 16
      · have he := HM2.out.1 hc
        have he2 : (hi - lo == q - 1) = true := by rw [he]; simp
        have HE2 := Lib.hid he2
        clear he
        go_wp2_with (fail)
        refine wp_loop_rounds 1 ?_
        rw [rounds_succ]
        go_wp2_with (fail)
        go_ret
        exact ⟨rfl, HN.out.trans (HB.out.mono (by simp))⟩
      · have hc2 : 16 ≤ lo / q := by omega
        have he := HM2.out.2 hc2
        clear hc
        go_wp2_with (fail)
        refine wp_loop_rounds 1 ?_
        rw [rounds_succ]
        go_wp2_with (fail)
        go_ret
        exact ⟨rfl, HN.out.trans (HB.out.mono (by simp))⟩
theorem digits2 {l h i lo hi : Int} (a1 : 1 ≤ l) (a2 : l ≤ 1099511627776)
    (HC : Hid (∀ w, Calls Try.prog 16 #[.agg #[.int .i64 l, .int .i64 h, .int .i64 2], .int .i64 i] w fun e w' => e = .returned (.tuple #[.int .i64 lo, .int .i64 hi, .int .i64 0]) ∧ Below w.heap.size w w'))
    (b0 : 0 ≤ lo) (b1 : lo ≤ 2305843009213693952) (b2 : lo ≤ hi) (b3 : hi ≤ 4611687117939015680)
    (HM : Hid ((lo / (2 ^ eOf l : Nat) < 128 → hi - lo = (2 ^ eOf l : Nat) - 1) ∧ (128 ≤ lo / (2 ^ eOf l : Nat) → hi - lo < lo / 100))) (w : World) : Calls Try.prog 6 #[.agg #[.int .i64 l, .int .i64 h, .int .i64 2], .int .i64 i] w fun e w' => e = .returned (.bool true) ∧ Below w.heap.size w w' := by
  have HN := Lib.hid (show Below w.heap.size w (w.alloc (.cells #[.int .i64 l, .int .i64 h, .int .i64 2] 23)) from (Below.refl _ _).alloc (Nat.le_refl _) _)
  have HB := Lib.hid (Below.refl (w.alloc (.cells #[.int .i64 l, .int .i64 h, .int .i64 2] 23)).heap.size (w.alloc (.cells #[.int .i64 l, .int .i64 h, .int .i64 2] 23)))
  obtain ⟨c0, c1, c2⟩ := box3 HB.out
  go_enter Try.func6, Try.ntmps6
  go_wp2_with (first
    | (go_at_call 18; (with_reducible refine (begins_any _).mono ?_); rintro e wx ⟨rfl, hb⟩; have HB := Lib.hid (two_stay HB hb); clear hb; clear c0 c1 c2; obtain ⟨c0, c1, c2⟩ := box3 HB.out)
    | (go_at_call 16; (with_reducible refine (HC.out _).mono ?_); rintro e wx ⟨rfl, hb⟩; have HB := Lib.hid (two_stay HB hb); clear hb; clear c0 c1 c2; obtain ⟨c0, c1, c2⟩ := box3 HB.out))
  go_loop [8] (fun s8 => UAt l s8) (fun s8 => (l - intOf s8).toNat)
  case atStart => exact ⟨0, rfl, by simpa using a1⟩
  case round =>
    obtain ⟨k, rfl, hk⟩ := hrel
    have hq := Nat.two_pow_pos k
    have HP := Lib.hid (show (2 ^ (k + 1) : Nat) = 2 * 2 ^ k from Nat.pow_succ' )
    have HE := Lib.hid (fun (h : l < 2 * ((2 ^ k : Nat) : Int)) => eOf_of (l := l) (k := k) a1 a2 hk h)
    have hq1 : 1 ≤ ((2 ^ k : Nat) : Int) := by omega
    clear hq
    generalize hqe : ((2 ^ k : Nat) : Int) = q at *
    have HQ := Lib.hid hqe
    clear hqe
    by_cases hlt : 2 * q ≤ l
    · go_wp2_with (fail)
      go_round
      case rel =>
        have h1 := HP.out
        have h2 := HQ.out
        exact ⟨k + 1, by congr 1; omega, by omega⟩
      case measure => simp [intOf]; omega
    · have hlt2 : l < 2 * q := by omega
      have HZ := Lib.hid (HE.out hlt2)
      have HM2 : Hid ((lo / q < 128 → hi - lo = q - 1) ∧ (128 ≤ lo / q → hi - lo < lo / 100)) := by
        have h1 := HM.out
        rw [HZ.out, HQ.out] at h1
        exact Lib.hid h1
      clear hlt HE
      by_cases hc : lo / q < 128
      · have he := HM2.out.1 hc
        have he2 : (hi - lo == q - 1) = true := by rw [he]; simp
        have HE2 := Lib.hid he2
        clear he
        go_wp2_with (fail)
        refine wp_loop_rounds 2 ?_
        rw [rounds_succ]
        go_wp2_with (fail)
        rw [rounds_succ]
        go_wp2_with (fail)
        go_ret
        exact ⟨rfl, HN.out.trans (HB.out.mono (by simp))⟩
      · have hc2 : 128 ≤ lo / q := by omega
        have he := HM2.out.2 hc2
        clear hc
        go_wp2_with (fail)
        refine wp_loop_rounds 2 ?_
        rw [rounds_succ]
        go_wp2_with (fail)
        rw [rounds_succ]
        go_wp2_with (fail)
        go_ret
        exact ⟨rfl, HN.out.trans (HB.out.mono (by simp))⟩
theorem digits3 {l h i lo hi : Int} (a1 : 1 ≤ l) (a2 : l ≤ 1099511627776)
    (HC : Hid (∀ w, Calls Try.prog 16 #[.agg #[.int .i64 l, .int .i64 h, .int .i64 3], .int .i64 i] w fun e w' => e = .returned (.tuple #[.int .i64 lo, .int .i64 hi, .int .i64 0]) ∧ Below w.heap.size w w'))
    (b0 : 0 ≤ lo) (b1 : lo ≤ 2305843009213693952) (b2 : lo ≤ hi) (b3 : hi ≤ 4611687117939015680)
    (HM : Hid ((lo / (2 ^ eOf l : Nat) < 1024 → hi - lo = (2 ^ eOf l : Nat) - 1) ∧ (1024 ≤ lo / (2 ^ eOf l : Nat) → hi - lo < lo / 1000))) (w : World) : Calls Try.prog 6 #[.agg #[.int .i64 l, .int .i64 h, .int .i64 3], .int .i64 i] w fun e w' => e = .returned (.bool true) ∧ Below w.heap.size w w' := by
  have HN := Lib.hid (show Below w.heap.size w (w.alloc (.cells #[.int .i64 l, .int .i64 h, .int .i64 3] 23)) from (Below.refl _ _).alloc (Nat.le_refl _) _)
  have HB := Lib.hid (Below.refl (w.alloc (.cells #[.int .i64 l, .int .i64 h, .int .i64 3] 23)).heap.size (w.alloc (.cells #[.int .i64 l, .int .i64 h, .int .i64 3] 23)))
  obtain ⟨c0, c1, c2⟩ := box3 HB.out
  go_enter Try.func6, Try.ntmps6
  go_wp2_with (first
    | (go_at_call 18; (with_reducible refine (begins_any _).mono ?_); rintro e wx ⟨rfl, hb⟩; have HB := Lib.hid (two_stay HB hb); clear hb; clear c0 c1 c2; obtain ⟨c0, c1, c2⟩ := box3 HB.out)
    | (go_at_call 16; (with_reducible refine (HC.out _).mono ?_); rintro e wx ⟨rfl, hb⟩; have HB := Lib.hid (two_stay HB hb); clear hb; clear c0 c1 c2; obtain ⟨c0, c1, c2⟩ := box3 HB.out))
  go_loop [8] (fun s8 => UAt l s8) (fun s8 => (l - intOf s8).toNat)
  case atStart => exact ⟨0, rfl, by simpa using a1⟩
  case round =>
    obtain ⟨k, rfl, hk⟩ := hrel
    have hq := Nat.two_pow_pos k
    have HP := Lib.hid (show (2 ^ (k + 1) : Nat) = 2 * 2 ^ k from Nat.pow_succ' )
    have HE := Lib.hid (fun (h : l < 2 * ((2 ^ k : Nat) : Int)) => eOf_of (l := l) (k := k) a1 a2 hk h)
    have hq1 : 1 ≤ ((2 ^ k : Nat) : Int) := by omega
    clear hq
    generalize hqe : ((2 ^ k : Nat) : Int) = q at *
    have HQ := Lib.hid hqe
    clear hqe
    by_cases hlt : 2 * q ≤ l
    · go_wp2_with (fail)
      go_round
      case rel =>
        have h1 := HP.out
        have h2 := HQ.out
        exact ⟨k + 1, by congr 1; omega, by omega⟩
      case measure => simp [intOf]; omega
    · have hlt2 : l < 2 * q := by omega
      have HZ := Lib.hid (HE.out hlt2)
      have HM2 : Hid ((lo / q < 1024 → hi - lo = q - 1) ∧ (1024 ≤ lo / q → hi - lo < lo / 1000)) := by
        have h1 := HM.out
        rw [HZ.out, HQ.out] at h1
        exact Lib.hid h1
      clear hlt HE
      by_cases hc : lo / q < 1024
      · have he := HM2.out.1 hc
        have he2 : (hi - lo == q - 1) = true := by rw [he]; simp
        have HE2 := Lib.hid he2
        clear he
        go_wp2_with (fail)
        refine wp_loop_rounds 3 ?_
        rw [rounds_succ]
        go_wp2_with (fail)
        rw [rounds_succ]
        go_wp2_with (fail)
        rw [rounds_succ]
        go_wp2_with (fail)
        go_ret
        exact ⟨rfl, HN.out.trans (HB.out.mono (by simp))⟩
      · have hc2 : 1024 ≤ lo / q := by omega
        have he := HM2.out.2 hc2
        clear hc
        go_wp2_with (fail)
        refine wp_loop_rounds 3 ?_
        rw [rounds_succ]
        go_wp2_with (fail)
        rw [rounds_succ]
        go_wp2_with (fail)
        rw [rounds_succ]
        go_wp2_with (fail)
        go_ret
        exact ⟨rfl, HN.out.trans (HB.out.mono (by simp))⟩
end Go.Proofs.Ytaeffkgnfbomdaa
