/- THE WALK of the law 'ScaleParts', where all is right. -/
import Derived.Test.YtaeffkgnfbomdaaLd
namespace Go.Proofs.Ytaeffkgnfbomdaa
open Go.RowKit
set_option maxRecDepth 100000
theorem or_false' {u lo hi : Int} (h2 : lo ≤ u) (h3 : u ≤ hi) : Value.bool (decide (u < lo) || decide (hi < u)) = Value.bool false := by
  rw [decide_eq_false (by omega), decide_eq_false (by omega)]; rfl
set_option maxHeartbeats 4000000 in
theorem parts_x {l h d v u i n a lo hi b ub f g e1 f2 g2 e2 : Int} (HC : Hid (∀ w, Calls Try.prog 11 #[.agg #[.int .i64 l, .int .i64 h, .int .i64 d]] w fun e w' => e = .returned (.tuple #[.int .i64 n, .int .i64 0]) ∧ Below w.heap.size w w'))
    (HV : Hid (∀ w, Calls Try.prog 14 #[.agg #[.int .i64 l, .int .i64 h, .int .i64 d], .int .i64 v] w fun e w' => e = .returned (.tuple #[.int .i64 a, .int .i64 0]) ∧ Below w.heap.size w w')) (HA : Hid (∀ w, Calls Try.prog 16 #[.agg #[.int .i64 l, .int .i64 h, .int .i64 d], .int .i64 a] w fun e w' => e = .returned (.tuple #[.int .i64 lo, .int .i64 hi, .int .i64 0]) ∧ Below w.heap.size w w'))
    (HU : Hid (∀ w, Calls Try.prog 14 #[.agg #[.int .i64 l, .int .i64 h, .int .i64 d], .int .i64 u] w fun e w' => e = .returned (.tuple #[.int .i64 b, .int .i64 ub]) ∧ Below w.heap.size w w'))
    (HD : Hid ((ub == 0) = false ∨ (ub = 0 ∧ v ≤ u ∧ a = b ∧ lo ≤ u ∧ u ≤ hi) ∨ (ub = 0 ∧ v < u ∧ a < b) ∨ (ub = 0 ∧ u < v ∧ a = b ∧ lo ≤ u ∧ u ≤ hi) ∨ (ub = 0 ∧ u < v ∧ b < a)))
    (HI : Hid (∀ w, Calls Try.prog 16 #[.agg #[.int .i64 l, .int .i64 h, .int .i64 d], .int .i64 i] w fun e w' => e = .returned (.tuple #[.int .i64 f, .int .i64 g, .int .i64 e1]) ∧ Below w.heap.size w w'))
    (HJ : Hid (∀ w, Calls Try.prog 16 #[.agg #[.int .i64 l, .int .i64 h, .int .i64 d], .int .i64 (i - 1)] w fun e w' => e = .returned (.tuple #[.int .i64 f2, .int .i64 g2, .int .i64 e2]) ∧ Below w.heap.size w w'))
    (HK : Hid ((e1 = 2 ∧ i < 0) ∨ (e1 = 2 ∧ 0 ≤ i ∧ n ≤ i) ∨ (e1 = 0 ∧ i = 0 ∧ e2 = 2 ∧ f = 0) ∨ (e1 = 0 ∧ e2 = 0 ∧ 1 ≤ i ∧ i < n - 1 ∧ g2 + 1 = f ∧ f ≤ g) ∨ (e1 = 0 ∧ e2 = 0 ∧ 1 ≤ i ∧ i = n - 1 ∧ g2 + 1 = f ∧ f ≤ g ∧ f ≤ h ∧ h ≤ g)))
    (hn : n ≤ 67585) (hg2 : 0 ≤ g2) (hg3 : g2 ≤ 4611687117939015680)
    (a0 : 0 ≤ a) (a1 : a < n) (a2 : lo ≤ v) (a3 : v ≤ hi) (w : World) : Calls Try.prog 5 #[.agg #[.int .i64 l, .int .i64 h, .int .i64 d], .int .i64 v, .int .i64 u, .int .i64 i] w fun e w' => e = .returned (.bool true) ∧ Below w.heap.size w w' := by
  have HN := Lib.hid (show Below w.heap.size w (w.alloc (.cells #[.int .i64 l, .int .i64 h, .int .i64 d] 23)) from (Below.refl _ _).alloc (Nat.le_refl _) _)
  have HB := Lib.hid (Below.refl (w.alloc (.cells #[.int .i64 l, .int .i64 h, .int .i64 d] 23)).heap.size (w.alloc (.cells #[.int .i64 l, .int .i64 h, .int .i64 d] 23)))
  obtain ⟨c0, c1, c2⟩ := box3 HB.out
  go_enter Try.func5, Try.ntmps5
  go_upto_region 13 with (first
    | (go_at_call 18; (with_reducible refine (begins_any _).mono ?_); rintro e wx ⟨rfl, hb⟩; have HB := Lib.hid (two_stay HB hb); clear hb; clear c0 c1 c2; obtain ⟨c0, c1, c2⟩ := box3 HB.out)
    | (go_at_call 11; (with_reducible refine (HC.out _).mono ?_); rintro e wx ⟨rfl, hb⟩; have HB := Lib.hid (two_stay HB hb); clear hb; clear c0 c1 c2; obtain ⟨c0, c1, c2⟩ := box3 HB.out)
    | (go_at_call 14; (with_reducible refine (HV.out _).mono ?_); rintro e wx ⟨rfl, hb⟩; have HB := Lib.hid (two_stay HB hb); clear hb; clear c0 c1 c2; obtain ⟨c0, c1, c2⟩ := box3 HB.out)
    | (go_at_call 14; (with_reducible refine (HU.out _).mono ?_); rintro e wx ⟨rfl, hb⟩; have HB := Lib.hid (two_stay HB hb); clear hb; clear c0 c1 c2; obtain ⟨c0, c1, c2⟩ := box3 HB.out)
    | (go_at_call 16; (with_reducible refine (HA.out _).mono ?_); rintro e wx ⟨rfl, hb⟩; have HB := Lib.hid (two_stay HB hb); clear hb; clear c0 c1 c2; obtain ⟨c0, c1, c2⟩ := box3 HB.out))
  go_cut [125] (fun s wc => s = .bool false ∧ wc = wx)
  case first =>
    rcases HD.out with h1 | ⟨rfl, h1, rfl, h2, h3⟩ | ⟨rfl, h1, h2⟩ | ⟨rfl, h1, rfl, h2, h3⟩ | ⟨rfl, h1, h2⟩
    · go_wp2_with (fail)
      go_meet
      exact ⟨rfl, rfl⟩
    · go_wp2_with (fail)
      all_goals
        go_meet
        first | exact ⟨rfl, rfl⟩ | exact ⟨or_false' h2 h3, rfl⟩
    · have h5 : (a == b) = false := beq_false_of_ne (by omega)
      go_wp2_with (fail)
      go_meet
      exact ⟨by rw [decide_eq_false (by omega)], rfl⟩
    · go_wp2_with (fail)
      all_goals
        go_meet
        first | exact ⟨rfl, rfl⟩ | exact ⟨or_false' h2 h3, rfl⟩
    · have h5 : (a == b) = false := beq_false_of_ne (by omega)
      go_wp2_with (fail)
      go_meet
      exact ⟨by rw [decide_eq_false (by omega)], rfl⟩
  case rest =>
    obtain ⟨rfl, rfl⟩ := hcut
    rcases HK.out with ⟨rfl, k1⟩ | ⟨rfl, k1, k2⟩ | ⟨rfl, rfl, rfl, rfl⟩ | ⟨rfl, rfl, k1, k2, rfl, k4⟩ | ⟨rfl, rfl, k1, rfl, rfl, k4, k5, k6⟩
    · go_wp2_with (first | (go_at_call 16; (with_reducible refine (HI.out _).mono ?_); rintro e wx ⟨rfl, hb⟩; have HB := Lib.hid (two_stay HB hb); clear hb; clear c0 c1 c2; obtain ⟨c0, c1, c2⟩ := box3 HB.out) | (go_at_call 16; (with_reducible refine (HJ.out _).mono ?_); rintro e wx ⟨rfl, hb⟩; have HB := Lib.hid (two_stay HB hb); clear hb; clear c0 c1 c2; obtain ⟨c0, c1, c2⟩ := box3 HB.out))
      go_ret
      exact ⟨rfl, HN.out.trans (HB.out.mono (by simp))⟩
    · go_wp2_with (first | (go_at_call 16; (with_reducible refine (HI.out _).mono ?_); rintro e wx ⟨rfl, hb⟩; have HB := Lib.hid (two_stay HB hb); clear hb; clear c0 c1 c2; obtain ⟨c0, c1, c2⟩ := box3 HB.out) | (go_at_call 16; (with_reducible refine (HJ.out _).mono ?_); rintro e wx ⟨rfl, hb⟩; have HB := Lib.hid (two_stay HB hb); clear hb; clear c0 c1 c2; obtain ⟨c0, c1, c2⟩ := box3 HB.out))
      go_ret
      exact ⟨rfl, HN.out.trans (HB.out.mono (by simp))⟩
    · have HJ : Hid (∀ w, Calls Try.prog 16 #[.agg #[.int .i64 l, .int .i64 h, .int .i64 d], .int .i64 (-1)] w fun e w' => e = .returned (.tuple #[.int .i64 f2, .int .i64 g2, .int .i64 2]) ∧ Below w.heap.size w w') := Lib.hid (fun w => HJ.out w)
      go_wp2_with (first | (go_at_call 16; (with_reducible refine (HI.out _).mono ?_); rintro e wx ⟨rfl, hb⟩; have HB := Lib.hid (two_stay HB hb); clear hb; clear c0 c1 c2; obtain ⟨c0, c1, c2⟩ := box3 HB.out) | (go_at_call 16; (with_reducible refine (HJ.out _).mono ?_); rintro e wx ⟨rfl, hb⟩; have HB := Lib.hid (two_stay HB hb); clear hb; clear c0 c1 c2; obtain ⟨c0, c1, c2⟩ := box3 HB.out))
      go_ret
      exact ⟨rfl, HN.out.trans (HB.out.mono (by simp))⟩
    · have k7 : (i == n - 1) = false := beq_false_of_ne (by omega)
      go_wp2_with (first | (go_at_call 16; (with_reducible refine (HI.out _).mono ?_); rintro e wx ⟨rfl, hb⟩; have HB := Lib.hid (two_stay HB hb); clear hb; clear c0 c1 c2; obtain ⟨c0, c1, c2⟩ := box3 HB.out) | (go_at_call 16; (with_reducible refine (HJ.out _).mono ?_); rintro e wx ⟨rfl, hb⟩; have HB := Lib.hid (two_stay HB hb); clear hb; clear c0 c1 c2; obtain ⟨c0, c1, c2⟩ := box3 HB.out))
      go_ret
      exact ⟨rfl, HN.out.trans (HB.out.mono (by simp))⟩
    · go_wp2_with (first | (go_at_call 16; (with_reducible refine (HI.out _).mono ?_); rintro e wx ⟨rfl, hb⟩; have HB := Lib.hid (two_stay HB hb); clear hb; clear c0 c1 c2; obtain ⟨c0, c1, c2⟩ := box3 HB.out) | (go_at_call 16; (with_reducible refine (HJ.out _).mono ?_); rintro e wx ⟨rfl, hb⟩; have HB := Lib.hid (two_stay HB hb); clear hb; clear c0 c1 c2; obtain ⟨c0, c1, c2⟩ := box3 HB.out))
      go_ret
      exact ⟨rfl, HN.out.trans (HB.out.mono (by simp))⟩
end Go.Proofs.Ytaeffkgnfbomdaa
