/- THE LAW 'ScaleIndexes', whatever comes in. -/
import Derived.Test.YtaeffkgnfbomdaaWl
namespace Go.Proofs.Ytaeffkgnfbomdaa
open Go.RowKit
set_option maxRecDepth 100000
set_option maxHeartbeats 2000000 in
theorem indexes_yes {l h d v i x ex y z ey : Int} (r : rightB l h d = true) (HI : Hid (∀ w, Calls Try.prog 14 #[.agg #[.int .i64 l, .int .i64 h, .int .i64 d], .int .i64 v] w fun e w' => e = .returned (.tuple #[.int .i64 x, .int .i64 ex]) ∧ Below w.heap.size w w'))
    (HJ : Hid (∀ w, Calls Try.prog 15 #[.agg #[.int .i64 l, .int .i64 h, .int .i64 d], .int .i64 v] w fun e w' => e = .returned (.tuple #[.int .i64 x, .int .i64 ex]) ∧ Below w.heap.size w w'))
    (HK : Hid (∀ w, Calls Try.prog 16 #[.agg #[.int .i64 l, .int .i64 h, .int .i64 d], .int .i64 i] w fun e w' => e = .returned (.tuple #[.int .i64 y, .int .i64 z, .int .i64 ey]) ∧ Below w.heap.size w w'))
    (HL : Hid (∀ w, Calls Try.prog 17 #[.agg #[.int .i64 l, .int .i64 h, .int .i64 d], .int .i64 i] w fun e w' => e = .returned (.tuple #[.int .i64 y, .int .i64 z, .int .i64 ey]) ∧ Below w.heap.size w w')) (w : World) : Calls Try.prog 3 #[.agg #[.int .i64 l, .int .i64 h, .int .i64 d], .int .i64 v, .int .i64 i] w fun e w' => e = .returned (.bool true) ∧ Below w.heap.size w w' := by
  have HN := Lib.hid (show Below w.heap.size w (w.alloc (.cells #[.int .i64 l, .int .i64 h, .int .i64 d] 23)) from (Below.refl _ _).alloc (Nat.le_refl _) _)
  have HB := Lib.hid (Below.refl (w.alloc (.cells #[.int .i64 l, .int .i64 h, .int .i64 d] 23)).heap.size (w.alloc (.cells #[.int .i64 l, .int .i64 h, .int .i64 d] 23)))
  obtain ⟨c0, c1, c2⟩ := box3 HB.out
  have HR := Lib.hid r
  clear r
  go_enter Try.func3, Try.ntmps3
  go_wp2_with (first
    | (go_at_call 10; ((with_reducible refine (right_any l h d _).mono ?_); rw [HR.out]; rintro e wx ⟨rfl, hb⟩; have HB := Lib.hid (two_stay HB hb); clear hb; clear c0 c1 c2; obtain ⟨c0, c1, c2⟩ := box3 HB.out))
    | (go_at_call 11; ((with_reducible refine (count_in HR.out _).mono ?_); rintro e wx ⟨rfl, hb⟩; have HB := Lib.hid (two_stay HB hb); clear hb; clear c0 c1 c2; obtain ⟨c0, c1, c2⟩ := box3 HB.out))
    | (go_at_call 12; ((with_reducible refine (check_yes HR.out _).mono ?_); rintro e wx ⟨rfl, hb⟩; have HB := Lib.hid (two_stay HB hb); clear hb; clear c0 c1 c2; obtain ⟨c0, c1, c2⟩ := box3 HB.out))
    | (go_at_call 13; ((with_reducible refine (refCount_any HR.out _).mono ?_); rintro e wx ⟨rfl, hb⟩; have HB := Lib.hid (two_stay HB hb); clear hb; clear c0 c1 c2; obtain ⟨c0, c1, c2⟩ := box3 HB.out))
    | (go_at_call 14; ((with_reducible refine (HI.out _).mono ?_); rintro e wx ⟨rfl, hb⟩; have HB := Lib.hid (two_stay HB hb); clear hb; clear c0 c1 c2; obtain ⟨c0, c1, c2⟩ := box3 HB.out))
    | (go_at_call 15; ((with_reducible refine (HJ.out _).mono ?_); rintro e wx ⟨rfl, hb⟩; have HB := Lib.hid (two_stay HB hb); clear hb; clear c0 c1 c2; obtain ⟨c0, c1, c2⟩ := box3 HB.out))
    | (go_at_call 16; ((with_reducible refine (HK.out _).mono ?_); rintro e wx ⟨rfl, hb⟩; have HB := Lib.hid (two_stay HB hb); clear hb; clear c0 c1 c2; obtain ⟨c0, c1, c2⟩ := box3 HB.out))
    | (go_at_call 17; ((with_reducible refine (HL.out _).mono ?_); rintro e wx ⟨rfl, hb⟩; have HB := Lib.hid (two_stay HB hb); clear hb; clear c0 c1 c2; obtain ⟨c0, c1, c2⟩ := box3 HB.out))
    | (go_at_call 18; ((with_reducible refine (begins_any _).mono ?_); rintro e wx ⟨rfl, hb⟩; have HB := Lib.hid (two_stay HB hb); clear hb; clear c0 c1 c2; obtain ⟨c0, c1, c2⟩ := box3 HB.out)))
  go_ret
  exact ⟨rfl, HN.out.trans (HB.out.mono (by simp))⟩
set_option maxHeartbeats 2000000 in
theorem indexes_no {l h d v i x ex y z ey : Int} (r : rightB l h d = false) (HI : Hid (∀ w, Calls Try.prog 14 #[.agg #[.int .i64 l, .int .i64 h, .int .i64 d], .int .i64 v] w fun e w' => e = .returned (.tuple #[.int .i64 x, .int .i64 ex]) ∧ Below w.heap.size w w'))
    (HJ : Hid (∀ w, Calls Try.prog 15 #[.agg #[.int .i64 l, .int .i64 h, .int .i64 d], .int .i64 v] w fun e w' => e = .returned (.tuple #[.int .i64 x, .int .i64 ex]) ∧ Below w.heap.size w w'))
    (HK : Hid (∀ w, Calls Try.prog 16 #[.agg #[.int .i64 l, .int .i64 h, .int .i64 d], .int .i64 i] w fun e w' => e = .returned (.tuple #[.int .i64 y, .int .i64 z, .int .i64 ey]) ∧ Below w.heap.size w w'))
    (HL : Hid (∀ w, Calls Try.prog 17 #[.agg #[.int .i64 l, .int .i64 h, .int .i64 d], .int .i64 i] w fun e w' => e = .returned (.tuple #[.int .i64 y, .int .i64 z, .int .i64 ey]) ∧ Below w.heap.size w w')) (w : World) : Calls Try.prog 3 #[.agg #[.int .i64 l, .int .i64 h, .int .i64 d], .int .i64 v, .int .i64 i] w fun e w' => e = .returned (.bool true) ∧ Below w.heap.size w w' := by
  have HN := Lib.hid (show Below w.heap.size w (w.alloc (.cells #[.int .i64 l, .int .i64 h, .int .i64 d] 23)) from (Below.refl _ _).alloc (Nat.le_refl _) _)
  have HB := Lib.hid (Below.refl (w.alloc (.cells #[.int .i64 l, .int .i64 h, .int .i64 d] 23)).heap.size (w.alloc (.cells #[.int .i64 l, .int .i64 h, .int .i64 d] 23)))
  obtain ⟨c0, c1, c2⟩ := box3 HB.out
  have HR := Lib.hid r
  clear r
  go_enter Try.func3, Try.ntmps3
  go_wp2_with (first
    | (go_at_call 10; ((with_reducible refine (right_any l h d _).mono ?_); rw [HR.out]; rintro e wx ⟨rfl, hb⟩; have HB := Lib.hid (two_stay HB hb); clear hb; clear c0 c1 c2; obtain ⟨c0, c1, c2⟩ := box3 HB.out))
    | (go_at_call 11; ((with_reducible refine (scount_no HR.out _).mono ?_); rintro e wx ⟨rfl, hb⟩; have HB := Lib.hid (two_stay HB hb); clear hb; clear c0 c1 c2; obtain ⟨c0, c1, c2⟩ := box3 HB.out))
    | (go_at_call 12; ((with_reducible refine (check_no HR.out _).mono ?_); rintro e wx ⟨rfl, hb⟩; have HB := Lib.hid (two_stay HB hb); clear hb; clear c0 c1 c2; obtain ⟨c0, c1, c2⟩ := box3 HB.out))
    | (go_at_call 13; fail)
    | (go_at_call 14; ((with_reducible refine (HI.out _).mono ?_); rintro e wx ⟨rfl, hb⟩; have HB := Lib.hid (two_stay HB hb); clear hb; clear c0 c1 c2; obtain ⟨c0, c1, c2⟩ := box3 HB.out))
    | (go_at_call 15; ((with_reducible refine (HJ.out _).mono ?_); rintro e wx ⟨rfl, hb⟩; have HB := Lib.hid (two_stay HB hb); clear hb; clear c0 c1 c2; obtain ⟨c0, c1, c2⟩ := box3 HB.out))
    | (go_at_call 16; ((with_reducible refine (HK.out _).mono ?_); rintro e wx ⟨rfl, hb⟩; have HB := Lib.hid (two_stay HB hb); clear hb; clear c0 c1 c2; obtain ⟨c0, c1, c2⟩ := box3 HB.out))
    | (go_at_call 17; ((with_reducible refine (HL.out _).mono ?_); rintro e wx ⟨rfl, hb⟩; have HB := Lib.hid (two_stay HB hb); clear hb; clear c0 c1 c2; obtain ⟨c0, c1, c2⟩ := box3 HB.out))
    | (go_at_call 18; ((with_reducible refine (begins_any _).mono ?_); rintro e wx ⟨rfl, hb⟩; have HB := Lib.hid (two_stay HB hb); clear hb; clear c0 c1 c2; obtain ⟨c0, c1, c2⟩ := box3 HB.out)))
  go_ret
  exact ⟨rfl, HN.out.trans (HB.out.mono (by simp))⟩
theorem indexes_any (l h d v i : Int) (w : World) : Calls Try.prog 3 #[.agg #[.int .i64 l, .int .i64 h, .int .i64 d], .int .i64 v, .int .i64 i] w fun e w' => e = .returned (.bool true) ∧ Below w.heap.size w w' := by
  cases r : rightB l h d with
  | false => exact indexes_no r (Lib.hid fun w => sindex_no r w) (Lib.hid fun w => refIndex_no r w) (Lib.hid fun w => sbounds_no r w) (Lib.hid fun w => refBounds_no r w) w
  | true =>
    have H1 : ∃ x ex : Int, (∀ w, Calls Try.prog 14 #[.agg #[.int .i64 l, .int .i64 h, .int .i64 d], .int .i64 v] w fun e w' => e = .returned (.tuple #[.int .i64 x, .int .i64 ex]) ∧ Below w.heap.size w w') ∧ (∀ w, Calls Try.prog 15 #[.agg #[.int .i64 l, .int .i64 h, .int .i64 d], .int .i64 v] w fun e w' => e = .returned (.tuple #[.int .i64 x, .int .i64 ex]) ∧ Below w.heap.size w w') := by
      by_cases h1 : v < 0
      · exact ⟨0, 2, fun w => sindex_out r (.inl h1) w, fun w => refIndex_out1 r h1 w⟩
      by_cases h2 : h < v
      · exact ⟨0, 2, fun w => sindex_out r (.inr h2) w, fun w => refIndex_out2 r (by omega) h2 w⟩
      · exact ⟨aI l d v, 0, fun w => index_in r w (by omega) (by omega), fun w => refIndex_yes r (by omega) (by omega) w⟩
    have H2 : ∃ y z ey : Int, (∀ w, Calls Try.prog 16 #[.agg #[.int .i64 l, .int .i64 h, .int .i64 d], .int .i64 i] w fun e w' => e = .returned (.tuple #[.int .i64 y, .int .i64 z, .int .i64 ey]) ∧ Below w.heap.size w w') ∧ (∀ w, Calls Try.prog 17 #[.agg #[.int .i64 l, .int .i64 h, .int .i64 d], .int .i64 i] w fun e w' => e = .returned (.tuple #[.int .i64 y, .int .i64 z, .int .i64 ey]) ∧ Below w.heap.size w w') := by
      by_cases h1 : i < 0
      · exact ⟨0, 0, 2, fun w => bounds_off r w (.inl h1), fun w => refBounds_out1 r h1 w⟩
      by_cases h2 : nI l h d ≤ i
      · exact ⟨0, 0, 2, fun w => bounds_off r w (.inr h2), fun w => refBounds_out2 r (by omega) h2 w⟩
      · exact ⟨loI l d i, hiI l d i, 0, fun w => bounds_in r w (by omega) (by omega), fun w => refBounds_yes r (by omega) (by omega) w⟩
    obtain ⟨x, ex, HI, HJ⟩ := H1
    obtain ⟨y, z, ey, HK, HL⟩ := H2
    exact indexes_yes r (Lib.hid HI) (Lib.hid HJ) (Lib.hid HK) (Lib.hid HL) w
end Go.Proofs.Ytaeffkgnfbomdaa
