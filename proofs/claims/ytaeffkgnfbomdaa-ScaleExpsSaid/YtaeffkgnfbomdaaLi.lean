/- THE LAW 'ScaleCoarser', whatever comes in. -/
import Derived.Test.YtaeffkgnfbomdaaLh
namespace Go.Proofs.Ytaeffkgnfbomdaa
open Go.RowKit
/-- whatever is asked, Exp answers a place and an error -/
theorem exp_all (s : Int) (b : Nat) (hb : b < 18446744073709551616) : ∃ y0 y1 ey : Int, ∀ w, Calls Try.prog 19 #[.int .i64 s, .float .f64 b] w fun e w' => e = .returned (.tuple #[.agg #[.int .i64 y0, .int .i64 y1], .int .i64 ey]) ∧ Below w.heap.size w w' := by
  by_cases hs : s < -4 ∨ 8 < s
  · exact ⟨0, 0, 2, fun w => exp_bad w hs⟩
  · rcases kinds b hb with ⟨h1, h2⟩ | ⟨c, rfl, h1, h2⟩ | h | h | h
    · exact ⟨1, _, 0, fun w => exp_pos w (by omega) (by omega) h1 h2⟩
    · exact ⟨-1, _, 0, fun w => exp_neg w (by omega) (by omega) h1 h2⟩
    · exact ⟨0, 0, 0, fun w => exp_zero w (by omega) (by omega) h⟩
    · exact ⟨0, 0, 81, fun w => exp_inf w (by omega) (by omega) h⟩
    · exact ⟨0, 0, 81, fun w => exp_nan w (by omega) (by omega) h⟩
theorem bk_in {s : Int} {b : Nat} (h0 : 0 < b) (h : b < 9218868437227405312) : FL.bk s 1 ≤ FL.bk s b ∧ FL.bk s b ≤ FL.bk s 9218868437227405311 := ⟨FL.bk_mono s (by omega) (by omega), FL.bk_mono s h0 (by omega)⟩
theorem coN_small (k : Nat) : ∀ i : Int, -275200 ≤ i → i ≤ 262144 → -275200 ≤ FL.coN k i ∧ FL.coN k i ≤ 262144 := by
  induction k with
  | zero => intro i h1 h2; exact ⟨h1, h2⟩
  | succ k ih => intro i h1 h2; exact ih _ (by unfold FL.co; omega) (by unfold FL.co; omega)
theorem bk_small {s : Int} {b : Nat} (h0 : 0 < b) (h : b < 9218868437227405312) : -275200 ≤ FL.bk s b ∧ FL.bk s b ≤ 262144 := by
  have h1 := ix_in h0 h
  exact coN_small _ _ h1.1 h1.2
theorem bk_zero_in {s : Int} (hs1 : -4 ≤ s) (hs2 : s ≤ 8) : FL.bk s 1 ≤ 0 ∧ 0 ≤ FL.bk s 9218868437227405311 := by
  obtain rfl | rfl | rfl | rfl | rfl | rfl | rfl | rfl | rfl | rfl | rfl | rfl | rfl : s = -4 ∨ s = -3 ∨ s = -2 ∨ s = -1 ∨ s = 0 ∨ s = 1 ∨ s = 2 ∨ s = 3 ∨ s = 4 ∨ s = 5 ∨ s = 6 ∨ s = 7 ∨ s = 8 := by omega
  all_goals decide +kernel
/-- the greatest float of a coarser bucket is that of its second finer one -/
theorem top_coarser {s i : Int} {F : Nat} (hs : s ≤ 8) : FL.IsTop (s - 1) i F ↔ FL.IsTop s (2 * i) F := by
  have h : ∀ c, FL.inB (s - 1) i c ↔ FL.inB s (2 * i) c := by
    intro c
    unfold FL.inB
    rw [FL.bk_coarser hs c]
    have : FL.co (FL.bk s c) ≤ i ↔ FL.bk s c ≤ 2 * i := by unfold FL.co; omega
    rw [this]
  unfold FL.IsTop
  rw [h F]
  constructor
  · intro ⟨a, b⟩; exact ⟨a, fun c hc => b c ((h c).2 hc)⟩
  · intro ⟨a, b⟩; exact ⟨a, fun c hc => b c ((h c).1 hc)⟩
theorem co_fin {s : Int} {b : Nat} {sg A : Int} (hs1 : -3 ≤ s) (hs2 : s ≤ 8) (hA1 : FL.bk s 1 ≤ A) (hA2 : A ≤ FL.bk s 9218868437227405311)
    (HX : ∀ w, Calls Try.prog 19 #[.int .i64 s, .float .f64 b] w fun e w' => e = .returned (.tuple #[.agg #[.int .i64 sg, .int .i64 A], .int .i64 0]) ∧ Below w.heap.size w w')
    (HY : ∀ w, Calls Try.prog 19 #[.int .i64 (s - 1), .float .f64 b] w fun e w' => e = .returned (.tuple #[.agg #[.int .i64 sg, .int .i64 (FL.co A)], .int .i64 0]) ∧ Below w.heap.size w w') (w : World) : Calls Try.prog 9 #[.int .i64 s, .float .f64 b] w fun e w' => e = .returned (.bool true) ∧ Below w.heap.size w w' := by
  have b1 := bk_small (s := s) (b := 1) (by omega) (by omega)
  have b2 := bk_small (s := s) (b := 9218868437227405311) (by omega) (by omega)
  have c1 : FL.bk (s - 1) 1 = FL.co (FL.bk s 1) := FL.bk_coarser hs2 1
  have c2 : FL.bk (s - 1) 9218868437227405311 = FL.co (FL.bk s 9218868437227405311) := FL.bk_coarser hs2 _
  obtain ⟨F, hF⟩ := FL.top_exists (s - 1) (FL.co A)
  have hco : -275200 ≤ FL.co A ∧ FL.co A ≤ 262144 ∧ A ≤ 2 * FL.co A := by unfold FL.co; omega
  have HU := fun w => upper_any (s := s - 1) (i := FL.co A) (F := F) (by omega) (by omega) (by rw [c1]; have := FL.co_mono hA1; omega) (by rw [c2]; exact FL.co_mono hA2) hF w
  have HC := fun w => coarser_any A w (by omega) (by omega)
  have HE := fun w => ends_yes (s := s) (by omega) hs2 w
  by_cases hgt : FL.bk s 9218868437227405311 < 2 * FL.co A
  · exact co_x hs1 hs2 (Lib.hid HX) (Lib.hid HY) (Lib.hid HC) (Lib.hid HE) (Lib.hid HU) (Lib.hid fun w => upper_out (by omega) hs2 hgt (by omega) w) (by omega) (by omega) (Lib.hid (.inl hgt)) w
  · exact co_x hs1 hs2 (Lib.hid HX) (Lib.hid HY) (Lib.hid HC) (Lib.hid HE) (Lib.hid HU) (Lib.hid fun w => upper_any (by omega) hs2 (by omega) (by omega) ((top_coarser hs2).1 hF) w) (by omega) (by omega) (Lib.hid (.inr ⟨by omega, rfl, rfl⟩)) w
theorem coarserLaw_any (s : Int) (b : Nat) (hs1 : -9223372036854775808 ≤ s) (hs2 : s ≤ 9223372036854775807) (hb : b < 18446744073709551616) (w : World) : Calls Try.prog 9 #[.int .i64 s, .float .f64 b] w fun e w' => e = .returned (.bool true) ∧ Below w.heap.size w w' := by
  by_cases h0 : s = -9223372036854775808
  · subst h0
    obtain ⟨y0, y1, ey, HY⟩ := exp_all (wrap64 (-9223372036854775809)) b hb
    exact co_bad0 (Lib.hid fun w => exp_bad w (by omega)) (Lib.hid HY) w
  by_cases h1 : s < -4 ∨ 8 < s
  · obtain ⟨y0, y1, ey, HY⟩ := exp_all (s - 1) b hb
    exact co_bad1 (by omega) hs2 (Lib.hid fun w => exp_bad w h1) (Lib.hid HY) w
  by_cases h2 : s = -4
  · subst h2
    obtain ⟨x0, x1, ex, HX⟩ := exp_all (-4) b hb
    rcases kinds b hb with ⟨k1, k2⟩ | ⟨c, rfl, k1, k2⟩ | k | k | k
    · exact co_bad2 (Lib.hid fun w => exp_pos w (by omega) (by omega) k1 k2) (Lib.hid fun w => exp_bad w (by omega)) w
    · exact co_bad2 (Lib.hid fun w => exp_neg w (by omega) (by omega) k1 k2) (Lib.hid fun w => exp_bad w (by omega)) w
    · exact co_bad2 (Lib.hid fun w => exp_zero w (by omega) (by omega) k) (Lib.hid fun w => exp_bad w (by omega)) w
    · exact co_bad3 (by omega) (by omega) (Lib.hid fun w => exp_inf w (by omega) (by omega) k) (Lib.hid fun w => exp_bad w (by omega)) w
    · exact co_bad3 (by omega) (by omega) (Lib.hid fun w => exp_nan w (by omega) (by omega) k) (Lib.hid fun w => exp_bad w (by omega)) w
  · rcases kinds b hb with ⟨k1, k2⟩ | ⟨c, rfl, k1, k2⟩ | k | k | k
    · have hk := bk_in (s := s) k1 k2
      exact co_fin (by omega) (by omega) hk.1 hk.2 (fun w => exp_pos w (by omega) (by omega) k1 k2) (fun w => by rw [← FL.bk_coarser (by omega)]; exact exp_pos w (by omega) (by omega) k1 k2) w
    · have hk := bk_in (s := s) k1 k2
      exact co_fin (by omega) (by omega) hk.1 hk.2 (fun w => exp_neg w (by omega) (by omega) k1 k2) (fun w => by rw [← FL.bk_coarser (by omega)]; exact exp_neg w (by omega) (by omega) k1 k2) w
    · have hk := bk_zero_in (s := s) (by omega) (by omega)
      exact co_fin (by omega) (by omega) hk.1 hk.2 (fun w => exp_zero w (by omega) (by omega) k) (fun w => by rw [show FL.co 0 = 0 from rfl]; exact exp_zero w (by omega) (by omega) k) w
    · obtain ⟨y0, y1, ey, HY⟩ := exp_all (s - 1) b hb
      exact co_bad3 (by omega) (by omega) (Lib.hid fun w => exp_inf w (by omega) (by omega) k) (Lib.hid HY) w
    · obtain ⟨y0, y1, ey, HY⟩ := exp_all (s - 1) b hb
      exact co_bad3 (by omega) (by omega) (Lib.hid fun w => exp_nan w (by omega) (by omega) k) (Lib.hid HY) w
end Go.Proofs.Ytaeffkgnfbomdaa
