/- THE WALKS of times' and the document's own small functions: windows, moments, what a rate may be. -/
import Derived.Test.YthbphanlmhghdaaDoorRows
import Derived.WalkKit
import Derived.WalkSpells
import Derived.WalkLawsBesides
import Derived.Test.YthbphanlmhghdaaDoorLaw
namespace Go.Proofs.YthbphanlmhghdaaDoor
open Go.RowKit

def winOut (a l : Int) : Int × Int := if a < 0 ∨ 2305843009213693952 < a ∨ l < 1 ∨ 2305843009213693952 < l then (0, 2) else (a / l, 0)
theorem winOut_bad {a l : Int} (h : a < 0 ∨ 2305843009213693952 < a ∨ l < 1 ∨ 2305843009213693952 < l) : winOut a l = (0, 2) := if_pos h
theorem winOut_ok {a l : Int} (h1 : 0 ≤ a) (h2 : a ≤ 2305843009213693952) (h3 : 1 ≤ l) (h4 : l ≤ 2305843009213693952) : winOut a l = (a / l, 0) := if_neg (by omega)

def boundsOut (n l : Int) : Int × Int × Int := if l < 1 ∨ 2305843009213693952 < l ∨ n < 0 ∨ 2305843009213693952 / l < n then (0, 0, 2) else (n * l, n * l + l, 0)
theorem boundsOut_bad {n l : Int} (h : l < 1 ∨ 2305843009213693952 < l ∨ n < 0 ∨ 2305843009213693952 / l < n) : boundsOut n l = (0, 0, 2) := if_pos h
theorem boundsOut_ok {n l : Int} (h1 : 1 ≤ l) (h2 : l ≤ 2305843009213693952) (h3 : 0 ≤ n) (h4 : n ≤ 2305843009213693952 / l) : boundsOut n l = (n * l, n * l + l, 0) := if_neg (by omega)
theorem bounds_fit {n l : Int} (h1 : 1 ≤ l) (h3 : 0 ≤ n) (h4 : n ≤ 2305843009213693952 / l) : 0 ≤ n * l ∧ n * l ≤ 2305843009213693952 :=
  ⟨Int.mul_nonneg h3 (by omega), (Int.le_ediv_iff_mul_le (by omega)).mp h4⟩

def touchedOut (f t l : Int) : Int × Int × Int := if t < f ∨ f < 0 ∨ 2305843009213693952 < t ∨ l < 1 ∨ 2305843009213693952 < l then (0, 0, 2) else (f / l, t / l, 0)
theorem touchedOut_bad {f t l : Int} (h : t < f ∨ f < 0 ∨ 2305843009213693952 < t ∨ l < 1 ∨ 2305843009213693952 < l) : touchedOut f t l = (0, 0, 2) := if_pos h
theorem touchedOut_ok {f t l : Int} (h0 : f ≤ t) (h1 : 0 ≤ f) (h2 : t ≤ 2305843009213693952) (h3 : 1 ≤ l) (h4 : l ≤ 2305843009213693952) : touchedOut f t l = (f / l, t / l, 0) := if_neg (by omega)

theorem isMoment_any (x : Int) (w : World) : Calls Tryd.prog 37 #[.int .i64 x] w fun e w' => e = .returned (.bool (decide (0 ≤ x) && decide (x ≤ 2305843009213693952))) ∧ w = w' := by
  go_enter Tryd.func37, Tryd.ntmps37
  go_wp2
  all_goals (go_ret; refine ⟨?_, rfl⟩; congr 2; simp; omega)
theorem isLength_any (x : Int) (w : World) : Calls Tryd.prog 55 #[.int .i64 x] w fun e w' => e = .returned (.bool (decide (1 ≤ x) && decide (x ≤ 2305843009213693952))) ∧ w = w' := by
  go_enter Tryd.func55, Tryd.ntmps55
  go_wp2
  all_goals (go_ret; refine ⟨?_, rfl⟩; congr 2; simp; omega)
theorem window_any (a l : Int) (w : World) : Calls Tryd.prog 31 #[.int .i64 a, .int .i64 l] w fun e w' => e = .returned (.tuple #[.int .i64 (winOut a l).1, .int .i64 (winOut a l).2]) ∧ w = w' := by
  by_cases h : a < 0 ∨ 2305843009213693952 < a ∨ l < 1 ∨ 2305843009213693952 < l
  · rw [winOut_bad h]
    go_enter Tryd.func31, Tryd.ntmps31
    go_wp2
    all_goals first | (go_ret2; exact ⟨rfl, rfl⟩) | (exfalso; simp_all; omega)
  · obtain ⟨h1, h2, h3, h4⟩ : 0 ≤ a ∧ a ≤ 2305843009213693952 ∧ 1 ≤ l ∧ l ≤ 2305843009213693952 := by omega
    clear h
    rw [winOut_ok h1 h2 h3 h4]
    go_enter Tryd.func31, Tryd.ntmps31
    go_wp2
    all_goals (go_ret2; exact ⟨rfl, rfl⟩)
theorem refWindow_any (a l : Int) (w : World) : Calls Tryd.prog 32 #[.int .i64 a, .int .i64 l] w fun e w' => e = .returned (.tuple #[.int .i64 (winOut a l).1, .int .i64 (winOut a l).2]) ∧ w = w' := by
  by_cases h : a < 0 ∨ 2305843009213693952 < a ∨ l < 1 ∨ 2305843009213693952 < l
  · rw [winOut_bad h]
    go_enter Tryd.func32, Tryd.ntmps32
    go_wp2
    all_goals first | (go_ret2; exact ⟨rfl, rfl⟩) | (exfalso; simp_all; omega)
  · obtain ⟨h1, h2, h3, h4⟩ : 0 ≤ a ∧ a ≤ 2305843009213693952 ∧ 1 ≤ l ∧ l ≤ 2305843009213693952 := by omega
    clear h
    rw [winOut_ok h1 h2 h3 h4]
    go_enter Tryd.func32, Tryd.ntmps32
    go_wp2
    all_goals (go_ret2; exact ⟨rfl, rfl⟩)
theorem bounds_any (n l : Int) (w : World) : Calls Tryd.prog 33 #[.int .i64 n, .int .i64 l] w fun e w' => e = .returned (.tuple #[.int .i64 (boundsOut n l).1, .int .i64 (boundsOut n l).2.1, .int .i64 (boundsOut n l).2.2]) ∧ w = w' := by
  by_cases h : l < 1 ∨ 2305843009213693952 < l ∨ n < 0 ∨ 2305843009213693952 / l < n
  · rw [boundsOut_bad h]
    go_enter Tryd.func33, Tryd.ntmps33
    go_wp2
    all_goals first | (go_ret3; exact ⟨rfl, rfl⟩) | (exfalso; simp_all; omega)
  · obtain ⟨h1, h2, h3, h4⟩ : 1 ≤ l ∧ l ≤ 2305843009213693952 ∧ 0 ≤ n ∧ n ≤ 2305843009213693952 / l := by omega
    obtain ⟨h5, h6⟩ := bounds_fit h1 h3 h4
    clear h
    rw [boundsOut_ok h1 h2 h3 h4]
    go_enter Tryd.func33, Tryd.ntmps33
    go_wp2
    all_goals (go_ret3; exact ⟨rfl, rfl⟩)
theorem refBounds_any (n l : Int) (w : World) : Calls Tryd.prog 34 #[.int .i64 n, .int .i64 l] w fun e w' => e = .returned (.tuple #[.int .i64 (boundsOut n l).1, .int .i64 (boundsOut n l).2.1, .int .i64 (boundsOut n l).2.2]) ∧ w = w' := by
  by_cases h : l < 1 ∨ 2305843009213693952 < l ∨ n < 0 ∨ 2305843009213693952 / l < n
  · rw [boundsOut_bad h]
    go_enter Tryd.func34, Tryd.ntmps34
    go_wp2
    all_goals first | (go_ret3; exact ⟨rfl, rfl⟩) | (exfalso; simp_all; omega)
  · obtain ⟨h1, h2, h3, h4⟩ : 1 ≤ l ∧ l ≤ 2305843009213693952 ∧ 0 ≤ n ∧ n ≤ 2305843009213693952 / l := by omega
    obtain ⟨h5, h6⟩ := bounds_fit h1 h3 h4
    clear h
    rw [boundsOut_ok h1 h2 h3 h4]
    go_enter Tryd.func34, Tryd.ntmps34
    go_wp2
    all_goals (go_ret3; exact ⟨rfl, rfl⟩)
theorem touched_any (f t l : Int) (w : World) : Calls Tryd.prog 35 #[.int .i64 f, .int .i64 t, .int .i64 l] w fun e w' => e = .returned (.tuple #[.int .i64 (touchedOut f t l).1, .int .i64 (touchedOut f t l).2.1, .int .i64 (touchedOut f t l).2.2]) ∧ w = w' := by
  by_cases h : t < f ∨ f < 0 ∨ 2305843009213693952 < t ∨ l < 1 ∨ 2305843009213693952 < l
  · rw [touchedOut_bad h]
    go_enter Tryd.func35, Tryd.ntmps35
    go_wp2
    all_goals first | (go_ret3; exact ⟨rfl, rfl⟩) | (exfalso; simp_all; omega)
  · obtain ⟨h0, h1, h2, h3, h4⟩ : f ≤ t ∧ 0 ≤ f ∧ t ≤ 2305843009213693952 ∧ 1 ≤ l ∧ l ≤ 2305843009213693952 := by omega
    clear h
    rw [touchedOut_ok h0 h1 h2 h3 h4]
    go_enter Tryd.func35, Tryd.ntmps35
    go_wp2
    all_goals (go_ret3; exact ⟨rfl, rfl⟩)
theorem refTouched_any (f t l : Int) (w : World) : Calls Tryd.prog 36 #[.int .i64 f, .int .i64 t, .int .i64 l] w fun e w' => e = .returned (.tuple #[.int .i64 (touchedOut f t l).1, .int .i64 (touchedOut f t l).2.1, .int .i64 (touchedOut f t l).2.2]) ∧ w = w' := by
  by_cases h : t < f ∨ f < 0 ∨ 2305843009213693952 < t ∨ l < 1 ∨ 2305843009213693952 < l
  · rw [touchedOut_bad h]
    go_enter Tryd.func36, Tryd.ntmps36
    go_wp2
    all_goals first | (go_ret3; exact ⟨rfl, rfl⟩) | (exfalso; simp_all; omega)
  · obtain ⟨h0, h1, h2, h3, h4⟩ : f ≤ t ∧ 0 ≤ f ∧ t ≤ 2305843009213693952 ∧ 1 ≤ l ∧ l ≤ 2305843009213693952 := by omega
    clear h
    rw [touchedOut_ok h0 h1 h2 h3 h4]
    go_enter Tryd.func36, Tryd.ntmps36
    go_wp2
    all_goals (go_ret3; exact ⟨rfl, rfl⟩)

end Go.Proofs.YthbphanlmhghdaaDoor
