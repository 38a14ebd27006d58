/- THE WALKS of what so many cost, and of the document's own answers to that and to what a rate brings. -/
import Derived.Test.YthbphanlmhghdaaDoorWf
namespace Go.Proofs.YthbphanlmhghdaaDoor
open Go.RowKit

theorem divV_eq (a b c : Int) : TM.divV a b c = quoV (a * b) c := rfl
theorem quoR_ok {n d : Int} (h : n / d ≤ 2305843009213693952) : quoR n d = n % d := if_pos h
theorem quoR_many {n d : Int} (h : 2305843009213693952 < n / d) : quoR n d = 0 := if_neg (by omega)
theorem divW_ok {a b c : Int} (h : a * b / c ≤ 2305843009213693952) : TM.divW a b c = decide (a * b % c = 0) := if_pos h
theorem divW_many {a b c : Int} (h : 2305843009213693952 < a * b / c) : TM.divW a b c = false := if_neg (by omega)

/-! ### the document's Accrued -/
theorem span_any (x : Int) (w : World) : Calls Tryd.prog 41 #[.int .i64 x] w fun e w' => e = .returned (.bool (decide (0 ≤ x) && decide (x ≤ 2305843009213693952))) ∧ w = w' := by
  go_enter Tryd.func41, Tryd.ntmps41
  go_wp2
  all_goals (go_ret; refine ⟨?_, rfl⟩; congr 2; simp; omega)

set_option maxHeartbeats 1000000 in
theorem refAccrued_rate (N P d : Int) (w : World) (h : ¬ TM.right N P) :
    Calls Tryd.prog 28 #[.agg #[.int .i64 N, .int .i64 P], .int .i64 d] w fun e w' => e = .returned (.tuple #[.int .i64 0, .int .i64 21]) ∧ Below w.heap.size w w' := by
  have hr : decide (TM.right N P) = false := decide_eq_false h
  clear h
  go_enter Tryd.func28, Tryd.ntmps28
  go_wp2_with (first
    | (go_at_call 49; refine (right_any _ _ _).mono ?_; rw [hr]; rintro e w1 ⟨rfl, hb1⟩; obtain ⟨hc0, hc1⟩ := (two_call (two_start w (.int .i64 N) (.int .i64 P) 29) hb1).1; have HB := Lib.hid hb1; clear hb1))
  go_ret2
  exact ⟨rfl, two_below (two_call (two_start w (.int .i64 N) (.int .i64 P) 29) HB.out)⟩

set_option maxHeartbeats 1000000 in
theorem refAccrued_span (N P d : Int) (w : World) (h : TM.right N P) (h2 : d < 0 ∨ 2305843009213693952 < d) :
    Calls Tryd.prog 28 #[.agg #[.int .i64 N, .int .i64 P], .int .i64 d] w fun e w' => e = .returned (.tuple #[.int .i64 0, .int .i64 2]) ∧ Below w.heap.size w w' := by
  have hr : decide (TM.right N P) = true := decide_eq_true h
  have hm := moment_no h2
  clear h h2
  go_enter Tryd.func28, Tryd.ntmps28
  go_wp2_with (first
    | (go_at_call 49; refine (right_any _ _ _).mono ?_; rw [hr]; rintro e w1 ⟨rfl, hb1⟩; obtain ⟨hc0, hc1⟩ := (two_call (two_start w (.int .i64 N) (.int .i64 P) 29) hb1).1; have HB := Lib.hid hb1; clear hb1)
    | (go_at_call 41; refine (span_any _ _).mono ?_; rw [hm]; rintro e w1' ⟨rfl, rfl⟩))
  go_ret2
  exact ⟨rfl, two_below (two_call (two_start w (.int .i64 N) (.int .i64 P) 29) HB.out)⟩

set_option maxHeartbeats 1000000 in
theorem refAccrued_ok (N P d : Int) (w : World) (h : TM.right N P) (hd : 0 ≤ d) (hd' : d ≤ 2305843009213693952) (hs : N * d / P ≤ 2305843009213693952) :
    Calls Tryd.prog 28 #[.agg #[.int .i64 N, .int .i64 P], .int .i64 d] w fun e w' => e = .returned (.tuple #[.int .i64 (N * d / P), .int .i64 0]) ∧ Below w.heap.size w w' := by
  have hr : decide (TM.right N P) = true := decide_eq_true h
  obtain ⟨h1, h2, h3, h4⟩ := h
  have hm := moment_yes hd hd'
  have hq := quoV_ok hs
  go_enter Tryd.func28, Tryd.ntmps28
  go_wp2_with (first
    | (go_at_call 49; refine (right_any _ _ _).mono ?_; rw [hr]; rintro e w1 ⟨rfl, hb1⟩; obtain ⟨hc0, hc1⟩ := (two_call (two_start w (.int .i64 N) (.int .i64 P) 29) hb1).1; have HB := Lib.hid hb1; clear hb1)
    | (go_at_call 41; refine (span_any _ _).mono ?_; rw [hm]; rintro e w1' ⟨rfl, rfl⟩)
    | (go_at_call 54; refine (divided_any _ _ _ _ h1 (by omega) hd hd' h3 h4).mono ?_; rw [divV_eq, hq]; rintro e w2 ⟨rfl, rfl⟩))
  go_ret2
  exact ⟨rfl, two_below (two_call (two_start w (.int .i64 N) (.int .i64 P) 29) HB.out)⟩

set_option maxHeartbeats 1000000 in
theorem refAccrued_many (N P d : Int) (w : World) (h : TM.right N P) (hd : 0 ≤ d) (hd' : d ≤ 2305843009213693952) (hs : 2305843009213693952 < N * d / P) :
    Calls Tryd.prog 28 #[.agg #[.int .i64 N, .int .i64 P], .int .i64 d] w fun e w' => e = .returned (.tuple #[.int .i64 0, .int .i64 3]) ∧ Below w.heap.size w w' := by
  have hr : decide (TM.right N P) = true := decide_eq_true h
  obtain ⟨h1, h2, h3, h4⟩ := h
  have hm := moment_yes hd hd'
  have hq := quoV_many hs
  go_enter Tryd.func28, Tryd.ntmps28
  go_wp2_with (first
    | (go_at_call 49; refine (right_any _ _ _).mono ?_; rw [hr]; rintro e w1 ⟨rfl, hb1⟩; obtain ⟨hc0, hc1⟩ := (two_call (two_start w (.int .i64 N) (.int .i64 P) 29) hb1).1; have HB := Lib.hid hb1; clear hb1)
    | (go_at_call 41; refine (span_any _ _).mono ?_; rw [hm]; rintro e w1' ⟨rfl, rfl⟩)
    | (go_at_call 54; refine (divided_any _ _ _ _ h1 (by omega) hd hd' h3 h4).mono ?_; rw [divV_eq, hq]; rintro e w2 ⟨rfl, rfl⟩))
  go_ret2
  exact ⟨rfl, two_below (two_call (two_start w (.int .i64 N) (.int .i64 P) 29) HB.out)⟩


theorem refAccrued_any (N P d : Int) (w : World) :
    Calls Tryd.prog 28 #[.agg #[.int .i64 N, .int .i64 P], .int .i64 d] w fun e w' => e = .returned (.tuple #[.int .i64 (TM.accOut N P d).1, .int .i64 (TM.accOut N P d).2]) ∧ Below w.heap.size w w' := by
  rcases TM.accOut_cases N P d with ⟨a, e⟩ | ⟨a, b, e⟩ | ⟨a, b, c, g, e⟩ | ⟨a, b, c, _, g, e⟩
  · rw [e]; exact refAccrued_rate N P d w a
  · rw [e]; exact refAccrued_span N P d w a b
  · rw [e]; exact refAccrued_many N P d w a b c g
  · rw [e]; exact refAccrued_ok N P d w a b c g

/-! ### Cost -/
set_option maxHeartbeats 1000000 in
theorem cost_rate (N P d : Int) (w : World) (h : ¬ TM.right N P) :
    Calls Tryd.prog 29 #[.agg #[.int .i64 N, .int .i64 P], .int .i64 d] w fun e w' => e = .returned (.tuple #[.int .i64 0, .int .i64 21]) ∧ Below w.heap.size w w' := by
  have hr := rateOut_bad h
  clear h
  go_enter Tryd.func29, Tryd.ntmps29
  go_wp2_with (first
    | (go_at_call 16; refine (checkRate_any _ _ _).mono ?_; rw [hr]; rintro e w1 ⟨rfl, hb1⟩; obtain ⟨hc0, hc1⟩ := (two_call (two_start w (.int .i64 N) (.int .i64 P) 29) hb1).1; have HB := Lib.hid hb1; clear hb1))
  go_ret2
  exact ⟨rfl, two_below (two_call (two_start w (.int .i64 N) (.int .i64 P) 29) HB.out)⟩

set_option maxHeartbeats 1000000 in
theorem cost_low (N P d : Int) (w : World) (h : TM.right N P) (h2 : d < 0) :
    Calls Tryd.prog 29 #[.agg #[.int .i64 N, .int .i64 P], .int .i64 d] w fun e w' => e = .returned (.tuple #[.int .i64 0, .int .i64 2]) ∧ Below w.heap.size w w' := by
  have hr := rateOut_ok h
  clear h
  go_enter Tryd.func29, Tryd.ntmps29
  go_wp2_with (first
    | (go_at_call 16; refine (checkRate_any _ _ _).mono ?_; rw [hr]; rintro e w1 ⟨rfl, hb1⟩; obtain ⟨hc0, hc1⟩ := (two_call (two_start w (.int .i64 N) (.int .i64 P) 29) hb1).1; have HB := Lib.hid hb1; clear hb1))
  go_ret2
  exact ⟨rfl, two_below (two_call (two_start w (.int .i64 N) (.int .i64 P) 29) HB.out)⟩

set_option maxHeartbeats 1000000 in
theorem cost_high (N P d : Int) (w : World) (h : TM.right N P) (h2 : 2305843009213693952 < d) :
    Calls Tryd.prog 29 #[.agg #[.int .i64 N, .int .i64 P], .int .i64 d] w fun e w' => e = .returned (.tuple #[.int .i64 0, .int .i64 2]) ∧ Below w.heap.size w w' := by
  have hr := rateOut_ok h
  clear h
  go_enter Tryd.func29, Tryd.ntmps29
  go_wp2_with (first
    | (go_at_call 16; refine (checkRate_any _ _ _).mono ?_; rw [hr]; rintro e w1 ⟨rfl, hb1⟩; obtain ⟨hc0, hc1⟩ := (two_call (two_start w (.int .i64 N) (.int .i64 P) 29) hb1).1; have HB := Lib.hid hb1; clear hb1))
  go_ret2
  exact ⟨rfl, two_below (two_call (two_start w (.int .i64 N) (.int .i64 P) 29) HB.out)⟩

set_option maxHeartbeats 1000000 in
theorem cost_none (N P d : Int) (w : World) (h : TM.right N P) (h2 : d = 0) :
    Calls Tryd.prog 29 #[.agg #[.int .i64 N, .int .i64 P], .int .i64 d] w fun e w' => e = .returned (.tuple #[.int .i64 0, .int .i64 0]) ∧ Below w.heap.size w w' := by
  have hr := rateOut_ok h
  clear h
  subst h2
  go_enter Tryd.func29, Tryd.ntmps29
  go_wp2_with (first
    | (go_at_call 16; refine (checkRate_any _ _ _).mono ?_; rw [hr]; rintro e w1 ⟨rfl, hb1⟩; obtain ⟨hc0, hc1⟩ := (two_call (two_start w (.int .i64 N) (.int .i64 P) 29) hb1).1; have HB := Lib.hid hb1; clear hb1))
  go_ret2
  exact ⟨rfl, two_below (two_call (two_start w (.int .i64 N) (.int .i64 P) 29) HB.out)⟩

set_option maxHeartbeats 1000000 in
theorem cost_never (N P d : Int) (w : World) (h : TM.right N P) (h2 : 1 ≤ d) (h3 : d ≤ 2305843009213693952) (h4 : N = 0) :
    Calls Tryd.prog 29 #[.agg #[.int .i64 N, .int .i64 P], .int .i64 d] w fun e w' => e = .returned (.tuple #[.int .i64 0, .int .i64 3]) ∧ Below w.heap.size w w' := by
  have hr := rateOut_ok h
  clear h
  subst h4
  go_enter Tryd.func29, Tryd.ntmps29
  go_wp2_with (first
    | (go_at_call 16; refine (checkRate_any _ _ _).mono ?_; rw [hr]; rintro e w1 ⟨rfl, hb1⟩; obtain ⟨hc0, hc1⟩ := (two_call (two_start w (.int .i64 0) (.int .i64 P) 29) hb1).1; have HB := Lib.hid hb1; clear hb1))
  go_ret2
  exact ⟨rfl, two_below (two_call (two_start w (.int .i64 0) (.int .i64 P) 29) HB.out)⟩

set_option maxHeartbeats 1000000 in
theorem refCost_rate (N P d : Int) (w : World) (h : ¬ TM.right N P) :
    Calls Tryd.prog 30 #[.agg #[.int .i64 N, .int .i64 P], .int .i64 d] w fun e w' => e = .returned (.tuple #[.int .i64 0, .int .i64 21]) ∧ Below w.heap.size w w' := by
  have hr : decide (TM.right N P) = false := decide_eq_false h
  clear h
  go_enter Tryd.func30, Tryd.ntmps30
  go_wp2_with (first
    | (go_at_call 49; refine (right_any _ _ _).mono ?_; rw [hr]; rintro e w1 ⟨rfl, hb1⟩; obtain ⟨hc0, hc1⟩ := (two_call (two_start w (.int .i64 N) (.int .i64 P) 29) hb1).1; have HB := Lib.hid hb1; clear hb1))
  go_ret2
  exact ⟨rfl, two_below (two_call (two_start w (.int .i64 N) (.int .i64 P) 29) HB.out)⟩

set_option maxHeartbeats 1000000 in
theorem refCost_low (N P d : Int) (w : World) (h : TM.right N P) (h2 : d < 0) :
    Calls Tryd.prog 30 #[.agg #[.int .i64 N, .int .i64 P], .int .i64 d] w fun e w' => e = .returned (.tuple #[.int .i64 0, .int .i64 2]) ∧ Below w.heap.size w w' := by
  have hr : decide (TM.right N P) = true := decide_eq_true h
  clear h
  go_enter Tryd.func30, Tryd.ntmps30
  go_wp2_with (first
    | (go_at_call 49; refine (right_any _ _ _).mono ?_; rw [hr]; rintro e w1 ⟨rfl, hb1⟩; obtain ⟨hc0, hc1⟩ := (two_call (two_start w (.int .i64 N) (.int .i64 P) 29) hb1).1; have HB := Lib.hid hb1; clear hb1))
  go_ret2
  exact ⟨rfl, two_below (two_call (two_start w (.int .i64 N) (.int .i64 P) 29) HB.out)⟩

set_option maxHeartbeats 1000000 in
theorem refCost_high (N P d : Int) (w : World) (h : TM.right N P) (h2 : 2305843009213693952 < d) :
    Calls Tryd.prog 30 #[.agg #[.int .i64 N, .int .i64 P], .int .i64 d] w fun e w' => e = .returned (.tuple #[.int .i64 0, .int .i64 2]) ∧ Below w.heap.size w w' := by
  have hr : decide (TM.right N P) = true := decide_eq_true h
  clear h
  go_enter Tryd.func30, Tryd.ntmps30
  go_wp2_with (first
    | (go_at_call 49; refine (right_any _ _ _).mono ?_; rw [hr]; rintro e w1 ⟨rfl, hb1⟩; obtain ⟨hc0, hc1⟩ := (two_call (two_start w (.int .i64 N) (.int .i64 P) 29) hb1).1; have HB := Lib.hid hb1; clear hb1))
  go_ret2
  exact ⟨rfl, two_below (two_call (two_start w (.int .i64 N) (.int .i64 P) 29) HB.out)⟩

set_option maxHeartbeats 1000000 in
theorem refCost_none (N P d : Int) (w : World) (h : TM.right N P) (h2 : d = 0) :
    Calls Tryd.prog 30 #[.agg #[.int .i64 N, .int .i64 P], .int .i64 d] w fun e w' => e = .returned (.tuple #[.int .i64 0, .int .i64 0]) ∧ Below w.heap.size w w' := by
  have hr : decide (TM.right N P) = true := decide_eq_true h
  clear h
  subst h2
  go_enter Tryd.func30, Tryd.ntmps30
  go_wp2_with (first
    | (go_at_call 49; refine (right_any _ _ _).mono ?_; rw [hr]; rintro e w1 ⟨rfl, hb1⟩; obtain ⟨hc0, hc1⟩ := (two_call (two_start w (.int .i64 N) (.int .i64 P) 29) hb1).1; have HB := Lib.hid hb1; clear hb1))
  go_ret2
  exact ⟨rfl, two_below (two_call (two_start w (.int .i64 N) (.int .i64 P) 29) HB.out)⟩

set_option maxHeartbeats 1000000 in
theorem refCost_never (N P d : Int) (w : World) (h : TM.right N P) (h2 : 1 ≤ d) (h3 : d ≤ 2305843009213693952) (h4 : N = 0) :
    Calls Tryd.prog 30 #[.agg #[.int .i64 N, .int .i64 P], .int .i64 d] w fun e w' => e = .returned (.tuple #[.int .i64 0, .int .i64 3]) ∧ Below w.heap.size w w' := by
  have hr : decide (TM.right N P) = true := decide_eq_true h
  clear h
  subst h4
  go_enter Tryd.func30, Tryd.ntmps30
  go_wp2_with (first
    | (go_at_call 49; refine (right_any _ _ _).mono ?_; rw [hr]; rintro e w1 ⟨rfl, hb1⟩; obtain ⟨hc0, hc1⟩ := (two_call (two_start w (.int .i64 0) (.int .i64 P) 29) hb1).1; have HB := Lib.hid hb1; clear hb1))
  go_ret2
  exact ⟨rfl, two_below (two_call (two_start w (.int .i64 0) (.int .i64 P) 29) HB.out)⟩

set_option maxHeartbeats 1000000 in
theorem cost_exact (N P d : Int) (w : World) (h : TM.right N P) (hd : 1 ≤ d) (hd' : d ≤ 2305843009213693952) (hN : 1 ≤ N) (q : Int) (hq : quoV (d * P) N = q) (hq0 : 0 ≤ q) (hq1 : q ≤ 2305843009213693952) (hx : quoR (d * P) N = 0) :
    Calls Tryd.prog 29 #[.agg #[.int .i64 N, .int .i64 P], .int .i64 d] w fun e w' => e = .returned (.tuple #[.int .i64 q, .int .i64 0]) ∧ Below w.heap.size w w' := by
  have hr := rateOut_ok h
  obtain ⟨h1, h2, h3, h4⟩ := h
  have hn : 0 ≤ d * P := Int.mul_nonneg (by omega) (by omega)
  clear h1
  go_enter Tryd.func29, Tryd.ntmps29
  go_wp2_with (first
    | (go_at_call 16; refine (checkRate_any _ _ _).mono ?_; rw [hr]; rintro e w1 ⟨rfl, hb1⟩; obtain ⟨hc0, hc1⟩ := (two_call (two_start w (.int .i64 N) (.int .i64 P) 29) hb1).1; have HB := Lib.hid hb1; clear hb1))
  have hT := two_call (two_start w (.int .i64 N) (.int .i64 P) 29) HB.out
  unfold Two at hT
  clear HB hc0 hc1
  go_region_held3 (fun w' => (w'.cell? ⟨w.heap.size, 0, none⟩ = some (.int .i64 N) ∧ w'.cell? ⟨w.heap.size, 1, none⟩ = some (.int .i64 P)) ∧ Below w.heap.size w w' ∧ w.heap.size + 1 ≤ w'.heap.size) (first | assumption | exact two_drew ‹_› | exact two_call ‹_› ‹_›)
    (first
      | (go_at_call 46; refine (product_any d P _ (by omega) (by omega) (by omega) (by omega)).mono ?_; rintro e w' ⟨rfl, hb⟩)
      | (go_at_call 53; refine (over_any (d * P) N _ (by omega) (by omega) (by omega)).mono ?_; rintro e w' ⟨rfl, hb⟩))
  go_wp2
  go_ret2
  exact ⟨rfl, two_below (u := .int .i64 N) (v := .int .i64 P) ‹_›⟩

set_option maxHeartbeats 1000000 in
theorem cost_more (N P d : Int) (w : World) (h : TM.right N P) (hd : 1 ≤ d) (hd' : d ≤ 2305843009213693952) (hN : 1 ≤ N) (q r : Int) (hq : quoV (d * P) N = q) (hq0 : 0 ≤ q) (hq1 : q < 2305843009213693952) (hx : quoR (d * P) N = r) (hx0 : 0 < r) :
    Calls Tryd.prog 29 #[.agg #[.int .i64 N, .int .i64 P], .int .i64 d] w fun e w' => e = .returned (.tuple #[.int .i64 (q + 1), .int .i64 0]) ∧ Below w.heap.size w w' := by
  have hr := rateOut_ok h
  obtain ⟨h1, h2, h3, h4⟩ := h
  have hn : 0 ≤ d * P := Int.mul_nonneg (by omega) (by omega)
  clear h1
  go_enter Tryd.func29, Tryd.ntmps29
  go_wp2_with (first
    | (go_at_call 16; refine (checkRate_any _ _ _).mono ?_; rw [hr]; rintro e w1 ⟨rfl, hb1⟩; obtain ⟨hc0, hc1⟩ := (two_call (two_start w (.int .i64 N) (.int .i64 P) 29) hb1).1; have HB := Lib.hid hb1; clear hb1))
  have hT := two_call (two_start w (.int .i64 N) (.int .i64 P) 29) HB.out
  unfold Two at hT
  clear HB hc0 hc1
  go_region_held3 (fun w' => (w'.cell? ⟨w.heap.size, 0, none⟩ = some (.int .i64 N) ∧ w'.cell? ⟨w.heap.size, 1, none⟩ = some (.int .i64 P)) ∧ Below w.heap.size w w' ∧ w.heap.size + 1 ≤ w'.heap.size) (first | assumption | exact two_drew ‹_› | exact two_call ‹_› ‹_›)
    (first
      | (go_at_call 46; refine (product_any d P _ (by omega) (by omega) (by omega) (by omega)).mono ?_; rintro e w' ⟨rfl, hb⟩)
      | (go_at_call 53; refine (over_any (d * P) N _ (by omega) (by omega) (by omega)).mono ?_; rintro e w' ⟨rfl, hb⟩))
  go_wp2
  go_ret2
  exact ⟨rfl, two_below (u := .int .i64 N) (v := .int .i64 P) ‹_›⟩

set_option maxHeartbeats 1000000 in
theorem cost_many (N P d : Int) (w : World) (h : TM.right N P) (hd : 1 ≤ d) (hd' : d ≤ 2305843009213693952) (hN : 1 ≤ N) (hq : quoV (d * P) N = 2305843009213693953) (hx : quoR (d * P) N = 0) :
    Calls Tryd.prog 29 #[.agg #[.int .i64 N, .int .i64 P], .int .i64 d] w fun e w' => e = .returned (.tuple #[.int .i64 0, .int .i64 3]) ∧ Below w.heap.size w w' := by
  have hr := rateOut_ok h
  obtain ⟨h1, h2, h3, h4⟩ := h
  have hn : 0 ≤ d * P := Int.mul_nonneg (by omega) (by omega)
  clear h1
  go_enter Tryd.func29, Tryd.ntmps29
  go_wp2_with (first
    | (go_at_call 16; refine (checkRate_any _ _ _).mono ?_; rw [hr]; rintro e w1 ⟨rfl, hb1⟩; obtain ⟨hc0, hc1⟩ := (two_call (two_start w (.int .i64 N) (.int .i64 P) 29) hb1).1; have HB := Lib.hid hb1; clear hb1))
  have hT := two_call (two_start w (.int .i64 N) (.int .i64 P) 29) HB.out
  unfold Two at hT
  clear HB hc0 hc1
  go_region_held3 (fun w' => (w'.cell? ⟨w.heap.size, 0, none⟩ = some (.int .i64 N) ∧ w'.cell? ⟨w.heap.size, 1, none⟩ = some (.int .i64 P)) ∧ Below w.heap.size w w' ∧ w.heap.size + 1 ≤ w'.heap.size) (first | assumption | exact two_drew ‹_› | exact two_call ‹_› ‹_›)
    (first
      | (go_at_call 46; refine (product_any d P _ (by omega) (by omega) (by omega) (by omega)).mono ?_; rintro e w' ⟨rfl, hb⟩)
      | (go_at_call 53; refine (over_any (d * P) N _ (by omega) (by omega) (by omega)).mono ?_; rintro e w' ⟨rfl, hb⟩))
  go_wp2
  go_ret2
  exact ⟨rfl, two_below (u := .int .i64 N) (v := .int .i64 P) ‹_›⟩

set_option maxHeartbeats 1000000 in
theorem cost_edge (N P d : Int) (w : World) (h : TM.right N P) (hd : 1 ≤ d) (hd' : d ≤ 2305843009213693952) (hN : 1 ≤ N) (r : Int) (hq : quoV (d * P) N = 2305843009213693952) (hx : quoR (d * P) N = r) (hx0 : 0 < r) :
    Calls Tryd.prog 29 #[.agg #[.int .i64 N, .int .i64 P], .int .i64 d] w fun e w' => e = .returned (.tuple #[.int .i64 0, .int .i64 3]) ∧ Below w.heap.size w w' := by
  have hr := rateOut_ok h
  obtain ⟨h1, h2, h3, h4⟩ := h
  have hn : 0 ≤ d * P := Int.mul_nonneg (by omega) (by omega)
  clear h1
  go_enter Tryd.func29, Tryd.ntmps29
  go_wp2_with (first
    | (go_at_call 16; refine (checkRate_any _ _ _).mono ?_; rw [hr]; rintro e w1 ⟨rfl, hb1⟩; obtain ⟨hc0, hc1⟩ := (two_call (two_start w (.int .i64 N) (.int .i64 P) 29) hb1).1; have HB := Lib.hid hb1; clear hb1))
  have hT := two_call (two_start w (.int .i64 N) (.int .i64 P) 29) HB.out
  unfold Two at hT
  clear HB hc0 hc1
  go_region_held3 (fun w' => (w'.cell? ⟨w.heap.size, 0, none⟩ = some (.int .i64 N) ∧ w'.cell? ⟨w.heap.size, 1, none⟩ = some (.int .i64 P)) ∧ Below w.heap.size w w' ∧ w.heap.size + 1 ≤ w'.heap.size) (first | assumption | exact two_drew ‹_› | exact two_call ‹_› ‹_›)
    (first
      | (go_at_call 46; refine (product_any d P _ (by omega) (by omega) (by omega) (by omega)).mono ?_; rintro e w' ⟨rfl, hb⟩)
      | (go_at_call 53; refine (over_any (d * P) N _ (by omega) (by omega) (by omega)).mono ?_; rintro e w' ⟨rfl, hb⟩))
  go_wp2
  go_ret2
  exact ⟨rfl, two_below (u := .int .i64 N) (v := .int .i64 P) ‹_›⟩

set_option maxHeartbeats 1000000 in
theorem refCost_exact (N P d : Int) (w : World) (h : TM.right N P) (hd : 1 ≤ d) (hd' : d ≤ 2305843009213693952) (hN : 1 ≤ N) (q : Int) (hq : quoV (d * P) N = q) (hq0 : 0 ≤ q) (hq1 : q ≤ 2305843009213693952) (hx : TM.divW d P N = true) :
    Calls Tryd.prog 30 #[.agg #[.int .i64 N, .int .i64 P], .int .i64 d] w fun e w' => e = .returned (.tuple #[.int .i64 q, .int .i64 0]) ∧ Below w.heap.size w w' := by
  have hr : decide (TM.right N P) = true := decide_eq_true h
  obtain ⟨h1, h2, h3, h4⟩ := h
  clear h1
  go_enter Tryd.func30, Tryd.ntmps30
  go_wp2_with (first
    | (go_at_call 49; refine (right_any _ _ _).mono ?_; rw [hr]; rintro e w1 ⟨rfl, hb1⟩; obtain ⟨hc0, hc1⟩ := (two_call (two_start w (.int .i64 N) (.int .i64 P) 29) hb1).1; have HB := Lib.hid hb1; clear hb1)
    | (go_at_call 54; refine (divided_any _ _ _ _ (by omega) hd' (by omega) h4 hN (by omega)).mono ?_; rw [divV_eq, hq, hx]; rintro e w2 ⟨rfl, rfl⟩))
  go_ret2
  exact ⟨rfl, two_below (two_call (two_start w (.int .i64 N) (.int .i64 P) 29) HB.out)⟩

set_option maxHeartbeats 1000000 in
theorem refCost_more (N P d : Int) (w : World) (h : TM.right N P) (hd : 1 ≤ d) (hd' : d ≤ 2305843009213693952) (hN : 1 ≤ N) (q : Int) (hq : quoV (d * P) N = q) (hq0 : 0 ≤ q) (hq1 : q < 2305843009213693952) (hx : TM.divW d P N = false) :
    Calls Tryd.prog 30 #[.agg #[.int .i64 N, .int .i64 P], .int .i64 d] w fun e w' => e = .returned (.tuple #[.int .i64 (q + 1), .int .i64 0]) ∧ Below w.heap.size w w' := by
  have hr : decide (TM.right N P) = true := decide_eq_true h
  obtain ⟨h1, h2, h3, h4⟩ := h
  clear h1
  go_enter Tryd.func30, Tryd.ntmps30
  go_wp2_with (first
    | (go_at_call 49; refine (right_any _ _ _).mono ?_; rw [hr]; rintro e w1 ⟨rfl, hb1⟩; obtain ⟨hc0, hc1⟩ := (two_call (two_start w (.int .i64 N) (.int .i64 P) 29) hb1).1; have HB := Lib.hid hb1; clear hb1)
    | (go_at_call 54; refine (divided_any _ _ _ _ (by omega) hd' (by omega) h4 hN (by omega)).mono ?_; rw [divV_eq, hq, hx]; rintro e w2 ⟨rfl, rfl⟩))
  go_ret2
  exact ⟨rfl, two_below (two_call (two_start w (.int .i64 N) (.int .i64 P) 29) HB.out)⟩

set_option maxHeartbeats 1000000 in
theorem refCost_many (N P d : Int) (w : World) (h : TM.right N P) (hd : 1 ≤ d) (hd' : d ≤ 2305843009213693952) (hN : 1 ≤ N) (hq : quoV (d * P) N = 2305843009213693953) (hx : TM.divW d P N = false) :
    Calls Tryd.prog 30 #[.agg #[.int .i64 N, .int .i64 P], .int .i64 d] w fun e w' => e = .returned (.tuple #[.int .i64 0, .int .i64 3]) ∧ Below w.heap.size w w' := by
  have hr : decide (TM.right N P) = true := decide_eq_true h
  obtain ⟨h1, h2, h3, h4⟩ := h
  clear h1
  go_enter Tryd.func30, Tryd.ntmps30
  go_wp2_with (first
    | (go_at_call 49; refine (right_any _ _ _).mono ?_; rw [hr]; rintro e w1 ⟨rfl, hb1⟩; obtain ⟨hc0, hc1⟩ := (two_call (two_start w (.int .i64 N) (.int .i64 P) 29) hb1).1; have HB := Lib.hid hb1; clear hb1)
    | (go_at_call 54; refine (divided_any _ _ _ _ (by omega) hd' (by omega) h4 hN (by omega)).mono ?_; rw [divV_eq, hq, hx]; rintro e w2 ⟨rfl, rfl⟩))
  go_ret2
  exact ⟨rfl, two_below (two_call (two_start w (.int .i64 N) (.int .i64 P) 29) HB.out)⟩

set_option maxHeartbeats 1000000 in
theorem refCost_edge (N P d : Int) (w : World) (h : TM.right N P) (hd : 1 ≤ d) (hd' : d ≤ 2305843009213693952) (hN : 1 ≤ N) (hq : quoV (d * P) N = 2305843009213693952) (hx : TM.divW d P N = false) :
    Calls Tryd.prog 30 #[.agg #[.int .i64 N, .int .i64 P], .int .i64 d] w fun e w' => e = .returned (.tuple #[.int .i64 0, .int .i64 3]) ∧ Below w.heap.size w w' := by
  have hr : decide (TM.right N P) = true := decide_eq_true h
  obtain ⟨h1, h2, h3, h4⟩ := h
  clear h1
  go_enter Tryd.func30, Tryd.ntmps30
  go_wp2_with (first
    | (go_at_call 49; refine (right_any _ _ _).mono ?_; rw [hr]; rintro e w1 ⟨rfl, hb1⟩; obtain ⟨hc0, hc1⟩ := (two_call (two_start w (.int .i64 N) (.int .i64 P) 29) hb1).1; have HB := Lib.hid hb1; clear hb1)
    | (go_at_call 54; refine (divided_any _ _ _ _ (by omega) hd' (by omega) h4 hN (by omega)).mono ?_; rw [divV_eq, hq, hx]; rintro e w2 ⟨rfl, rfl⟩))
  go_ret2
  exact ⟨rfl, two_below (two_call (two_start w (.int .i64 N) (.int .i64 P) 29) HB.out)⟩


theorem cost_any (N P d : Int) (w : World) :
    Calls Tryd.prog 29 #[.agg #[.int .i64 N, .int .i64 P], .int .i64 d] w fun e w' => e = .returned (.tuple #[.int .i64 (TM.costOut N P d).1, .int .i64 (TM.costOut N P d).2]) ∧ Below w.heap.size w w' := by
  rcases TM.costOut_cases N P d with ⟨a, e⟩ | ⟨a, b, e⟩ | ⟨a, b, e⟩ | ⟨a, b, c, g, e⟩ | ⟨a, b, c, g, l, e⟩ | ⟨a, b, c, g, l, e⟩
  · rw [e]; exact cost_rate N P d w a
  · rw [e]
    rcases b with b | b
    · exact cost_low N P d w a b
    · exact cost_high N P d w a b
  · rw [e]; exact cost_none N P d w a b
  · rw [e]; exact cost_never N P d w a b c g
  · rw [e]
    have p1 := Int.emod_nonneg (d * P) (by omega : N ≠ 0)
    by_cases hs : d * P / N ≤ 2305843009213693952
    · have hz : d * P % N ≠ 0 := by
        intro hz
        unfold TM.costQ at l
        rw [if_pos hz] at l
        omega
      have hx : d * P / N = 2305843009213693952 := by
        unfold TM.costQ at l
        rw [if_neg hz] at l
        omega
      exact cost_edge N P d w a b c g _ ((quoV_ok hs).trans hx) (quoR_ok hs) (by omega)
    · exact cost_many N P d w a b c g (quoV_many (by omega)) (quoR_many (by omega))
  · rw [e]
    have p1 := Int.emod_nonneg (d * P) (by omega : N ≠ 0)
    have p2 : 0 ≤ d * P / N := Int.ediv_nonneg (Int.mul_nonneg (by omega) (by have := a.2.2.1; omega)) (by omega)
    unfold TM.costQ at l ⊢
    by_cases hz : d * P % N = 0
    · rw [if_pos hz] at l ⊢
      have hs : d * P / N ≤ 2305843009213693952 := by omega
      rw [Int.add_zero]
      exact cost_exact N P d w a b c g _ (quoV_ok hs) p2 hs ((quoR_ok hs).trans hz)
    · rw [if_neg hz] at l ⊢
      have hs : d * P / N ≤ 2305843009213693952 := by omega
      exact cost_more N P d w a b c g _ _ (quoV_ok hs) p2 (by omega) (quoR_ok hs) (by omega)

theorem refCost_any (N P d : Int) (w : World) :
    Calls Tryd.prog 30 #[.agg #[.int .i64 N, .int .i64 P], .int .i64 d] w fun e w' => e = .returned (.tuple #[.int .i64 (TM.costOut N P d).1, .int .i64 (TM.costOut N P d).2]) ∧ Below w.heap.size w w' := by
  rcases TM.costOut_cases N P d with ⟨a, e⟩ | ⟨a, b, e⟩ | ⟨a, b, e⟩ | ⟨a, b, c, g, e⟩ | ⟨a, b, c, g, l, e⟩ | ⟨a, b, c, g, l, e⟩
  · rw [e]; exact refCost_rate N P d w a
  · rw [e]
    rcases b with b | b
    · exact refCost_low N P d w a b
    · exact refCost_high N P d w a b
  · rw [e]; exact refCost_none N P d w a b
  · rw [e]; exact refCost_never N P d w a b c g
  · rw [e]
    have p1 := Int.emod_nonneg (d * P) (by omega : N ≠ 0)
    by_cases hs : d * P / N ≤ 2305843009213693952
    · have hz : d * P % N ≠ 0 := by
        intro hz
        unfold TM.costQ at l
        rw [if_pos hz] at l
        omega
      have hx : d * P / N = 2305843009213693952 := by
        unfold TM.costQ at l
        rw [if_neg hz] at l
        omega
      exact refCost_edge N P d w a b c g ((quoV_ok hs).trans hx) ((divW_ok hs).trans (decide_eq_false hz))
    · exact refCost_many N P d w a b c g (quoV_many (by omega)) (divW_many (by omega))
  · rw [e]
    have p1 := Int.emod_nonneg (d * P) (by omega : N ≠ 0)
    have p2 : 0 ≤ d * P / N := Int.ediv_nonneg (Int.mul_nonneg (by omega) (by have := a.2.2.1; omega)) (by omega)
    unfold TM.costQ at l ⊢
    by_cases hz : d * P % N = 0
    · rw [if_pos hz] at l ⊢
      have hs : d * P / N ≤ 2305843009213693952 := by omega
      rw [Int.add_zero]
      exact refCost_exact N P d w a b c g _ (quoV_ok hs) p2 hs ((divW_ok hs).trans (decide_eq_true hz))
    · rw [if_neg hz] at l ⊢
      have hs : d * P / N ≤ 2305843009213693952 := by omega
      exact refCost_more N P d w a b c g _ (quoV_ok hs) p2 (by omega) ((divW_ok hs).trans (decide_eq_false hz))
end Go.Proofs.YthbphanlmhghdaaDoor
