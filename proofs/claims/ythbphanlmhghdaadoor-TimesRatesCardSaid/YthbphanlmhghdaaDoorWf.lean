/- THE WALKS of what a rate brings and what so many cost. -/
import Derived.Test.YthbphanlmhghdaaDoorWe
namespace Go.Proofs.YthbphanlmhghdaaDoor
open Go.RowKit

/-- a call's own two cells are kept, whatever is called -/
def Two (w : World) (u v : Value) (w1 : World) : Prop := (w1.cell? ⟨w.heap.size, 0, none⟩ = some u ∧ w1.cell? ⟨w.heap.size, 1, none⟩ = some v) ∧ Below w.heap.size w w1 ∧ w.heap.size + 1 ≤ w1.heap.size
theorem two_call {w w1 w2 : World} {u v : Value} (h : Two w u v w1) (hb : Below w1.heap.size w1 w2) : Two w u v w2 := by
  obtain ⟨⟨h1, h2⟩, h3, h4⟩ := h
  refine ⟨⟨(hb.cell (p := ⟨w.heap.size, 0, none⟩) (by show w.heap.size < _; omega)).trans h1, (hb.cell (p := ⟨w.heap.size, 1, none⟩) (by show w.heap.size < _; omega)).trans h2⟩, h3.trans (hb.mono (by omega)), ?_⟩
  have := hb.size
  omega
theorem two_drew {w w1 : World} {u v : Value} (h : Two w u v w1) : Two w u v w1.drew := ⟨h.1, ⟨h.2.1.os, h.2.1.tape, h.2.1.output, h.2.1.size, h.2.1.block⟩, h.2.2⟩
theorem two_below {w w1 : World} {u v : Value} (h : Two w u v w1) : Below w.heap.size w w1 := h.2.1
theorem two_start (w : World) (u v : Value) (t : TypeId) : Two w u v (w.alloc (.cells #[u, v] t)) :=
  ⟨⟨by simp [go_sem], by simp [go_sem]⟩, (Below.refl _ _).alloc (Nat.le_refl _) _, by simp⟩
theorem moment_yes {d : Int} (h : 0 ≤ d) (h' : d ≤ 2305843009213693952) : (decide (0 ≤ d) && decide (d ≤ 2305843009213693952)) = true := by simp; omega
theorem moment_no {d : Int} (h : d < 0 ∨ 2305843009213693952 < d) : (decide (0 ≤ d) && decide (d ≤ 2305843009213693952)) = false := by simp; omega
theorem quoV_ok {n d : Int} (h : n / d ≤ 2305843009213693952) : quoV n d = n / d := if_pos h
theorem quoV_many {n d : Int} (h : 2305843009213693952 < n / d) : quoV n d = 2305843009213693953 := if_neg (by omega)

set_option maxHeartbeats 1000000 in
theorem accrued_rate (N P d : Int) (w : World) (h : ¬ TM.right N P) :
    Calls Tryd.prog 27 #[.agg #[.int .i64 N, .int .i64 P], .int .i64 d] w fun e w' => e = .returned (.tuple #[.int .i64 0, .int .i64 21]) ∧ Below w.heap.size w w' := by
  have hr := rateOut_bad h
  clear h
  go_enter Tryd.func27, Tryd.ntmps27
  go_wp2_with (first
    | (go_at_call 16; refine (checkRate_any _ _ _).mono ?_; rw [hr]; rintro e w1 ⟨rfl, hb1⟩))
  go_ret2
  exact ⟨rfl, two_below (two_call (two_start w (.int .i64 N) (.int .i64 P) 29) hb1)⟩

set_option maxHeartbeats 1000000 in
theorem accrued_span (N P d : Int) (w : World) (h : TM.right N P) (h2 : d < 0 ∨ 2305843009213693952 < d) :
    Calls Tryd.prog 27 #[.agg #[.int .i64 N, .int .i64 P], .int .i64 d] w fun e w' => e = .returned (.tuple #[.int .i64 0, .int .i64 2]) ∧ Below w.heap.size w w' := by
  have hr := rateOut_ok h
  have hm := moment_no h2
  clear h h2
  go_enter Tryd.func27, Tryd.ntmps27
  go_wp2_with (first
    | (go_at_call 16; refine (checkRate_any _ _ _).mono ?_; rw [hr]; rintro e w1 ⟨rfl, hb1⟩)
    | (go_at_call 37; refine (isMoment_any _ _).mono ?_; rw [hm]; rintro e w1' ⟨rfl, rfl⟩))
  go_ret2
  exact ⟨rfl, two_below (two_call (two_start w (.int .i64 N) (.int .i64 P) 29) hb1)⟩

set_option maxHeartbeats 1000000 in
theorem accrued_ok (N P d : Int) (w : World) (h : TM.right N P) (hd : 0 ≤ d) (hd' : d ≤ 2305843009213693952) (hs : N * d / P ≤ 2305843009213693952) :
    Calls Tryd.prog 27 #[.agg #[.int .i64 N, .int .i64 P], .int .i64 d] w fun e w' => e = .returned (.tuple #[.int .i64 (N * d / P), .int .i64 0]) ∧ Below w.heap.size w w' := by
  have hr := rateOut_ok h
  obtain ⟨h1, h2, h3, h4⟩ := h
  have hm := moment_yes hd hd'
  have hn : 0 ≤ N * d := Int.mul_nonneg h1 hd
  have hq := quoV_ok hs
  go_enter Tryd.func27, Tryd.ntmps27
  go_wp2_with (first
    | (go_at_call 16; refine (checkRate_any _ _ _).mono ?_; rw [hr]; rintro e w1 ⟨rfl, hb1⟩)
    | (go_at_call 37; refine (isMoment_any _ _).mono ?_; rw [hm]; rintro e w1' ⟨rfl, rfl⟩))
  have hT := two_call (two_start w (.int .i64 N) (.int .i64 P) 29) hb1
  unfold Two at hT
  clear hb1
  go_region_held3 (fun w' => (w'.cell? ⟨w.heap.size, 0, none⟩ = some (.int .i64 N) ∧ w'.cell? ⟨w.heap.size, 1, none⟩ = some (.int .i64 P)) ∧ Below w.heap.size w w' ∧ w.heap.size + 1 ≤ w'.heap.size) (first | assumption | exact two_drew ‹_› | exact two_call ‹_› ‹_›)
    (first
      | (go_at_call 46; refine (product_any N d _ (by omega) (by omega) (by omega) (by omega)).mono ?_; rintro e w' ⟨rfl, hb⟩)
      | (go_at_call 53; refine (over_any (N * d) P _ (by omega) (by omega) (by omega)).mono ?_; rintro e w' ⟨rfl, hb⟩))
  go_wp2
  go_ret2
  exact ⟨rfl, two_below (u := .int .i64 N) (v := .int .i64 P) ‹_›⟩

set_option maxHeartbeats 1000000 in
theorem accrued_many (N P d : Int) (w : World) (h : TM.right N P) (hd : 0 ≤ d) (hd' : d ≤ 2305843009213693952) (hs : 2305843009213693952 < N * d / P) :
    Calls Tryd.prog 27 #[.agg #[.int .i64 N, .int .i64 P], .int .i64 d] w fun e w' => e = .returned (.tuple #[.int .i64 0, .int .i64 3]) ∧ Below w.heap.size w w' := by
  have hr := rateOut_ok h
  obtain ⟨h1, h2, h3, h4⟩ := h
  have hm := moment_yes hd hd'
  have hn : 0 ≤ N * d := Int.mul_nonneg h1 hd
  have hq := quoV_many hs
  go_enter Tryd.func27, Tryd.ntmps27
  go_wp2_with (first
    | (go_at_call 16; refine (checkRate_any _ _ _).mono ?_; rw [hr]; rintro e w1 ⟨rfl, hb1⟩)
    | (go_at_call 37; refine (isMoment_any _ _).mono ?_; rw [hm]; rintro e w1' ⟨rfl, rfl⟩))
  have hT := two_call (two_start w (.int .i64 N) (.int .i64 P) 29) hb1
  unfold Two at hT
  clear hb1
  go_region_held3 (fun w' => (w'.cell? ⟨w.heap.size, 0, none⟩ = some (.int .i64 N) ∧ w'.cell? ⟨w.heap.size, 1, none⟩ = some (.int .i64 P)) ∧ Below w.heap.size w w' ∧ w.heap.size + 1 ≤ w'.heap.size) (first | assumption | exact two_drew ‹_› | exact two_call ‹_› ‹_›)
    (first
      | (go_at_call 46; refine (product_any N d _ (by omega) (by omega) (by omega) (by omega)).mono ?_; rintro e w' ⟨rfl, hb⟩)
      | (go_at_call 53; refine (over_any (N * d) P _ (by omega) (by omega) (by omega)).mono ?_; rintro e w' ⟨rfl, hb⟩))
  go_wp2
  go_ret2
  exact ⟨rfl, two_below (u := .int .i64 N) (v := .int .i64 P) ‹_›⟩


theorem accrued_any (N P d : Int) (w : World) :
    Calls Tryd.prog 27 #[.agg #[.int .i64 N, .int .i64 P], .int .i64 d] w fun e w' => e = .returned (.tuple #[.int .i64 (TM.accOut N P d).1, .int .i64 (TM.accOut N P d).2]) ∧ Below w.heap.size w w' := by
  rcases TM.accOut_cases N P d with ⟨a, e⟩ | ⟨a, b, e⟩ | ⟨a, b, c, g, e⟩ | ⟨a, b, c, _, g, e⟩
  · rw [e]; exact accrued_rate N P d w a
  · rw [e]; exact accrued_span N P d w a b
  · rw [e]; exact accrued_many N P d w a b c g
  · rw [e]; exact accrued_ok N P d w a b c g
end Go.Proofs.YthbphanlmhghdaaDoor
