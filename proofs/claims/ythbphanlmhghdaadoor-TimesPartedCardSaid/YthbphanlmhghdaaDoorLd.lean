/- THE WALK of the law 'TimesParted'. -/
import Derived.Test.YthbphanlmhghdaaDoorLb
namespace Go.Proofs.YthbphanlmhghdaaDoor
open Go.RowKit

theorem winT {a l x e : Int} (h : winOut a l = (x, e)) (w : World) : Calls Tryd.prog 31 #[.int .i64 a, .int .i64 l] w fun r w' => r = .returned (.tuple #[.int .i64 x, .int .i64 e]) ∧ w = w' := by
  have k := window_any a l w
  rw [h] at k
  exact k
theorem bndT {n l x y e : Int} (h : boundsOut n l = (x, y, e)) (w : World) : Calls Tryd.prog 33 #[.int .i64 n, .int .i64 l] w fun r w' => r = .returned (.tuple #[.int .i64 x, .int .i64 y, .int .i64 e]) ∧ w = w' := by
  have k := bounds_any n l w
  rw [h] at k
  exact k

set_option maxRecDepth 100000 in
set_option maxHeartbeats 1000000 in
theorem parted_low (a l n q A B : Int) (w : World) (HE : Hid (Env w)) (HW : Hid (winOut a l = (q, 0))) (HB : Hid (boundsOut q l = (A, B, 0))) (tA : decide (a < A) = false) (tB : decide (B ≤ a) = false) (s1 : (B - A != l) = false) (b1 : 0 ≤ A) (b2 : A ≤ B) (b3 : B ≤ 4611686018427387904) (HC : Hid (boundsOut n l = (0, 0, 2))) (r1 : decide (n < 0) = true) :
    Calls Tryd.prog 11 #[.int .i64 a, .int .i64 l, .int .i64 n] w fun e w' => e = .returned (.bool true) ∧ Below w.heap.size w w' := by
  go_enter Tryd.func11, Tryd.ntmps11
  go_wp2_with (first
    | (go_at_call 26; refine (begins_any _ HE.out).mono ?_; rintro e w1 ⟨rfl, hb1⟩; have HB1 := Lib.hid hb1; clear hb1)
    | (go_at_call 31; refine (winT HW.out _).mono ?_; rintro e wx ⟨rfl, rfl⟩)
    | (go_at_call 33; refine (bounds_any _ _ _).mono ?_; (first | rw [HB.out] | rw [HC.out]); rintro e wx ⟨rfl, rfl⟩))
  refine bodyPost_ret (v := .bool true) (by simp [results, Tryd.results11, go_sem]) rfl ⟨rfl, HB1.out⟩

set_option maxRecDepth 100000 in
set_option maxHeartbeats 1000000 in
theorem parted_out (a l n q A B : Int) (w : World) (HE : Hid (Env w)) (HW : Hid (winOut a l = (q, 0))) (HB : Hid (boundsOut q l = (A, B, 0))) (tA : decide (a < A) = false) (tB : decide (B ≤ a) = false) (s1 : (B - A != l) = false) (b1 : 0 ≤ A) (b2 : A ≤ B) (b3 : B ≤ 4611686018427387904) (HC : Hid (boundsOut n l = (0, 0, 2))) (l1 : 1 ≤ l) (r1 : decide (n < 0) = false) (r2 : decide (2305843009213693952 / l < n) = true) :
    Calls Tryd.prog 11 #[.int .i64 a, .int .i64 l, .int .i64 n] w fun e w' => e = .returned (.bool true) ∧ Below w.heap.size w w' := by
  go_enter Tryd.func11, Tryd.ntmps11
  go_wp2_with (first
    | (go_at_call 26; refine (begins_any _ HE.out).mono ?_; rintro e w1 ⟨rfl, hb1⟩; have HB1 := Lib.hid hb1; clear hb1)
    | (go_at_call 31; refine (winT HW.out _).mono ?_; rintro e wx ⟨rfl, rfl⟩)
    | (go_at_call 33; refine (bounds_any _ _ _).mono ?_; (first | rw [HB.out] | rw [HC.out]); rintro e wx ⟨rfl, rfl⟩))
  refine bodyPost_ret (v := .bool true) (by simp [results, Tryd.results11, go_sem]) rfl ⟨rfl, HB1.out⟩

set_option maxRecDepth 100000 in
set_option maxHeartbeats 1000000 in
theorem parted_before (a l n q A B : Int) (w : World) (HE : Hid (Env w)) (HW : Hid (winOut a l = (q, 0))) (HB : Hid (boundsOut q l = (A, B, 0))) (tA : decide (a < A) = false) (tB : decide (B ≤ a) = false) (s1 : (B - A != l) = false) (b1 : 0 ≤ A) (b2 : A ≤ B) (b3 : B ≤ 4611686018427387904) (C D : Int) (HC : Hid (boundsOut n l = (C, D, 0))) (n1 : (n != q) = true) (n2 : decide (C ≤ a) = true) (n3 : decide (a < D) = false) (q1 : q ≤ 2305843009213693952) (q0 : 0 ≤ q)
    (m1 : (n == q + 1) = false) (m2 : decide (q + 1 < n) = false) (m3 : decide (n < q) = true) (m4 : decide (D ≤ A) = true) :
    Calls Tryd.prog 11 #[.int .i64 a, .int .i64 l, .int .i64 n] w fun e w' => e = .returned (.bool true) ∧ Below w.heap.size w w' := by
  go_enter Tryd.func11, Tryd.ntmps11
  go_wp2_with (first
    | (go_at_call 26; refine (begins_any _ HE.out).mono ?_; rintro e w1 ⟨rfl, hb1⟩; have HB1 := Lib.hid hb1; clear hb1)
    | (go_at_call 31; refine (winT HW.out _).mono ?_; rintro e wx ⟨rfl, rfl⟩)
    | (go_at_call 33; refine (bounds_any _ _ _).mono ?_; (first | rw [HB.out] | rw [HC.out]); rintro e wx ⟨rfl, rfl⟩))
  refine bodyPost_ret (v := .bool true) (by simp [results, Tryd.results11, go_sem]) rfl ⟨rfl, HB1.out⟩

set_option maxRecDepth 100000 in
set_option maxHeartbeats 1000000 in
theorem parted_same (a l n q A B : Int) (w : World) (HE : Hid (Env w)) (HW : Hid (winOut a l = (q, 0))) (HB : Hid (boundsOut q l = (A, B, 0))) (tA : decide (a < A) = false) (tB : decide (B ≤ a) = false) (s1 : (B - A != l) = false) (b1 : 0 ≤ A) (b2 : A ≤ B) (b3 : B ≤ 4611686018427387904) (HC : Hid (boundsOut n l = (A, B, 0))) (n1 : (n != q) = false) (q1 : q ≤ 2305843009213693952) (q0 : 0 ≤ q)
    (m1 : (n == q + 1) = false) (m2 : decide (q + 1 < n) = false) (m3 : decide (n < q) = false) (m5 : (n == q) = true) :
    Calls Tryd.prog 11 #[.int .i64 a, .int .i64 l, .int .i64 n] w fun e w' => e = .returned (.bool true) ∧ Below w.heap.size w w' := by
  go_enter Tryd.func11, Tryd.ntmps11
  go_wp2_with (first
    | (go_at_call 26; refine (begins_any _ HE.out).mono ?_; rintro e w1 ⟨rfl, hb1⟩; have HB1 := Lib.hid hb1; clear hb1)
    | (go_at_call 31; refine (winT HW.out _).mono ?_; rintro e wx ⟨rfl, rfl⟩)
    | (go_at_call 33; refine (bounds_any _ _ _).mono ?_; (first | rw [HB.out] | rw [HC.out]); rintro e wx ⟨rfl, rfl⟩))
  refine bodyPost_ret (v := .bool true) (by simp [results, Tryd.results11, go_sem]) rfl ⟨rfl, HB1.out⟩

set_option maxRecDepth 100000 in
set_option maxHeartbeats 1000000 in
theorem parted_next (a l n q A B : Int) (w : World) (HE : Hid (Env w)) (HW : Hid (winOut a l = (q, 0))) (HB : Hid (boundsOut q l = (A, B, 0))) (tA : decide (a < A) = false) (tB : decide (B ≤ a) = false) (s1 : (B - A != l) = false) (b1 : 0 ≤ A) (b2 : A ≤ B) (b3 : B ≤ 4611686018427387904) (D : Int) (HC : Hid (boundsOut n l = (B, D, 0))) (n1 : (n != q) = true) (q1 : q ≤ 2305843009213693952) (q0 : 0 ≤ q)
    (m1 : (n == q + 1) = true) :
    Calls Tryd.prog 11 #[.int .i64 a, .int .i64 l, .int .i64 n] w fun e w' => e = .returned (.bool true) ∧ Below w.heap.size w w' := by
  go_enter Tryd.func11, Tryd.ntmps11
  go_wp2_with (first
    | (go_at_call 26; refine (begins_any _ HE.out).mono ?_; rintro e w1 ⟨rfl, hb1⟩; have HB1 := Lib.hid hb1; clear hb1)
    | (go_at_call 31; refine (winT HW.out _).mono ?_; rintro e wx ⟨rfl, rfl⟩)
    | (go_at_call 33; refine (bounds_any _ _ _).mono ?_; (first | rw [HB.out] | rw [HC.out]); rintro e wx ⟨rfl, rfl⟩))
  refine bodyPost_ret (v := .bool true) (by simp [results, Tryd.results11, go_sem]) rfl ⟨rfl, HB1.out⟩

set_option maxRecDepth 100000 in
set_option maxHeartbeats 1000000 in
theorem parted_far (a l n q A B : Int) (w : World) (HE : Hid (Env w)) (HW : Hid (winOut a l = (q, 0))) (HB : Hid (boundsOut q l = (A, B, 0))) (tA : decide (a < A) = false) (tB : decide (B ≤ a) = false) (s1 : (B - A != l) = false) (b1 : 0 ≤ A) (b2 : A ≤ B) (b3 : B ≤ 4611686018427387904) (C D : Int) (HC : Hid (boundsOut n l = (C, D, 0))) (n1 : (n != q) = true) (n2 : decide (C ≤ a) = false) (q1 : q ≤ 2305843009213693952) (q0 : 0 ≤ q)
    (m1 : (n == q + 1) = false) (m2 : decide (q + 1 < n) = true) (m4 : decide (B < C) = true) :
    Calls Tryd.prog 11 #[.int .i64 a, .int .i64 l, .int .i64 n] w fun e w' => e = .returned (.bool true) ∧ Below w.heap.size w w' := by
  go_enter Tryd.func11, Tryd.ntmps11
  go_wp2_with (first
    | (go_at_call 26; refine (begins_any _ HE.out).mono ?_; rintro e w1 ⟨rfl, hb1⟩; have HB1 := Lib.hid hb1; clear hb1)
    | (go_at_call 31; refine (winT HW.out _).mono ?_; rintro e wx ⟨rfl, rfl⟩)
    | (go_at_call 33; refine (bounds_any _ _ _).mono ?_; (first | rw [HB.out] | rw [HC.out]); rintro e wx ⟨rfl, rfl⟩))
  refine bodyPost_ret (v := .bool true) (by simp [results, Tryd.results11, go_sem]) rfl ⟨rfl, HB1.out⟩

set_option maxRecDepth 100000 in
theorem parted_any (a l n : Int) (w : World) (hE : Env w) : Calls Tryd.prog 11 #[.int .i64 a, .int .i64 l, .int .i64 n] w fun e w' => e = .returned (.bool true) ∧ Below w.heap.size w w' := by
  have HE := Lib.hid hE
  by_cases h : a < 0 ∨ 2305843009213693952 < a ∨ l < 1 ∨ 2305843009213693952 < l
  · have HW := Lib.hid (winOut_bad h)
    clear h hE
    go_enter Tryd.func11, Tryd.ntmps11
    go_wp2_with (first
      | (go_at_call 26; refine (begins_any _ HE.out).mono ?_; rintro e w1 ⟨rfl, hb1⟩; have HB1 := Lib.hid hb1; clear hb1)
      | (go_at_call 31; refine (winT HW.out _).mono ?_; rintro e wx ⟨rfl, rfl⟩))
    refine bodyPost_ret (v := .bool true) (by simp [results, Tryd.results11, go_sem]) rfl ⟨rfl, HB1.out⟩
  · obtain ⟨h1, h2, h3, h4⟩ : 0 ≤ a ∧ a ≤ 2305843009213693952 ∧ 1 ≤ l ∧ l ≤ 2305843009213693952 := by omega
    obtain ⟨g1, g2, g3⟩ := TM.window_in a l h3 h1
    have g4 : a / l ≤ 2305843009213693952 / l := Int.ediv_le_ediv (by omega) h2
    have HW := winOut_ok h1 h2 h3 h4
    have HB := boundsOut_ok h3 h4 g1 g4
    have hbef : n < a / l → n * l + l ≤ a / l * l := fun g => TM.window_after (a / l) n l h3 (by omega)
    have hnx : n = a / l + 1 → n * l = a / l * l + l := fun g => by rw [g, Int.add_mul]; omega
    have hfar : a / l + 2 ≤ n → a / l * l + l + l ≤ n * l := fun g => by
      have := TM.window_after n (a / l + 1) l h3 (by omega)
      rw [Int.add_mul] at this
      omega
    have hsame : n = a / l → n * l = a / l * l := fun g => by rw [g]
    have hq61 : a / l ≤ 2305843009213693952 := by
      have := bounds_fit h3 g1 g4
      have : a / l * 1 ≤ a / l * l := Int.mul_le_mul_of_nonneg_left h3 g1
      omega
    obtain ⟨q, hq⟩ : ∃ q, q = a / l := ⟨_, rfl⟩
    obtain ⟨A, hA⟩ : ∃ A, A = a / l * l := ⟨_, rfl⟩
    rw [← hA] at hbef hnx hfar hsame g2 g3 HB
    rw [← hq] at hbef hnx hfar hsame g1 HB HW hq61
    have hA0 : 0 ≤ A := by rw [hA, ← hq]; exact Int.mul_nonneg g1 (by omega)
    clear hA hq g4
    have HW := Lib.hid HW
    have HB := Lib.hid HB
    obtain ⟨B, hB⟩ : ∃ B, B = A + l := ⟨_, rfl⟩
    rw [← hB] at HB
    have tA : decide (a < A) = false := by rw [decide_eq_false_iff_not]; omega
    have tB : decide (B ≤ a) = false := by rw [decide_eq_false_iff_not]; omega
    have s1 : (B - A != l) = false := by rw [bne_eq_false_iff_eq]; omega
    have b2 : A ≤ B := by omega
    have b3 : B ≤ 4611686018427387904 := by omega
    by_cases k : n < 0
    · exact parted_low a l n q A B w HE HW HB tA tB s1 hA0 b2 b3 (Lib.hid (boundsOut_bad (by omega))) (by rw [decide_eq_true_eq]; exact k)
    by_cases k2 : 2305843009213693952 / l < n
    · exact parted_out a l n q A B w HE HW HB tA tB s1 hA0 b2 b3 (Lib.hid (boundsOut_bad (by omega))) h3 (by rw [decide_eq_false_iff_not]; exact k) (by rw [decide_eq_true_eq]; exact k2)
    have HC := boundsOut_ok (n := n) h3 h4 (by omega) (by omega)
    obtain ⟨C, hC⟩ : ∃ C, C = n * l := ⟨_, rfl⟩
    rw [← hC] at hbef hnx hfar hsame HC
    by_cases e1 : n = q
    · have e2 := hsame e1
      rw [e2, ← hB] at HC
      exact parted_same a l n q A B w HE HW HB tA tB s1 hA0 b2 b3 (Lib.hid HC) (by rw [bne_eq_false_iff_eq]; exact e1) hq61 g1 (by rw [beq_eq_false_iff_ne]; omega) (by rw [decide_eq_false_iff_not]; omega) (by rw [decide_eq_false_iff_not]; omega) (by rw [beq_iff_eq]; exact e1)
    by_cases e3 : n = q + 1
    · have e2 := hnx e3
      rw [e2, ← hB] at HC
      exact parted_next a l n q A B w HE HW HB tA tB s1 hA0 b2 b3 _ (Lib.hid HC) (by rw [bne_iff_ne]; exact e1) hq61 g1 (by rw [beq_iff_eq]; exact e3)
    by_cases e4 : n < q
    · have e2 := hbef e4
      exact parted_before a l n q A B w HE HW HB tA tB s1 hA0 b2 b3 _ _ (Lib.hid HC) (by rw [bne_iff_ne]; exact e1) (by rw [decide_eq_true_eq]; omega) (by rw [decide_eq_false_iff_not]; omega) hq61 g1 (by rw [beq_eq_false_iff_ne]; omega) (by rw [decide_eq_false_iff_not]; omega) (by rw [decide_eq_true_eq]; exact e4) (by rw [decide_eq_true_eq]; exact e2)
    · have e2 := hfar (by omega)
      exact parted_far a l n q A B w HE HW HB tA tB s1 hA0 b2 b3 _ _ (Lib.hid HC) (by rw [bne_iff_ne]; exact e1) (by rw [decide_eq_false_iff_not]; omega) hq61 g1 (by rw [beq_eq_false_iff_ne]; omega) (by rw [decide_eq_true_eq]; omega) (by rw [decide_eq_true_eq]; omega)
end Go.Proofs.YthbphanlmhghdaaDoor
