/- THE WALKS of the document's own answer: greater, Left, Fits, Right. -/
import Derived.Test.YtcocegneegjcpaaTo
import Derived.Deep.RegionHeld3
namespace Go.Proofs.Ytcocegneegjcpaa
open Go Go.RowKit

theorem rgreater_at {a b m : Int} (hm : max a b = m) (w : World) : Calls Try.prog 78 #[.int .i64 a, .int .i64 b] w fun e w' => e = .returned (.int .i64 m) ∧ w' = w := by
  by_cases h : b < a
  · go_enter Try.func78, Try.ntmps78
    go_wp2
    go_ret
    exact ⟨ret_int (by omega), rfl⟩
  · go_enter Try.func78, Try.ntmps78
    go_wp2
    go_ret
    exact ⟨ret_int (by omega), rfl⟩
theorem rleft_at {ev bu T t : Int} (hf : fitsB ev bu = true) (h0 : 0 ≤ T) (h1 : T ≤ 3458764513820540928) (t0 : 0 ≤ t) (t1 : t ≤ 2305843009213693952) (w : World) :
    Calls Try.prog 79 #[.int .i64 ev, .int .i64 bu, .int .i64 T, .int .i64 t] w fun e w' => e = .returned (.int .i64 (roomV ev bu T t / ev)) ∧ w' = w := by
  obtain ⟨a, b, c, d⟩ := fits_bounds hf
  obtain ⟨d0, d1⟩ := mul_bounds (n := bu) (ev := ev) (by omega) d a b
  obtain ⟨D, hD⟩ : ∃ D, bu * ev = D := ⟨_, rfl⟩
  obtain ⟨m, hm⟩ : ∃ m, max T t = m := ⟨_, rfl⟩
  obtain ⟨r, hr⟩ : ∃ r, roomV ev bu T t = r := ⟨_, rfl⟩
  have hev : ¬ ev = 0 := by omega
  have hr' : max 0 (t + D - m) = r := by rw [← hr, ← hm, ← hD]; rfl
  rw [hr]
  rw [hD] at d0 d1
  have HM := Lib.hid hm
  have m0 : 0 ≤ m := by omega
  have m1 : m ≤ 3458764513820540928 := by omega
  by_cases hlt : t + D - m < 0
  · have hr0 : r = 0 := by omega
    have HR := Lib.hid hr0
    clear hm hr hr' hr0 hf
    go_enter Try.func79, Try.ntmps79
    go_wp2_with (go_at_call 78; refine (rgreater_at HM.out _).mono ?_; rintro e wx ⟨rfl, rfl⟩)
    go_ret
    exact ⟨ret_int (by rw [HR.out]; simp), rfl⟩
  · have hr0 : r = t + D - m := by omega
    have HR := Lib.hid hr0
    clear hm hr hr' hr0 hf
    go_enter Try.func79, Try.ntmps79
    go_wp2_with (go_at_call 78; refine (rgreater_at HM.out _).mono ?_; rintro e wx ⟨rfl, rfl⟩)
    go_ret
    exact ⟨ret_int (by rw [HR.out]), rfl⟩
theorem rfits_any (ev bu : Int) (w : World) : Calls Try.prog 39 #[.int .i64 ev, .int .i64 bu] w fun e w' => e = .returned (.bool (fitsB ev bu)) ∧ w = w' := by
  by_cases h1 : 1 ≤ ev
  · by_cases h2 : ev ≤ 1099511627776
    · by_cases h3 : 1 ≤ bu
      · by_cases h4 : bu ≤ 1048576
        · go_enter Try.func39, Try.ntmps39
          go_wp2
          go_ret
          exact ⟨by simp [fitsB, h1, h2, h3, h4], rfl⟩
        · have hd : decide (bu ≤ 1048576) = false := by simpa using h4
          go_enter Try.func39, Try.ntmps39
          go_wp2
          go_ret
          exact ⟨by simp [fitsB]; omega, rfl⟩
      · have hd : decide (1 ≤ bu) = false := by simpa using h3
        go_enter Try.func39, Try.ntmps39
        go_wp2
        go_ret
        exact ⟨by simp [fitsB]; omega, rfl⟩
    · have hd : decide (ev ≤ 1099511627776) = false := by simpa using h2
      go_enter Try.func39, Try.ntmps39
      go_wp2
      go_ret
      exact ⟨by simp [fitsB]; omega, rfl⟩
  · have hd : decide (1 ≤ ev) = false := by simpa using h1
    go_enter Try.func39, Try.ntmps39
    go_wp2
    go_ret
    exact ⟨by simp [fitsB]; omega, rfl⟩
set_option maxHeartbeats 1600000 in
theorem rright_any (k t n : Int) (w : World) :
    Calls Try.prog 42 #[.agg #[.int .u8 k, .int .i64 t, .int .i64 n]] w fun e w' => e = .returned (.bool (trightB k t n)) ∧ Below w.heap.size w w' := by
  have hB : ∀ o, Below w.heap.size w (w.alloc o) := fun o => (Below.refl _ _).alloc (Nat.le_refl _) o
  have HB := Lib.hid hB
  clear hB
  by_cases t0 : t < 0
  · go_enter Try.func42, Try.ntmps42; go_wp2; go_ret
    exact ⟨by simp [trightB, momB]; omega, HB.out _⟩
  by_cases t1 : 2305843009213693952 < t
  · go_enter Try.func42, Try.ntmps42; go_wp2; go_ret
    exact ⟨by simp [trightB, momB]; omega, HB.out _⟩
  have hm : momB t = true := by simp [momB]; omega
  have HM := Lib.hid hm
  clear hm
  have ht0 : decide (t < 0) = false := by simpa using t0
  have ht1 : decide (2305843009213693952 < t) = false := by simpa using t1
  by_cases h1 : k = 1
  · subst h1
    by_cases h3 : 1 ≤ n
    · by_cases h4 : n ≤ 1048576
      · go_enter Try.func42, Try.ntmps42; go_wp2; go_ret
        exact ⟨by simp [trightB, HM.out, h3, h4], HB.out _⟩
      · have hd : decide (n ≤ 1048576) = false := by simpa using h4
        go_enter Try.func42, Try.ntmps42; go_wp2; go_ret
        exact ⟨by simp [trightB]; intros; omega, HB.out _⟩
    · have hd : decide (1 ≤ n) = false := by simpa using h3
      go_enter Try.func42, Try.ntmps42; go_wp2; go_ret
      exact ⟨by simp [trightB]; intros; omega, HB.out _⟩
  have e1 : (k == 1) = false := by simpa using h1
  by_cases h2 : k = 2
  · subst h2
    by_cases h3 : n = 0
    · subst h3
      go_enter Try.func42, Try.ntmps42; go_wp2; go_ret
      exact ⟨by simp [trightB, HM.out], HB.out _⟩
    · have hd : (n == 0) = false := by simpa using h3
      go_enter Try.func42, Try.ntmps42; go_wp2; go_ret
      exact ⟨by simp [trightB, h3], HB.out _⟩
  have e2 : (k == 2) = false := by simpa using h2
  go_enter Try.func42, Try.ntmps42; go_wp2; go_ret
  exact ⟨by simp [trightB, h1, h2], HB.out _⟩
end Go.Proofs.Ytcocegneegjcpaa
