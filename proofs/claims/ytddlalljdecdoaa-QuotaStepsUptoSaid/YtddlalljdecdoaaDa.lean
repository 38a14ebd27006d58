/- THE WALKS of the document's own Right, Fits, Cells of quota. -/
import Derived.Test.YtddlalljdecdoaaBk
namespace Go.Proofs.Ytddlalljdecdoaa
open Go Go.RowKit
set_option maxRecDepth 100000
set_option maxHeartbeats 800000
theorem dr_1a {w : World} (n : Nat) (k i : Int) (kk1 : (k == 1) = true) (kk2 : (k == 2) = false) (kk3 : (k == 3) = false) (d0 : decide (0 ≤ i) = false) :
    Calls Try.prog 14 #[.int .i64 (n : Int), .agg #[.int .u8 k, .int .i64 i]] w fun e w' => e = .returned (.bool (rightB n k i)) ∧ Below w.heap.size w w' := by
  have E : Hid (rightB n k i = false) := Lib.hid (by simp [rightB, kk1, kk2, kk3, d0])
  go_enter Try.func14, Try.ntmps14
  go_wp2
  go_ret
  rw [E.out]
  exact ⟨rfl, (Below.refl _ _).alloc (Nat.le_refl _) _⟩
theorem dr_1b {w : World} (n : Nat) (k i : Int) (kk1 : (k == 1) = true) (kk2 : (k == 2) = false) (kk3 : (k == 3) = false) (d0 : decide (0 ≤ i) = true) (d1 : decide (i < (n : Int)) = false) :
    Calls Try.prog 14 #[.int .i64 (n : Int), .agg #[.int .u8 k, .int .i64 i]] w fun e w' => e = .returned (.bool (rightB n k i)) ∧ Below w.heap.size w w' := by
  have E : Hid (rightB n k i = false) := Lib.hid (by simp [rightB, kk1, kk2, kk3, d0, d1])
  go_enter Try.func14, Try.ntmps14
  go_wp2
  go_ret
  rw [E.out]
  exact ⟨rfl, (Below.refl _ _).alloc (Nat.le_refl _) _⟩
theorem dr_1c {w : World} (n : Nat) (k i : Int) (kk1 : (k == 1) = true) (kk2 : (k == 2) = false) (kk3 : (k == 3) = false) (d0 : decide (0 ≤ i) = true) (d1 : decide (i < (n : Int)) = true) :
    Calls Try.prog 14 #[.int .i64 (n : Int), .agg #[.int .u8 k, .int .i64 i]] w fun e w' => e = .returned (.bool (rightB n k i)) ∧ Below w.heap.size w w' := by
  have E : Hid (rightB n k i = true) := Lib.hid (by simp [rightB, kk1, kk2, kk3, d0, d1])
  go_enter Try.func14, Try.ntmps14
  go_wp2
  go_ret
  rw [E.out]
  exact ⟨rfl, (Below.refl _ _).alloc (Nat.le_refl _) _⟩
theorem dr_2a {w : World} (n : Nat) (k i : Int) (kk1 : (k == 1) = false) (kk2 : (k == 2) = true) (kk3 : (k == 3) = false) (d0 : decide (0 ≤ i) = false) :
    Calls Try.prog 14 #[.int .i64 (n : Int), .agg #[.int .u8 k, .int .i64 i]] w fun e w' => e = .returned (.bool (rightB n k i)) ∧ Below w.heap.size w w' := by
  have E : Hid (rightB n k i = false) := Lib.hid (by simp [rightB, kk1, kk2, kk3, d0])
  go_enter Try.func14, Try.ntmps14
  go_wp2
  go_ret
  rw [E.out]
  exact ⟨rfl, (Below.refl _ _).alloc (Nat.le_refl _) _⟩
theorem dr_2b {w : World} (n : Nat) (k i : Int) (kk1 : (k == 1) = false) (kk2 : (k == 2) = true) (kk3 : (k == 3) = false) (d0 : decide (0 ≤ i) = true) (d1 : decide (i < (n : Int)) = false) :
    Calls Try.prog 14 #[.int .i64 (n : Int), .agg #[.int .u8 k, .int .i64 i]] w fun e w' => e = .returned (.bool (rightB n k i)) ∧ Below w.heap.size w w' := by
  have E : Hid (rightB n k i = false) := Lib.hid (by simp [rightB, kk1, kk2, kk3, d0, d1])
  go_enter Try.func14, Try.ntmps14
  go_wp2
  go_ret
  rw [E.out]
  exact ⟨rfl, (Below.refl _ _).alloc (Nat.le_refl _) _⟩
theorem dr_2c {w : World} (n : Nat) (k i : Int) (kk1 : (k == 1) = false) (kk2 : (k == 2) = true) (kk3 : (k == 3) = false) (d0 : decide (0 ≤ i) = true) (d1 : decide (i < (n : Int)) = true) :
    Calls Try.prog 14 #[.int .i64 (n : Int), .agg #[.int .u8 k, .int .i64 i]] w fun e w' => e = .returned (.bool (rightB n k i)) ∧ Below w.heap.size w w' := by
  have E : Hid (rightB n k i = true) := Lib.hid (by simp [rightB, kk1, kk2, kk3, d0, d1])
  go_enter Try.func14, Try.ntmps14
  go_wp2
  go_ret
  rw [E.out]
  exact ⟨rfl, (Below.refl _ _).alloc (Nat.le_refl _) _⟩
theorem dr_3 {w : World} (n : Nat) (k i : Int) (kk1 : (k == 1) = false) (kk2 : (k == 2) = false) (kk3 : (k == 3) = true)  :
    Calls Try.prog 14 #[.int .i64 (n : Int), .agg #[.int .u8 k, .int .i64 i]] w fun e w' => e = .returned (.bool (rightB n k i)) ∧ Below w.heap.size w w' := by
  have E : Hid (rightB n k i = (i == 0)) := Lib.hid (by simp [rightB, kk1, kk2, kk3])
  go_enter Try.func14, Try.ntmps14
  go_wp2
  go_ret
  rw [E.out]
  exact ⟨rfl, (Below.refl _ _).alloc (Nat.le_refl _) _⟩
theorem dr_0 {w : World} (n : Nat) (k i : Int) (kk1 : (k == 1) = false) (kk2 : (k == 2) = false) (kk3 : (k == 3) = false)  :
    Calls Try.prog 14 #[.int .i64 (n : Int), .agg #[.int .u8 k, .int .i64 i]] w fun e w' => e = .returned (.bool (rightB n k i)) ∧ Below w.heap.size w w' := by
  have E : Hid (rightB n k i = false) := Lib.hid (by simp [rightB, kk1, kk2, kk3])
  go_enter Try.func14, Try.ntmps14
  go_wp2
  go_ret
  rw [E.out]
  exact ⟨rfl, (Below.refl _ _).alloc (Nat.le_refl _) _⟩
theorem dright_any (n : Nat) (k i : Int) (w : World) :
    Calls Try.prog 14 #[.int .i64 (n : Int), .agg #[.int .u8 k, .int .i64 i]] w fun e w' => e = .returned (.bool (rightB n k i)) ∧ Below w.heap.size w w' := by
  by_cases h1 : k = 1
  · subst h1
    cases d0 : decide (0 ≤ i)
    · exact dr_1a n 1 i rfl rfl rfl d0
    cases d1 : decide (i < (n : Int))
    · exact dr_1b n 1 i rfl rfl rfl d0 d1
    · exact dr_1c n 1 i rfl rfl rfl d0 d1
  by_cases h2 : k = 2
  · subst h2
    cases d0 : decide (0 ≤ i)
    · exact dr_2a n 2 i rfl rfl rfl d0
    cases d1 : decide (i < (n : Int))
    · exact dr_2b n 2 i rfl rfl rfl d0 d1
    · exact dr_2c n 2 i rfl rfl rfl d0 d1
  by_cases h3 : k = 3
  · subst h3
    exact dr_3 n 3 i rfl rfl rfl
  exact dr_0 n k i (by simpa using h1) (by simpa using h2) (by simpa using h3)
theorem df_0 {limit ba n : Int} (d0 : decide (0 ≤ limit) = false) (w : World) : Calls Try.prog 11 #[.int .i64 limit, .int .i64 ba, .int .i64 n] w fun e w' => e = .returned (.bool false) ∧ Below w.heap.size w w' := by
  go_enter Try.func11, Try.ntmps11
  go_wp2
  try (go_region; all_goals go_wp2)
  all_goals
    go_ret
    exact ⟨rfl, by repeat (first | (with_reducible exact Below.refl _ _) | (with_reducible refine Below.drew ?_))⟩
theorem df_1 {limit ba n : Int} (d0 : decide (0 ≤ limit) = true) (d1 : decide (limit ≤ 1099511627776) = false) (w : World) : Calls Try.prog 11 #[.int .i64 limit, .int .i64 ba, .int .i64 n] w fun e w' => e = .returned (.bool false) ∧ Below w.heap.size w w' := by
  go_enter Try.func11, Try.ntmps11
  go_wp2
  try (go_region; all_goals go_wp2)
  all_goals
    go_ret
    exact ⟨rfl, by repeat (first | (with_reducible exact Below.refl _ _) | (with_reducible refine Below.drew ?_))⟩
theorem df_2 {limit ba n : Int} (d0 : decide (0 ≤ limit) = true) (d1 : decide (limit ≤ 1099511627776) = true) (d2 : decide (1 ≤ ba) = false) (w : World) : Calls Try.prog 11 #[.int .i64 limit, .int .i64 ba, .int .i64 n] w fun e w' => e = .returned (.bool false) ∧ Below w.heap.size w w' := by
  go_enter Try.func11, Try.ntmps11
  go_wp2
  try (go_region; all_goals go_wp2)
  all_goals
    go_ret
    exact ⟨rfl, by repeat (first | (with_reducible exact Below.refl _ _) | (with_reducible refine Below.drew ?_))⟩
theorem df_3 {limit ba n : Int} (d0 : decide (0 ≤ limit) = true) (d1 : decide (limit ≤ 1099511627776) = true) (d2 : decide (1 ≤ ba) = true) (d3 : decide (ba ≤ 1048576) = false) (w : World) : Calls Try.prog 11 #[.int .i64 limit, .int .i64 ba, .int .i64 n] w fun e w' => e = .returned (.bool false) ∧ Below w.heap.size w w' := by
  go_enter Try.func11, Try.ntmps11
  go_wp2
  try (go_region; all_goals go_wp2)
  all_goals
    go_ret
    exact ⟨rfl, by repeat (first | (with_reducible exact Below.refl _ _) | (with_reducible refine Below.drew ?_))⟩
theorem df_4 {limit ba n : Int} (d0 : decide (0 ≤ limit) = true) (d1 : decide (limit ≤ 1099511627776) = true) (d2 : decide (1 ≤ ba) = true) (d3 : decide (ba ≤ 1048576) = true) (d4 : decide (1 ≤ n) = false) (w : World) : Calls Try.prog 11 #[.int .i64 limit, .int .i64 ba, .int .i64 n] w fun e w' => e = .returned (.bool false) ∧ Below w.heap.size w w' := by
  go_enter Try.func11, Try.ntmps11
  go_wp2
  try (go_region; all_goals go_wp2)
  all_goals
    go_ret
    exact ⟨rfl, by repeat (first | (with_reducible exact Below.refl _ _) | (with_reducible refine Below.drew ?_))⟩
theorem df_5 {limit ba n : Int} (d0 : decide (0 ≤ limit) = true) (d1 : decide (limit ≤ 1099511627776) = true) (d2 : decide (1 ≤ ba) = true) (d3 : decide (ba ≤ 1048576) = true) (d4 : decide (1 ≤ n) = true) (d5 : decide (n ≤ 64) = false) (w : World) : Calls Try.prog 11 #[.int .i64 limit, .int .i64 ba, .int .i64 n] w fun e w' => e = .returned (.bool false) ∧ Below w.heap.size w w' := by
  go_enter Try.func11, Try.ntmps11
  go_wp2
  try (go_region; all_goals go_wp2)
  all_goals
    go_ret
    exact ⟨rfl, by repeat (first | (with_reducible exact Below.refl _ _) | (with_reducible refine Below.drew ?_))⟩
theorem dfits_no {limit ba n : Int} (h : ¬ FitsB limit ba n) (w : World) : Calls Try.prog 11 #[.int .i64 limit, .int .i64 ba, .int .i64 n] w fun e w' => e = .returned (.bool false) ∧ Below w.heap.size w w' := by
  cases d0 : decide (0 ≤ limit)
  · exact df_0 d0 w
  cases d1 : decide (limit ≤ 1099511627776)
  · exact df_1 d0 d1 w
  cases d2 : decide (1 ≤ ba)
  · exact df_2 d0 d1 d2 w
  cases d3 : decide (ba ≤ 1048576)
  · exact df_3 d0 d1 d2 d3 w
  cases d4 : decide (1 ≤ n)
  · exact df_4 d0 d1 d2 d3 d4 w
  cases d5 : decide (n ≤ 64)
  · exact df_5 d0 d1 d2 d3 d4 d5 w
  simp only [decide_eq_true_eq] at d0 d1 d2 d3 d4 d5
  exact absurd ⟨d0, d1, d2, d3, d4, d5⟩ h
theorem dcells_any {limit : Int} {n : Nat} (h0 : 0 ≤ limit) (h1 : limit ≤ 1099511627776) (hn : n ≤ 64) (w : World) : Calls Try.prog 15 #[.int .i64 limit, .int .i64 (n : Int)] w fun e w' => ∃ g c, e = .returned (.slice (some ⟨g, 0, none⟩) (startW limit n).length c) ∧ w.heap.size ≤ g ∧ g < w'.heap.size ∧ Lies w' g (startW limit n) ∧ Below w.heap.size w w' := by
  have el : IntKind.u64.wrap limit = limit := by rw [IntKind.wrap_u64]; omega
  have en : IntKind.i64.wrap ((n : Int) + 1) = ((n + 1 : Nat) : Int) := by rw [IntKind.wrap_i64]; omega
  obtain ⟨iu, hiu, hu0, hu1, hu2⟩ := info_parts info29
  have hmk : ∀ w : World, (Instr.makeSlice 42 (.int .i64 ((n : Int) + 1)) (.int .i64 ((n : Int) + 1))).run Try.prog w = .ok (.slice (some ⟨w.heap.size, 0, none⟩) (n + 1) (n + 1)) (w.alloc (.cells (u64s (List.replicate (n + 1) 0)).toArray 39)) := fun w => by
    have := run_make (P := Try.prog) w 42 39 iu (.int .u64 0) Try.underlying42 hiu hu0 .i64 .i64 ((n : Int) + 1) ((n : Int) + 1) (by omega) (by omega) (by rw [hu2]; omega) (by omega)
    rw [this, show ((n : Int) + 1).toNat = n + 1 by omega, hu1]
    congr 2
    rw [← noughts29]
  have hR := Row.new w 39 (u64s (List.replicate (n + 1) 0))
  have c0 : (w.alloc (.cells (u64s (List.replicate (n + 1) 0)).toArray 39)).cell? ⟨w.heap.size, 0, none⟩ = some (.int .u64 0) := by rw [hR.cell, u64s_get]; simp
  have cf := hR.free 0
  have hpos : 0 < n + 1 := by omega
  clear hR
  go_enter Try.func15, Try.ntmps15
  go_wp2
  go_ret
  have hm : (u64s (List.replicate (n + 1) 0)).set 0 (.int .u64 limit) = u64s (startW limit n) := by simp [u64s, startW, List.replicate_succ]
  rw [hm]
  exact ⟨w.heap.size, n + 1, by simp [startW], Nat.le_refl _, by simp, (Row.new w _ _).lies, (Below.refl w.heap.size w).alloc (Nat.le_refl _) _⟩
end Go.Proofs.Ytddlalljdecdoaa
