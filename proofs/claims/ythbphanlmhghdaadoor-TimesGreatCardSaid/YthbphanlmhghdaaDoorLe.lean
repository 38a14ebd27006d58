/- THE WALKS of the laws 'TimesAdjoint' and 'TimesParts'. -/
import Derived.Test.YthbphanlmhghdaaDoorLb
namespace Go.Proofs.YthbphanlmhghdaaDoor
open Go.RowKit

set_option maxRecDepth 100000 in
set_option maxHeartbeats 1000000 in
theorem adj_bad (N P d n : Int) (w : World) (hE : Env w) (e1 Y e2 : Int) (H1 : Hid (TM.accOut N P d = (0, e1))) (H2 : Hid (TM.costOut N P n = (Y, e2))) (t1 : (e1 != 0) = true) (t2 : (e1 != 3) = true) : Calls Tryd.prog 8 #[.agg #[.int .i64 N, .int .i64 P], .int .i64 d, .int .i64 n] w fun e w' => e = .returned (.bool true) ∧ Below w.heap.size w w' := by
  have hnew : Below w.heap.size w (w.alloc (.cells #[.int .i64 N, .int .i64 P] 29)) := (Below.refl _ _).alloc (Nat.le_refl _) _
  have HE := Lib.hid (hE.on hnew)
  have HN := Lib.hid hnew
  have HB : Hid (Below (w.alloc (.cells #[.int .i64 N, .int .i64 P] 29)).heap.size (w.alloc (.cells #[.int .i64 N, .int .i64 P] 29)) (w.alloc (.cells #[.int .i64 N, .int .i64 P] 29))) := Lib.hid (Below.refl _ _)
  clear hE hnew
  go_enter Tryd.func8, Tryd.ntmps8
  go_wp2_with (first
    | (go_at_call 26; refine (begins_any _ (HE.out.on HB.out)).mono ?_; rintro e wn ⟨rfl, hb⟩; replace HB := Lib.hid (two_stay HB hb); clear hb; have c00 : wn.cell? ⟨w.heap.size, 0, none⟩ = some (.int .i64 N) := (HB.out.cell (p := ⟨w.heap.size, 0, none⟩) (by simp)).trans (by simp [go_sem]); have c01 : wn.cell? ⟨w.heap.size, 1, none⟩ = some (.int .i64 P) := (HB.out.cell (p := ⟨w.heap.size, 1, none⟩) (by simp)).trans (by simp [go_sem]))
    | (go_at_call 27; refine (accrued_any _ _ _ _).mono ?_; (first | rw [H1.out]); rintro e wn ⟨rfl, hb⟩; replace HB := Lib.hid (two_stay HB hb); clear hb; have c00 : wn.cell? ⟨w.heap.size, 0, none⟩ = some (.int .i64 N) := (HB.out.cell (p := ⟨w.heap.size, 0, none⟩) (by simp)).trans (by simp [go_sem]); have c01 : wn.cell? ⟨w.heap.size, 1, none⟩ = some (.int .i64 P) := (HB.out.cell (p := ⟨w.heap.size, 1, none⟩) (by simp)).trans (by simp [go_sem]))
    | (go_at_call 29; refine (cost_any _ _ _ _).mono ?_; (first | rw [H2.out]); rintro e wn ⟨rfl, hb⟩; replace HB := Lib.hid (two_stay HB hb); clear hb; have c00 : wn.cell? ⟨w.heap.size, 0, none⟩ = some (.int .i64 N) := (HB.out.cell (p := ⟨w.heap.size, 0, none⟩) (by simp)).trans (by simp [go_sem]); have c01 : wn.cell? ⟨w.heap.size, 1, none⟩ = some (.int .i64 P) := (HB.out.cell (p := ⟨w.heap.size, 1, none⟩) (by simp)).trans (by simp [go_sem])))
  refine bodyPost_ret (v := .bool true) (by simp [results, Tryd.results8, go_sem]) rfl ⟨rfl, HN.out.trans (HB.out.mono (by simp))⟩

set_option maxRecDepth 100000 in
set_option maxHeartbeats 1000000 in
theorem adj_manybad (N P d n : Int) (w : World) (hE : Env w) (H1 : Hid (TM.accOut N P d = (0, 3))) (H2 : Hid (TM.costOut N P n = (0, 2))) : Calls Tryd.prog 8 #[.agg #[.int .i64 N, .int .i64 P], .int .i64 d, .int .i64 n] w fun e w' => e = .returned (.bool true) ∧ Below w.heap.size w w' := by
  have hnew : Below w.heap.size w (w.alloc (.cells #[.int .i64 N, .int .i64 P] 29)) := (Below.refl _ _).alloc (Nat.le_refl _) _
  have HE := Lib.hid (hE.on hnew)
  have HN := Lib.hid hnew
  have HB : Hid (Below (w.alloc (.cells #[.int .i64 N, .int .i64 P] 29)).heap.size (w.alloc (.cells #[.int .i64 N, .int .i64 P] 29)) (w.alloc (.cells #[.int .i64 N, .int .i64 P] 29))) := Lib.hid (Below.refl _ _)
  clear hE hnew
  go_enter Tryd.func8, Tryd.ntmps8
  go_wp2_with (first
    | (go_at_call 26; refine (begins_any _ (HE.out.on HB.out)).mono ?_; rintro e wn ⟨rfl, hb⟩; replace HB := Lib.hid (two_stay HB hb); clear hb; have c00 : wn.cell? ⟨w.heap.size, 0, none⟩ = some (.int .i64 N) := (HB.out.cell (p := ⟨w.heap.size, 0, none⟩) (by simp)).trans (by simp [go_sem]); have c01 : wn.cell? ⟨w.heap.size, 1, none⟩ = some (.int .i64 P) := (HB.out.cell (p := ⟨w.heap.size, 1, none⟩) (by simp)).trans (by simp [go_sem]))
    | (go_at_call 27; refine (accrued_any _ _ _ _).mono ?_; (first | rw [H1.out]); rintro e wn ⟨rfl, hb⟩; replace HB := Lib.hid (two_stay HB hb); clear hb; have c00 : wn.cell? ⟨w.heap.size, 0, none⟩ = some (.int .i64 N) := (HB.out.cell (p := ⟨w.heap.size, 0, none⟩) (by simp)).trans (by simp [go_sem]); have c01 : wn.cell? ⟨w.heap.size, 1, none⟩ = some (.int .i64 P) := (HB.out.cell (p := ⟨w.heap.size, 1, none⟩) (by simp)).trans (by simp [go_sem]))
    | (go_at_call 29; refine (cost_any _ _ _ _).mono ?_; (first | rw [H2.out]); rintro e wn ⟨rfl, hb⟩; replace HB := Lib.hid (two_stay HB hb); clear hb; have c00 : wn.cell? ⟨w.heap.size, 0, none⟩ = some (.int .i64 N) := (HB.out.cell (p := ⟨w.heap.size, 0, none⟩) (by simp)).trans (by simp [go_sem]); have c01 : wn.cell? ⟨w.heap.size, 1, none⟩ = some (.int .i64 P) := (HB.out.cell (p := ⟨w.heap.size, 1, none⟩) (by simp)).trans (by simp [go_sem])))
  refine bodyPost_ret (v := .bool true) (by simp [results, Tryd.results8, go_sem]) rfl ⟨rfl, HN.out.trans (HB.out.mono (by simp))⟩

set_option maxRecDepth 100000 in
set_option maxHeartbeats 1000000 in
theorem adj_okbad (N P d n : Int) (w : World) (hE : Env w) (X : Int) (H1 : Hid (TM.accOut N P d = (X, 0))) (H2 : Hid (TM.costOut N P n = (0, 2))) (t1 : (X == 0) = true) : Calls Tryd.prog 8 #[.agg #[.int .i64 N, .int .i64 P], .int .i64 d, .int .i64 n] w fun e w' => e = .returned (.bool true) ∧ Below w.heap.size w w' := by
  have hnew : Below w.heap.size w (w.alloc (.cells #[.int .i64 N, .int .i64 P] 29)) := (Below.refl _ _).alloc (Nat.le_refl _) _
  have HE := Lib.hid (hE.on hnew)
  have HN := Lib.hid hnew
  have HB : Hid (Below (w.alloc (.cells #[.int .i64 N, .int .i64 P] 29)).heap.size (w.alloc (.cells #[.int .i64 N, .int .i64 P] 29)) (w.alloc (.cells #[.int .i64 N, .int .i64 P] 29))) := Lib.hid (Below.refl _ _)
  clear hE hnew
  go_enter Tryd.func8, Tryd.ntmps8
  go_wp2_with (first
    | (go_at_call 26; refine (begins_any _ (HE.out.on HB.out)).mono ?_; rintro e wn ⟨rfl, hb⟩; replace HB := Lib.hid (two_stay HB hb); clear hb; have c00 : wn.cell? ⟨w.heap.size, 0, none⟩ = some (.int .i64 N) := (HB.out.cell (p := ⟨w.heap.size, 0, none⟩) (by simp)).trans (by simp [go_sem]); have c01 : wn.cell? ⟨w.heap.size, 1, none⟩ = some (.int .i64 P) := (HB.out.cell (p := ⟨w.heap.size, 1, none⟩) (by simp)).trans (by simp [go_sem]))
    | (go_at_call 27; refine (accrued_any _ _ _ _).mono ?_; (first | rw [H1.out]); rintro e wn ⟨rfl, hb⟩; replace HB := Lib.hid (two_stay HB hb); clear hb; have c00 : wn.cell? ⟨w.heap.size, 0, none⟩ = some (.int .i64 N) := (HB.out.cell (p := ⟨w.heap.size, 0, none⟩) (by simp)).trans (by simp [go_sem]); have c01 : wn.cell? ⟨w.heap.size, 1, none⟩ = some (.int .i64 P) := (HB.out.cell (p := ⟨w.heap.size, 1, none⟩) (by simp)).trans (by simp [go_sem]))
    | (go_at_call 29; refine (cost_any _ _ _ _).mono ?_; (first | rw [H2.out]); rintro e wn ⟨rfl, hb⟩; replace HB := Lib.hid (two_stay HB hb); clear hb; have c00 : wn.cell? ⟨w.heap.size, 0, none⟩ = some (.int .i64 N) := (HB.out.cell (p := ⟨w.heap.size, 0, none⟩) (by simp)).trans (by simp [go_sem]); have c01 : wn.cell? ⟨w.heap.size, 1, none⟩ = some (.int .i64 P) := (HB.out.cell (p := ⟨w.heap.size, 1, none⟩) (by simp)).trans (by simp [go_sem])))
  refine bodyPost_ret (v := .bool true) (by simp [results, Tryd.results8, go_sem]) rfl ⟨rfl, HN.out.trans (HB.out.mono (by simp))⟩

set_option maxRecDepth 100000 in
set_option maxHeartbeats 1000000 in
theorem adj_okbad2 (N P d n : Int) (w : World) (hE : Env w) (X : Int) (H1 : Hid (TM.accOut N P d = (X, 0))) (H2 : Hid (TM.costOut N P n = (0, 2))) (t1 : (X == 0) = false) : Calls Tryd.prog 8 #[.agg #[.int .i64 N, .int .i64 P], .int .i64 d, .int .i64 n] w fun e w' => e = .returned (.bool true) ∧ Below w.heap.size w w' := by
  have hnew : Below w.heap.size w (w.alloc (.cells #[.int .i64 N, .int .i64 P] 29)) := (Below.refl _ _).alloc (Nat.le_refl _) _
  have HE := Lib.hid (hE.on hnew)
  have HN := Lib.hid hnew
  have HB : Hid (Below (w.alloc (.cells #[.int .i64 N, .int .i64 P] 29)).heap.size (w.alloc (.cells #[.int .i64 N, .int .i64 P] 29)) (w.alloc (.cells #[.int .i64 N, .int .i64 P] 29))) := Lib.hid (Below.refl _ _)
  clear hE hnew
  go_enter Tryd.func8, Tryd.ntmps8
  go_wp2_with (first
    | (go_at_call 26; refine (begins_any _ (HE.out.on HB.out)).mono ?_; rintro e wn ⟨rfl, hb⟩; replace HB := Lib.hid (two_stay HB hb); clear hb; have c00 : wn.cell? ⟨w.heap.size, 0, none⟩ = some (.int .i64 N) := (HB.out.cell (p := ⟨w.heap.size, 0, none⟩) (by simp)).trans (by simp [go_sem]); have c01 : wn.cell? ⟨w.heap.size, 1, none⟩ = some (.int .i64 P) := (HB.out.cell (p := ⟨w.heap.size, 1, none⟩) (by simp)).trans (by simp [go_sem]))
    | (go_at_call 27; refine (accrued_any _ _ _ _).mono ?_; (first | rw [H1.out]); rintro e wn ⟨rfl, hb⟩; replace HB := Lib.hid (two_stay HB hb); clear hb; have c00 : wn.cell? ⟨w.heap.size, 0, none⟩ = some (.int .i64 N) := (HB.out.cell (p := ⟨w.heap.size, 0, none⟩) (by simp)).trans (by simp [go_sem]); have c01 : wn.cell? ⟨w.heap.size, 1, none⟩ = some (.int .i64 P) := (HB.out.cell (p := ⟨w.heap.size, 1, none⟩) (by simp)).trans (by simp [go_sem]))
    | (go_at_call 29; refine (cost_any _ _ _ _).mono ?_; (first | rw [H2.out]); rintro e wn ⟨rfl, hb⟩; replace HB := Lib.hid (two_stay HB hb); clear hb; have c00 : wn.cell? ⟨w.heap.size, 0, none⟩ = some (.int .i64 N) := (HB.out.cell (p := ⟨w.heap.size, 0, none⟩) (by simp)).trans (by simp [go_sem]); have c01 : wn.cell? ⟨w.heap.size, 1, none⟩ = some (.int .i64 P) := (HB.out.cell (p := ⟨w.heap.size, 1, none⟩) (by simp)).trans (by simp [go_sem])))
  refine bodyPost_ret (v := .bool true) (by simp [results, Tryd.results8, go_sem]) rfl ⟨rfl, HN.out.trans (HB.out.mono (by simp))⟩

set_option maxRecDepth 100000 in
set_option maxHeartbeats 1000000 in
theorem adj_many (N P d n : Int) (w : World) (hE : Env w) (Y : Int) (H1 : Hid (TM.accOut N P d = (0, 3))) (H2 : Hid (TM.costOut N P n = (Y, 0))) (t1 : decide (Y ≤ d) = true) : Calls Tryd.prog 8 #[.agg #[.int .i64 N, .int .i64 P], .int .i64 d, .int .i64 n] w fun e w' => e = .returned (.bool true) ∧ Below w.heap.size w w' := by
  have hnew : Below w.heap.size w (w.alloc (.cells #[.int .i64 N, .int .i64 P] 29)) := (Below.refl _ _).alloc (Nat.le_refl _) _
  have HE := Lib.hid (hE.on hnew)
  have HN := Lib.hid hnew
  have HB : Hid (Below (w.alloc (.cells #[.int .i64 N, .int .i64 P] 29)).heap.size (w.alloc (.cells #[.int .i64 N, .int .i64 P] 29)) (w.alloc (.cells #[.int .i64 N, .int .i64 P] 29))) := Lib.hid (Below.refl _ _)
  clear hE hnew
  go_enter Tryd.func8, Tryd.ntmps8
  go_wp2_with (first
    | (go_at_call 26; refine (begins_any _ (HE.out.on HB.out)).mono ?_; rintro e wn ⟨rfl, hb⟩; replace HB := Lib.hid (two_stay HB hb); clear hb; have c00 : wn.cell? ⟨w.heap.size, 0, none⟩ = some (.int .i64 N) := (HB.out.cell (p := ⟨w.heap.size, 0, none⟩) (by simp)).trans (by simp [go_sem]); have c01 : wn.cell? ⟨w.heap.size, 1, none⟩ = some (.int .i64 P) := (HB.out.cell (p := ⟨w.heap.size, 1, none⟩) (by simp)).trans (by simp [go_sem]))
    | (go_at_call 27; refine (accrued_any _ _ _ _).mono ?_; (first | rw [H1.out]); rintro e wn ⟨rfl, hb⟩; replace HB := Lib.hid (two_stay HB hb); clear hb; have c00 : wn.cell? ⟨w.heap.size, 0, none⟩ = some (.int .i64 N) := (HB.out.cell (p := ⟨w.heap.size, 0, none⟩) (by simp)).trans (by simp [go_sem]); have c01 : wn.cell? ⟨w.heap.size, 1, none⟩ = some (.int .i64 P) := (HB.out.cell (p := ⟨w.heap.size, 1, none⟩) (by simp)).trans (by simp [go_sem]))
    | (go_at_call 29; refine (cost_any _ _ _ _).mono ?_; (first | rw [H2.out]); rintro e wn ⟨rfl, hb⟩; replace HB := Lib.hid (two_stay HB hb); clear hb; have c00 : wn.cell? ⟨w.heap.size, 0, none⟩ = some (.int .i64 N) := (HB.out.cell (p := ⟨w.heap.size, 0, none⟩) (by simp)).trans (by simp [go_sem]); have c01 : wn.cell? ⟨w.heap.size, 1, none⟩ = some (.int .i64 P) := (HB.out.cell (p := ⟨w.heap.size, 1, none⟩) (by simp)).trans (by simp [go_sem])))
  refine bodyPost_ret (v := .bool true) (by simp [results, Tryd.results8, go_sem]) rfl ⟨rfl, HN.out.trans (HB.out.mono (by simp))⟩

set_option maxRecDepth 100000 in
set_option maxHeartbeats 1000000 in
theorem adj_yes (N P d n : Int) (w : World) (hE : Env w) (X Y : Int) (H1 : Hid (TM.accOut N P d = (X, 0))) (H2 : Hid (TM.costOut N P n = (Y, 0))) (t1 : decide (n ≤ X) = true) (t2 : decide (Y ≤ d) = true) : Calls Tryd.prog 8 #[.agg #[.int .i64 N, .int .i64 P], .int .i64 d, .int .i64 n] w fun e w' => e = .returned (.bool true) ∧ Below w.heap.size w w' := by
  have hnew : Below w.heap.size w (w.alloc (.cells #[.int .i64 N, .int .i64 P] 29)) := (Below.refl _ _).alloc (Nat.le_refl _) _
  have HE := Lib.hid (hE.on hnew)
  have HN := Lib.hid hnew
  have HB : Hid (Below (w.alloc (.cells #[.int .i64 N, .int .i64 P] 29)).heap.size (w.alloc (.cells #[.int .i64 N, .int .i64 P] 29)) (w.alloc (.cells #[.int .i64 N, .int .i64 P] 29))) := Lib.hid (Below.refl _ _)
  clear hE hnew
  go_enter Tryd.func8, Tryd.ntmps8
  go_wp2_with (first
    | (go_at_call 26; refine (begins_any _ (HE.out.on HB.out)).mono ?_; rintro e wn ⟨rfl, hb⟩; replace HB := Lib.hid (two_stay HB hb); clear hb; have c00 : wn.cell? ⟨w.heap.size, 0, none⟩ = some (.int .i64 N) := (HB.out.cell (p := ⟨w.heap.size, 0, none⟩) (by simp)).trans (by simp [go_sem]); have c01 : wn.cell? ⟨w.heap.size, 1, none⟩ = some (.int .i64 P) := (HB.out.cell (p := ⟨w.heap.size, 1, none⟩) (by simp)).trans (by simp [go_sem]))
    | (go_at_call 27; refine (accrued_any _ _ _ _).mono ?_; (first | rw [H1.out]); rintro e wn ⟨rfl, hb⟩; replace HB := Lib.hid (two_stay HB hb); clear hb; have c00 : wn.cell? ⟨w.heap.size, 0, none⟩ = some (.int .i64 N) := (HB.out.cell (p := ⟨w.heap.size, 0, none⟩) (by simp)).trans (by simp [go_sem]); have c01 : wn.cell? ⟨w.heap.size, 1, none⟩ = some (.int .i64 P) := (HB.out.cell (p := ⟨w.heap.size, 1, none⟩) (by simp)).trans (by simp [go_sem]))
    | (go_at_call 29; refine (cost_any _ _ _ _).mono ?_; (first | rw [H2.out]); rintro e wn ⟨rfl, hb⟩; replace HB := Lib.hid (two_stay HB hb); clear hb; have c00 : wn.cell? ⟨w.heap.size, 0, none⟩ = some (.int .i64 N) := (HB.out.cell (p := ⟨w.heap.size, 0, none⟩) (by simp)).trans (by simp [go_sem]); have c01 : wn.cell? ⟨w.heap.size, 1, none⟩ = some (.int .i64 P) := (HB.out.cell (p := ⟨w.heap.size, 1, none⟩) (by simp)).trans (by simp [go_sem])))
  refine bodyPost_ret (v := .bool true) (by simp [results, Tryd.results8, go_sem]) rfl ⟨rfl, HN.out.trans (HB.out.mono (by simp))⟩

set_option maxRecDepth 100000 in
set_option maxHeartbeats 1000000 in
theorem adj_no (N P d n : Int) (w : World) (hE : Env w) (X Y : Int) (H1 : Hid (TM.accOut N P d = (X, 0))) (H2 : Hid (TM.costOut N P n = (Y, 0))) (t1 : decide (n ≤ X) = false) (t2 : decide (Y ≤ d) = false) : Calls Tryd.prog 8 #[.agg #[.int .i64 N, .int .i64 P], .int .i64 d, .int .i64 n] w fun e w' => e = .returned (.bool true) ∧ Below w.heap.size w w' := by
  have hnew : Below w.heap.size w (w.alloc (.cells #[.int .i64 N, .int .i64 P] 29)) := (Below.refl _ _).alloc (Nat.le_refl _) _
  have HE := Lib.hid (hE.on hnew)
  have HN := Lib.hid hnew
  have HB : Hid (Below (w.alloc (.cells #[.int .i64 N, .int .i64 P] 29)).heap.size (w.alloc (.cells #[.int .i64 N, .int .i64 P] 29)) (w.alloc (.cells #[.int .i64 N, .int .i64 P] 29))) := Lib.hid (Below.refl _ _)
  clear hE hnew
  go_enter Tryd.func8, Tryd.ntmps8
  go_wp2_with (first
    | (go_at_call 26; refine (begins_any _ (HE.out.on HB.out)).mono ?_; rintro e wn ⟨rfl, hb⟩; replace HB := Lib.hid (two_stay HB hb); clear hb; have c00 : wn.cell? ⟨w.heap.size, 0, none⟩ = some (.int .i64 N) := (HB.out.cell (p := ⟨w.heap.size, 0, none⟩) (by simp)).trans (by simp [go_sem]); have c01 : wn.cell? ⟨w.heap.size, 1, none⟩ = some (.int .i64 P) := (HB.out.cell (p := ⟨w.heap.size, 1, none⟩) (by simp)).trans (by simp [go_sem]))
    | (go_at_call 27; refine (accrued_any _ _ _ _).mono ?_; (first | rw [H1.out]); rintro e wn ⟨rfl, hb⟩; replace HB := Lib.hid (two_stay HB hb); clear hb; have c00 : wn.cell? ⟨w.heap.size, 0, none⟩ = some (.int .i64 N) := (HB.out.cell (p := ⟨w.heap.size, 0, none⟩) (by simp)).trans (by simp [go_sem]); have c01 : wn.cell? ⟨w.heap.size, 1, none⟩ = some (.int .i64 P) := (HB.out.cell (p := ⟨w.heap.size, 1, none⟩) (by simp)).trans (by simp [go_sem]))
    | (go_at_call 29; refine (cost_any _ _ _ _).mono ?_; (first | rw [H2.out]); rintro e wn ⟨rfl, hb⟩; replace HB := Lib.hid (two_stay HB hb); clear hb; have c00 : wn.cell? ⟨w.heap.size, 0, none⟩ = some (.int .i64 N) := (HB.out.cell (p := ⟨w.heap.size, 0, none⟩) (by simp)).trans (by simp [go_sem]); have c01 : wn.cell? ⟨w.heap.size, 1, none⟩ = some (.int .i64 P) := (HB.out.cell (p := ⟨w.heap.size, 1, none⟩) (by simp)).trans (by simp [go_sem])))
  refine bodyPost_ret (v := .bool true) (by simp [results, Tryd.results8, go_sem]) rfl ⟨rfl, HN.out.trans (HB.out.mono (by simp))⟩

set_option maxRecDepth 100000 in
set_option maxHeartbeats 1000000 in
theorem adj_never (N P d n : Int) (w : World) (hE : Env w) (X : Int) (H1 : Hid (TM.accOut N P d = (X, 0))) (H2 : Hid (TM.costOut N P n = (0, 3))) (t1 : decide (n ≤ X) = false) : Calls Tryd.prog 8 #[.agg #[.int .i64 N, .int .i64 P], .int .i64 d, .int .i64 n] w fun e w' => e = .returned (.bool true) ∧ Below w.heap.size w w' := by
  have hnew : Below w.heap.size w (w.alloc (.cells #[.int .i64 N, .int .i64 P] 29)) := (Below.refl _ _).alloc (Nat.le_refl _) _
  have HE := Lib.hid (hE.on hnew)
  have HN := Lib.hid hnew
  have HB : Hid (Below (w.alloc (.cells #[.int .i64 N, .int .i64 P] 29)).heap.size (w.alloc (.cells #[.int .i64 N, .int .i64 P] 29)) (w.alloc (.cells #[.int .i64 N, .int .i64 P] 29))) := Lib.hid (Below.refl _ _)
  clear hE hnew
  go_enter Tryd.func8, Tryd.ntmps8
  go_wp2_with (first
    | (go_at_call 26; refine (begins_any _ (HE.out.on HB.out)).mono ?_; rintro e wn ⟨rfl, hb⟩; replace HB := Lib.hid (two_stay HB hb); clear hb; have c00 : wn.cell? ⟨w.heap.size, 0, none⟩ = some (.int .i64 N) := (HB.out.cell (p := ⟨w.heap.size, 0, none⟩) (by simp)).trans (by simp [go_sem]); have c01 : wn.cell? ⟨w.heap.size, 1, none⟩ = some (.int .i64 P) := (HB.out.cell (p := ⟨w.heap.size, 1, none⟩) (by simp)).trans (by simp [go_sem]))
    | (go_at_call 27; refine (accrued_any _ _ _ _).mono ?_; (first | rw [H1.out]); rintro e wn ⟨rfl, hb⟩; replace HB := Lib.hid (two_stay HB hb); clear hb; have c00 : wn.cell? ⟨w.heap.size, 0, none⟩ = some (.int .i64 N) := (HB.out.cell (p := ⟨w.heap.size, 0, none⟩) (by simp)).trans (by simp [go_sem]); have c01 : wn.cell? ⟨w.heap.size, 1, none⟩ = some (.int .i64 P) := (HB.out.cell (p := ⟨w.heap.size, 1, none⟩) (by simp)).trans (by simp [go_sem]))
    | (go_at_call 29; refine (cost_any _ _ _ _).mono ?_; (first | rw [H2.out]); rintro e wn ⟨rfl, hb⟩; replace HB := Lib.hid (two_stay HB hb); clear hb; have c00 : wn.cell? ⟨w.heap.size, 0, none⟩ = some (.int .i64 N) := (HB.out.cell (p := ⟨w.heap.size, 0, none⟩) (by simp)).trans (by simp [go_sem]); have c01 : wn.cell? ⟨w.heap.size, 1, none⟩ = some (.int .i64 P) := (HB.out.cell (p := ⟨w.heap.size, 1, none⟩) (by simp)).trans (by simp [go_sem])))
  refine bodyPost_ret (v := .bool true) (by simp [results, Tryd.results8, go_sem]) rfl ⟨rfl, HN.out.trans (HB.out.mono (by simp))⟩

theorem adjoint_any (N P d n : Int) (w : World) (hE : Env w) : Calls Tryd.prog 8 #[.agg #[.int .i64 N, .int .i64 P], .int .i64 d, .int .i64 n] w fun e w' => e = .returned (.bool true) ∧ Below w.heap.size w w' := by
  rcases TM.accOut_cases N P d with ⟨a, e⟩ | ⟨a, b, e⟩ | ⟨a, b, c, g, e⟩ | ⟨a, b, c, g0, g, e⟩
  · exact adj_bad N P d n w hE 21 _ _ (Lib.hid e) (Lib.hid rfl) rfl rfl
  · exact adj_bad N P d n w hE 2 _ _ (Lib.hid e) (Lib.hid rfl) rfl rfl
  · have hP : 1 ≤ P := a.2.2.1
    rcases TM.costOut_cases N P n with ⟨a', k⟩ | ⟨_, b', k⟩ | ⟨_, b', k⟩ | ⟨_, b', c', z, k⟩ | ⟨_, b', c', z, y, k⟩ | ⟨_, b', c', z, y, k⟩
    · exact absurd a a'
    · exact adj_manybad N P d n w hE (Lib.hid e) (Lib.hid k)
    · exact adj_many N P d n w hE 0 (Lib.hid e) (Lib.hid k) (by rw [decide_eq_true_eq]; exact b)
    · rw [z, Int.zero_mul, Int.zero_ediv] at g; omega
    · have := (TM.adjoint N P d n hP z).mp (by omega); omega
    · have := (TM.adjoint N P d n hP z).mp (by omega)
      exact adj_many N P d n w hE _ (Lib.hid e) (Lib.hid k) (by rw [decide_eq_true_eq]; exact this)
  · have hP : 1 ≤ P := a.2.2.1
    rcases TM.costOut_cases N P n with ⟨a', k⟩ | ⟨_, b', k⟩ | ⟨_, b', k⟩ | ⟨_, b', c', z, k⟩ | ⟨_, b', c', z, y, k⟩ | ⟨_, b', c', z, y, k⟩
    · exact absurd a a'
    · by_cases x : N * d / P = 0
      · exact adj_okbad N P d n w hE _ (Lib.hid e) (Lib.hid k) (by rw [beq_iff_eq]; exact x)
      · exact adj_okbad2 N P d n w hE _ (Lib.hid e) (Lib.hid k) (by rw [beq_eq_false_iff_ne]; exact x)
    · exact adj_yes N P d n w hE _ 0 (Lib.hid e) (Lib.hid k) (by rw [decide_eq_true_eq]; omega) (by rw [decide_eq_true_eq]; exact b)
    · exact adj_never N P d n w hE _ (Lib.hid e) (Lib.hid k) (by rw [decide_eq_false_iff_not, z, Int.zero_mul, Int.zero_ediv]; omega)
    · exact adj_never N P d n w hE _ (Lib.hid e) (Lib.hid k) (by rw [decide_eq_false_iff_not]; intro x; have := (TM.adjoint N P d n hP z).mp x; omega)
    · by_cases x : n ≤ N * d / P
      · exact adj_yes N P d n w hE _ _ (Lib.hid e) (Lib.hid k) (by rw [decide_eq_true_eq]; exact x) (by rw [decide_eq_true_eq]; exact (TM.adjoint N P d n hP z).mp x)
      · exact adj_no N P d n w hE _ _ (Lib.hid e) (Lib.hid k) (by rw [decide_eq_false_iff_not]; exact x) (by rw [decide_eq_false_iff_not]; exact fun y => x ((TM.adjoint N P d n hP z).mpr y))

set_option maxRecDepth 100000 in
set_option maxHeartbeats 1000000 in
theorem parts_bad1 (N P d e : Int) (w : World) (hE : Env w) (X Y e1 e2 : Int) (H1 : Hid (TM.accOut N P d = (X, e1))) (H2 : Hid (TM.accOut N P e = (Y, e2))) (t1 : (e1 != 0) = true) : Calls Tryd.prog 9 #[.agg #[.int .i64 N, .int .i64 P], .int .i64 d, .int .i64 e] w fun e w' => e = .returned (.bool true) ∧ Below w.heap.size w w' := by
  have hnew : Below w.heap.size w (w.alloc (.cells #[.int .i64 N, .int .i64 P] 29)) := (Below.refl _ _).alloc (Nat.le_refl _) _
  have HE := Lib.hid (hE.on hnew)
  have HN := Lib.hid hnew
  have HB : Hid (Below (w.alloc (.cells #[.int .i64 N, .int .i64 P] 29)).heap.size (w.alloc (.cells #[.int .i64 N, .int .i64 P] 29)) (w.alloc (.cells #[.int .i64 N, .int .i64 P] 29))) := Lib.hid (Below.refl _ _)
  clear hE hnew
  go_enter Tryd.func9, Tryd.ntmps9
  go_wp2_with (first
    | (go_at_call 26; refine (begins_any _ (HE.out.on HB.out)).mono ?_; rintro e wn ⟨rfl, hb⟩; replace HB := Lib.hid (two_stay HB hb); clear hb; have c00 : wn.cell? ⟨w.heap.size, 0, none⟩ = some (.int .i64 N) := (HB.out.cell (p := ⟨w.heap.size, 0, none⟩) (by simp)).trans (by simp [go_sem]); have c01 : wn.cell? ⟨w.heap.size, 1, none⟩ = some (.int .i64 P) := (HB.out.cell (p := ⟨w.heap.size, 1, none⟩) (by simp)).trans (by simp [go_sem]))
    | (go_at_call 27; refine (accrued_any _ _ _ _).mono ?_; (first | rw [H1.out] | rw [H2.out]); rintro e wn ⟨rfl, hb⟩; replace HB := Lib.hid (two_stay HB hb); clear hb; have c00 : wn.cell? ⟨w.heap.size, 0, none⟩ = some (.int .i64 N) := (HB.out.cell (p := ⟨w.heap.size, 0, none⟩) (by simp)).trans (by simp [go_sem]); have c01 : wn.cell? ⟨w.heap.size, 1, none⟩ = some (.int .i64 P) := (HB.out.cell (p := ⟨w.heap.size, 1, none⟩) (by simp)).trans (by simp [go_sem])))
  refine bodyPost_ret (v := .bool true) (by simp [results, Tryd.results9, go_sem]) rfl ⟨rfl, HN.out.trans (HB.out.mono (by simp))⟩

set_option maxRecDepth 100000 in
set_option maxHeartbeats 1000000 in
theorem parts_bad2 (N P d e : Int) (w : World) (hE : Env w) (X Y e2 : Int) (H1 : Hid (TM.accOut N P d = (X, 0))) (H2 : Hid (TM.accOut N P e = (Y, e2))) (t1 : (e2 != 0) = true) : Calls Tryd.prog 9 #[.agg #[.int .i64 N, .int .i64 P], .int .i64 d, .int .i64 e] w fun e w' => e = .returned (.bool true) ∧ Below w.heap.size w w' := by
  have hnew : Below w.heap.size w (w.alloc (.cells #[.int .i64 N, .int .i64 P] 29)) := (Below.refl _ _).alloc (Nat.le_refl _) _
  have HE := Lib.hid (hE.on hnew)
  have HN := Lib.hid hnew
  have HB : Hid (Below (w.alloc (.cells #[.int .i64 N, .int .i64 P] 29)).heap.size (w.alloc (.cells #[.int .i64 N, .int .i64 P] 29)) (w.alloc (.cells #[.int .i64 N, .int .i64 P] 29))) := Lib.hid (Below.refl _ _)
  clear hE hnew
  go_enter Tryd.func9, Tryd.ntmps9
  go_wp2_with (first
    | (go_at_call 26; refine (begins_any _ (HE.out.on HB.out)).mono ?_; rintro e wn ⟨rfl, hb⟩; replace HB := Lib.hid (two_stay HB hb); clear hb; have c00 : wn.cell? ⟨w.heap.size, 0, none⟩ = some (.int .i64 N) := (HB.out.cell (p := ⟨w.heap.size, 0, none⟩) (by simp)).trans (by simp [go_sem]); have c01 : wn.cell? ⟨w.heap.size, 1, none⟩ = some (.int .i64 P) := (HB.out.cell (p := ⟨w.heap.size, 1, none⟩) (by simp)).trans (by simp [go_sem]))
    | (go_at_call 27; refine (accrued_any _ _ _ _).mono ?_; (first | rw [H1.out] | rw [H2.out]); rintro e wn ⟨rfl, hb⟩; replace HB := Lib.hid (two_stay HB hb); clear hb; have c00 : wn.cell? ⟨w.heap.size, 0, none⟩ = some (.int .i64 N) := (HB.out.cell (p := ⟨w.heap.size, 0, none⟩) (by simp)).trans (by simp [go_sem]); have c01 : wn.cell? ⟨w.heap.size, 1, none⟩ = some (.int .i64 P) := (HB.out.cell (p := ⟨w.heap.size, 1, none⟩) (by simp)).trans (by simp [go_sem])))
  refine bodyPost_ret (v := .bool true) (by simp [results, Tryd.results9, go_sem]) rfl ⟨rfl, HN.out.trans (HB.out.mono (by simp))⟩

set_option maxRecDepth 100000 in
set_option maxHeartbeats 1000000 in
theorem parts_long (N P d e : Int) (w : World) (hE : Env w) (X Y : Int) (H1 : Hid (TM.accOut N P d = (X, 0))) (H2 : Hid (TM.accOut N P e = (Y, 0))) (b1 : 0 ≤ e) (b2 : e ≤ 2305843009213693952) (t1 : decide (2305843009213693952 - e < d) = true) : Calls Tryd.prog 9 #[.agg #[.int .i64 N, .int .i64 P], .int .i64 d, .int .i64 e] w fun e w' => e = .returned (.bool true) ∧ Below w.heap.size w w' := by
  have hnew : Below w.heap.size w (w.alloc (.cells #[.int .i64 N, .int .i64 P] 29)) := (Below.refl _ _).alloc (Nat.le_refl _) _
  have HE := Lib.hid (hE.on hnew)
  have HN := Lib.hid hnew
  have HB : Hid (Below (w.alloc (.cells #[.int .i64 N, .int .i64 P] 29)).heap.size (w.alloc (.cells #[.int .i64 N, .int .i64 P] 29)) (w.alloc (.cells #[.int .i64 N, .int .i64 P] 29))) := Lib.hid (Below.refl _ _)
  clear hE hnew
  go_enter Tryd.func9, Tryd.ntmps9
  go_wp2_with (first
    | (go_at_call 26; refine (begins_any _ (HE.out.on HB.out)).mono ?_; rintro e wn ⟨rfl, hb⟩; replace HB := Lib.hid (two_stay HB hb); clear hb; have c00 : wn.cell? ⟨w.heap.size, 0, none⟩ = some (.int .i64 N) := (HB.out.cell (p := ⟨w.heap.size, 0, none⟩) (by simp)).trans (by simp [go_sem]); have c01 : wn.cell? ⟨w.heap.size, 1, none⟩ = some (.int .i64 P) := (HB.out.cell (p := ⟨w.heap.size, 1, none⟩) (by simp)).trans (by simp [go_sem]))
    | (go_at_call 27; refine (accrued_any _ _ _ _).mono ?_; (first | rw [H1.out] | rw [H2.out]); rintro e wn ⟨rfl, hb⟩; replace HB := Lib.hid (two_stay HB hb); clear hb; have c00 : wn.cell? ⟨w.heap.size, 0, none⟩ = some (.int .i64 N) := (HB.out.cell (p := ⟨w.heap.size, 0, none⟩) (by simp)).trans (by simp [go_sem]); have c01 : wn.cell? ⟨w.heap.size, 1, none⟩ = some (.int .i64 P) := (HB.out.cell (p := ⟨w.heap.size, 1, none⟩) (by simp)).trans (by simp [go_sem])))
  refine bodyPost_ret (v := .bool true) (by simp [results, Tryd.results9, go_sem]) rfl ⟨rfl, HN.out.trans (HB.out.mono (by simp))⟩

set_option maxRecDepth 100000 in
set_option maxHeartbeats 1000000 in
theorem parts_many (N P d e : Int) (w : World) (hE : Env w) (X Y : Int) (H1 : Hid (TM.accOut N P d = (X, 0))) (H2 : Hid (TM.accOut N P e = (Y, 0))) (b1 : 0 ≤ e) (b2 : e ≤ 2305843009213693952) (b3 : 0 ≤ d) (b4 : d ≤ 2305843009213693952) (x1 : 0 ≤ X) (x2 : X ≤ 2305843009213693952) (y1 : 0 ≤ Y) (y2 : Y ≤ 2305843009213693952) (H3 : Hid (TM.accOut N P (d + e) = (0, 3))) (t1 : decide (2305843009213693952 - e < d) = false) (t2 : decide (2305843009213693952 < X + Y + 1) = true) : Calls Tryd.prog 9 #[.agg #[.int .i64 N, .int .i64 P], .int .i64 d, .int .i64 e] w fun e w' => e = .returned (.bool true) ∧ Below w.heap.size w w' := by
  have hnew : Below w.heap.size w (w.alloc (.cells #[.int .i64 N, .int .i64 P] 29)) := (Below.refl _ _).alloc (Nat.le_refl _) _
  have HE := Lib.hid (hE.on hnew)
  have HN := Lib.hid hnew
  have HB : Hid (Below (w.alloc (.cells #[.int .i64 N, .int .i64 P] 29)).heap.size (w.alloc (.cells #[.int .i64 N, .int .i64 P] 29)) (w.alloc (.cells #[.int .i64 N, .int .i64 P] 29))) := Lib.hid (Below.refl _ _)
  clear hE hnew
  go_enter Tryd.func9, Tryd.ntmps9
  go_wp2_with (first
    | (go_at_call 26; refine (begins_any _ (HE.out.on HB.out)).mono ?_; rintro e wn ⟨rfl, hb⟩; replace HB := Lib.hid (two_stay HB hb); clear hb; have c00 : wn.cell? ⟨w.heap.size, 0, none⟩ = some (.int .i64 N) := (HB.out.cell (p := ⟨w.heap.size, 0, none⟩) (by simp)).trans (by simp [go_sem]); have c01 : wn.cell? ⟨w.heap.size, 1, none⟩ = some (.int .i64 P) := (HB.out.cell (p := ⟨w.heap.size, 1, none⟩) (by simp)).trans (by simp [go_sem]))
    | (go_at_call 27; refine (accrued_any _ _ _ _).mono ?_; (first | rw [H1.out] | rw [H2.out] | rw [H3.out]); rintro e wn ⟨rfl, hb⟩; replace HB := Lib.hid (two_stay HB hb); clear hb; have c00 : wn.cell? ⟨w.heap.size, 0, none⟩ = some (.int .i64 N) := (HB.out.cell (p := ⟨w.heap.size, 0, none⟩) (by simp)).trans (by simp [go_sem]); have c01 : wn.cell? ⟨w.heap.size, 1, none⟩ = some (.int .i64 P) := (HB.out.cell (p := ⟨w.heap.size, 1, none⟩) (by simp)).trans (by simp [go_sem])))
  refine bodyPost_ret (v := .bool true) (by simp [results, Tryd.results9, go_sem]) rfl ⟨rfl, HN.out.trans (HB.out.mono (by simp))⟩

set_option maxRecDepth 100000 in
set_option maxHeartbeats 1000000 in
theorem parts_ok (N P d e : Int) (w : World) (hE : Env w) (X Y : Int) (H1 : Hid (TM.accOut N P d = (X, 0))) (H2 : Hid (TM.accOut N P e = (Y, 0))) (Z : Int) (b1 : 0 ≤ e) (b2 : e ≤ 2305843009213693952) (b3 : 0 ≤ d) (b4 : d ≤ 2305843009213693952) (x1 : 0 ≤ X) (x2 : X ≤ 2305843009213693952) (y1 : 0 ≤ Y) (y2 : Y ≤ 2305843009213693952) (H3 : Hid (TM.accOut N P (d + e) = (Z, 0))) (t1 : decide (2305843009213693952 - e < d) = false) (t2 : decide (X + Y ≤ Z) = true) (t3 : decide (Z ≤ X + Y + 1) = true) : Calls Tryd.prog 9 #[.agg #[.int .i64 N, .int .i64 P], .int .i64 d, .int .i64 e] w fun e w' => e = .returned (.bool true) ∧ Below w.heap.size w w' := by
  have hnew : Below w.heap.size w (w.alloc (.cells #[.int .i64 N, .int .i64 P] 29)) := (Below.refl _ _).alloc (Nat.le_refl _) _
  have HE := Lib.hid (hE.on hnew)
  have HN := Lib.hid hnew
  have HB : Hid (Below (w.alloc (.cells #[.int .i64 N, .int .i64 P] 29)).heap.size (w.alloc (.cells #[.int .i64 N, .int .i64 P] 29)) (w.alloc (.cells #[.int .i64 N, .int .i64 P] 29))) := Lib.hid (Below.refl _ _)
  clear hE hnew
  go_enter Tryd.func9, Tryd.ntmps9
  go_wp2_with (first
    | (go_at_call 26; refine (begins_any _ (HE.out.on HB.out)).mono ?_; rintro e wn ⟨rfl, hb⟩; replace HB := Lib.hid (two_stay HB hb); clear hb; have c00 : wn.cell? ⟨w.heap.size, 0, none⟩ = some (.int .i64 N) := (HB.out.cell (p := ⟨w.heap.size, 0, none⟩) (by simp)).trans (by simp [go_sem]); have c01 : wn.cell? ⟨w.heap.size, 1, none⟩ = some (.int .i64 P) := (HB.out.cell (p := ⟨w.heap.size, 1, none⟩) (by simp)).trans (by simp [go_sem]))
    | (go_at_call 27; refine (accrued_any _ _ _ _).mono ?_; (first | rw [H1.out] | rw [H2.out] | rw [H3.out]); rintro e wn ⟨rfl, hb⟩; replace HB := Lib.hid (two_stay HB hb); clear hb; have c00 : wn.cell? ⟨w.heap.size, 0, none⟩ = some (.int .i64 N) := (HB.out.cell (p := ⟨w.heap.size, 0, none⟩) (by simp)).trans (by simp [go_sem]); have c01 : wn.cell? ⟨w.heap.size, 1, none⟩ = some (.int .i64 P) := (HB.out.cell (p := ⟨w.heap.size, 1, none⟩) (by simp)).trans (by simp [go_sem])))
  refine bodyPost_ret (v := .bool true) (by simp [results, Tryd.results9, go_sem]) rfl ⟨rfl, HN.out.trans (HB.out.mono (by simp))⟩

theorem parts_any (N P d e : Int) (w : World) (hE : Env w) : Calls Tryd.prog 9 #[.agg #[.int .i64 N, .int .i64 P], .int .i64 d, .int .i64 e] w fun e w' => e = .returned (.bool true) ∧ Below w.heap.size w w' := by
  rcases TM.accOut_cases N P d with ⟨a, k⟩ | ⟨a, b, k⟩ | ⟨a, b, c, g, k⟩ | ⟨a, b, c, g0, g, k⟩
  · exact parts_bad1 N P d e w hE _ _ _ _ (Lib.hid k) (Lib.hid rfl) rfl
  · exact parts_bad1 N P d e w hE _ _ _ _ (Lib.hid k) (Lib.hid rfl) rfl
  · exact parts_bad1 N P d e w hE _ _ _ _ (Lib.hid k) (Lib.hid rfl) rfl
  rcases TM.accOut_cases N P e with ⟨_, m⟩ | ⟨_, b', m⟩ | ⟨_, b', c', g', m⟩ | ⟨_, b', c', g0', g', m⟩
  · exact parts_bad2 N P d e w hE _ _ _ (Lib.hid k) (Lib.hid m) rfl
  · exact parts_bad2 N P d e w hE _ _ _ (Lib.hid k) (Lib.hid m) rfl
  · exact parts_bad2 N P d e w hE _ _ _ (Lib.hid k) (Lib.hid m) rfl
  by_cases l : 2305843009213693952 - e < d
  · exact parts_long N P d e w hE _ _ (Lib.hid k) (Lib.hid m) b' c' (by rw [decide_eq_true_eq]; exact l)
  obtain ⟨q1, q2⟩ := TM.parts N P d e a.2.2.1
  rcases TM.accOut_cases N P (d + e) with ⟨z, _⟩ | ⟨_, z, _⟩ | ⟨_, _, _, z, o⟩ | ⟨_, _, _, _, _, o⟩
  · exact absurd a z
  · omega
  · exact parts_many N P d e w hE _ _ (Lib.hid k) (Lib.hid m) b' c' b c g0 g g0' g' (Lib.hid o) (by rw [decide_eq_false_iff_not]; exact l) (by rw [decide_eq_true_eq]; omega)
  · exact parts_ok N P d e w hE _ _ (Lib.hid k) (Lib.hid m) _ b' c' b c g0 g g0' g' (Lib.hid o) (by rw [decide_eq_false_iff_not]; exact l) (by rw [decide_eq_true_eq]; exact q1) (by rw [decide_eq_true_eq]; exact q2)
end Go.Proofs.YthbphanlmhghdaaDoor
