/- THE WALKS of the laws 'TimesAccrues' and 'TimesWindows'. -/
import Derived.Test.YthbphanlmhghdaaDoorLb
namespace Go.Proofs.YthbphanlmhghdaaDoor
open Go.RowKit

set_option maxRecDepth 100000 in
set_option maxHeartbeats 1000000 in
theorem accrues_any (N P d n : Int) (w : World) (hE : Env w) : Calls Tryd.prog 5 #[.agg #[.int .i64 N, .int .i64 P], .int .i64 d, .int .i64 n] w fun e w' => e = .returned (.bool true) ∧ Below w.heap.size w w' := by
  have hnew : Below w.heap.size w (w.alloc (.cells #[.int .i64 N, .int .i64 P] 29)) := (Below.refl _ _).alloc (Nat.le_refl _) _
  have HE := Lib.hid (hE.on hnew)
  have HN := Lib.hid hnew
  clear hE hnew
  go_enter Tryd.func5, Tryd.ntmps5
  go_wp2_with (first
    | (go_at_call 27; refine (accrued_any N P d _).mono ?_; rintro e w1 ⟨rfl, hb1⟩; have HB1 := Lib.hid hb1; clear hb1; have c00 : w1.cell? ⟨w.heap.size, 0, none⟩ = some (.int .i64 N) := (HB1.out.cell (p := ⟨w.heap.size, 0, none⟩) (by simp)).trans (by simp [go_sem]); have c01 : w1.cell? ⟨w.heap.size, 1, none⟩ = some (.int .i64 P) := (HB1.out.cell (p := ⟨w.heap.size, 1, none⟩) (by simp)).trans (by simp [go_sem]))
    | (go_at_call 28; refine (refAccrued_any N P d _).mono ?_; rintro e w2 ⟨rfl, hb2⟩; have HB2 := Lib.hid (two_stay HB1 hb2); clear hb2 HB1; clear c00 c01; have c00 : w2.cell? ⟨w.heap.size, 0, none⟩ = some (.int .i64 N) := (HB2.out.cell (p := ⟨w.heap.size, 0, none⟩) (by simp)).trans (by simp [go_sem]); have c01 : w2.cell? ⟨w.heap.size, 1, none⟩ = some (.int .i64 P) := (HB2.out.cell (p := ⟨w.heap.size, 1, none⟩) (by simp)).trans (by simp [go_sem]))
    | (go_at_call 29; refine (cost_any N P n _).mono ?_; rintro e w3 ⟨rfl, hb3⟩; have HB3 := Lib.hid (two_stay HB2 hb3); clear hb3 HB2; clear c00 c01; have c00 : w3.cell? ⟨w.heap.size, 0, none⟩ = some (.int .i64 N) := (HB3.out.cell (p := ⟨w.heap.size, 0, none⟩) (by simp)).trans (by simp [go_sem]); have c01 : w3.cell? ⟨w.heap.size, 1, none⟩ = some (.int .i64 P) := (HB3.out.cell (p := ⟨w.heap.size, 1, none⟩) (by simp)).trans (by simp [go_sem]))
    | (go_at_call 30; refine (refCost_any N P n _).mono ?_; rintro e w4 ⟨rfl, hb4⟩; have HB4 := Lib.hid (two_stay HB3 hb4); clear hb4 HB3; clear c00 c01; have c00 : w4.cell? ⟨w.heap.size, 0, none⟩ = some (.int .i64 N) := (HB4.out.cell (p := ⟨w.heap.size, 0, none⟩) (by simp)).trans (by simp [go_sem]); have c01 : w4.cell? ⟨w.heap.size, 1, none⟩ = some (.int .i64 P) := (HB4.out.cell (p := ⟨w.heap.size, 1, none⟩) (by simp)).trans (by simp [go_sem]))
    | (go_at_call 26; refine (begins_any _ (HE.out.on HB4.out)).mono ?_; rintro e w5 ⟨rfl, hb5⟩; have HB5 := Lib.hid (two_stay HB4 hb5); clear hb5 HB4))
  refine bodyPost_ret (v := .bool true) (by simp [results, Tryd.results5, go_sem]) rfl ⟨rfl, HN.out.trans (HB5.out.mono (by simp))⟩

set_option maxRecDepth 100000 in
set_option maxHeartbeats 1000000 in
theorem windows_any (f t l n : Int) (w : World) (hE : Env w) : Calls Tryd.prog 6 #[.int .i64 f, .int .i64 t, .int .i64 l, .int .i64 n] w fun e w' => e = .returned (.bool true) ∧ Below w.heap.size w w' := by
  have HE := Lib.hid hE
  clear hE
  go_enter Tryd.func6, Tryd.ntmps6
  go_wp2_with (first
    | (go_at_call 31; refine (window_any f l _).mono ?_; rintro e wx ⟨rfl, rfl⟩)
    | (go_at_call 32; refine (refWindow_any f l _).mono ?_; rintro e wx ⟨rfl, rfl⟩)
    | (go_at_call 33; refine (bounds_any n l _).mono ?_; rintro e wx ⟨rfl, rfl⟩)
    | (go_at_call 34; refine (refBounds_any n l _).mono ?_; rintro e wx ⟨rfl, rfl⟩)
    | (go_at_call 35; refine (touched_any f t l _).mono ?_; rintro e wx ⟨rfl, rfl⟩)
    | (go_at_call 36; refine (refTouched_any f t l _).mono ?_; rintro e wx ⟨rfl, rfl⟩)
    | (go_at_call 26; refine (begins_any _ HE.out).mono ?_; rintro e w1 ⟨rfl, hb1⟩; have HB1 := Lib.hid hb1; clear hb1))
  refine bodyPost_ret (v := .bool true) (by simp [results, Tryd.results6, go_sem]) rfl ⟨rfl, HB1.out⟩
end Go.Proofs.YthbphanlmhghdaaDoor
