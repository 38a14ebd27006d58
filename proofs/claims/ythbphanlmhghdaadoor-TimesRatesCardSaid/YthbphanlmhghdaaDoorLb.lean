/- THE WALK of the laws' own beginning: a span is read and written, a rate accrues, a window is told. -/
import Derived.Test.YthbphanlmhghdaaDoorLa
namespace Go.Proofs.YthbphanlmhghdaaDoor
open Go.RowKit

theorem b_parse (w : World) (hE : Env w) : Calls Tryd.prog 14 #[.string ⟨#[49, 104, 51, 48, 109, 49, 110, 115]⟩] w fun e w' => e = .returned (.tuple #[.int .i64 5400000000001, .int .i64 0, .int .i64 0]) ∧ Below w.heap.size w w' := by
  have e : TM.parseSpan (⟨#[49, 104, 51, 48, 109, 49, 110, 115]⟩ : ByteArray).data.toList = (5400000000001, 0, 0) := by decide +kernel
  have h := parse_any ⟨#[49, 104, 51, 48, 109, 49, 110, 115]⟩ w hE (by decide)
  rw [e] at h
  exact h
theorem b_print (w : World) (hE : Env w) : Calls Tryd.prog 12 #[.int .i64 5400000000001] w fun e w' => e = .returned (.tuple #[.string ⟨#[49, 104, 51, 48, 109, 49, 110, 115]⟩, .int .i64 0]) ∧ Below w.heap.size w w' := by
  have e : spanOut 5400000000001 = ([49, 104, 51, 48, 109, 49, 110, 115], 0) := by decide +kernel
  have h := print_any 5400000000001 w hE
  rw [e] at h
  exact h
theorem b_accrued (w : World) : Calls Tryd.prog 27 #[.agg #[.int .i64 3, .int .i64 2000000000], .int .i64 2000000000] w fun e w' => e = .returned (.tuple #[.int .i64 3, .int .i64 0]) ∧ Below w.heap.size w w' := by
  have e : TM.accOut 3 2000000000 2000000000 = (3, 0) := by
    rw [TM.accOut_ok (by unfold TM.right; omega) (by omega) (by omega)]; rfl
  have h := accrued_any 3 2000000000 2000000000 w
  rw [e] at h
  exact h
theorem b_window (w : World) : Calls Tryd.prog 31 #[.int .i64 10, .int .i64 4] w fun e w' => e = .returned (.tuple #[.int .i64 2, .int .i64 0]) ∧ w = w' := by
  have h := window_any 10 4 w
  rw [winOut_ok (by omega) (by omega) (by omega) (by omega)] at h
  exact h

set_option maxRecDepth 100000 in
set_option maxHeartbeats 1000000 in
theorem begins_any (w : World) (hE : Env w) : Calls Tryd.prog 26 #[] w fun e w' => e = .returned (.bool true) ∧ Below w.heap.size w w' := by
  have HE := Lib.hid hE
  clear hE
  go_enter Tryd.func26, Tryd.ntmps26
  go_wp2_with (first
    | (go_at_call 14; refine (b_parse _ HE.out).mono ?_; rintro e w1 ⟨rfl, hb1⟩; have HB1 := Lib.hid hb1; clear hb1)
    | (go_at_call 12; refine (b_print _ (HE.out.on HB1.out)).mono ?_; rintro e w2 ⟨rfl, hb2⟩; have HB2 := Lib.hid (two_stay HB1 hb2); clear hb2 HB1)
    | (go_at_call 27; refine (b_accrued _).mono ?_; rintro e w3 ⟨rfl, hb3⟩; have HB3 := Lib.hid (two_stay HB2 hb3); clear hb3 HB2)
    | (go_at_call 31; refine (b_window _).mono ?_; rintro e wx ⟨rfl, rfl⟩))
  refine bodyPost_ret (v := .bool true) (by simp [results, Tryd.results26, go_sem]) rfl ⟨rfl, HB3.out⟩
end Go.Proofs.YthbphanlmhghdaaDoor
