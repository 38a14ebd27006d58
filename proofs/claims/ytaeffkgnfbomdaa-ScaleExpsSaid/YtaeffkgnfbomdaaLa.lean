/- THE WALK of 'begins': the document's examples. -/
import Derived.Test.YtaeffkgnfbomdaaWi
namespace Go.Proofs.Ytaeffkgnfbomdaa
open Go.RowKit
theorem r0 : rightB 1 1000 1 = true := by decide +kernel
theorem v1 : (SC.idx (hOf 1) (eOf 1) (63 : Int).toNat : Int) = 47 := by decide +kernel
theorem v2 : 48 < cnt 1 1000 1 := by decide +kernel
theorem v3 : (SC.low (hOf 1) (eOf 1) 48 : Int) = 64 := by decide +kernel
theorem v4 : (SC.next (hOf 1) (eOf 1) 48 : Int) - 1 = 67 := by decide +kernel
theorem v5 : FL.bk 1 4608983858650965606 = 1 := by decide +kernel
theorem v6 : FL.co 3 = 2 := by decide +kernel
theorem beg_index (w : World) : Calls Try.prog 14 #[.agg #[.int .i64 1, .int .i64 1000, .int .i64 1], .int .i64 63] w fun e w' => e = .returned (.tuple #[.int .i64 47, .int .i64 0]) ∧ Below w.heap.size w w' := by
  have := sindex_yes r0 w (v := 63) (by omega) (by omega)
  rwa [v1] at this
theorem beg_bounds (w : World) : Calls Try.prog 16 #[.agg #[.int .i64 1, .int .i64 1000, .int .i64 1], .int .i64 48] w fun e w' => e = .returned (.tuple #[.int .i64 64, .int .i64 67, .int .i64 0]) ∧ Below w.heap.size w w' := by
  have := sbounds_yes r0 v2 w
  rwa [v3, v4] at this
theorem beg_exp (w : World) : Calls Try.prog 19 #[.int .i64 1, .float .f64 4608983858650965606] w fun e w' => e = .returned (.tuple #[.agg #[.int .i64 1, .int .i64 1], .int .i64 0]) ∧ Below w.heap.size w w' := by
  have := exp_pos (s := 1) (b := 4608983858650965606) w (by omega) (by omega) (by omega) (by omega)
  rwa [v5] at this
theorem beg_coarser (w : World) : Calls Try.prog 26 #[.int .i64 3] w fun e w' => e = .returned (.int .i64 2) ∧ w = w' := by
  have := coarser_any 3 w (by omega) (by omega)
  rwa [v6] at this
theorem begins_any (w : World) : Calls Try.prog 18 #[] w fun e w' => e = .returned (.bool true) ∧ Below w.heap.size w w' := by
  have HN := Lib.hid (show Below w.heap.size w (w.alloc (.cells #[.int .i64 1, .int .i64 1000, .int .i64 1] 23)) from (Below.refl _ _).alloc (Nat.le_refl _) _)
  go_enter Try.func18, Try.ntmps18
  go_wp2_with (first
    | (go_at_call 14; refine (beg_index _).mono ?_; rintro e w1 ⟨rfl, hb1⟩; have HB1 := Lib.hid hb1; obtain ⟨hc1, hf1⟩ := bcell hb1; have hz1 := hb1.size; simp at hz1; clear hb1)
    | (go_at_call 16; refine (beg_bounds _).mono ?_; rintro e w2 ⟨rfl, hb2⟩; have HB2 := Lib.hid (two_stay HB1 hb2); have hz2 := hb2.size; clear hb2)
    | (go_at_call 19; refine (beg_exp _).mono ?_; rintro e w3 ⟨rfl, hb3⟩; have HB3 := Lib.hid (two_stay HB2 hb3); have hz3 := hb3.size; clear hb3)
    | (go_at_call 26; refine (beg_coarser _).mono ?_; rintro e w4 ⟨rfl, rfl⟩))
  go_ret
  exact ⟨rfl, HN.out.trans ((HB3.out.mono (by simp)).alloc (by omega) _)⟩
end Go.Proofs.Ytaeffkgnfbomdaa
