/- THE WALKS of the document's own Count, Index, Bounds. -/
import Derived.Test.YtiifhkfkcljoiaaWj
namespace Go.Proofs.Ytiifhkfkcljoiaa.Sc
open Go.RowKit
set_option maxRecDepth 100000
theorem refCount_any {l h d : Int} (r : rightB l h d = true) (w : World) : Calls Try.prog 40 #[.agg #[.int .i64 l, .int .i64 h, .int .i64 d]] w fun e w' => e = .returned (.int .i64 (nI l h d)) ∧ Below w.heap.size w w' := by
  have HN := Lib.hid (show Below w.heap.size w (w.alloc (.cells #[.int .i64 l, .int .i64 h, .int .i64 d] 23)) from (Below.refl _ _).alloc (Nat.le_refl _) _)
  have HB := Lib.hid (Below.refl (w.alloc (.cells #[.int .i64 l, .int .i64 h, .int .i64 d] 23)).heap.size (w.alloc (.cells #[.int .i64 l, .int .i64 h, .int .i64 d] 23)))
  obtain ⟨c0, c1, c2⟩ := box3 HB.out
  obtain ⟨a1, a2, a3, a4, a5, a6⟩ := right_of r
  have hn : nI l h d = aI l d h + 1 := by unfold nI cnt aI; omega
  have ha := a_in r (v := h) (by omega) (by omega)
  have hb := n_in r
  have HN1 := Lib.hid hn
  have hp1 : 0 ≤ aI l d h := ha.1
  have hp2 : aI l d h ≤ 67585 := by omega
  have HP := Lib.hid (fun w => place_any r (v := h) (by omega) (by omega) w)
  clear hn ha hb a1 a2 a3 a4 a5 a6
  go_enter Try.func40, Try.ntmps40
  go_wp2_with (go_at_call 69; ((with_reducible refine (HP.out _).mono ?_); rintro e wx ⟨rfl, hb⟩; have HB := Lib.hid (two_stay HB hb); clear hb; clear c0 c1 c2; obtain ⟨c0, c1, c2⟩ := box3 HB.out))
  go_ret
  exact ⟨ret_int HN1.out.symm, HN.out.trans (HB.out.mono (by simp))⟩
theorem refIndex_no {l h d v : Int} (r : rightB l h d = false) (w : World) : Calls Try.prog 71 #[.agg #[.int .i64 l, .int .i64 h, .int .i64 d], .int .i64 v] w fun e w' => e = .returned (.tuple #[.int .i64 0, .int .i64 80]) ∧ Below w.heap.size w w' := by
  have HN := Lib.hid (show Below w.heap.size w (w.alloc (.cells #[.int .i64 l, .int .i64 h, .int .i64 d] 23)) from (Below.refl _ _).alloc (Nat.le_refl _) _)
  have HB := Lib.hid (Below.refl (w.alloc (.cells #[.int .i64 l, .int .i64 h, .int .i64 d] 23)).heap.size (w.alloc (.cells #[.int .i64 l, .int .i64 h, .int .i64 d] 23)))
  obtain ⟨c0, c1, c2⟩ := box3 HB.out
  have HR := Lib.hid r
  clear r
  go_enter Try.func71, Try.ntmps71
  go_wp2_with (go_at_call 11; ((with_reducible refine (right_any l h d _).mono ?_); rw [HR.out]; rintro e wx ⟨rfl, hb⟩; have HB := Lib.hid (two_stay HB hb); clear hb; clear c0 c1 c2; obtain ⟨c0, c1, c2⟩ := box3 HB.out))
  go_ret2
  exact ⟨rfl, HN.out.trans (HB.out.mono (by simp))⟩
theorem refIndex_out1 {l h d v : Int} (r : rightB l h d = true) (hv : v < 0) (w : World) : Calls Try.prog 71 #[.agg #[.int .i64 l, .int .i64 h, .int .i64 d], .int .i64 v] w fun e w' => e = .returned (.tuple #[.int .i64 0, .int .i64 2]) ∧ Below w.heap.size w w' := by
  have HN := Lib.hid (show Below w.heap.size w (w.alloc (.cells #[.int .i64 l, .int .i64 h, .int .i64 d] 23)) from (Below.refl _ _).alloc (Nat.le_refl _) _)
  have HB := Lib.hid (Below.refl (w.alloc (.cells #[.int .i64 l, .int .i64 h, .int .i64 d] 23)).heap.size (w.alloc (.cells #[.int .i64 l, .int .i64 h, .int .i64 d] 23)))
  obtain ⟨c0, c1, c2⟩ := box3 HB.out
  have HR := Lib.hid r
  clear r
  go_enter Try.func71, Try.ntmps71
  go_wp2_with (go_at_call 11; ((with_reducible refine (right_any l h d _).mono ?_); rw [HR.out]; rintro e wx ⟨rfl, hb⟩; have HB := Lib.hid (two_stay HB hb); clear hb; clear c0 c1 c2; obtain ⟨c0, c1, c2⟩ := box3 HB.out))
  go_ret2
  exact ⟨rfl, HN.out.trans (HB.out.mono (by simp))⟩
theorem refIndex_out2 {l h d v : Int} (r : rightB l h d = true) (hv0 : 0 ≤ v) (hv : h < v) (w : World) : Calls Try.prog 71 #[.agg #[.int .i64 l, .int .i64 h, .int .i64 d], .int .i64 v] w fun e w' => e = .returned (.tuple #[.int .i64 0, .int .i64 2]) ∧ Below w.heap.size w w' := by
  have HN := Lib.hid (show Below w.heap.size w (w.alloc (.cells #[.int .i64 l, .int .i64 h, .int .i64 d] 23)) from (Below.refl _ _).alloc (Nat.le_refl _) _)
  have HB := Lib.hid (Below.refl (w.alloc (.cells #[.int .i64 l, .int .i64 h, .int .i64 d] 23)).heap.size (w.alloc (.cells #[.int .i64 l, .int .i64 h, .int .i64 d] 23)))
  obtain ⟨c0, c1, c2⟩ := box3 HB.out
  have HR := Lib.hid r
  clear r
  go_enter Try.func71, Try.ntmps71
  go_wp2_with (go_at_call 11; ((with_reducible refine (right_any l h d _).mono ?_); rw [HR.out]; rintro e wx ⟨rfl, hb⟩; have HB := Lib.hid (two_stay HB hb); clear hb; clear c0 c1 c2; obtain ⟨c0, c1, c2⟩ := box3 HB.out))
  go_ret2
  exact ⟨rfl, HN.out.trans (HB.out.mono (by simp))⟩
theorem refIndex_yes {l h d v : Int} (r : rightB l h d = true) (v0 : 0 ≤ v) (v1 : v ≤ h) (w : World) : Calls Try.prog 71 #[.agg #[.int .i64 l, .int .i64 h, .int .i64 d], .int .i64 v] w fun e w' => e = .returned (.tuple #[.int .i64 (aI l d v), .int .i64 0]) ∧ Below w.heap.size w w' := by
  have HN := Lib.hid (show Below w.heap.size w (w.alloc (.cells #[.int .i64 l, .int .i64 h, .int .i64 d] 23)) from (Below.refl _ _).alloc (Nat.le_refl _) _)
  have HB := Lib.hid (Below.refl (w.alloc (.cells #[.int .i64 l, .int .i64 h, .int .i64 d] 23)).heap.size (w.alloc (.cells #[.int .i64 l, .int .i64 h, .int .i64 d] 23)))
  obtain ⟨c0, c1, c2⟩ := box3 HB.out
  have HR := Lib.hid r
  have HP := Lib.hid (fun w => place_any r v0 v1 w)
  clear r
  go_enter Try.func71, Try.ntmps71
  go_wp2_with (first
    | (go_at_call 11; ((with_reducible refine (right_any l h d _).mono ?_); rw [HR.out]; rintro e wx ⟨rfl, hb⟩; have HB := Lib.hid (two_stay HB hb); clear hb; clear c0 c1 c2; obtain ⟨c0, c1, c2⟩ := box3 HB.out))
    | (go_at_call 69; ((with_reducible refine (HP.out _).mono ?_); rintro e wx ⟨rfl, hb⟩; have HB := Lib.hid (two_stay HB hb); clear hb; clear c0 c1 c2; obtain ⟨c0, c1, c2⟩ := box3 HB.out)))
  go_ret2
  exact ⟨rfl, HN.out.trans (HB.out.mono (by simp))⟩
end Go.Proofs.Ytiifhkfkcljoiaa.Sc
