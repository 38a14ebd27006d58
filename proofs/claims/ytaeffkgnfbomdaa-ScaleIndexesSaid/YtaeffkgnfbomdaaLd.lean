/- THE WALK of the law 'ScaleParts'. -/
import Derived.Test.YtaeffkgnfbomdaaLb
namespace Go.Proofs.Ytaeffkgnfbomdaa
open Go.RowKit
theorem box3 {w wk : World} {l h d : Int} (H : Below (w.alloc (.cells #[.int .i64 l, .int .i64 h, .int .i64 d] 23)).heap.size (w.alloc (.cells #[.int .i64 l, .int .i64 h, .int .i64 d] 23)) wk) : wk.cell? ⟨w.heap.size, 0, none⟩ = some (.int .i64 l) ∧ wk.cell? ⟨w.heap.size, 1, none⟩ = some (.int .i64 h) ∧ wk.cell? ⟨w.heap.size, 2, none⟩ = some (.int .i64 d) :=
  ⟨(H.cell (p := ⟨w.heap.size, 0, none⟩) (by simp)).trans (by simp [go_sem]), (H.cell (p := ⟨w.heap.size, 1, none⟩) (by simp)).trans (by simp [go_sem]), (H.cell (p := ⟨w.heap.size, 2, none⟩) (by simp)).trans (by simp [go_sem])⟩
set_option maxRecDepth 100000
theorem parts_wrong {l h d v u i : Int} (r : rightB l h d = false) (w : World) : Calls Try.prog 5 #[.agg #[.int .i64 l, .int .i64 h, .int .i64 d], .int .i64 v, .int .i64 u, .int .i64 i] w fun e w' => e = .returned (.bool true) ∧ Below w.heap.size w w' := by
  have HN := Lib.hid (show Below w.heap.size w (w.alloc (.cells #[.int .i64 l, .int .i64 h, .int .i64 d] 23)) from (Below.refl _ _).alloc (Nat.le_refl _) _)
  have HB := Lib.hid (Below.refl (w.alloc (.cells #[.int .i64 l, .int .i64 h, .int .i64 d] 23)).heap.size (w.alloc (.cells #[.int .i64 l, .int .i64 h, .int .i64 d] 23)))
  obtain ⟨c0, c1, c2⟩ := box3 HB.out
  have HR := Lib.hid r
  clear r
  go_enter Try.func5, Try.ntmps5
  go_wp2_with (first
    | (go_at_call 18; (with_reducible refine (begins_any _).mono ?_); rintro e wx ⟨rfl, hb⟩; have HB := Lib.hid (two_stay HB hb); clear hb; clear c0 c1 c2; obtain ⟨c0, c1, c2⟩ := box3 HB.out)
    | (go_at_call 11; (with_reducible refine (scount_no HR.out _).mono ?_); rintro e wx ⟨rfl, hb⟩; have HB := Lib.hid (two_stay HB hb); clear hb; clear c0 c1 c2; obtain ⟨c0, c1, c2⟩ := box3 HB.out)
    | (go_at_call 12; (with_reducible refine (check_no HR.out _).mono ?_); rintro e wx ⟨rfl, hb⟩; have HB := Lib.hid (two_stay HB hb); clear hb; clear c0 c1 c2; obtain ⟨c0, c1, c2⟩ := box3 HB.out))
  go_ret
  exact ⟨rfl, HN.out.trans (HB.out.mono (by simp))⟩
theorem parts_out1 {l h d v u i : Int} (r : rightB l h d = true) (hv : v < 0) (w : World) : Calls Try.prog 5 #[.agg #[.int .i64 l, .int .i64 h, .int .i64 d], .int .i64 v, .int .i64 u, .int .i64 i] w fun e w' => e = .returned (.bool true) ∧ Below w.heap.size w w' := by
  have HN := Lib.hid (show Below w.heap.size w (w.alloc (.cells #[.int .i64 l, .int .i64 h, .int .i64 d] 23)) from (Below.refl _ _).alloc (Nat.le_refl _) _)
  have HB := Lib.hid (Below.refl (w.alloc (.cells #[.int .i64 l, .int .i64 h, .int .i64 d] 23)).heap.size (w.alloc (.cells #[.int .i64 l, .int .i64 h, .int .i64 d] 23)))
  obtain ⟨c0, c1, c2⟩ := box3 HB.out
  have HR := Lib.hid r
  have HV := Lib.hid (show v < 0 ∨ h < v from .inl hv)
  clear r
  go_enter Try.func5, Try.ntmps5
  go_wp2_with (first
    | (go_at_call 18; (with_reducible refine (begins_any _).mono ?_); rintro e wx ⟨rfl, hb⟩; have HB := Lib.hid (two_stay HB hb); clear hb; clear c0 c1 c2; obtain ⟨c0, c1, c2⟩ := box3 HB.out)
    | (go_at_call 11; (with_reducible refine (count_in HR.out _).mono ?_); rintro e wx ⟨rfl, hb⟩; have HB := Lib.hid (two_stay HB hb); clear hb; clear c0 c1 c2; obtain ⟨c0, c1, c2⟩ := box3 HB.out)
    | (go_at_call 14; (with_reducible refine (sindex_out HR.out HV.out _).mono ?_); rintro e wx ⟨rfl, hb⟩; have HB := Lib.hid (two_stay HB hb); clear hb; clear c0 c1 c2; obtain ⟨c0, c1, c2⟩ := box3 HB.out))
  go_ret
  exact ⟨rfl, HN.out.trans (HB.out.mono (by simp))⟩
theorem parts_out2 {l h d v u i : Int} (r : rightB l h d = true) (hv0 : 0 ≤ v) (hv : h < v) (w : World) : Calls Try.prog 5 #[.agg #[.int .i64 l, .int .i64 h, .int .i64 d], .int .i64 v, .int .i64 u, .int .i64 i] w fun e w' => e = .returned (.bool true) ∧ Below w.heap.size w w' := by
  have HN := Lib.hid (show Below w.heap.size w (w.alloc (.cells #[.int .i64 l, .int .i64 h, .int .i64 d] 23)) from (Below.refl _ _).alloc (Nat.le_refl _) _)
  have HB := Lib.hid (Below.refl (w.alloc (.cells #[.int .i64 l, .int .i64 h, .int .i64 d] 23)).heap.size (w.alloc (.cells #[.int .i64 l, .int .i64 h, .int .i64 d] 23)))
  obtain ⟨c0, c1, c2⟩ := box3 HB.out
  have HR := Lib.hid r
  have HV := Lib.hid (show v < 0 ∨ h < v from .inr hv)
  clear r
  go_enter Try.func5, Try.ntmps5
  go_wp2_with (first
    | (go_at_call 18; (with_reducible refine (begins_any _).mono ?_); rintro e wx ⟨rfl, hb⟩; have HB := Lib.hid (two_stay HB hb); clear hb; clear c0 c1 c2; obtain ⟨c0, c1, c2⟩ := box3 HB.out)
    | (go_at_call 11; (with_reducible refine (count_in HR.out _).mono ?_); rintro e wx ⟨rfl, hb⟩; have HB := Lib.hid (two_stay HB hb); clear hb; clear c0 c1 c2; obtain ⟨c0, c1, c2⟩ := box3 HB.out)
    | (go_at_call 14; (with_reducible refine (sindex_out HR.out HV.out _).mono ?_); rintro e wx ⟨rfl, hb⟩; have HB := Lib.hid (two_stay HB hb); clear hb; clear c0 c1 c2; obtain ⟨c0, c1, c2⟩ := box3 HB.out))
  go_ret
  exact ⟨rfl, HN.out.trans (HB.out.mono (by simp))⟩
end Go.Proofs.Ytaeffkgnfbomdaa
