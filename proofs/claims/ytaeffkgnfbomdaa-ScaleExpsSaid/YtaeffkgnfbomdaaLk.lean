/- THE WALK of the law 'ScaleExact': where something is refused, or 0. -/
import Derived.Test.YtaeffkgnfbomdaaLi
namespace Go.Proofs.Ytaeffkgnfbomdaa
open Go.RowKit
set_option maxRecDepth 100000
theorem keep {W w4 : World} {o' : Obj} (H : Below W.heap.size W w4) {k o : Nat} {x : Value} (h : W.cell? ⟨k, o, none⟩ = some x) : w4.cell? ⟨k, o, none⟩ = some x ∧ (w4.alloc o').cell? ⟨k, o, none⟩ = some x := by
  have hk : k < W.heap.size := World.block_lt_of_cell? _ _ h
  have h1 : w4.cell? ⟨k, o, none⟩ = some x := (H.cell (p := ⟨k, o, none⟩) hk).trans h
  have hk2 : k < w4.heap.size := World.block_lt_of_cell? _ _ h1
  exact ⟨h1, (((Below.refl _ _).alloc (Nat.le_refl _) o' : Below w4.heap.size w4 (w4.alloc o')).cell (p := ⟨k, o, none⟩) hk2).trans h1⟩
theorem new2 (w : World) (x y : Value) : (w.alloc (.cells #[x, y] 37)).cell? ⟨w.heap.size, 0, none⟩ = some x ∧ (w.alloc (.cells #[x, y] 37)).cell? ⟨w.heap.size, 1, none⟩ = some y := ⟨by simp [go_sem], by simp [go_sem]⟩
theorem grow2 {B0 : Nat} {w w1 w2 : World} {o : Obj} (h1 : Below B0 w w1) (hB : B0 ≤ w.heap.size) (h2 : Below w1.heap.size w1 w2) : Below B0 w (w2.alloc o) := by
  have hs := h1.size
  have h3 : Below B0 w w2 := h1.trans (h2.mono (by omega))
  have hs2 := h3.size
  exact h3.alloc (by omega) o
theorem ex_bad1 {s : Int} {xb yb : Nat} {e1 y0 y1 ey : Int} (he : (e1 == 0) = false) (HX : Hid (∀ w, Calls Try.prog 19 #[.int .i64 s, .float .f64 xb] w fun e w' => e = .returned (.tuple #[.agg #[.int .i64 0, .int .i64 0], .int .i64 e1]) ∧ Below w.heap.size w w')) (HY : Hid (∀ w, Calls Try.prog 19 #[.int .i64 s, .float .f64 yb] w fun e w' => e = .returned (.tuple #[.agg #[.int .i64 y0, .int .i64 y1], .int .i64 ey]) ∧ Below w.heap.size w w')) (w : World) : Calls Try.prog 7 #[.int .i64 s, .float .f64 xb, .float .f64 yb] w fun e w' => e = .returned (.bool true) ∧ Below w.heap.size w w' := by
  go_enter Try.func7, Try.ntmps7
  go_wp2_with (first
    | (go_at_call 18; (refine (begins_any _).mono ?_); rintro e w1 ⟨rfl, hb⟩; have HB1 := Lib.hid hb; clear hb)
    | (go_at_call 19; ((with_reducible refine (HX.out _).mono ?_); rintro e w2 ⟨rfl, hb⟩; have HB2 := Lib.hid (grow2 (o := .cells #[.int .i64 0, .int .i64 0] 37) HB1.out (Nat.le_refl _) hb); obtain ⟨a0, a1⟩ := new2 w2 (.int .i64 0) (.int .i64 0); clear hb))
    | (go_at_call 19; ((with_reducible refine (HY.out _).mono ?_); rintro e w3 ⟨rfl, hb⟩; have HB3 := Lib.hid (grow2 (o := .cells #[.int .i64 y0, .int .i64 y1] 37) HB2.out (Nat.le_refl _) hb); have a2 := (keep (o' := .cells #[.int .i64 y0, .int .i64 y1] 37) hb a0).2; have a3 := (keep (o' := .cells #[.int .i64 y0, .int .i64 y1] 37) hb a1).2; clear a0 a1; obtain ⟨b0, b1⟩ := new2 w3 (.int .i64 y0) (.int .i64 y1); clear hb)))
  all_goals
    go_ret
    exact ⟨rfl, HB3.out⟩
theorem ex_bad2 {s : Int} {xb yb : Nat} {x0 x1 : Int} (HX : Hid (∀ w, Calls Try.prog 19 #[.int .i64 s, .float .f64 xb] w fun e w' => e = .returned (.tuple #[.agg #[.int .i64 x0, .int .i64 x1], .int .i64 0]) ∧ Below w.heap.size w w')) (HY : Hid (∀ w, Calls Try.prog 19 #[.int .i64 s, .float .f64 yb] w fun e w' => e = .returned (.tuple #[.agg #[.int .i64 0, .int .i64 0], .int .i64 81]) ∧ Below w.heap.size w w')) (w : World) : Calls Try.prog 7 #[.int .i64 s, .float .f64 xb, .float .f64 yb] w fun e w' => e = .returned (.bool true) ∧ Below w.heap.size w w' := by
  go_enter Try.func7, Try.ntmps7
  go_wp2_with (first
    | (go_at_call 18; (refine (begins_any _).mono ?_); rintro e w1 ⟨rfl, hb⟩; have HB1 := Lib.hid hb; clear hb)
    | (go_at_call 19; ((with_reducible refine (HX.out _).mono ?_); rintro e w2 ⟨rfl, hb⟩; have HB2 := Lib.hid (grow2 (o := .cells #[.int .i64 x0, .int .i64 x1] 37) HB1.out (Nat.le_refl _) hb); obtain ⟨a0, a1⟩ := new2 w2 (.int .i64 x0) (.int .i64 x1); clear hb))
    | (go_at_call 19; ((with_reducible refine (HY.out _).mono ?_); rintro e w3 ⟨rfl, hb⟩; have HB3 := Lib.hid (grow2 (o := .cells #[.int .i64 0, .int .i64 0] 37) HB2.out (Nat.le_refl _) hb); have a2 := (keep (o' := .cells #[.int .i64 0, .int .i64 0] 37) hb a0).2; have a3 := (keep (o' := .cells #[.int .i64 0, .int .i64 0] 37) hb a1).2; clear a0 a1; obtain ⟨b0, b1⟩ := new2 w3 (.int .i64 0) (.int .i64 0); clear hb)))
  all_goals
    go_ret
    exact ⟨rfl, HB3.out⟩
theorem ex_zero {s : Int} {xb yb nxb d : Nat} {y0 y1 : Int} (HX : Hid (∀ w, Calls Try.prog 19 #[.int .i64 s, .float .f64 xb] w fun e w' => e = .returned (.tuple #[.agg #[.int .i64 0, .int .i64 0], .int .i64 0]) ∧ Below w.heap.size w w')) (HY : Hid (∀ w, Calls Try.prog 19 #[.int .i64 s, .float .f64 yb] w fun e w' => e = .returned (.tuple #[.agg #[.int .i64 y0, .int .i64 y1], .int .i64 0]) ∧ Below w.heap.size w w')) (HC : Hid (∀ w, Calls Try.prog 19 #[.int .i64 s, .float .f64 nxb] w fun e w' => e = .returned (.tuple #[.agg #[.int .i64 0, .int .i64 0], .int .i64 0]) ∧ Below w.heap.size w w'))
    (hn : Op.unary .neg (.float .f64 xb) = pure (.float .f64 nxb)) (HP : Hid (∀ w, Calls Try.prog 28 #[.float .f64 xb] w fun e w' => e = .returned (.float .f64 0) ∧ w = w')) (HQ : Hid (∀ w, Calls Try.prog 28 #[.float .f64 yb] w fun e w' => e = .returned (.float .f64 d) ∧ w = w'))
    (w : World) : Calls Try.prog 7 #[.int .i64 s, .float .f64 xb, .float .f64 yb] w fun e w' => e = .returned (.bool true) ∧ Below w.heap.size w w' := by
  have h00 : FloatKind.f64.format.order 0 0 = some .eq := FL.order_eq (by omega)
  go_enter Try.func7, Try.ntmps7
  go_wp2_with (first
    | (go_at_call 18; (refine (begins_any _).mono ?_); rintro e w1 ⟨rfl, hb⟩; have HB1 := Lib.hid hb; clear hb)
    | (go_at_call 19; ((with_reducible refine (HX.out _).mono ?_); rintro e w2 ⟨rfl, hb⟩; have HB2 := Lib.hid (grow2 (o := .cells #[.int .i64 0, .int .i64 0] 37) HB1.out (Nat.le_refl _) hb); obtain ⟨a0, a1⟩ := new2 w2 (.int .i64 0) (.int .i64 0); clear hb))
    | (go_at_call 19; ((with_reducible refine (HY.out _).mono ?_); rintro e w3 ⟨rfl, hb⟩; have HB3 := Lib.hid (grow2 (o := .cells #[.int .i64 y0, .int .i64 y1] 37) HB2.out (Nat.le_refl _) hb); have a2 := (keep (o' := .cells #[.int .i64 y0, .int .i64 y1] 37) hb a0).2; have a3 := (keep (o' := .cells #[.int .i64 y0, .int .i64 y1] 37) hb a1).2; clear a0 a1; obtain ⟨b0, b1⟩ := new2 w3 (.int .i64 y0) (.int .i64 y1); clear hb))
    | (go_at_call 19; ((with_reducible refine (HC.out _).mono ?_); rintro e w4 ⟨rfl, hb⟩; have HB4 := Lib.hid (grow2 (o := .cells #[.int .i64 0, .int .i64 0] 37) HB3.out (Nat.le_refl _) hb); have a4 := (keep (o' := .cells #[.int .i64 0, .int .i64 0] 37) hb a2).2; have a5 := (keep (o' := .cells #[.int .i64 0, .int .i64 0] 37) hb a3).2; have b4 := (keep (o' := .cells #[.int .i64 0, .int .i64 0] 37) hb b0).2; have b5 := (keep (o' := .cells #[.int .i64 0, .int .i64 0] 37) hb b1).2; clear a2 a3 b0 b1; obtain ⟨e0, e1⟩ := new2 w4 (.int .i64 0) (.int .i64 0); clear hb))
    | (go_at_call 28; ((with_reducible refine (HP.out _).mono ?_); rintro e wx ⟨rfl, rfl⟩))
    | (go_at_call 28; ((with_reducible refine (HQ.out _).mono ?_); rintro e wx ⟨rfl, rfl⟩)))
  go_ret
  exact ⟨rfl, HB4.out⟩
end Go.Proofs.Ytaeffkgnfbomdaa
