/- THE WALK of the law 'ScaleCoarser'. -/
import Derived.Test.YtaeffkgnfbomdaaWk
namespace Go.Proofs.Ytaeffkgnfbomdaa
open Go.RowKit
set_option maxRecDepth 100000
theorem boxes2 {w2 w3 : World} {x y x' y' : Value} (H : Below (w2.alloc (.cells #[x, y] 37)).heap.size (w2.alloc (.cells #[x, y] 37)) w3) :
    ((w3.alloc (.cells #[x', y'] 37)).cell? ⟨w2.heap.size, 0, none⟩ = some x ∧ (w3.alloc (.cells #[x', y'] 37)).cell? ⟨w2.heap.size, 1, none⟩ = some y ∧ (w3.alloc (.cells #[x', y'] 37)).cell? ⟨w3.heap.size, 0, none⟩ = some x' ∧ (w3.alloc (.cells #[x', y'] 37)).cell? ⟨w3.heap.size, 1, none⟩ = some y')
    ∧ w2.heap.size < w3.heap.size ∧ (w3.alloc (.cells #[x', y'] 37)).heap.size = w3.heap.size + 1 ∧ Below w2.heap.size w2 (w3.alloc (.cells #[x', y'] 37)) := by
  have hs := H.size
  simp at hs
  have hA : Below w3.heap.size w3 (w3.alloc (.cells #[x', y'] 37)) := (Below.refl _ _).alloc (Nat.le_refl _) _
  refine ⟨⟨?_, ?_, by simp [go_sem], by simp [go_sem]⟩, by omega, by simp, ?_⟩
  · exact (hA.cell (p := ⟨w2.heap.size, 0, none⟩) (by simp; omega)).trans ((H.cell (p := ⟨w2.heap.size, 0, none⟩) (by simp)).trans (by simp [go_sem]))
  · exact (hA.cell (p := ⟨w2.heap.size, 1, none⟩) (by simp; omega)).trans ((H.cell (p := ⟨w2.heap.size, 1, none⟩) (by simp)).trans (by simp [go_sem]))
  · have h1 : Below w2.heap.size w2 (w2.alloc (.cells #[x, y] 37)) := (Below.refl _ _).alloc (Nat.le_refl _) _
    have h2 : Below w2.heap.size w2 w3 := h1.trans (H.mono (by simp))
    exact h2.trans (hA.mono (by omega))
theorem co_x {s : Int} {b : Nat} {sg A B f g e2 : Int} {u v : Nat} (hs1 : -3 ≤ s) (hs2 : s ≤ 8)
    (HX : Hid (∀ w, Calls Try.prog 19 #[.int .i64 s, .float .f64 b] w fun e w' => e = .returned (.tuple #[.agg #[.int .i64 sg, .int .i64 A], .int .i64 0]) ∧ Below w.heap.size w w'))
    (HY : Hid (∀ w, Calls Try.prog 19 #[.int .i64 (s - 1), .float .f64 b] w fun e w' => e = .returned (.tuple #[.agg #[.int .i64 sg, .int .i64 B], .int .i64 0]) ∧ Below w.heap.size w w'))
    (HC : Hid (∀ w, Calls Try.prog 26 #[.int .i64 A] w fun e w' => e = .returned (.int .i64 B) ∧ w = w'))
    (HE : Hid (∀ w, Calls Try.prog 21 #[.int .i64 s] w fun e w' => e = .returned (.tuple #[.int .i64 f, .int .i64 g, .int .i64 0]) ∧ w = w'))
    (HU : Hid (∀ w, Calls Try.prog 23 #[.int .i64 (s - 1), .int .i64 B] w fun e w' => e = .returned (.tuple #[.float .f64 u, .int .i64 0]) ∧ Below w.heap.size w w'))
    (HV : Hid (∀ w, Calls Try.prog 23 #[.int .i64 s, .int .i64 (2 * B)] w fun e w' => e = .returned (.tuple #[.float .f64 v, .int .i64 e2]) ∧ Below w.heap.size w w'))
    (hB1 : -1000000 ≤ B) (hB2 : B ≤ 1000000) (HK : Hid (g < 2 * B ∨ (2 * B ≤ g ∧ e2 = 0 ∧ u = v))) (w : World) : Calls Try.prog 9 #[.int .i64 s, .float .f64 b] w fun e w' => e = .returned (.bool true) ∧ Below w.heap.size w w' := by
  go_enter Try.func9, Try.ntmps9
  go_upto_region 7 with (first
    | (go_at_call 18; (refine (begins_any _).mono ?_); rintro e w1 ⟨rfl, hb⟩; have HB1 := Lib.hid hb; clear hb)
    | (go_at_call 19; ((with_reducible refine (HX.out _).mono ?_); rintro e w2 ⟨rfl, hb⟩; have HB2 := Lib.hid (two_stay HB1 hb); clear hb))
    | (go_at_call 19; ((with_reducible refine (HY.out _).mono ?_); rintro e w3 ⟨rfl, hb⟩; obtain ⟨hc3, hf3⟩ := bcell hb; have hz3 := hb.size; simp at hz3; have HB3 := Lib.hid hb; clear hb)))
  obtain ⟨⟨ca0, ca1, cb0, cb1⟩, hlt, hsz, hbw⟩ := boxes2 (x' := .int .i64 sg) (y' := .int .i64 B) HB3.out
  have HB7 := Lib.hid (two_stay HB2 hbw)
  clear hc3 hf3 hz3 HB3 hbw HB2
  generalize w3.alloc (.cells #[.int .i64 sg, .int .i64 B] 37) = w7 at *
  generalize w2.heap.size = ba at *
  generalize w3.heap.size = bb at *
  go_cut [63] (fun s63 wx => s63 = .bool false ∧ ∃ n, wx = w7.drewN n)
  case first =>
    go_quiet ((go_at_call 26; exact Calls.quiet_of_same ((HC.out _).mono fun _ _ ⟨a, b⟩ => ⟨a, b.symm⟩)))
    go_wp2_with (fail)
    go_meet
    exact ⟨rfl, _, rfl⟩
  case rest =>
    obtain ⟨rfl, n, rfl⟩ := hcut
    rcases HK.out with k1 | ⟨k1, rfl, rfl⟩
    all_goals
      go_wp2_with (first
        | (go_at_call 21; refine (HE.out _).mono ?_; rintro e wx ⟨rfl, rfl⟩)
        | (go_at_call 23; ((with_reducible refine (HU.out _).mono ?_); rintro e w8 ⟨rfl, hb⟩; have q1 : w8.cell? ⟨bb, 1, none⟩ = some (.int .i64 B) := (hb.cell (p := ⟨bb, 1, none⟩) (by simp; omega)).trans (by simpa using cb1); have hz8 := hb.size; simp at hz8; have HB8 := Lib.hid (two_stay HB7 ((Below.drewN' (Below.refl _ _) n).trans hb)); clear hb))
        | (go_at_call 23; ((with_reducible refine (HV.out _).mono ?_); rintro e w9 ⟨rfl, hb⟩; have hrb := run_bits u w9; have r1 : w9.cell? ⟨bb, 1, none⟩ = some (.int .i64 B) := (hb.cell (p := ⟨bb, 1, none⟩) (by simp; omega)).trans (by simpa using q1); have HB9 := Lib.hid (two_stay HB8 hb); clear hb)))
      go_ret
      exact ⟨rfl, HB9.out⟩
theorem co_bad1 {s : Int} {b : Nat} {y0 y1 ey : Int} (h1 : -9223372036854775807 ≤ s) (h2 : s ≤ 9223372036854775807) (HX : Hid (∀ w, Calls Try.prog 19 #[.int .i64 s, .float .f64 b] w fun e w' => e = .returned (.tuple #[.agg #[.int .i64 0, .int .i64 0], .int .i64 2]) ∧ Below w.heap.size w w'))
    (HY : Hid (∀ w, Calls Try.prog 19 #[.int .i64 (s - 1), .float .f64 b] w fun e w' => e = .returned (.tuple #[.agg #[.int .i64 y0, .int .i64 y1], .int .i64 ey]) ∧ Below w.heap.size w w')) (w : World) : Calls Try.prog 9 #[.int .i64 s, .float .f64 b] w fun e w' => e = .returned (.bool true) ∧ Below w.heap.size w w' := by
  go_enter Try.func9, Try.ntmps9
  go_wp2_with (first
    | (go_at_call 18; (refine (begins_any _).mono ?_); rintro e w1 ⟨rfl, hb⟩; have HB1 := Lib.hid hb; clear hb)
    | (go_at_call 19; ((with_reducible refine (HX.out _).mono ?_); rintro e w2 ⟨rfl, hb⟩; have HB2 := Lib.hid (two_stay HB1 hb); clear hb))
    | (go_at_call 19; ((with_reducible refine (HY.out _).mono ?_); rintro e w3 ⟨rfl, hb⟩; obtain ⟨⟨ca0, ca1, cb0, cb1⟩, hlt, hsz, hbw⟩ := boxes2 (x' := .int .i64 y0) (y' := .int .i64 y1) hb; have HB7 := Lib.hid (two_stay HB2 hbw); clear hb hbw)))
  go_ret
  exact ⟨rfl, HB7.out⟩
theorem co_bad0 {b : Nat} {y0 y1 ey : Int}  (HX : Hid (∀ w, Calls Try.prog 19 #[.int .i64 (-9223372036854775808), .float .f64 b] w fun e w' => e = .returned (.tuple #[.agg #[.int .i64 0, .int .i64 0], .int .i64 2]) ∧ Below w.heap.size w w'))
    (HY : Hid (∀ w, Calls Try.prog 19 #[.int .i64 (wrap64 (-9223372036854775809)), .float .f64 b] w fun e w' => e = .returned (.tuple #[.agg #[.int .i64 y0, .int .i64 y1], .int .i64 ey]) ∧ Below w.heap.size w w')) (w : World) : Calls Try.prog 9 #[.int .i64 (-9223372036854775808), .float .f64 b] w fun e w' => e = .returned (.bool true) ∧ Below w.heap.size w w' := by
  go_enter Try.func9, Try.ntmps9
  go_wp2_with (first
    | (go_at_call 18; (refine (begins_any _).mono ?_); rintro e w1 ⟨rfl, hb⟩; have HB1 := Lib.hid hb; clear hb)
    | (go_at_call 19; ((with_reducible refine (HX.out _).mono ?_); rintro e w2 ⟨rfl, hb⟩; have HB2 := Lib.hid (two_stay HB1 hb); clear hb))
    | (go_at_call 19; ((with_reducible refine (HY.out _).mono ?_); rintro e w3 ⟨rfl, hb⟩; obtain ⟨⟨ca0, ca1, cb0, cb1⟩, hlt, hsz, hbw⟩ := boxes2 (x' := .int .i64 y0) (y' := .int .i64 y1) hb; have HB7 := Lib.hid (two_stay HB2 hbw); clear hb hbw)))
  all_goals
    go_ret
    exact ⟨rfl, HB7.out⟩
theorem co_bad2 {b : Nat} {x0 x1 : Int}  (HX : Hid (∀ w, Calls Try.prog 19 #[.int .i64 (-4), .float .f64 b] w fun e w' => e = .returned (.tuple #[.agg #[.int .i64 x0, .int .i64 x1], .int .i64 0]) ∧ Below w.heap.size w w'))
    (HY : Hid (∀ w, Calls Try.prog 19 #[.int .i64 (-5), .float .f64 b] w fun e w' => e = .returned (.tuple #[.agg #[.int .i64 0, .int .i64 0], .int .i64 2]) ∧ Below w.heap.size w w')) (w : World) : Calls Try.prog 9 #[.int .i64 (-4), .float .f64 b] w fun e w' => e = .returned (.bool true) ∧ Below w.heap.size w w' := by
  go_enter Try.func9, Try.ntmps9
  go_wp2_with (first
    | (go_at_call 18; (refine (begins_any _).mono ?_); rintro e w1 ⟨rfl, hb⟩; have HB1 := Lib.hid hb; clear hb)
    | (go_at_call 19; ((with_reducible refine (HX.out _).mono ?_); rintro e w2 ⟨rfl, hb⟩; have HB2 := Lib.hid (two_stay HB1 hb); clear hb))
    | (go_at_call 19; ((with_reducible refine (HY.out _).mono ?_); rintro e w3 ⟨rfl, hb⟩; obtain ⟨⟨ca0, ca1, cb0, cb1⟩, hlt, hsz, hbw⟩ := boxes2 (x' := .int .i64 0) (y' := .int .i64 0) hb; have HB7 := Lib.hid (two_stay HB2 hbw); clear hb hbw)))
  all_goals
    go_ret
    exact ⟨rfl, HB7.out⟩
theorem co_bad3 {s : Int} {b : Nat} {y0 y1 ey : Int} (h1 : -4 ≤ s) (h2 : s ≤ 8) (HX : Hid (∀ w, Calls Try.prog 19 #[.int .i64 s, .float .f64 b] w fun e w' => e = .returned (.tuple #[.agg #[.int .i64 0, .int .i64 0], .int .i64 81]) ∧ Below w.heap.size w w'))
    (HY : Hid (∀ w, Calls Try.prog 19 #[.int .i64 (s - 1), .float .f64 b] w fun e w' => e = .returned (.tuple #[.agg #[.int .i64 y0, .int .i64 y1], .int .i64 ey]) ∧ Below w.heap.size w w')) (w : World) : Calls Try.prog 9 #[.int .i64 s, .float .f64 b] w fun e w' => e = .returned (.bool true) ∧ Below w.heap.size w w' := by
  go_enter Try.func9, Try.ntmps9
  go_wp2_with (first
    | (go_at_call 18; (refine (begins_any _).mono ?_); rintro e w1 ⟨rfl, hb⟩; have HB1 := Lib.hid hb; clear hb)
    | (go_at_call 19; ((with_reducible refine (HX.out _).mono ?_); rintro e w2 ⟨rfl, hb⟩; have HB2 := Lib.hid (two_stay HB1 hb); clear hb))
    | (go_at_call 19; ((with_reducible refine (HY.out _).mono ?_); rintro e w3 ⟨rfl, hb⟩; obtain ⟨⟨ca0, ca1, cb0, cb1⟩, hlt, hsz, hbw⟩ := boxes2 (x' := .int .i64 y0) (y' := .int .i64 y1) hb; have HB7 := Lib.hid (two_stay HB2 hbw); clear hb hbw)))
  all_goals
    go_ret
    exact ⟨rfl, HB7.out⟩
end Go.Proofs.Ytaeffkgnfbomdaa
