/- THE WALK of the law 'ScaleExact': of a float above 0. -/
import Derived.Test.YtaeffkgnfbomdaaLk
namespace Go.Proofs.Ytaeffkgnfbomdaa
open Go.RowKit
set_option maxRecDepth 100000
set_option maxHeartbeats 4000000 in
theorem ex_p_z {s : Int} {xb yb nxb c d u v : Nat} {A B sy : Int} (hA1 : -1000000 ≤ A) (hA2 : A ≤ 1000000) (HX : Hid (∀ w, Calls Try.prog 19 #[.int .i64 s, .float .f64 xb] w fun e w' => e = .returned (.tuple #[.agg #[.int .i64 1, .int .i64 A], .int .i64 0]) ∧ Below w.heap.size w w')) (HY : Hid (∀ w, Calls Try.prog 19 #[.int .i64 s, .float .f64 yb] w fun e w' => e = .returned (.tuple #[.agg #[.int .i64 sy, .int .i64 B], .int .i64 0]) ∧ Below w.heap.size w w')) (HC : Hid (∀ w, Calls Try.prog 19 #[.int .i64 s, .float .f64 nxb] w fun e w' => e = .returned (.tuple #[.agg #[.int .i64 (-1), .int .i64 A], .int .i64 0]) ∧ Below w.heap.size w w'))
    (hn : Op.unary .neg (.float .f64 xb) = pure (.float .f64 nxb)) (HP : Hid (∀ w, Calls Try.prog 28 #[.float .f64 xb] w fun e w' => e = .returned (.float .f64 c) ∧ w = w')) (HQ : Hid (∀ w, Calls Try.prog 28 #[.float .f64 yb] w fun e w' => e = .returned (.float .f64 d) ∧ w = w'))
    (ox : FloatKind.f64.format.order xb 0 = some .gt) (op : FloatKind.f64.format.order c 0 = some .gt) (oq : FloatKind.f64.format.order d 0 = some .eq)
    (HU : Hid (∀ w, Calls Try.prog 23 #[.int .i64 s, .int .i64 A] w fun e w' => e = .returned (.tuple #[.float .f64 u, .int .i64 0]) ∧ Below w.heap.size w w'))
    (HV : Hid (∀ w, Calls Try.prog 23 #[.int .i64 s, .int .i64 (A - 1)] w fun e w' => e = .returned (.tuple #[.float .f64 v, .int .i64 0]) ∧ Below w.heap.size w w'))
    (ou : (FloatKind.f64.format.order c u == some .lt || FloatKind.f64.format.order c u == some .eq) = true) (ov : FloatKind.f64.format.order v c = some .lt)
    (w : World) : Calls Try.prog 7 #[.int .i64 s, .float .f64 xb, .float .f64 yb] w fun e w' => e = .returned (.bool true) ∧ Below w.heap.size w w' := by
  go_enter Try.func7, Try.ntmps7
  go_wp2_with (first
    | (go_at_call 18; (refine (begins_any _).mono ?_); rintro e w1 ⟨rfl, hb⟩; have HB1 := Lib.hid hb; clear hb)
    | (go_at_call 19; ((with_reducible refine (HX.out _).mono ?_); rintro e w2 ⟨rfl, hb⟩; have HB2 := Lib.hid (grow2 (o := .cells #[.int .i64 1, .int .i64 A] 37) HB1.out (Nat.le_refl _) hb); obtain ⟨a0, a1⟩ := new2 w2 (.int .i64 1) (.int .i64 A); clear hb))
    | (go_at_call 19; ((with_reducible refine (HY.out _).mono ?_); rintro e w3 ⟨rfl, hb⟩; have HB3 := Lib.hid (grow2 (o := .cells #[.int .i64 sy, .int .i64 B] 37) HB2.out (Nat.le_refl _) hb); have a2 := (keep (o' := .cells #[.int .i64 sy, .int .i64 B] 37) hb a0).2; have a3 := (keep (o' := .cells #[.int .i64 sy, .int .i64 B] 37) hb a1).2; clear a0 a1; obtain ⟨b0, b1⟩ := new2 w3 (.int .i64 sy) (.int .i64 B); clear hb))
    | (go_at_call 19; ((with_reducible refine (HC.out _).mono ?_); rintro e w4 ⟨rfl, hb⟩; have HB4 := Lib.hid (grow2 (o := .cells #[.int .i64 (-1), .int .i64 A] 37) HB3.out (Nat.le_refl _) hb); have a4 := (keep (o' := .cells #[.int .i64 (-1), .int .i64 A] 37) hb a2).2; have a5 := (keep (o' := .cells #[.int .i64 (-1), .int .i64 A] 37) hb a3).2; have b4 := (keep (o' := .cells #[.int .i64 (-1), .int .i64 A] 37) hb b0).2; have b5 := (keep (o' := .cells #[.int .i64 (-1), .int .i64 A] 37) hb b1).2; clear a2 a3 b0 b1; obtain ⟨e0, e1⟩ := new2 w4 (.int .i64 (-1)) (.int .i64 A); clear hb))
    | (go_at_call 28; ((with_reducible refine (HP.out _).mono ?_); rintro e wx ⟨rfl, rfl⟩))
    | (go_at_call 28; ((with_reducible refine (HQ.out _).mono ?_); rintro e wx ⟨rfl, rfl⟩))
    | (go_at_call 23; ((with_reducible refine (HU.out _).mono ?_); rintro e w5 ⟨rfl, hb⟩; have a6 := (keep (o' := .cells #[] 37) hb a4).1; have a7 := (keep (o' := .cells #[] 37) hb a5).1; have HB5 := Lib.hid (HB4.out.trans (hb.mono (by have := HB4.out.size; simpa using this))); clear hb a4 a5 b4 b5 e0 e1))
    | (go_at_call 23; ((with_reducible refine (HV.out _).mono ?_); rintro e w6 ⟨rfl, hb⟩; have HB6 := Lib.hid (HB5.out.trans (hb.mono HB5.out.size)); clear hb)))
  go_ret
  exact ⟨rfl, HB6.out⟩
set_option maxHeartbeats 4000000 in
theorem ex_p_lt {s : Int} {xb yb nxb c d u v : Nat} {A B sy : Int} (hA1 : -1000000 ≤ A) (hA2 : A ≤ 1000000) (HX : Hid (∀ w, Calls Try.prog 19 #[.int .i64 s, .float .f64 xb] w fun e w' => e = .returned (.tuple #[.agg #[.int .i64 1, .int .i64 A], .int .i64 0]) ∧ Below w.heap.size w w')) (HY : Hid (∀ w, Calls Try.prog 19 #[.int .i64 s, .float .f64 yb] w fun e w' => e = .returned (.tuple #[.agg #[.int .i64 sy, .int .i64 B], .int .i64 0]) ∧ Below w.heap.size w w')) (HC : Hid (∀ w, Calls Try.prog 19 #[.int .i64 s, .float .f64 nxb] w fun e w' => e = .returned (.tuple #[.agg #[.int .i64 (-1), .int .i64 A], .int .i64 0]) ∧ Below w.heap.size w w'))
    (hn : Op.unary .neg (.float .f64 xb) = pure (.float .f64 nxb)) (HP : Hid (∀ w, Calls Try.prog 28 #[.float .f64 xb] w fun e w' => e = .returned (.float .f64 c) ∧ w = w')) (HQ : Hid (∀ w, Calls Try.prog 28 #[.float .f64 yb] w fun e w' => e = .returned (.float .f64 d) ∧ w = w'))
    (ox : FloatKind.f64.format.order xb 0 = some .gt) (op : FloatKind.f64.format.order c 0 = some .gt) (oq : FloatKind.f64.format.order d 0 = some .gt) (opq : FloatKind.f64.format.order c d = some .lt) (hAB : A ≤ B)
    (HU : Hid (∀ w, Calls Try.prog 23 #[.int .i64 s, .int .i64 A] w fun e w' => e = .returned (.tuple #[.float .f64 u, .int .i64 0]) ∧ Below w.heap.size w w'))
    (HV : Hid (∀ w, Calls Try.prog 23 #[.int .i64 s, .int .i64 (A - 1)] w fun e w' => e = .returned (.tuple #[.float .f64 v, .int .i64 0]) ∧ Below w.heap.size w w'))
    (ou : (FloatKind.f64.format.order c u == some .lt || FloatKind.f64.format.order c u == some .eq) = true) (ov : FloatKind.f64.format.order v c = some .lt)
    (w : World) : Calls Try.prog 7 #[.int .i64 s, .float .f64 xb, .float .f64 yb] w fun e w' => e = .returned (.bool true) ∧ Below w.heap.size w w' := by
  go_enter Try.func7, Try.ntmps7
  go_wp2_with (first
    | (go_at_call 18; (refine (begins_any _).mono ?_); rintro e w1 ⟨rfl, hb⟩; have HB1 := Lib.hid hb; clear hb)
    | (go_at_call 19; ((with_reducible refine (HX.out _).mono ?_); rintro e w2 ⟨rfl, hb⟩; have HB2 := Lib.hid (grow2 (o := .cells #[.int .i64 1, .int .i64 A] 37) HB1.out (Nat.le_refl _) hb); obtain ⟨a0, a1⟩ := new2 w2 (.int .i64 1) (.int .i64 A); clear hb))
    | (go_at_call 19; ((with_reducible refine (HY.out _).mono ?_); rintro e w3 ⟨rfl, hb⟩; have HB3 := Lib.hid (grow2 (o := .cells #[.int .i64 sy, .int .i64 B] 37) HB2.out (Nat.le_refl _) hb); have a2 := (keep (o' := .cells #[.int .i64 sy, .int .i64 B] 37) hb a0).2; have a3 := (keep (o' := .cells #[.int .i64 sy, .int .i64 B] 37) hb a1).2; clear a0 a1; obtain ⟨b0, b1⟩ := new2 w3 (.int .i64 sy) (.int .i64 B); clear hb))
    | (go_at_call 19; ((with_reducible refine (HC.out _).mono ?_); rintro e w4 ⟨rfl, hb⟩; have HB4 := Lib.hid (grow2 (o := .cells #[.int .i64 (-1), .int .i64 A] 37) HB3.out (Nat.le_refl _) hb); have a4 := (keep (o' := .cells #[.int .i64 (-1), .int .i64 A] 37) hb a2).2; have a5 := (keep (o' := .cells #[.int .i64 (-1), .int .i64 A] 37) hb a3).2; have b4 := (keep (o' := .cells #[.int .i64 (-1), .int .i64 A] 37) hb b0).2; have b5 := (keep (o' := .cells #[.int .i64 (-1), .int .i64 A] 37) hb b1).2; clear a2 a3 b0 b1; obtain ⟨e0, e1⟩ := new2 w4 (.int .i64 (-1)) (.int .i64 A); clear hb))
    | (go_at_call 28; ((with_reducible refine (HP.out _).mono ?_); rintro e wx ⟨rfl, rfl⟩))
    | (go_at_call 28; ((with_reducible refine (HQ.out _).mono ?_); rintro e wx ⟨rfl, rfl⟩))
    | (go_at_call 23; ((with_reducible refine (HU.out _).mono ?_); rintro e w5 ⟨rfl, hb⟩; have a6 := (keep (o' := .cells #[] 37) hb a4).1; have a7 := (keep (o' := .cells #[] 37) hb a5).1; have HB5 := Lib.hid (HB4.out.trans (hb.mono (by have := HB4.out.size; simpa using this))); clear hb a4 a5 b4 b5 e0 e1))
    | (go_at_call 23; ((with_reducible refine (HV.out _).mono ?_); rintro e w6 ⟨rfl, hb⟩; have HB6 := Lib.hid (HB5.out.trans (hb.mono HB5.out.size)); clear hb)))
  go_ret
  exact ⟨rfl, HB6.out⟩
set_option maxHeartbeats 4000000 in
theorem ex_p_eq {s : Int} {xb yb nxb c d u v : Nat} {A sy : Int} (hA1 : -1000000 ≤ A) (hA2 : A ≤ 1000000) (HX : Hid (∀ w, Calls Try.prog 19 #[.int .i64 s, .float .f64 xb] w fun e w' => e = .returned (.tuple #[.agg #[.int .i64 1, .int .i64 A], .int .i64 0]) ∧ Below w.heap.size w w')) (HY : Hid (∀ w, Calls Try.prog 19 #[.int .i64 s, .float .f64 yb] w fun e w' => e = .returned (.tuple #[.agg #[.int .i64 sy, .int .i64 A], .int .i64 0]) ∧ Below w.heap.size w w')) (HC : Hid (∀ w, Calls Try.prog 19 #[.int .i64 s, .float .f64 nxb] w fun e w' => e = .returned (.tuple #[.agg #[.int .i64 (-1), .int .i64 A], .int .i64 0]) ∧ Below w.heap.size w w'))
    (hn : Op.unary .neg (.float .f64 xb) = pure (.float .f64 nxb)) (HP : Hid (∀ w, Calls Try.prog 28 #[.float .f64 xb] w fun e w' => e = .returned (.float .f64 c) ∧ w = w')) (HQ : Hid (∀ w, Calls Try.prog 28 #[.float .f64 yb] w fun e w' => e = .returned (.float .f64 d) ∧ w = w'))
    (ox : FloatKind.f64.format.order xb 0 = some .gt) (op : FloatKind.f64.format.order c 0 = some .gt) (oq : FloatKind.f64.format.order d 0 = some .gt) (opq : FloatKind.f64.format.order c d = some .eq)
    (HU : Hid (∀ w, Calls Try.prog 23 #[.int .i64 s, .int .i64 A] w fun e w' => e = .returned (.tuple #[.float .f64 u, .int .i64 0]) ∧ Below w.heap.size w w'))
    (HV : Hid (∀ w, Calls Try.prog 23 #[.int .i64 s, .int .i64 (A - 1)] w fun e w' => e = .returned (.tuple #[.float .f64 v, .int .i64 0]) ∧ Below w.heap.size w w'))
    (ou : (FloatKind.f64.format.order c u == some .lt || FloatKind.f64.format.order c u == some .eq) = true) (ov : FloatKind.f64.format.order v c = some .lt)
    (w : World) : Calls Try.prog 7 #[.int .i64 s, .float .f64 xb, .float .f64 yb] w fun e w' => e = .returned (.bool true) ∧ Below w.heap.size w w' := by
  go_enter Try.func7, Try.ntmps7
  go_wp2_with (first
    | (go_at_call 18; (refine (begins_any _).mono ?_); rintro e w1 ⟨rfl, hb⟩; have HB1 := Lib.hid hb; clear hb)
    | (go_at_call 19; ((with_reducible refine (HX.out _).mono ?_); rintro e w2 ⟨rfl, hb⟩; have HB2 := Lib.hid (grow2 (o := .cells #[.int .i64 1, .int .i64 A] 37) HB1.out (Nat.le_refl _) hb); obtain ⟨a0, a1⟩ := new2 w2 (.int .i64 1) (.int .i64 A); clear hb))
    | (go_at_call 19; ((with_reducible refine (HY.out _).mono ?_); rintro e w3 ⟨rfl, hb⟩; have HB3 := Lib.hid (grow2 (o := .cells #[.int .i64 sy, .int .i64 A] 37) HB2.out (Nat.le_refl _) hb); have a2 := (keep (o' := .cells #[.int .i64 sy, .int .i64 A] 37) hb a0).2; have a3 := (keep (o' := .cells #[.int .i64 sy, .int .i64 A] 37) hb a1).2; clear a0 a1; obtain ⟨b0, b1⟩ := new2 w3 (.int .i64 sy) (.int .i64 A); clear hb))
    | (go_at_call 19; ((with_reducible refine (HC.out _).mono ?_); rintro e w4 ⟨rfl, hb⟩; have HB4 := Lib.hid (grow2 (o := .cells #[.int .i64 (-1), .int .i64 A] 37) HB3.out (Nat.le_refl _) hb); have a4 := (keep (o' := .cells #[.int .i64 (-1), .int .i64 A] 37) hb a2).2; have a5 := (keep (o' := .cells #[.int .i64 (-1), .int .i64 A] 37) hb a3).2; have b4 := (keep (o' := .cells #[.int .i64 (-1), .int .i64 A] 37) hb b0).2; have b5 := (keep (o' := .cells #[.int .i64 (-1), .int .i64 A] 37) hb b1).2; clear a2 a3 b0 b1; obtain ⟨e0, e1⟩ := new2 w4 (.int .i64 (-1)) (.int .i64 A); clear hb))
    | (go_at_call 28; ((with_reducible refine (HP.out _).mono ?_); rintro e wx ⟨rfl, rfl⟩))
    | (go_at_call 28; ((with_reducible refine (HQ.out _).mono ?_); rintro e wx ⟨rfl, rfl⟩))
    | (go_at_call 23; ((with_reducible refine (HU.out _).mono ?_); rintro e w5 ⟨rfl, hb⟩; have a6 := (keep (o' := .cells #[] 37) hb a4).1; have a7 := (keep (o' := .cells #[] 37) hb a5).1; have HB5 := Lib.hid (HB4.out.trans (hb.mono (by have := HB4.out.size; simpa using this))); clear hb a4 a5 b4 b5 e0 e1))
    | (go_at_call 23; ((with_reducible refine (HV.out _).mono ?_); rintro e w6 ⟨rfl, hb⟩; have HB6 := Lib.hid (HB5.out.trans (hb.mono HB5.out.size)); clear hb)))
  go_ret
  exact ⟨rfl, HB6.out⟩
set_option maxHeartbeats 4000000 in
theorem ex_p_gt {s : Int} {xb yb nxb c d u v : Nat} {A B sy : Int} (hA1 : -1000000 ≤ A) (hA2 : A ≤ 1000000) (HX : Hid (∀ w, Calls Try.prog 19 #[.int .i64 s, .float .f64 xb] w fun e w' => e = .returned (.tuple #[.agg #[.int .i64 1, .int .i64 A], .int .i64 0]) ∧ Below w.heap.size w w')) (HY : Hid (∀ w, Calls Try.prog 19 #[.int .i64 s, .float .f64 yb] w fun e w' => e = .returned (.tuple #[.agg #[.int .i64 sy, .int .i64 B], .int .i64 0]) ∧ Below w.heap.size w w')) (HC : Hid (∀ w, Calls Try.prog 19 #[.int .i64 s, .float .f64 nxb] w fun e w' => e = .returned (.tuple #[.agg #[.int .i64 (-1), .int .i64 A], .int .i64 0]) ∧ Below w.heap.size w w'))
    (hn : Op.unary .neg (.float .f64 xb) = pure (.float .f64 nxb)) (HP : Hid (∀ w, Calls Try.prog 28 #[.float .f64 xb] w fun e w' => e = .returned (.float .f64 c) ∧ w = w')) (HQ : Hid (∀ w, Calls Try.prog 28 #[.float .f64 yb] w fun e w' => e = .returned (.float .f64 d) ∧ w = w'))
    (ox : FloatKind.f64.format.order xb 0 = some .gt) (op : FloatKind.f64.format.order c 0 = some .gt) (oq : FloatKind.f64.format.order d 0 = some .gt) (opq : FloatKind.f64.format.order c d = some .gt) (hAB : B ≤ A)
    (HU : Hid (∀ w, Calls Try.prog 23 #[.int .i64 s, .int .i64 A] w fun e w' => e = .returned (.tuple #[.float .f64 u, .int .i64 0]) ∧ Below w.heap.size w w'))
    (HV : Hid (∀ w, Calls Try.prog 23 #[.int .i64 s, .int .i64 (A - 1)] w fun e w' => e = .returned (.tuple #[.float .f64 v, .int .i64 0]) ∧ Below w.heap.size w w'))
    (ou : (FloatKind.f64.format.order c u == some .lt || FloatKind.f64.format.order c u == some .eq) = true) (ov : FloatKind.f64.format.order v c = some .lt)
    (w : World) : Calls Try.prog 7 #[.int .i64 s, .float .f64 xb, .float .f64 yb] w fun e w' => e = .returned (.bool true) ∧ Below w.heap.size w w' := by
  go_enter Try.func7, Try.ntmps7
  go_wp2_with (first
    | (go_at_call 18; (refine (begins_any _).mono ?_); rintro e w1 ⟨rfl, hb⟩; have HB1 := Lib.hid hb; clear hb)
    | (go_at_call 19; ((with_reducible refine (HX.out _).mono ?_); rintro e w2 ⟨rfl, hb⟩; have HB2 := Lib.hid (grow2 (o := .cells #[.int .i64 1, .int .i64 A] 37) HB1.out (Nat.le_refl _) hb); obtain ⟨a0, a1⟩ := new2 w2 (.int .i64 1) (.int .i64 A); clear hb))
    | (go_at_call 19; ((with_reducible refine (HY.out _).mono ?_); rintro e w3 ⟨rfl, hb⟩; have HB3 := Lib.hid (grow2 (o := .cells #[.int .i64 sy, .int .i64 B] 37) HB2.out (Nat.le_refl _) hb); have a2 := (keep (o' := .cells #[.int .i64 sy, .int .i64 B] 37) hb a0).2; have a3 := (keep (o' := .cells #[.int .i64 sy, .int .i64 B] 37) hb a1).2; clear a0 a1; obtain ⟨b0, b1⟩ := new2 w3 (.int .i64 sy) (.int .i64 B); clear hb))
    | (go_at_call 19; ((with_reducible refine (HC.out _).mono ?_); rintro e w4 ⟨rfl, hb⟩; have HB4 := Lib.hid (grow2 (o := .cells #[.int .i64 (-1), .int .i64 A] 37) HB3.out (Nat.le_refl _) hb); have a4 := (keep (o' := .cells #[.int .i64 (-1), .int .i64 A] 37) hb a2).2; have a5 := (keep (o' := .cells #[.int .i64 (-1), .int .i64 A] 37) hb a3).2; have b4 := (keep (o' := .cells #[.int .i64 (-1), .int .i64 A] 37) hb b0).2; have b5 := (keep (o' := .cells #[.int .i64 (-1), .int .i64 A] 37) hb b1).2; clear a2 a3 b0 b1; obtain ⟨e0, e1⟩ := new2 w4 (.int .i64 (-1)) (.int .i64 A); clear hb))
    | (go_at_call 28; ((with_reducible refine (HP.out _).mono ?_); rintro e wx ⟨rfl, rfl⟩))
    | (go_at_call 28; ((with_reducible refine (HQ.out _).mono ?_); rintro e wx ⟨rfl, rfl⟩))
    | (go_at_call 23; ((with_reducible refine (HU.out _).mono ?_); rintro e w5 ⟨rfl, hb⟩; have a6 := (keep (o' := .cells #[] 37) hb a4).1; have a7 := (keep (o' := .cells #[] 37) hb a5).1; have HB5 := Lib.hid (HB4.out.trans (hb.mono (by have := HB4.out.size; simpa using this))); clear hb a4 a5 b4 b5 e0 e1))
    | (go_at_call 23; ((with_reducible refine (HV.out _).mono ?_); rintro e w6 ⟨rfl, hb⟩; have HB6 := Lib.hid (HB5.out.trans (hb.mono HB5.out.size)); clear hb)))
  go_ret
  exact ⟨rfl, HB6.out⟩
end Go.Proofs.Ytaeffkgnfbomdaa
