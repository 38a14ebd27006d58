/- THE WALKS of the document's Exp, Ends, Upper, Coarser. -/
import Derived.Test.YtaeffkgnfbomdaaWr
import Derived.Test.YtaeffkgnfbomdaaLk
namespace Go.Proofs.Ytaeffkgnfbomdaa
open Go.RowKit
set_option maxRecDepth 100000
theorem refIdx_any {s : Int} {b : Nat} (hs1 : -4 ≤ s) (hs2 : s ≤ 8) (h0 : 0 < b) (h : b < 9218868437227405312) (w : World) : Calls Try.prog 41 #[.int .i64 s, .float .f64 b] w fun e w' => e = .returned (.int .i64 (FL.bk s b)) ∧ Below w.heap.size w w' := by
  by_cases hp : 1 ≤ s
  · obtain ⟨n, rfl⟩ := Int.eq_ofNat_of_zero_le (show 0 ≤ s by omega)
    exact refIdx_p hp hs2 h0 h w
  · obtain rfl | rfl | rfl | rfl | rfl : s = 0 ∨ s = -1 ∨ s = -2 ∨ s = -3 ∨ s = -4 := by omega
    · exact refIdx_m0 h0 h w
    · exact refIdx_m1 h0 h w
    · exact refIdx_m2 h0 h w
    · exact refIdx_m3 h0 h w
    · exact refIdx_m4 h0 h w
theorem refSchema_any (s : Int) (w : World) : Calls Try.prog 40 #[.int .i64 s] w fun e w' => e = .returned (.bool (decide (-4 ≤ s) && decide (s ≤ 8))) ∧ w = w' := by
  go_enter Try.func40, Try.ntmps40
  go_wp2
  all_goals (go_ret; refine ⟨?_, rfl⟩; congr 2; simp; omega)
theorem refCoarser_any (i : Int) (h1 : -9223372036854775808 ≤ i) (h2 : i ≤ 9223372036854775807) (w : World) : Calls Try.prog 27 #[.int .i64 i] w fun e w' => e = .returned (.int .i64 (FL.co i)) ∧ w = w' := by
  rcases Int.lt_or_le i 0 with h | h
  · have ht : i.tdiv 2 = -((-i) / 2) := by rw [← Int.tdiv_eq_ediv_of_nonneg (show 0 ≤ -i by omega), Int.neg_tdiv, Int.neg_neg]
    have hm : (i.tmod 2 == 1) = false := by
      have : i.tmod 2 = -((-i) % 2) := by rw [← Int.tmod_eq_emod_of_nonneg (show 0 ≤ -i by omega), Int.neg_tmod, Int.neg_neg]
      rw [this]; exact beq_false_of_ne (by omega)
    have hr : -((-i) / 2) = FL.co i := by unfold FL.co; omega
    have HR := Lib.hid hr
    clear hr
    go_enter Try.func27, Try.ntmps27
    go_wp2_with (fail)
    go_ret
    exact ⟨ret_int HR.out, rfl⟩
  · have ht : i.tdiv 2 = i / 2 := Int.tdiv_eq_ediv_of_nonneg h
    have hm : i.tmod 2 = i % 2 := Int.tmod_eq_emod_of_nonneg h
    by_cases he : i % 2 = 1
    · have HR := Lib.hid (show i / 2 + 1 = FL.co i by unfold FL.co; omega)
      go_enter Try.func27, Try.ntmps27
      go_wp2_with (fail)
      go_ret
      exact ⟨ret_int HR.out, rfl⟩
    · have HR := Lib.hid (show i / 2 = FL.co i by unfold FL.co; omega)
      have he2 : (i % 2 == 1) = false := beq_false_of_ne he
      clear he
      go_enter Try.func27, Try.ntmps27
      go_wp2_with (fail)
      go_ret
      exact ⟨ret_int HR.out, rfl⟩
theorem refEnds_no {s : Int} (hs : s < -4 ∨ 8 < s) (w : World) : Calls Try.prog 22 #[.int .i64 s] w fun e w' => e = .returned (.tuple #[.int .i64 0, .int .i64 0, .int .i64 2]) ∧ w = w' := by
  have HS := Lib.hid (show (decide (-4 ≤ s) && decide (s ≤ 8)) = false by simp; omega)
  clear hs
  go_enter Try.func22, Try.ntmps22
  go_wp2_with (go_at_call 40; refine (refSchema_any s _).mono ?_; rw [HS.out]; rintro e w' ⟨rfl, rfl⟩)
  go_ret3
  exact ⟨rfl, rfl⟩
theorem refEnds_yes {s : Int} (hs1 : -4 ≤ s) (hs2 : s ≤ 8) (w : World) : Calls Try.prog 22 #[.int .i64 s] w fun e w' => e = .returned (.tuple #[.int .i64 (FL.bk s 1), .int .i64 (FL.bk s 9218868437227405311), .int .i64 0]) ∧ Below w.heap.size w w' := by
  have HS := Lib.hid (show (decide (-4 ≤ s) && decide (s ≤ 8)) = true by simp; omega)
  have H1 := Lib.hid (fun w => refIdx_any (b := 1) hs1 hs2 (by omega) (by omega) w)
  have H2 := Lib.hid (fun w => refIdx_any (b := 9218868437227405311) hs1 hs2 (by omega) (by omega) w)
  clear hs1 hs2
  go_enter Try.func22, Try.ntmps22
  go_wp2_with (first
    | (go_at_call 40; refine (refSchema_any s _).mono ?_; rw [HS.out]; rintro e w' ⟨rfl, rfl⟩)
    | (go_at_call 41; ((with_reducible refine (H1.out _).mono ?_); rintro e w1 ⟨rfl, hb⟩; have HB1 := Lib.hid hb; clear hb))
    | (go_at_call 41; ((with_reducible refine (H2.out _).mono ?_); rintro e w2 ⟨rfl, hb⟩; have HB2 := Lib.hid (two_stay HB1 hb); clear hb)))
  go_ret3
  exact ⟨rfl, HB2.out⟩
theorem and11w (b : Nat) (h : b < 18446744073709551616) : bits .and .u64 ((b : Int) / 4503599627370496) 2047 = ((b / 4503599627370496 % 2048 : Nat) : Int) := by
  have h1 := bits_and_u64_nat (b / 4503599627370496) 2047 (by omega) (by omega)
  have e : b / 4503599627370496 &&& 2047 = b / 4503599627370496 % 2048 := Nat.and_two_pow_sub_one_eq_mod _ 11
  rw [e] at h1
  rw [show (b : Int) / 4503599627370496 = ((b / 4503599627370496 : Nat) : Int) by omega]
  exact h1
theorem refExp_bad {s : Int} {b : Nat} (w : World) (hs : s < -4 ∨ 8 < s) : Calls Try.prog 20 #[.int .i64 s, .float .f64 b] w fun e w' => e = .returned (.tuple #[.agg #[.int .i64 0, .int .i64 0], .int .i64 2]) ∧ Below w.heap.size w w' := by
  have HS := Lib.hid (show (decide (-4 ≤ s) && decide (s ≤ 8)) = false by simp; omega)
  clear hs
  go_enter Try.func20, Try.ntmps20
  go_wp2_with (go_at_call 40; refine (refSchema_any s _).mono ?_; rw [HS.out]; rintro e w' ⟨rfl, rfl⟩)
  exact bodyPost_ret (v := .tuple #[.agg #[.int .i64 0, .int .i64 0], .int .i64 2]) (by simp [results, Try.results20, go_sem]) rfl ⟨rfl, (Below.refl _ _).alloc (Nat.le_refl _) _⟩
theorem refExp_fault {s : Int} {b : Nat} (w : World) (hs1 : -4 ≤ s) (hs2 : s ≤ 8) (h : b < 18446744073709551616) (hb : b / 4503599627370496 % 2048 = 2047) : Calls Try.prog 20 #[.int .i64 s, .float .f64 b] w fun e w' => e = .returned (.tuple #[.agg #[.int .i64 0, .int .i64 0], .int .i64 81]) ∧ Below w.heap.size w w' := by
  have HS := Lib.hid (show (decide (-4 ≤ s) && decide (s ≤ 8)) = true by simp; omega)
  have ha := and11w b h
  rw [hb] at ha
  have hr := run_bits b (w.alloc (.cells #[.int .i64 0, .int .i64 0] 37))
  clear hs1 hs2 h hb
  go_enter Try.func20, Try.ntmps20
  go_wp2_with (go_at_call 40; refine (refSchema_any s _).mono ?_; rw [HS.out]; rintro e w' ⟨rfl, rfl⟩)
  exact bodyPost_ret (v := .tuple #[.agg #[.int .i64 0, .int .i64 0], .int .i64 81]) (by simp [results, Try.results20, go_sem]) rfl ⟨rfl, (Below.refl _ _).alloc (Nat.le_refl _) _⟩
theorem refExp_zero {s : Int} {b : Nat} (w : World) (hs1 : -4 ≤ s) (hs2 : s ≤ 8) (hb : b = 0 ∨ b = 9223372036854775808) : Calls Try.prog 20 #[.int .i64 s, .float .f64 b] w fun e w' => e = .returned (.tuple #[.agg #[.int .i64 0, .int .i64 0], .int .i64 0]) ∧ Below w.heap.size w w' := by
  have HS := Lib.hid (show (decide (-4 ≤ s) && decide (s ≤ 8)) = true by simp; omega)
  have hr := run_bits b (w.alloc (.cells #[.int .i64 0, .int .i64 0] 37))
  have ha := and11w b (by omega)
  rw [show b / 4503599627370496 % 2048 = 0 by omega] at ha
  have hw : IntKind.u64.wrap ((b : Int) * 2) = 0 := by rw [IntKind.wrap_u64]; omega
  clear hs1 hs2 hb
  go_enter Try.func20, Try.ntmps20
  go_wp2_with (go_at_call 40; refine (refSchema_any s _).mono ?_; rw [HS.out]; rintro e w' ⟨rfl, rfl⟩)
  exact bodyPost_ret (v := .tuple #[.agg #[.int .i64 0, .int .i64 0], .int .i64 0]) (by simp [results, Try.results20, go_sem]) rfl ⟨rfl, (Below.refl _ _).alloc (Nat.le_refl _) _⟩
theorem refExp_pos {s : Int} {b : Nat} (w : World) (hs1 : -4 ≤ s) (hs2 : s ≤ 8) (h0 : 0 < b) (h : b < 9218868437227405312) : Calls Try.prog 20 #[.int .i64 s, .float .f64 b] w fun e w' => e = .returned (.tuple #[.agg #[.int .i64 1, .int .i64 (FL.bk s b)], .int .i64 0]) ∧ Below w.heap.size w w' := by
  have HS := Lib.hid (show (decide (-4 ≤ s) && decide (s ≤ 8)) = true by simp; omega)
  have hr := run_bits b (w.alloc (.cells #[.int .i64 0, .int .i64 0] 37))
  have ha := and11w b (by omega)
  obtain ⟨ex, hex⟩ : ∃ ex, b / 4503599627370496 % 2048 = ex := ⟨_, rfl⟩
  rw [hex] at ha
  have hexd : ((ex : Int) == 2047) = false := beq_false_of_ne (by omega)
  have hexn : (ex == 2047) = false := beq_false_of_ne (by omega)
  have hw : IntKind.u64.wrap ((b : Int) * 2) = (b : Int) * 2 := IntWalk.u64_in _ (by omega)
  have hwd : ((b : Int) * 2 == 0) = false := beq_false_of_ne (by omega)
  have h63 : (b : Int) / 9223372036854775808 = 0 := by omega
  have HI := Lib.hid (fun w => refIdx_any (b := b) hs1 hs2 h0 h w)
  clear hs1 hs2 h0 h hex
  go_enter Try.func20, Try.ntmps20
  go_wp2_with (first
    | (go_at_call 40; refine (refSchema_any s _).mono ?_; rw [HS.out]; rintro e w' ⟨rfl, rfl⟩)
    | (go_at_call 41; ((with_reducible refine (HI.out _).mono ?_); rintro e w1 ⟨rfl, hb⟩; obtain ⟨hc1, hf1⟩ := bcell hb; have hz1 := hb.size; simp at hz1; have HB1 := Lib.hid hb; clear hb)))
  have q0 := hc1 w.heap.size 0 (by simp)
  have q1 := hc1 w.heap.size 1 (by simp)
  simp only [go_sem] at q0 q1
  exact bodyPost_ret (v := .tuple #[.agg #[.int .i64 1, .int .i64 (FL.bk s b)], .int .i64 0]) (by simp [results, Try.results20, go_sem, q0, q1]) rfl ⟨rfl, ((((Below.refl _ _).alloc (Nat.le_refl _) _).trans (HB1.out.mono (by simp))).setCell (by simp) _).setCell (by simp) _⟩
theorem refExp_neg {s : Int} {c : Nat} (w : World) (hs1 : -4 ≤ s) (hs2 : s ≤ 8) (h0 : 0 < c) (h : c < 9218868437227405312) : Calls Try.prog 20 #[.int .i64 s, .float .f64 (9223372036854775808 + c)] w fun e w' => e = .returned (.tuple #[.agg #[.int .i64 (-1), .int .i64 (FL.bk s c)], .int .i64 0]) ∧ Below w.heap.size w w' := by
  have HS := Lib.hid (show (decide (-4 ≤ s) && decide (s ≤ 8)) = true by simp; omega)
  have hn : Op.unary .neg (.float .f64 (9223372036854775808 + c)) = pure (.float .f64 c) := by
    show pure (Value.float .f64 (Op.negFloat .f64 (9223372036854775808 + c))) = _
    rw [neg_of (c := c) (by omega)]
  have HI := Lib.hid (fun w => refIdx_any (b := c) hs1 hs2 h0 h w)
  obtain ⟨b, hbc⟩ : ∃ b, 9223372036854775808 + c = b := ⟨_, rfl⟩
  rw [hbc] at hn ⊢
  have hr := run_bits b (w.alloc (.cells #[.int .i64 0, .int .i64 0] 37))
  have ha := and11w b (by omega)
  obtain ⟨ex, hex⟩ : ∃ ex, b / 4503599627370496 % 2048 = ex := ⟨_, rfl⟩
  rw [hex] at ha
  have hexd : ((ex : Int) == 2047) = false := beq_false_of_ne (by omega)
  have hexn : (ex == 2047) = false := beq_false_of_ne (by omega)
  have hw : IntKind.u64.wrap ((b : Int) * 2) = (c : Int) * 2 := by rw [IntKind.wrap_u64]; omega
  have hwd : ((c : Int) * 2 == 0) = false := beq_false_of_ne (by omega)
  have hwn : ((c : Nat) == 0) = false := beq_false_of_ne (by omega)
  have h63 : (b : Int) / 9223372036854775808 = 1 := by omega
  clear hs1 hs2 h0 h hex hbc
  go_enter Try.func20, Try.ntmps20
  go_wp2_with (first
    | (go_at_call 40; refine (refSchema_any s _).mono ?_; rw [HS.out]; rintro e w' ⟨rfl, rfl⟩)
    | (go_at_call 41; ((with_reducible refine (HI.out _).mono ?_); rintro e w1 ⟨rfl, hb⟩; obtain ⟨hc1, hf1⟩ := bcell hb; have hz1 := hb.size; simp at hz1; have HB1 := Lib.hid hb; clear hb)))
  have q0 := hc1 w.heap.size 0 (by simp)
  have q1 := hc1 w.heap.size 1 (by simp)
  simp only [go_sem] at q0 q1
  exact bodyPost_ret (v := .tuple #[.agg #[.int .i64 (-1), .int .i64 (FL.bk s c)], .int .i64 0]) (by simp [results, Try.results20, go_sem, q0, q1]) rfl ⟨rfl, ((((Below.refl _ _).alloc (Nat.le_refl _) _).trans (HB1.out.mono (by simp))).setCell (by simp) _).setCell (by simp) _⟩
end Go.Proofs.Ytaeffkgnfbomdaa
