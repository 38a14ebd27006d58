/- THE WALKS of Ends, greatest and Upper. -/
import Derived.Test.YtaeffkgnfbomdaaLa
import Derived.Test.YtaeffkgnfbomdaaTop
namespace Go.Proofs.Ytaeffkgnfbomdaa
open Go.RowKit
set_option maxRecDepth 100000
theorem ends_no {s : Int} (hs : s < -4 ∨ 8 < s) (w : World) : Calls Try.prog 21 #[.int .i64 s] w fun e w' => e = .returned (.tuple #[.int .i64 0, .int .i64 0, .int .i64 2]) ∧ w = w' := by
  have HS := Lib.hid (show (decide (-4 ≤ s) && decide (s ≤ 8)) = false by simp; omega)
  clear hs
  go_enter Try.func21, Try.ntmps21
  go_wp2_with (go_at_call 36; refine (isSchema_any s _).mono ?_; rw [HS.out]; rintro e w' ⟨rfl, rfl⟩)
  go_ret3
  exact ⟨rfl, rfl⟩
theorem ends_yes {s : Int} (hs1 : -4 ≤ s) (hs2 : s ≤ 8) (w : World) : Calls Try.prog 21 #[.int .i64 s] w fun e w' => e = .returned (.tuple #[.int .i64 (FL.bk s 1), .int .i64 (FL.bk s 9218868437227405311), .int .i64 0]) ∧ w = w' := by
  have HS := Lib.hid (show (decide (-4 ≤ s) && decide (s ≤ 8)) = true by simp; omega)
  have HB1 := Lib.hid (fun w => bucket_any (b := 1) w hs1 hs2 (by omega) (by omega))
  have HB2 := Lib.hid (fun w => bucket_any (b := 9218868437227405311) w hs1 hs2 (by omega) (by omega))
  clear hs1 hs2
  go_enter Try.func21, Try.ntmps21
  go_wp2_with (first
    | (go_at_call 36; refine (isSchema_any s _).mono ?_; rw [HS.out]; rintro e w' ⟨rfl, rfl⟩)
    | (go_at_call 39; ((with_reducible refine (HB1.out _).mono ?_); rintro e w' ⟨rfl, rfl⟩))
    | (go_at_call 39; ((with_reducible refine (HB2.out _).mono ?_); rintro e w' ⟨rfl, rfl⟩)))
  go_ret3
  exact ⟨rfl, rfl⟩
theorem within_any {s i : Int} {b : Nat} {A B : Nat} (hs1 : -4 ≤ s) (hs2 : s ≤ 8) (h0 : 0 < b) (h : b < 9218868437227405312) (w : World) (hA : w.cell? ⟨A, 0, none⟩ = some (.int .i64 s)) (hB : w.cell? ⟨B, 0, none⟩ = some (.int .i64 i)) :
    Calls Try.prog 43 #[.float .f64 b, .pointer (some ⟨A, 0, none⟩), .pointer (some ⟨B, 0, none⟩)] w fun e w' => e = .returned (.bool (decide (FL.bk s b ≤ i))) ∧ ∃ n, w' = w.drewN n := by
  have HK := Lib.hid (fun w => bucket_any (b := b) w hs1 hs2 h0 h)
  clear hs1 hs2 h0 h
  go_enter Try.func43, Try.ntmps43
  go_upto_region 1 with (fail)
  go_quiet ((go_at_call 39; exact Calls.quiet_of_same ((HK.out _).mono fun _ _ ⟨a, b⟩ => ⟨a, b.symm⟩)))
  go_wp2_with (fail)
  go_ret
  exact ⟨rfl, _, rfl⟩
def Cells2 (A B : Nat) (s i : Int) (w : World) : Prop := w.cell? ⟨A, 0, none⟩ = some (.int .i64 s) ∧ w.cell? ⟨B, 0, none⟩ = some (.int .i64 i)
/-- the state of the search: what is found, the place that is next, the world -/
def SAt (s i : Int) (w : World) (s3 s4 : Value) (wx : World) : Prop := ∃ F p n : Nat, s3 = .int .u64 (F : Int) ∧ s4 = .int .i64 ((p : Int) - 1) ∧ FL.GAt s i F p ∧ wx = w.drewN n
theorem greatest_any {s i : Int} {A B : Nat} (hs1 : -4 ≤ s) (hs2 : s ≤ 8) (w : World) (hA : w.cell? ⟨A, 0, none⟩ = some (.int .i64 s)) (hB : w.cell? ⟨B, 0, none⟩ = some (.int .i64 i)) :
    Calls Try.prog 42 #[.func (.func 43) #[] #[.pointer (some ⟨A, 0, none⟩), .pointer (some ⟨B, 0, none⟩)]] w fun e w' => ∃ F : Nat, e = .returned (.float .f64 F) ∧ FL.IsTop s i F ∧ ∃ n, w' = w.drewN n := by
  have HA := Lib.hid hA
  have HB := Lib.hid hB
  clear hA hB
  go_enter Try.func42, Try.ntmps42
  go_wp2_with (fail)
  go_loopw [3, 4] (fun s3 s4 wx => SAt s i w s3 s4 wx) (fun _ s4 _ => (intOf s4 + 1).toNat)
  case atStart => exact ⟨0, 63, 0, rfl, rfl, FL.g_start s i, rfl⟩
  case round =>
    obtain ⟨F, p, n, rfl, rfl, hg, rfl⟩ := hrel
    have HG := Lib.hid hg
    rcases Nat.eq_zero_or_pos p with h0 | h0
    · subst h0
      have hT := Lib.hid (FL.g_end hg)
      clear hg
      have hr := run_frombits (F : Nat) (w.drewN n)
      have e1 : ((0 : Nat) : Int) - 1 = -1 := rfl
      rw [e1]
      go_wp2_with (fail)
      go_ret
      exact ⟨F, rfl, hT.out, n, rfl⟩
    · obtain ⟨q, rfl⟩ : ∃ q, p = q + 1 := ⟨p - 1, by omega⟩
      obtain ⟨⟨a, ha⟩, hlt, hpos⟩ := FL.g_or hg
      have hq63 : q + 1 ≤ 63 := hg.1
      have e1 : ((q + 1 : Nat) : Int) - 1 = (q : Int) := by omega
      rw [e1]
      clear hg h0 e1
      have hq : (q : Int) ≤ 62 := by omega
      obtain ⟨M, hM⟩ : ∃ M, F + 2 ^ q = M := ⟨_, rfl⟩
      have hp62 : 2 ^ q < 9223372036854775808 := by omega
      have HOR := Lib.hid (show bits .or .u64 (F : Int) (IntKind.u64.wrap ((2 : Int) ^ q)) = (M : Int) by
        have h1 : IntKind.u64.wrap ((2 : Int) ^ q) = ((2 ^ q : Nat) : Int) := by
          rw [show (2 : Int) ^ q = ((2 ^ q : Nat) : Int) by simp]
          exact IntWalk.u64_in _ (by have := Nat.two_pow_pos q; omega)
        rw [h1, ← hM, ha]
        exact or_join a q (by rw [← ha]; omega))
      have hr := run_frombits M (w.drewN n)
      rw [hM] at hlt hpos
      have HM := Lib.hid hM
      have HLT := Lib.hid hlt
      have HPOS := Lib.hid hpos
      clear ha hlt hpos hq63 hM hp62
      go_upto_region 6 with (fail)
      rw [HOR.out]
      rcases Nat.lt_or_ge M 9218868437227405312 with hm | hm
      · have hle : (FloatKind.f64.format.order M 9218868437227405311 == some .lt || FloatKind.f64.format.order M 9218868437227405311 == some .eq) = true := by
          by_cases he : M = 9218868437227405311
          · subst he; rw [show FloatKind.f64.format.order 9218868437227405311 9218868437227405311 = some .eq from FL.order_eq (by omega)]; rfl
          · rw [show FloatKind.f64.format.order M 9218868437227405311 = some .lt from FL.order_lt (by omega) (by omega)]; rfl
        have HW := Lib.hid (fun w hA hB => within_any (i := i) (A := A) (B := B) hs1 hs2 HPOS.out hm w hA hB)
        have HIN := Lib.hid (FL.in_yes (s := s) (i := i) HPOS.out (show M ≤ 9218868437227405311 by omega))
        clear hm
        have hAn : (w.drewN n).cell? ⟨A, 0, none⟩ = some (.int .i64 s) := HA.out
        have hBn : (w.drewN n).cell? ⟨B, 0, none⟩ = some (.int .i64 i) := HB.out
        have HAn := Lib.hid hAn
        have HBn := Lib.hid hBn
        clear hAn hBn
        by_cases hin : FL.bk s M ≤ i
        · go_wp2_with (go_at_call 43; ((with_reducible refine (HW.out _ HAn.out HBn.out).mono ?_); rw [decide_eq_true hin]; rintro e w' ⟨rfl, n2, rfl⟩))
          go_roundw
          case rel => exact ⟨M, q, n + n2, rfl, rfl, by rw [← HM.out]; exact FL.g_yes HG.out (by rw [HM.out]; exact HIN.out.2 hin), rfl⟩
          case measure => simp [intOf]
        · go_wp2_with (go_at_call 43; ((with_reducible refine (HW.out _ HAn.out HBn.out).mono ?_); rw [decide_eq_false hin]; rintro e w' ⟨rfl, n2, rfl⟩))
          go_roundw
          case rel => exact ⟨F, q, n + n2, rfl, rfl, FL.g_no HG.out (by rw [HM.out]; exact fun h => by have := HIN.out.1 h; omega), rfl⟩
          case measure => simp [intOf]
      · have hle : (FloatKind.f64.format.order M 9218868437227405311 == some .lt || FloatKind.f64.format.order M 9218868437227405311 == some .eq) = false := by
          by_cases he : M = 9218868437227405312
          · subst he; rw [show FloatKind.f64.format.order 9218868437227405312 9218868437227405311 = some .gt from FL.order_inf_max]; rfl
          · rw [show FloatKind.f64.format.order M 9218868437227405311 = none from FL.order_nan (by have := HLT.out; omega)]; rfl
        have HNO := Lib.hid (show ¬ FL.inB s i M from fun h => by have := h.1; omega)
        clear hm
        go_wp2_with (fail)
        go_roundw
        case rel => exact ⟨F, q, n, rfl, rfl, FL.g_no HG.out (by rw [HM.out]; exact HNO.out), rfl⟩
        case measure => simp [intOf]
theorem ends_in {s : Int} (hs1 : -4 ≤ s) (hs2 : s ≤ 8) : (-4611686018427387904 ≤ FL.bk s 1 ∧ FL.bk s 1 ≤ 4611686018427387904) ∧ (-4611686018427387904 ≤ FL.bk s 9218868437227405311 ∧ FL.bk s 9218868437227405311 ≤ 4611686018427387904) := by
  have h1 := ix_in (b := 1) (by omega) (by omega)
  have h2 := ix_in (b := 9218868437227405311) (by omega) (by omega)
  exact ⟨coN_bd _ _ (by omega) (by omega), coN_bd _ _ (by omega) (by omega)⟩
theorem upper_any {s i : Int} {F : Nat} (hs1 : -4 ≤ s) (hs2 : s ≤ 8) (hi1 : FL.bk s 1 - 1 ≤ i) (hi2 : i ≤ FL.bk s 9218868437227405311) (hF : FL.IsTop s i F) (w : World) : Calls Try.prog 23 #[.int .i64 s, .int .i64 i] w fun e w' => e = .returned (.tuple #[.float .f64 F, .int .i64 0]) ∧ Below w.heap.size w w' := by
  have HE := Lib.hid (fun w => ends_yes hs1 hs2 w)
  obtain ⟨⟨hf1, hf2⟩, _⟩ := ends_in hs1 hs2
  have HG := Lib.hid (fun w A B hA hB => greatest_any (i := i) (A := A) (B := B) hs1 hs2 w hA hB)
  have HF := Lib.hid hF
  generalize FL.bk s 1 = f at *
  generalize FL.bk s 9218868437227405311 = g at *
  clear hs1 hs2 hF
  go_enter Try.func23, Try.ntmps23
  go_wp2_with (first
    | (go_at_call 21; refine (HE.out _).mono ?_; rintro e w' ⟨rfl, rfl⟩)
    | (go_at_call 42; ((with_reducible refine (HG.out _ _ _ (by simp [go_sem]) (by simp [go_sem])).mono ?_); rintro e w' ⟨G, rfl, hG, n2, rfl⟩; have HGF := Lib.hid (FL.top_unique hG HF.out); clear hG)))
  go_ret2
  refine ⟨?_, Below.drewN' (((Below.refl _ _).alloc (Nat.le_refl _) _).alloc (by simp) _) _⟩
  show Ending.returned (.tuple #[.float .f64 G, .int .i64 0]) = _
  rw [HGF.out]
theorem upper_out {s i : Int} (hs1 : -4 ≤ s) (hs2 : s ≤ 8) (hi : FL.bk s 9218868437227405311 < i) (hi1 : FL.bk s 1 - 1 ≤ i) (w : World) : Calls Try.prog 23 #[.int .i64 s, .int .i64 i] w fun e w' => e = .returned (.tuple #[.float .f64 0, .int .i64 2]) ∧ Below w.heap.size w w' := by
  have HE := Lib.hid (fun w => ends_yes hs1 hs2 w)
  obtain ⟨⟨hf1, hf2⟩, _⟩ := ends_in hs1 hs2
  generalize FL.bk s 1 = f at *
  generalize FL.bk s 9218868437227405311 = g at *
  clear hs1 hs2
  go_enter Try.func23, Try.ntmps23
  go_wp2_with (go_at_call 21; refine (HE.out _).mono ?_; rintro e w' ⟨rfl, rfl⟩)
  go_ret2
  exact ⟨rfl, ((Below.refl _ _).alloc (Nat.le_refl _) _).alloc (by simp) _⟩
end Go.Proofs.Ytaeffkgnfbomdaa
