/- THE WALK of the document's Upper. -/
import Derived.Test.YtaeffkgnfbomdaaWs
namespace Go.Proofs.Ytaeffkgnfbomdaa
open Go.RowKit
set_option maxRecDepth 100000
theorem inf1 (w : World) : Calls Try.prog 44 #[.int .i64 1] w fun e w' => e = .returned (.float .f64 9218868437227405312) ∧ w = w' := by
  have hr : Sem.run Try.prog (callFunc 45 #[.int .u64 9218868437227405312]) w = .ok (.value (.float .f64 9218868437227405312)) w := run_frombits 9218868437227405312 w
  go_enter Try.func44, Try.ntmps44
  go_wp2_with (fail)
  go_ret
  exact ⟨rfl, rfl⟩
theorem refUpper_no {s i : Int} (hs : s < -4 ∨ 8 < s) (w : World) : Calls Try.prog 24 #[.int .i64 s, .int .i64 i] w fun e w' => e = .returned (.tuple #[.float .f64 0, .int .i64 2]) ∧ Below w.heap.size w w' := by
  have HE := Lib.hid (fun w => refEnds_no hs w)
  clear hs
  go_enter Try.func24, Try.ntmps24
  go_wp2_with (go_at_call 22; refine (HE.out _).mono ?_; rintro e w' ⟨rfl, rfl⟩)
  go_ret2
  exact ⟨rfl, Below.refl _ _⟩
theorem refUpper_out {s i : Int} (hs1 : -4 ≤ s) (hs2 : s ≤ 8) (hi : i < FL.bk s 1 - 1 ∨ FL.bk s 9218868437227405311 < i) (w : World) : Calls Try.prog 24 #[.int .i64 s, .int .i64 i] w fun e w' => e = .returned (.tuple #[.float .f64 0, .int .i64 2]) ∧ Below w.heap.size w w' := by
  have HE := Lib.hid (fun w => refEnds_yes hs1 hs2 w)
  obtain ⟨⟨hf1, hf2⟩, _⟩ := ends_in hs1 hs2
  generalize FL.bk s 1 = f at *
  generalize FL.bk s 9218868437227405311 = g at *
  clear hs1 hs2
  rcases Int.lt_or_le i (f - 1) with h1 | h1
  · clear hi
    go_enter Try.func24, Try.ntmps24
    go_wp2_with (go_at_call 22; refine (HE.out _).mono ?_; rintro e w' ⟨rfl, HB⟩)
    go_ret2
    exact ⟨rfl, HB⟩
  · have h2 : g < i := by omega
    clear hi
    go_enter Try.func24, Try.ntmps24
    go_wp2_with (go_at_call 22; refine (HE.out _).mono ?_; rintro e w' ⟨rfl, HB⟩)
    go_ret2
    exact ⟨rfl, HB⟩
def RAt (s i : Int) (W : World) (s9 s10 : Value) (wx : World) : Prop := ∃ L H : Nat, s9 = .int .u64 (L : Int) ∧ s10 = .int .u64 (H : Int) ∧ L < H ∧ H ≤ 9218868437227405312 ∧ FL.inB s i L ∧ ¬ FL.inB s i H ∧ Below W.heap.size W wx
theorem refUpper_any {s i : Int} {F : Nat} (hs1 : -4 ≤ s) (hs2 : s ≤ 8) (hi1 : FL.bk s 1 - 1 ≤ i) (hi2 : i ≤ FL.bk s 9218868437227405311) (hF : FL.IsTop s i F) (w : World) : Calls Try.prog 24 #[.int .i64 s, .int .i64 i] w fun e w' => e = .returned (.tuple #[.float .f64 F, .int .i64 0]) ∧ Below w.heap.size w w' := by
  have HE := Lib.hid (fun w => refEnds_yes hs1 hs2 w)
  obtain ⟨⟨hf1, hf2⟩, _⟩ := ends_in hs1 hs2
  have HI := Lib.hid (fun (b : Nat) (h0 : 0 < b) (h : b < 9218868437227405312) w => refIdx_any (s := s) (b := b) hs1 hs2 h0 h w)
  have HF := Lib.hid hF
  generalize FL.bk s 1 = f at *
  generalize FL.bk s 9218868437227405311 = g at *
  clear hs1 hs2 hF
  go_enter Try.func24, Try.ntmps24
  go_wp2_with (first
    | (go_at_call 22; refine (HE.out _).mono ?_; rintro e w1 ⟨rfl, hb⟩; have HB1 := Lib.hid hb; have hr := run_bits 9218868437227405312 w1; clear hb)
    | (go_at_call 44; refine (inf1 _).mono ?_; rintro e w' ⟨rfl, rfl⟩))
  go_loopw [9, 10] (fun s9 s10 wx => RAt s i w1 s9 s10 wx) (fun s9 s10 _ => (intOf s10 - intOf s9).toNat)
  case atStart =>
    refine ⟨0, 9218868437227405312, rfl, rfl, by omega, by omega, FL.inB_zero s i, fun h => ?_, Below.refl _ _⟩
    have := h.1; omega
  case round =>
    obtain ⟨L, H, rfl, rfl, hlt, hle, hinL, hinH, hB⟩ := hrel
    have HINL := Lib.hid hinL
    have HINH := Lib.hid hinH
    have HB2 := Lib.hid (HB1.out.trans (hB.mono HB1.out.size))
    clear hinL hinH
    by_cases hd : H = L + 1
    · subst hd
      have hT : FL.IsTop s i L := ⟨HINL.out, fun c hc => by
        rcases Nat.lt_or_ge L c with h | h
        · exact absurd (FL.inB_down hc h) HINH.out
        · exact h⟩
      have hLF := FL.top_unique hT HF.out
      subst hLF
      have hr := run_frombits L wr
      clear hT
      go_wp2_with (fail)
      go_ret2
      exact ⟨rfl, HB2.out⟩
    · have hmid : ((L : Int) + ((H : Int) - (L : Int)) / 2) = ((L + (H - L) / 2 : Nat) : Int) := by omega
      obtain ⟨M, hM⟩ : ∃ M, L + (H - L) / 2 = M := ⟨_, rfl⟩
      have hM1 : L < M := by omega
      have hM2 : M < H := by omega
      have hfr := run_frombits M wr
      have HK := Lib.hid (HI.out M (by omega) (by omega))
      have HIN := Lib.hid (FL.in_yes (s := s) (i := i) (show 0 < M by omega) (show M ≤ 9218868437227405311 by omega))
      rw [hM] at hmid
      have HMID := Lib.hid hmid
      have HBK := Lib.hid hB
      clear hd hM hmid hB
      go_upto_region 8 with (fail)
      rw [HMID.out]
      by_cases hin : FL.bk s M ≤ i
      · go_wp2_with (go_at_call 41; ((with_reducible refine (HK.out _).mono ?_); rintro e w3 ⟨rfl, hb3⟩; have HB3 := Lib.hid hb3; clear hb3))
        go_roundw
        case rel => exact ⟨M, H, rfl, rfl, hM2, hle, HIN.out.2 hin, HINH.out, HBK.out.trans (HB3.out.mono HBK.out.size)⟩
        case measure => simp [intOf]; omega
      · go_wp2_with (go_at_call 41; ((with_reducible refine (HK.out _).mono ?_); rintro e w3 ⟨rfl, hb3⟩; have HB3 := Lib.hid hb3; clear hb3))
        go_roundw
        case rel => exact ⟨L, M, rfl, rfl, hM1, by omega, HINL.out, fun h => by have := HIN.out.1 h; omega, HBK.out.trans (HB3.out.mono HBK.out.size)⟩
        case measure => simp [intOf]; omega
end Go.Proofs.Ytaeffkgnfbomdaa
