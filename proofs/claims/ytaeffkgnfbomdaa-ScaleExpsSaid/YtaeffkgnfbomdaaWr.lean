/- THE WALK of the document's place of a float: schemas above 0. -/
import Derived.Test.YtaeffkgnfbomdaaWq
namespace Go.Proofs.Ytaeffkgnfbomdaa
open Go.RowKit
set_option maxRecDepth 100000
/-- the state of the loop of squares -/
def IxAt (w : World) (m : Nat) (E0 : Int) (S : Nat) (s6 s10 s11 : Value) (wx : World) : Prop := ∃ (j N bo : Nat) (E : Int) (ys : List Nat),
  s6 = .int .i64 E ∧ s10 = .slice (some ⟨bo, 0, none⟩) (2 * N) (2 * N) ∧ s11 = .int .i64 (j : Int) ∧ j ≤ S ∧ N = 2 ^ j ∧ N ≤ 256 ∧ E = E0 * 2 ^ j ∧ (-1200 * (N : Int) ≤ E ∧ E ≤ 1200 * (N : Int)) ∧ ys.length = 2 * N ∧ Small ys ∧ Row wx bo 76 (u32s ys) ∧ V ys (2 * N) = m ^ N ∧ Below w.heap.size w wx
theorem pow_dbl (m j : Nat) : m ^ (2 ^ j) * m ^ (2 ^ j) = m ^ (2 ^ (j + 1)) := by rw [← Nat.pow_add, Nat.pow_succ]; congr 1; omega
theorem n_dbl {j S : Nat} (h : j < S) (hS : S ≤ 8) : 2 ^ (j + 1) = 2 * 2 ^ j ∧ 2 ^ j ≤ 128 := by
  have : 2 ^ j ≤ 2 ^ 7 := Nat.pow_le_pow_right (by omega) (by omega)
  exact ⟨by rw [Nat.pow_succ, Nat.mul_comm], by omega⟩
set_option maxHeartbeats 2000000 in
theorem refIdx_p {b S : Nat} (hS1 : 1 ≤ (S : Int)) (hS2 : (S : Int) ≤ 8) (h0 : 0 < b) (h : b < 9218868437227405312) (w : World) : Calls Try.prog 41 #[.int .i64 S, .float .f64 b] w fun e w' => e = .returned (.int .i64 (FL.bk S b)) ∧ Below w.heap.size w w' := by
  have HP := Lib.hid (fun w => parts_out w h0 h)
  have HF1 := Lib.hid (fun t (ho : FL.Odd2 b 1 t) => FL.fine_one h0 ho (n := S) (by omega))
  have HFN := Lib.hid (fun m t r (ho : FL.Odd2 b m t) (hm : 1 < m) (hr : FL.IsBits (m ^ (2 ^ S)) r) => FL.fine h0 ho hm (8 - S) S r (by omega) hr)
  have hb0 := bk_small (s := (S : Int)) h0 h
  have hpw := pw_le h
  have hpw0 := FL.pw_pos b
  obtain ⟨B, hB⟩ : ∃ B, FL.bk S b = B := ⟨_, rfl⟩
  have HBB := Lib.hid hB
  rw [hB] at hb0
  rw [hB]
  have HS8 : Hid (S ≤ 8) := Lib.hid (by omega)
  have hd : decide (S = 0) = false := decide_eq_false (by omega)
  clear h0 h hB
  go_enter Try.func41, Try.ntmps41
  go_upto_region 2 with (go_at_call 52; refine (HP.out _).mono ?_; rintro e wx ⟨⟨m, t, ho, rfl⟩, rfl⟩; have HO := Lib.hid ho; clear ho)
  obtain ⟨m1, m2, m3⟩ := odd_small HO.out
  have hm1 : 1 ≤ (m : Int) := by omega
  have hm2 : (m : Int) < 9007199254740992 := by omega
  have hpi : 1 ≤ (FL.pw b : Int) ∧ (FL.pw b : Int) ≤ 2046 := by omega
  have hE1 : -1200 ≤ (FL.pw b : Int) - 1075 + t ∧ (FL.pw b : Int) - 1075 + t ≤ 1200 := by omega
  have HEQ : Hid (m = 1 → ((FL.pw b : Int) - 1075 + t) * 2 ^ S = B) := Lib.hid fun he => by
    subst he
    exact (HF1.out t HO.out).trans HBB.out
  have HFN3 : Hid (∀ r : Nat, 1 < m → FL.IsBits (m ^ (2 ^ S)) r → ((FL.pw b : Int) - 1075 + t) * 2 ^ S + r = B) := Lib.hid fun r hm hr => (HFN.out m t r HO.out hm hr).trans HBB.out
  clear hpi HF1 HFN
  generalize (FL.pw b : Int) - 1075 + t = E0 at *
  obtain ⟨hE1, hE2⟩ := hE1
  have HRW := Lib.hid (row2 w m)
  have HV := Lib.hid (V2 m m2)
  have HM := Lib.hid m2
  clear m1 m2
  go_wp2_with (fail)
  go_loopw [6, 10, 11] (fun s6 s10 s11 wx => IxAt w m E0 S s6 s10 s11 wx) (fun _ _ s11 _ => (S - intOf s11).toNat)
  case atStart => exact ⟨0, 1, w.heap.size, E0, _, rfl, rfl, rfl, by omega, rfl, by omega, by simp, by omega, rfl, HV.out.2, HRW.out, by rw [HV.out.1]; simp, (Below.refl _ _).alloc (Nat.le_refl _) _⟩
  case round =>
    obtain ⟨j, N, bo, E, ys, rfl, rfl, rfl, hj, hN, hN2, hE, hEb, hl, hs, hR, hV, hBw⟩ := hrel
    have hbo := hR.lt
    have HL := Lib.hid hl
    have HS := Lib.hid hs
    have HR := Lib.hid hR
    have HVV := Lib.hid hV
    have HB := Lib.hid hBw
    have HE := Lib.hid hE
    have HN := Lib.hid hN
    obtain ⟨hEb1, hEb2⟩ := hEb
    have hNi : (N : Int) ≤ 256 := by omega
    have hj1 : (j : Int) ≤ 8 := by omega
    clear hl hs hR hV hBw hE hN
    by_cases hlt : (j : Int) < S
    · have hjs : decide (j < S) = true := decide_eq_true (by omega)
      have hnd := n_dbl (j := j) (by omega) HS8.out
      have hN128 : N ≤ 128 := by rw [HN.out]; exact hnd.2
      have HN2 := Lib.hid (show 2 * N = 2 ^ (j + 1) by rw [HN.out]; exact hnd.1.symm)
      have HSQ := Lib.hid (squared_any (xs := ys) (n := 2 * N) HL.out wr hbo (words_row HR.out) HS.out (by omega))
      clear hnd
      go_wp2_with (go_at_call 55; refine (HSQ.out).mono ?_; rintro e w5 ⟨zs, rfl, hl2, hs2, hR2, hV2, hB2⟩; have HL2 := Lib.hid hl2; have HS2 := Lib.hid hs2; have HR2 := Lib.hid hR2; have HV2 := Lib.hid hV2; have HB2 := Lib.hid hB2; clear hl2 hs2 hR2 hV2 hB2)
      go_roundw
      case rel =>
        refine ⟨j + 1, 2 * N, wr.heap.size, 2 * E, zs, rfl, rfl, by go_num, by omega, HN2.out, by omega, ?_, by omega, HL2.out, HS2.out, HR2.out, ?_, HB.out.trans (HB2.out.mono HB.out.size)⟩
        · have h1 := HE.out; rw [Int.pow_succ, ← Int.mul_assoc, ← h1]; omega
        · rw [HV2.out, HVV.out, ← Nat.pow_add]; congr 1; omega
      case measure => simp [intOf]; omega
    · obtain rfl : j = S := by omega
      have hjs : decide (j < j) = false := decide_eq_false (by omega)
      clear hlt
      by_cases hm : m = 1
      · have HBE := Lib.hid (show E = B by rw [HE.out]; exact HEQ.out hm)
        subst hm
        go_wp2_with (fail)
        go_ret
        exact ⟨ret_int HBE.out, HB.out⟩
      · have hmd : (m == 1) = false := beq_false_of_ne hm
        have hmd2 : ((m : Int) == 1) = false := beq_false_of_ne (by omega)
        have HMN : Hid (1 < m) := Lib.hid (by omega)
        have HBI := Lib.hid (bits_any (xs := ys) (n := 2 * N) HL.out wr (words_row HR.out) HS.out (by omega))
        have HVN := Lib.hid (show V ys (2 * N) = m ^ (2 ^ j) by rw [HVV.out, HN.out])
        clear hm
        go_wp2_with (go_at_call 53; refine (HBI.out).mono ?_; rw [HVN.out]; rintro e wx ⟨⟨r, hr, rfl⟩, rfl⟩; have HRR := Lib.hid (show wrap64 (E + (r : Int)) = B by have h1 := HFN3.out r HMN.out hr; rw [← HE.out] at h1; rw [h1]; exact wrap64_in (by omega)); clear hr)
        go_ret
        exact ⟨ret_int HRR.out, HB.out⟩
end Go.Proofs.Ytaeffkgnfbomdaa
