/- THE WALK of the document's PrintSpan. -/
import Derived.Test.YthbphanlmhghdaaDoorWk
namespace Go.Proofs.YthbphanlmhghdaaDoor
open Go.RowKit

theorem usz (k : Nat) : ∃ z : Nat, TM.usize k = z ∧ 1 ≤ z ∧ z ≤ 3600000000000 := by
  have := TM.usize_pos k
  have := TM.usize_le k
  exact ⟨(TM.usize k).toNat, by omega, by omega, by omega⟩
theorem parts_yes {d n k z : Nat} (hz : TM.usize k = z) (h : z ≤ d) (acc : List UInt8) : acc ++ TM.partsFrom d (n + 1) k = (acc ++ (Lib.decDigits (d / z) ++ TM.uname k)) ++ TM.partsFrom (d % z) n (k + 1) := by
  rw [TM.partsFrom, if_pos (by omega), hz, Int.toNat_natCast, List.append_assoc acc]
theorem parts_no {d n k z : Nat} (hz : TM.usize k = z) (h : ¬ z ≤ d) : TM.partsFrom d (n + 1) k = TM.partsFrom d n (k + 1) := by
  rw [TM.partsFrom, if_neg (by omega), hz, Int.toNat_natCast, Nat.mod_eq_of_lt (by omega)]; rfl
theorem parts_start (d : Nat) : [] ++ TM.partsFrom d (6 - 0) 0 = TM.partsFrom d 6 0 := by rw [List.nil_append, Nat.sub_zero]
theorem parts_end (acc : List UInt8) (e : Nat) : acc ++ TM.partsFrom e (6 - 6) 6 = acc := by rw [Nat.sub_self, TM.partsFrom, List.append_nil]
theorem dec_short (n : Nat) (h : (n : Int) ≤ 9223372036854775807) : (Lib.decDigits n).length ≤ 20 := by
  rw [Lib.decDigits_length]
  exact Lib.nDigits_le20 n (by omega)
theorem uname_short (k : Nat) : (TM.uname k).length ≤ 2 := by unfold TM.uname; split <;> simp
theorem ret_si {s t : ByteArray} {a : Int} (h : s = t) : Ending.returned (.tuple #[.string s, .int .i64 a]) = Ending.returned (.tuple #[.string t, .int .i64 a]) := by rw [h]

set_option maxRecDepth 100000 in
set_option maxHeartbeats 1000000 in
theorem refPrint_ok (d : Nat) (w : World) (h1 : 1 ≤ d) (h : (d : Int) ≤ 2305843009213693952) :
    Calls Tryd.prog 13 #[.int .i64 d] w fun e w' => e = .returned (.tuple #[.string ⟨(TM.spanText d).toArray⟩, .int .i64 0]) ∧ Below w.heap.size w w' := by
  have hT : TM.spanText d = TM.partsFrom d 6 0 := by unfold TM.spanText; rw [if_neg (by omega)]
  rw [hT]
  clear hT
  have hm := moment_yes (d := d) (by omega) h
  have h0 : ((d : Int) == 0) = false := by simp; omega
  go_enter Tryd.func13, Tryd.ntmps13
  go_wp2_with (go_at_call 41; refine (span_any _ _).mono ?_; rw [hm]; rintro e w1 ⟨rfl, rfl⟩)
  go_loopw [0, 5, 6] (fun a b c wr => ∃ (k e : Nat) (acc : List UInt8), k ≤ 6 ∧ e ≤ d ∧ acc.length ≤ 22 * k ∧ a = .int .i64 e ∧ b = .string ⟨acc.toArray⟩ ∧ c = .int .i64 k ∧ acc ++ TM.partsFrom e (6 - k) k = TM.partsFrom d 6 0 ∧ Below w.heap.size w wr) (fun _ _ c _ => 6 - (intOf c).toNat)
  case atStart => exact ⟨0, d, [], by omega, by omega, by simp, rfl, rfl, rfl, parts_start d, Below.refl _ _⟩
  case round =>
    obtain ⟨k, e, acc, hk, he, hl, rfl, rfl, rfl, hp, hB⟩ := hrel
    have HP := Lib.hid hp
    clear hp
    by_cases hk6 : k = 6
    · subst hk6
      go_wp2
      go_ret2
      refine ⟨ret_si ?_, hB⟩
      rw [← HP.out, parts_end]
    · obtain ⟨z, hz, hz1, hz2⟩ := usz k
      have HZ := Lib.hid hz
      have hn : 6 - k = (6 - (k + 1)) + 1 := by omega
      have HN := Lib.hid hn
      clear hn
      have hul := uname_short k
      by_cases hle : z ≤ e
      · have hq : (e : Int) / z ≤ e := Int.ediv_le_self _ (by omega)
        have hq0 : 0 ≤ (e : Int) / z := Int.ediv_nonneg (by omega) (by omega)
        have hdl := dec_short (e / z) (by rw [Int.natCast_ediv]; omega)
        go_wp2_with (first
          | (go_at_call 42; refine (unit_any k _ (by omega)).mono ?_; rw [HZ.out]; rintro e w1 ⟨rfl, hb1⟩)
          | (go_at_call 43; refine (digits_any (e / z) _ (by rw [Int.natCast_ediv]; omega)).mono ?_; rintro e w2 ⟨rfl, hb2⟩))
        have hb3 := hB.trans ((hb1.mono hB.size).trans (hb2.mono (Nat.le_trans hB.size hb1.size)))
        clear hb1 hb2
        go_roundw
        case rel =>
          refine ⟨k + 1, e % z, acc ++ (Lib.decDigits (e / z) ++ TM.uname k), by omega, Nat.le_trans (Nat.mod_le _ _) he, ?_, by go_num, ?_, by go_num, by rw [← HP.out, HN.out, parts_yes HZ.out hle acc], hb3⟩
          · rw [List.length_append, List.length_append]; omega
          · rw [cat, cat, List.append_assoc]
        case measure => simp only [intOf]; omega
      · go_wp2_with (first
          | (go_at_call 42; refine (unit_any k _ (by omega)).mono ?_; rw [HZ.out]; rintro e w1 ⟨rfl, hb1⟩))
        go_roundw
        case rel => exact ⟨k + 1, e, acc, by omega, he, by omega, rfl, rfl, by go_num, by rw [← HP.out, HN.out, parts_no HZ.out hle], hB.trans (hb1.mono hB.size)⟩
        case measure => simp only [intOf]; omega

theorem refPrint_any (d : Int) (w : World) : Calls Tryd.prog 13 #[.int .i64 d] w fun e w' => e = .returned (.tuple #[.string ⟨(spanOut d).1.toArray⟩, .int .i64 (spanOut d).2]) ∧ Below w.heap.size w w' := by
  by_cases h : d < 0 ∨ 2305843009213693952 < d
  · rw [spanOut_bad h]
    have hm := moment_no h
    clear h
    go_enter Tryd.func13, Tryd.ntmps13
    go_wp2_with (go_at_call 41; refine (span_any _ _).mono ?_; rw [hm]; rintro e w1 ⟨rfl, rfl⟩)
    go_ret2
    exact ⟨rfl, Below.refl _ _⟩
  · obtain ⟨n, rfl⟩ := Int.eq_ofNat_of_zero_le (by omega : 0 ≤ d)
    have h1 : (n : Int) ≤ 2305843009213693952 := by omega
    rw [spanOut_ok h1]
    by_cases h0 : n = 0
    · subst h0
      have hm := moment_yes (d := 0) (by omega) (by omega)
      rw [show ((0 : Nat) : Int) = 0 from rfl]
      clear h h1
      go_enter Tryd.func13, Tryd.ntmps13
      go_wp2_with (go_at_call 41; refine (span_any _ _).mono ?_; rw [hm]; rintro e w1 ⟨rfl, rfl⟩)
      go_ret2
      exact ⟨rfl, Below.refl _ _⟩
    · exact refPrint_ok n w (by omega) h1
end Go.Proofs.YthbphanlmhghdaaDoor
