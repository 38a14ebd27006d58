/- THE LAW 'TimesBack': its cases brought together. -/
import Derived.Test.YthbphanlmhghdaaDoorLi
namespace Go.Proofs.YthbphanlmhghdaaDoor
open Go.RowKit

theorem text_size (l : List UInt8) (h : l.length ≤ 200) : (⟨l.toArray⟩ : ByteArray).size ≤ 9223372036854775000 := by
  show l.toArray.size ≤ _
  rw [List.size_toArray]
  omega
theorem rpr_short {N P : Int} (h : TM.right N P) : (rprOut N P).1.length ≤ 200 := by
  rw [rprOut_ok h]
  obtain ⟨h1, h2, h3, h4⟩ := h
  have a := dec_short N.toNat (by omega)
  have b := span_short P.toNat (by omega)
  simp only [List.length_append, List.length_cons]
  omega
theorem rpr_back {N P : Int} (h : TM.right N P) : TM.parseRate (⟨(rprOut N P).1.toArray⟩ : ByteArray).data.toList = ((N, P), 0, 0) := by
  rw [rprOut_ok h]
  obtain ⟨h1, h2, h3, h4⟩ := h
  have e := TM.rate_back N.toNat P.toNat (by omega) (by omega) (by omega)
  rw [Int.toNat_of_nonneg h1, Int.toNat_of_nonneg (by omega : 0 ≤ P)] at e
  exact e

set_option maxRecDepth 100000 in
theorem back_any (d N P : Int) (s : ByteArray) (w : World) (hE : Env w) (hs : s.size ≤ 9223372036854775000) :
    Calls Tryd.prog 7 #[.int .i64 d, .agg #[.int .i64 N, .int .i64 P], .string s] w fun e w' => e = .returned (.bool true) ∧ Below w.heap.size w w' := by
  have HSz := Lib.hid hs
  have so := TM.parseSpan_out s.data.toList
  have qo := TM.parseRate_out s.data.toList
  obtain ⟨v, f, k, hv⟩ : ∃ v f k, TM.parseSpan s.data.toList = (v, f, k) := ⟨_, _, _, rfl⟩
  obtain ⟨a, b, g, i, hq⟩ : ∃ a b g i, TM.parseRate s.data.toList = ((a, b), g, i) := ⟨_, _, _, _, rfl⟩
  rw [hv] at so
  rw [hq] at qo
  have so' : (f = 0 ∧ 0 ≤ v ∧ v ≤ 2305843009213693952 ∧ k = 0) ∨ ((f = 20 ∨ f = 2) ∧ v = 0 ∧ 0 ≤ k ∧ k ≤ (s.data.toList.length : Int)) := so
  have qo' : (g = 0 ∧ 0 ≤ a ∧ a ≤ 1099511627776 ∧ 1 ≤ b ∧ b ≤ 2305843009213693952 ∧ i = 0) ∨ ((g = 20 ∨ g = 2) ∧ (a, b) = (0, 0) ∧ 0 ≤ i ∧ i ≤ (s.data.toList.length : Int)) := qo
  rw [len_list] at so' qo'
  clear so qo
  by_cases l1 : d < 0
  · skip
    by_cases r : TM.right N P
    · skip
      rcases so' with ⟨rfl, s1, s2, rfl⟩ | ⟨s0, rfl, s2, s3⟩
      · obtain ⟨m, rfl⟩ := Int.eq_ofNat_of_zero_le s1
        rcases qo' with ⟨rfl, q1, q2, q3, q4, rfl⟩ | ⟨q0, q1, q2, q3⟩
        · exact back_low_ok_ok_ok d N P s w hE HSz (Lib.hid (spanOut_bad (.inl l1))) (by rw [decide_eq_false_iff_not]; omega) (Lib.hid (by rw [rprOut_ok r])) (Lib.hid (text_size _ (rpr_short r))) (Lib.hid (rpr_back r)) m (Lib.hid hv) (Lib.hid (spanOut_ok s2)) (Lib.hid (text_size _ (Nat.le_trans (span_short m s2) (by omega)))) (Lib.hid (TM.span_back m s2)) a b (Lib.hid hq) (Lib.hid (rateOut_ok ⟨q1, q2, q3, q4⟩))
        · obtain ⟨rfl, rfl⟩ := Prod.mk.inj q1
          exact back_low_ok_ok_bad d N P s w hE HSz (Lib.hid (spanOut_bad (.inl l1))) (by rw [decide_eq_false_iff_not]; omega) (Lib.hid (by rw [rprOut_ok r])) (Lib.hid (text_size _ (rpr_short r))) (Lib.hid (rpr_back r)) m (Lib.hid hv) (Lib.hid (spanOut_ok s2)) (Lib.hid (text_size _ (Nat.le_trans (span_short m s2) (by omega)))) (Lib.hid (TM.span_back m s2)) g i (Lib.hid hq) (by rw [bne_iff_ne]; omega) (by rw [decide_eq_true_eq]; exact q2) (by rw [decide_eq_true_eq]; exact q3)
      · skip
        rcases qo' with ⟨rfl, q1, q2, q3, q4, rfl⟩ | ⟨q0, q1, q2, q3⟩
        · exact back_low_ok_bad_ok d N P s w hE HSz (Lib.hid (spanOut_bad (.inl l1))) (by rw [decide_eq_false_iff_not]; omega) (Lib.hid (by rw [rprOut_ok r])) (Lib.hid (text_size _ (rpr_short r))) (Lib.hid (rpr_back r)) f k (Lib.hid hv) (by rw [beq_eq_false_iff_ne]; omega) (by rw [decide_eq_false_iff_not]; omega) (by rw [decide_eq_false_iff_not]; omega) a b (Lib.hid hq) (Lib.hid (rateOut_ok ⟨q1, q2, q3, q4⟩))
        · obtain ⟨rfl, rfl⟩ := Prod.mk.inj q1
          exact back_low_ok_bad_bad d N P s w hE HSz (Lib.hid (spanOut_bad (.inl l1))) (by rw [decide_eq_false_iff_not]; omega) (Lib.hid (by rw [rprOut_ok r])) (Lib.hid (text_size _ (rpr_short r))) (Lib.hid (rpr_back r)) f k (Lib.hid hv) (by rw [beq_eq_false_iff_ne]; omega) (by rw [decide_eq_false_iff_not]; omega) (by rw [decide_eq_false_iff_not]; omega) g i (Lib.hid hq) (by rw [bne_iff_ne]; omega) (by rw [decide_eq_true_eq]; exact q2) (by rw [decide_eq_true_eq]; exact q3)
    · skip
      rcases so' with ⟨rfl, s1, s2, rfl⟩ | ⟨s0, rfl, s2, s3⟩
      · obtain ⟨m, rfl⟩ := Int.eq_ofNat_of_zero_le s1
        rcases qo' with ⟨rfl, q1, q2, q3, q4, rfl⟩ | ⟨q0, q1, q2, q3⟩
        · exact back_low_bad_ok_ok d N P s w hE HSz (Lib.hid (spanOut_bad (.inl l1))) (by rw [decide_eq_false_iff_not]; omega) (Lib.hid (rprOut_bad r)) m (Lib.hid hv) (Lib.hid (spanOut_ok s2)) (Lib.hid (text_size _ (Nat.le_trans (span_short m s2) (by omega)))) (Lib.hid (TM.span_back m s2)) a b (Lib.hid hq) (Lib.hid (rateOut_ok ⟨q1, q2, q3, q4⟩))
        · obtain ⟨rfl, rfl⟩ := Prod.mk.inj q1
          exact back_low_bad_ok_bad d N P s w hE HSz (Lib.hid (spanOut_bad (.inl l1))) (by rw [decide_eq_false_iff_not]; omega) (Lib.hid (rprOut_bad r)) m (Lib.hid hv) (Lib.hid (spanOut_ok s2)) (Lib.hid (text_size _ (Nat.le_trans (span_short m s2) (by omega)))) (Lib.hid (TM.span_back m s2)) g i (Lib.hid hq) (by rw [bne_iff_ne]; omega) (by rw [decide_eq_true_eq]; exact q2) (by rw [decide_eq_true_eq]; exact q3)
      · skip
        rcases qo' with ⟨rfl, q1, q2, q3, q4, rfl⟩ | ⟨q0, q1, q2, q3⟩
        · exact back_low_bad_bad_ok d N P s w hE HSz (Lib.hid (spanOut_bad (.inl l1))) (by rw [decide_eq_false_iff_not]; omega) (Lib.hid (rprOut_bad r)) f k (Lib.hid hv) (by rw [beq_eq_false_iff_ne]; omega) (by rw [decide_eq_false_iff_not]; omega) (by rw [decide_eq_false_iff_not]; omega) a b (Lib.hid hq) (Lib.hid (rateOut_ok ⟨q1, q2, q3, q4⟩))
        · obtain ⟨rfl, rfl⟩ := Prod.mk.inj q1
          exact back_low_bad_bad_bad d N P s w hE HSz (Lib.hid (spanOut_bad (.inl l1))) (by rw [decide_eq_false_iff_not]; omega) (Lib.hid (rprOut_bad r)) f k (Lib.hid hv) (by rw [beq_eq_false_iff_ne]; omega) (by rw [decide_eq_false_iff_not]; omega) (by rw [decide_eq_false_iff_not]; omega) g i (Lib.hid hq) (by rw [bne_iff_ne]; omega) (by rw [decide_eq_true_eq]; exact q2) (by rw [decide_eq_true_eq]; exact q3)
  by_cases l2 : 2305843009213693952 < d
  · skip
    by_cases r : TM.right N P
    · skip
      rcases so' with ⟨rfl, s1, s2, rfl⟩ | ⟨s0, rfl, s2, s3⟩
      · obtain ⟨m, rfl⟩ := Int.eq_ofNat_of_zero_le s1
        rcases qo' with ⟨rfl, q1, q2, q3, q4, rfl⟩ | ⟨q0, q1, q2, q3⟩
        · exact back_high_ok_ok_ok d N P s w hE HSz (Lib.hid (spanOut_bad (.inr l2))) (by rw [decide_eq_true_eq]; omega) (by rw [decide_eq_false_iff_not]; omega) (Lib.hid (by rw [rprOut_ok r])) (Lib.hid (text_size _ (rpr_short r))) (Lib.hid (rpr_back r)) m (Lib.hid hv) (Lib.hid (spanOut_ok s2)) (Lib.hid (text_size _ (Nat.le_trans (span_short m s2) (by omega)))) (Lib.hid (TM.span_back m s2)) a b (Lib.hid hq) (Lib.hid (rateOut_ok ⟨q1, q2, q3, q4⟩))
        · obtain ⟨rfl, rfl⟩ := Prod.mk.inj q1
          exact back_high_ok_ok_bad d N P s w hE HSz (Lib.hid (spanOut_bad (.inr l2))) (by rw [decide_eq_true_eq]; omega) (by rw [decide_eq_false_iff_not]; omega) (Lib.hid (by rw [rprOut_ok r])) (Lib.hid (text_size _ (rpr_short r))) (Lib.hid (rpr_back r)) m (Lib.hid hv) (Lib.hid (spanOut_ok s2)) (Lib.hid (text_size _ (Nat.le_trans (span_short m s2) (by omega)))) (Lib.hid (TM.span_back m s2)) g i (Lib.hid hq) (by rw [bne_iff_ne]; omega) (by rw [decide_eq_true_eq]; exact q2) (by rw [decide_eq_true_eq]; exact q3)
      · skip
        rcases qo' with ⟨rfl, q1, q2, q3, q4, rfl⟩ | ⟨q0, q1, q2, q3⟩
        · exact back_high_ok_bad_ok d N P s w hE HSz (Lib.hid (spanOut_bad (.inr l2))) (by rw [decide_eq_true_eq]; omega) (by rw [decide_eq_false_iff_not]; omega) (Lib.hid (by rw [rprOut_ok r])) (Lib.hid (text_size _ (rpr_short r))) (Lib.hid (rpr_back r)) f k (Lib.hid hv) (by rw [beq_eq_false_iff_ne]; omega) (by rw [decide_eq_false_iff_not]; omega) (by rw [decide_eq_false_iff_not]; omega) a b (Lib.hid hq) (Lib.hid (rateOut_ok ⟨q1, q2, q3, q4⟩))
        · obtain ⟨rfl, rfl⟩ := Prod.mk.inj q1
          exact back_high_ok_bad_bad d N P s w hE HSz (Lib.hid (spanOut_bad (.inr l2))) (by rw [decide_eq_true_eq]; omega) (by rw [decide_eq_false_iff_not]; omega) (Lib.hid (by rw [rprOut_ok r])) (Lib.hid (text_size _ (rpr_short r))) (Lib.hid (rpr_back r)) f k (Lib.hid hv) (by rw [beq_eq_false_iff_ne]; omega) (by rw [decide_eq_false_iff_not]; omega) (by rw [decide_eq_false_iff_not]; omega) g i (Lib.hid hq) (by rw [bne_iff_ne]; omega) (by rw [decide_eq_true_eq]; exact q2) (by rw [decide_eq_true_eq]; exact q3)
    · skip
      rcases so' with ⟨rfl, s1, s2, rfl⟩ | ⟨s0, rfl, s2, s3⟩
      · obtain ⟨m, rfl⟩ := Int.eq_ofNat_of_zero_le s1
        rcases qo' with ⟨rfl, q1, q2, q3, q4, rfl⟩ | ⟨q0, q1, q2, q3⟩
        · exact back_high_bad_ok_ok d N P s w hE HSz (Lib.hid (spanOut_bad (.inr l2))) (by rw [decide_eq_true_eq]; omega) (by rw [decide_eq_false_iff_not]; omega) (Lib.hid (rprOut_bad r)) m (Lib.hid hv) (Lib.hid (spanOut_ok s2)) (Lib.hid (text_size _ (Nat.le_trans (span_short m s2) (by omega)))) (Lib.hid (TM.span_back m s2)) a b (Lib.hid hq) (Lib.hid (rateOut_ok ⟨q1, q2, q3, q4⟩))
        · obtain ⟨rfl, rfl⟩ := Prod.mk.inj q1
          exact back_high_bad_ok_bad d N P s w hE HSz (Lib.hid (spanOut_bad (.inr l2))) (by rw [decide_eq_true_eq]; omega) (by rw [decide_eq_false_iff_not]; omega) (Lib.hid (rprOut_bad r)) m (Lib.hid hv) (Lib.hid (spanOut_ok s2)) (Lib.hid (text_size _ (Nat.le_trans (span_short m s2) (by omega)))) (Lib.hid (TM.span_back m s2)) g i (Lib.hid hq) (by rw [bne_iff_ne]; omega) (by rw [decide_eq_true_eq]; exact q2) (by rw [decide_eq_true_eq]; exact q3)
      · skip
        rcases qo' with ⟨rfl, q1, q2, q3, q4, rfl⟩ | ⟨q0, q1, q2, q3⟩
        · exact back_high_bad_bad_ok d N P s w hE HSz (Lib.hid (spanOut_bad (.inr l2))) (by rw [decide_eq_true_eq]; omega) (by rw [decide_eq_false_iff_not]; omega) (Lib.hid (rprOut_bad r)) f k (Lib.hid hv) (by rw [beq_eq_false_iff_ne]; omega) (by rw [decide_eq_false_iff_not]; omega) (by rw [decide_eq_false_iff_not]; omega) a b (Lib.hid hq) (Lib.hid (rateOut_ok ⟨q1, q2, q3, q4⟩))
        · obtain ⟨rfl, rfl⟩ := Prod.mk.inj q1
          exact back_high_bad_bad_bad d N P s w hE HSz (Lib.hid (spanOut_bad (.inr l2))) (by rw [decide_eq_true_eq]; omega) (by rw [decide_eq_false_iff_not]; omega) (Lib.hid (rprOut_bad r)) f k (Lib.hid hv) (by rw [beq_eq_false_iff_ne]; omega) (by rw [decide_eq_false_iff_not]; omega) (by rw [decide_eq_false_iff_not]; omega) g i (Lib.hid hq) (by rw [bne_iff_ne]; omega) (by rw [decide_eq_true_eq]; exact q2) (by rw [decide_eq_true_eq]; exact q3)
  obtain ⟨n, rfl⟩ := Int.eq_ofNat_of_zero_le (by omega : 0 ≤ d)
  have l3 : (n : Int) ≤ 2305843009213693952 := by omega
  by_cases r : TM.right N P
  · skip
    rcases so' with ⟨rfl, s1, s2, rfl⟩ | ⟨s0, rfl, s2, s3⟩
    · obtain ⟨m, rfl⟩ := Int.eq_ofNat_of_zero_le s1
      rcases qo' with ⟨rfl, q1, q2, q3, q4, rfl⟩ | ⟨q0, q1, q2, q3⟩
      · exact back_ok_ok_ok_ok n N P s w hE HSz (Lib.hid (spanOut_ok l3)) (Lib.hid (text_size _ (Nat.le_trans (span_short n l3) (by omega)))) (Lib.hid (TM.span_back n l3)) (Lib.hid (by rw [rprOut_ok r])) (Lib.hid (text_size _ (rpr_short r))) (Lib.hid (rpr_back r)) m (Lib.hid hv) (Lib.hid (spanOut_ok s2)) (Lib.hid (text_size _ (Nat.le_trans (span_short m s2) (by omega)))) (Lib.hid (TM.span_back m s2)) a b (Lib.hid hq) (Lib.hid (rateOut_ok ⟨q1, q2, q3, q4⟩))
      · obtain ⟨rfl, rfl⟩ := Prod.mk.inj q1
        exact back_ok_ok_ok_bad n N P s w hE HSz (Lib.hid (spanOut_ok l3)) (Lib.hid (text_size _ (Nat.le_trans (span_short n l3) (by omega)))) (Lib.hid (TM.span_back n l3)) (Lib.hid (by rw [rprOut_ok r])) (Lib.hid (text_size _ (rpr_short r))) (Lib.hid (rpr_back r)) m (Lib.hid hv) (Lib.hid (spanOut_ok s2)) (Lib.hid (text_size _ (Nat.le_trans (span_short m s2) (by omega)))) (Lib.hid (TM.span_back m s2)) g i (Lib.hid hq) (by rw [bne_iff_ne]; omega) (by rw [decide_eq_true_eq]; exact q2) (by rw [decide_eq_true_eq]; exact q3)
    · skip
      rcases qo' with ⟨rfl, q1, q2, q3, q4, rfl⟩ | ⟨q0, q1, q2, q3⟩
      · exact back_ok_ok_bad_ok n N P s w hE HSz (Lib.hid (spanOut_ok l3)) (Lib.hid (text_size _ (Nat.le_trans (span_short n l3) (by omega)))) (Lib.hid (TM.span_back n l3)) (Lib.hid (by rw [rprOut_ok r])) (Lib.hid (text_size _ (rpr_short r))) (Lib.hid (rpr_back r)) f k (Lib.hid hv) (by rw [beq_eq_false_iff_ne]; omega) (by rw [decide_eq_false_iff_not]; omega) (by rw [decide_eq_false_iff_not]; omega) a b (Lib.hid hq) (Lib.hid (rateOut_ok ⟨q1, q2, q3, q4⟩))
      · obtain ⟨rfl, rfl⟩ := Prod.mk.inj q1
        exact back_ok_ok_bad_bad n N P s w hE HSz (Lib.hid (spanOut_ok l3)) (Lib.hid (text_size _ (Nat.le_trans (span_short n l3) (by omega)))) (Lib.hid (TM.span_back n l3)) (Lib.hid (by rw [rprOut_ok r])) (Lib.hid (text_size _ (rpr_short r))) (Lib.hid (rpr_back r)) f k (Lib.hid hv) (by rw [beq_eq_false_iff_ne]; omega) (by rw [decide_eq_false_iff_not]; omega) (by rw [decide_eq_false_iff_not]; omega) g i (Lib.hid hq) (by rw [bne_iff_ne]; omega) (by rw [decide_eq_true_eq]; exact q2) (by rw [decide_eq_true_eq]; exact q3)
  · skip
    rcases so' with ⟨rfl, s1, s2, rfl⟩ | ⟨s0, rfl, s2, s3⟩
    · obtain ⟨m, rfl⟩ := Int.eq_ofNat_of_zero_le s1
      rcases qo' with ⟨rfl, q1, q2, q3, q4, rfl⟩ | ⟨q0, q1, q2, q3⟩
      · exact back_ok_bad_ok_ok n N P s w hE HSz (Lib.hid (spanOut_ok l3)) (Lib.hid (text_size _ (Nat.le_trans (span_short n l3) (by omega)))) (Lib.hid (TM.span_back n l3)) (Lib.hid (rprOut_bad r)) m (Lib.hid hv) (Lib.hid (spanOut_ok s2)) (Lib.hid (text_size _ (Nat.le_trans (span_short m s2) (by omega)))) (Lib.hid (TM.span_back m s2)) a b (Lib.hid hq) (Lib.hid (rateOut_ok ⟨q1, q2, q3, q4⟩))
      · obtain ⟨rfl, rfl⟩ := Prod.mk.inj q1
        exact back_ok_bad_ok_bad n N P s w hE HSz (Lib.hid (spanOut_ok l3)) (Lib.hid (text_size _ (Nat.le_trans (span_short n l3) (by omega)))) (Lib.hid (TM.span_back n l3)) (Lib.hid (rprOut_bad r)) m (Lib.hid hv) (Lib.hid (spanOut_ok s2)) (Lib.hid (text_size _ (Nat.le_trans (span_short m s2) (by omega)))) (Lib.hid (TM.span_back m s2)) g i (Lib.hid hq) (by rw [bne_iff_ne]; omega) (by rw [decide_eq_true_eq]; exact q2) (by rw [decide_eq_true_eq]; exact q3)
    · skip
      rcases qo' with ⟨rfl, q1, q2, q3, q4, rfl⟩ | ⟨q0, q1, q2, q3⟩
      · exact back_ok_bad_bad_ok n N P s w hE HSz (Lib.hid (spanOut_ok l3)) (Lib.hid (text_size _ (Nat.le_trans (span_short n l3) (by omega)))) (Lib.hid (TM.span_back n l3)) (Lib.hid (rprOut_bad r)) f k (Lib.hid hv) (by rw [beq_eq_false_iff_ne]; omega) (by rw [decide_eq_false_iff_not]; omega) (by rw [decide_eq_false_iff_not]; omega) a b (Lib.hid hq) (Lib.hid (rateOut_ok ⟨q1, q2, q3, q4⟩))
      · obtain ⟨rfl, rfl⟩ := Prod.mk.inj q1
        exact back_ok_bad_bad_bad n N P s w hE HSz (Lib.hid (spanOut_ok l3)) (Lib.hid (text_size _ (Nat.le_trans (span_short n l3) (by omega)))) (Lib.hid (TM.span_back n l3)) (Lib.hid (rprOut_bad r)) f k (Lib.hid hv) (by rw [beq_eq_false_iff_ne]; omega) (by rw [decide_eq_false_iff_not]; omega) (by rw [decide_eq_false_iff_not]; omega) g i (Lib.hid hq) (by rw [bne_iff_ne]; omega) (by rw [decide_eq_true_eq]; exact q2) (by rw [decide_eq_true_eq]; exact q3)
end Go.Proofs.YthbphanlmhghdaaDoor
