/- THE LAW 'TimesGreat': its cases brought together. -/
import Derived.Test.YthbphanlmhghdaaDoorLg
namespace Go.Proofs.YthbphanlmhghdaaDoor
open Go.RowKit

theorem acc_same {N P M Q d : Int} (r : TM.right N P) (r' : TM.right M Q) (h : N * Q = M * P) : TM.accOut N P d = TM.accOut M Q d := by
  by_cases hd : d < 0 ∨ 2305843009213693952 < d
  · rw [TM.accOut_span r hd, TM.accOut_span r' hd]
  · have e : N * d / P = M * d / Q := Int.le_antisymm (TM.mono r.2.2.1 r'.2.2.1 (by omega) (Int.le_of_eq h)) (TM.mono r'.2.2.1 r.2.2.1 (by omega) (Int.le_of_eq h.symm))
    by_cases hm : 2305843009213693952 < N * d / P
    · rw [TM.accOut_many r hd hm, TM.accOut_many r' hd (by rw [← e]; exact hm)]
    · rw [TM.accOut_ok r hd hm, TM.accOut_ok r' hd (by rw [← e]; exact hm), e]

set_option maxRecDepth 100000 in
theorem great_any (N P M Q U V d : Int) (w : World) (hE : Env w) : Calls Tryd.prog 10 #[.agg #[.int .i64 N, .int .i64 P], .agg #[.int .i64 M, .int .i64 Q], .agg #[.int .i64 U, .int .i64 V], .int .i64 d] w fun e w' => e = .returned (.bool true) ∧ Below w.heap.size w w' := by
  by_cases rab : TM.right N P ∧ TM.right M Q
  case neg =>
    have rab' : ¬ TM.right N P ∨ ¬ TM.right M Q := by
      by_cases x : TM.right N P
      · exact .inr (fun y => rab ⟨x, y⟩)
      · exact .inl x
    exact great_bad N P M Q U V d w hE _ _ _ _ _ _ (Lib.hid (cmpOut_bad rab')) (Lib.hid rfl) (Lib.hid rfl) (Lib.hid (cmpOut_bad rab'.symm))
  obtain ⟨ra, rb⟩ := rab
  by_cases rc : TM.right U V
  case neg => exact great_bad2 N P M Q U V d w hE _ _ _ _ _ (Lib.hid (cmpOut_ok ra rb)) (Lib.hid (cmpOut_bad (.inr rc))) (Lib.hid rfl) (Lib.hid (cmpOut_ok rb ra))
  have hP := ra.2.2.1
  have hQ := rb.2.2.1
  have hV := rc.2.2.1
  obtain ⟨g1, l1, l2, l3, l4, l5⟩ := TM.lowest_facts N P ra.1 hP
  have rl : TM.right (N / TM.gcdI N P) (P / TM.gcdI N P) := ⟨l1, Int.le_trans l2 ra.2.1, l3, Int.le_trans l4 ra.2.2.2⟩
  have HL1 : Hid (lowN N P = N / TM.gcdI N P) := Lib.hid (if_pos ra)
  have HL2 : Hid (lowP N P = P / TM.gcdI N P) := Lib.hid (if_pos ra)
  have HL3 : Hid (lowE N P = 0) := Lib.hid (if_pos ra)
  have hal := cmpOut_ok ra rl
  rw [l5, cmp_self] at hal
  have Hal := Lib.hid hal
  have H3 : TM.accOut (N / TM.gcdI N P) (P / TM.gcdI N P) d = TM.accOut N P d := (acc_same ra rl l5).symm
  have Hab := cmpOut_ok ra rb
  have Hbc := Lib.hid (cmpOut_ok rb rc)
  have Hac := Lib.hid (cmpOut_ok ra rc)
  have Hba := cmpOut_ok rb ra
  rw [TM.cmpI_swap (N * Q) (M * P)] at Hba
  have vy := TM.cmpI_vals (M * V) (U * Q)
  have vz := TM.cmpI_vals (N * V) (U * P)
  rcases TM.cmpI_vals (N * Q) (M * P) with ⟨e, h⟩ | ⟨e, h⟩ | ⟨e, h⟩
  · rw [e] at Hab Hba
    have Hab := Lib.hid Hab
    have Hba : Hid (cmpOut M Q N P = (1, 0)) := Lib.hid Hba
    have cases4 : (∃ m, TM.accOut N P d = (m, 2)) ∨ (∃ m n, TM.accOut N P d = (m, 0) ∧ TM.accOut M Q d = (n, 0) ∧ m ≤ n) ∨ (∃ m n, TM.accOut N P d = (m, 0) ∧ TM.accOut M Q d = (n, 3)) ∨ (∃ m n, TM.accOut N P d = (m, 3) ∧ TM.accOut M Q d = (n, 3)) := by
      rcases TM.accOut_cases N P d with ⟨a, k⟩ | ⟨_, b, k⟩ | ⟨_, b, c, g, k⟩ | ⟨_, b, c, g0, g, k⟩
      · exact absurd ra a
      · exact .inl ⟨_, k⟩
      · have hm := TM.mono (d := d) hP hQ b (Int.le_of_lt h)
        exact .inr (.inr (.inr ⟨_, _, k, TM.accOut_many rb (by omega) (by omega)⟩))
      · have hm := TM.mono (d := d) hP hQ b (Int.le_of_lt h)
        by_cases x : 2305843009213693952 < M * d / Q
        · exact .inr (.inr (.inl ⟨_, _, k, TM.accOut_many rb (by omega) x⟩))
        · exact .inr (.inl ⟨_, _, k, TM.accOut_ok rb (by omega) x, hm⟩)
    by_cases y0 : TM.cmpI (M * V) (U * Q) ≤ 0
    · have ty : decide (TM.cmpI (M * V) (U * Q) ≤ 0) = true := by rw [decide_eq_true_eq]; exact y0
      have hz := TM.great_trans (N3 := U) hP hQ hV (Int.le_of_lt h) (by omega)
      have tz : decide (0 < TM.cmpI (N * V) (U * P)) = false := by rw [decide_eq_false_iff_not]; omega
      rcases cases4 with ⟨m, k⟩ | ⟨m, n, k, k', o⟩ | ⟨m, n, k, k'⟩ | ⟨m, n, k, k'⟩
      · exact great_less_span_b N P M Q U V d w hE _ _ _ _ _ _ _ Hab Hbc Hac Hba HL1 HL2 HL3 Hal (Lib.hid k) (Lib.hid rfl) (Lib.hid (H3.trans k)) ty tz
      · exact great_less_ok_b N P M Q U V d w hE _ _ _ _ _ _ Hab Hbc Hac Hba HL1 HL2 HL3 Hal (Lib.hid k) (Lib.hid k') (Lib.hid (H3.trans k)) ty tz (by rw [decide_eq_true_eq]; exact o)
      · exact great_less_many_b N P M Q U V d w hE _ _ _ _ _ _ Hab Hbc Hac Hba HL1 HL2 HL3 Hal (Lib.hid k) (Lib.hid k') (Lib.hid (H3.trans k)) ty tz
      · exact great_less_both_b N P M Q U V d w hE _ _ _ _ _ _ Hab Hbc Hac Hba HL1 HL2 HL3 Hal (Lib.hid k) (Lib.hid k') (Lib.hid (H3.trans k)) ty tz
    · have ty : decide (TM.cmpI (M * V) (U * Q) ≤ 0) = false := by rw [decide_eq_false_iff_not]; exact y0
      rcases cases4 with ⟨m, k⟩ | ⟨m, n, k, k', o⟩ | ⟨m, n, k, k'⟩ | ⟨m, n, k, k'⟩
      · exact great_less_span_a N P M Q U V d w hE _ _ _ _ _ _ _ Hab Hbc Hac Hba HL1 HL2 HL3 Hal (Lib.hid k) (Lib.hid rfl) (Lib.hid (H3.trans k)) ty
      · exact great_less_ok_a N P M Q U V d w hE _ _ _ _ _ _ Hab Hbc Hac Hba HL1 HL2 HL3 Hal (Lib.hid k) (Lib.hid k') (Lib.hid (H3.trans k)) ty (by rw [decide_eq_true_eq]; exact o)
      · exact great_less_many_a N P M Q U V d w hE _ _ _ _ _ _ Hab Hbc Hac Hba HL1 HL2 HL3 Hal (Lib.hid k) (Lib.hid k') (Lib.hid (H3.trans k)) ty
      · exact great_less_both_a N P M Q U V d w hE _ _ _ _ _ _ Hab Hbc Hac Hba HL1 HL2 HL3 Hal (Lib.hid k) (Lib.hid k') (Lib.hid (H3.trans k)) ty
  · rw [e] at Hab Hba
    have Hab := Lib.hid Hab
    have Hba : Hid (cmpOut M Q N P = (0, 0)) := Lib.hid Hba
    obtain ⟨m, e1, k⟩ : ∃ m e1, TM.accOut N P d = (m, e1) := ⟨_, _, rfl⟩
    have k' : TM.accOut M Q d = (m, e1) := (acc_same ra rb h).symm.trans k
    rcases vy with ⟨v, hv⟩ | ⟨v, hv⟩ | ⟨v, hv⟩
    · have hz := TM.great_trans hP hQ hV (Int.le_of_eq h) (Int.le_of_lt hv)
      exact great_same_c N P M Q U V d w hE _ _ _ _ _ _ Hab Hbc Hac Hba HL1 HL2 HL3 Hal (Lib.hid k) (Lib.hid k') (Lib.hid (H3.trans k)) (by rw [decide_eq_true_eq]; omega) (by rw [decide_eq_false_iff_not]; omega) (by rw [beq_eq_false_iff_ne]; omega)
    · have hz := TM.great_trans hP hQ hV (Int.le_of_eq h) (Int.le_of_eq hv)
      have hz' := TM.great_trans hV hQ hP (Int.le_of_eq hv.symm) (Int.le_of_eq h.symm)
      have e0 : TM.cmpI (N * V) (U * P) = 0 := by omega
      have Hbc' := Hbc.out
      have Hac' := Hac.out
      rw [v] at Hbc'
      rw [e0] at Hac'
      exact great_same_b N P M Q U V d w hE _ _ _ _ Hab (Lib.hid Hbc') (Lib.hid Hac') Hba HL1 HL2 HL3 Hal (Lib.hid k) (Lib.hid k') (Lib.hid (H3.trans k))
    · exact great_same_a N P M Q U V d w hE _ _ _ _ _ _ Hab Hbc Hac Hba HL1 HL2 HL3 Hal (Lib.hid k) (Lib.hid k') (Lib.hid (H3.trans k)) (by rw [decide_eq_false_iff_not]; omega) (by rw [beq_eq_false_iff_ne]; omega)
  · rw [e] at Hab Hba
    have Hab := Lib.hid Hab
    have Hba : Hid (cmpOut M Q N P = (-1, 0)) := Lib.hid Hba
    rcases TM.accOut_cases N P d with ⟨a, k⟩ | ⟨_, b, k⟩ | ⟨_, b, c, g, k⟩ | ⟨_, b, c, g0, g, k⟩
    · exact absurd ra a
    · exact great_more_span N P M Q U V d w hE _ _ _ _ _ _ _ Hab Hbc Hac Hba HL1 HL2 HL3 Hal (Lib.hid k) (Lib.hid rfl) (Lib.hid (H3.trans k))
    · exact great_more_many N P M Q U V d w hE _ _ _ _ _ _ _ Hab Hbc Hac Hba HL1 HL2 HL3 Hal (Lib.hid k) (Lib.hid rfl) (Lib.hid (H3.trans k))
    · have hm := TM.mono (d := d) hQ hP b (Int.le_of_lt h)
      exact great_more_ok N P M Q U V d w hE _ _ _ _ _ _ Hab Hbc Hac Hba HL1 HL2 HL3 Hal (Lib.hid k) (Lib.hid (TM.accOut_ok rb (by omega) (by omega))) (Lib.hid (H3.trans k)) (by rw [decide_eq_true_eq]; exact hm)
end Go.Proofs.YthbphanlmhghdaaDoor
