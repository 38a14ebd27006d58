/- THE WALK of the document's ParseSpan. -/
import Derived.Test.YthbphanlmhghdaaDoorWr
namespace Go.Proofs.YthbphanlmhghdaaDoor
open Go.RowKit

set_option maxRecDepth 100000 in
set_option maxHeartbeats 2000000 in
theorem refParse_any (s : ByteArray) (w : World) (hs : s.size ≤ 9223372036854775000) :
    Calls Tryd.prog 15 #[.string s] w fun e w' => e = .returned (.tuple #[.int .i64 (TM.parseSpan s.data.toList).1, .int .i64 (TM.parseSpan s.data.toList).2.1, .int .i64 (TM.parseSpan s.data.toList).2.2]) ∧ Below w.heap.size w w' := by
  obtain ⟨R, hR⟩ : ∃ R, R = TM.parseSpan s.data.toList := ⟨_, rfl⟩
  rw [← hR]
  have HR := Lib.hid hR
  clear hR
  go_enter Tryd.func15, Tryd.ntmps15
  go_wp2
  go_loopw [5, 6, 7] (fun p q r wr => ∃ (a f m : Nat) (sum : Int), p = .int .i64 sum ∧ q = .int .i64 ((f : Int) - 1) ∧ r = .int .i64 a ∧ f ≤ 6 ∧ a ≤ s.size ∧ 0 ≤ sum ∧ sum ≤ 2305843009213693952 ∧ Below w.heap.size w wr ∧ 7 ≤ m + 1 + f ∧ TM.parseGo s.data.toList (m + 1) a f sum = TM.parseSpan s.data.toList) (fun _ q _ _ => (6 - intOf q).toNat)
  case atStart => exact ⟨0, 0, 6, 0, rfl, rfl, rfl, by omega, by omega, by omega, by omega, Below.refl _ _, by omega, rfl⟩
  case round =>
    obtain ⟨a, f, m, sum, rfl, rfl, rfl, hf, ha, hs0, hs1, hB, hm, hgo⟩ := hrel
    have GO := Lib.hid hgo
    clear hgo
    by_cases c0 : f = 6
    · have ans := Lib.hid (HR.out.trans (GO.out.symm.trans (TM.pg1 (.inl c0))))
      have t0 : ((f : Int) - 1 == 5) = true := by rw [beq_iff_eq]; omega
      clear c0
      go_wp2
      go_ret3
      exact ⟨ret_parse ans.out, hB⟩
    · have t0 : ((f : Int) - 1 == 5) = false := by rw [beq_eq_false_iff_ne]; omega
      have hD1 := TM.digEnd_ge s.data.toList a
      have hD2 := TM.digEnd_le s.data.toList a (by rw [len_list]; exact ha)
      rw [len_list] at hD2
      obtain ⟨D, hD⟩ : ∃ D, D = TM.digEnd s.data.toList a := ⟨_, rfl⟩
      rw [← hD] at hD1 hD2
      have HD := Lib.hid hD
      clear hD
      by_cases c1 : D = a
      · have ans := Lib.hid (HR.out.trans (GO.out.symm.trans (TM.pg1 (.inr (by rw [← HD.out]; exact c1)))))
        have hnum : numR s.data.toList a 2305843009213693952 = (0, (a : Int), (a : Int)) := by rw [numR, if_pos (by rw [← HD.out]; exact c1)]
        have HN := Lib.hid hnum
        clear hnum c1
        go_wp2_with (first
          | (go_at_call 47; refine (refNumber_any s a 2305843009213693952 _ (by omega) ha (by omega) (by omega)).mono ?_; rw [HN.out]; rintro e w1 ⟨rfl, rfl⟩))
        go_ret3
        exact ⟨ret_parse ans.out, hB⟩
      · have C1 : ¬ (f = 6 ∨ TM.digEnd s.data.toList a = a) := by rw [← HD.out]; omega
        by_cases c2 : s.data.toList[a]? = some 48 ∧ a + 1 < TM.digEnd s.data.toList a
        · have ans := Lib.hid (HR.out.trans (GO.out.symm.trans (TM.pg2 C1 c2)))
          have hnum : numR s.data.toList a 2305843009213693952 = (0, (a : Int) + 1, (a : Int) + 1) := by rw [numR, if_neg (by rw [← HD.out]; exact c1), if_pos c2]
          have HN := Lib.hid hnum
          clear hnum c1 c2 C1
          go_wp2_with (first
            | (go_at_call 47; refine (refNumber_any s a 2305843009213693952 _ (by omega) ha (by omega) (by omega)).mono ?_; rw [HN.out]; rintro e w1 ⟨rfl, rfl⟩))
          go_ret3
          exact ⟨ret_parse ans.out, hB⟩
        · obtain ⟨n, hn⟩ : ∃ n, n = TM.accN 2305843009213693952 s.data.toList a (TM.digEnd s.data.toList a) := ⟨_, rfl⟩
          have hnb := TM.accN_bd 2305843009213693952 s.data.toList a (by omega) _ (TM.digEnd_ge s.data.toList a) (Nat.le_refl _)
          rw [← hn] at hnb
          obtain ⟨hn0, hn1⟩ := hnb
          have hnum : numR s.data.toList a 2305843009213693952 = (n, (D : Int), -1) := by rw [numR, if_neg (by rw [← HD.out]; exact c1), if_neg c2, ← hn, ← HD.out]
          obtain ⟨K, hK⟩ : ∃ K, K = TM.unitK s.data.toList (TM.digEnd s.data.toList a) f := ⟨_, rfl⟩
          have HN := Lib.hid hnum
          clear hnum
          by_cases c3 : K = 6
          · have ans := Lib.hid (HR.out.trans (GO.out.symm.trans (TM.pg3 C1 c2 (by rw [← hK]; exact c3))))
            obtain ⟨E, hEE⟩ : ∃ E, E = TM.unitFar s.data.toList (TM.digEnd s.data.toList a) f := ⟨_, rfl⟩
            have hunit : unitR s.data.toList D f = (-1, (D : Int), (E : Int)) := by
              rw [unitR, HD.out, ← hK, if_pos c3, ← hEE]
            have HU := Lib.hid hunit
            have HEE := Lib.hid hEE
            clear c1 c2 C1 hunit hEE hn hK c3
            go_wp2_with (first
              | (go_at_call 47; refine (refNumber_any s a 2305843009213693952 _ (by omega) ha (by omega) (by omega)).mono ?_; rw [HN.out]; rintro e w1 ⟨rfl, rfl⟩)
              | (go_at_call 48; refine (refUnitAt_any s D f _ hs hD2 hf).mono ?_; rw [HU.out]; rintro e w2 ⟨rfl, hb2⟩))
            go_ret3
            refine ⟨ret_parse (ans.out.trans ?_), hB.trans (hb2.mono hB.size)⟩
            rw [← HEE.out]
          · have hKK := TM.unitK_le' hK.symm c3
            rw [len_list] at hKK
            obtain ⟨k1, k2, k3⟩ := hKK
            rw [← HD.out] at k3
            obtain ⟨V, hV⟩ : ∃ V, V = TM.ulen K := ⟨_, rfl⟩
            have hVb := TM.ulen_pos K
            rw [← hV] at k3 hVb
            obtain ⟨v1, v2⟩ := hVb
            have hunit : unitR s.data.toList D f = ((K : Int), (D : Int) + V, -1) := by
              rw [unitR, HD.out, ← hK, if_neg c3, ← hV]
            obtain ⟨U, hU⟩ : ∃ U, U = TM.usize K := ⟨_, rfl⟩
            have hUb := TM.usize_int K
            rw [← hU] at hUb
            obtain ⟨u1, u2⟩ := hUb
            have hnU : 0 ≤ n * U := Int.mul_nonneg hn0 (by omega)
            have C3 : TM.unitK s.data.toList (TM.digEnd s.data.toList a) f ≠ 6 := by rw [← hK]; exact c3
            have HU := Lib.hid hunit
            have HS := Lib.hid hU.symm
            clear hunit
            have hpf := TM.part_fits (sum := sum) (n := n) (u := U) u1
            by_cases c4 : 2305843009213693952 < sum + n * U
            · have ans := Lib.hid (HR.out.trans (GO.out.symm.trans (TM.pg4 C1 c2 C3 (by rw [← hn, ← hK, ← hU]; exact c4))))
              have hlt := hpf.mpr c4
              clear c1 c2 C1 C3 hn hK hU hV hpf c4
              go_wp2_with (first
                | (go_at_call 47; refine (refNumber_any s a 2305843009213693952 _ (by omega) ha (by omega) (by omega)).mono ?_; rw [HN.out]; rintro e w1 ⟨rfl, rfl⟩)
                | (go_at_call 48; refine (refUnitAt_any s D f _ hs hD2 hf).mono ?_; rw [HU.out]; rintro e w2 ⟨rfl, hb2⟩)
                | (go_at_call 42; refine (unit_any K _ (by omega)).mono ?_; rw [HS.out]; rintro e w3 ⟨rfl, hb3⟩))
              go_ret3
              exact ⟨ret_parse ans.out, hB.trans ((hb2.mono hB.size).trans (hb3.mono (Nat.le_trans hB.size hb2.size)))⟩
            · have hnl : ¬ (2305843009213693952 - sum) / U < n := fun g => c4 (hpf.mp g)
              have hfit : sum + n * U ≤ 2305843009213693952 := by omega
              by_cases c5 : D + V = s.size
              · have ans := Lib.hid (HR.out.trans (GO.out.symm.trans (TM.pg5 C1 c2 C3 (by rw [← hn, ← hK, ← hU]; exact c4) (by rw [← hK, ← hV, ← HD.out, len_list]; exact c5))))
                rw [← hn, ← hK, ← hU] at ans
                have t5 : ((D : Int) + V == (s.size : Int)) = true := by rw [beq_iff_eq]; omega
                clear c1 c2 C1 C3 hn hK hU hV hpf c4 c5
                go_wp2_with (first
                  | (go_at_call 47; refine (refNumber_any s a 2305843009213693952 _ (by omega) ha (by omega) (by omega)).mono ?_; rw [HN.out]; rintro e w1 ⟨rfl, rfl⟩)
                  | (go_at_call 48; refine (refUnitAt_any s D f _ hs hD2 hf).mono ?_; rw [HU.out]; rintro e w2 ⟨rfl, hb2⟩)
                  | (go_at_call 42; refine (unit_any K _ (by omega)).mono ?_; rw [HS.out]; rintro e w3 ⟨rfl, hb3⟩))
                go_ret3
                exact ⟨ret_parse ans.out, hB.trans ((hb2.mono hB.size).trans (hb3.mono (Nat.le_trans hB.size hb2.size)))⟩
              · have h6 := TM.pg6 (m := m) (sum := sum) C1 c2 C3 (by rw [← hn, ← hK, ← hU]; exact c4) (by rw [← hK, ← hV, ← HD.out, len_list]; exact c5)
                rw [← hn, ← hK, ← hU, ← HD.out, ← hV] at h6
                obtain ⟨m', rfl⟩ : ∃ m', m = m' + 1 := ⟨m - 1, by omega⟩
                have hnext := Lib.hid (h6.symm.trans GO.out)
                have t5 : ((D : Int) + V == (s.size : Int)) = false := by rw [beq_eq_false_iff_ne]; omega
                clear c1 c2 C1 C3 hn hK hU hV hpf c4 c5 h6
                go_wp2_with (first
                  | (go_at_call 47; refine (refNumber_any s a 2305843009213693952 _ (by omega) ha (by omega) (by omega)).mono ?_; rw [HN.out]; rintro e w1 ⟨rfl, rfl⟩)
                  | (go_at_call 48; refine (refUnitAt_any s D f _ hs hD2 hf).mono ?_; rw [HU.out]; rintro e w2 ⟨rfl, hb2⟩)
                  | (go_at_call 42; refine (unit_any K _ (by omega)).mono ?_; rw [HS.out]; rintro e w3 ⟨rfl, hb3⟩))
                go_roundw
                case rel => exact ⟨D + V, K + 1, m', sum + n * U, rfl, by congr 1; omega, by go_num, by omega, k3, by omega, hfit, hB.trans ((hb2.mono hB.size).trans (hb3.mono (Nat.le_trans hB.size hb2.size))), by omega, hnext.out⟩
                case measure => simp only [intOf]; omega
end Go.Proofs.YthbphanlmhghdaaDoor
