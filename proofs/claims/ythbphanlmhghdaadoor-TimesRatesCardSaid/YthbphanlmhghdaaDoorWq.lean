/- THE WALK of times.ParseSpan. -/
import Derived.Test.YthbphanlmhghdaaDoorWp
import Derived.Test.YthbphanlmhghdaaDoorRnd
namespace Go.Proofs.YthbphanlmhghdaaDoor
open Go.RowKit

theorem ret_parse {a b c : Int} {r : Int × Int × Int} (h : r = (a, b, c)) : Ending.returned (.tuple #[.int .i64 a, .int .i64 b, .int .i64 c]) = Ending.returned (.tuple #[.int .i64 r.1, .int .i64 r.2.1, .int .i64 r.2.2]) := by rw [h]
theorem numT_plain {l : List UInt8} {a : Nat} {most : Int} (hm : 9 ≤ most) (h : ¬ (l[a]? = some 48 ∧ a + 1 < TM.digEnd l a)) : numT l a most = (TM.accN most l a (TM.digEnd l a), TM.digEnd l a) := by
  unfold numT
  split
  · rename_i h1
    have h2 := TM.zero_digit h1
    have h3 : TM.digEnd l a = a + 1 := by
      have : ¬ a + 1 < TM.digEnd l a := fun g => h ⟨h1, g⟩
      omega
    rw [TM.zero_value h1 h3 most hm, h3]
  · rfl
theorem numT_lead {l : List UInt8} {a : Nat} {most : Int} (h : l[a]? = some 48) : numT l a most = (0, a + 1) := by
  unfold numT
  rw [if_pos h]

/-- what holds at the head of a round -/
def Head (s : ByteArray) (a f : Nat) (sum : Int) : Prop :=
  ((a = 0 ∨ a < s.size) ∧ ∃ m : Nat, 7 ≤ m + 1 + f ∧ TM.parseGo s.data.toList (m + 1) a f sum = TM.parseSpan s.data.toList) ∨ (a = s.size ∧ 0 < a ∧ TM.parseSpan s.data.toList = (sum, 0, 0))

set_option maxRecDepth 100000 in
set_option maxHeartbeats 2000000 in
theorem parse_any (s : ByteArray) (w : World) (hE : Env w) (hs : s.size ≤ 9223372036854775000) :
    Calls Tryd.prog 14 #[.string s] w fun e w' => e = .returned (.tuple #[.int .i64 (TM.parseSpan s.data.toList).1, .int .i64 (TM.parseSpan s.data.toList).2.1, .int .i64 (TM.parseSpan s.data.toList).2.2]) ∧ Below w.heap.size w w' := by
  obtain ⟨R, hR⟩ : ∃ R, R = TM.parseSpan s.data.toList := ⟨_, rfl⟩
  rw [← hR]
  have HR := Lib.hid hR
  clear hR
  go_enter Tryd.func14, Tryd.ntmps14
  go_wp2
  go_loopw [5, 6, 7] (fun p q r wr => ∃ (a f : Nat) (sum : Int), p = .int .i64 sum ∧ q = .int .i64 a ∧ r = .int .i64 f ∧ f ≤ 6 ∧ a ≤ s.size ∧ 0 ≤ sum ∧ sum ≤ 2305843009213693952 ∧ Below w.heap.size w wr ∧ Head s a f sum) (fun _ _ r _ => 7 - (intOf r).toNat)
  case atStart => exact ⟨0, 0, 0, rfl, rfl, rfl, by omega, by omega, by omega, by omega, Below.refl _ _, .inl ⟨.inl rfl, 6, by omega, rfl⟩⟩
  case round =>
    obtain ⟨a, f, sum, rfl, rfl, rfl, hf, ha, hs0, hs1, hB, hH⟩ := hrel
    rcases hH with ⟨hin, m, hm, hgo⟩ | ⟨hout, hpos, hgo⟩
    · have hlen : s.data.toList.length = s.size := len_list s
      have hD1 := TM.digEnd_ge s.data.toList a
      have hD2 := TM.digEnd_le s.data.toList a (by rw [hlen]; exact ha)
      rw [hlen] at hD2
      obtain ⟨D, hD⟩ : ∃ D, D = TM.digEnd s.data.toList a := ⟨_, rfl⟩
      rw [← hD] at hD1 hD2
      have HD := Lib.hid hD
      have HL := Lib.hid hlen
      have GO := Lib.hid hgo
      clear hD hlen hgo
      have test : (((a : Int) == 0) = true) ∨ (((a : Int) == 0) = false ∧ a < s.size) := by
        by_cases h0 : a = 0
        · exact .inl (by rw [beq_iff_eq]; omega)
        · exact .inr ⟨by rw [beq_eq_false_iff_ne]; omega, by omega⟩
      clear hin
      by_cases c1 : f = 6 ∨ D = a
      · have ans := Lib.hid (HR.out.trans (GO.out.symm.trans (TM.pg1 (by rw [← HD.out]; exact c1))))
        by_cases c2 : D = a
        · have hnum : numT s.data.toList a 2305843009213693952 = (0, a) := by
            rw [numT_plain (by omega) (by rw [← HD.out]; omega), ← HD.out, c2, TM.accN_self]
          have HN := Lib.hid hnum
          clear hnum c1 c2
          rcases test with t0 | ⟨t0, t1⟩
          all_goals
            go_wp2_with (first
              | (go_at_call 44; refine (number_any s a 2305843009213693952 _ (by omega) ha (by omega) (by omega)).mono ?_; rw [HN.out]; rintro e w1 ⟨rfl, rfl⟩))
            go_ret3
            exact ⟨ret_parse ans.out, hB⟩
        · obtain rfl : f = 6 := by rcases c1 with h | h; exact h; exact absurd h c2
          obtain ⟨n, b, hnum, hba⟩ : ∃ (n : Int) (b : Nat), numT s.data.toList a 2305843009213693952 = (n, b) ∧ b ≠ a := by
            by_cases h48 : s.data.toList[a]? = some 48
            · exact ⟨_, _, numT_lead h48, by omega⟩
            · exact ⟨_, _, by unfold numT; rw [if_neg h48], by rw [← HD.out]; exact c2⟩
          have hb' : ((b : Int) == (a : Int)) = false := by rw [beq_eq_false_iff_ne]; omega
          have HN := Lib.hid hnum
          clear hnum c1 c2
          rcases test with t0 | ⟨t0, t1⟩
          all_goals
            go_wp2_with (first
              | (go_at_call 44; refine (number_any s a 2305843009213693952 _ (by omega) ha (by omega) (by omega)).mono ?_; rw [HN.out]; rintro e w1 ⟨rfl, rfl⟩))
            go_ret3
            exact ⟨ret_parse ans.out, hB⟩
      · have C1 : ¬ (f = 6 ∨ TM.digEnd s.data.toList a = a) := by rw [← HD.out]; exact c1
        have hf6 : ((f : Int) == 6) = false := by rw [beq_eq_false_iff_ne]; omega
        have hE' := hE.on hB
        by_cases c2 : s.data.toList[a]? = some 48 ∧ a + 1 < TM.digEnd s.data.toList a
        · have ans := Lib.hid (HR.out.trans (GO.out.symm.trans (TM.pg2 C1 c2)))
          obtain ⟨b, hb⟩ : ∃ b, b = a + 1 := ⟨_, rfl⟩
          have hnum : numT s.data.toList a 2305843009213693952 = (0, b) := by rw [hb]; exact numT_lead c2.1
          have hbs : b ≤ s.size := by have := c2.2; rw [← HD.out] at this; omega
          have hb' : ((b : Int) == (a : Int)) = false := by rw [beq_eq_false_iff_ne]; omega
          have hunit : TM.unitOut s.data.toList b f = (6, b) := by
            obtain ⟨c, hc, hcd⟩ := TM.dig_in (l := s.data.toList) (i := a) (j := a + 1) (by omega) c2.2
            obtain ⟨u1, u2⟩ := TM.unit_digit (f := f) hc hcd
            rw [TM.unitOut, hb, u1, if_pos rfl, u2]
          have HN := Lib.hid hnum
          have HU := Lib.hid hunit
          have HB := Lib.hid hb
          clear hnum c1 c2 C1 hunit hb
          rcases test with t0 | ⟨t0, t1⟩
          all_goals
            go_wp2_with (first
              | (go_at_call 44; refine (number_any s a 2305843009213693952 _ (by omega) ha (by omega) (by omega)).mono ?_; rw [HN.out]; rintro e w1 ⟨rfl, rfl⟩)
              | (go_at_call 45; refine (unitAt_any s b f _ hE' hs hbs hf).mono ?_; rw [HU.out]; rintro e w1 ⟨rfl, n1, rfl⟩))
            go_ret3
            refine ⟨ret_parse (ans.out.trans ?_), below_drewN hB _⟩
            rw [HB.out]; rfl
        · obtain ⟨n, hn⟩ : ∃ n, n = TM.accN 2305843009213693952 s.data.toList a (TM.digEnd s.data.toList a) := ⟨_, rfl⟩
          have hnb := TM.accN_bd 2305843009213693952 s.data.toList a (by omega) _ (TM.digEnd_ge s.data.toList a) (Nat.le_refl _)
          rw [← hn] at hnb
          obtain ⟨hn0, hn1⟩ := hnb
          have hnum : numT s.data.toList a 2305843009213693952 = (n, D) := by rw [numT_plain (by omega) c2, ← hn, ← HD.out]
          have hb' : ((D : Int) == (a : Int)) = false := by rw [beq_eq_false_iff_ne]; omega
          obtain ⟨K, hK⟩ : ∃ K, K = TM.unitK s.data.toList (TM.digEnd s.data.toList a) f := ⟨_, rfl⟩
          have HN := Lib.hid hnum
          clear hnum
          by_cases c3 : K = 6
          · have ans := Lib.hid (HR.out.trans (GO.out.symm.trans (TM.pg3 C1 c2 (by rw [← hK]; exact c3))))
            obtain ⟨E, hEE⟩ : ∃ E, E = TM.unitFar s.data.toList (TM.digEnd s.data.toList a) f := ⟨_, rfl⟩
            have hunit : TM.unitOut s.data.toList D f = (6, E) := by
              rw [TM.unitOut, HD.out, ← hK, if_pos c3, ← hEE, c3]
            have HU := Lib.hid hunit
            have HEE := Lib.hid hEE
            clear c1 c2 C1 hunit hEE hn hK c3
            rcases test with t0 | ⟨t0, t1⟩
            all_goals
              go_wp2_with (first
                | (go_at_call 44; refine (number_any s a 2305843009213693952 _ (by omega) ha (by omega) (by omega)).mono ?_; rw [HN.out]; rintro e w1 ⟨rfl, rfl⟩)
                | (go_at_call 45; refine (unitAt_any s D f _ hE' hs hD2 hf).mono ?_; rw [HU.out]; rintro e w1 ⟨rfl, n1, rfl⟩))
              go_ret3
              refine ⟨ret_parse (ans.out.trans ?_), below_drewN hB _⟩
              rw [← HEE.out]
          · have hKK := TM.unitK_le' hK.symm c3
            rw [len_list] at hKK
            obtain ⟨k1, k2, k3⟩ := hKK
            rw [← HD.out] at k3
            obtain ⟨V, hV⟩ : ∃ V, V = TM.ulen K := ⟨_, rfl⟩
            have hVb := TM.ulen_pos K
            rw [← hV] at k3 hVb
            obtain ⟨v1, v2⟩ := hVb
            have hunit : TM.unitOut s.data.toList D f = (K, D + V) := by
              rw [TM.unitOut, HD.out, ← hK, if_neg c3, ← hV]
            have hK6 : ((K : Int) == 6) = false := by rw [beq_eq_false_iff_ne]; omega
            obtain ⟨U, hU⟩ : ∃ U, U = TM.usize K := ⟨_, rfl⟩
            have hUb := TM.usize_int K
            rw [← hU] at hUb
            obtain ⟨u1, u2⟩ := hUb
            have hcell := (hE'.2.1 K (by omega)).2
            rw [← hU, Nat.mul_comm 2 K] at hcell
            have hnU : 0 ≤ n * U := Int.mul_nonneg hn0 (by omega)
            have C3 : TM.unitK s.data.toList (TM.digEnd s.data.toList a) f ≠ 6 := by rw [← hK]; exact c3
            have HU := Lib.hid hunit
            clear hunit
            by_cases c4 : 2305843009213693952 < sum + n * U
            · have ans := Lib.hid (HR.out.trans (GO.out.symm.trans (TM.pg4 C1 c2 C3 (by rw [← hn, ← hK, ← hU]; exact c4))))
              clear c1 c2 C1 C3 hn hK hU hV
              have hbig : 0 < n * U / 18446744073709551616 ∨ (n * U / 18446744073709551616 ≤ 0 ∧ 2305843009213693952 - sum < n * U % 18446744073709551616) := by omega
              clear c4
              rcases test with t0 | ⟨t0, t1⟩
              all_goals
                rcases hbig with g1 | ⟨g1, g2⟩
                all_goals
                  go_wp2_with (first
                    | (go_at_call 44; refine (number_any s a 2305843009213693952 _ (by omega) ha (by omega) (by omega)).mono ?_; rw [HN.out]; rintro e w1 ⟨rfl, rfl⟩)
                    | (go_at_call 45; refine (unitAt_any s D f _ hE' hs hD2 hf).mono ?_; rw [HU.out]; rintro e w1 ⟨rfl, n1, rfl⟩)
                    | (go_at_call 46; refine (product_any n U _ hn0 (by omega) (by omega) (by omega)).mono ?_; rintro e w2 ⟨rfl, hb2⟩))
                  go_ret3
                  exact ⟨ret_parse ans.out, hB.trans ((below_drewN (Below.refl _ _) _).trans ((hb2.mono hB.size).trans ((Below.refl _ _).alloc (Nat.le_trans hB.size hb2.size) _)))⟩
            · have hq : n * U / 18446744073709551616 = 0 := by omega
              have hr : n * U % 18446744073709551616 = n * U := by omega
              have hfit : sum + n * U ≤ 2305843009213693952 := by omega
              have hnext : Head s (D + V) (K + 1) (sum + n * U) := by
                by_cases c5 : D + V = s.size
                · refine .inr ⟨c5, by omega, ?_⟩
                  rw [← GO.out, TM.pg5 C1 c2 C3 (by rw [← hn, ← hK, ← hU]; exact c4) (by rw [← hK, ← hV, ← HD.out, len_list]; exact c5), ← hn, ← hK, ← hU]
                · refine .inl ⟨.inr (by omega), ?_⟩
                  have h6 := TM.pg6 (m := m) (sum := sum) C1 c2 C3 (by rw [← hn, ← hK, ← hU]; exact c4) (by rw [← hK, ← hV, ← HD.out, len_list]; exact c5)
                  rw [← hn, ← hK, ← hU, ← HD.out, ← hV] at h6
                  obtain ⟨m', rfl⟩ : ∃ m', m = m' + 1 := ⟨m - 1, by omega⟩
                  exact ⟨m', by omega, h6.symm.trans GO.out⟩
              clear c1 c2 C1 C3 hn hK hU hV c4
              rcases test with t0 | ⟨t0, t1⟩
              all_goals
                go_wp2_with (first
                  | (go_at_call 44; refine (number_any s a 2305843009213693952 _ (by omega) ha (by omega) (by omega)).mono ?_; rw [HN.out]; rintro e w1 ⟨rfl, rfl⟩)
                  | (go_at_call 45; refine (unitAt_any s D f _ hE' hs hD2 hf).mono ?_; rw [HU.out]; rintro e w1 ⟨rfl, n1, rfl⟩)
                  | (go_at_call 46; refine (product_any n U _ hn0 (by omega) (by omega) (by omega)).mono ?_; rintro e w2 ⟨rfl, hb2⟩))
                go_roundw
                case rel => exact ⟨D + V, K + 1, sum + n * U, rfl, by go_num, by go_num, by omega, k3, by omega, hfit, hB.trans ((below_drewN (Below.refl _ _) _).trans ((hb2.mono hB.size).trans ((Below.refl _ _).alloc (Nat.le_trans hB.size hb2.size) _))), hnext⟩
                case measure => simp only [intOf]; omega
    · subst hout
      have hne : ((s.size : Int) == 0) = false := by rw [beq_eq_false_iff_ne]; omega
      have ans := Lib.hid (HR.out.trans hgo)
      clear hgo
      go_wp2
      go_ret3
      exact ⟨ret_parse ans.out, hB⟩
end Go.Proofs.YthbphanlmhghdaaDoor
