/- THE WALKS of rates read. -/
import Derived.Test.YthbphanlmhghdaaDoorWs
namespace Go.Proofs.YthbphanlmhghdaaDoor
open Go.RowKit

theorem one_set {B : Nat} {a w : World} (h : Below B a w) (hB : B ≤ a.heap.size) (u v : Value) : Below B a ((w.setCell ⟨a.heap.size, 0, none⟩ u).setCell ⟨a.heap.size, 1, none⟩ v) :=
  (h.setCell hB _).setCell hB _
def rateV (r : (Int × Int) × Int × Int) : Value := .tuple #[.agg #[.int .i64 r.1.1, .int .i64 r.1.2], .int .i64 r.2.1, .int .i64 r.2.2]
theorem ret_rate {n p e a : Int} {r : (Int × Int) × Int × Int} (h : r = ((n, p), e, a)) : Ending.returned (.tuple #[.agg #[.int .i64 n, .int .i64 p], .int .i64 e, .int .i64 a]) = Ending.returned (rateV r) := by rw [h]; rfl
theorem slash_iff (c : UInt8) : c = 47 ↔ (c.toNat : Int) = 47 := by
  constructor
  · rintro rfl; rfl
  · intro h
    apply UInt8.toNat_inj.mp
    have : (47 : UInt8).toNat = 47 := rfl
    omega
section
variable {l : List UInt8}
theorem pr1 (h : TM.digEnd l 0 = 0) : TM.parseRate l = ((0, 0), 20, 0) := by rw [TM.parseRate, if_pos h]
theorem pr2 (h : ¬ TM.digEnd l 0 = 0) (h2 : l[0]? = some 48 ∧ 1 < TM.digEnd l 0) : TM.parseRate l = ((0, 0), 20, 1) := by rw [TM.parseRate, if_neg h, if_pos h2]
theorem pr3 (h : ¬ TM.digEnd l 0 = 0) (h2 : ¬ (l[0]? = some 48 ∧ 1 < TM.digEnd l 0)) (h3 : 1099511627776 < TM.accN 1099511627776 l 0 (TM.digEnd l 0)) : TM.parseRate l = ((0, 0), 2, 0) := by rw [TM.parseRate, if_neg h, if_neg h2, if_pos h3]
theorem pr4 (h : ¬ TM.digEnd l 0 = 0) (h2 : ¬ (l[0]? = some 48 ∧ 1 < TM.digEnd l 0)) (h3 : ¬ 1099511627776 < TM.accN 1099511627776 l 0 (TM.digEnd l 0)) (h4 : l[TM.digEnd l 0]? ≠ some 47) :
    TM.parseRate l = ((0, 0), 20, (TM.digEnd l 0 : Int)) := by rw [TM.parseRate, if_neg h, if_neg h2, if_neg h3, if_pos h4]
theorem pr5 (h : ¬ TM.digEnd l 0 = 0) (h2 : ¬ (l[0]? = some 48 ∧ 1 < TM.digEnd l 0)) (h3 : ¬ 1099511627776 < TM.accN 1099511627776 l 0 (TM.digEnd l 0)) (h4 : ¬ l[TM.digEnd l 0]? ≠ some 47)
    {q1 q2 q3 : Int} (hq : TM.parseSpan (l.drop (TM.digEnd l 0 + 1)) = (q1, q2, q3)) :
    TM.parseRate l = if q2 ≠ 0 then ((0, 0), q2, (TM.digEnd l 0 : Int) + 1 + q3) else if q1 = 0 then ((0, 0), 20, (l.length : Int)) else ((TM.accN 1099511627776 l 0 (TM.digEnd l 0), q1), 0, 0) := by
  rw [TM.parseRate, if_neg h, if_neg h2, if_neg h3, if_neg h4, hq]
end

set_option maxRecDepth 100000 in
set_option maxHeartbeats 1000000 in
theorem parseRate_any (s : ByteArray) (w : World) (hE : Env w) (hs : s.size ≤ 9223372036854775000) :
    Calls Tryd.prog 24 #[.string s] w fun e w' => e = .returned (rateV (TM.parseRate s.data.toList)) ∧ Below w.heap.size w w' := by
  obtain ⟨R, hR⟩ : ∃ R, R = TM.parseRate s.data.toList := ⟨_, rfl⟩
  rw [← hR]
  have HR := Lib.hid hR
  clear hR
  have hD2 := TM.digEnd_le s.data.toList 0 (Nat.zero_le _)
  rw [len_list] at hD2
  obtain ⟨D, hD⟩ : ∃ D, D = TM.digEnd s.data.toList 0 := ⟨_, rfl⟩
  rw [← hD] at hD2
  have HD := Lib.hid hD
  clear hD
  have hnew : Below w.heap.size w (w.alloc (.cells #[.int .i64 0, .int .i64 0] 29)) := (Below.refl _ _).alloc (Nat.le_refl _) _
  by_cases c1 : D = 0
  · have ans := Lib.hid (HR.out.trans (pr1 (by rw [← HD.out]; exact c1)))
    have hnum : numT s.data.toList 0 1099511627776 = (0, 0) := by
      have h48 : ¬ s.data.toList[0]? = some 48 := fun h => by have := TM.zero_digit h; rw [← HD.out] at this; omega
      rw [numT, if_neg h48, ← HD.out, c1, TM.accN_self]
    have HN := Lib.hid hnum
    clear hnum c1
    go_enter Tryd.func24, Tryd.ntmps24
    go_wp2_with (first
      | (go_at_call 44; refine (number_any s 0 1099511627776 _ (by omega) (by omega) (by omega) (by omega)).mono ?_; rw [HN.out]; rintro e w1 ⟨rfl, rfl⟩))
    refine bodyPost_ret (v := .tuple #[.agg #[.int .i64 0, .int .i64 0], .int .i64 20, .int .i64 0]) (by simp [results, Tryd.results24, go_sem]) rfl ⟨ret_rate ans.out, ?_⟩
    exact hnew
  · have C1 : ¬ TM.digEnd s.data.toList 0 = 0 := by rw [← HD.out]; exact c1
    by_cases c2 : s.data.toList[0]? = some 48 ∧ 1 < TM.digEnd s.data.toList 0
    · have ans := Lib.hid (HR.out.trans (pr2 C1 c2))
      have hnum : numT s.data.toList 0 1099511627776 = (0, 1) := by
        exact numT_lead c2.1
      obtain ⟨c, hc, hcd⟩ := TM.dig_in (l := s.data.toList) (i := 0) (j := 1) (by omega) c2.2
      have h1s : 1 < s.size := by have := TM.get_lt hc; rw [len_list] at this; exact this
      rw [byte_at s 1 h1s] at hc
      obtain rfl := Option.some.inj hc
      obtain ⟨y0, y1⟩ := (isDig_iff _).mp hcd
      obtain ⟨C, hC⟩ : ∃ C : Int, (s[1].toNat : Int) = C := ⟨_, rfl⟩
      have hne : (C != 47) = true := by rw [bne_iff_ne]; omega
      have hlen : ((1 : Int) == (s.size : Int)) = false := by rw [beq_eq_false_iff_ne]; omega
      have HN := Lib.hid hnum
      clear hnum c1 c2 C1 hc hcd
      go_enter Tryd.func24, Tryd.ntmps24
      go_wp2_with (first
        | (go_at_call 44; refine (number_any s 0 1099511627776 _ (by omega) (by omega) (by omega) (by omega)).mono ?_; rw [HN.out]; rintro e w1 ⟨rfl, rfl⟩))
      refine bodyPost_ret (v := .tuple #[.agg #[.int .i64 0, .int .i64 0], .int .i64 20, .int .i64 1]) (by simp [results, Tryd.results24, go_sem]) rfl ⟨ret_rate ans.out, ?_⟩
      exact hnew
    · obtain ⟨n, hn⟩ : ∃ n, n = TM.accN 1099511627776 s.data.toList 0 (TM.digEnd s.data.toList 0) := ⟨_, rfl⟩
      have hnb := TM.accN_bd 1099511627776 s.data.toList 0 (by omega) _ (TM.digEnd_ge s.data.toList 0) (Nat.le_refl _)
      rw [← hn] at hnb
      obtain ⟨hn0, hn1⟩ := hnb
      have hnum : numT s.data.toList 0 1099511627776 = (n, D) := by
        rw [numT_plain (by omega) c2, ← hn, ← HD.out]
      have HN := Lib.hid hnum
      clear hnum
      by_cases c3 : 1099511627776 < n
      · have ans := Lib.hid (HR.out.trans (pr3 C1 c2 (by rw [← hn]; exact c3)))
        clear c1 c2 C1 hn
        go_enter Tryd.func24, Tryd.ntmps24
        go_wp2_with (first
          | (go_at_call 44; refine (number_any s 0 1099511627776 _ (by omega) (by omega) (by omega) (by omega)).mono ?_; rw [HN.out]; rintro e w1 ⟨rfl, rfl⟩))
        refine bodyPost_ret (v := .tuple #[.agg #[.int .i64 0, .int .i64 0], .int .i64 2, .int .i64 0]) (by simp [results, Tryd.results24, go_sem]) rfl ⟨ret_rate ans.out, ?_⟩
        exact hnew
      · have C3 : ¬ 1099511627776 < TM.accN 1099511627776 s.data.toList 0 (TM.digEnd s.data.toList 0) := by rw [← hn]; exact c3
        have hD0 : ((D : Int) == 0) = false := by rw [beq_eq_false_iff_ne]; omega
        by_cases c4 : s.data.toList[TM.digEnd s.data.toList 0]? ≠ some 47
        · have ans := Lib.hid (HR.out.trans (pr4 C1 c2 C3 c4))
          rw [← HD.out] at ans c4
          clear c2 C1 C3 hn
          by_cases hDs : D < s.size
          · rw [byte_at s D hDs] at c4
            obtain ⟨C, hC⟩ : ∃ C : Int, (s[D].toNat : Int) = C := ⟨_, rfl⟩
            have hne : (C != 47) = true := by
              rw [bne_iff_ne]
              intro g
              apply c4
              rw [(slash_iff _).mpr (hC.trans g)]
            have hlen : ((D : Int) == (s.size : Int)) = false := by rw [beq_eq_false_iff_ne]; omega
            clear c4 c1
            go_enter Tryd.func24, Tryd.ntmps24
            go_wp2_with (first
              | (go_at_call 44; refine (number_any s 0 1099511627776 _ (by omega) (by omega) (by omega) (by omega)).mono ?_; rw [HN.out]; rintro e w1 ⟨rfl, rfl⟩))
            refine bodyPost_ret (v := .tuple #[.agg #[.int .i64 0, .int .i64 0], .int .i64 20, .int .i64 D]) (by simp [results, Tryd.results24, go_sem]) rfl ⟨ret_rate ans.out, ?_⟩
            exact hnew
          · have hlen : ((D : Int) == (s.size : Int)) = true := by rw [beq_iff_eq]; omega
            clear c4 c1
            go_enter Tryd.func24, Tryd.ntmps24
            go_wp2_with (first
              | (go_at_call 44; refine (number_any s 0 1099511627776 _ (by omega) (by omega) (by omega) (by omega)).mono ?_; rw [HN.out]; rintro e w1 ⟨rfl, rfl⟩))
            refine bodyPost_ret (v := .tuple #[.agg #[.int .i64 0, .int .i64 0], .int .i64 20, .int .i64 D]) (by simp [results, Tryd.results24, go_sem]) rfl ⟨ret_rate ans.out, ?_⟩
            exact hnew
        · have h47 : s.data.toList[D]? = some 47 := by rw [HD.out]; exact Decidable.not_not.mp c4
          have hDs : D < s.size := by have := TM.get_lt h47; rw [len_list] at this; exact this
          rw [byte_at s D hDs] at h47
          have hC : (s[D].toNat : Int) = 47 := (slash_iff _).mp (Option.some.inj h47)
          have hlen : ((D : Int) == (s.size : Int)) = false := by rw [beq_eq_false_iff_ne]; omega
          obtain ⟨q1, q2, q3, hq⟩ : ∃ q1 q2 q3, TM.parseSpan (s.data.toList.drop (TM.digEnd s.data.toList 0 + 1)) = (q1, q2, q3) := ⟨_, _, _, rfl⟩
          have ans := HR.out.trans (pr5 C1 c2 C3 c4 hq)
          have hso := TM.parseSpan_out (s.data.toList.drop (TM.digEnd s.data.toList 0 + 1))
          rw [hq] at hso
          unfold TM.SpanOut at hso
          rw [List.length_drop, len_list, ← HD.out] at hso
          replace hso : (q2 = 0 ∧ 0 ≤ q1 ∧ q1 ≤ 2305843009213693952 ∧ q3 = 0) ∨ ((q2 = 20 ∨ q2 = 2) ∧ q1 = 0 ∧ 0 ≤ q3 ∧ q3 ≤ ((s.size - (D + 1) : Nat) : Int)) := hso
          rw [← hn, ← HD.out, len_list] at ans
          rw [← HD.out] at hq
          have hcall : ∀ W : World, Env W → Calls Tryd.prog 14 #[.string (s.extract (D + 1) s.size)] W fun e w' => e = .returned (.tuple #[.int .i64 q1, .int .i64 q2, .int .i64 q3]) ∧ Below W.heap.size W w' := by
            intro W hW
            have := parse_any (s.extract (D + 1) s.size) W hW (by rw [ByteArray.size_extract]; omega)
            rw [drop_list, hq] at this
            exact this
          have HC := Lib.hid hcall
          clear hcall hq c1 c2 C1 C3 hn c4 h47
          have HENV : Hid (Env (w.alloc (.cells #[.int .i64 0, .int .i64 0] 29))) := hE.on hnew
          by_cases d2 : q2 = 0
          · have t2 : (q2 != 0) = false := by rw [bne_eq_false_iff_eq]; exact d2
            rw [if_neg (fun g => g d2)] at ans
            by_cases d1 : q1 = 0
            · rw [if_pos d1] at ans
              have ANS := Lib.hid ans
              subst d1
              clear ans d2 hso
              go_enter Tryd.func24, Tryd.ntmps24
              go_wp2_with (first
                | (go_at_call 44; refine (number_any s 0 1099511627776 _ (by omega) (by omega) (by omega) (by omega)).mono ?_; rw [HN.out]; rintro e w1 ⟨rfl, rfl⟩)
                | (go_at_call 14; refine (HC.out _ HENV.out).mono ?_; rintro e w2 ⟨rfl, hb2⟩; have HB2 := Lib.hid hb2; have f0 : w2.frozen? ⟨w.heap.size, 0, none⟩ = false := (hb2.frozen (p := ⟨w.heap.size, 0, none⟩) (by simp)).trans (by simp [go_sem]); have f1 : w2.frozen? ⟨w.heap.size, 1, none⟩ = false := (hb2.frozen (p := ⟨w.heap.size, 1, none⟩) (by simp)).trans (by simp [go_sem]); have c0 : w2.cell? ⟨w.heap.size, 0, none⟩ = some (.int .i64 0) := (hb2.cell (p := ⟨w.heap.size, 0, none⟩) (by simp)).trans (by simp [go_sem]); have c1 : w2.cell? ⟨w.heap.size, 1, none⟩ = some (.int .i64 0) := (hb2.cell (p := ⟨w.heap.size, 1, none⟩) (by simp)).trans (by simp [go_sem]); clear hb2))
              refine bodyPost_ret (v := .tuple #[.agg #[.int .i64 0, .int .i64 0], .int .i64 20, .int .i64 s.size]) (by simp [results, Tryd.results24, go_sem, c0, c1]) rfl ⟨ret_rate ANS.out, ?_⟩
              exact one_set (hnew.trans (HB2.out.mono (by simp))) (Nat.le_refl _) _ _
            · rw [if_neg d1] at ans
              have t1 : (q1 == 0) = false := by rw [beq_eq_false_iff_ne]; exact d1
              have ANS := Lib.hid ans
              clear ans d1 d2 hso
              go_enter Tryd.func24, Tryd.ntmps24
              go_wp2_with (first
                | (go_at_call 44; refine (number_any s 0 1099511627776 _ (by omega) (by omega) (by omega) (by omega)).mono ?_; rw [HN.out]; rintro e w1 ⟨rfl, rfl⟩)
                | (go_at_call 14; refine (HC.out _ HENV.out).mono ?_; rintro e w2 ⟨rfl, hb2⟩; have HB2 := Lib.hid hb2; have f0 : w2.frozen? ⟨w.heap.size, 0, none⟩ = false := (hb2.frozen (p := ⟨w.heap.size, 0, none⟩) (by simp)).trans (by simp [go_sem]); have f1 : w2.frozen? ⟨w.heap.size, 1, none⟩ = false := (hb2.frozen (p := ⟨w.heap.size, 1, none⟩) (by simp)).trans (by simp [go_sem]); have c0 : w2.cell? ⟨w.heap.size, 0, none⟩ = some (.int .i64 0) := (hb2.cell (p := ⟨w.heap.size, 0, none⟩) (by simp)).trans (by simp [go_sem]); have c1 : w2.cell? ⟨w.heap.size, 1, none⟩ = some (.int .i64 0) := (hb2.cell (p := ⟨w.heap.size, 1, none⟩) (by simp)).trans (by simp [go_sem]); clear hb2))
              refine bodyPost_ret (v := .tuple #[.agg #[.int .i64 n, .int .i64 q1], .int .i64 0, .int .i64 0]) (by simp [results, Tryd.results24, go_sem, c0, c1]) rfl ⟨ret_rate ANS.out, ?_⟩
              exact one_set (hnew.trans (HB2.out.mono (by simp))) (Nat.le_refl _) _ _
          · have t2 : (q2 != 0) = true := by rw [bne_iff_ne]; exact d2
            rw [if_pos d2] at ans
            have ANS := Lib.hid ans
            have hq3 : 0 ≤ q3 ∧ q3 ≤ 9223372036854775000 := by
              rcases hso with hso | hso
              · exact absurd hso.1 d2
              · omega
            obtain ⟨hq3, hq4⟩ := hq3
            have hq5 : q3 ≤ (s.size : Int) - (D + 1) := by
              rcases hso with hso | hso
              · exact absurd hso.1 d2
              · omega
            clear ans d2 hso
            go_enter Tryd.func24, Tryd.ntmps24
            go_wp2_with (first
              | (go_at_call 44; refine (number_any s 0 1099511627776 _ (by omega) (by omega) (by omega) (by omega)).mono ?_; rw [HN.out]; rintro e w1 ⟨rfl, rfl⟩)
              | (go_at_call 14; refine (HC.out _ HENV.out).mono ?_; rintro e w2 ⟨rfl, hb2⟩; have HB2 := Lib.hid hb2; have f0 : w2.frozen? ⟨w.heap.size, 0, none⟩ = false := (hb2.frozen (p := ⟨w.heap.size, 0, none⟩) (by simp)).trans (by simp [go_sem]); have f1 : w2.frozen? ⟨w.heap.size, 1, none⟩ = false := (hb2.frozen (p := ⟨w.heap.size, 1, none⟩) (by simp)).trans (by simp [go_sem]); have c0 : w2.cell? ⟨w.heap.size, 0, none⟩ = some (.int .i64 0) := (hb2.cell (p := ⟨w.heap.size, 0, none⟩) (by simp)).trans (by simp [go_sem]); have c1 : w2.cell? ⟨w.heap.size, 1, none⟩ = some (.int .i64 0) := (hb2.cell (p := ⟨w.heap.size, 1, none⟩) (by simp)).trans (by simp [go_sem]); clear hb2))
            refine bodyPost_ret (v := .tuple #[.agg #[.int .i64 0, .int .i64 0], .int .i64 q2, .int .i64 ((D : Int) + 1 + q3)]) (by simp [results, Tryd.results24, go_sem, c0, c1]) rfl ⟨ret_rate ANS.out, ?_⟩
            exact one_set (hnew.trans (HB2.out.mono (by simp))) (Nat.le_refl _) _ _

set_option maxRecDepth 100000 in
set_option maxHeartbeats 1000000 in
theorem refParseRate_any (s : ByteArray) (w : World) (hs : s.size ≤ 9223372036854775000) :
    Calls Tryd.prog 25 #[.string s] w fun e w' => e = .returned (rateV (TM.parseRate s.data.toList)) ∧ Below w.heap.size w w' := by
  obtain ⟨R, hR⟩ : ∃ R, R = TM.parseRate s.data.toList := ⟨_, rfl⟩
  rw [← hR]
  have HR := Lib.hid hR
  clear hR
  have hD2 := TM.digEnd_le s.data.toList 0 (Nat.zero_le _)
  rw [len_list] at hD2
  obtain ⟨D, hD⟩ : ∃ D, D = TM.digEnd s.data.toList 0 := ⟨_, rfl⟩
  rw [← hD] at hD2
  have HD := Lib.hid hD
  clear hD
  have hnew : Below w.heap.size w (w.alloc (.cells #[.int .i64 0, .int .i64 0] 29)) := (Below.refl _ _).alloc (Nat.le_refl _) _
  by_cases c1 : D = 0
  · have ans := Lib.hid (HR.out.trans (pr1 (by rw [← HD.out]; exact c1)))
    have hnum : numR s.data.toList 0 1099511627776 = (0, 0, 0) := by
      rw [numR, if_pos (by rw [← HD.out]; exact c1)]; rfl
    have HN := Lib.hid hnum
    clear hnum c1
    go_enter Tryd.func25, Tryd.ntmps25
    go_wp2_with (first
      | (go_at_call 47; refine (refNumber_any s 0 1099511627776 _ (by omega) (by omega) (by omega) (by omega)).mono ?_; rw [HN.out]; rintro e w1 ⟨rfl, rfl⟩))
    refine bodyPost_ret (v := .tuple #[.agg #[.int .i64 0, .int .i64 0], .int .i64 20, .int .i64 0]) (by simp [results, Tryd.results25, go_sem]) rfl ⟨ret_rate ans.out, ?_⟩
    exact hnew
  · have C1 : ¬ TM.digEnd s.data.toList 0 = 0 := by rw [← HD.out]; exact c1
    by_cases c2 : s.data.toList[0]? = some 48 ∧ 1 < TM.digEnd s.data.toList 0
    · have ans := Lib.hid (HR.out.trans (pr2 C1 c2))
      have hnum : numR s.data.toList 0 1099511627776 = (0, 1, 1) := by
        rw [numR, if_neg C1, if_pos c2]; rfl
      have HN := Lib.hid hnum
      clear hnum c1 c2 C1
      go_enter Tryd.func25, Tryd.ntmps25
      go_wp2_with (first
        | (go_at_call 47; refine (refNumber_any s 0 1099511627776 _ (by omega) (by omega) (by omega) (by omega)).mono ?_; rw [HN.out]; rintro e w1 ⟨rfl, rfl⟩))
      refine bodyPost_ret (v := .tuple #[.agg #[.int .i64 0, .int .i64 0], .int .i64 20, .int .i64 1]) (by simp [results, Tryd.results25, go_sem]) rfl ⟨ret_rate ans.out, ?_⟩
      exact hnew
    · obtain ⟨n, hn⟩ : ∃ n, n = TM.accN 1099511627776 s.data.toList 0 (TM.digEnd s.data.toList 0) := ⟨_, rfl⟩
      have hnb := TM.accN_bd 1099511627776 s.data.toList 0 (by omega) _ (TM.digEnd_ge s.data.toList 0) (Nat.le_refl _)
      rw [← hn] at hnb
      obtain ⟨hn0, hn1⟩ := hnb
      have hnum : numR s.data.toList 0 1099511627776 = (n, (D : Int), -1) := by
        rw [numR, if_neg C1, if_neg c2, ← hn, ← HD.out]
      have HN := Lib.hid hnum
      clear hnum
      by_cases c3 : 1099511627776 < n
      · have ans := Lib.hid (HR.out.trans (pr3 C1 c2 (by rw [← hn]; exact c3)))
        clear c1 c2 C1 hn
        go_enter Tryd.func25, Tryd.ntmps25
        go_wp2_with (first
          | (go_at_call 47; refine (refNumber_any s 0 1099511627776 _ (by omega) (by omega) (by omega) (by omega)).mono ?_; rw [HN.out]; rintro e w1 ⟨rfl, rfl⟩))
        refine bodyPost_ret (v := .tuple #[.agg #[.int .i64 0, .int .i64 0], .int .i64 2, .int .i64 0]) (by simp [results, Tryd.results25, go_sem]) rfl ⟨ret_rate ans.out, ?_⟩
        exact hnew
      · have C3 : ¬ 1099511627776 < TM.accN 1099511627776 s.data.toList 0 (TM.digEnd s.data.toList 0) := by rw [← hn]; exact c3
        have hD0 : ((D : Int) == 0) = false := by rw [beq_eq_false_iff_ne]; omega
        by_cases c4 : s.data.toList[TM.digEnd s.data.toList 0]? ≠ some 47
        · have ans := Lib.hid (HR.out.trans (pr4 C1 c2 C3 c4))
          rw [← HD.out] at ans c4
          clear c2 C1 C3 hn
          by_cases hDs : D < s.size
          · rw [byte_at s D hDs] at c4
            obtain ⟨C, hC⟩ : ∃ C : Int, (s[D].toNat : Int) = C := ⟨_, rfl⟩
            have hne : (C != 47) = true := by
              rw [bne_iff_ne]
              intro g
              apply c4
              rw [(slash_iff _).mpr (hC.trans g)]
            have hlen : ((D : Int) == (s.size : Int)) = false := by rw [beq_eq_false_iff_ne]; omega
            clear c4 c1
            go_enter Tryd.func25, Tryd.ntmps25
            go_wp2_with (first
              | (go_at_call 47; refine (refNumber_any s 0 1099511627776 _ (by omega) (by omega) (by omega) (by omega)).mono ?_; rw [HN.out]; rintro e w1 ⟨rfl, rfl⟩))
            refine bodyPost_ret (v := .tuple #[.agg #[.int .i64 0, .int .i64 0], .int .i64 20, .int .i64 D]) (by simp [results, Tryd.results25, go_sem]) rfl ⟨ret_rate ans.out, ?_⟩
            exact hnew
          · have hlen : ((D : Int) == (s.size : Int)) = true := by rw [beq_iff_eq]; omega
            clear c4 c1
            go_enter Tryd.func25, Tryd.ntmps25
            go_wp2_with (first
              | (go_at_call 47; refine (refNumber_any s 0 1099511627776 _ (by omega) (by omega) (by omega) (by omega)).mono ?_; rw [HN.out]; rintro e w1 ⟨rfl, rfl⟩))
            refine bodyPost_ret (v := .tuple #[.agg #[.int .i64 0, .int .i64 0], .int .i64 20, .int .i64 D]) (by simp [results, Tryd.results25, go_sem]) rfl ⟨ret_rate ans.out, ?_⟩
            exact hnew
        · have h47 : s.data.toList[D]? = some 47 := by rw [HD.out]; exact Decidable.not_not.mp c4
          have hDs : D < s.size := by have := TM.get_lt h47; rw [len_list] at this; exact this
          rw [byte_at s D hDs] at h47
          have hC : (s[D].toNat : Int) = 47 := (slash_iff _).mp (Option.some.inj h47)
          have hlen : ((D : Int) == (s.size : Int)) = false := by rw [beq_eq_false_iff_ne]; omega
          obtain ⟨q1, q2, q3, hq⟩ : ∃ q1 q2 q3, TM.parseSpan (s.data.toList.drop (TM.digEnd s.data.toList 0 + 1)) = (q1, q2, q3) := ⟨_, _, _, rfl⟩
          have ans := HR.out.trans (pr5 C1 c2 C3 c4 hq)
          have hso := TM.parseSpan_out (s.data.toList.drop (TM.digEnd s.data.toList 0 + 1))
          rw [hq] at hso
          unfold TM.SpanOut at hso
          rw [List.length_drop, len_list, ← HD.out] at hso
          replace hso : (q2 = 0 ∧ 0 ≤ q1 ∧ q1 ≤ 2305843009213693952 ∧ q3 = 0) ∨ ((q2 = 20 ∨ q2 = 2) ∧ q1 = 0 ∧ 0 ≤ q3 ∧ q3 ≤ ((s.size - (D + 1) : Nat) : Int)) := hso
          rw [← hn, ← HD.out, len_list] at ans
          rw [← HD.out] at hq
          have hcall : ∀ W : World, Calls Tryd.prog 15 #[.string (s.extract (D + 1) s.size)] W fun e w' => e = .returned (.tuple #[.int .i64 q1, .int .i64 q2, .int .i64 q3]) ∧ Below W.heap.size W w' := by
            intro W
            have := refParse_any (s.extract (D + 1) s.size) W (by rw [ByteArray.size_extract]; omega)
            rw [drop_list, hq] at this
            exact this
          have HC := Lib.hid hcall
          clear hcall hq c1 c2 C1 C3 hn c4 h47
          by_cases d2 : q2 = 0
          · have t2 : (q2 != 0) = false := by rw [bne_eq_false_iff_eq]; exact d2
            rw [if_neg (fun g => g d2)] at ans
            by_cases d1 : q1 = 0
            · rw [if_pos d1] at ans
              have ANS := Lib.hid ans
              subst d1
              clear ans d2 hso
              go_enter Tryd.func25, Tryd.ntmps25
              go_wp2_with (first
                | (go_at_call 47; refine (refNumber_any s 0 1099511627776 _ (by omega) (by omega) (by omega) (by omega)).mono ?_; rw [HN.out]; rintro e w1 ⟨rfl, rfl⟩)
                | (go_at_call 15; refine (HC.out _).mono ?_; rintro e w2 ⟨rfl, hb2⟩; have HB2 := Lib.hid hb2; have f0 : w2.frozen? ⟨w.heap.size, 0, none⟩ = false := (hb2.frozen (p := ⟨w.heap.size, 0, none⟩) (by simp)).trans (by simp [go_sem]); have f1 : w2.frozen? ⟨w.heap.size, 1, none⟩ = false := (hb2.frozen (p := ⟨w.heap.size, 1, none⟩) (by simp)).trans (by simp [go_sem]); have c0 : w2.cell? ⟨w.heap.size, 0, none⟩ = some (.int .i64 0) := (hb2.cell (p := ⟨w.heap.size, 0, none⟩) (by simp)).trans (by simp [go_sem]); have c1 : w2.cell? ⟨w.heap.size, 1, none⟩ = some (.int .i64 0) := (hb2.cell (p := ⟨w.heap.size, 1, none⟩) (by simp)).trans (by simp [go_sem]); clear hb2))
              refine bodyPost_ret (v := .tuple #[.agg #[.int .i64 0, .int .i64 0], .int .i64 20, .int .i64 s.size]) (by simp [results, Tryd.results25, go_sem, c0, c1]) rfl ⟨ret_rate ANS.out, ?_⟩
              exact one_set (hnew.trans (HB2.out.mono (by simp))) (Nat.le_refl _) _ _
            · rw [if_neg d1] at ans
              have t1 : (q1 == 0) = false := by rw [beq_eq_false_iff_ne]; exact d1
              have ANS := Lib.hid ans
              clear ans d1 d2 hso
              go_enter Tryd.func25, Tryd.ntmps25
              go_wp2_with (first
                | (go_at_call 47; refine (refNumber_any s 0 1099511627776 _ (by omega) (by omega) (by omega) (by omega)).mono ?_; rw [HN.out]; rintro e w1 ⟨rfl, rfl⟩)
                | (go_at_call 15; refine (HC.out _).mono ?_; rintro e w2 ⟨rfl, hb2⟩; have HB2 := Lib.hid hb2; have f0 : w2.frozen? ⟨w.heap.size, 0, none⟩ = false := (hb2.frozen (p := ⟨w.heap.size, 0, none⟩) (by simp)).trans (by simp [go_sem]); have f1 : w2.frozen? ⟨w.heap.size, 1, none⟩ = false := (hb2.frozen (p := ⟨w.heap.size, 1, none⟩) (by simp)).trans (by simp [go_sem]); have c0 : w2.cell? ⟨w.heap.size, 0, none⟩ = some (.int .i64 0) := (hb2.cell (p := ⟨w.heap.size, 0, none⟩) (by simp)).trans (by simp [go_sem]); have c1 : w2.cell? ⟨w.heap.size, 1, none⟩ = some (.int .i64 0) := (hb2.cell (p := ⟨w.heap.size, 1, none⟩) (by simp)).trans (by simp [go_sem]); clear hb2))
              refine bodyPost_ret (v := .tuple #[.agg #[.int .i64 n, .int .i64 q1], .int .i64 0, .int .i64 0]) (by simp [results, Tryd.results25, go_sem, c0, c1]) rfl ⟨ret_rate ANS.out, ?_⟩
              exact one_set (hnew.trans (HB2.out.mono (by simp))) (Nat.le_refl _) _ _
          · have t2 : (q2 != 0) = true := by rw [bne_iff_ne]; exact d2
            rw [if_pos d2] at ans
            have ANS := Lib.hid ans
            have hq3 : 0 ≤ q3 ∧ q3 ≤ 9223372036854775000 := by
              rcases hso with hso | hso
              · exact absurd hso.1 d2
              · omega
            obtain ⟨hq3, hq4⟩ := hq3
            have hq5 : q3 ≤ (s.size : Int) - (D + 1) := by
              rcases hso with hso | hso
              · exact absurd hso.1 d2
              · omega
            clear ans d2 hso
            go_enter Tryd.func25, Tryd.ntmps25
            go_wp2_with (first
              | (go_at_call 47; refine (refNumber_any s 0 1099511627776 _ (by omega) (by omega) (by omega) (by omega)).mono ?_; rw [HN.out]; rintro e w1 ⟨rfl, rfl⟩)
              | (go_at_call 15; refine (HC.out _).mono ?_; rintro e w2 ⟨rfl, hb2⟩; have HB2 := Lib.hid hb2; have f0 : w2.frozen? ⟨w.heap.size, 0, none⟩ = false := (hb2.frozen (p := ⟨w.heap.size, 0, none⟩) (by simp)).trans (by simp [go_sem]); have f1 : w2.frozen? ⟨w.heap.size, 1, none⟩ = false := (hb2.frozen (p := ⟨w.heap.size, 1, none⟩) (by simp)).trans (by simp [go_sem]); have c0 : w2.cell? ⟨w.heap.size, 0, none⟩ = some (.int .i64 0) := (hb2.cell (p := ⟨w.heap.size, 0, none⟩) (by simp)).trans (by simp [go_sem]); have c1 : w2.cell? ⟨w.heap.size, 1, none⟩ = some (.int .i64 0) := (hb2.cell (p := ⟨w.heap.size, 1, none⟩) (by simp)).trans (by simp [go_sem]); clear hb2))
            refine bodyPost_ret (v := .tuple #[.agg #[.int .i64 0, .int .i64 0], .int .i64 q2, .int .i64 ((D : Int) + 1 + q3)]) (by simp [results, Tryd.results25, go_sem, c0, c1]) rfl ⟨ret_rate ANS.out, ?_⟩
            exact one_set (hnew.trans (HB2.out.mono (by simp))) (Nat.le_refl _) _ _

end Go.Proofs.YthbphanlmhghdaaDoor
