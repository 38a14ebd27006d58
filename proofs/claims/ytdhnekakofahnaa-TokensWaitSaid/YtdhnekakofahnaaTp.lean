/- THE WALK of the law 'TokensWait'. -/
import Derived.Test.YtdhnekakofahnaaTo
namespace Go.Proofs.Ytdhnekakofahnaa
open Go Go.RowKit

set_option maxRecDepth 100000
theorem twait_no {ev bu t n : Int} (h : fitsB ev bu = false) {A : Option Addr} {len cap : Nat} (W : World) :
    Calls Try.prog 13 #[.int .i64 ev, .int .i64 bu, .slice A len cap, .int .i64 t, .int .i64 n] W fun e w' => e = .returned (.bool true) ∧ Below W.heap.size W w' := by
  have H := Lib.hid h
  clear h
  go_enter Try.func13, Try.ntmps13
  go_wp2_with (first
    | (go_at_call 50; refine (tbegins_any _).mono ?_; rintro e w0 ⟨rfl, hb⟩; have HB0 := Lib.hid hb; clear hb)
    | (go_at_call 48; refine (tnew_no H.out).mono ?_; rintro e wx ⟨rfl, rfl⟩))
  go_ret
  exact ⟨rfl, HB0.out⟩
set_option maxHeartbeats 12800000 in
theorem twait_yes {ev bu t n : Int} (h : fitsB ev bu = true) {A : Option Addr} {cap : Nat} {ops : List (Int × Int × Int)} (W : World) (hE : Ext3 .u8 .i64 .i64 W A ops) (hr : ops.length * 24 ≤ 140737488351232) :
    Calls Try.prog 13 #[.int .i64 ev, .int .i64 bu, .slice A ops.length cap, .int .i64 t, .int .i64 n] W fun e w' => e = .returned (.bool true) ∧ Below W.heap.size W w' := by
  have HE := Lib.hid hE
  have HF := Lib.hid h
  obtain ⟨a, b, c, d⟩ := fits_bounds h
  clear hE h
  go_enter Try.func13, Try.ntmps13
  go_wp2_with (first
    | (go_at_call 50; refine (tbegins_any _).mono ?_; rintro e w0 ⟨rfl, hb⟩; have HB0 := Lib.hid hb; clear hb)
    | (go_at_call 48; refine (tnew_yes _ HF.out).mono ?_; rintro e w1 ⟨bt, bk, bw, rfl, hc, hk, hw, hS, hb⟩; have HO1 := Lib.hid (OneT.start HB0.out hS hw hb); clear hc hk hw hS hb))
  go_loopw [13] (fun u wr => ∃ j : Nat, j ≤ ops.length ∧ u = .int .i64 j ∧ ∃ T, OneT W bt bk bw ev bu T wr) (fun u _ => ops.length - (intOf u).toNat)
  case atStart => exact ⟨0, Nat.zero_le _, rfl, _, HO1.out⟩
  case round =>
    obtain ⟨j, hj, rfl, T, hO⟩ := hrel
    have HO := Lib.hid hO
    clear hO HO1 HB0
    by_cases hlt : j < ops.length
    · obtain ⟨op, hop⟩ : ∃ op, ops[j]? = some op := ⟨ops[j], List.getElem?_eq_getElem hlt⟩
      obtain ⟨b', o, rfl, hlt', q0, q1, q2⟩ := (HE.out.on HO.out.low) j op hop
      have hlt2 : (j : Int) < (ops.length : Int) := by omega
      clear hop
      go_wp2
      go_region_with (first
        | (go_at_call 58; refine (ttake_all HO.out.buck.drew).mono ?_; rintro e w2 ⟨rfl, hB, hP⟩; have HO2 := Lib.hid (HO.out.drew.next hB hP); clear hB hP))
      all_goals
        go_wp2_with fail
        go_roundw
        case rel => exact ⟨j + 1, by omega, by go_num, _, by first | exact HO2.out | exact HO2.out.drew⟩
        case measure => simp [intOf]; omega
    · obtain rfl : j = ops.length := by omega
      cases hM : trightB 2 t 0 with
      | false =>
        have HM := Lib.hid hM
        clear hM
        go_wp2_with (go_at_call 59; refine (tpeek_no HM.out).mono ?_; rintro e w2 ⟨rfl, hb⟩; have HO2 := Lib.hid (HO.out.on hb); clear hb)
        go_ret
        exact ⟨rfl, HO2.out.low⟩
      | true =>
        have hRP := rightT_iff.1 hM
        have HRP := Lib.hid hRP
        have ht : 0 ≤ t ∧ t ≤ 2305843009213693952 := hRP.1
        obtain ⟨t0, t1⟩ := ht
        obtain ⟨L, hL⟩ : ∃ L, roomV ev bu T t / ev = L := ⟨_, rfl⟩
        obtain ⟨L0, L1⟩ : 0 ≤ L ∧ L ≤ bu := by rw [← hL]; exact left_bounds HF.out
        have HL := Lib.hid hL
        clear hM hRP hL
        by_cases hLb : L < bu
        · have HRL : Hid (RightT 1 t (L + 1)) := Lib.hid (by unfold RightT; omega)
          have HGL : Hid (t + bu * ev < max T t + (L + 1) * ev) := Lib.hid (Int.not_le.1 (fun hh => by have := (fits_left HF.out (show 1 ≤ L + 1 by omega)).1 hh; rw [HL.out] at this; omega))
          cases hR : trightB 1 t n with
          | false =>
            have HR := Lib.hid hR
            clear hR
            go_wp2_with (first | (go_at_call 59; (with_reducible refine (tpeek_at HO.out.buck HRP.out HL.out).mono ?_); rintro e w3 ⟨rfl, hB, hP⟩; have HO3 := Lib.hid (HO.out.next hB hP); clear hB hP) | (go_at_call 58; (with_reducible refine (ttake_miss HO3.out.buck HRL.out HGL.out rfl).mono ?_); rintro e w4 ⟨rfl, hB, hP⟩; have HO4 := Lib.hid (HO3.out.next hB hP); clear hB hP) | (go_at_call 58; (with_reducible refine (ttake_no HR.out).mono ?_); unfold zeroV; rintro e w5 ⟨rfl, hb⟩; have HO5 := Lib.hid ((HO4.out.alloc _).on hb); clear hb))
            go_ret
            exact ⟨rfl, (HO5.out.alloc _).low⟩
          | true =>
            have hRT := rightT_iff.1 hR
            have HR := Lib.hid hRT
            have hn1 : 1 ≤ n := by unfold RightT at hRT; omega
            have hn2 : n ≤ 1048576 := by unfold RightT at hRT; omega
            have hft := fits_left (T := T) (t := t) HF.out hn1
            clear hR hRT
            by_cases hnL : n ≤ L
            · have hg : max T t + n * ev ≤ t + bu * ev := hft.2 (by rw [HL.out]; exact hnL)
              have HG := Lib.hid hg
              have HQ : Hid (roomV ev bu (max T t + n * ev) t / ev = L - n) := Lib.hid (by rw [rest_left HF.out hn1 hg, HL.out])
              clear hg hft
              go_wp2_with (first | (go_at_call 59; (with_reducible refine (tpeek_at HO.out.buck HRP.out HL.out).mono ?_); rintro e w3 ⟨rfl, hB, hP⟩; have HO3 := Lib.hid (HO.out.next hB hP); clear hB hP) | (go_at_call 58; (with_reducible refine (ttake_miss HO3.out.buck HRL.out HGL.out rfl).mono ?_); rintro e w4 ⟨rfl, hB, hP⟩; have HO4 := Lib.hid (HO3.out.next hB hP); clear hB hP) | (go_at_call 58; (with_reducible refine (ttake_hit (HO4.out.alloc _).buck HR.out HG.out rfl).mono ?_); rintro e w5 ⟨rfl, hB, hP⟩; have HO5 := Lib.hid ((HO4.out.alloc _).next hB hP); clear hB hP) | (go_at_call 59; (with_reducible refine (tpeek_at (HO5.out.alloc _).buck HRP.out HQ.out).mono ?_); rintro e w6 ⟨rfl, hB, hP⟩; have HO6 := Lib.hid ((HO5.out.alloc _).next hB hP); have hz : Row w6 w5.heap.size 96 [.bool true, .int .i64 0, .int .i64 0] := (Row.new w5 _ _).part hP (by have := HO5.out.buck.words.row.lt; simp; omega); have z0 := hz.cell 0; have z1 := hz.cell 1; have z2 := hz.cell 2; have zlt := hz.lt; clear hz; clear hB hP))
              go_ret
              exact ⟨rfl, HO6.out.low⟩
            · have hg : ¬ max T t + n * ev ≤ t + bu * ev := fun h => hnL (by have := hft.1 h; rwa [HL.out] at this)
              have HG : Hid (t + bu * ev < max T t + n * ev) := Lib.hid (by omega)
              by_cases hnb : bu < n
              · have HS : Hid (stopV ev bu T t n = -1) := Lib.hid (by unfold stopV; rw [if_pos hnb])
                clear hg hft
                go_wp2_with (first | (go_at_call 59; (with_reducible refine (tpeek_at HO.out.buck HRP.out HL.out).mono ?_); rintro e w3 ⟨rfl, hB, hP⟩; have HO3 := Lib.hid (HO.out.next hB hP); clear hB hP) | (go_at_call 58; (with_reducible refine (ttake_miss HO3.out.buck HRL.out HGL.out rfl).mono ?_); rintro e w4 ⟨rfl, hB, hP⟩; have HO4 := Lib.hid (HO3.out.next hB hP); clear hB hP) | (go_at_call 58; (with_reducible refine (ttake_miss (HO4.out.alloc _).buck HR.out HG.out HS.out).mono ?_); rintro e w5 ⟨rfl, hB, hP⟩; have HO5 := Lib.hid ((HO4.out.alloc _).next hB hP); clear hB hP))
                go_ret
                exact ⟨rfl, (HO5.out.alloc _).low⟩
              · obtain ⟨hs1, hs2, hs3⟩ := wait_facts (T := T) (t := t) HF.out (show n ≤ bu by omega) hg
                obtain ⟨S, hS⟩ : ∃ S, T + n * ev - (t + bu * ev) = S := ⟨_, rfl⟩
                rw [hS] at hs1 hs2 hs3
                have HS := Lib.hid hs1
                have hT1 := HO.out.buck.hi
                have HG2 : Hid ((t + S - 1) + bu * ev < max T (t + S - 1) + n * ev) := Lib.hid (by omega)
                have HS2 : Hid (stopV ev bu T (t + S - 1) n = 1) := Lib.hid (by unfold stopV; rw [if_neg hnb]; omega)
                have HG3 : Hid (max T (t + S) + n * ev ≤ (t + S) + bu * ev) := Lib.hid (by omega)
                clear hg hft hs1 hS
                by_cases hE : 2305843009213693952 - S < t
                · go_wp2_with (first | (go_at_call 59; (with_reducible refine (tpeek_at HO.out.buck HRP.out HL.out).mono ?_); rintro e w3 ⟨rfl, hB, hP⟩; have HO3 := Lib.hid (HO.out.next hB hP); clear hB hP) | (go_at_call 58; (with_reducible refine (ttake_miss HO3.out.buck HRL.out HGL.out rfl).mono ?_); rintro e w4 ⟨rfl, hB, hP⟩; have HO4 := Lib.hid (HO3.out.next hB hP); clear hB hP) | (go_at_call 58; (with_reducible refine (ttake_miss (HO4.out.alloc _).buck HR.out HG.out HS.out).mono ?_); rintro e w5 ⟨rfl, hB, hP⟩; have HO5 := Lib.hid ((HO4.out.alloc _).next hB hP); clear hB hP))
                  go_ret
                  exact ⟨rfl, (HO5.out.alloc _).low⟩
                · have HR2 : Hid (RightT 1 (t + S - 1) n) := Lib.hid (by unfold RightT; omega)
                  have HR3 : Hid (RightT 1 (t + S) n) := Lib.hid (by unfold RightT; omega)
                  go_wp2_with (first | (go_at_call 59; (with_reducible refine (tpeek_at HO.out.buck HRP.out HL.out).mono ?_); rintro e w3 ⟨rfl, hB, hP⟩; have HO3 := Lib.hid (HO.out.next hB hP); clear hB hP) | (go_at_call 58; (with_reducible refine (ttake_miss HO3.out.buck HRL.out HGL.out rfl).mono ?_); rintro e w4 ⟨rfl, hB, hP⟩; have HO4 := Lib.hid (HO3.out.next hB hP); clear hB hP) | (go_at_call 58; (with_reducible refine (ttake_miss (HO4.out.alloc _).buck HR.out HG.out HS.out).mono ?_); rintro e w5 ⟨rfl, hB, hP⟩; have HO5 := Lib.hid ((HO4.out.alloc _).next hB hP); clear hB hP) | (go_at_call 58; (with_reducible refine (ttake_miss (HO5.out.alloc _).buck HR2.out HG2.out HS2.out).mono ?_); rintro e w6 ⟨rfl, hB, hP⟩; have HO6 := Lib.hid ((HO5.out.alloc _).next hB hP); have hz : Row w6 w5.heap.size 96 [.bool false, .int .i64 S, .int .i64 0] := (Row.new w5 _ _).part hP (by have := HO5.out.buck.words.row.lt; simp; omega); have z0 := hz.cell 0; have z1 := hz.cell 1; have z2 := hz.cell 2; have zlt := hz.lt; clear hz; clear hB hP) | (go_at_call 58; (with_reducible refine (ttake_hit (HO6.out.alloc _).buck HR3.out HG3.out rfl).mono ?_); rintro e w7 ⟨rfl, hB, hP⟩; have HO7 := Lib.hid ((HO6.out.alloc _).next hB hP); have hz : Row w7 w6.heap.size 96 [.bool false, .int .i64 1, .int .i64 0] := (Row.new w6 _ _).part hP (by have := HO6.out.buck.words.row.lt; simp; omega); have y0 := hz.cell 0; have y1 := hz.cell 1; have y2 := hz.cell 2; have yf := hz.free; have ylt := hz.lt; have HY := Lib.hid (Nat.le_trans HO6.out.low.size (Nat.le_refl _)); clear hz; clear hB hP))
                  go_ret
                  exact ⟨rfl, (((HO7.out.low.setCell (by simp; exact HY.out) _).setCell (by simp; exact HY.out) _).setCell (by simp; exact HY.out) _)⟩
        · have hLe : ¬ L < bu := hLb
          cases hR : trightB 1 t n with
          | false =>
            have HR := Lib.hid hR
            clear hR
            go_wp2_with (first | (go_at_call 59; (with_reducible refine (tpeek_at HO.out.buck HRP.out HL.out).mono ?_); rintro e w3 ⟨rfl, hB, hP⟩; have HO3 := Lib.hid (HO.out.next hB hP); clear hB hP) | (go_at_call 58; (with_reducible refine (ttake_no HR.out).mono ?_); unfold zeroV; rintro e w5 ⟨rfl, hb⟩; have HO5 := Lib.hid (HO3.out.on hb); clear hb))
            go_ret
            exact ⟨rfl, (HO5.out.alloc _).low⟩
          | true =>
            have hRT := rightT_iff.1 hR
            have HR := Lib.hid hRT
            have hn1 : 1 ≤ n := by unfold RightT at hRT; omega
            have hn2 : n ≤ 1048576 := by unfold RightT at hRT; omega
            have hft := fits_left (T := T) (t := t) HF.out hn1
            clear hR hRT
            by_cases hnL : n ≤ L
            · have hg : max T t + n * ev ≤ t + bu * ev := hft.2 (by rw [HL.out]; exact hnL)
              have HG := Lib.hid hg
              have HQ : Hid (roomV ev bu (max T t + n * ev) t / ev = L - n) := Lib.hid (by rw [rest_left HF.out hn1 hg, HL.out])
              clear hg hft
              go_wp2_with (first | (go_at_call 59; (with_reducible refine (tpeek_at HO.out.buck HRP.out HL.out).mono ?_); rintro e w3 ⟨rfl, hB, hP⟩; have HO3 := Lib.hid (HO.out.next hB hP); clear hB hP) | (go_at_call 58; (with_reducible refine (ttake_hit HO3.out.buck HR.out HG.out rfl).mono ?_); rintro e w5 ⟨rfl, hB, hP⟩; have HO5 := Lib.hid (HO3.out.next hB hP); clear hB hP) | (go_at_call 59; (with_reducible refine (tpeek_at (HO5.out.alloc _).buck HRP.out HQ.out).mono ?_); rintro e w6 ⟨rfl, hB, hP⟩; have HO6 := Lib.hid ((HO5.out.alloc _).next hB hP); have hz : Row w6 w5.heap.size 96 [.bool true, .int .i64 0, .int .i64 0] := (Row.new w5 _ _).part hP (by have := HO5.out.buck.words.row.lt; simp; omega); have z0 := hz.cell 0; have z1 := hz.cell 1; have z2 := hz.cell 2; have zlt := hz.lt; clear hz; clear hB hP))
              go_ret
              exact ⟨rfl, HO6.out.low⟩
            · have hg : ¬ max T t + n * ev ≤ t + bu * ev := fun h => hnL (by have := hft.1 h; rwa [HL.out] at this)
              have HG : Hid (t + bu * ev < max T t + n * ev) := Lib.hid (by omega)
              by_cases hnb : bu < n
              · have HS : Hid (stopV ev bu T t n = -1) := Lib.hid (by unfold stopV; rw [if_pos hnb])
                clear hg hft
                go_wp2_with (first | (go_at_call 59; (with_reducible refine (tpeek_at HO.out.buck HRP.out HL.out).mono ?_); rintro e w3 ⟨rfl, hB, hP⟩; have HO3 := Lib.hid (HO.out.next hB hP); clear hB hP) | (go_at_call 58; (with_reducible refine (ttake_miss HO3.out.buck HR.out HG.out HS.out).mono ?_); rintro e w5 ⟨rfl, hB, hP⟩; have HO5 := Lib.hid (HO3.out.next hB hP); clear hB hP))
                go_ret
                exact ⟨rfl, (HO5.out.alloc _).low⟩
              · exfalso; omega
end Go.Proofs.Ytdhnekakofahnaa
