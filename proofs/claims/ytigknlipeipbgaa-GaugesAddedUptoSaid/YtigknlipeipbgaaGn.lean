/- THE WALK of the law 'GaugesMost'. -/
import Derived.Test.YtigknlipeipbgaaGl
namespace Go.Proofs.Ytigknlipeipbgaa
open Go Go.RowKit

theorem gabove_at {a b : Nat} {c : Bool} (la : B64 a) (lb : B64 b) (h : GM.above a b = c) (w : World) : Calls Try.prog 25 #[.float .f64 a, .float .f64 b] w fun e w' => e = .returned (.bool c) ∧ w = w' := by
  subst h
  exact gabove_any la lb w
theorem own_first {w0 w1 : World} {bg bk bw T : Nat} {W : World} (hb0 : Below W.heap.size W w0) (hB : Gau w1 bg bk bw T) (hlo : w0.heap.size ≤ bw) (hb1 : Below w0.heap.size w0 w1) : OneG W bg bk bw T w1 := OneG.start hb0 hB hlo hb1
theorem lt_take {lst : Bool} {start : Nat} {xs : List Nat} (hs : B64 start) (hx : ∀ x, x ∈ xs → B64 x) (j : Nat) : B64 (wantF lst start (xs.take j)) := by
  rcases List.mem_cons.1 (wantF_mem lst (xs.take j) start) with h | h
  · rw [h]; exact hs
  · exact hx _ (List.mem_of_mem_take h)
set_option maxRecDepth 100000
set_option maxHeartbeats 12800000
theorem gmost_true {start : Nat} {A B : Option Addr} {cap cap' : Nat} {xs : List Nat} {zs : List Int} (W : World) (ls : B64 start) (hE : ExtF W A xs) (hr : xs.length * 8 ≤ 140737488351232) (hX : Ext .i64 W B zs) (hr' : zs.length * 8 ≤ 140737488351232) :
    Calls Try.prog 5 #[.float .f64 start, .slice A xs.length cap, .slice B zs.length cap', .bool true] W fun e w' => e = .returned (.bool true) ∧ Below W.heap.size W w' := by
  have HE := Lib.hid hE
  have HX := Lib.hid hX
  have LS := Lib.hid ls
  have HXS : Hid (∀ x, x ∈ xs → B64 x) := Lib.hid (fun x hx => by obtain ⟨j, hj⟩ := List.getElem?_of_mem hx; obtain ⟨_, _, _, _, _, h⟩ := hE j x hj; exact h)
  clear hE hX ls
  go_enter Try.func5, Try.ntmps5
  go_wp2_with (first
    | (go_at_call 12; refine (glives_any _).mono ?_; rintro e w0 ⟨rfl, hb⟩; have HB0 := Lib.hid hb; clear hb)
    | (go_at_call 13; refine (gnew_any _).mono ?_; rintro e w1 ⟨bg, bk, bw, rfl, hg, hk, hw, hS, hb⟩; have HO1 := Lib.hid (own_first HB0.out hS hw hb); clear hg hk hw hS hb)
    | (go_at_call 14; refine (gset_any HO1.out.gau LS.out).mono ?_; rintro e w2 ⟨rfl, hS, hP⟩; have HO2 := Lib.hid (HO1.out.next hS hP); clear hS hP)
    | (go_at_call 31; refine (gbegun_any (k := 5) HO2.out (by omega) HE.out hr).mono ?_; rintro e w3 ⟨vp, bs, rfl, hM⟩; have HLN : Hid (bs.length = xs.length) := Lib.hid (by have := hM.pends.len; rw [List.length_map] at this; exact this); have HM3 := Lib.hid hM; have hpf := own_form hM.ps; obtain ⟨pa, pc, hvp⟩ := hpf; subst hvp; have hln : ((bs.length : Int) != (xs.length : Int)) = false := (by have := HLN.out; simp; omega); have hln2 : (bs.length : Int) = (xs.length : Int) := (by have := HLN.out; omega); clear hM)
    | (go_at_call 32; refine (gended_any (I := MostI true start xs) HM3.out (MostI.start true start xs) (MostI.stays true start xs) (by have := HLN.out; omega) HX.out hr').mono ?_; rintro e w4 ⟨rfl, T, os, hM4, hI4, hO4⟩; have HM4 := Lib.hid hM4; have HI4 := Lib.hid hI4; have HO4 := Lib.hid hO4; clear hM4 hI4 hO4))
  go_loopw [12, 43] (fun x u wr => ∃ j : Nat, j ≤ xs.length ∧ u = .int .i64 j ∧ x = .float .f64 (wantF true start (xs.take j)) ∧ ManyG W bg bk bw T os bs (.slice pa bs.length pc) wr) (fun _ u _ => xs.length - (intOf u).toNat)
  case atStart => exact ⟨0, Nat.zero_le _, rfl, rfl, HM4.out⟩
  case round =>
    obtain ⟨j, hj, rfl, rfl, hM⟩ := hrel
    have HM := Lib.hid hM
    clear hM
    have HLW : Hid (B64 (wantF true start (xs.take j))) := Lib.hid (lt_take LS.out HXS.out j)
    by_cases hlt : j < xs.length
    · obtain ⟨x, hx⟩ : ∃ x, xs[j]? = some x := ⟨xs[j], List.getElem?_eq_getElem hlt⟩
      obtain ⟨b', o, rfl, hlt', q0, lx⟩ := (HE.out.on HM.out.low) j _ hx
      have LX := Lib.hid lx
      have hlt2 : (j : Int) < (xs.length : Int) := by omega
      have HN := Lib.hid (wantF_next (lst := true) (start := start) hx)
      have HK : Hid (_) := Lib.hid (above_key (lst := true) LX.out HLW.out)
      have HWE : Hid (wantF true start (xs.take j) = wantF true start (xs.take j)) := Lib.hid rfl
      obtain ⟨wv, hwv⟩ : ∃ wv, wantF true start (xs.take j) = wv := ⟨_, rfl⟩
      rw [hwv] at HN HK HLW ⊢
      have se : (FloatKind.f64.format.order x x == some .eq) = !GM.nan x := GM.self_eq lx
      have sn : (FloatKind.f64.format.order wv wv != some .eq) = GM.nan wv := GM.self_ne HLW.out
      clear hx lx hwv HWE
      cases hn : GM.nan x with
      | true =>
        rw [hn] at se
        have NK : Hid (¬ key true x < key true wv) := Lib.hid (fun h => by have := HK.out.1 h; simp [hn] at this)
        clear hn
        go_wp2
        go_roundw
        case rel => exact ⟨j + 1, by omega, by go_num, by rw [HN.out, if_neg (by have := NK.out; omega)], HM.out⟩
        case measure => simp [intOf]; omega
      | false =>
        rw [hn] at se
        cases hv : GM.nan wv with
        | true =>
          rw [hv] at sn
          have NK : Hid (key true x < key true wv) := Lib.hid (HK.out.2 (by simp [hn, hv]))
          clear hn hv
          go_wp2
          go_roundw
          case rel => exact ⟨j + 1, by omega, by go_num, by rw [HN.out, if_pos NK.out], HM.out⟩
          case measure => simp [intOf]; omega
        | false =>
          rw [hv] at sn
          cases ha : GM.above wv x with
          | true =>
            have NK : Hid (key true x < key true wv) := Lib.hid (HK.out.2 (by simp [hn, hv, ha]))
            have HA := Lib.hid ha
            clear hn hv ha
            go_wp2_with (go_at_call 25; refine (gabove_at HLW.out LX.out HA.out _).mono ?_; rintro e wx ⟨rfl, rfl⟩)
            go_roundw
            case rel => exact ⟨j + 1, by omega, by go_num, by rw [HN.out, if_pos NK.out], HM.out⟩
            case measure => simp [intOf]; omega
          | false =>
            have NK : Hid (¬ key true x < key true wv) := Lib.hid (fun h => by have := HK.out.1 h; simp [hn, hv, ha] at this)
            have HA := Lib.hid ha
            clear hn hv ha
            go_wp2_with (go_at_call 25; refine (gabove_at HLW.out LX.out HA.out _).mono ?_; rintro e wx ⟨rfl, rfl⟩)
            go_roundw
            case rel => exact ⟨j + 1, by omega, by go_num, by rw [HN.out, if_neg (by have := NK.out; omega)], HM.out⟩
            case measure => simp [intOf]; omega
    · obtain rfl : j = xs.length := by omega
      have HWT : Hid (GM.bitsOf (wantF true start xs) = T) := Lib.hid (HI4.out.end_ (by have := HO4.out; rw [HLN.out] at this; exact this) LS.out HXS.out)
      rw [List.take_length] at HLW ⊢
      obtain ⟨wv, hwv⟩ : ∃ wv, wantF true start xs = wv := ⟨_, rfl⟩
      rw [hwv] at HWT HLW ⊢
      clear hwv
      go_wp2
      go_loopw [77] (fun u wr => ∃ j : Nat, j ≤ bs.length ∧ u = .int .i64 j ∧ ManyG W bg bk bw T os bs (.slice pa bs.length pc) wr) (fun u _ => bs.length - (intOf u).toNat)
      case atStart => exact ⟨0, Nat.zero_le _, rfl, HM.out⟩
      case round =>
        obtain ⟨j, hj, rfl, hM⟩ := hrel
        have HMM := Lib.hid hM
        clear hM
        by_cases hlt : j < bs.length
        · obtain ⟨o, b, g, c, ho, hb, hv, hc, hR, hok⟩ := HMM.out.get hlt
          cases hv
          have hlt2 : (j : Int) < (bs.length : Int) := by omega
          have HOo := Lib.hid ho
          have HRr := Lib.hid hR
          have HPH : Hid (o.ph = 2) := Lib.hid (HO4.out j o hlt ho)
          have HAN : Hid (B64 o.ans) := Lib.hid hok.ans
          have sn : (FloatKind.f64.format.order o.ans o.ans != some .eq) = GM.nan o.ans := GM.self_ne hok.ans
          clear hb hR hok ho
          cases hn : GM.nan o.ans with
          | true =>
            rw [hn] at sn
            clear hn
            go_wp2_with (go_at_call 22; refine (ganswer_op HRr.out).mono ?_; rintro e wx ⟨rfl, rfl⟩)
            go_roundw
            case rel => exact ⟨j + 1, by omega, by go_num, HMM.out⟩
            case measure => simp [intOf]; omega
          | false =>
            rw [hn] at sn
            have HAB := Lib.hid ((HI4.out.answer HWT.out HOo.out HPH.out hn).1 rfl)
            clear hn
            go_wp2_with (first
              | (go_at_call 22; refine (ganswer_op HRr.out).mono ?_; rintro e wx ⟨rfl, rfl⟩)
              | (go_at_call 25; refine (gabove_at HLW.out HAN.out HAB.out _).mono ?_; rintro e wx ⟨rfl, rfl⟩))
            go_roundw
            case rel => exact ⟨j + 1, by omega, by go_num, HMM.out⟩
            case measure => simp [intOf]; omega
        · obtain rfl : j = bs.length := by omega
          have HTB : Hid (GM.bitsOf T = T) := Lib.hid (by rw [← HWT.out, GM.bits_bits])
          go_wp2_with (first
            | (go_at_call 24; refine (gget_any HMM.out.one.gau).mono ?_; rintro e w9 ⟨rfl, hS, hP⟩; have HM9 := Lib.hid (HMM.out.word hS hP); clear hS hP)
            | (go_at_call 23; (with_reducible refine (gbits_at HM9.out.one.gau.ok HTB.out _).mono ?_); rintro e wx ⟨rfl, rfl⟩)
            | (go_at_call 23; (with_reducible refine (gbits_at HLW.out HWT.out _).mono ?_); rintro e wx ⟨rfl, rfl⟩))
          go_ret
          exact ⟨by simp, HM9.out.low⟩
theorem gmost_false {start : Nat} {A B : Option Addr} {cap cap' : Nat} {xs : List Nat} {zs : List Int} (W : World) (ls : B64 start) (hE : ExtF W A xs) (hr : xs.length * 8 ≤ 140737488351232) (hX : Ext .i64 W B zs) (hr' : zs.length * 8 ≤ 140737488351232) :
    Calls Try.prog 5 #[.float .f64 start, .slice A xs.length cap, .slice B zs.length cap', .bool false] W fun e w' => e = .returned (.bool true) ∧ Below W.heap.size W w' := by
  have HE := Lib.hid hE
  have HX := Lib.hid hX
  have LS := Lib.hid ls
  have HXS : Hid (∀ x, x ∈ xs → B64 x) := Lib.hid (fun x hx => by obtain ⟨j, hj⟩ := List.getElem?_of_mem hx; obtain ⟨_, _, _, _, _, h⟩ := hE j x hj; exact h)
  clear hE hX ls
  go_enter Try.func5, Try.ntmps5
  go_wp2_with (first
    | (go_at_call 12; refine (glives_any _).mono ?_; rintro e w0 ⟨rfl, hb⟩; have HB0 := Lib.hid hb; clear hb)
    | (go_at_call 13; refine (gnew_any _).mono ?_; rintro e w1 ⟨bg, bk, bw, rfl, hg, hk, hw, hS, hb⟩; have HO1 := Lib.hid (own_first HB0.out hS hw hb); clear hg hk hw hS hb)
    | (go_at_call 14; refine (gset_any HO1.out.gau LS.out).mono ?_; rintro e w2 ⟨rfl, hS, hP⟩; have HO2 := Lib.hid (HO1.out.next hS hP); clear hS hP)
    | (go_at_call 31; refine (gbegun_any (k := 4) HO2.out (by omega) HE.out hr).mono ?_; rintro e w3 ⟨vp, bs, rfl, hM⟩; have HLN : Hid (bs.length = xs.length) := Lib.hid (by have := hM.pends.len; rw [List.length_map] at this; exact this); have HM3 := Lib.hid hM; have hpf := own_form hM.ps; obtain ⟨pa, pc, hvp⟩ := hpf; subst hvp; have hln : ((bs.length : Int) != (xs.length : Int)) = false := (by have := HLN.out; simp; omega); have hln2 : (bs.length : Int) = (xs.length : Int) := (by have := HLN.out; omega); clear hM)
    | (go_at_call 32; refine (gended_any (I := MostI false start xs) HM3.out (MostI.start false start xs) (MostI.stays false start xs) (by have := HLN.out; omega) HX.out hr').mono ?_; rintro e w4 ⟨rfl, T, os, hM4, hI4, hO4⟩; have HM4 := Lib.hid hM4; have HI4 := Lib.hid hI4; have HO4 := Lib.hid hO4; clear hM4 hI4 hO4))
  go_loopw [12, 43] (fun x u wr => ∃ j : Nat, j ≤ xs.length ∧ u = .int .i64 j ∧ x = .float .f64 (wantF false start (xs.take j)) ∧ ManyG W bg bk bw T os bs (.slice pa bs.length pc) wr) (fun _ u _ => xs.length - (intOf u).toNat)
  case atStart => exact ⟨0, Nat.zero_le _, rfl, rfl, HM4.out⟩
  case round =>
    obtain ⟨j, hj, rfl, rfl, hM⟩ := hrel
    have HM := Lib.hid hM
    clear hM
    have HLW : Hid (B64 (wantF false start (xs.take j))) := Lib.hid (lt_take LS.out HXS.out j)
    by_cases hlt : j < xs.length
    · obtain ⟨x, hx⟩ : ∃ x, xs[j]? = some x := ⟨xs[j], List.getElem?_eq_getElem hlt⟩
      obtain ⟨b', o, rfl, hlt', q0, lx⟩ := (HE.out.on HM.out.low) j _ hx
      have LX := Lib.hid lx
      have hlt2 : (j : Int) < (xs.length : Int) := by omega
      have HN := Lib.hid (wantF_next (lst := false) (start := start) hx)
      have HK : Hid (_) := Lib.hid (above_key (lst := false) LX.out HLW.out)
      have HWE : Hid (wantF false start (xs.take j) = wantF false start (xs.take j)) := Lib.hid rfl
      obtain ⟨wv, hwv⟩ : ∃ wv, wantF false start (xs.take j) = wv := ⟨_, rfl⟩
      rw [hwv] at HN HK HLW ⊢
      have se : (FloatKind.f64.format.order x x == some .eq) = !GM.nan x := GM.self_eq lx
      have sn : (FloatKind.f64.format.order wv wv != some .eq) = GM.nan wv := GM.self_ne HLW.out
      clear hx lx hwv HWE
      cases ha : GM.above x wv with
      | true =>
        have NK : Hid (key false x < key false wv) := Lib.hid (HK.out.2 (by simp [ha]))
        have HA := Lib.hid ha
        clear ha
        go_wp2_with (go_at_call 25; refine (gabove_at LX.out HLW.out HA.out _).mono ?_; rintro e wx ⟨rfl, rfl⟩)
        go_roundw
        case rel => exact ⟨j + 1, by omega, by go_num, by rw [HN.out, if_pos NK.out], HM.out⟩
        case measure => simp [intOf]; omega
      | false =>
        have NK : Hid (¬ key false x < key false wv) := Lib.hid (fun h => by have := HK.out.1 h; simp [ha] at this)
        have HA := Lib.hid ha
        clear ha
        go_wp2_with (go_at_call 25; refine (gabove_at LX.out HLW.out HA.out _).mono ?_; rintro e wx ⟨rfl, rfl⟩)
        go_roundw
        case rel => exact ⟨j + 1, by omega, by go_num, by rw [HN.out, if_neg (by have := NK.out; omega)], HM.out⟩
        case measure => simp [intOf]; omega
    · obtain rfl : j = xs.length := by omega
      have HWT : Hid (GM.bitsOf (wantF false start xs) = T) := Lib.hid (HI4.out.end_ (by have := HO4.out; rw [HLN.out] at this; exact this) LS.out HXS.out)
      rw [List.take_length] at HLW ⊢
      obtain ⟨wv, hwv⟩ : ∃ wv, wantF false start xs = wv := ⟨_, rfl⟩
      rw [hwv] at HWT HLW ⊢
      clear hwv
      go_wp2
      go_loopw [77] (fun u wr => ∃ j : Nat, j ≤ bs.length ∧ u = .int .i64 j ∧ ManyG W bg bk bw T os bs (.slice pa bs.length pc) wr) (fun u _ => bs.length - (intOf u).toNat)
      case atStart => exact ⟨0, Nat.zero_le _, rfl, HM.out⟩
      case round =>
        obtain ⟨j, hj, rfl, hM⟩ := hrel
        have HMM := Lib.hid hM
        clear hM
        by_cases hlt : j < bs.length
        · obtain ⟨o, b, g, c, ho, hb, hv, hc, hR, hok⟩ := HMM.out.get hlt
          cases hv
          have hlt2 : (j : Int) < (bs.length : Int) := by omega
          have HOo := Lib.hid ho
          have HRr := Lib.hid hR
          have HPH : Hid (o.ph = 2) := Lib.hid (HO4.out j o hlt ho)
          have HAN : Hid (B64 o.ans) := Lib.hid hok.ans
          have sn : (FloatKind.f64.format.order o.ans o.ans != some .eq) = GM.nan o.ans := GM.self_ne hok.ans
          clear hb hR hok ho
          cases hn : GM.nan o.ans with
          | true =>
            rw [hn] at sn
            clear hn
            go_wp2_with (go_at_call 22; refine (ganswer_op HRr.out).mono ?_; rintro e wx ⟨rfl, rfl⟩)
            go_roundw
            case rel => exact ⟨j + 1, by omega, by go_num, HMM.out⟩
            case measure => simp [intOf]; omega
          | false =>
            rw [hn] at sn
            have HAB := Lib.hid ((HI4.out.answer HWT.out HOo.out HPH.out hn).2 rfl)
            clear hn
            go_wp2_with (first
              | (go_at_call 22; refine (ganswer_op HRr.out).mono ?_; rintro e wx ⟨rfl, rfl⟩)
              | (go_at_call 25; refine (gabove_at HAN.out HLW.out HAB.out _).mono ?_; rintro e wx ⟨rfl, rfl⟩))
            go_roundw
            case rel => exact ⟨j + 1, by omega, by go_num, HMM.out⟩
            case measure => simp [intOf]; omega
        · obtain rfl : j = bs.length := by omega
          have HTB : Hid (GM.bitsOf T = T) := Lib.hid (by rw [← HWT.out, GM.bits_bits])
          go_wp2_with (first
            | (go_at_call 24; refine (gget_any HMM.out.one.gau).mono ?_; rintro e w9 ⟨rfl, hS, hP⟩; have HM9 := Lib.hid (HMM.out.word hS hP); clear hS hP)
            | (go_at_call 23; (with_reducible refine (gbits_at HM9.out.one.gau.ok HTB.out _).mono ?_); rintro e wx ⟨rfl, rfl⟩)
            | (go_at_call 23; (with_reducible refine (gbits_at HLW.out HWT.out _).mono ?_); rintro e wx ⟨rfl, rfl⟩))
          go_ret
          exact ⟨by simp, HM9.out.low⟩
theorem gmost_any {start : Nat} {A B : Option Addr} {cap cap' : Nat} {xs : List Nat} {zs : List Int} (lst : Bool) (W : World) (ls : B64 start) (hE : ExtF W A xs) (hr : xs.length * 8 ≤ 140737488351232) (hX : Ext .i64 W B zs) (hr' : zs.length * 8 ≤ 140737488351232) :
    Calls Try.prog 5 #[.float .f64 start, .slice A xs.length cap, .slice B zs.length cap', .bool lst] W fun e w' => e = .returned (.bool true) ∧ Below W.heap.size W w' := by
  cases lst
  · exact gmost_false W ls hE hr hX hr'
  · exact gmost_true W ls hE hr hX hr'
end Go.Proofs.Ytigknlipeipbgaa
