/- THE WALK of the law 'TopHeld'. -/
import Derived.Test.YteoekkhgpdhnhaaDoorNg
import Derived.Test.YteoekkhgpdhnhaaDoorWl
import Derived.Test.YteoekkhgpdhnhaaDoorZb
import Derived.Test.YteoekkhgpdhnhaaDoorEx
namespace Go.Proofs.YteoekkhgpdhnhaaDoor
open Go Go.RowKit
set_option maxRecDepth 100000
set_option maxHeartbeats 3200000
/-- a semaphore and a scale of the call's own -/
structure HeldT (W : World) (bs bk bw bx : Nat) (pl d g dg : Int) (w : World) : Prop where
  sem : SemM w bs bk bw pl d g
  box : Row w bx 50 [.int .i64 1, .int .i64 1048576, .int .i64 dg]
  low : Below W.heap.size W w
  lo : W.heap.size ≤ bw
section
variable {W w w1 : World} {bs bk bw bx : Nat} {pl d g d' g' dg : Int}
theorem HeldT.on (h : HeldT W bs bk bw bx pl d g dg w) (hb : Below w.heap.size w w1) : HeldT W bs bk bw bx pl d g dg w1 := ⟨h.sem.on hb, h.box.below hb h.box.lt, h.low.trans (hb.mono h.low.size), h.lo⟩
theorem HeldT.part (h : HeldT W bs bk bw bx pl d g dg w) (hs : SemM w1 bs bk bw pl d' g') (hP : Part [bw] w w1) : HeldT W bs bk bw bx pl d' g' dg w1 :=
  ⟨hs, h.box.part hP (by simpa using h.box.ne h.sem.words.row (by decide)), h.low.trans (hP.below h.low.size (fun r hr => by rw [List.mem_singleton.1 hr]; exact h.lo)), h.lo⟩
end
theorem held_no {n dg : Int} (hn : n < 1 ∨ 65536 < n) {B : Option Addr} {len' cap' : Nat} (W : World) (hE : UnitsIn W) :
    Calls Tryd.prog 4 #[.int .i64 n, .int .i64 dg, .slice B len' cap'] W fun e w' => e = .returned (.bool true) ∧ Below W.heap.size W w' := by
  have HN := Lib.hid hn
  have HE := Lib.hid hE
  clear hn hE
  go_enter Tryd.func4, Tryd.ntmps4
  go_wp2_with (first
    | (go_at_call 6; refine (begins_top _ HE.out).mono ?_; rintro e w1 ⟨rfl, hb⟩; have HB := Lib.hid hb; clear hb)
    | (go_at_call 14; refine (snew_no HN.out _).mono ?_; rintro e wx ⟨rfl, rfl⟩))
  go_ret
  exact ⟨rfl, HB.out⟩
theorem held_wrong {dg : Int} {m : Nat} (h1 : 1 ≤ m) (h2 : m ≤ 65536) (hr : Sc.rightB 1 1048576 dg = false) {B : Option Addr} {len' cap' : Nat} (W : World) (hE : UnitsIn W) :
    Calls Tryd.prog 4 #[.int .i64 (m : Int), .int .i64 dg, .slice B len' cap'] W fun e w' => e = .returned (.bool true) ∧ Below W.heap.size W w' := by
  have HE := Lib.hid hE
  have HR := Lib.hid hr
  clear hE hr
  go_enter Tryd.func4, Tryd.ntmps4
  go_wp2_with (first
    | (go_at_call 6; refine (begins_top _ HE.out).mono ?_; rintro e w1 ⟨rfl, hb⟩; have HB := Lib.hid hb; clear hb)
    | (go_at_call 14; refine (snew_yes _ h1 h2).mono ?_; rintro e w2 ⟨bs, bk, bw, rfl, hs, hk, hw, hS, hb⟩; have HB2 := Lib.hid (HB.out.trans (hb.mono HB.out.size)); clear hs hk hw hS hb)
    | (go_at_call 15; refine (Sc.sindex_no HR.out _).mono ?_; rintro e w3 ⟨rfl, hb⟩; have HB3 := Lib.hid ((HB2.out.alloc HB2.out.size _).trans (hb.mono (Nat.le_trans HB2.out.size (by simp)))); clear hb))
  go_ret
  exact ⟨rfl, HB3.out⟩
set_option maxHeartbeats 12800000
theorem held_yes {dg : Int} {m : Nat} (h1 : 1 ≤ m) (h2 : m ≤ 65536) (hr : Sc.rightB 1 1048576 dg = true) {B : Option Addr} {cap' : Nat} {xs : List Int} (W : World) (hE : UnitsIn W) (hX : Ext .i64 W B xs) (hr' : xs.length * 8 ≤ 140737488351232) :
    Calls Tryd.prog 4 #[.int .i64 (m : Int), .int .i64 dg, .slice B xs.length cap'] W fun e w' => e = .returned (.bool true) ∧ Below W.heap.size W w' := by
  have HE := Lib.hid hE
  have HR := Lib.hid hr
  have HX := Lib.hid hX
  obtain ⟨top, htop⟩ : ∃ x, Sc.aI 1 dg (m : Int) = x := ⟨_, rfl⟩
  have HTOP := Lib.hid htop
  have HI : Hid (∀ w : World, Calls Tryd.prog 15 #[.agg #[.int .i64 1, .int .i64 1048576, .int .i64 dg], .int .i64 (m : Int)] w fun e w' => e = .returned (.tuple #[.int .i64 top, .int .i64 0]) ∧ Below w.heap.size w w') := Lib.hid (fun w => by rw [← htop]; exact Sc.index_in hr w (by omega) (by omega))
  clear hE hr hX htop
  go_enter Tryd.func4, Tryd.ntmps4
  go_wp2_with (first
    | (go_at_call 6; refine (begins_top _ HE.out).mono ?_; rintro e w1 ⟨rfl, hb⟩; have HB := Lib.hid hb; clear hb)
    | (go_at_call 14; refine (snew_yes _ h1 h2).mono ?_; rintro e w2 ⟨bs, bk, bw, rfl, hs, hk, hw, hS, hb⟩; have HS2 := Lib.hid hS; have HW2 := Lib.hid (Nat.le_trans HB.out.size hw); have HB2 := Lib.hid (HB.out.trans (hb.mono HB.out.size)); clear hs hk hw hS hb)
    | (go_at_call 15; refine (HI.out _).mono ?_; rintro e w3 ⟨rfl, hb⟩; have H3 : Hid (HeldT W bs bk bw w2.heap.size (m : Int) 0 0 dg w3) := Lib.hid (HeldT.on (w := w2.alloc (.cells #[.int .i64 1, .int .i64 1048576, .int .i64 dg] 50)) ⟨HS2.out.on ((Below.refl _ _).alloc (Nat.le_refl _) _), Row.new w2 _ [.int .i64 1, .int .i64 1048576, .int .i64 dg], HB2.out.alloc HB2.out.size _, HW2.out⟩ hb); clear hb))
  have hxl : xs.length ≤ 17592186044160 := by omega
  obtain ⟨bx, hbx⟩ : ∃ x, w2.heap.size = x := ⟨_, rfl⟩
  rw [hbx] at H3
  rw [hbx]
  clear hbx HS2 HW2 HB2
  go_loopw [53] (fun u wr => ∃ j : Nat, j ≤ xs.length ∧ u = .int .i64 j ∧ ∃ d g, HeldT W bs bk bw bx (m : Int) d g dg wr ∧ 0 ≤ g ∧ g ≤ d ∧ d ≤ g + m ∧ d ≤ j) (fun u _ => xs.length - (intOf u).toNat)
  case atStart => exact ⟨0, Nat.zero_le _, rfl, 0, 0, H3.out, by omega, by omega, by omega, by omega⟩
  case round =>
    obtain ⟨j, hj, rfl, d, g, hT, hg0, hgd, hdm, hdj⟩ := hrel
    have HT := Lib.hid hT
    clear hT H3
    by_cases hlt : j < xs.length
    · obtain ⟨k, hk⟩ : ∃ k, xs[j]? = some k := ⟨xs[j], List.getElem?_eq_getElem hlt⟩
      obtain ⟨b', o', rfl, hlt', q0⟩ := (HX.out.on HT.out.low) j _ hk
      have hlt2 : (j : Int) < (xs.length : Int) := by omega
      clear hk
      by_cases hbr : (5000 : Int) < (j : Int)
      · have hdb : decide ((5000 : Int) < (j : Int)) = true := by simpa using hbr
        go_wp2
        go_ret
        exact ⟨rfl, HT.out.low⟩
      have hdb : decide ((5000 : Int) < (j : Int)) = false := by simpa using hbr
      clear hbr
      have hw1 : IntKind.u64.wrap ((m : Int) + g) = m + g := by rw [IntKind.wrap_u64]; omega
      have hu1 : up d = d + 1 := by unfold up; rw [IntKind.wrap_u64]; omega
      have hu2 : up g = g + 1 := by unfold up; rw [IntKind.wrap_u64]; omega
      have HW1 := Lib.hid hw1
      obtain ⟨r, hrr⟩ : ∃ r, k.tmod 2 = r := ⟨_, rfl⟩
      obtain ⟨rb, hrb⟩ : ∃ rb, (r == 0) = rb := ⟨_, rfl⟩
      go_upto_if 62 with fail
      go_cut [] (fun wx => ∃ d g, HeldT W bs bk bw bx (m : Int) d g dg wx ∧ 0 ≤ g ∧ g ≤ d ∧ d ≤ g + m ∧ d ≤ j + 1)
      case first =>
        cases rb with
        | true =>
          by_cases hf : (m : Int) + g ≤ d
          · go_wp2_with (go_at_call 16; refine (stry_full HT.out.sem (by rw [HW1.out]; exact hf)).mono ?_; rintro e w5 ⟨rfl, hS5, hP5⟩; have H5 := Lib.hid (HT.out.part hS5 hP5); clear hS5 hP5)
            go_meet
            exact ⟨d, g, H5.out, by omega, by omega, by omega, by omega⟩
          · go_wp2_with (go_at_call 16; refine (stry_ok HT.out.sem (by rw [HW1.out]; omega)).mono ?_; rintro e w5 ⟨rfl, hS5, hP5⟩; have H5 := Lib.hid (HT.out.part hS5 hP5); clear hS5 hP5)
            go_meet
            exact ⟨up d, g, H5.out, by omega, by omega, by omega, by omega⟩
        | false =>
          by_cases hf : d ≤ g
          · go_wp2_with (go_at_call 17; refine (sleave_free HT.out.sem hf).mono ?_; rintro e w5 ⟨rfl, hS5, hP5⟩; have H5 := Lib.hid (HT.out.part hS5 hP5); clear hS5 hP5)
            go_meet
            exact ⟨d, g, H5.out, by omega, by omega, by omega, by omega⟩
          · go_wp2_with (go_at_call 17; refine (sleave_ok HT.out.sem (by omega)).mono ?_; rintro e w5 ⟨rfl, hS5, hP5⟩; have H5 := Lib.hid (HT.out.part hS5 hP5); clear hS5 hP5)
            go_meet
            exact ⟨d, up g, H5.out, by omega, by omega, by omega, by omega⟩
      case rest =>
        obtain ⟨d, g, hT, hg0, hgd, hdm, hdj⟩ := hcut
        have HT := Lib.hid hT
        obtain ⟨n, hn⟩ : ∃ n, d - g = n := ⟨_, rfl⟩
        have hn0 : 0 ≤ n := by omega
        have hnm : n ≤ (m : Int) := by omega
        have hnm2 : n ≤ 65536 := by omega
        have hin : IntKind.u64.wrap (min d (IntKind.u64.wrap ((m : Int) + g)) - g) = n := by
          rw [show IntKind.u64.wrap ((m : Int) + g) = m + g by rw [IntKind.wrap_u64]; omega, IntKind.wrap_u64]; omega
        have HIN := Lib.hid hin
        obtain ⟨i, hi⟩ : ∃ x, Sc.aI 1 dg n = x := ⟨_, rfl⟩
        obtain ⟨lo, hlo⟩ : ∃ x, Sc.loI 1 dg i = x := ⟨_, rfl⟩
        obtain ⟨hh, hhh⟩ : ∃ x, Sc.hiI 1 dg i = x := ⟨_, rfl⟩
        have ha := Sc.a_in HR.out hn0 (show n ≤ 1048576 by omega)
        have hm' := Sc.a_mono HR.out hn0 hnm (show (m : Int) ≤ 1048576 by omega)
        rw [hi] at ha hm'
        rw [HTOP.out] at hm'
        rw [hlo, hhh] at ha
        obtain ⟨i0, i1, i2, i3⟩ := ha
        have HI2 : Hid (∀ w : World, Calls Tryd.prog 15 #[.agg #[.int .i64 1, .int .i64 1048576, .int .i64 dg], .int .i64 n] w fun e w' => e = .returned (.tuple #[.int .i64 i, .int .i64 0]) ∧ Below w.heap.size w w') := Lib.hid (fun w => by rw [← hi]; exact Sc.index_in HR.out w hn0 (by omega))
        have HB3 : Hid (∀ w : World, Calls Tryd.prog 19 #[.agg #[.int .i64 1, .int .i64 1048576, .int .i64 dg], .int .i64 i] w fun e w' => e = .returned (.tuple #[.int .i64 lo, .int .i64 hh, .int .i64 0]) ∧ Below w.heap.size w w') := Lib.hid (fun w => by rw [← hlo, ← hhh]; exact Sc.bounds_in HR.out w i0 i1)
        have e1 : decide ((m : Int) < n) = false := by simp; omega
        have e2 : decide (top < i) = false := by simp; omega
        have e3 : decide (n < lo) = false := by simp; omega
        have e4 : decide (hh < n) = false := by simp; omega
        clear hT hin hi hlo hhh hm' i0 i1 i2 i3 hn hrr hrb hw1 hu1 hu2
        go_wp2_with (first
          | (go_at_call 18; refine (sinside_any HT.out.sem).mono ?_; rw [HIN.out]; rintro e w5 ⟨rfl, hS5, hP5⟩; have H5 := Lib.hid (HT.out.part hS5 hP5); obtain ⟨c0, c1, c2⟩ := (show _ ∧ _ ∧ _ from ⟨H5.out.box.cell 0, H5.out.box.cell 1, H5.out.box.cell 2⟩); clear hS5 hP5)
          | (go_at_call 15; refine (HI2.out _).mono ?_; rintro e w6 ⟨rfl, hb⟩; have H6 := Lib.hid (H5.out.on hb); obtain ⟨f0, f1, f2⟩ := (show _ ∧ _ ∧ _ from ⟨H6.out.box.cell 0, H6.out.box.cell 1, H6.out.box.cell 2⟩); clear hb)
          | (go_at_call 19; refine (HB3.out _).mono ?_; rintro e w7 ⟨rfl, hb⟩; have H7 := Lib.hid (H6.out.on hb); clear hb))
        go_roundw
        case rel => exact ⟨j + 1, by omega, by go_num, d, g, H7.out, hg0, hgd, hdm, by omega⟩
        case measure => simp [intOf]; omega
    · obtain rfl : xs.length = j := by omega
      go_wp2
      go_ret
      exact ⟨rfl, HT.out.low⟩
end Go.Proofs.YteoekkhgpdhnhaaDoor
