/- THE WALK of the law 'ShardsStill'. -/
import Derived.Test.YtigknlipeipbgaaSr
import Derived.Test.YtigknlipeipbgaaEx
import Derived.Deep.LoopGhost
namespace Go.Proofs.Ytigknlipeipbgaa
open Go Go.RowKit

theorem step_at {w : World} {bk bw bp : Nat} {ws : List Int} (h : Words w bk bw ws) (hn : 0 < ws.length) {o : OpS} (hr : RightN o.k o.i o.y) {x : Int} {l : Bool} (ht : o.t < many ws.length o.k) (hp : Row w bp 139 (opL bk ws.length o.k o.i o.y o.t o.s)) (hx : ws[cellOf ws.length o.k o.i o.t]? = some x) (hl : decide (many ws.length o.k ≤ o.t + 1) = l) :
    Calls Try.prog 40 #[.pointer (some ⟨bp, 0, none⟩)] w
      (Stepped w bk bw bp (ws.set (cellOf ws.length o.k o.i o.t) (putOf o.k o.y x)) (opL bk ws.length o.k o.i o.y (o.t + 1) (sumOf o.k o.y o.s x)) (.tuple #[didV ws.length o.k o.i o.y o.t x, .bool l])) := by
  subst hl
  exact step_run h hn hr ht hp hx
theorem done_at {w : World} {bk n bp : Nat} {o : OpS} {d : Bool} (hp : Row w bp 139 (opL bk n o.k o.i o.y o.t o.s)) (hd : decide (many n o.k ≤ o.t) = d) :
    Calls Try.prog 43 #[.pointer (some ⟨bp, 0, none⟩)] w fun e w' => e = .returned (.bool d) ∧ w = w' := by
  subst hd
  exact done_op hp
theorem answer_at {w : World} {bk n bp : Nat} {o : OpS} (hp : Row w bp 139 (opL bk n o.k o.i o.y o.t o.s)) (h : many n o.k ≤ o.t) :
    Calls Try.prog 44 #[.pointer (some ⟨bp, 0, none⟩)] w fun e w' => e = .returned (.int .u64 o.s) ∧ w = w' := by
  have := answer_op hp
  rwa [if_pos h] at this
theorem csum_at {w : World} {bc bk bw : Nat} {ws : List Int} {v : Int} (h : Shard w bc bk bw ws) (hv : sumW ws = v) :
    Calls Try.prog 49 #[.pointer (some ⟨bc, 0, none⟩)] w fun e w' => e = .returned (.int .u64 v) ∧ w = w' := by
  subst hv
  exact csum_any h
theorem many_64 {n : Nat} (h0 : 0 < n) (h : n ≤ 64) (k : Int) : many n k ≤ 64 := Nat.le_trans (many_le h0 k) h
theorem wrap_add (a b : Int) : IntKind.u64.wrap (IntKind.u64.wrap a + b) = IntKind.u64.wrap (a + b) := by rw [IntKind.wrap_u64, IntKind.wrap_u64, IntKind.wrap_u64]; omega
theorem still_sum {ws : List Int} {os : List OpS} {n : Nat} (hn : 0 < n) (hc : Cong (sumI ws) (totalOf os)) (hO : ∀ o, o ∈ os → many n o.k ≤ o.t) :
    sumW ws = IntKind.u64.wrap (IntKind.u64.wrap (addedOf os) - IntKind.u64.wrap (takenOf os)) := by
  rw [sumW_eq, wrap_of_cong hc, total_over hn hO]
  rw [IntKind.wrap_u64, IntKind.wrap_u64, IntKind.wrap_u64, IntKind.wrap_u64]
  omega
set_option maxRecDepth 100000
theorem still_no {n : Int} (h : n < 1 ∨ 64 < n) {A B : Option Addr} {len cap len' cap' : Nat} (W : World) :
    Calls Try.prog 9 #[.int .i64 n, .slice A len cap, .slice B len' cap'] W fun e w' => e = .returned (.bool true) ∧ Below W.heap.size W w' := by
  have H := Lib.hid h
  clear h
  go_enter Try.func9, Try.ntmps9
  go_wp2_with (first
    | (go_at_call 34; refine (begun_no H.out).mono ?_; rintro e w1 ⟨rfl, rfl⟩)
    | (go_at_call 36; refine (begins_any _).mono ?_; rintro e w1 ⟨rfl, hb⟩; have HB := Lib.hid hb; clear hb))
  go_ret
  exact ⟨rfl, HB.out⟩
set_option maxHeartbeats 12800000 in
theorem still_yes {n : Nat} (h1 : 1 ≤ n) (h2 : n ≤ 64) {A B : Option Addr} {cap cap' : Nat} {ops : List (Int × Int × Int)} {xs : List Int} (W : World) (hE : ExtOps W A ops) (hr : ops.length * 24 ≤ 140737488351232) (hX : Ext .i64 W B xs) (hr' : xs.length * 8 ≤ 140737488351232) :
    Calls Try.prog 9 #[.int .i64 (n : Int), .slice A ops.length cap, .slice B xs.length cap'] W fun e w' => e = .returned (.bool true) ∧ Below W.heap.size W w' := by
  have H1 := Lib.hid h1
  have H2 := Lib.hid h2
  have HE := Lib.hid hE
  have HX := Lib.hid hX
  clear h1 h2 hE hX
  go_enter Try.func9, Try.ntmps9
  go_wp2_with (first
    | (go_at_call 34; refine (begun_yes _ H1.out H2.out).mono ?_; rintro e w1 ⟨bc, bk, bw, rfl, hc, hk, hw, hS, hb⟩; have HW := Lib.hid hw; have HS := Lib.hid hS; have HB := Lib.hid hb; clear hc hk hw hS hb)
    | (go_at_call 52; refine (started_any HS.out (HE.out.on HB.out) hr).mono ?_; rintro e w2 ⟨vp, vk, rfl, bs, hSt⟩; have HLL : Hid (bs.length ≤ ops.length) := Lib.hid (by have := hSt.pends.len; have := pick_length ops; omega); have HG2 := Lib.hid (Going.start HB.out HW.out hSt); have hpf := own_form hSt.ps; obtain ⟨pa, pc, hvp⟩ := hpf; subst hvp; have hkf := own_form hSt.ks; obtain ⟨ka, kc, hvk⟩ := hkf; subst hvk; clear hSt))
  have hbl : bs.length ≤ 17592186044160 := by have := HLL.out; omega
  have hxl : xs.length ≤ 17592186044160 := by omega
  go_loopw [11] (fun u wr => ∃ j : Nat, j ≤ xs.length ∧ u = .int .i64 j ∧ ∃ ws os, ws.length = n ∧ Going W bc bk bw ws os bs (.slice pa bs.length pc) (.slice ka bs.length kc) wr) (fun u _ => xs.length - (intOf u).toNat)
  case atStart => exact ⟨0, Nat.zero_le _, rfl, _, _, by simp, HG2.out⟩
  case round =>
    obtain ⟨j, hj, rfl, ws, os, hwn, hG⟩ := hrel
    have HG := Lib.hid hG
    have HWN := Lib.hid hwn
    clear hG HG2 hwn
    by_cases hlt : j < xs.length
    · obtain ⟨k, hk⟩ : ∃ k, xs[j]? = some k := ⟨xs[j], List.getElem?_eq_getElem hlt⟩
      obtain ⟨b', o', rfl, hlt', q0⟩ := (HX.out.on HG.out.low) j _ hk
      have hlt2 : (j : Int) < (xs.length : Int) := by omega
      clear hk
      by_cases hk0 : k < 0
      · have hd : decide (0 ≤ k) = false := by simp; omega
        go_wp2
        go_roundw
        case rel => exact ⟨j + 1, by omega, by go_num, ws, os, HWN.out, HG.out⟩
        case measure => simp [intOf]; omega
      by_cases hkn : (bs.length : Int) ≤ k
      · have hd : decide (0 ≤ k) = true := by simp; omega
        have hd2 : decide (k < (bs.length : Int)) = false := by simp; omega
        go_wp2
        go_roundw
        case rel => exact ⟨j + 1, by omega, by go_num, ws, os, HWN.out, HG.out⟩
        case measure => simp [intOf]; omega
      obtain ⟨q, rfl⟩ := Int.eq_ofNat_of_zero_le (show 0 ≤ k by omega)
      have hqn : q < bs.length := by omega
      obtain ⟨o, b, g, c, g', c', ho, hb, hv, hv', hc, hc0, hc2, hR, hrn, hok⟩ := HG.out.get hqn
      cases hv
      cases hv'
      have hq2 : (q : Int) < (bs.length : Int) := by omega
      have HOo := Lib.hid ho
      have HBb := Lib.hid hb
      have HRr := Lib.hid hR
      have HRN := Lib.hid hrn
      clear ho hb hR hrn hok hc0 hc2
      by_cases ht : o.t < many ws.length o.k
      · obtain ⟨x, hx⟩ := HG.out.cell ht
        have HT := Lib.hid ht
        have HXx := Lib.hid hx
        clear ht hx
        go_wp2_with (go_at_call 40; refine (step_at HG.out.shard.words HG.out.shard.pos HRN.out HT.out HRr.out HXx.out rfl).mono ?_; intro e w5 hs; have hcp := hs; obtain ⟨he, _⟩ := hs; subst he; have HG5 := Lib.hid (HG.out.step HOo.out HBb.out HT.out HXx.out hcp); clear hcp)
        go_roundw
        case rel => exact ⟨j + 1, by omega, by go_num, _, _, by rw [List.length_set]; exact HWN.out, HG5.out⟩
        case measure => simp [intOf]; omega
      · have HT : Hid (many ws.length o.k ≤ o.t) := Lib.hid (by omega)
        clear ht
        go_wp2_with (go_at_call 40; refine (step_over HT.out HRr.out).mono ?_; rintro e w5 ⟨rfl, hb5⟩; have HG5 := Lib.hid (HG.out.on hb5); clear hb5)
        go_roundw
        case rel => exact ⟨j + 1, by omega, by go_num, ws, os, HWN.out, HG5.out⟩
        case measure => simp [intOf]; omega
    · obtain rfl : j = xs.length := by omega
      go_wp2
      go_loopw [13, 14, 15] (fun a tk u wr => ∃ j : Nat, j ≤ bs.length ∧ u = .int .i64 j ∧ ∃ ws os, ws.length = n ∧ Going W bc bk bw ws os bs (.slice pa bs.length pc) (.slice ka bs.length kc) wr ∧ OverS n os j ∧ a = .int .u64 (IntKind.u64.wrap (addedOf (os.take j))) ∧ tk = .int .u64 (IntKind.u64.wrap (takenOf (os.take j)))) (fun _ _ u _ => bs.length - (intOf u).toNat)
      case atStart => exact ⟨0, Nat.zero_le _, rfl, ws, os, HWN.out, HG.out, fun i o hi => by omega, by rw [IntKind.wrap_u64]; simp [addedOf, sumI], by rw [IntKind.wrap_u64]; simp [takenOf, sumI]⟩
      case round =>
        obtain ⟨j, hj, rfl, ws, os, hwn, hG, hO, rfl, rfl⟩ := hrel
        have HG := Lib.hid hG
        have HWN := Lib.hid hwn
        have HO := Lib.hid hO
        clear hG hwn hO
        by_cases hlt : j < bs.length
        · have hlt2 : (j : Int) < (bs.length : Int) := by omega
          obtain ⟨o, b, g, c, g', c', ho, hb, hv, hv', hc, hc0, hc2, hR, hrn, hok⟩ := HG.out.get hlt
          cases hv
          cases hv'
          have HBb := Lib.hid hb
          have HOo := Lib.hid ho
          clear hb ho hR hrn hok hc hc0 hc2
          obtain ⟨av, hav⟩ : ∃ av, addedOf (os.take j) = av := ⟨_, rfl⟩
          obtain ⟨tv, htv⟩ : ∃ tv, takenOf (os.take j) = tv := ⟨_, rfl⟩
          rw [hav, htv]
          have HAV := Lib.hid hav
          have HTV := Lib.hid htv
          clear hav htv
          go_wp2
          go_loopw [16] (fun u wr => ∃ s : Nat, s ≤ 64 ∧ u = .int .i64 s ∧ ∃ ws os o, ws.length = n ∧ Going W bc bk bw ws os bs (.slice (some ⟨g, 0, none⟩) bs.length pc) (.slice (some ⟨g', 0, none⟩) bs.length kc) wr ∧ OverS n os j ∧ os[j]? = some o ∧ s ≤ o.t ∧ addedOf (os.take j) = av ∧ takenOf (os.take j) = tv) (fun u _ => 64 - (intOf u).toNat)
          case atStart => exact ⟨0, by omega, rfl, ws, os, o, HWN.out, HG.out, HO.out, HOo.out, Nat.zero_le _, HAV.out, HTV.out⟩
          case round =>
            obtain ⟨s, hs, rfl, ws, os, o, hwn, hG, hO, ho, hst, hav, htv⟩ := hrel
            obtain ⟨o2, b2, g2, c2, g3, c3, ho2, hb2, hv2, hv3, hc, hc0, hc2, hR, hrn, hok⟩ := hG.get hlt
            rw [ho] at ho2
            cases ho2
            rw [HBb.out] at hb2
            cases hb2
            cases hv2
            cases hv3
            have HG := Lib.hid hG
            have HWN := Lib.hid hwn
            have HO := Lib.hid hO
            have HOo := Lib.hid ho
            have HRr := Lib.hid hR
            have HRN := Lib.hid hrn
            have HOK := Lib.hid hok
            have HST := Lib.hid hst
            have HAV := Lib.hid hav
            have HTV := Lib.hid htv
            have hm64 : many ws.length o.k ≤ 64 := many_64 hG.shard.pos hG.shard.top o.k
            clear hG hwn hO ho hR hrn hok hst hav htv
            by_cases ht : o.t < many ws.length o.k
            · obtain ⟨x, hx⟩ := HG.out.cell ht
              have hs6 : s < 64 := by have := HST.out; omega
              have hs7 : decide ((64 : Int) < (s : Int)) = false := by simp; omega
              have HD : Hid (decide (many ws.length o.k ≤ o.t) = false) := Lib.hid (by simp; omega)
              have HT := Lib.hid ht
              have HXx := Lib.hid hx
              have HLJ : Hid (j < os.length) := Lib.hid (lt_of_get HOo.out)
              clear ht hx hm64
              go_wp2_with (first
                | (go_at_call 43; refine (done_at HRr.out HD.out).mono ?_; rintro e wx ⟨rfl, rfl⟩)
                | (go_at_call 40; refine (step_at HG.out.shard.words HG.out.shard.pos HRN.out HT.out HRr.out HXx.out rfl).mono ?_; intro e w5 hs; have hcp := hs; obtain ⟨he, _⟩ := hs; subst he; have HG5 := Lib.hid (HG.out.step HOo.out HBb.out HT.out HXx.out hcp); clear hcp))
              go_roundw
              case rel => exact ⟨s + 1, by omega, by go_num, _, _, _, by rw [List.length_set]; exact HWN.out, HG5.out, HO.out.set (Nat.le_refl _), List.getElem?_set_self HLJ.out, by have := HST.out; simp [nextS]; omega, by rw [List.take_set_of_le (Nat.le_refl _)]; exact HAV.out, by rw [List.take_set_of_le (Nat.le_refl _)]; exact HTV.out⟩
              case measure => simp [intOf]; omega
            · have HT : Hid (many ws.length o.k ≤ o.t) := Lib.hid (by omega)
              have HTn : Hid (many n o.k ≤ o.t) := Lib.hid (by have := HT.out; rwa [HWN.out] at this)
              have HD : Hid (decide (many ws.length o.k ≤ o.t) = true) := Lib.hid (by simp; omega)
              have HNA := Lib.hid (added_next HOo.out)
              have HNT := Lib.hid (taken_next HOo.out)
              clear ht hm64
              have hj3 : j * 3 ≤ 52776558132480 := by omega
              by_cases k1 : o.k = 1
              · have e1 : (o.k == 1) = true := by simp [k1]
                have e4 : (o.k == 4) = false := by simp [k1]
                have K1 := Lib.hid k1
                clear k1
                go_wp2_with (go_at_call 43; refine (done_at HRr.out HD.out).mono ?_; rintro e wx ⟨rfl, rfl⟩)
                go_roundw
                case rel => exact ⟨j + 1, by omega, by go_num, ws, os, HWN.out, HG.out, HO.out.next HOo.out HTn.out, by rw [wrap_add, HNA.out, if_pos K1.out, HAV.out], by rw [HNT.out, if_neg (by have := K1.out; omega), HTV.out, Int.add_zero]⟩
                case measure => simp [intOf]; omega
              · by_cases k4 : o.k = 4
                · have e1 : (o.k == 1) = false := by simp [k4]
                  have e4 : (o.k == 4) = true := by simp [k4]
                  have K4 := Lib.hid k4
                  clear k1 k4
                  go_wp2_with (first
                    | (go_at_call 43; refine (done_at HRr.out HD.out).mono ?_; rintro e wx ⟨rfl, rfl⟩)
                    | (go_at_call 44; refine (answer_at HRr.out HT.out).mono ?_; rintro e wx ⟨rfl, rfl⟩))
                  go_roundw
                  case rel => exact ⟨j + 1, by omega, by go_num, ws, os, HWN.out, HG.out, HO.out.next HOo.out HTn.out, by rw [HNA.out, if_neg (by have := K4.out; omega), HAV.out, Int.add_zero], by rw [wrap_add, HNT.out, if_pos K4.out, HTV.out]⟩
                  case measure => simp [intOf]; omega
                · have e1 : (o.k == 1) = false := by simpa using k1
                  have e4 : (o.k == 4) = false := by simpa using k4
                  have K1 := Lib.hid k1
                  have K4 := Lib.hid k4
                  clear k1 k4
                  go_wp2_with (go_at_call 43; refine (done_at HRr.out HD.out).mono ?_; rintro e wx ⟨rfl, rfl⟩)
                  go_roundw
                  case rel => exact ⟨j + 1, by omega, by go_num, ws, os, HWN.out, HG.out, HO.out.next HOo.out HTn.out, by rw [HNA.out, if_neg K1.out, HAV.out, Int.add_zero], by rw [HNT.out, if_neg K4.out, HTV.out, Int.add_zero]⟩
                  case measure => simp [intOf]; omega
        · obtain rfl : j = bs.length := by omega
          have HSUM : Hid (sumW ws = IntKind.u64.wrap (IntKind.u64.wrap (addedOf (os.take bs.length)) - IntKind.u64.wrap (takenOf (os.take bs.length)))) := Lib.hid (by
            have hl := HG.out.pends.len
            rw [hl, List.take_length]
            refine still_sum (n := n) H1.out HG.out.cong (fun o ho => ?_)
            obtain ⟨q, hq⟩ := List.getElem?_of_mem ho
            exact HO.out q o (by rw [hl]; exact lt_of_get hq) hq)
          go_wp2_with (first
            | (go_at_call 36; refine (begins_any _).mono ?_; rintro e w8 ⟨rfl, hb8⟩; have HG8 := Lib.hid (HG.out.on hb8); clear hb8)
            | (go_at_call 49; refine (csum_at HG8.out.shard HSUM.out).mono ?_; rintro e wx ⟨rfl, rfl⟩))
          go_ret
          exact ⟨by simp, HG8.out.low⟩
end Go.Proofs.Ytigknlipeipbgaa
