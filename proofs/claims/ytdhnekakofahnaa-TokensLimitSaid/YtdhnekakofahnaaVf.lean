/- THE WALK of the law 'TokensLimit'. -/
import Derived.Test.YtdhnekakofahnaaVe
namespace Go.Proofs.Ytdhnekakofahnaa
open Go Go.RowKit

theorem tanswer_at {w : World} {bp bt : Nat} {o : OpT} {ok : Bool} (h : Row w bp 148 (opTL bt o)) (ho : o.ok = ok) :
    Calls Try.prog 56 #[.pointer (some ⟨bp, 0, none⟩)] w fun e w' => e = .returned (.agg #[.bool ok, .int .i64 o.wait, .int .i64 o.left]) ∧ Below w.heap.size w w' := by
  subst ho
  exact tanswer_op h
theorem tmost_at {ev bu a b m : Int} (hf : fitsB ev bu = true) (ha : 0 ≤ a) (hab : a ≤ b) (hb : b ≤ 2305843009213693952) (hm : bu + (b - a) / ev = m) (w : World) :
    Calls Try.prog 61 #[.int .i64 ev, .int .i64 bu, .int .i64 a, .int .i64 b] w fun e w' => e = .returned (.tuple #[.int .i64 m, .int .i64 0]) ∧ w = w' := by
  subst hm
  exact tmost_yes hf ha hab hb w
set_option maxRecDepth 100000
theorem tlimit_no {ev bu : Int} (h : fitsB ev bu = false) {A B : Option Addr} {len cap len' cap' : Nat} (W : World) :
    Calls Try.prog 11 #[.int .i64 ev, .int .i64 bu, .slice A len cap, .slice B len' cap'] W fun e w' => e = .returned (.bool true) ∧ Below W.heap.size W w' := by
  have H := Lib.hid h
  clear h
  go_enter Try.func11, Try.ntmps11
  go_wp2_with (first
    | (go_at_call 50; refine (tbegins_any _).mono ?_; rintro e w0 ⟨rfl, hb⟩; have HB0 := Lib.hid hb; clear hb)
    | (go_at_call 48; refine (tnew_no H.out).mono ?_; rintro e wx ⟨rfl, rfl⟩))
  go_ret
  exact ⟨rfl, HB0.out⟩
set_option maxHeartbeats 51200000 in
theorem tlimit_yes {ev bu : Int} (h : fitsB ev bu = true) {A B : Option Addr} {cap cap' : Nat} {ops : List (Int × Int × Int)} {xs : List Int} (W : World) (hE : Ext3 .u8 .i64 .i64 W A ops) (hr : ops.length * 24 ≤ 140737488351232) (hX : Ext .i64 W B xs) (hr' : xs.length * 8 ≤ 140737488351232) :
    Calls Try.prog 11 #[.int .i64 ev, .int .i64 bu, .slice A ops.length cap, .slice B xs.length cap'] W fun e w' => e = .returned (.bool true) ∧ Below W.heap.size W w' := by
  obtain ⟨ip, hip, hp0, hp1, hp2⟩ := info_parts infoP
  obtain ⟨it, hit, ht0, ht1, ht2⟩ := info_parts infoTO
  obtain ⟨ig, hig, hg0, hg1, hg2⟩ := info_parts infoG
  have kfield : ∀ (w : World) (ok : Bool) (a b : Value), (Instr.field 96 (.agg #[.bool ok, a, b]) 0).run Try.prog w = .ok (.bool ok) w := fun _ _ _ _ => by kernel_rfl
  have HE := Lib.hid hE
  have HX := Lib.hid hX
  have HF := Lib.hid h
  obtain ⟨fa, fb, fc, fd⟩ := fits_bounds h
  clear hE h hX
  go_enter Try.func11, Try.ntmps11
  go_wp2_with (first
    | (go_at_call 50; refine (tbegins_any _).mono ?_; rintro e w0 ⟨rfl, hb⟩; have HB0 := Lib.hid hb; clear hb)
    | (go_at_call 48; refine (tnew_yes _ HF.out).mono ?_; rintro e w1 ⟨bt, bk, bw, rfl, hc, hk, hw, hS, hb⟩; have HO1 := Lib.hid (OneT.start HB0.out hS hw hb); clear hc hk hw hS hb))
  go_loopw [11, 12, 13] (fun vp vk u wr => ∃ j : Nat, j ≤ ops.length ∧ u = .int .i64 j ∧ ∃ bs, KindsT W bt bk bw ev bu 0 (pickT (ops.take j)) bs vp vk wr) (fun _ _ u _ => ops.length - (intOf u).toNat)
  case atStart => exact ⟨0, Nat.zero_le _, rfl, [], ManyT.nil HO1.out, ⟨rfl, .inl ⟨rfl, rfl⟩⟩⟩
  case round =>
    obtain ⟨j, hj, rfl, bs, hM⟩ := hrel
    have HK := Lib.hid hM
    clear hM HO1 HB0
    by_cases hlt : j < ops.length
    · obtain ⟨⟨k, t, n⟩, hop⟩ : ∃ op, ops[j]? = some op := ⟨ops[j], List.getElem?_eq_getElem hlt⟩
      obtain ⟨b', o, rfl, hbW, e0, e1, e2⟩ := HE.out j _ hop
      dsimp only at e0 e1 e2
      have hb' : b' < wr.heap.size := Nat.lt_of_lt_of_le hbW HK.out.many.low.size
      have q0 := (HK.out.many.low.cell (p := ⟨b', o + j * 3, none⟩) hbW).trans e0
      have q1 := (HK.out.many.low.cell (p := ⟨b', o + j * 3 + 1, none⟩) hbW).trans e1
      have q2 := (HK.out.many.low.cell (p := ⟨b', o + j * 3 + 2, none⟩) hbW).trans e2
      have E0 := Lib.hid e0
      have E1 := Lib.hid e1
      have E2 := Lib.hid e2
      have HBW := Lib.hid hbW
      have hlt2 : (j : Int) < (ops.length : Int) := by omega
      have HT := Lib.hid (pickT_take ops hop)
      have HPL := Lib.hid (pickT_length (ops.take j))
      clear hop hbW e0 e1 e2
      cases hR : trightB k t n with
      | false =>
        have HR := Lib.hid hR
        clear hR
        go_wp2_with (go_at_call 51; refine (tstart_no HR.out).mono ?_; rintro e w5 ⟨rfl, hb5⟩; have HK5 := Lib.hid (HK.out.on hb5); clear hb5)
        go_roundw
        case rel => exact ⟨j + 1, by omega, by go_num, bs, by rw [HT.out]; simp only [HR.out]; rw [if_neg (by simp), List.append_nil]; exact HK5.out⟩
        case measure => simp [intOf]; omega
      | true =>
        have HR := Lib.hid hR
        have HRT := Lib.hid (rightT_iff.1 hR)
        clear hR
        have HLL : Hid (bs.length + 1 ≤ ops.length) := Lib.hid (by have h1 := HK.out.many.pends.len; have h2 := HPL.out; rw [List.length_take] at h2; omega)
        have H3 : Hid (bs.length + 1 ≤ maxLen) := Lib.hid (by have := HLL.out; unfold maxLen; omega)
        have H4 : Hid ((bs.length + 1) * 8 ≤ 140737488355328) := Lib.hid (by have := HLL.out; omega)
        have H6 : Hid ((bs.length + 1) * 24 ≤ 140737488355328) := Lib.hid (by have := HLL.out; omega)
        go_wp2_with (first
          | (go_at_call 51; refine (tstart_op HRT.out).mono ?_; rintro e w5 ⟨bp, rfl, hn5, hr5, hb5⟩; have HB5 := Lib.hid hb5; have HN5 := Lib.hid hn5; have HR5 := Lib.hid hr5; have HK5 := Lib.hid (HK.out.on hb5); have H5 : Hid (W.heap.size ≤ (w5.alloc (.cells #[.pointer (some ⟨bp, 0, none⟩)] 88)).heap.size) := Lib.hid (by have := HK5.out.many.low.size; simp; omega); clear hb5 hn5 hr5)
          | (at_builtin; refine wpList_append_own _ rfl _ _ 87 rfl W.heap.size 88 ip (.pointer none) 1 8 Try.underlying87 hip hp0 hp1 hp2 rfl (by decide) _ _ _ rfl (HK5.out.many.ps.alloc _) ⟨w5.heap.size, 0, none⟩ 1 1 [.pointer (some ⟨bp, 0, none⟩)] rfl rfl (new_cells _ _ _) (one_ptr _) H3.out H4.out H5.out ?_; intro vp' w6 hown6 hgr6 _; have HO6 := Lib.hid hown6; have HG6 := Lib.hid hgr6; have hlow6 := (HK5.out.many.low.alloc HK5.out.many.low.size _).grown hgr6 H5.out (own_from HK5.out.many.ps); have g0 := (hlow6.cell (p := ⟨b', o + j * 3, none⟩) HBW.out).trans E0.out; have g1 := (hlow6.cell (p := ⟨b', o + j * 3 + 1, none⟩) HBW.out).trans E1.out; have g2 := (hlow6.cell (p := ⟨b', o + j * 3 + 2, none⟩) HBW.out).trans E2.out; have KS6 := Lib.hid ((HK5.out.ks.alloc _).kept hgr6 (own_apart HK5.out.ks HK5.out.many.ps (by decide))); have H7 : Hid (W.heap.size ≤ (w6.alloc (.cells #[.int .u8 k, .int .i64 t, .int .i64 n] 93)).heap.size) := Lib.hid (by have := hlow6.size; simp; omega); clear hown6 hgr6 hlow6)
          | (at_builtin; refine wpList_append_own _ rfl _ _ 81 rfl W.heap.size 93 it (.agg #[.int .u8 0, .int .i64 0, .int .i64 0]) 3 24 Try.underlying81 hit ht0 ht1 ht2 rfl (by decide) _ _ _ rfl (KS6.out.alloc _) ⟨w6.heap.size, 0, none⟩ 1 1 [.int .u8 k, .int .i64 t, .int .i64 n] rfl rfl (new_cells _ _ _) (three_nums _ _ _) H3.out H6.out H7.out ?_; intro vk' w7 hown7 hgr7 _; have HO7 := Lib.hid hown7; have HG7 := Lib.hid hgr7; clear hown7 hgr7))
        go_roundw
        case rel => exact ⟨j + 1, by omega, by go_num, bs ++ [bp], by rw [HT.out]; simp only [HR.out, if_true]; exact HK.out.grow HB5.out HR5.out HN5.out HRT.out HO6.out HG6.out HO7.out HG7.out⟩
        case measure => simp [intOf]; omega
    · obtain rfl : j = ops.length := by omega
      have HLL : Hid (bs.length ≤ ops.length) := Lib.hid (by have h1 := HK.out.many.pends.len; have h2 := pickT_length (ops.take ops.length); rw [List.length_take] at h2; omega)
      have hnl : bs.length ≤ 5864062014634 := by have := HLL.out; omega
      obtain ⟨pa, pc, rfl⟩ := own_form HK.out.many.ps
      obtain ⟨ka, kc, rfl⟩ := own_form HK.out.ks
      have HA1 : Hid (GivenT W bt bk bw ev bu 0 (pickT (ops.take ops.length)) bs (.slice pa bs.length pc) (.slice ka bs.length kc) (.slice none 0 0) [] wr) := Lib.hid ⟨HK.out, ⟨by simp [givenCells], .inl ⟨rfl, rfl⟩⟩, ChainT.nil 0, Nat.zero_le _⟩
      go_wp2
      clear HK
      go_loopw [16, 17] (fun vd u wr => ∃ j : Nat, j ≤ xs.length ∧ u = .int .i64 j ∧ ∃ T os d, GivenT W bt bk bw ev bu T os bs (.slice pa bs.length pc) (.slice ka bs.length kc) vd d wr) (fun _ u _ => xs.length - (intOf u).toNat)
      case atStart => exact ⟨0, Nat.zero_le _, rfl, _, _, _, HA1.out⟩
      case round =>
        obtain ⟨j, hj, rfl, T, os, d, hA⟩ := hrel
        have HA := Lib.hid hA
        have hT0 := hA.kinds.many.one.buck.lo
        have hT1 := hA.kinds.many.one.buck.hi
        clear hA HA1
        by_cases hlt : j < xs.length
        · obtain ⟨k, hk⟩ : ∃ k, xs[j]? = some k := ⟨xs[j], List.getElem?_eq_getElem hlt⟩
          obtain ⟨b', o', rfl, hlt', q0⟩ := (HX.out.on HA.out.kinds.many.low) j _ hk
          have hlt2 : (j : Int) < (xs.length : Int) := by omega
          clear hk
          by_cases hk0 : k < 0
          · go_wp2
            go_roundw
            case rel => exact ⟨j + 1, by omega, by go_num, _, _, _, HA.out⟩
            case measure => simp [intOf]; omega
          by_cases hkn : (bs.length : Int) ≤ k
          · go_wp2
            go_roundw
            case rel => exact ⟨j + 1, by omega, by go_num, _, _, _, HA.out⟩
            case measure => simp [intOf]; omega
          obtain ⟨q, rfl⟩ := Int.eq_ofNat_of_zero_le (show 0 ≤ k by omega)
          have hqn : q < bs.length := by omega
          obtain ⟨o, b, g, c, ho, hb, hv, hc, hR, hok⟩ := HA.out.kinds.many.get hqn
          cases hv
          have hq2 : (q : Int) < (bs.length : Int) := by omega
          have HOo := Lib.hid ho
          have HBb := Lib.hid hb
          have HRr := Lib.hid hR
          have HOK := Lib.hid hok
          have hph := hok.ph
          clear ho hb hR hok
          by_cases h2 : o.ph = 2
          · have HD : Hid (decide (o.ph = 2) = true) := Lib.hid (by simp [h2])
            clear h2 hph
            go_wp2_with (go_at_call 55; refine (tdone_at HRr.out HOK.out.ph HD.out).mono ?_; rintro e wx ⟨rfl, rfl⟩)
            go_roundw
            case rel => exact ⟨j + 1, by omega, by go_num, _, _, _, HA.out⟩
            case measure => simp [intOf]; omega
          have HD : Hid (decide (o.ph = 2) = false) := Lib.hid (by simp [h2])
          have HPH : Hid (o.ph ≠ 2) := Lib.hid h2
          by_cases h0 : o.ph = 0
          · have HDI : Hid (didO T o = .agg #[.int .u8 1, .int .i64 0, .int .u64 T, .int .u64 T, .bool true]) := Lib.hid (by simp [didO, h0])
            have HTW : Hid (stepW T o = T) := Lib.hid (by simp [stepW, h0])
            have HOF : Hid ((stepO ev bu T o).ok = false) := Lib.hid (by have := (HOK.out.fresh (by omega)).1; unfold stepO; rw [if_pos h0]; split; split; all_goals exact this)
            by_cases hl : (stepO ev bu T o).ph = 2
            · have HL : Hid (decide ((stepO ev bu T o).ph = 2) = true) := Lib.hid (by simp [hl])
              clear h0 h2 hph hl
              go_wp2_with (first | (go_at_call 55; refine (tdone_at HRr.out HOK.out.ph HD.out).mono ?_; rintro e wx ⟨rfl, rfl⟩) | (go_at_call 53; refine (tstep_is HA.out.kinds.many.one.buck HRr.out HOK.out HTW.out rfl HDI.out HL.out).mono ?_; intro e w2 hs; have hcp := hs; obtain ⟨he, hB2, hR2, hP2⟩ := hs; subst he; obtain ⟨z1, z2, z3⟩ := HA.out.step HOo.out HBb.out HOK.out hcp HPH.out (dd := d) (by split <;> omega); have HW2 : Hid (GivenT W bt bk bw ev bu T (os.set q (stepO ev bu T o)) bs _ _ _ d w2) := Lib.hid ⟨z1, z2, HA.out.chain, z3⟩; have HR2 := Lib.hid hR2; have hvc := (own_cell (HW2.out.kinds.many.ps) (ptrs_get HBb.out)); have hglt : g < w2.heap.size := World.block_lt_of_cell? _ _ hvc; clear hcp hB2 hR2 hP2 z1 z2 z3) | (go_at_call 56; refine (tanswer_at (HR2.out.alloc _) HOF.out).mono ?_; rintro e w3 ⟨rfl, hb3⟩; have HW3 := Lib.hid ((HW2.out.alloc _).on hb3); clear hb3))
              go_roundw
              case rel => exact ⟨j + 1, by omega, by go_num, _, _, _, HW3.out⟩
              case measure => simp [intOf]; omega
            · have HL : Hid (decide ((stepO ev bu T o).ph = 2) = false) := Lib.hid (by simp [hl])
              clear h0 h2 hph hl
              go_wp2_with (first | (go_at_call 55; refine (tdone_at HRr.out HOK.out.ph HD.out).mono ?_; rintro e wx ⟨rfl, rfl⟩) | (go_at_call 53; refine (tstep_is HA.out.kinds.many.one.buck HRr.out HOK.out HTW.out rfl HDI.out HL.out).mono ?_; intro e w2 hs; have hcp := hs; obtain ⟨he, hB2, hR2, hP2⟩ := hs; subst he; obtain ⟨z1, z2, z3⟩ := HA.out.step HOo.out HBb.out HOK.out hcp HPH.out (dd := d) (by split <;> omega); have HW2 : Hid (GivenT W bt bk bw ev bu T (os.set q (stepO ev bu T o)) bs _ _ _ d w2) := Lib.hid ⟨z1, z2, HA.out.chain, z3⟩; have HR2 := Lib.hid hR2; have hvc := (own_cell (HW2.out.kinds.many.ps) (ptrs_get HBb.out)); have hglt : g < w2.heap.size := World.block_lt_of_cell? _ _ hvc; clear hcp hB2 hR2 hP2 z1 z2 z3))
              go_roundw
              case rel => exact ⟨j + 1, by omega, by go_num, _, _, _, HW2.out.alloc _⟩
              case measure => simp [intOf]; omega
          · have h1 : o.ph = 1 := by omega
            by_cases e : T = o.saw
            · obtain ⟨f1, f2⟩ := HOK.out.fit h1
              have hRT := HOK.out.right
              have hk1 := HOK.out.take h1
              have hnn : 1 ≤ o.n ∧ o.n ≤ 1048576 := by unfold RightT at hRT; omega
              have htt : 0 ≤ o.t ∧ o.t ≤ 2305843009213693952 := hRT.1
              have HDI : Hid (didO T o = .agg #[.int .u8 5, .int .i64 0, .int .u64 T, .int .u64 o.put, .bool true]) := Lib.hid (by simp [didO, h1, e])
              have HTW : Hid (stepW T o = o.put) := Lib.hid (by simp [stepW, h1, e])
              have HL : Hid (decide ((stepO ev bu T o).ph = 2) = true) := Lib.hid (by simp [stepO, h1, e])
              have HOF : Hid ((stepO ev bu T o).ok = true) := Lib.hid (by simp [stepO, h1, e])
              have HE2 : Hid ((stepO ev bu T o).ph = 2) := Lib.hid (by simp [stepO, h1, e])
              have HCH : Hid (ChainT ev bu (d ++ [(T, o.t, o.n)]) o.put) := Lib.hid (by rw [f1, ← e]; exact ChainT.snoc HA.out.chain htt hnn (by rw [← e] at f1; omega))
              have hod : d.length + 1 ≤ bs.length := by
                have hv := overs_set (o' := stepO ev bu T o) HOo.out
                rw [if_neg h2, if_pos HE2.out] at hv
                have hf := HA.out.few
                have hl := overs_le (os.set q (stepO ev bu T o))
                rw [List.length_set, ← HA.out.kinds.many.pends.len] at hl
                omega
              have H3 : Hid (d.length + 1 ≤ maxLen) := Lib.hid (by unfold maxLen; omega)
              have H4 : Hid ((d.length + 1) * 16 ≤ 140737488355328) := Lib.hid (by omega)
              obtain ⟨kt, hkt⟩ : ∃ kt, o.t = kt := ⟨_, rfl⟩
              obtain ⟨kn, hkn2⟩ : ∃ kn, o.n = kn := ⟨_, rfl⟩
              have HKT := Lib.hid hkt
              have HKN := Lib.hid hkn2
              obtain ⟨gk, kc', hkv, _, _⟩ := own_some HA.out.kinds.ks (by omega : 0 < bs.length)
              cases hkv
              clear h0 h1 h2 hph f1 f2 hRT hk1 hnn htt e hkt hkn2
              go_wp2_with (first
                | (go_at_call 55; refine (tdone_at HRr.out HOK.out.ph HD.out).mono ?_; rintro e wx ⟨rfl, rfl⟩)
                | (go_at_call 53; refine (tstep_is HA.out.kinds.many.one.buck HRr.out HOK.out HTW.out rfl HDI.out HL.out).mono ?_; intro e w2 hs; have hcp := hs; obtain ⟨he, hB2, hR2, hP2⟩ := hs; subst he; obtain ⟨z1, z2, z3⟩ := HA.out.step HOo.out HBb.out HOK.out hcp HPH.out (dd := d ++ [(T, o.t, o.n)]) (by rw [if_pos HE2.out]; simp); have HZ1 := Lib.hid z1; have HZ2 := Lib.hid z2; have HZ3 := Lib.hid z3; have HR2 := Lib.hid hR2; have hvc := (own_cell (z1.many.ps) (ptrs_get HBb.out)); have hglt : g < w2.heap.size := World.block_lt_of_cell? _ _ hvc; clear hcp hB2 hR2 hP2 z1 z2 z3)
                | (go_at_call 56; refine (tanswer_at (HR2.out.alloc _) HOF.out).mono ?_; rintro e w3 ⟨rfl, hb3⟩; have HK3 := Lib.hid ((HZ1.out.on ((Below.refl _ _).alloc (Nat.le_refl _) _)).on hb3); have HD3 := Lib.hid (own_part (HZ2.out.alloc _) (Part.of_below hb3 (Nat.le_refl _) []) (by simp)); have c1 := own_cell HK3.out.ks (topCells_get (List.getElem?_set_self (lt_of_get HOo.out))).1; have c2 := own_cell HK3.out.ks (topCells_get (List.getElem?_set_self (lt_of_get HOo.out))).2; rw [(stepO_same ev bu T o).2.1, HKT.out] at c1; rw [(stepO_same ev bu T o).2.2, HKN.out] at c2; have hbase := HK3.out.many.low.size; clear hb3))
              have kglt : gk < w3.heap.size := World.block_lt_of_cell? _ _ c1
              have hq3 : (q : Int) < (bs.length : Int) := by omega
              go_region_held3 (fun w' => w'.cell? ⟨gk, q * 3 + 1, none⟩ = some (.int .i64 kt) ∧ w'.cell? ⟨gk, q * 3 + 2, none⟩ = some (.int .i64 kn))
                (first | (with_reducible exact ⟨c1, c2⟩) | (with_reducible exact ⟨y1, y2⟩) | go_keep)
                ((refine step_append_lies _ (by rfl) _ _ _ (by rfl) W.heap.size 112 ig _ 2 16 Try.underlying110 hig hg0 hg1 hg2 rfl (by omega) _ d.length (givenCells d) (by rfl) ((HD3.out.alloc _).drew) ⟨w3.heap.size, 0, none⟩ 1 1 [.int .i64 kt, .int .i64 kn] (by rfl) (by rfl) (World.news_of_block (cs := #[.int .i64 kt, .int .i64 kn]) (t := 112) (fr := (0, 0)) (heap_alloc_new w3 _)) (by simp [Value.oneCell']) (by omega) H3.out H4.out (by simp; omega) (w3.heap.size + 1) (by simp) ?_; intro gg gcap w4 hown4 hgrow4 hat4 hlt4; have HO4 := Lib.hid hown4; have HG4 := Lib.hid hgrow4; have ks4 := ((HK3.out.ks.alloc _).drew).kept hgrow4 (own_apart HK3.out.ks HD3.out (by decide)); have y1 := own_cell ks4 (topCells_get (List.getElem?_set_self (lt_of_get HOo.out))).1; have y2 := own_cell ks4 (topCells_get (List.getElem?_set_self (lt_of_get HOo.out))).2; rw [(stepO_same ev bu T o).2.1, HKT.out] at y1; rw [(stepO_same ev bu T o).2.2, HKN.out] at y2; have KS4 := Lib.hid ks4; clear ks4 hown4 hgrow4 hat4))
              go_wp2
              go_roundw
              case rel =>
                have ds4 := (HD3.out.alloc (.cells #[.int .i64 kt, .int .i64 kn] 112)).drew
                have m3 : ManyT W bt bk bw ev bu o.put (os.set q (stepO ev bu T o)) bs _ (w3.alloc (.cells #[.int .i64 kt, .int .i64 kn] 112)).drew := (HK3.out.many.alloc _).on (Below.refl _ _).drew
                have hz : (d ++ [(T, o.t, o.n)]).length = d.length + 1 := by simp
                refine ⟨j + 1, by omega, by go_num, o.put, os.set q (stepO ev bu T o), d ++ [(T, o.t, o.n)], ⟨m3.grown ds4 (Nat.le_refl _) HG4.out (by decide) (by decide) (by decide) (by decide) (by decide), KS4.out⟩, ?_, HCH.out, HZ3.out⟩
                rw [← givenCells_snoc, hz]
                have := HO4.out
                rw [← HKT.out, ← HKN.out] at this
                exact this
              case measure => simp [intOf]; omega
            · have HDI : Hid (didO T o = .agg #[.int .u8 5, .int .i64 0, .int .u64 T, .int .u64 T, .bool false]) := Lib.hid (by simp [didO, h1, e])
              have HTW : Hid (stepW T o = T) := Lib.hid (by simp [stepW, e])
              have HL : Hid (decide ((stepO ev bu T o).ph = 2) = false) := Lib.hid (by simp [stepO, h1, e])
              clear h0 h1 h2 hph e
              go_wp2_with (first | (go_at_call 55; refine (tdone_at HRr.out HOK.out.ph HD.out).mono ?_; rintro e wx ⟨rfl, rfl⟩) | (go_at_call 53; refine (tstep_is HA.out.kinds.many.one.buck HRr.out HOK.out HTW.out rfl HDI.out HL.out).mono ?_; intro e w2 hs; have hcp := hs; obtain ⟨he, hB2, hR2, hP2⟩ := hs; subst he; obtain ⟨z1, z2, z3⟩ := HA.out.step HOo.out HBb.out HOK.out hcp HPH.out (dd := d) (by split <;> omega); have HW2 : Hid (GivenT W bt bk bw ev bu T (os.set q (stepO ev bu T o)) bs _ _ _ d w2) := Lib.hid ⟨z1, z2, HA.out.chain, z3⟩; have HR2 := Lib.hid hR2; have hvc := (own_cell (HW2.out.kinds.many.ps) (ptrs_get HBb.out)); have hglt : g < w2.heap.size := World.block_lt_of_cell? _ _ hvc; clear hcp hB2 hR2 hP2 z1 z2 z3))
              go_roundw
              case rel => exact ⟨j + 1, by omega, by go_num, _, _, _, HW2.out.alloc _⟩
              case measure => simp [intOf]; omega
        · obtain rfl : j = xs.length := by omega
          obtain ⟨da, dc, rfl⟩ := own_form HA.out.ds
          have HLD : Hid (d.length ≤ ops.length) := Lib.hid (by have h1 := HA.out.few; have h2 := overs_le os; have h3 := HA.out.kinds.many.pends.len; have h4 := HLL.out; omega)
          have hdl : d.length ≤ 5864062014634 := by have := HLD.out; omega
          have HCH := Lib.hid HA.out.chain
          go_wp2
          go_loop [21] (fun u => ∃ i : Nat, i ≤ d.length ∧ u = .int .i64 i) (fun u => d.length - (intOf u).toNat)
          case atStart => exact ⟨0, Nat.zero_le _, rfl⟩
          case round =>
            obtain ⟨i, hi, rfl⟩ := hrel
            by_cases hlt : i < d.length
            · obtain ⟨gd, c3, hgv, _, hgd⟩ := own_some HA.out.ds (by omega : 0 < d.length)
              cases hgv
              obtain ⟨xi, hxi⟩ : ∃ x, d[i]? = some x := ⟨d[i], List.getElem?_eq_getElem hlt⟩
              have r0 := own_cell HA.out.ds (givenCells_get hxi).1
              have r1 := own_cell HA.out.ds (givenCells_get hxi).2
              have hlt2 : (i : Int) < (d.length : Int) := by omega
              have HST := Lib.hid (RunAt.start HCH.out hxi)
              clear hxi
              go_wp2
              go_loop [22, 23, 24, 25] (fun le mo su u => ∃ (k : Nat) (least most sum : Int), k ≤ d.length ∧ le = .int .i64 least ∧ mo = .int .i64 most ∧ su = .int .i64 sum ∧ u = .int .i64 k ∧ RunAt ev bu d i k least most sum) (fun _ _ _ u => d.length - (intOf u).toNat)
              case atStart => exact ⟨i, _, _, 0, by omega, rfl, rfl, rfl, rfl, HST.out⟩
              case round =>
                obtain ⟨k, least, most, sum, hk, rfl, rfl, rfl, rfl, hR⟩ := hrel
                have HR := Lib.hid hR
                clear hR
                by_cases hltk : k < d.length
                · obtain ⟨x, hx⟩ : ∃ x, d[k]? = some x := ⟨d[k], List.getElem?_eq_getElem hltk⟩
                  have v0 := own_cell HA.out.ds (givenCells_get hx).1
                  have v1 := own_cell HA.out.ds (givenCells_get hx).2
                  have hltk2 : (k : Int) < (d.length : Int) := by omega
                  have HDx := Lib.hid hx
                  have s0 := HR.out.s0
                  have s1 := HR.out.s1
                  obtain ⟨_, ⟨x0, x1⟩, _⟩ := HCH.out.get k x hx
                  clear hx
                  by_cases hlt1 : x.2.1 < least
                  · by_cases hgt1 : most < x.2.1
                    · have HN : RunAt ev bu d i (k + 1) (x.2.1) (x.2.1) (sum + x.2.2) ∧ sum + x.2.2 ≤ bu + ((x.2.1) - (x.2.1)) / ev := HR.out.next HF.out HCH.out HDx.out ((if_pos hlt1).symm) ((if_pos hgt1).symm)
                      obtain ⟨HN1, hbd⟩ := HN
                      obtain ⟨bd, hbde⟩ : ∃ bd, bu + ((x.2.1) - (x.2.1)) / ev = bd := ⟨_, rfl⟩
                      rw [hbde] at hbd
                      have HBD := Lib.hid hbde
                      have M0 := Lib.hid HN1.lo
                      have M1 := Lib.hid HN1.le
                      have M2 := Lib.hid HN1.hi
                      have HNN := Lib.hid HN1
                      have n0 := HN1.s0
                      have n1 := HN1.s1
                      clear hbde HN1
                      go_wp2_with (go_at_call 61; refine (tmost_at HF.out M0.out M1.out M2.out HBD.out _).mono ?_; rintro e wx ⟨rfl, rfl⟩)
                      go_round
                      case rel => exact ⟨k + 1, x.2.1, x.2.1, sum + x.2.2, by omega, rfl, rfl, rfl, by go_num, HNN.out⟩
                      case measure => simp [intOf]; omega
                    · have HN : RunAt ev bu d i (k + 1) (x.2.1) (most) (sum + x.2.2) ∧ sum + x.2.2 ≤ bu + ((most) - (x.2.1)) / ev := HR.out.next HF.out HCH.out HDx.out ((if_pos hlt1).symm) ((if_neg hgt1).symm)
                      obtain ⟨HN1, hbd⟩ := HN
                      obtain ⟨bd, hbde⟩ : ∃ bd, bu + ((most) - (x.2.1)) / ev = bd := ⟨_, rfl⟩
                      rw [hbde] at hbd
                      have HBD := Lib.hid hbde
                      have M0 := Lib.hid HN1.lo
                      have M1 := Lib.hid HN1.le
                      have M2 := Lib.hid HN1.hi
                      have HNN := Lib.hid HN1
                      have n0 := HN1.s0
                      have n1 := HN1.s1
                      clear hbde HN1
                      go_wp2_with (go_at_call 61; refine (tmost_at HF.out M0.out M1.out M2.out HBD.out _).mono ?_; rintro e wx ⟨rfl, rfl⟩)
                      go_round
                      case rel => exact ⟨k + 1, x.2.1, most, sum + x.2.2, by omega, rfl, rfl, rfl, by go_num, HNN.out⟩
                      case measure => simp [intOf]; omega
                  · by_cases hgt1 : most < x.2.1
                    · have HN : RunAt ev bu d i (k + 1) (least) (x.2.1) (sum + x.2.2) ∧ sum + x.2.2 ≤ bu + ((x.2.1) - (least)) / ev := HR.out.next HF.out HCH.out HDx.out ((if_neg hlt1).symm) ((if_pos hgt1).symm)
                      obtain ⟨HN1, hbd⟩ := HN
                      obtain ⟨bd, hbde⟩ : ∃ bd, bu + ((x.2.1) - (least)) / ev = bd := ⟨_, rfl⟩
                      rw [hbde] at hbd
                      have HBD := Lib.hid hbde
                      have M0 := Lib.hid HN1.lo
                      have M1 := Lib.hid HN1.le
                      have M2 := Lib.hid HN1.hi
                      have HNN := Lib.hid HN1
                      have n0 := HN1.s0
                      have n1 := HN1.s1
                      clear hbde HN1
                      go_wp2_with (go_at_call 61; refine (tmost_at HF.out M0.out M1.out M2.out HBD.out _).mono ?_; rintro e wx ⟨rfl, rfl⟩)
                      go_round
                      case rel => exact ⟨k + 1, least, x.2.1, sum + x.2.2, by omega, rfl, rfl, rfl, by go_num, HNN.out⟩
                      case measure => simp [intOf]; omega
                    · have HN : RunAt ev bu d i (k + 1) (least) (most) (sum + x.2.2) ∧ sum + x.2.2 ≤ bu + ((most) - (least)) / ev := HR.out.next HF.out HCH.out HDx.out ((if_neg hlt1).symm) ((if_neg hgt1).symm)
                      obtain ⟨HN1, hbd⟩ := HN
                      obtain ⟨bd, hbde⟩ : ∃ bd, bu + ((most) - (least)) / ev = bd := ⟨_, rfl⟩
                      rw [hbde] at hbd
                      have HBD := Lib.hid hbde
                      have M0 := Lib.hid HN1.lo
                      have M1 := Lib.hid HN1.le
                      have M2 := Lib.hid HN1.hi
                      have HNN := Lib.hid HN1
                      have n0 := HN1.s0
                      have n1 := HN1.s1
                      clear hbde HN1
                      go_wp2_with (go_at_call 61; refine (tmost_at HF.out M0.out M1.out M2.out HBD.out _).mono ?_; rintro e wx ⟨rfl, rfl⟩)
                      go_round
                      case rel => exact ⟨k + 1, least, most, sum + x.2.2, by omega, rfl, rfl, rfl, by go_num, HNN.out⟩
                      case measure => simp [intOf]; omega
                · obtain rfl : k = d.length := by omega
                  go_wp2
                  go_round
                  case rel => exact ⟨i + 1, by omega, by go_num⟩
                  case measure => simp [intOf]; omega
            · obtain rfl : i = d.length := by omega
              go_wp2
              go_ret
              exact ⟨rfl, HA.out.kinds.many.low⟩
end Go.Proofs.Ytdhnekakofahnaa
