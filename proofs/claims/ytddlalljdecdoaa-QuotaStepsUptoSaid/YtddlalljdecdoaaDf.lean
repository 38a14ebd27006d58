/- THE WALK of the law 'QuotaSteps'. -/
import Derived.Test.YtddlalljdecdoaaDg
import Derived.Deep.AppendLies
namespace Go.Proofs.Ytddlalljdecdoaa
open Go Go.RowKit
set_option maxRecDepth 100000
set_option maxHeartbeats 3200000
theorem steps_no {limit ba n : Int} (hf : ¬ FitsB limit ba n) {A A' : Option Addr} {len cap len' cap' : Nat} (W : World) :
    Calls Try.prog 3 #[.int .i64 limit, .int .i64 ba, .int .i64 n, .slice A len cap, .slice A' len' cap'] W fun e w' => e = .returned (.bool true) ∧ Below W.heap.size W w' := by
  have HF := Lib.hid hf
  clear hf
  go_enter Try.func3, Try.ntmps3
  go_wp2_with (first
    | (go_at_call 12; refine (begins_any _).mono ?_; rintro e w2 ⟨rfl, hb⟩; have HB2 := Lib.hid hb; clear hb)
    | (go_at_call 11; refine (dfits_no HF.out _).mono ?_; rintro e w1 ⟨rfl, hb⟩; have HB := Lib.hid hb; clear hb)
    | (go_at_call 10; refine (qnew_no HF.out _).mono ?_; rintro e wx ⟨rfl, rfl⟩))
  go_ret
  exact ⟨rfl, HB.out.trans (HB2.out.mono HB.out.size)⟩
set_option maxHeartbeats 12800000
theorem steps_yes {limit ba : Int} {n : Nat} (hf : FitsB limit ba (n : Int)) {A B : Option Addr} {cap cap' : Nat} {ops : List (Int × Int)} {xs : List Int} (W : World) (hE : Ext2 .u8 .i64 W A ops) (hr : ops.length ≤ 1048576) (hX : Ext .i64 W B xs) (hr' : xs.length * 8 ≤ 140737488351232) :
    Calls Try.prog 3 #[.int .i64 limit, .int .i64 ba, .int .i64 (n : Int), .slice A ops.length cap, .slice B xs.length cap'] W fun e w' => e = .returned (.bool true) ∧ Below W.heap.size W w' := by
  obtain ⟨ip, hip, hp0, hp1, hp2⟩ := info_parts infoP
  obtain ⟨it, hit, ht0, ht1, ht2⟩ := info_parts infoUN
  have HF := Lib.hid hf
  have HN : Hid (1 ≤ n ∧ n ≤ 64) := Lib.hid (by obtain ⟨_, _, _, _, h5, h6⟩ := hf; omega)
  have HLm : Hid (0 ≤ limit ∧ limit ≤ 1099511627776) := Lib.hid (by obtain ⟨h1, h2, _⟩ := hf; exact ⟨h1, h2⟩)
  have HE := Lib.hid hE
  have HX := Lib.hid hX
  clear hf hE hX
  go_enter Try.func3, Try.ntmps3
  go_wp2_with (first
    | (go_at_call 10; refine (qnew_yes HF.out _).mono ?_; rintro e w1 ⟨bq, bk, bw, rfl, hc, hk, hw, hS, hb⟩; have HO1 := Lib.hid (OneB.start (n := n) (Below.refl W.heap.size W) hw hS (by simp [startW]) hb); clear hc hk hw hS hb)
    | (go_at_call 11; refine (dfits_yes HF.out _).mono ?_; rintro e w2 ⟨rfl, hb⟩; have HO2 := Lib.hid (HO1.out.on hb); clear hb))
  have hxl : xs.length ≤ 17592186044160 := by omega
  go_loopw [14, 15, 16] (fun vu vp u wr => ∃ j : Nat, j ≤ ops.length ∧ u = .int .i64 j ∧ ∃ ps bs, bs.length ≤ j ∧ AllB W bq bk bw ba n (startW limit n) ps bs vp vu wr) (fun _ _ u _ => ops.length - (intOf u).toNat)
  case atStart => exact ⟨0, Nat.zero_le _, rfl, [], [], Nat.le_refl _, AllB.nil HO2.out⟩
  case round =>
    obtain ⟨j, hj, rfl, ps, bs, hbl, hM⟩ := hrel
    have HK := Lib.hid hM
    have HBL := Lib.hid hbl
    clear hM HO1 HO2 hbl
    by_cases hlt : j < ops.length
    · obtain ⟨⟨k, i⟩, hop⟩ : ∃ op, ops[j]? = some op := ⟨ops[j], List.getElem?_eq_getElem hlt⟩
      obtain ⟨b', o, rfl, hbW, e0, e1⟩ := HE.out j _ hop
      dsimp only at e0 e1
      have hb' : b' < wr.heap.size := Nat.lt_of_lt_of_le hbW HK.out.many.low.size
      have q0 := (HK.out.many.low.cell (p := ⟨b', o + j * 2, none⟩) hbW).trans e0
      have q1 := (HK.out.many.low.cell (p := ⟨b', o + j * 2 + 1, none⟩) hbW).trans e1
      have E0 := Lib.hid e0
      have E1 := Lib.hid e1
      have HBW := Lib.hid hbW
      have hlt2 : (j : Int) < (ops.length : Int) := by omega
      clear hop hbW e0 e1
      by_cases hR : rightB n k i = true
      · obtain ⟨wk, rfl, hfi⟩ := right_cases hR
        have HR := Lib.hid hR
        have HRT : Hid (FineB n k wk) := Lib.hid hfi
        clear hR hfi
        have HLL : Hid (bs.length + 1 ≤ ops.length) := Lib.hid (by have h1 := HBL.out; omega)
        have H3 : Hid (bs.length + 1 ≤ maxLen) := Lib.hid (by have := HLL.out; unfold maxLen; omega)
        have H4 : Hid ((bs.length + 1) * 8 ≤ 140737488355328) := Lib.hid (by have := HLL.out; omega)
        have H6 : Hid ((bs.length + 1) * 64 ≤ 140737488355328) := Lib.hid (by have := HLL.out; omega)
        go_wp2_with (first
          | (go_at_call 13; refine (bstart_op HK.out.many.one.quo HK.out.many.one.len HRT.out).mono ?_; rintro e w5 ⟨bp, rfl, hn5, hr5, hb5⟩; have HB5 := Lib.hid hb5; have HN5 := Lib.hid hn5; have HR5 := Lib.hid hr5; have HL5 := Lib.hid (HK.out.many.low.trans (hb5.mono HK.out.many.low.size)); have f0 := (HL5.out.cell (p := ⟨b', o + j * 2, none⟩) HBW.out).trans E0.out; have f1 := (HL5.out.cell (p := ⟨b', o + j * 2 + 1, none⟩) HBW.out).trans E1.out; clear hb5 hn5 hr5)
          | (go_at_call 14; refine (dright_any n k wk _).mono ?_; rw [HR.out]; rintro e w6 ⟨rfl, hb6⟩; have HB6 := Lib.hid (HB5.out.trans (hb6.mono HB5.out.size)); have HR6 := Lib.hid (HR5.out.below hb6 HR5.out.lt); have HK6 := Lib.hid (HK.out.on HB6.out); have g0 := (HK6.out.many.low.cell (p := ⟨b', o + j * 2, none⟩) HBW.out).trans E0.out; have g1 := (HK6.out.many.low.cell (p := ⟨b', o + j * 2 + 1, none⟩) HBW.out).trans E1.out; have H5 : Hid (W.heap.size ≤ (w6.alloc (.cells #[.int .u8 k, .int .i64 (wk : Int), .int .i64 0, .int .u64 0, .int .u64 0, .int .u64 0, .bool false, .int .i64 0] 41)).heap.size) := Lib.hid (by have := HK6.out.many.low.size; simp; omega); clear hb6)
          | (at_builtin; refine wpList_append_own _ rfl _ _ 30 rfl W.heap.size 41 it (.agg #[.int .u8 0, .int .i64 0, .int .i64 0, .int .u64 0, .int .u64 0, .int .u64 0, .bool false, .int .i64 0]) 8 64 Try.underlying30 hit ht0 ht1 ht2 rfl (by decide) _ _ _ rfl (HK6.out.un.alloc _) ⟨w6.heap.size, 0, none⟩ 1 1 (undP (newB k wk, ⟨0, 0, 0, 0, false, 0⟩)) rfl rfl (new_cells _ _ _) (du_one _) H3.out H6.out H5.out ?_; intro vu' w7 hown7 hgr7 _; have HO7 := Lib.hid hown7; have HG7 := Lib.hid hgr7; have U5 := Lib.hid (HK6.out.un.alloc (.cells #[.int .u8 k, .int .i64 (wk : Int), .int .i64 0, .int .u64 0, .int .u64 0, .int .u64 0, .bool false, .int .i64 0] 41)); have M6 := Lib.hid ((HK6.out.many.alloc (.cells #[.int .u8 k, .int .i64 (wk : Int), .int .i64 0, .int .u64 0, .int .u64 0, .int .u64 0, .bool false, .int .i64 0] 41)).grown U5.out (Nat.le_refl _) hgr7 (by decide) (by decide) (by decide) (by decide) (by decide)); have H7 : Hid (W.heap.size ≤ (w7.alloc (.cells #[.pointer (some ⟨bp, 0, none⟩)] 32)).heap.size) := Lib.hid (by have := M6.out.low.size; simp; omega); clear hown7 hgr7)
          | (at_builtin; refine wpList_append_own _ rfl _ _ 31 rfl W.heap.size 32 ip (.pointer none) 1 8 Try.underlying31 hip hp0 hp1 hp2 rfl (by decide) _ _ _ rfl (M6.out.ps.alloc _) ⟨w7.heap.size, 0, none⟩ 1 1 [.pointer (some ⟨bp, 0, none⟩)] rfl rfl (new_cells _ _ _) (one_ptr _) H3.out H4.out H7.out ?_; intro vp' w8 hown8 hgr8 _; have HO8 := Lib.hid hown8; have HG8 := Lib.hid hgr8; clear hown8 hgr8))
        go_roundw
        case rel => exact ⟨j + 1, by omega, by go_num, ps ++ [(newB k wk, ⟨0, 0, 0, 0, false, 0⟩)], bs ++ [bp], by have := HBL.out; simp; omega, HK.out.grow HB6.out HR6.out HN5.out HRT.out HO7.out HG7.out HO8.out HG8.out⟩
        case measure => simp [intOf]; omega
      · have HR : Hid (rightB n k i = false) := Lib.hid (by simpa using hR)
        clear hR
        go_wp2_with (first
          | (go_at_call 13; refine (bstart_no HK.out.many.one.quo HK.out.many.one.len HR.out).mono ?_; rintro e w5 ⟨rfl, hb5⟩; have HK5 := Lib.hid (HK.out.on hb5); have f0 := (HK5.out.many.low.cell (p := ⟨b', o + j * 2, none⟩) HBW.out).trans E0.out; have f1 := (HK5.out.many.low.cell (p := ⟨b', o + j * 2 + 1, none⟩) HBW.out).trans E1.out; have hb5' : b' < w5.heap.size := Nat.lt_of_lt_of_le HBW.out HK5.out.many.low.size; clear hb5)
          | (go_at_call 14; refine (dright_any n k i _).mono ?_; rw [HR.out]; rintro e w6 ⟨rfl, hb6⟩; have HK6 := Lib.hid (HK5.out.on hb6); clear hb6))
        go_roundw
        case rel => exact ⟨j + 1, by omega, by go_num, ps, bs, by have := HBL.out; omega, HK6.out⟩
        case measure => simp [intOf]; omega
    · obtain rfl : j = ops.length := by omega
      have HLL : Hid (bs.length ≤ 1048576) := Lib.hid (by have := HBL.out; omega)
      have hbn : bs.length ≤ 1048576 := HLL.out
      obtain ⟨pa, pc, rfl⟩ := own_form HK.out.many.ps
      obtain ⟨ua, uc, rfl⟩ := own_form HK.out.un
      go_wp2_with (go_at_call 15; refine (dcells_any HLm.out.1 HLm.out.2 HN.out.2 _).mono ?_; rintro e w3 ⟨g, c, rfl, hg, hlt3, hL, hb⟩; have HC1 : Hid (BothB W bq bk bw ba n (startW limit n) ps bs (.slice pa bs.length pc) (.slice ua bs.length uc) g w3) := Lib.hid (BothB.start HK.out hg hlt3 hL hb); clear hg hlt3 hL hb)
      clear HK HBL
      go_loopw [20, 21] (fun vc u wr => ∃ j : Nat, j ≤ xs.length ∧ u = .int .i64 j ∧ ∃ ws ps g c, vc = .slice (some ⟨g, 0, none⟩) ws.length c ∧ BothB W bq bk bw ba n ws ps bs (.slice pa bs.length pc) (.slice ua bs.length uc) g wr) (fun _ u _ => xs.length - (intOf u).toNat)
      case atStart => exact ⟨0, Nat.zero_le _, rfl, _, _, _, _, rfl, HC1.out⟩
      case round =>
        obtain ⟨j, hj, rfl, ws, ps, g, c, rfl, hC⟩ := hrel
        have HC := Lib.hid hC
        clear hC HC1
        by_cases hlt : j < xs.length
        · obtain ⟨k, hk⟩ : ∃ k, xs[j]? = some k := ⟨xs[j], List.getElem?_eq_getElem hlt⟩
          obtain ⟨b', o', rfl, hlt', q0⟩ := (HX.out.on HC.out.all.many.low) j _ hk
          have hlt2 : (j : Int) < (xs.length : Int) := by omega
          clear hk
          by_cases hk0 : k < 0
          · have hd : decide (k < 0) = true := by simpa using hk0
            go_wp2
            go_roundw
            case rel => exact ⟨j + 1, by omega, by go_num, _, _, _, _, rfl, HC.out⟩
            case measure => simp [intOf]; omega
          have hd0 : decide (k < 0) = false := by simpa using hk0
          by_cases hkn : (bs.length : Int) ≤ k
          · have hd : decide ((bs.length : Int) ≤ k) = true := by simpa using hkn
            go_wp2
            go_roundw
            case rel => exact ⟨j + 1, by omega, by go_num, _, _, _, _, rfl, HC.out⟩
            case measure => simp [intOf]; omega
          obtain ⟨q, rfl⟩ := Int.eq_ofNat_of_zero_le (show 0 ≤ k by omega)
          have hd1 : decide ((bs.length : Int) ≤ (q : Int)) = false := by simp; omega
          have hqn : q < bs.length := by omega
          have hq2 : (q : Int) < (bs.length : Int) := by omega
          have hq8 : q * 8 ≤ 8388608 := by omega
          obtain ⟨o, b, gp, cp, ho, hb, hv, hc, hR, hok⟩ := HC.out.all.many.get hqn
          cases hv
          obtain ⟨x, hx⟩ : ∃ x, ps[q]? = some x := ⟨_, List.getElem?_eq_getElem (by have := HC.out.all.many.pends.len; rw [List.length_map] at this; omega)⟩
          obtain rfl : x.1 = o := by simpa [hx] using ho
          obtain ⟨gu, cu, hvu, _, _⟩ := own_some HC.out.all.un (by omega)
          cases hvu
          have hpl := own_lt_ HC.out.all.many.ps gp rfl
          have hul := own_lt_ HC.out.all.un gu rfl
          obtain ⟨hsay1, hsay2⟩ := (HC.out.all.inv x (List.mem_of_getElem? hx)).says (HC.out.all.still x (List.mem_of_getElem? hx))
          have HS2 := Lib.hid hsay2
          have HBb := Lib.hid hb
          have HXx := Lib.hid hx
          have HRr := Lib.hid hR
          have HOK := Lib.hid hok
          obtain ⟨d0, d1, d2, d3, d4, hdi⟩ := did_fiveB ba ws x.1
          obtain ⟨la, hla⟩ : ∃ la, decide ((stepB ba ws x.1).ph = 9) = la := ⟨_, rfl⟩
          have HDI := Lib.hid hdi
          have HLA := Lib.hid hla
          have hwl := HC.out.all.many.one.len
          have HWL := Lib.hid hwl
          have HUS := Lib.hid HC.out.all.many.one.quo.words.ok
          have HINV := Lib.hid HC.out.all.inv
          have HST := Lib.hid HC.out.all.still
          have hok' : OkB ws.length x.1 := by rw [hwl]; exact hok
          have HOK := Lib.hid hok'
          clear ho hb hR hok hok' hsay1 hsay2 hx hdi hla hwl hc
          go_upto_region 27 with fail
          go_cut [23, 24] (fun s23 s24 wx => ∃ b18, s23 = .pointer (some ⟨b18, 0, none⟩) ∧ s24 = .bool la ∧ BoxB W b18 [.int .u8 d0, .int .i64 d1, .int .u64 d2, .int .u64 d3, .bool d4] wx ∧ MidB W bq bk bw ba n (stepBW ba ws x.1) ((ps.map Prod.fst).set q (stepB ba ws x.1)) bs (.slice (some ⟨gp, 0, none⟩) bs.length pc) (.slice (some ⟨gu, 0, none⟩) bs.length uc) ws ps g wx)
          case first =>
            have p0 := own_cell HC.out.all.many.ps (ptrs_get HBb.out)
            go_wp2_with (go_at_call 16; (with_reducible refine (bstep_op HC.out.all.many.one.quo HRr.out HOK.out).mono ?_); rintro e w5 hs5; have HM5 := Lib.hid (HC.out.code HXx.out HBb.out hs5); obtain ⟨he, _, _, _⟩ := hs5; rw [HDI.out, HLA.out] at he; subst he; simp only [didV])
            go_meet
            exact ⟨_, rfl, rfl, BoxB.new HM5.out [.int .u8 d0, .int .i64 d1, .int .u64 d2, .int .u64 d3, .bool d4], HM5.out.alloc _⟩
          case rest =>
            obtain ⟨b18, rfl, rfl, hB18, hM⟩ := hcut
            have HB18 := Lib.hid hB18
            have HM := Lib.hid hM
            have hgul := own_lt_ HM.out.un gu rfl
            clear hB18 hM hpl hul
            obtain ⟨e0, he0⟩ : ∃ e0, x.2.ended = e0 := ⟨_, rfl⟩
            have HE0 := Lib.hid he0
            have HEN0 : Hid (e0 = decide (x.1.ph = 9)) := Lib.hid (by rw [← he0]; exact ((HINV.out x (List.mem_of_getElem? HXx.out)).says (HST.out x (List.mem_of_getElem? HXx.out))).1)
            have xen : wc.cell? ⟨gu, q * 8 + 6, none⟩ = some (.bool e0) := by
              obtain ⟨_, _, _, _, _, _, u6, _⟩ := un_cells HM.out.un HXx.out
              rw [u6, he0]
            clear he0
            go_upto_if 136 with fail
            go_cut [20, 25] (fun s20 s25 wx => ∃ b20 ws2 ps2 g2 c2 x2, s20 = .slice (some ⟨g2, 0, none⟩) ws2.length c2 ∧ s25 = .pointer (some ⟨b20, 0, none⟩) ∧ BoxB W b18 [.int .u8 d0, .int .i64 d1, .int .u64 d2, .int .u64 d3, .bool d4] wx ∧ BoxB W b20 [.int .u8 d0, .int .i64 d1, .int .u64 d2, .int .u64 d3, .bool d4] wx ∧ ps2[q]? = some x2 ∧ decide (x2.1.ph = 9) = la ∧ BothB W bq bk bw ba n ws2 ps2 bs (.slice (some ⟨gp, 0, none⟩) bs.length pc) (.slice (some ⟨gu, 0, none⟩) bs.length uc) g2 wx)
            case first =>
              have H20 := Lib.hid (BoxB.new HM.out [.int .u8 0, .int .i64 0, .int .u64 0, .int .u64 0, .bool false])
              have HM0 := Lib.hid (HM.out.alloc (.cells #[.int .u8 0, .int .i64 0, .int .u64 0, .int .u64 0, .bool false] 46))
              have HB0 := Lib.hid (HB18.out.on ((Below.refl _ _).alloc (Nat.le_refl _) (.cells #[.int .u8 0, .int .i64 0, .int .u64 0, .int .u64 0, .bool false] 46)))
              have n1820 : b18 ≠ wc.heap.size := Nat.ne_of_lt HB18.out.row.lt
              have ngu : ¬ gu = wc.heap.size := Nat.ne_of_lt hgul
              have ngu' : ¬ wc.heap.size = gu := fun e => ngu e.symm
              obtain ⟨u0, u1, u2, u3, u4, u5, u6, u7⟩ := un_cells HM0.out.un HXx.out
              rw [HE0.out] at u6
              clear xen
              have hen := HEN0.out
              by_cases h9 : x.1.ph = 9
              · have hE : e0 = true := by rw [hen]; simpa using h9
                subst hE
                obtain ⟨o1, o2, o3⟩ := stepB_over (ba := ba) (ws := ws) h9
                have e3 := HDI.out
                rw [o3] at e3
                simp only [Prod.mk.injEq] at e3
                obtain ⟨rfl, rfl, rfl, rfl, rfl⟩ := e3
                have HLB : Hid (decide (x.1.ph = 9) = la) := Lib.hid (by have := HLA.out; rw [o1] at this; exact this)
                have HOV := Lib.hid (HM0.out.over HXx.out h9 HINV.out HST.out)
                clear hen HEN0 h9 o1 o2 o3
                go_wp2
                go_meet
                exact ⟨_, ws, ps, g, c, x, rfl, rfl, HB0.out, H20.out, HXx.out, HLB.out, HOV.out⟩
              · have hE : e0 = false := by rw [hen]; simpa using h9
                subst hE
                have HDOP := Lib.hid (dstep_op (q := c) HM0.out.lies HM0.out.glt (by rw [HWL.out]; have := HN.out; omega) (by rw [HWL.out]; have := HN.out; omega) HUS.out HC.out.all.many.one.quo.lowb HC.out.all.many.one.quo.topb HOK.out h9 (HINV.out x (List.mem_of_getElem? HXx.out)))
                simp only [undU, undB] at HDOP
                rw [HE0.out] at HDOP
                clear hen HEN0 h9
                go_wp2_with (go_at_call 17; refine HDOP.out.mono ?_; rintro e w3 ⟨⟨at', saw', hd', sm', en', an'⟩, hi', g', c', rfl, hg', hlt', hL', hb'⟩; rw [HDI.out]; simp only [didL, undU, undB]; have HN3 := Lib.hid (next_didB (d0 := d0) (d1 := d1) (d2 := d2) (d3 := d3) (d4 := d4) HM0.out HXx.out HINV.out HST.out hb' hg' hlt' hL' hi' HB0.out H20.out n1820); have hM3 := HM0.out.on hb'; obtain ⟨y0, y1, y2, y3, y4, y5, y6, y7⟩ := un_cells hM3.un HXx.out; have yf := hM3.un.frozenAt; have ylt := own_lt_ hM3.un gu rfl; have h203 := (H20.out.on hb').row; obtain ⟨z0, z1, z2, z3, z4⟩ := (show _ ∧ _ ∧ _ ∧ _ ∧ _ from ⟨h203.cell 0, h203.cell 1, h203.cell 2, h203.cell 3, h203.cell 4⟩); have zf := h203.free; have zlt := h203.lt; clear hb' hg' hlt' hL' hi' hM3 h203)
                go_meet
                obtain ⟨a1, a2, a3⟩ := HN3.out
                exact ⟨_, _, _, g', c', _, rfl, rfl, a2, a3, List.getElem?_set_self (lt_of_get HXx.out), HLA.out, a1⟩
            case rest =>
              obtain ⟨b20, ws2, ps2, g2, c2, x2, rfl, rfl, hB18, hB20, hx2, hl2, hC2⟩ := hcut
              obtain ⟨hs1, hs2⟩ := (hC2.all.inv x2 (List.mem_of_getElem? hx2)).says (hC2.all.still x2 (List.mem_of_getElem? hx2))
              obtain ⟨an, han⟩ : ∃ an, x2.1.ans = an := ⟨_, rfl⟩
              obtain ⟨_, _, _, _, _, _, u6, u7⟩ := un_cells hC2.all.un hx2
              rw [hs1, hl2] at u6
              rw [hs2, han] at u7
              have p0 := own_cell hC2.all.many.ps (ptrs_get HBb.out)
              have hpl := own_lt_ hC2.all.many.ps gp rfl
              have hul := own_lt_ hC2.all.un gu rfl
              have hrow := hC2.all.many.pends.row q x2.1 b (by simp [hx2]) HBb.out
              have HROW := Lib.hid (fun m : Nat => hrow.part ((Part.refl [] wc).drewN m) (by simp))
              have HL2 := Lib.hid hl2
              have HAN := Lib.hid han
              have HC2 := Lib.hid hC2
              have l18 := hB18.row.lt
              have l20 := hB20.row.lt
              obtain ⟨a0, a1, a2, a3, a4⟩ := (show _ ∧ _ ∧ _ ∧ _ ∧ _ from ⟨hB18.row.cell 0, hB18.row.cell 1, hB18.row.cell 2, hB18.row.cell 3, hB18.row.cell 4⟩)
              obtain ⟨b0, b1, b2, b3, b4⟩ := (show _ ∧ _ ∧ _ ∧ _ ∧ _ from ⟨hB20.row.cell 0, hB20.row.cell 1, hB20.row.cell 2, hB20.row.cell 3, hB20.row.cell 4⟩)
              clear hB18 hB20 hx2 hl2 hC2 hs1 hs2 han hrow HM HB18 HC xen hgul
              go_wp2
              go_region_held3 (fun w' => w'.cell? ⟨b18, 0, none⟩ = some (.int .u8 d0) ∧ w'.cell? ⟨b18, 1, none⟩ = some (.int .i64 d1) ∧ w'.cell? ⟨b18, 2, none⟩ = some (.int .u64 d2) ∧ w'.cell? ⟨b18, 3, none⟩ = some (.int .u64 d3) ∧ w'.cell? ⟨b18, 4, none⟩ = some (.bool d4) ∧ w'.cell? ⟨b20, 0, none⟩ = some (.int .u8 d0) ∧ w'.cell? ⟨b20, 1, none⟩ = some (.int .i64 d1) ∧ w'.cell? ⟨b20, 2, none⟩ = some (.int .u64 d2) ∧ w'.cell? ⟨b20, 3, none⟩ = some (.int .u64 d3) ∧ w'.cell? ⟨b20, 4, none⟩ = some (.bool d4) ∧ w'.cell? ⟨gp, q, none⟩ = some (.pointer (some ⟨b, 0, none⟩)) ∧ w'.cell? ⟨gu, q * 8 + 6, none⟩ = some (.bool la) ∧ w'.cell? ⟨gu, q * 8 + 7, none⟩ = some (.int .i64 an))
                (first | (with_reducible exact ⟨a0, a1, a2, a3, a4, b0, b1, b2, b3, b4, p0, u6, u7⟩) | go_keep)
                (first
                  | (go_at_call 18; refine (bdone_op (HROW.out _)).mono ?_; rw [HL2.out]; rintro e wx ⟨rfl, rfl⟩)
                  | (go_at_call 19; refine (banswer_op (HROW.out _)).mono ?_; rw [HAN.out]; rintro e wx ⟨rfl, rfl⟩))
              all_goals
                go_wp2
                go_roundw
                case rel => exact ⟨j + 1, by omega, by go_num, _, _, _, _, rfl, HC2.out.on (Below.draws (Below.refl _ _) _)⟩
                case measure => simp [intOf]; omega
        · obtain rfl : j = xs.length := by omega
          go_wp2_with (first
            | (go_at_call 12; refine (begins_any _).mono ?_; rintro e w9 ⟨rfl, hb9⟩; have HB9 := Lib.hid (HC8.out.all.many.low.trans (hb9.mono HC8.out.all.many.low.size)); clear hb9)
            | (go_at_call 21; refine (qall_any HC.out.all.many.one.quo).mono ?_; rintro e w7 ⟨b7, rfl, hb7, hr7, hw7⟩; have HC7 := Lib.hid (HC.out.on hw7); have HR7 := Lib.hid hr7; clear hb7 hr7 hw7)
            | (go_at_call 20; refine (same_yes HR7.out.lies HC7.out.lies (by have := HC7.out.all.many.one.len; have := HN.out; omega) rfl rfl).mono ?_; rintro e w8 ⟨rfl, hb8⟩; have HC8 := Lib.hid (HC7.out.on hb8); clear hb8))
          go_ret
          exact ⟨rfl, HB9.out⟩
end Go.Proofs.Ytddlalljdecdoaa
