/- THE WALK of the law 'SemSteps'. -/
import Derived.Test.YtamigipljgijlaaOi
namespace Go.Proofs.Ytamigipljgijlaa
open Go Go.RowKit
set_option maxRecDepth 100000
theorem ssteps_no {n : Int} (hn : n < 1 ∨ 65536 < n) {A B : Option Addr} {len cap len' cap' : Nat} (W : World) :
    Calls Try.prog 3 #[.int .i64 n, .slice A len cap, .slice B len' cap'] W fun e w' => e = .returned (.bool true) ∧ Below W.heap.size W w' := by
  have HN := Lib.hid hn
  by_cases a : n < 1
  · clear hn
    go_enter Try.func3, Try.ntmps3
    go_wp2_with (first
      | (go_at_call 6; refine (lives_any _).mono ?_; rintro e w0 ⟨rfl, hb⟩; have HB0 := Lib.hid hb; clear hb)
      | (go_at_call 7; refine (snew_no HN.out _).mono ?_; rintro e w' ⟨rfl, rfl⟩))
    go_ret
    exact ⟨rfl, HB0.out⟩
  have b : 65536 < n := by omega
  · clear hn
    go_enter Try.func3, Try.ntmps3
    go_wp2_with (first
      | (go_at_call 6; refine (lives_any _).mono ?_; rintro e w0 ⟨rfl, hb⟩; have HB0 := Lib.hid hb; clear hb)
      | (go_at_call 7; refine (snew_no HN.out _).mono ?_; rintro e w' ⟨rfl, rfl⟩))
    go_ret
    exact ⟨rfl, HB0.out⟩
set_option maxHeartbeats 25600000
theorem ssteps_yes {n : Nat} (h1 : 1 ≤ n) (h2 : n ≤ 65536) {A B : Option Addr} {cap cap' : Nat} {ops xs : List Int} (W : World) (hE : Ext .u8 W A ops) (hr : ops.length ≤ 1048576) (hX : Ext .i64 W B xs) (hr' : xs.length * 8 ≤ 140737488351232) :
    Calls Try.prog 3 #[.int .i64 (n : Int), .slice A ops.length cap, .slice B xs.length cap'] W fun e w' => e = .returned (.bool true) ∧ Below W.heap.size W w' := by
  obtain ⟨ip, hip, hp0, hp1, hp2⟩ := info_parts infoPS
  obtain ⟨iu, hiu, hu0, hu1, hu2⟩ := info_parts infoUNS
  have HE := Lib.hid hE
  have HX := Lib.hid hX
  clear hE hX
  go_enter Try.func3, Try.ntmps3
  go_wp2_with (first
    | (go_at_call 6; refine (lives_any _).mono ?_; rintro e w0 ⟨rfl, hb⟩; have HB0 := Lib.hid hb; clear hb)
    | (go_at_call 7; refine (snew_yes w0 (n := n) h1 (by omega)).mono ?_; rintro e w1 ⟨bsem, bk, bw, rfl, _, _, hbw, hS, hb⟩; have HS1 := Lib.hid hS; have HW1 := Lib.hid (Nat.le_trans HB0.out.size hbw); have HB1 := Lib.hid (HB0.out.trans (hb.mono HB0.out.size)); clear hbw hS hb))
  obtain ⟨bx, hbx⟩ : ∃ bx, w1.heap.size = bx := ⟨_, rfl⟩
  have HG1 : Hid (GrowS W bsem bk bw bx (n : Int) [] [] [] (.slice none 0 0) (.slice none 0 0) (w1.alloc (.cells #[.int .u64 (n : Int), .int .u64 0, .int .u64 0] 31))) := Lib.hid (GrowS.nil (HS1.out.on ((Below.refl _ _).alloc (Nat.le_refl _) _)) (by rw [← hbx]; exact Row.new w1 31 _) (by rw [← hbx]; exact HB1.out.size) HW1.out (HB1.out.alloc HB1.out.size _))
  rw [hbx]
  clear hbx
  have hxl : xs.length ≤ 17592186044160 := by omega
  go_loopw [10, 11, 59] (fun vp vu u wr => ∃ j : Nat, j ≤ ops.length ∧ u = .int .i64 j ∧ ∃ ks bs zs, bs.length ≤ j ∧ GrowS W bsem bk bw bx (n : Int) ks bs zs vp vu wr) (fun _ _ u _ => ops.length - (intOf u).toNat)
  case atStart => exact ⟨0, Nat.zero_le _, rfl, [], [], [], Nat.le_refl _, HG1.out⟩
  case round =>
    obtain ⟨j, hj, rfl, ks, bs, zs, hbl, hA⟩ := hrel
    have HA := Lib.hid hA
    have HBL := Lib.hid hbl
    clear hA hbl HG1 HB1 HW1 HS1 HB0
    by_cases hlt : j < ops.length
    · obtain ⟨k, hk⟩ : ∃ k, ops[j]? = some k := ⟨ops[j], List.getElem?_eq_getElem hlt⟩
      obtain ⟨b', o', rfl, hlt', q0⟩ := (HE.out.on HA.out.low) j _ hk
      have hlt2 : (j : Int) < (ops.length : Int) := by omega
      clear hk
      by_cases hR : rightK k = true
      · have HR := Lib.hid (right_kinds hR)
        have HRK := Lib.hid hR
        clear hR
        have HLL : Hid (bs.length + 1 ≤ ops.length) := Lib.hid (by have h1 := HBL.out; omega)
        have H3 : Hid (bs.length + 1 ≤ maxLen) := Lib.hid (by have := HLL.out; unfold maxLen; omega)
        have H4 : Hid ((bs.length + 1) * 8 ≤ 140737488355328) := Lib.hid (by have := HLL.out; omega)
        have H6 : Hid ((bs.length + 1) * 56 ≤ 140737488355328) := Lib.hid (by have := HLL.out; omega)
        go_wp2_with (first
          | (go_at_call 8; refine (snew_op HR.out).mono ?_; rintro e w5 ⟨bp, rfl, h1', h2', hn5, hb5⟩; have HB5 := Lib.hid hb5; have HN5 := Lib.hid hn5; have H1' := Lib.hid h1'; have H2' := Lib.hid h2'; have HG5 := Lib.hid (HA.out.on hb5); have H5 : Hid (W.heap.size ≤ (w5.alloc (.cells #[.pointer (some ⟨bp, 0, none⟩)] 35)).heap.size) := Lib.hid (by have := HG5.out.low.size; simp; omega); clear h1' h2' hn5 hb5)
          | (go_at_call 9; refine (lright_any k _).mono ?_; rw [HRK.out]; rintro e w6 ⟨rfl, rfl⟩)
          | (at_builtin; refine wpList_append_lies _ rfl _ _ 32 rfl W.heap.size 35 ip (.pointer none) 1 8 Try.underlying32 hip hp0 hp1 hp2 rfl (by decide) _ _ _ rfl (HG5.out.ps.alloc _) ⟨w5.heap.size, 0, none⟩ 1 1 [.pointer (some ⟨bp, 0, none⟩)] rfl rfl (new_cells _ _ _) (one_ptr _) (by decide) H3.out H4.out H5.out _ rfl ?_; intro g6 c6 w6 hown6 hgr6 hat6 hlt6; have HO6 := Lib.hid hown6; have HW6 := Lib.hid hgr6; have HT6 := Lib.hid hat6; have a5 := HG5.out.on ((Below.refl _ _).alloc (Nat.le_refl _) (.cells #[.pointer (some ⟨bp, 0, none⟩)] 35)); have HU6 := Lib.hid (a5.un.kept hgr6 (own_apart a5.un a5.ps (by decide))); have H7 : Hid (W.heap.size ≤ (w6.alloc (.cells #[.int .u8 k, .int .i64 0, .int .u64 0, .int .u64 0, .bool false, .int .u64 0, .int .i64 0] 40)).heap.size) := Lib.hid (by have h1 := H5.out; have h2 := hgr6.size; simp at h1 h2 ⊢; omega); clear hown6 hgr6 hat6 a5)
          | (at_builtin; refine wpList_append_lies _ rfl _ _ 33 rfl W.heap.size 40 iu (.agg #[.int .u8 0, .int .i64 0, .int .u64 0, .int .u64 0, .bool false, .int .u64 0, .int .i64 0]) 7 56 Try.underlying33 hiu hu0 hu1 hu2 rfl (by decide) _ _ _ rfl (HU6.out.alloc _) ⟨w6.heap.size, 0, none⟩ 1 1 (undSP (recS k)) rfl rfl (new_cells _ _ _) (duS_one _) (by decide) H3.out H6.out H7.out _ rfl ?_; intro g7 c7 w7 hown7 hgr7 hat7 hlt7; have HO7 := Lib.hid hown7; have HW7 := Lib.hid hgr7; have HT7 := Lib.hid hat7; clear hown7 hgr7 hat7))
        go_roundw
        case rel => exact ⟨j + 1, by omega, by go_num, ks ++ [k], bs ++ [bp], _, by have := HBL.out; simp; omega, HA.out.grow HR.out HB5.out HN5.out H1'.out H2'.out HO6.out HW6.out HT6.out HO7.out HW7.out HT7.out⟩
        case measure => simp [intOf]; omega
      · have HR : Hid (rightK k = false) := Lib.hid (by simpa using hR)
        clear hR
        go_wp2_with (first
          | (go_at_call 8; refine (sstart_no HR.out).mono ?_; rintro e w5 ⟨rfl, hb5⟩; have HG5 := Lib.hid (HA.out.on hb5); clear hb5)
          | (go_at_call 9; refine (lright_any k _).mono ?_; rw [HR.out]; rintro e w6 ⟨rfl, rfl⟩))
        go_roundw
        case rel => exact ⟨j + 1, by omega, by go_num, ks, bs, zs, by have := HBL.out; omega, HG5.out⟩
        case measure => simp [intOf]; omega
    · obtain rfl : j = ops.length := by omega
      have HLL : Hid (bs.length ≤ 1048576) := Lib.hid (by have := HBL.out; omega)
      have hbn : bs.length ≤ 1048576 := HLL.out
      obtain ⟨pa, pc, rfl⟩ := own_form HA.out.ps
      obtain ⟨ua, uc, rfl⟩ := own_form HA.out.un
      have HC1 : Hid (AllSm W bsem bk bw bx (n : Int) 0 0 0 0 ((ks.map recS).map Prod.fst) (ks.map recS) bs (.slice pa bs.length pc) (.slice ua bs.length uc) wr) := Lib.hid (by rw [show (ks.map recS).map Prod.fst = ks.map newS by simp [recS]]; exact HA.out.all)
      clear HA HBL
      go_wp2
      go_loopw [96] (fun u wr => ∃ j : Nat, j ≤ xs.length ∧ u = .int .i64 j ∧ ∃ d g ps, AllSm W bsem bk bw bx (n : Int) d g d g (ps.map Prod.fst) ps bs (.slice pa bs.length pc) (.slice ua bs.length uc) wr) (fun u _ => xs.length - (intOf u).toNat)
      case atStart => exact ⟨0, Nat.zero_le _, rfl, _, _, _, HC1.out⟩
      case round =>
        obtain ⟨j, hj, rfl, d, g, ps, hC⟩ := hrel
        have HC := Lib.hid hC
        clear hC HC1
        by_cases hlt : j < xs.length
        · obtain ⟨k, hk⟩ : ∃ k, xs[j]? = some k := ⟨xs[j], List.getElem?_eq_getElem hlt⟩
          obtain ⟨b', o', rfl, hlt', q0⟩ := (HX.out.on HC.out.crowd.low) j _ hk
          have hlt2 : (j : Int) < (xs.length : Int) := by omega
          clear hk
          by_cases hk0 : k < 0
          · have hd : decide (k < 0) = true := by simpa using hk0
            obtain ⟨d', g', hpl⟩ := plain_any HC.out.crowd.sem k
            have HPL := Lib.hid hpl
            clear hpl
            obtain ⟨kb0, kb1, kb2⟩ := HC.out.box.three3
            have kbl := HC.out.box.lt
            go_wp2_with (go_at_call 10; refine HPL.out.mono ?_; rintro e w5 ⟨rfl, hs5, hP5⟩; have HC5 := Lib.hid (HC.out.plain hs5 hP5); have kf := HC5.out.box.free; have kl := HC5.out.box.lt; obtain ⟨ke0, ke1, ke2⟩ := HC5.out.box.three3; clear hs5 hP5)
            go_roundw
            case rel => exact ⟨j + 1, by omega, by go_num, d', g', ps, (HC5.out.book d' g').on ((Below.refl _ _).alloc (Nat.le_refl _) _)⟩
            case measure => simp [intOf]; omega
          have hd0 : decide (k < 0) = false := by simpa using hk0
          by_cases hkn : (bs.length : Int) ≤ k
          · have hd : decide ((bs.length : Int) ≤ k) = true := by simpa using hkn
            obtain ⟨d', g', hpl⟩ := plain_any HC.out.crowd.sem k
            have HPL := Lib.hid hpl
            clear hpl
            obtain ⟨kb0, kb1, kb2⟩ := HC.out.box.three3
            have kbl := HC.out.box.lt
            go_wp2_with (go_at_call 10; refine HPL.out.mono ?_; rintro e w5 ⟨rfl, hs5, hP5⟩; have HC5 := Lib.hid (HC.out.plain hs5 hP5); have kf := HC5.out.box.free; have kl := HC5.out.box.lt; obtain ⟨ke0, ke1, ke2⟩ := HC5.out.box.three3; clear hs5 hP5)
            go_roundw
            case rel => exact ⟨j + 1, by omega, by go_num, d', g', ps, (HC5.out.book d' g').on ((Below.refl _ _).alloc (Nat.le_refl _) _)⟩
            case measure => simp [intOf]; omega
          obtain ⟨q, rfl⟩ := Int.eq_ofNat_of_zero_le (show 0 ≤ k by omega)
          have hd1 : decide ((bs.length : Int) ≤ (q : Int)) = false := by simp; omega
          have hqb : q < bs.length := by omega
          have hqb2 : (q : Int) < (bs.length : Int) := by omega
          have hq7 : q * 7 ≤ 7340032 := by have := HLL.out; omega
          obtain ⟨x, b, gp, cp, gu, cu, hx, hb, hvp, hvu, hi, ho, gplt, gult⟩ := HC.out.get hqb
          cases hvp
          cases hvu
          have HXx := Lib.hid hx
          have HBb := Lib.hid hb
          have HIx := Lib.hid hi
          have HOx := Lib.hid ho
          clear hx hb hi ho
          obtain ⟨d0, d1, d2_, d3, d4, hdi⟩ := did_fiveS d g x.1
          obtain ⟨d2, hd2⟩ : ∃ d2, stepD d x.1 = d2 := ⟨_, rfl⟩
          obtain ⟨g2, hg2⟩ : ∃ g2, stepG g x.1 = g2 := ⟨_, rfl⟩
          obtain ⟨o2, ho2⟩ : ∃ o2, stepS (n : Int) d g x.1 = o2 := ⟨_, rfl⟩
          obtain ⟨la, hla⟩ : ∃ la, decide (o2.ph = 9) = la := ⟨_, rfl⟩
          obtain ⟨an, han⟩ : ∃ an, o2.ans = an := ⟨_, rfl⟩
          obtain ⟨wy, hwy⟩ : ∃ wy, o2.why = wy := ⟨_, rfl⟩
          obtain ⟨kk, hkk⟩ : ∃ kk, x.1.k = kk := ⟨_, rfl⟩
          obtain ⟨rx, hrx⟩ : ∃ rx, x.2 = rx := ⟨_, rfl⟩
          have HDI := Lib.hid hdi
          have HD2 := Lib.hid hd2
          have HG2 := Lib.hid hg2
          have HO2 := Lib.hid ho2
          have HLA := Lib.hid hla
          have HAN := Lib.hid han
          have HWY := Lib.hid hwy
          have HKK := Lib.hid hkk
          have HRX := Lib.hid hrx
          have HK2 : Hid (o2.k = kk) := Lib.hid (by rw [← ho2, stepS_kind]; exact hkk)
          have HOK2 : Hid (OkS o2) := Lib.hid (by rw [← ho2]; exact HOx.out.step _ _ _)
          clear hdi hd2 hg2 ho2 hla han hwy hkk hrx
          obtain ⟨u0, u1, u2, u3, u4, u5, u6⟩ := unS_cells HC.out.un HXx.out
          rw [HKK.out] at u0
          rw [HRX.out] at u1 u2 u3 u4 u5 u6
          obtain ⟨kb0, kb1, kb2⟩ := HC.out.box.three3
          have kblt := HC.out.box.lt
          have HSD : Hid (∀ W0 : World, Below wr.heap.size wr W0 → Calls Try.prog 11 #[.agg #[.int .u64 (n : Int), .int .u64 d, .int .u64 g], .agg #[.int .u8 kk, .int .i64 rx.at_, .int .u64 rx.fi, .int .u64 rx.la, .bool rx.en, .int .u64 rx.su, .int .i64 rx.wy]] W0 fun e w1 => ∃ x2, e = .returned (.tuple #[.agg #[.int .u64 (n : Int), .int .u64 d2, .int .u64 g2], .agg #[.int .u8 kk, .int .i64 x2.at_, .int .u64 x2.fi, .int .u64 x2.la, .bool x2.en, .int .u64 x2.su, .int .i64 x2.wy], .agg #[.int .u8 d0, .int .i64 d1, .int .u64 d2_, .int .u64 d3, .bool d4]]) ∧ InvS o2 x2 ∧ Below wr.heap.size wr w1 ∧ W0.heap.size ≤ w1.heap.size ∧ ∀ b t l, Row W0 b t l → Row w1 b t l) := Lib.hid (fun W0 hb0 => by
            have hc := dsstep_op (pl := (n : Int)) (d := d) (g := g) HOx.out HIx.out W0
            rw [HRX.out] at hc
            unfold undS at hc
            rw [HKK.out] at hc
            refine hc.mono ?_
            rintro e w1 ⟨x2, hi2, he, hb1⟩
            rw [HO2.out] at hi2
            unfold undS at he
            rw [HD2.out, HG2.out, HDI.out, HKK.out] at he
            exact ⟨x2, he, hi2, hb0.trans (hb1.mono hb0.size), hb1.size, fun b t l h => h.below hb1 h.lt⟩)
          have SK : Hid (∀ wz : World, Below wr.heap.size wr wz → wz.cell? ⟨bx, 0, none⟩ = some (.int .u64 (n : Int)) ∧ wz.cell? ⟨bx, 1, none⟩ = some (.int .u64 d) ∧ wz.cell? ⟨bx, 2, none⟩ = some (.int .u64 g) ∧ wz.cell? ⟨gu, q * 7, none⟩ = some (.int .u8 kk) ∧ wz.cell? ⟨gu, q * 7 + 1, none⟩ = some (.int .i64 rx.at_) ∧ wz.cell? ⟨gu, q * 7 + 2, none⟩ = some (.int .u64 rx.fi) ∧ wz.cell? ⟨gu, q * 7 + 3, none⟩ = some (.int .u64 rx.la) ∧ wz.cell? ⟨gu, q * 7 + 4, none⟩ = some (.bool rx.en) ∧ wz.cell? ⟨gu, q * 7 + 5, none⟩ = some (.int .u64 rx.su) ∧ wz.cell? ⟨gu, q * 7 + 6, none⟩ = some (.int .i64 rx.wy)) := Lib.hid (fun wz hbz => ⟨(hbz.cell (p := ⟨bx, 0, none⟩) kblt).trans kb0, (hbz.cell (p := ⟨bx, 1, none⟩) kblt).trans kb1, (hbz.cell (p := ⟨bx, 2, none⟩) kblt).trans kb2, (hbz.cell (p := ⟨gu, q * 7, none⟩) gult).trans u0, (hbz.cell (p := ⟨gu, q * 7 + 1, none⟩) gult).trans u1, (hbz.cell (p := ⟨gu, q * 7 + 2, none⟩) gult).trans u2, (hbz.cell (p := ⟨gu, q * 7 + 3, none⟩) gult).trans u3, (hbz.cell (p := ⟨gu, q * 7 + 4, none⟩) gult).trans u4, (hbz.cell (p := ⟨gu, q * 7 + 5, none⟩) gult).trans u5, (hbz.cell (p := ⟨gu, q * 7 + 6, none⟩) gult).trans u6⟩)
          go_upto_region 31 with fail
          go_cut [20, 21, 22] (fun s20 s21 s22 wx => ∃ b20 b21 b22 x2, s20 = .pointer (some ⟨b20, 0, none⟩) ∧ s21 = .pointer (some ⟨b21, 0, none⟩) ∧ s22 = .pointer (some ⟨b22, 0, none⟩) ∧ Below wr.heap.size wr wx ∧ InvS o2 x2 ∧ wr.heap.size ≤ b20 ∧ wr.heap.size ≤ b21 ∧ wr.heap.size ≤ b22 ∧ Row wx b20 31 [.int .u64 (n : Int), .int .u64 d2, .int .u64 g2] ∧ Row wx b21 40 [.int .u8 kk, .int .i64 x2.at_, .int .u64 x2.fi, .int .u64 x2.la, .bool x2.en, .int .u64 x2.su, .int .i64 x2.wy] ∧ Row wx b22 45 [.int .u8 d0, .int .i64 d1, .int .u64 d2_, .int .u64 d3, .bool d4])
          case first =>
            refine r31 (pl := (n : Int)) (dd := d) (gg := g) (dd2 := d2) (gg2 := g2) (d2 := d2_) _ _ _ _ _ _ _ _ _ _ _ _ _ _ _ _ _ _ _ _ _ _ _ _ _ _ _ _ _ _ _ _ _ _ _ _ _ _ _ _ _ _ _ _ _ _ _ _ _ _ _ _ _ _ _ _ _ _ _ _ _ _ _ _ _ _ _ _ _ _ _ _ _ _ _ _ _ _ _ _ _ _ _ _ _ _ _ _ _ _ _ _ _ _ _ _ _ _ _ _ _ _ _ _ _ _ _ _ _ _ _ _ _ _ _ _ _ _ _ _ _ _ _ _ _ _ _ _ _ _ _ _ _ _ _ _ _ _ _ _ _ _ _ _ _ _ _ _ _ _ _ _ _ _ _ _ _ _ _ _ _ _ _ _ _ _ _ _ _ _ _ _ _ _ _ _ _ _ _ _ _ hqb hqb2 hq7 SK HSD (Lib.hid ?_)
            intro b20 b21 b22 x2 v118 v119 v120 v121 v122 v123 v124 v125 v126 v127 wx hbl hi2 l20 l21 l22 r20 r21 r22
            go_wp2_with fail
            go_meet
            exact ⟨_, _, _, x2, rfl, rfl, rfl, hbl, hi2, l20, l21, l22, r20, r21, r22⟩
          case rest =>
            obtain ⟨b20, b21, b22, x2, rfl, rfl, rfl, hbl, hi2, l20, l21, l22, r20, r21, r22⟩ := hcut
            have HC1 := Lib.hid (HC.out.on hbl)
            have HI2 := Lib.hid hi2
            have hlo := HC.out.crowd.low.size
            have HX20 : Hid (BoxY W b20 31 [.int .u64 (n : Int), .int .u64 d2, .int .u64 g2] wc) := Lib.hid ⟨r20, by omega⟩
            have HX21 : Hid (BoxY W b21 40 [.int .u8 kk, .int .i64 x2.at_, .int .u64 x2.fi, .int .u64 x2.la, .bool x2.en, .int .u64 x2.su, .int .i64 x2.wy] wc) := Lib.hid ⟨r21, by omega⟩
            have HX22 : Hid (BoxY W b22 45 [.int .u8 d0, .int .i64 d1, .int .u64 d2_, .int .u64 d3, .bool d4] wc) := Lib.hid ⟨r22, by omega⟩
            obtain ⟨a0, a1, a2⟩ := r20.three3
            obtain ⟨v0, v1, v2, v3, v4, v5, v6⟩ := r21.seven
            obtain ⟨kc0, kc1, kc2⟩ := HC1.out.box.three3
            obtain ⟨m0, m1, m2, m3, m4, m5, m6⟩ := unS_cells HC1.out.un HXx.out
            have kcf := HC1.out.box.free
            have kclt := HC1.out.box.lt
            have mf := HC1.out.un.frozenAt
            have gult2 := own_block HC1.out.un gu rfl
            have kbo := HC.out.box.lt
            have n1 : ¬ bx = b20 := by omega
            have n2 : ¬ b20 = bx := by omega
            have n3 : ¬ bx = b21 := by omega
            have n4 : ¬ b21 = bx := by omega
            have n5 : ¬ gu = b21 := by omega
            have n6 : ¬ b21 = gu := by omega
            have n7 : ¬ gu = bx := own_off HC1.out.un HC1.out.box (by decide) gu rfl
            have n8 : ¬ bx = gu := fun e => n7 e.symm
            have n9 : b22 ≠ bx := by omega
            have n10 : b22 ≠ gu := by omega
            clear hbl hi2 r20 r21 r22 u0 u1 u2 u3 u4 u5 u6 kb0 kb1 kb2
            have HB1 : Hid (AllSm W bsem bk bw bx (n : Int) d g d2 g2 (ps.map Prod.fst) ps bs (.slice (some ⟨gp, 0, none⟩) bs.length pc) (.slice (some ⟨gu, 0, none⟩) bs.length uc) (semSet wc bx (.int .u64 (n : Int)) (.int .u64 d2) (.int .u64 g2))) := Lib.hid (HC1.out.book d2 g2)
            have HA2 : Hid (AllSm W bsem bk bw bx (n : Int) d g d2 g2 (ps.map Prod.fst) (ps.set q (o2, x2)) bs (.slice (some ⟨gp, 0, none⟩) bs.length pc) (.slice (some ⟨gu, 0, none⟩) bs.length uc) (undSetS (semSet wc bx (.int .u64 (n : Int)) (.int .u64 d2) (.int .u64 g2)) gu (q * 7) (newS kk, x2))) := Lib.hid (HB1.out.recordK HXx.out HI2.out HOK2.out HK2.out)
            have hPR := semSet_part wc bx (.int .u64 (n : Int)) (.int .u64 d2) (.int .u64 g2)
            have hPU := undSetS_part (semSet wc bx (.int .u64 (n : Int)) (.int .u64 d2) (.int .u64 g2)) gu (q * 7) (newS kk, x2)
            have HC21 := Lib.hid ((HX21.out.part hPR (by simpa using n4)).part hPU (by simpa using n6))
            have HC22 := Lib.hid ((HX22.out.part hPR (by simpa using n9)).part hPU (by simpa using n10))
            have pcU := HC1.out.place HBb.out
            have gplt2 := own_block HC1.out.crowd.ps gp rfl
            have n11 : ¬ gp = bx := own_off HC1.out.crowd.ps HC1.out.box (by decide) gp rfl
            have n12 : ¬ bx = gp := fun e => n11 e.symm
            have gne : ¬ gp = gu := by
              rcases own_apart HC1.out.crowd.ps HC1.out.un (by decide) with e | e
              · cases e
              · exact fun h => e (by rw [h]; rfl)
            have n13 : ¬ gu = gp := fun e => gne e.symm
            clear hPU hPR
            go_upto_region 34 with fail
            go_cut [23, 24] (fun s23 s24 wx => ∃ b23, s23 = .pointer (some ⟨b23, 0, none⟩) ∧ s24 = .bool la ∧ BoxY W b21 40 [.int .u8 kk, .int .i64 x2.at_, .int .u64 x2.fi, .int .u64 x2.la, .bool x2.en, .int .u64 x2.su, .int .i64 x2.wy] wx ∧ BoxY W b22 45 [.int .u8 d0, .int .i64 d1, .int .u64 d2_, .int .u64 d3, .bool d4] wx ∧ BoxY W b23 45 [.int .u8 d0, .int .i64 d1, .int .u64 d2_, .int .u64 d3, .bool d4] wx ∧ AllSm W bsem bk bw bx (n : Int) d2 g2 d2 g2 ((ps.set q (o2, x2)).map Prod.fst) (ps.set q (o2, x2)) bs (.slice (some ⟨gp, 0, none⟩) bs.length pc) (.slice (some ⟨gu, 0, none⟩) bs.length uc) wx)
            case first =>
              have hst : Calls Try.prog 12 #[.pointer (some ⟨b, 0, none⟩)] (undSetS (semSet wc bx (.int .u64 (n : Int)) (.int .u64 d2) (.int .u64 g2)) gu (q * 7) (newS kk, x2)) fun e w5 => e = .returned (.tuple #[.agg #[.int .u8 d0, .int .i64 d1, .int .u64 d2_, .int .u64 d3, .bool d4], .bool la]) ∧ AllSm W bsem bk bw bx (n : Int) d2 g2 d2 g2 ((ps.set q (o2, x2)).map Prod.fst) (ps.set q (o2, x2)) bs (.slice (some ⟨gp, 0, none⟩) bs.length pc) (.slice (some ⟨gu, 0, none⟩) bs.length uc) w5 ∧ BoxY W b21 40 [.int .u8 kk, .int .i64 x2.at_, .int .u64 x2.fi, .int .u64 x2.la, .bool x2.en, .int .u64 x2.su, .int .i64 x2.wy] w5 ∧ BoxY W b22 45 [.int .u8 d0, .int .i64 d1, .int .u64 d2_, .int .u64 d3, .bool d4] w5 := by
                obtain ⟨nx, a, y, hr, hn⟩ := HA2.out.crowd.pends.row q x.1 b (by rw [List.getElem?_map, HXx.out]; rfl) HBb.out
                refine (sstep_at hr hn HA2.out.crowd.sem HO2.out HD2.out HG2.out HDI.out HLA.out).mono ?_
                intro e w5 hs
                have hc := HA2.out.step HBb.out hs
                have hbw := HA2.out.crowd.sem.words.row
                obtain ⟨he, _, _, _, _, _, _, hP⟩ := hs
                refine ⟨he, by rw [List.map_set]; exact hc, HC21.out.part hP ?_, HC22.out.part hP ?_⟩
                · simp; exact ⟨HC21.out.row.ne hr (by decide), HC21.out.row.ne hbw (by decide)⟩
                · simp; exact ⟨HC22.out.row.ne hr (by decide), HC22.out.row.ne hbw (by decide)⟩
              dsimp only [undSetS, semSet, newS] at hst
              have HST := Lib.hid hst
              clear hst
              go_wp2_with (go_at_call 12; refine HST.out.mono ?_; rintro e w5 ⟨rfl, hc, hx1, hx2⟩; have HC5 := Lib.hid hc; have HE21 := Lib.hid hx1; have HE22 := Lib.hid hx2; clear hc hx1 hx2)
              go_meet
              have hb5 : ∀ o : Obj, Below w5.heap.size w5 (w5.alloc o) := fun o => (Below.refl _ _).alloc (Nat.le_refl _) o
              exact ⟨_, rfl, rfl, HE21.out.on (hb5 _), HE22.out.on (hb5 _), BoxY.new HC5.out.crowd.low.size [.int .u8 d0, .int .i64 d1, .int .u64 d2_, .int .u64 d3, .bool d4], HC5.out.on (hb5 _)⟩
            case rest =>
              obtain ⟨b23, rfl, rfl, hB21, hB22, hB23, hC⟩ := hcut
              have HX21 := Lib.hid hB21
              have HX22 := Lib.hid hB22
              have HX23 := Lib.hid hB23
              have HXC := Lib.hid hC
              have HEN : Hid (x2.en = la) := Lib.hid (by rw [HI2.out.ended]; exact HLA.out)
              have HO2q : Hid (((ps.set q (o2, x2)).map Prod.fst)[q]? = some o2) := Lib.hid (by rw [List.getElem?_map, List.getElem?_set_self (lt_of_get HXx.out)]; rfl)
              have pcX := hC.place HBb.out
              have gpX := own_block hC.crowd.ps gp rfl
              obtain ⟨v0, v1, v2, v3, v4, v5, v6⟩ := hB21.row.seven
              have hRA : ∀ w0 : World, Calls Try.prog 14 #[.agg #[.int .u8 kk, .int .i64 x2.at_, .int .u64 x2.fi, .int .u64 x2.la, .bool x2.en, .int .u64 x2.su, .int .i64 x2.wy]] w0 fun e w' => e = .returned (.tuple #[.int .u64 an, .int .i64 wy]) ∧ Below w0.heap.size w0 w' := fun w0 => by
                have h := ranswer_op HI2.out w0
                unfold undS at h
                rw [HK2.out, HAN.out, HWY.out] at h
                exact h
              have HRA := Lib.hid hRA
              have hSA : ∀ w0 : World, AllSm W bsem bk bw bx (n : Int) d2 g2 d2 g2 ((ps.set q (o2, x2)).map Prod.fst) (ps.set q (o2, x2)) bs (.slice (some ⟨gp, 0, none⟩) bs.length pc) (.slice (some ⟨gu, 0, none⟩) bs.length uc) w0 → Calls Try.prog 13 #[.pointer (some ⟨b, 0, none⟩)] w0 fun e w' => e = .returned (.tuple #[.int .u64 an, .int .i64 wy]) ∧ ∃ n, w' = w0.drewN n := fun w0 h0 => by
                obtain ⟨nx, a, y, hr, hn⟩ := h0.crowd.pends.row q o2 b HO2q.out HBb.out
                have h := sanswer_op hr hn
                rw [HAN.out, HWY.out] at h
                exact h
              have HSA := Lib.hid hSA
              have hDN : ∀ w0 : World, AllSm W bsem bk bw bx (n : Int) d2 g2 d2 g2 ((ps.set q (o2, x2)).map Prod.fst) (ps.set q (o2, x2)) bs (.slice (some ⟨gp, 0, none⟩) bs.length pc) (.slice (some ⟨gu, 0, none⟩) bs.length uc) w0 → Calls Try.prog 15 #[.pointer (some ⟨b, 0, none⟩)] w0 fun e w' => e = .returned (.bool la) ∧ w0 = w' := fun w0 h0 => by
                obtain ⟨nx, a, y, hr, hn⟩ := h0.crowd.pends.row q o2 b HO2q.out HBb.out
                have h := sdone_op hr hn
                rw [HLA.out] at h
                exact h
              have HDN := Lib.hid hDN
              clear hRA hSA hDN hB21 hB22 hB23 hC a0 a1 a2 kc0 kc1 kc2 m0 m1 m2 m3 m4 m5 m6 kcf kclt mf gult2 pcU gplt2 kbo
              go_upto_region 37 with (first
                | (go_at_call 13; refine (HSA.out _ HXC.out).mono ?_; rintro e w7 ⟨rfl, mm, rfl⟩)
                | (go_at_call 14; refine (HRA.out _).mono ?_; rintro e w8 ⟨rfl, hb8⟩; have hbm := Below.draws (Below.refl wc.heap.size wc) mm; have HC8 := Lib.hid ((HXC.out.on hbm).on hb8); have h21 := (HX21.out.on hbm).on hb8; have h22 := (HX22.out.on hbm).on hb8; have h23 := (HX23.out.on hbm).on hb8; have e4 := h21.row.cell 4; have l21' := h21.row.lt; obtain ⟨f0, f1, f2, f3, f4⟩ := h22.row.five6; obtain ⟨t0, t1, t2, t3, t4⟩ := h23.row.five6; have l22' := h22.row.lt; have l23' := h23.row.lt; have pc8 := HC8.out.place HBb.out; have gp8 := own_block HC8.out.crowd.ps gp rfl; have hen := HEN.out; clear hb8 h21 h22 h23 hbm))
              go_quiet ((go_at_call 15; exact Calls.quiet_of_same ((HDN.out _ (HC8.out.on (Below.draws (Below.refl _ _) _))).mono fun _ _ ⟨a, b⟩ => ⟨a, b.symm⟩)))
              go_wp2
              go_roundw
              case rel => exact ⟨j + 1, by omega, by go_num, d2, g2, _, HC8.out.on (Below.draws (Below.refl _ _) _)⟩
              case measure => simp [intOf]; omega
        · obtain rfl : j = xs.length := by omega
          go_wp2
          go_ret
          exact ⟨rfl, HC.out.crowd.low⟩
end Go.Proofs.Ytamigipljgijlaa
