/- THE WALK of the law 'TokensSteps'. -/
import Derived.Test.YtcocegneegjcpaaVg
import Derived.Deep.RegionHeld3
namespace Go.Proofs.Ytcocegneegjcpaa
open Go Go.RowKit

theorem rright_at {k t n : Int} {r : Bool} (h : trightB k t n = r) (w : World) :
    Calls Try.prog 42 #[.agg #[.int .u8 k, .int .i64 t, .int .i64 n]] w fun e w' => e = .returned (.bool r) ∧ Below w.heap.size w w' := by
  subst h
  exact rright_any k t n w
theorem rfits_at {ev bu : Int} {r : Bool} (h : fitsB ev bu = r) (w : World) : Calls Try.prog 39 #[.int .i64 ev, .int .i64 bu] w fun e w' => e = .returned (.bool r) ∧ w = w' := by
  subst h
  exact rfits_any ev bu w
def did_setT (w : World) (b : Nat) (d0 d1 d2 d3 : Int) (d4 : Bool) : World := ((((w.setCell ⟨b, 0, none⟩ (.int .u8 d0)).setCell ⟨b, 1, none⟩ (.int .i64 d1)).setCell ⟨b, 2, none⟩ (.int .u64 d2)).setCell ⟨b, 3, none⟩ (.int .u64 d3)).setCell ⟨b, 4, none⟩ (.bool d4)
theorem did_partT (w : World) (b : Nat) (d0 d1 d2 d3 : Int) (d4 : Bool) : Part [b] w (did_setT w b d0 d1 d2 d3 d4) :=
  (((((Part.refl [b] w).set (by simp) _).set (by simp) _).set (by simp) _).set (by simp) _).set (by simp) _
theorem did_rowT {w : World} {b : Nat} {x0 x1 x2 x3 x4 : Value} {d0 d1 d2 d3 : Int} {d4 : Bool} (h : Row w b 45 [x0, x1, x2, x3, x4]) : Row (did_setT w b d0 d1 d2 d3 d4) b 45 [.int .u8 d0, .int .i64 d1, .int .u64 d2, .int .u64 d3, .bool d4] :=
  ((((h.set 0 _).set 1 _).set 2 _).set 3 _).set 4 _
theorem undSet_is {w : World} {g i : Nat} {o : OpT} {s : Int} {l1 l2 : Bool} (h1 : decide (o.ph = 1) = l1) (h2 : decide (o.ph = 2) = l2) : undSet w g i o s = (((((((((w.setCell ⟨g, i, none⟩ (.int .u8 o.k)).setCell ⟨g, i + 1, none⟩ (.int .i64 o.t)).setCell ⟨g, i + 2, none⟩ (.int .i64 o.n)).setCell ⟨g, i + 3, none⟩ (.bool l1)).setCell ⟨g, i + 4, none⟩ (.int .i64 s)).setCell ⟨g, i + 5, none⟩ (.bool l2)).setCell ⟨g, i + 6, none⟩ (.bool o.ok)).setCell ⟨g, i + 7, none⟩ (.int .i64 o.wait)).setCell ⟨g, i + 8, none⟩ (.int .i64 o.left)) := by
  subst h1
  subst h2
  rfl
theorem rstep_at2 {w : World} {ev bu T s T' : Int} {o o' : OpT} {did : Value} {f1 f2 l1 last : Bool} (hf : fitsB ev bu = true) (T0 : 0 ≤ T) (T1 : T ≤ 3458764513820540928) (ho : OkT ev bu o) (hs : SawT o s) (hph : o.ph < 2) (g1 : decide (o.ph = 1) = f1) (g2 : decide (o.ph = 2) = f2) (hT : stepW T o = T') (ho' : stepO ev bu T o = o') (hd : didO T o = did) (h1 : decide (o'.ph = 1) = l1) (hl : decide (o'.ph = 2) = last) :
    Calls Try.prog 44 #[.int .i64 ev, .int .i64 bu, .int .i64 T, .agg #[.int .u8 o.k, .int .i64 o.t, .int .i64 o.n, .bool f1, .int .i64 s, .bool f2, .bool o.ok, .int .i64 o.wait, .int .i64 o.left]] w fun e w' =>
      ∃ s', e = .returned (.tuple #[.int .i64 T', .agg #[.int .u8 o'.k, .int .i64 o'.t, .int .i64 o'.n, .bool l1, .int .i64 s', .bool last, .bool o'.ok, .int .i64 o'.wait, .int .i64 o'.left], did]) ∧ SawT o' s' ∧ Below w.heap.size w w' := by
  subst g1
  subst g2
  exact rstep_at hf T0 T1 ho hs hph hT ho' hd h1 hl
theorem nine_cells (k t n : Int) : ∀ u ∈ ([.int .u8 k, .int .i64 t, .int .i64 n, .bool false, .int .i64 0, .bool false, .bool false, .int .i64 0, .int .i64 0] : List Value), u.oneCell' = true := und_nine (newO k t n) 0
set_option maxRecDepth 100000
theorem tsteps_no {ev bu : Int} (h : fitsB ev bu = false) {A B : Option Addr} {len cap len' cap' : Nat} (W : World) :
    Calls Try.prog 6 #[.int .i64 ev, .int .i64 bu, .slice A len cap, .slice B len' cap'] W fun e w' => e = .returned (.bool true) ∧ Below W.heap.size W w' := by
  have H := Lib.hid h
  clear h
  go_enter Try.func6, Try.ntmps6
  go_wp2_with (first
    | (go_at_call 40; refine (tbegins_any _).mono ?_; rintro e w0 ⟨rfl, hb⟩; have HB0 := Lib.hid hb; clear hb)
    | (go_at_call 39; refine (rfits_at H.out _).mono ?_; rintro e wx ⟨rfl, rfl⟩)
    | (go_at_call 38; refine (tnew_no H.out).mono ?_; rintro e wx ⟨rfl, rfl⟩))
  go_ret
  exact ⟨rfl, HB0.out⟩

set_option maxHeartbeats 51200000 in
theorem tsteps_yes {ev bu : Int} (h : fitsB ev bu = true) {A B : Option Addr} {cap cap' : Nat} {ops : List (Int × Int × Int)} {xs : List Int} (W : World) (hE : Ext3 .u8 .i64 .i64 W A ops) (hr : ops.length ≤ 1048576) (hX : Ext .i64 W B xs) (hr' : xs.length ≤ 1048576) :
    Calls Try.prog 6 #[.int .i64 ev, .int .i64 bu, .slice A ops.length cap, .slice B xs.length cap'] W fun e w' => e = .returned (.bool true) ∧ Below W.heap.size W w' := by
  obtain ⟨ip, hip, hp0, hp1, hp2⟩ := info_parts infoP
  obtain ⟨iu, hiu, hu0, hu1, hu2⟩ := info_parts infoU
  have HE := Lib.hid hE
  have HX := Lib.hid hX
  have HF := Lib.hid h
  obtain ⟨fa, fb, fc, fd⟩ := fits_bounds h
  clear hE h hX
  go_enter Try.func6, Try.ntmps6
  go_wp2_with (first
    | (go_at_call 39; refine (rfits_at HF.out _).mono ?_; rintro e wx ⟨rfl, rfl⟩)
    | (go_at_call 38; refine (tnew_yes _ HF.out).mono ?_; rintro e w1 ⟨bt, bk, bw, rfl, hc, hk, hw, hS, hb⟩; have HO1 := Lib.hid (OneT.start (Below.refl _ _) hS hw hb); clear hc hk hw hS hb))
  go_loopw [12, 13, 14] (fun vu vp u wr => ∃ j : Nat, j ≤ ops.length ∧ u = .int .i64 j ∧ ∃ bs, BothT W bt bk bw ev bu 0 (pickU (ops.take j)) bs vp vu wr) (fun _ _ u _ => ops.length - (intOf u).toNat)
  case atStart => exact ⟨0, Nat.zero_le _, rfl, [], BothT.nil HO1.out⟩
  case round =>
    obtain ⟨j, hj, rfl, bs, hM⟩ := hrel
    have HK := Lib.hid hM
    clear hM HO1
    by_cases hlt : j < ops.length
    · obtain ⟨⟨k, t, n⟩, hop⟩ : ∃ op, ops[j]? = some op := ⟨ops[j], List.getElem?_eq_getElem hlt⟩
      obtain ⟨b', o, rfl, hbW, e0, e1, e2⟩ := HE.out j _ hop
      dsimp only at e0 e1 e2
      have hb' : b' < wr.heap.size := Nat.lt_of_lt_of_le hbW HK.out.many.low.size
      have q0 := (HK.out.many.low.cell (p := ⟨b', o + j * 3, none⟩) hbW).trans e0
      have q1 := (HK.out.many.low.cell (p := ⟨b', o + j * 3 + 1, none⟩) hbW).trans e1
      have q2 := (HK.out.many.low.cell (p := ⟨b', o + j * 3 + 2, none⟩) hbW).trans e2
      have E0 := Lib.hid e0
      have E1 := Lib.hid e1
      have E2 := Lib.hid e2
      have HBW := Lib.hid hbW
      have hlt2 : (j : Int) < (ops.length : Int) := by omega
      have HT := Lib.hid (pickU_take ops hop)
      have HPL := Lib.hid (pickU_length (ops.take j))
      clear hop hbW e0 e1 e2
      cases hR : trightB k t n with
      | false =>
        have HR := Lib.hid hR
        clear hR
        go_wp2_with (first
          | (go_at_call 41; refine (tstart_no HR.out).mono ?_; rintro e w4 ⟨rfl, hb4⟩; have HK4 := Lib.hid (HK.out.on hb4); have z0 := (HK4.out.many.low.cell (p := ⟨b', o + j * 3, none⟩) HBW.out).trans E0.out; have z1 := (HK4.out.many.low.cell (p := ⟨b', o + j * 3 + 1, none⟩) HBW.out).trans E1.out; have z2 := (HK4.out.many.low.cell (p := ⟨b', o + j * 3 + 2, none⟩) HBW.out).trans E2.out; clear hb4)
          | (go_at_call 42; refine (rright_at HR.out _).mono ?_; rintro e w5 ⟨rfl, hb5⟩; have HK5 := Lib.hid (HK4.out.on hb5); clear hb5))
        go_roundw
        case rel => exact ⟨j + 1, by omega, by go_num, bs, by rw [HT.out]; simp only [HR.out]; rw [if_neg (by simp), List.append_nil]; exact HK5.out⟩
        case measure => simp [intOf]; omega
      | true =>
        have HR := Lib.hid hR
        have HRT := Lib.hid (rightT_iff.1 hR)
        clear hR
        have HLL : Hid (bs.length + 1 ≤ ops.length) := Lib.hid (by have h1 := HK.out.many.pends.len; have h2 := HPL.out; rw [List.length_map] at h1; rw [List.length_take] at h2; omega)
        have H3 : Hid (bs.length + 1 ≤ maxLen) := Lib.hid (by have := HLL.out; unfold maxLen; omega)
        have H4 : Hid ((bs.length + 1) * 8 ≤ 140737488355328) := Lib.hid (by have := HLL.out; omega)
        have H6 : Hid ((bs.length + 1) * 72 ≤ 140737488355328) := Lib.hid (by have := HLL.out; omega)
        go_wp2_with (first
          | (go_at_call 41; refine (tstart_op HRT.out).mono ?_; rintro e w4 ⟨bp, rfl, hn4, hr4, hb4⟩; have HB4 := Lib.hid hb4; have HN4 := Lib.hid hn4; have HR4 := Lib.hid hr4; have HK4 := Lib.hid (HK.out.on hb4); have z0 := (HK4.out.many.low.cell (p := ⟨b', o + j * 3, none⟩) HBW.out).trans E0.out; have z1 := (HK4.out.many.low.cell (p := ⟨b', o + j * 3 + 1, none⟩) HBW.out).trans E1.out; have z2 := (HK4.out.many.low.cell (p := ⟨b', o + j * 3 + 2, none⟩) HBW.out).trans E2.out; clear hb4 hn4 hr4)
          | (go_at_call 42; refine (rright_at HR.out _).mono ?_; rintro e w5 ⟨rfl, hb5⟩; have HB5 := Lib.hid (HB4.out.trans (hb5.mono HB4.out.size)); have HR5 := Lib.hid (HR4.out.below hb5 HR4.out.lt); have HK5 := Lib.hid (HK4.out.on hb5); have y0 := (HK5.out.many.low.cell (p := ⟨b', o + j * 3, none⟩) HBW.out).trans E0.out; have y1 := (HK5.out.many.low.cell (p := ⟨b', o + j * 3 + 1, none⟩) HBW.out).trans E1.out; have y2 := (HK5.out.many.low.cell (p := ⟨b', o + j * 3 + 2, none⟩) HBW.out).trans E2.out; have H5 : Hid (W.heap.size ≤ (w5.alloc (.cells #[.int .u8 k, .int .i64 t, .int .i64 n, .bool false, .int .i64 0, .bool false, .bool false, .int .i64 0, .int .i64 0] 102)).heap.size) := Lib.hid (by have := HK5.out.many.low.size; simp; omega); clear hb5)
          | (at_builtin; refine wpList_append_own _ rfl _ _ 90 rfl W.heap.size 102 iu (.agg #[.int .u8 0, .int .i64 0, .int .i64 0, .bool false, .int .i64 0, .bool false, .bool false, .int .i64 0, .int .i64 0]) 9 72 Try.underlying90 hiu hu0 hu1 hu2 rfl (by decide) _ _ _ rfl (HK5.out.und.alloc _) ⟨w5.heap.size, 0, none⟩ 1 1 [.int .u8 k, .int .i64 t, .int .i64 n, .bool false, .int .i64 0, .bool false, .bool false, .int .i64 0, .int .i64 0] rfl rfl (new_cells _ _ _) (nine_cells _ _ _) H3.out H6.out H5.out ?_; intro vu' w6 hown6 hgr6 _; have HO6 := Lib.hid hown6; have HG6 := Lib.hid hgr6; have hlow6 := (HK5.out.many.low.alloc HK5.out.many.low.size _).grown hgr6 H5.out (own_from HK5.out.und); have PS6 := Lib.hid (((HK5.out.many.ps.alloc _).kept hgr6 (own_apart HK5.out.many.ps HK5.out.und (by decide)))); have H7 : Hid (W.heap.size ≤ (w6.alloc (.cells #[.pointer (some ⟨bp, 0, none⟩)] 92)).heap.size) := Lib.hid (by have := hlow6.size; simp; omega); clear hown6 hgr6 hlow6)
          | (at_builtin; refine wpList_append_own _ rfl _ _ 91 rfl W.heap.size 92 ip (.pointer none) 1 8 Try.underlying91 hip hp0 hp1 hp2 rfl (by decide) _ _ _ rfl (PS6.out.alloc _) ⟨w6.heap.size, 0, none⟩ 1 1 [.pointer (some ⟨bp, 0, none⟩)] rfl rfl (new_cells _ _ _) (one_ptr _) H3.out H4.out H7.out ?_; intro vp' w7 hown7 hgr7 _; have HO7 := Lib.hid hown7; have HG7 := Lib.hid hgr7; clear hown7 hgr7))
        go_roundw
        case rel => exact ⟨j + 1, by omega, by go_num, bs ++ [bp], by rw [HT.out]; simp only [HR.out, if_true]; exact HK.out.grow HB5.out HR5.out HN4.out HRT.out HO6.out HG6.out HO7.out HG7.out⟩
        case measure => simp [intOf]; omega
    · obtain rfl : j = ops.length := by omega
      have HLL : Hid (bs.length ≤ ops.length) := Lib.hid (by have h1 := HK.out.many.pends.len; have h2 := pickU_length (ops.take ops.length); rw [List.length_map] at h1; rw [List.length_take] at h2; omega)
      have hnl : bs.length ≤ 1048576 := by have := HLL.out; omega
      obtain ⟨pa, pc, rfl⟩ := own_form HK.out.many.ps
      obtain ⟨ua, uc, rfl⟩ := own_form HK.out.und
      go_wp2
      go_loopw [18, 19] (fun tv u wr => ∃ j : Nat, j ≤ xs.length ∧ u = .int .i64 j ∧ ∃ T us, tv = .int .i64 T ∧ BothT W bt bk bw ev bu T us bs (.slice pa bs.length pc) (.slice ua bs.length uc) wr) (fun _ u _ => xs.length - (intOf u).toNat)
      case atStart => exact ⟨0, Nat.zero_le _, rfl, 0, _, rfl, HK.out⟩
      case round =>
        obtain ⟨j, hj, rfl, T, us, rfl, hA⟩ := hrel
        have HA := Lib.hid hA
        have T0 := hA.many.one.buck.lo
        have T1 := hA.many.one.buck.hi
        clear hA HK
        by_cases hlt : j < xs.length
        · obtain ⟨k, hk⟩ : ∃ k, xs[j]? = some k := ⟨xs[j], List.getElem?_eq_getElem hlt⟩
          obtain ⟨b', o', rfl, hlt', q0⟩ := (HX.out.on HA.out.many.low) j _ hk
          have hlt2 : (j : Int) < (xs.length : Int) := by omega
          clear hk
          by_cases hk0 : k < 0
          · go_wp2
            go_roundw
            case rel => exact ⟨j + 1, by omega, by go_num, T, _, rfl, HA.out⟩
            case measure => simp [intOf]; omega
          by_cases hkn : (bs.length : Int) ≤ k
          · go_wp2
            go_roundw
            case rel => exact ⟨j + 1, by omega, by go_num, T, _, rfl, HA.out⟩
            case measure => simp [intOf]; omega
          obtain ⟨q, rfl⟩ := Int.eq_ofNat_of_zero_le (show 0 ≤ k by omega)
          have hqn : q < bs.length := by omega
          obtain ⟨o, s, b, g, c, gu, cu, hq, hb, hv, hv2, hc, hR, hok, hsaw⟩ := HA.out.get hqn
          cases hv
          cases hv2
          have hq2 : (q : Int) < (bs.length : Int) := by omega
          have hgl : g < wr.heap.size := World.block_lt_of_cell? _ _ hc
          have HQ := Lib.hid hq
          have HBb := Lib.hid hb
          have HRr := Lib.hid hR
          have HOK := Lib.hid hok
          have HS := Lib.hid hsaw
          have hph := hok.ph
          clear hq hb hR hok hsaw
          by_cases h2 : o.ph = 2
          · have HPH : Hid (o.ph = 2) := Lib.hid h2
            have HLT : Hid (decide (o.ph = 2) = true) := Lib.hid (by simp [h2])
            clear h2 hph
            go_wp2_with (go_at_call 43; refine (tover_at HRr.out HPH.out).mono ?_; rintro e w2 ⟨rfl, hb2⟩; have HA2 := Lib.hid (HA.out.on hb2); have HR2 := Lib.hid (HRr.out.below hb2 HRr.out.lt); obtain ⟨_, _, _, _, _, c5, _, _, _⟩ := und_cells HA2.out.und HQ.out; rw [HLT.out] at c5; have hgul : gu < w2.heap.size := World.block_lt_of_cell? _ _ c5; clear hb2)
            generalize hz : (w2.alloc (.cells #[.int .u8 0, .int .i64 0, .int .u64 0, .int .u64 0, .bool false] 45)).alloc (.cells #[.int .u8 0, .int .i64 0, .int .u64 0, .int .u64 0, .bool false] 45) = wz
            obtain ⟨b1, hb1⟩ : ∃ b1, w2.heap.size = b1 := ⟨_, rfl⟩
            obtain ⟨b2, hb2⟩ : ∃ b2, w2.heap.size + 1 = b2 := ⟨_, rfl⟩
            have HBz : Hid (BothT W bt bk bw ev bu T us bs (.slice (some ⟨g, 0, none⟩) bs.length pc) (.slice (some ⟨gu, 0, none⟩) bs.length uc) wz) := Lib.hid (by rw [← hz]; exact (HA2.out.alloc _).alloc _)
            have HRz : Hid (Row wz b 140 (opTL bt o)) := Lib.hid (by rw [← hz]; exact (HR2.out.alloc _).alloc _)
            have HD1 : Hid (Row wz b1 45 [.int .u8 0, .int .i64 0, .int .u64 0, .int .u64 0, .bool false]) := Lib.hid (by rw [← hz, ← hb1]; exact (Row.new w2 _ _).alloc _)
            have HD2 : Hid (Row wz b2 45 [.int .u8 0, .int .i64 0, .int .u64 0, .int .u64 0, .bool false]) := Lib.hid (by rw [← hz, ← hb2]; exact Row.new2 w2 _ _ _ rfl)
            have HOKz := HOK
            rw [hb2, hb1]
            clear hz c5 hgul hb1 hb2 hc hgl
            have hTw : (T != IntKind.u64.wrap T) = false := by rw [IntKind.wrap_u64]; simp; omega
            obtain ⟨xv0, xv1, xv2, xv3, xv4⟩ := HD1.out.five
            obtain ⟨xg0, xg1, xg2, xg3, xg4⟩ := HD2.out.five
            obtain ⟨_, _, _, _, _, xc5, xc6, xc7, xc8⟩ := und_cells HBz.out.und HQ.out
            rw [HLT.out] at xc5
            have xpc := own_cell HBz.out.many.ps (ptrs_get HBb.out)
            have xlt1 := HD1.out.lt
            have xlt2 := HD2.out.lt
            have xlt3 : gu < _ := World.block_lt_of_cell? _ _ xc6
            have xlt4 : g < _ := World.block_lt_of_cell? _ _ xpc
            go_region_held3 (fun w' => w'.cell? ⟨b1, 0, none⟩ = some (.int .u8 0) ∧ w'.cell? ⟨b1, 1, none⟩ = some (.int .i64 0) ∧ w'.cell? ⟨b1, 2, none⟩ = some (.int .u64 0) ∧ w'.cell? ⟨b1, 3, none⟩ = some (.int .u64 0) ∧ w'.cell? ⟨b1, 4, none⟩ = some (.bool false) ∧ w'.cell? ⟨b2, 0, none⟩ = some (.int .u8 0) ∧ w'.cell? ⟨b2, 1, none⟩ = some (.int .i64 0) ∧ w'.cell? ⟨b2, 2, none⟩ = some (.int .u64 0) ∧ w'.cell? ⟨b2, 3, none⟩ = some (.int .u64 0) ∧ w'.cell? ⟨b2, 4, none⟩ = some (.bool false) ∧ w'.cell? ⟨gu, q * 9 + 5, none⟩ = some (.bool true) ∧ w'.cell? ⟨gu, q * 9 + 6, none⟩ = some (.bool o.ok) ∧ w'.cell? ⟨gu, q * 9 + 7, none⟩ = some (.int .i64 o.wait) ∧ w'.cell? ⟨gu, q * 9 + 8, none⟩ = some (.int .i64 o.left) ∧ w'.cell? ⟨g, q, none⟩ = some (.pointer (some ⟨b, 0, none⟩)))
              (first | (with_reducible exact ⟨yv0, yv1, yv2, yv3, yv4, yg0, yg1, yg2, yg3, yg4, yc5, yc6, yc7, yc8, ypc⟩) | (with_reducible exact ⟨xv0, xv1, xv2, xv3, xv4, xg0, xg1, xg2, xg3, xg4, xc5, xc6, xc7, xc8, xpc⟩) | go_keep)
              (first
              | (go_at_call 45; refine (tdone_at HRz.out.drew HOKz.out.ph HLT.out).mono ?_; rintro e wx ⟨rfl, rfl⟩)
              | (go_at_call 46; refine (tanswer_op HRz.out.drew).mono ?_; rintro e wA ⟨rfl, hbA⟩; have HBA := Lib.hid (HBz.out.drew.on hbA); have hdA := HD1.out.drew.below hbA HD1.out.lt; have hdB := HD2.out.drew.below hbA HD2.out.lt; obtain ⟨yv0, yv1, yv2, yv3, yv4⟩ := hdA.five; obtain ⟨yg0, yg1, yg2, yg3, yg4⟩ := hdB.five; obtain ⟨_, _, _, _, _, yc5, yc6, yc7, yc8⟩ := und_cells HBA.out.und HQ.out; rw [HLT.out] at yc5; have ypc := own_cell HBA.out.many.ps (ptrs_get HBb.out); have ylt1 := hdA.lt; have ylt2 := hdB.lt; have ylt3 : gu < _ := World.block_lt_of_cell? _ _ yc6; have ylt4 : g < _ := World.block_lt_of_cell? _ _ ypc; clear hbA hdA hdB)
              | (go_at_call 47; (with_reducible refine (tword_any HBA.out.many.one.buck).mono ?_); rintro e wx ⟨rfl, rfl⟩))
            all_goals
              go_wp2
              go_roundw
              case rel => exact ⟨j + 1, by omega, by go_num, T, _, rfl, by first | exact HBA.out | exact HBA.out.drew⟩
              case measure => simp [intOf]; omega
          · have HP2 : Hid (o.ph < 2) := Lib.hid (by omega)
            have HPH2 : Hid (decide (o.ph = 2) = false) := Lib.hid (by simp [h2])
            obtain ⟨d0, d1, d2, d3, d4, hdi⟩ := did_five T o
            obtain ⟨o', hos⟩ : ∃ o', stepO ev bu T o = o' := ⟨_, rfl⟩
            obtain ⟨T', htw⟩ : ∃ T', stepW T o = T' := ⟨_, rfl⟩
            obtain ⟨last, hl⟩ : ∃ last, decide (o'.ph = 2) = last := ⟨_, rfl⟩
            obtain ⟨l1, hl1⟩ : ∃ l1, decide (o'.ph = 1) = l1 := ⟨_, rfl⟩
            obtain ⟨f1, hf1⟩ : ∃ f1, decide (o.ph = 1) = f1 := ⟨_, rfl⟩
            have HF1 := Lib.hid hf1
            clear hf1
            have hw0 := stepW_lo (T := T) HOK.out HF.out T0 T1
            rw [htw] at hw0
            obtain ⟨W0, W1⟩ := hw0
            have HDI := Lib.hid hdi
            have HOS := Lib.hid hos
            have HTW := Lib.hid htw
            have HL := Lib.hid hl
            have HL1 := Lib.hid hl1
            have HOK2 : Hid (OkT ev bu o') := Lib.hid (by rw [← hos]; exact HOK.out.step)
            clear h2 hph hdi hos htw hl hl1
            go_wp2_with (first
              | (go_at_call 43; refine (tstep_is HA.out.many.one.buck HRr.out HOK.out HTW.out HOS.out HDI.out HL.out).mono ?_; intro e w2 hs; have hcp := hs; obtain ⟨he, _, hR2, hP2⟩ := hs; subst he; have hszw := hP2.size; clear hP2; have HZ := Lib.hid (fun s' => HA.out.stepped (s' := s') HQ.out HBb.out hcp HOK2.out); have HR2 := Lib.hid hR2; obtain ⟨c0, c1, c2, c3, c4, c5, c6, c7, c8⟩ := und_cells (HZ.out 0).2 HQ.out; rw [HPH2.out] at c5; rw [HF1.out] at c3; have hgul : gu < w2.heap.size := World.block_lt_of_cell? _ _ c0; clear hcp hR2)
              | (go_at_call 44; refine (rstep_at2 HF.out T0 T1 HOK.out HS.out HP2.out HF1.out HPH2.out HTW.out HOS.out HDI.out HL1.out HL.out).mono ?_; rintro e w3 ⟨s', rfl, hs', hb3⟩; have HS2 := Lib.hid hs'; have HM3 := Lib.hid ((((HZ.out s').1.alloc _).alloc _).on hb3); have hu3 := own_part (((HZ.out s').2.alloc _).alloc _) (Part.of_below hb3 (Nat.le_refl _) []) (by simp); have HU3 := Lib.hid hu3; have HR3 := Lib.hid (((HR2.out.alloc _).alloc _).below hb3 (by have := HR2.out.lt; simp; omega)); have hd1 : Row w3 w2.heap.size 45 [.int .u8 d0, .int .i64 d1, .int .u64 d2, .int .u64 d3, .bool d4] := ((Row.new w2 _ _).alloc _).below hb3 (by simp; omega); have hd2 : Row w3 (w2.heap.size + 1) 45 [.int .u8 0, .int .i64 0, .int .u64 0, .int .u64 0, .bool false] := (Row.new2 w2 _ _ _ rfl).below hb3 (by simp); have HD1 := Lib.hid hd1; have HD2 := Lib.hid hd2; obtain ⟨k0, k1, k2, k3, k4, k5, k6, k7, k8⟩ := und_cells hu3 HQ.out; have kf := hu3.frozenAt; have klt : gu < w3.heap.size := World.block_lt_of_cell? _ _ k0; have hgu1 : gu ≠ w2.heap.size + 1 := (by omega); have hgu2 : w2.heap.size + 1 ≠ gu := (by omega); obtain ⟨m0, m1, m2, m3, m4⟩ := hd2.five; have mf := hd2.free; have mlt := hd2.lt; clear hu3 hd1 hd2 hb3 hs'))
            generalize hz : ((((((((((((((w3.setCell ⟨gu, q * 9, none⟩ (.int .u8 o'.k)).setCell ⟨gu, q * 9 + 1, none⟩ (.int .i64 o'.t)).setCell ⟨gu, q * 9 + 2, none⟩ (.int .i64 o'.n)).setCell ⟨gu, q * 9 + 3, none⟩ (.bool l1)).setCell ⟨gu, q * 9 + 4, none⟩ (.int .i64 s')).setCell ⟨gu, q * 9 + 5, none⟩ (.bool last)).setCell ⟨gu, q * 9 + 6, none⟩ (.bool o'.ok)).setCell ⟨gu, q * 9 + 7, none⟩ (.int .i64 o'.wait)).setCell ⟨gu, q * 9 + 8, none⟩ (.int .i64 o'.left)).setCell ⟨w2.heap.size + 1, 0, none⟩ (.int .u8 d0)).setCell ⟨w2.heap.size + 1, 1, none⟩ (.int .i64 d1)).setCell ⟨w2.heap.size + 1, 2, none⟩ (.int .u64 d2)).setCell ⟨w2.heap.size + 1, 3, none⟩ (.int .u64 d3)).setCell ⟨w2.heap.size + 1, 4, none⟩ (.bool d4)) = wz
            have hz2 : did_setT (undSet w3 gu (q * 9) o' s') (w2.heap.size + 1) d0 d1 d2 d3 d4 = wz := by rw [← hz, undSet_is HL1.out HL.out]; rfl
            have hPu := und_part w3 gu (q * 9) o' s'
            have hPd := did_partT (undSet w3 gu (q * 9) o' s') (w2.heap.size + 1) d0 d1 d2 d3 d4
            rw [hz2] at hPd
            have hm2 := (HZ.out s').1
            have hbt := hm2.one.buck.head.lt
            have hbk := hm2.one.buck.words.head.lt
            have hbw := hm2.one.buck.words.row.lt
            have hlo2 := hm2.low.size
            have HBz : Hid (BothT W bt bk bw ev bu T' (us.set q (o', s')) bs (.slice (some ⟨g, 0, none⟩) bs.length pc) (.slice (some ⟨gu, 0, none⟩) bs.length uc) wz) := Lib.hid (HA.out.both HQ.out HM3.out HU3.out HS2.out (by simp; omega) (fun x hx => by have := hm2.pends.lt x hx; omega) (fun r hr => by have e : g = r := (by simpa [Value.ownBlock] using hr); omega) (by omega) (by omega) hPd)
            have HRz : Hid (Row wz b 140 (opTL bt o')) := Lib.hid ((HR3.out.part hPu (by simpa using fun e => own_off HU3.out HR3.out (by decide) gu rfl e.symm)).part hPd (by have := HR2.out.lt; simp; omega))
            have HD1z : Hid (Row wz w2.heap.size 45 [.int .u8 d0, .int .i64 d1, .int .u64 d2, .int .u64 d3, .bool d4]) := Lib.hid ((HD1.out.part hPu (by simp; omega)).part hPd (by simp))
            have HD2z : Hid (Row wz (w2.heap.size + 1) 45 [.int .u8 d0, .int .i64 d1, .int .u64 d2, .int .u64 d3, .bool d4]) := Lib.hid (by rw [← hz2]; exact did_rowT (HD2.out.part hPu (by simp; omega)))
            have HOQ : Hid ((us.set q (o', s'))[q]? = some (o', s')) := Lib.hid (List.getElem?_set_self (lt_of_get HQ.out))
            have HOKz := HOK2
            have HD1 := HD1z
            have HD2 := HD2z
            obtain ⟨b1, hb1⟩ : ∃ b1, w2.heap.size = b1 := ⟨_, rfl⟩
            obtain ⟨b2, hb2⟩ : ∃ b2, w2.heap.size + 1 = b2 := ⟨_, rfl⟩
            rw [hb1] at HD1
            rw [hb2] at HD2
            rw [hb2, hb1]
            have hTw : (T' != IntKind.u64.wrap T') = false := by rw [IntKind.wrap_u64]; simp; omega
            clear hz hz2 hPu hPd hm2 hbt hbk hbw hlo2 hb1 hb2 hgul c0 c1 c2 c3 c4 c5 c6 c7 c8 k0 k1 k2 k3 k4 k5 k6 k7 k8 kf klt m0 m1 m2 m3 m4 mf mlt hc hgl
            obtain ⟨xv0, xv1, xv2, xv3, xv4⟩ := HD1.out.five
            obtain ⟨xg0, xg1, xg2, xg3, xg4⟩ := HD2.out.five
            obtain ⟨_, _, _, _, _, xc5, xc6, xc7, xc8⟩ := und_cells HBz.out.und HOQ.out
            rw [HL.out] at xc5
            have xpc := own_cell HBz.out.many.ps (ptrs_get HBb.out)
            have xlt1 := HD1.out.lt
            have xlt2 := HD2.out.lt
            have xlt3 : gu < _ := World.block_lt_of_cell? _ _ xc6
            have xlt4 : g < _ := World.block_lt_of_cell? _ _ xpc
            go_region_held3 (fun w' => w'.cell? ⟨b1, 0, none⟩ = some (.int .u8 d0) ∧ w'.cell? ⟨b1, 1, none⟩ = some (.int .i64 d1) ∧ w'.cell? ⟨b1, 2, none⟩ = some (.int .u64 d2) ∧ w'.cell? ⟨b1, 3, none⟩ = some (.int .u64 d3) ∧ w'.cell? ⟨b1, 4, none⟩ = some (.bool d4) ∧ w'.cell? ⟨b2, 0, none⟩ = some (.int .u8 d0) ∧ w'.cell? ⟨b2, 1, none⟩ = some (.int .i64 d1) ∧ w'.cell? ⟨b2, 2, none⟩ = some (.int .u64 d2) ∧ w'.cell? ⟨b2, 3, none⟩ = some (.int .u64 d3) ∧ w'.cell? ⟨b2, 4, none⟩ = some (.bool d4) ∧ w'.cell? ⟨gu, q * 9 + 5, none⟩ = some (.bool last) ∧ w'.cell? ⟨gu, q * 9 + 6, none⟩ = some (.bool o'.ok) ∧ w'.cell? ⟨gu, q * 9 + 7, none⟩ = some (.int .i64 o'.wait) ∧ w'.cell? ⟨gu, q * 9 + 8, none⟩ = some (.int .i64 o'.left) ∧ w'.cell? ⟨g, q, none⟩ = some (.pointer (some ⟨b, 0, none⟩)))
              (first | (with_reducible exact ⟨yv0, yv1, yv2, yv3, yv4, yg0, yg1, yg2, yg3, yg4, yc5, yc6, yc7, yc8, ypc⟩) | (with_reducible exact ⟨xv0, xv1, xv2, xv3, xv4, xg0, xg1, xg2, xg3, xg4, xc5, xc6, xc7, xc8, xpc⟩) | go_keep)
              (first
              | (go_at_call 45; refine (tdone_at HRz.out.drew HOKz.out.ph HL.out).mono ?_; rintro e wx ⟨rfl, rfl⟩)
              | (go_at_call 46; refine (tanswer_op HRz.out.drew).mono ?_; rintro e wA ⟨rfl, hbA⟩; have HBA := Lib.hid (HBz.out.drew.on hbA); have hdA := HD1.out.drew.below hbA HD1.out.lt; have hdB := HD2.out.drew.below hbA HD2.out.lt; obtain ⟨yv0, yv1, yv2, yv3, yv4⟩ := hdA.five; obtain ⟨yg0, yg1, yg2, yg3, yg4⟩ := hdB.five; obtain ⟨_, _, _, _, _, yc5, yc6, yc7, yc8⟩ := und_cells HBA.out.und HOQ.out; rw [HL.out] at yc5; have ypc := own_cell HBA.out.many.ps (ptrs_get HBb.out); have ylt1 := hdA.lt; have ylt2 := hdB.lt; have ylt3 : gu < _ := World.block_lt_of_cell? _ _ yc6; have ylt4 : g < _ := World.block_lt_of_cell? _ _ ypc; clear hbA hdA hdB)
              | (go_at_call 47; (with_reducible refine (tword_any HBA.out.many.one.buck).mono ?_); rintro e wx ⟨rfl, rfl⟩))
            all_goals
              go_wp2
              go_roundw
              case rel => exact ⟨j + 1, by omega, by go_num, T', _, rfl, by first | exact HBA.out | exact HBA.out.drew⟩
              case measure => simp [intOf]; omega
        · obtain rfl : j = xs.length := by omega
          go_wp2_with (first
            | (go_at_call 40; refine (tbegins_any _).mono ?_; rintro e w0 ⟨rfl, hb⟩; have HB0 := Lib.hid hb; clear hb)
            | (go_at_call 47; (with_reducible refine (tword_any HA.out.many.one.buck).mono ?_); rintro e wx ⟨rfl, rfl⟩))
          go_ret
          exact ⟨rfl, HA.out.many.low.trans (HB0.out.mono HA.out.many.low.size)⟩
end Go.Proofs.Ytcocegneegjcpaa
