/- THE WALK of the law 'SnapCalls'. -/
import Derived.Test.YtdadgppbpomdoaaQj
import Derived.Deep.RegionHeld3
import Derived.Deep.Cut
import Derived.Deep.CutRange
namespace Go.Proofs.Ytdadgppbpomdoaa
open Go Go.RowKit

set_option maxRecDepth 100000
theorem scalls_no {n : Int} (hn : n < 1 ∨ 64 < n) {A : Option Addr} {len cap : Nat} (W : World) :
    Calls Try.prog 4 #[.int .i64 n, .slice A len cap] W fun e w' => e = .returned (.bool true) ∧ Below W.heap.size W w' := by
  rcases hn with hn | hn
  · have h1 : decide (n < 1) = true := by simpa using hn
    have HN := Lib.hid hn
    clear hn
    go_enter Try.func4, Try.ntmps4
    go_wp2_with (first
      | (go_at_call 10; refine (rnew_no (.inl HN.out)).mono ?_; rintro e w' ⟨rfl, rfl⟩)
      | (go_at_call 11; refine (rbegins_any _).mono ?_; rintro e w0 ⟨rfl, hb⟩; have HB0 := Lib.hid hb; clear hb))
    go_ret
    exact ⟨rfl, HB0.out⟩
  · have h1 : decide (n < 1) = false := by simp; omega
    have h2 : decide (64 < n) = true := by simpa using hn
    have HN := Lib.hid hn
    clear hn
    go_enter Try.func4, Try.ntmps4
    go_wp2_with (first
      | (go_at_call 10; refine (rnew_no (.inr HN.out)).mono ?_; rintro e w' ⟨rfl, rfl⟩)
      | (go_at_call 11; refine (rbegins_any _).mono ?_; rintro e w0 ⟨rfl, hb⟩; have HB0 := Lib.hid hb; clear hb))
    go_ret
    exact ⟨rfl, HB0.out⟩
set_option maxHeartbeats 25600000
theorem scalls_yes {n : Nat} (h1 : 1 ≤ n) (h64 : n ≤ 64) {A : Option Addr} {cap : Nat} {ops : List (Int × Int × Int × Int)} (W : World) (hE : Ext4 .u8 .i64 .u32 .i64 W A ops) (hv : ∀ op ∈ ops, U32 op.2.2.1) (hr : ops.length * 32 ≤ 140737488351232) :
    Calls Try.prog 4 #[.int .i64 (n : Int), .slice A ops.length cap] W fun e w' => e = .returned (.bool true) ∧ Below W.heap.size W w' := by
  obtain ⟨iU, hiU, hU0, hU1, hU2⟩ := info_parts infoU64
  have HE := Lib.hid hE
  have HV := Lib.hid hv
  have hbu : iU.bytes * n ≤ 281474976710656 := by rw [hU2]; omega
  have hmu : n ≤ maxLen := by unfold maxLen; omega
  clear hE hv
  go_enter Try.func4, Try.ntmps4
  go_wp2_with (first
    | (go_at_call 10; refine (rnew_yes _ h1 h64).mono ?_; rintro e w1 ⟨br, bk, bw, rfl, _, _, hbw, hR, hb⟩; have HS1 := Lib.hid (show SnSt W n br bk bw (List.replicate n 0) w1 from ⟨hR, by simp, hbw, hb⟩); clear hbw hR hb)
    | (at_make; refine wpList_make_full _ rfl _ _ 40 rfl w1.heap.size 39 iU (.int .u64 0) 1 Try.underlying40 hiU hU0 hU1 .i64 .i64 n n n rfl rfl rfl rfl hbu hmu (Nat.le_refl _) ?_; intro w7 hown7 hgr7; rw [noughts29] at hown7; have HC7 := Lib.hid (calls_first HS1.out ((Below.refl _ _).grown hgr7 (Nat.le_refl _) (by simp)) hown7); clear hown7 hgr7))
  obtain ⟨gl, hgl⟩ : ∃ gl, w1.heap.size = gl := ⟨_, rfl⟩
  rw [hgl] at HC7 ⊢
  clear hgl
  go_loopw [7, 8] (fun v u wr => ∃ j : Nat, j ≤ ops.length ∧ u = .int .i64 j ∧ ∃ A1 m1 c1 ws X, v = .slice A1 m1 c1 ∧ CallsQ W n br bk bw ws (A1, m1, c1) X wr) (fun _ u _ => ops.length - (intOf u).toNat)
  case atStart => exact ⟨0, Nat.zero_le _, rfl, _, _, _, _, _, rfl, HC7.out⟩
  case round =>
    obtain ⟨j, hj, rfl, A1, m1, c1, ws, X, rfl, hC⟩ := hrel
    have HC := Lib.hid hC
    clear hC HC7 HS1
    by_cases hlt : j < ops.length
    · obtain ⟨op, hop⟩ : ∃ op, ops[j]? = some op := ⟨ops[j], List.getElem?_eq_getElem hlt⟩
      obtain ⟨b, o, rfl, hbl, e0, e1, e2, e3⟩ := HE.out j _ hop
      have hlt2 : (j : Int) < (ops.length : Int) := by omega
      have hbw : b < wr.heap.size := Nat.lt_of_lt_of_le hbl HC.out.st.low.size
      have f0 := (HC.out.st.low.cell (p := ⟨b, o + j * 4, none⟩) hbl).trans e0
      have f1 := (HC.out.st.low.cell (p := ⟨b, o + j * 4 + 1, none⟩) hbl).trans e1
      have f2 := (HC.out.st.low.cell (p := ⟨b, o + j * 4 + 2, none⟩) hbl).trans e2
      have f3 := (HC.out.st.low.cell (p := ⟨b, o + j * 4 + 3, none⟩) hbl).trans e3
      have HUV := Lib.hid (HV.out op (List.mem_of_getElem? hop))
      have HLEN := Lib.hid HC.out.st.len
      have HUS := Lib.hid HC.out.st.regs.words.ok
      have hj4 : j * 4 ≤ 52776558132480 := by omega
      have ne9 : ¬ b = wr.heap.size := by omega
      have ne11 : ¬ b = wr.heap.size + 1 := by omega
      clear hop hbl e0 e1 e2 e3
      obtain ⟨k, r, v, t⟩ := op
      dsimp only at f0 f1 f2 f3 HUV
      by_cases k1 : k = 1
      · subst k1
        go_upto_region 15 with fail
        go_cut [9, 11] (fun s9 s11 wx => ∃ b9 b11, s9 = .pointer (some ⟨b9, 0, none⟩) ∧ s11 = .pointer (some ⟨b11, 0, none⟩) ∧ RndQ W n br bk bw ws ws (A1, m1, c1) X b9 b11 [.int .u8 1, .int .i64 r, .int .u32 v, .int .i64 0] [.int .u32 0, .int .u32 0] wx)
        case first =>
          go_wp2
          go_meet
          exact ⟨_, _, rfl, rfl, HC.out.begin [.int .u8 1, .int .i64 r, .int .u32 v, .int .i64 0] [.int .u32 0, .int .u32 0]⟩
        case rest =>
          obtain ⟨b9, b11, rfl, rfl, hX⟩ := hcut
          have HX := Lib.hid hX
          obtain ⟨x0, x1, x2, x3⟩ := hX.x.four4
          have xlt := hX.x.lt
          obtain ⟨xa, xb⟩ := hX.one.two2
          have xof := hX.one.free
          have xol := hX.one.lt
          have n9 : ¬ b9 = b11 := hX.x.ne hX.one (by decide)
          have n9' : ¬ b11 = b9 := fun e => n9 e.symm
          clear hX f0 f1 f2 f3 ne9 ne11
          cases hb : rightS n 1 r v 0 with
          | false =>
            have HRB := Lib.hid hb
            have HRW : Hid (rightS ws.length 1 r v 0 = false) := Lib.hid (by rw [HLEN.out]; exact hb)
            clear hb
            go_wp2_with (first
              | (go_at_call 22; refine (rput_no HX.out.st.regs HRW.out).mono ?_; unfold noReg; rintro e w2 ⟨rfl, hb2⟩; have HX2 := Lib.hid (HX.out.on hb2); obtain ⟨z0, z1, z2, z3⟩ := HX2.out.x.four4; have zlt := HX2.out.x.lt; obtain ⟨za, zb⟩ := HX2.out.one.two2; have zof := HX2.out.one.free; have zol := HX2.out.one.lt; clear hb2)
              | (go_at_call 13; refine (dright_at HRB.out _).mono ?_; rintro e w4 ⟨rfl, hb4⟩; have HX4 := Lib.hid ((((HX2.out.setO 0 (.int .u32 0)).setO 1 (.int .u32 0)).alloc _).on hb4); obtain ⟨p0, p1, p2, p3⟩ := HX4.out.x.four4; have plt := HX4.out.x.lt; obtain ⟨pa, pb⟩ := HX4.out.one.two2; have pof := HX4.out.one.free; have pol := HX4.out.one.lt; clear hb4))
            go_roundw
            case rel => exact ⟨j + 1, by omega, by go_num, _, _, _, _, _, rfl, HX4.out.calls⟩
            case measure => simp [intOf]; omega
          | true =>
            have HRB0 := Lib.hid hb
            obtain ⟨hb1, hb2⟩ := rightS_put hb
            obtain ⟨i, rfl⟩ := Int.eq_ofNat_of_zero_le hb1
            clear hb
            have HRB := HRB0
            obtain ⟨x, hx⟩ : ∃ x, ws[i]? = some x := ⟨_, List.getElem?_eq_getElem (by have := HLEN.out; omega)⟩
            obtain ⟨y, hy⟩ : ∃ y, afterW x v = y := ⟨_, rfl⟩
            obtain ⟨ws2, hws⟩ : ∃ ws2, ws.set i y = ws2 := ⟨_, rfl⟩
            have HXX := Lib.hid hx
            have HY := Lib.hid hy
            have HWS := Lib.hid hws
            have HWW : Hid (wholeW ws (1, (i : Int), v, 0) = ws2) := Lib.hid (by simp [wholeW, List.getD, hx, hy, hws])
            have HWX : Hid (wholeX ws (1, (i : Int), v, 0) = [y]) := Lib.hid (by simp [wholeX, List.getD, hx, hy])
            have HWC : Hid (wholeC (1, (i : Int), v, 0) = false) := Lib.hid (by simp [wholeC])
            have HWN : Hid (wholeN (1, (i : Int), v, 0) = 0) := Lib.hid (by simp [wholeN])
            have HOV := HUV
            have HXL : Hid ([y].length = 1) := Lib.hid rfl
            have HW2L : Hid (ws2.length = ws.length) := Lib.hid (by rw [← hws, List.length_set])
            clear hx hy hws hb1 HRB0
            go_upto_region 16 with fail
            go_cut [12] (fun s12 wx => s12 = .int .i64 0 ∧ RndQ W n br bk bw ws2 ws (A1, m1, c1) X b9 b11 [.int .u8 1, .int .i64 (i : Int), .int .u32 v, .int .i64 0] [.int .u32 (numW y), .int .u32 (valW y)] wx)
            case first =>
              go_wp2_with (go_at_call 22; refine (rput_at HX.out.st.regs HXX.out HUV.out HY.out HWS.out).mono ?_; rintro e w2 ⟨rfl, hR2, hP2⟩; have HX2 := Lib.hid (HX.out.put hR2 HW2L.out hP2); obtain ⟨z0, z1, z2, z3⟩ := HX2.out.x.four4; have zlt := HX2.out.x.lt; obtain ⟨za, zb⟩ := HX2.out.one.two2; have zof := HX2.out.one.free; have zol := HX2.out.one.lt; clear hR2 hP2)
              go_meet
              exact ⟨rfl, (HX2.out.setO 0 (.int .u32 (numW y))).setO 1 (.int .u32 (valW y))⟩
            case rest =>
              obtain ⟨rfl, hRX⟩ := hcut
              obtain ⟨q0, q1⟩ := hRX.one.two2
              have qlt := hRX.one.lt
              have HRX := Lib.hid (hRX.alloc (.cells #[.int .u32 (numW y), .int .u32 (valW y)] 60))
              have HGOT : Hid (Row (wc.alloc (.cells #[.int .u32 (numW y), .int .u32 (valW y)] 60)) wc.heap.size 60 (regCells [y])) := Lib.hid (Row.new _ _ [.int .u32 (numW y), .int .u32 (valW y)])
              obtain ⟨t0, t1, t2, t3⟩ := hRX.x.four4
              have tlt := hRX.x.lt
              clear hRX x0 x1 x2 x3 xa xb xof xol xlt n9 n9'
              go_upto_region 30 with (go_at_call 13; refine (dright_at HRB.out _).mono ?_; rintro e w4 ⟨rfl, hb4⟩; have HR4 := Lib.hid (HRX.out.on hb4); have HG4 := Lib.hid (HGOT.out.below hb4 HGOT.out.lt); obtain ⟨p0, p1, p2, p3⟩ := HR4.out.x.four4; have plt := HR4.out.x.lt; clear hb4)
              go_cut [7, 14] (fun s7 s14 wx => ∃ b14 A5 m5 c5 A6 m6 c6 X5, s7 = .slice A5 m5 c5 ∧ s14 = .pointer (some ⟨b14, 0, none⟩) ∧ DoneQ W n br bk bw ws2 (A5, m5, c5) X5 b9 b14 [.int .u8 1, .int .i64 (i : Int), .int .u32 v, .int .i64 0] (A6, m6, c6) false 0 [y] wx ∧ Row wx wc.heap.size 60 (regCells [y]))
              case first =>
                go_wp2_with (go_at_call 25; refine (dwhole_any (op := (1, (i : Int), v, 0)) (HR4.out.alloc _).doc (HR4.out.alloc _).st.low.size HLEN.out (by omega) h64 HUS.out HRB.out HOV.out).mono ?_; rintro e w5 ⟨⟨A5, m5, c5⟩, ⟨A6, m6, c6⟩, X5, rfl, hb5, hL5, hR5⟩; simp only [sl]; rw [HWC.out, HWN.out]; rw [HWW.out] at hL5; rw [HWX.out] at hR5; have HD5 := Lib.hid (HR4.out.done (cl := false) (co := 0) hb5 hL5 hR5); have HG5 := Lib.hid ((HG4.out.alloc _).below hb5 (HG4.out.alloc _).lt); have nbg : ¬ wc.heap.size = w4.heap.size := Nat.ne_of_lt HG4.out.lt; have hv5 : Row w5 w4.heap.size 43 [.slice none 0 0, .bool false, .int .i64 0] := (Row.new w4 _ _).below hb5 (by simp); have vf := hv5.free; have vlt := hv5.lt; obtain ⟨v0, v1, v2⟩ := hv5.three; clear hb5 hL5 hR5 hv5)
                go_meet
                exact ⟨_, A5, m5, c5, A6, m6, c6, X5, rfl, rfl, HD5.out, HG5.out.part ((((Part.refl [w4.heap.size] _).set (by simp) _).set (by simp) _).set (by simp) _) (by simpa using nbg)⟩
              case rest =>
                obtain ⟨b14, A5, m5, c5, A6, m6, c6, X5, rfl, rfl, hD, hG⟩ := hcut
                have HD := Lib.hid hD
                have HG := Lib.hid hG
                have HGL := Lib.hid hG.liesR
                obtain ⟨q0, q1, q2, q3⟩ := hD.x.four4
                have qlt := hD.x.lt
                obtain ⟨v0, v1, v2⟩ := hD.vw.three
                have vlt := hD.vw.lt
                have hm6 : 1 = m6 := (hD.regs.2.1.trans HXL.out).symm
                subst hm6
                simp only [sl] at v0
                have hm5 := hD.st.doc.len
                simp only at hm5
                have HWL := Lib.hid hD.st.st.len
                have hm5n : n = m5 := (hm5.trans HWL.out).symm
                subst hm5n
                have HRO := Lib.hid (own_liesR (A := A6) (n := 1) (c := c6) hD.regs.1)
                clear hD hG hm5
                go_wp2_with (first
                  | (go_at_call 19; first
                      | (with_reducible refine (dregs_yes HGL.out HRO.out HXL.out (by omega)).mono ?_; rintro e wy ⟨rfl, my, rfl⟩; have HDY := Lib.hid (HD.out.st.on (Below.draws (Below.refl _ _) my)))
                      | (with_reducible refine (dregs_yes HL8.out HA9.out HWL.out (by omega)).mono ?_; rintro e wz ⟨rfl, mz, rfl⟩; have HDZ := Lib.hid (HD9.out.on (Below.draws (Below.refl _ _) mz))))
                  | (go_at_call 20; refine (rall_at HDY.out.st.regs HWL.out).mono ?_; rintro e w8 ⟨b8, rfl, _, hr8, hb8⟩; have HR8 := Lib.hid hr8; have HD8 := Lib.hid (HDY.out.on hb8); clear hr8 hb8)
                  | (go_at_call 21; refine (dall_at HD8.out.doc.lies HD8.out.st.regs.words.ok HWL.out (by omega) h64).mono ?_; rintro e w9 ⟨b10, c10, rfl, _, hr9, hb9⟩; have HA9 := Lib.hid hr9; have HL8 := Lib.hid (HR8.out.below hb9 HR8.out.lt).liesR; have HD9 := Lib.hid (HD8.out.on hb9); clear hr9 hb9))
                go_roundw
                case rel => exact ⟨j + 1, by omega, by go_num, _, _, _, _, _, rfl, HDZ.out⟩
                case measure => simp [intOf]; omega
      by_cases k2 : k = 2
      · subst k2
        go_upto_region 19 with fail
        go_cut [9, 11] (fun s9 s11 wx => ∃ b9 b11, s9 = .pointer (some ⟨b9, 0, none⟩) ∧ s11 = .pointer (some ⟨b11, 0, none⟩) ∧ RndQ W n br bk bw ws ws (A1, m1, c1) X b9 b11 [.int .u8 2, .int .i64 r, .int .u32 0, .int .i64 0] [.int .u32 0, .int .u32 0] wx)
        case first =>
          go_wp2
          go_meet
          exact ⟨_, _, rfl, rfl, HC.out.begin [.int .u8 2, .int .i64 r, .int .u32 0, .int .i64 0] [.int .u32 0, .int .u32 0]⟩
        case rest =>
          obtain ⟨b9, b11, rfl, rfl, hX⟩ := hcut
          have HX := Lib.hid hX
          obtain ⟨x0, x1, x2, x3⟩ := hX.x.four4
          have xlt := hX.x.lt
          obtain ⟨xa, xb⟩ := hX.one.two2
          have xof := hX.one.free
          have xol := hX.one.lt
          have n9 : ¬ b9 = b11 := hX.x.ne hX.one (by decide)
          have n9' : ¬ b11 = b9 := fun e => n9 e.symm
          clear hX f0 f1 f2 f3 ne9 ne11
          cases hb : rightS n 2 r 0 0 with
          | false =>
            have HRB := Lib.hid hb
            have HRW : Hid (rightS ws.length 2 r 0 0 = false) := Lib.hid (by rw [HLEN.out]; exact hb)
            clear hb
            go_wp2_with (first
              | (go_at_call 23; refine (rget_no HX.out.st.regs HRW.out).mono ?_; unfold noReg; rintro e w2 ⟨rfl, hb2⟩; have HX2 := Lib.hid (HX.out.on hb2); obtain ⟨z0, z1, z2, z3⟩ := HX2.out.x.four4; have zlt := HX2.out.x.lt; obtain ⟨za, zb⟩ := HX2.out.one.two2; have zof := HX2.out.one.free; have zol := HX2.out.one.lt; clear hb2)
              | (go_at_call 13; refine (dright_at HRB.out _).mono ?_; rintro e w4 ⟨rfl, hb4⟩; have HX4 := Lib.hid ((((HX2.out.setO 0 (.int .u32 0)).setO 1 (.int .u32 0)).alloc _).on hb4); obtain ⟨p0, p1, p2, p3⟩ := HX4.out.x.four4; have plt := HX4.out.x.lt; obtain ⟨pa, pb⟩ := HX4.out.one.two2; have pof := HX4.out.one.free; have pol := HX4.out.one.lt; clear hb4))
            go_roundw
            case rel => exact ⟨j + 1, by omega, by go_num, _, _, _, _, _, rfl, HX4.out.calls⟩
            case measure => simp [intOf]; omega
          | true =>
            have HRB := Lib.hid hb
            obtain ⟨hb1, hb2⟩ := rightS_get hb
            obtain ⟨i, rfl⟩ := Int.eq_ofNat_of_zero_le hb1
            clear hb
            obtain ⟨x, hx⟩ : ∃ x, ws[i]? = some x := ⟨_, List.getElem?_eq_getElem (by have := HLEN.out; omega)⟩
            have HXX := Lib.hid hx
            have HWW : Hid (wholeW ws (2, (i : Int), 0, 0) = ws) := Lib.hid (by simp [wholeW])
            have HWX : Hid (wholeX ws (2, (i : Int), 0, 0) = [x]) := Lib.hid (by simp [wholeX, List.getD, hx])
            have HWC : Hid (wholeC (2, (i : Int), 0, 0) = false) := Lib.hid (by simp [wholeC])
            have HWN : Hid (wholeN (2, (i : Int), 0, 0) = 0) := Lib.hid (by simp [wholeN])
            have HXL : Hid ([x].length = 1) := Lib.hid rfl
            have HOV : Hid (U32 0) := Lib.hid (by unfold U32; omega)
            clear hx hb1
            go_upto_region 20 with fail
            go_cut [12] (fun s12 wx => s12 = .int .i64 0 ∧ RndQ W n br bk bw ws ws (A1, m1, c1) X b9 b11 [.int .u8 2, .int .i64 (i : Int), .int .u32 0, .int .i64 0] [.int .u32 (numW x), .int .u32 (valW x)] wx)
            case first =>
              go_wp2_with (go_at_call 23; refine (rget_any HX.out.st.regs HXX.out).mono ?_; unfold regV; rintro e w2 ⟨rfl, hb2⟩; have HX2 := Lib.hid (HX.out.on hb2); obtain ⟨z0, z1, z2, z3⟩ := HX2.out.x.four4; have zlt := HX2.out.x.lt; obtain ⟨za, zb⟩ := HX2.out.one.two2; have zof := HX2.out.one.free; have zol := HX2.out.one.lt; clear hb2)
              go_meet
              exact ⟨rfl, (HX2.out.setO 0 (.int .u32 (numW x))).setO 1 (.int .u32 (valW x))⟩
            case rest =>
              obtain ⟨rfl, hRX⟩ := hcut
              obtain ⟨q0, q1⟩ := hRX.one.two2
              have qlt := hRX.one.lt
              have HRX := Lib.hid (hRX.alloc (.cells #[.int .u32 (numW x), .int .u32 (valW x)] 60))
              have HGOT : Hid (Row (wc.alloc (.cells #[.int .u32 (numW x), .int .u32 (valW x)] 60)) wc.heap.size 60 (regCells [x])) := Lib.hid (Row.new _ _ [.int .u32 (numW x), .int .u32 (valW x)])
              obtain ⟨t0, t1, t2, t3⟩ := hRX.x.four4
              have tlt := hRX.x.lt
              clear hRX x0 x1 x2 x3 xa xb xof xol xlt n9 n9'
              go_upto_region 30 with (go_at_call 13; refine (dright_at HRB.out _).mono ?_; rintro e w4 ⟨rfl, hb4⟩; have HR4 := Lib.hid (HRX.out.on hb4); have HG4 := Lib.hid (HGOT.out.below hb4 HGOT.out.lt); obtain ⟨p0, p1, p2, p3⟩ := HR4.out.x.four4; have plt := HR4.out.x.lt; clear hb4)
              go_cut [7, 14] (fun s7 s14 wx => ∃ b14 A5 m5 c5 A6 m6 c6 X5, s7 = .slice A5 m5 c5 ∧ s14 = .pointer (some ⟨b14, 0, none⟩) ∧ DoneQ W n br bk bw ws (A5, m5, c5) X5 b9 b14 [.int .u8 2, .int .i64 (i : Int), .int .u32 0, .int .i64 0] (A6, m6, c6) false 0 [x] wx ∧ Row wx wc.heap.size 60 (regCells [x]))
              case first =>
                go_wp2_with (go_at_call 25; refine (dwhole_any (op := (2, (i : Int), 0, 0)) (HR4.out.alloc _).doc (HR4.out.alloc _).st.low.size HLEN.out (by omega) h64 HUS.out HRB.out HOV.out).mono ?_; rintro e w5 ⟨⟨A5, m5, c5⟩, ⟨A6, m6, c6⟩, X5, rfl, hb5, hL5, hR5⟩; simp only [sl]; rw [HWC.out, HWN.out]; rw [HWW.out] at hL5; rw [HWX.out] at hR5; have HD5 := Lib.hid (HR4.out.done (cl := false) (co := 0) hb5 hL5 hR5); have HG5 := Lib.hid ((HG4.out.alloc _).below hb5 (HG4.out.alloc _).lt); have nbg : ¬ wc.heap.size = w4.heap.size := Nat.ne_of_lt HG4.out.lt; have hv5 : Row w5 w4.heap.size 43 [.slice none 0 0, .bool false, .int .i64 0] := (Row.new w4 _ _).below hb5 (by simp); have vf := hv5.free; have vlt := hv5.lt; obtain ⟨v0, v1, v2⟩ := hv5.three; clear hb5 hL5 hR5 hv5)
                go_meet
                exact ⟨_, A5, m5, c5, A6, m6, c6, X5, rfl, rfl, HD5.out, HG5.out.part ((((Part.refl [w4.heap.size] _).set (by simp) _).set (by simp) _).set (by simp) _) (by simpa using nbg)⟩
              case rest =>
                obtain ⟨b14, A5, m5, c5, A6, m6, c6, X5, rfl, rfl, hD, hG⟩ := hcut
                have HD := Lib.hid hD
                have HG := Lib.hid hG
                have HGL := Lib.hid hG.liesR
                obtain ⟨q0, q1, q2, q3⟩ := hD.x.four4
                have qlt := hD.x.lt
                obtain ⟨v0, v1, v2⟩ := hD.vw.three
                have vlt := hD.vw.lt
                have hm6 : 1 = m6 := (hD.regs.2.1.trans HXL.out).symm
                subst hm6
                simp only [sl] at v0
                have hm5 := hD.st.doc.len
                simp only at hm5
                have HWL := Lib.hid hD.st.st.len
                have hm5n : n = m5 := (hm5.trans HWL.out).symm
                subst hm5n
                have HRO := Lib.hid (own_liesR (A := A6) (n := 1) (c := c6) hD.regs.1)
                clear hD hG hm5
                go_wp2_with (first
                  | (go_at_call 19; first
                      | (with_reducible refine (dregs_yes HGL.out HRO.out HXL.out (by omega)).mono ?_; rintro e wy ⟨rfl, my, rfl⟩; have HDY := Lib.hid (HD.out.st.on (Below.draws (Below.refl _ _) my)))
                      | (with_reducible refine (dregs_yes HL8.out HA9.out HWL.out (by omega)).mono ?_; rintro e wz ⟨rfl, mz, rfl⟩; have HDZ := Lib.hid (HD9.out.on (Below.draws (Below.refl _ _) mz))))
                  | (go_at_call 20; refine (rall_at HDY.out.st.regs HWL.out).mono ?_; rintro e w8 ⟨b8, rfl, _, hr8, hb8⟩; have HR8 := Lib.hid hr8; have HD8 := Lib.hid (HDY.out.on hb8); clear hr8 hb8)
                  | (go_at_call 21; refine (dall_at HD8.out.doc.lies HD8.out.st.regs.words.ok HWL.out (by omega) h64).mono ?_; rintro e w9 ⟨b10, c10, rfl, _, hr9, hb9⟩; have HA9 := Lib.hid hr9; have HL8 := Lib.hid (HR8.out.below hb9 HR8.out.lt).liesR; have HD9 := Lib.hid (HD8.out.on hb9); clear hr9 hb9))
                go_roundw
                case rel => exact ⟨j + 1, by omega, by go_num, _, _, _, _, _, rfl, HDZ.out⟩
                case measure => simp [intOf]; omega
      by_cases k3 : k = 3
      · subst k3
        go_upto_region 23 with fail
        go_cut [9, 11] (fun s9 s11 wx => ∃ b9 b11, s9 = .pointer (some ⟨b9, 0, none⟩) ∧ s11 = .pointer (some ⟨b11, 0, none⟩) ∧ RndQ W n br bk bw ws ws (A1, m1, c1) X b9 b11 [.int .u8 3, .int .i64 0, .int .u32 0, .int .i64 t] [.int .u32 0, .int .u32 0] wx)
        case first =>
          go_wp2
          go_meet
          exact ⟨_, _, rfl, rfl, HC.out.begin [.int .u8 3, .int .i64 0, .int .u32 0, .int .i64 t] [.int .u32 0, .int .u32 0]⟩
        case rest =>
          obtain ⟨b9, b11, rfl, rfl, hX⟩ := hcut
          have HX := Lib.hid hX
          obtain ⟨x0, x1, x2, x3⟩ := hX.x.four4
          have xlt := hX.x.lt
          obtain ⟨xa, xb⟩ := hX.one.two2
          have xof := hX.one.free
          have xol := hX.one.lt
          have n9 : ¬ b9 = b11 := hX.x.ne hX.one (by decide)
          have n9' : ¬ b11 = b9 := fun e => n9 e.symm
          clear hX f0 f1 f2 f3 ne9 ne11
          cases hb : rightS n 3 0 0 t with
          | false =>
            have HRB := Lib.hid hb
            have HRW : Hid (rightS ws.length 3 0 0 t = false) := Lib.hid (by rw [← hb]; rfl)
            clear hb
            go_wp2_with (first
              | (go_at_call 24; refine (rscan_no HX.out.st.regs HRW.out).mono ?_; rintro e w2 ⟨rfl, hb2⟩; have HX2 := Lib.hid (HX.out.on hb2); obtain ⟨z0, z1, z2, z3⟩ := HX2.out.x.four4; have zlt := HX2.out.x.lt; obtain ⟨za, zb⟩ := HX2.out.one.two2; have zof := HX2.out.one.free; have zol := HX2.out.one.lt; clear hb2)
              | (go_at_call 13; refine (dright_at HRB.out _).mono ?_; rintro e w4 ⟨rfl, hb4⟩; have HX4 := Lib.hid ((HX2.out).on hb4); obtain ⟨p0, p1, p2, p3⟩ := HX4.out.x.four4; have plt := HX4.out.x.lt; obtain ⟨pa, pb⟩ := HX4.out.one.two2; have pof := HX4.out.one.free; have pol := HX4.out.one.lt; clear hb4))
            go_roundw
            case rel => exact ⟨j + 1, by omega, by go_num, _, _, _, _, _, rfl, HX4.out.calls⟩
            case measure => simp [intOf]; omega
          | true =>
            have HRB := Lib.hid hb
            obtain ⟨hb1, hb2⟩ := rightS_scan hb
            clear hb
            have HWW : Hid (wholeW ws (3, 0, 0, t) = ws) := Lib.hid (by simp [wholeW])
            have HWX : Hid (wholeX ws (3, 0, 0, t) = ws) := Lib.hid (by simp [wholeX])
            have HOV : Hid (U32 0) := Lib.hid (by unfold U32; omega)
            by_cases ht : t = 1
            · subst ht
              have HWC : Hid (wholeC (3, 0, 0, 1) = false) := Lib.hid (by simp [wholeC])
              have HWN : Hid (wholeN (3, 0, 0, 1) = 1) := Lib.hid (by simp [wholeN])
              clear hb1 hb2
              go_upto_region 25 with (go_at_call 24; refine (rscan_one HX.out.st.regs).mono ?_; rintro e w2 ⟨rfl, hb2⟩; have HRX := Lib.hid (HX.out.on hb2); obtain ⟨z0, z1, z2, z3⟩ := HRX.out.x.four4; have zlt := HRX.out.x.lt; obtain ⟨za, zb⟩ := HRX.out.one.two2; have zof := HRX.out.one.free; have zol := HRX.out.one.lt; clear hb2)
              go_upto_region 30 with (go_at_call 13; refine (dright_at HRB.out _).mono ?_; rintro e w4 ⟨rfl, hb4⟩; have HR4 := Lib.hid (HRX.out.on hb4); obtain ⟨p0, p1, p2, p3⟩ := HR4.out.x.four4; have plt := HR4.out.x.lt; clear hb4)
              go_cut [7, 14] (fun s7 s14 wx => ∃ b14 A5 m5 c5 A6 m6 c6 X5, s7 = .slice A5 m5 c5 ∧ s14 = .pointer (some ⟨b14, 0, none⟩) ∧ DoneQ W n br bk bw ws (A5, m5, c5) X5 b9 b14 [.int .u8 3, .int .i64 0, .int .u32 0, .int .i64 1] (A6, m6, c6) false 1 ws wx)
              case first =>
                go_wp2_with (go_at_call 25; refine (dwhole_any (op := (3, 0, 0, 1)) (HR4.out.alloc _).doc (HR4.out.alloc _).st.low.size HLEN.out (by omega) h64 HUS.out HRB.out HOV.out).mono ?_; rintro e w5 ⟨⟨A5, m5, c5⟩, ⟨A6, m6, c6⟩, X5, rfl, hb5, hL5, hR5⟩; simp only [sl]; rw [HWC.out, HWN.out]; rw [HWW.out] at hL5; rw [HWX.out] at hR5; have HD5 := Lib.hid (HR4.out.done (cl := false) (co := 1) hb5 hL5 hR5); have hv5 : Row w5 w4.heap.size 43 [.slice none 0 0, .bool false, .int .i64 0] := (Row.new w4 _ _).below hb5 (by simp); have vf := hv5.free; have vlt := hv5.lt; obtain ⟨v0, v1, v2⟩ := hv5.three; clear hb5 hL5 hR5 hv5)
                go_meet
                exact ⟨_, A5, m5, c5, A6, m6, c6, X5, rfl, rfl, HD5.out⟩
              case rest =>
                obtain ⟨b14, A5, m5, c5, A6, m6, c6, X5, rfl, rfl, hD⟩ := hcut
                have HD := Lib.hid hD
                obtain ⟨q0, q1, q2, q3⟩ := hD.x.four4
                have qlt := hD.x.lt
                obtain ⟨v0, v1, v2⟩ := hD.vw.three
                have vlt := hD.vw.lt
                have hm6 : ws.length = m6 := (hD.regs.2.1).symm
                subst hm6
                simp only [sl] at v0
                have hm5 := hD.st.doc.len
                simp only at hm5
                have HWL := Lib.hid hD.st.st.len
                have hm5n : n = m5 := (hm5.trans HWL.out).symm
                subst hm5n
                have HRO := Lib.hid (own_liesR (A := A6) (n := ws.length) (c := c6) hD.regs.1)
                clear hD hm5
                go_wp2
                go_roundw
                case rel => exact ⟨j + 1, by omega, by go_num, _, _, _, _, _, rfl, HD.out.st⟩
                case measure => simp [intOf]; omega
            · have HWC : Hid (wholeC (3, 0, 0, t) = true) := Lib.hid (by simp [wholeC]; omega)
              have HWN : Hid (wholeN (3, 0, 0, t) = 2) := Lib.hid (by simp [wholeN]; omega)
              have HT2 : Hid (2 ≤ t ∧ t ≤ 1024) := Lib.hid (by omega)
              clear hb1 hb2 ht
              go_upto_region 25 with (go_at_call 24; refine (rscan_at HX.out.st.regs HLEN.out HT2.out.1 HT2.out.2).mono ?_; rintro e w2 ⟨bg, rfl, _, hg2, hb2⟩; have HRX := Lib.hid (HX.out.on hb2); have HGOT := Lib.hid hg2; obtain ⟨z0, z1, z2, z3⟩ := HRX.out.x.four4; have zlt := HRX.out.x.lt; obtain ⟨za, zb⟩ := HRX.out.one.two2; have zof := HRX.out.one.free; have zol := HRX.out.one.lt; clear hb2 hg2)
              go_upto_region 30 with (go_at_call 13; refine (dright_at HRB.out _).mono ?_; rintro e w4 ⟨rfl, hb4⟩; have HR4 := Lib.hid (HRX.out.on hb4); have HG4 := Lib.hid (HGOT.out.below hb4 HGOT.out.lt); obtain ⟨p0, p1, p2, p3⟩ := HR4.out.x.four4; have plt := HR4.out.x.lt; clear hb4)
              go_cut [7, 14] (fun s7 s14 wx => ∃ b14 A5 m5 c5 A6 m6 c6 X5, s7 = .slice A5 m5 c5 ∧ s14 = .pointer (some ⟨b14, 0, none⟩) ∧ DoneQ W n br bk bw ws (A5, m5, c5) X5 b9 b14 [.int .u8 3, .int .i64 0, .int .u32 0, .int .i64 t] (A6, m6, c6) true 2 ws wx ∧ Row wx bg 60 (regCells ws))
              case first =>
                go_wp2_with (go_at_call 25; refine (dwhole_any (op := (3, 0, 0, t)) (HR4.out.alloc _).doc (HR4.out.alloc _).st.low.size HLEN.out (by omega) h64 HUS.out HRB.out HOV.out).mono ?_; rintro e w5 ⟨⟨A5, m5, c5⟩, ⟨A6, m6, c6⟩, X5, rfl, hb5, hL5, hR5⟩; simp only [sl]; rw [HWC.out, HWN.out]; rw [HWW.out] at hL5; rw [HWX.out] at hR5; have HD5 := Lib.hid (HR4.out.done (cl := true) (co := 2) hb5 hL5 hR5); have HG5 := Lib.hid ((HG4.out.alloc _).below hb5 (HG4.out.alloc _).lt); have nbg : ¬ bg = w4.heap.size := Nat.ne_of_lt HG4.out.lt; have hv5 : Row w5 w4.heap.size 43 [.slice none 0 0, .bool false, .int .i64 0] := (Row.new w4 _ _).below hb5 (by simp); have vf := hv5.free; have vlt := hv5.lt; obtain ⟨v0, v1, v2⟩ := hv5.three; clear hb5 hL5 hR5 hv5)
                go_meet
                exact ⟨_, A5, m5, c5, A6, m6, c6, X5, rfl, rfl, HD5.out, HG5.out.part ((((Part.refl [w4.heap.size] _).set (by simp) _).set (by simp) _).set (by simp) _) (by simpa using nbg)⟩
              case rest =>
                obtain ⟨b14, A5, m5, c5, A6, m6, c6, X5, rfl, rfl, hD, hG⟩ := hcut
                have HD := Lib.hid hD
                have HG := Lib.hid hG
                have HGL := Lib.hid hG.liesR
                obtain ⟨q0, q1, q2, q3⟩ := hD.x.four4
                have qlt := hD.x.lt
                obtain ⟨v0, v1, v2⟩ := hD.vw.three
                have vlt := hD.vw.lt
                have hm6 : n = m6 := (hD.regs.2.1.trans HLEN.out).symm
                subst hm6
                simp only [sl] at v0
                have hm5 := hD.st.doc.len
                simp only at hm5
                have HWL := Lib.hid hD.st.st.len
                have hm5n : n = m5 := (hm5.trans HWL.out).symm
                subst hm5n
                have HRO := Lib.hid (own_liesR (A := A6) (n := n) (c := c6) (by have := hD.regs.1; rwa [HLEN.out] at this))
                clear hD hG hm5
                go_wp2_with (first
                  | (go_at_call 19; first
                      | (with_reducible refine (dregs_yes HGL.out HRO.out HLEN.out (by omega)).mono ?_; rintro e wy ⟨rfl, my, rfl⟩; have HDY := Lib.hid (HD.out.st.on (Below.draws (Below.refl _ _) my)))
                      | (with_reducible refine (dregs_yes HL8.out HA9.out HWL.out (by omega)).mono ?_; rintro e wz ⟨rfl, mz, rfl⟩; have HDZ := Lib.hid (HD9.out.on (Below.draws (Below.refl _ _) mz))))
                  | (go_at_call 20; refine (rall_at HDY.out.st.regs HWL.out).mono ?_; rintro e w8 ⟨b8, rfl, _, hr8, hb8⟩; have HR8 := Lib.hid hr8; have HD8 := Lib.hid (HDY.out.on hb8); clear hr8 hb8)
                  | (go_at_call 21; refine (dall_at HD8.out.doc.lies HD8.out.st.regs.words.ok HWL.out (by omega) h64).mono ?_; rintro e w9 ⟨b10, c10, rfl, _, hr9, hb9⟩; have HA9 := Lib.hid hr9; have HL8 := Lib.hid (HR8.out.below hb9 HR8.out.lt).liesR; have HD9 := Lib.hid (HD8.out.on hb9); clear hr9 hb9))
                go_roundw
                case rel => exact ⟨j + 1, by omega, by go_num, _, _, _, _, _, rfl, HDZ.out⟩
                case measure => simp [intOf]; omega
      have e1 : (k == 1) = false := by simpa using k1
      have e2 : (k == 2) = false := by simpa using k2
      have e3 : (k == 3) = false := by simpa using k3
      clear k1 k2 k3
      go_wp2
      go_roundw
      case rel => exact ⟨j + 1, by omega, by go_num, _, _, _, _, _, rfl, (HC.out.begin [.int .u8 k, .int .i64 0, .int .u32 0, .int .i64 0] [.int .u32 0, .int .u32 0]).calls⟩
      case measure => simp [intOf]; omega
    · obtain rfl : j = ops.length := by omega
      go_wp2_with (go_at_call 11; refine (rbegins_any _).mono ?_; rintro e w0 ⟨rfl, hb⟩; have HB0 := Lib.hid hb; clear hb)
      go_ret
      exact ⟨rfl, HC.out.st.low.trans (HB0.out.mono HC.out.st.low.size)⟩
end Go.Proofs.Ytdadgppbpomdoaa
