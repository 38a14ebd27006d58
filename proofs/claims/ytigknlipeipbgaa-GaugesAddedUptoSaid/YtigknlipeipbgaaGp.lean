/- THE WALK of the law 'GaugesAdded'. -/
import Derived.Test.YtigknlipeipbgaaGo
import Derived.Test.YtigknlipeipbgaaGn
namespace Go.Proofs.Ytigknlipeipbgaa
open Go Go.RowKit

theorem gstep_is {w : World} {bk bw bp T T' : Nat} {o : OpG} {v : Value} {l : Bool} (h : Words w bk bw [(T : Int)]) (hT : B64 T) (hp : Row w bp 127 (opG bk o)) (ho : OkG o) (hw : wordG T o = T') (hv : didG T o = v) (hl : decide ((stepG T o).ph = 2) = l) :
    Calls Try.prog 19 #[.pointer (some ⟨bp, 0, none⟩)] w (StepsG w bk bw bp T' (stepG T o) (.tuple #[v, .bool l])) := by
  subst hw
  subst hv
  subst hl
  exact gstep_op h hT hp ho
theorem ganswer_at {w : World} {bp bk a : Nat} {o : OpG} (h : Row w bp 127 (opG bk o)) (ha : o.ans = a) :
    Calls Try.prog 22 #[.pointer (some ⟨bp, 0, none⟩)] w fun e w' => e = .returned (.float .f64 a) ∧ w = w' := by
  subst ha
  exact ganswer_op h
theorem AddM.prow {W wr : World} {bg bk bw T gl q b : Nat} {os : List OpG} {bs ld : List Nat} {vp vo : Value} {ord : List Int} {o : OpG} (h : AddM W bg bk bw T os bs vp vo ord gl ld wr) (ho : os[q]? = some o) (hb : bs[q]? = some b) : Row wr b 127 (opG bk o) := h.many.pends.row q o b ho hb
theorem quiet_behind {P : Program} {f : FuncId} {args : Array Value} {w : World} {a n : Nat} {v : Value} (h : Calls P f args (w.drewN (a + n)) fun e w' => e = .returned v ∧ w.drewN (a + n) = w') :
    Calls P f args (w.drewN (a + n)) fun e w'' => e = .returned v ∧ ∃ m, w'' = w.drewN (a + m) := h.mono fun _ _ h' => ⟨h'.1, n, h'.2.symm⟩
theorem quiet_behind2 {P : Program} {f : FuncId} {args : Array Value} {w : World} {a b n : Nat} {v : Value} (h : Calls P f args (w.drewN (a + (b + n))) fun e w' => e = .returned v ∧ w.drewN (a + (b + n)) = w') :
    Calls P f args (w.drewN (a + (b + n))) fun e w'' => e = .returned v ∧ ∃ m, w'' = w.drewN (a + (b + m)) := h.mono fun _ _ h' => ⟨h'.1, n, h'.2.symm⟩
theorem gbits_q {r p : Nat} (lr : B64 r) (h : GM.bitsOf r = p) (w : World) : Calls Try.prog 23 #[.float .f64 r] w fun e w' => e = .returned (.int .u64 (p : Int)) ∧ w' = w := (gbits_at lr h w).mono fun _ _ ⟨a, b⟩ => ⟨a, b.symm⟩
theorem rsame_q {a b : Nat} (la : B64 a) (lb : B64 b) (h : GM.bitsOf a = GM.bitsOf b) (w : World) : Calls Try.prog 21 #[.float .f64 a, .float .f64 b] w fun e w' => e = .returned (.bool true) ∧ w' = w := (run_same la lb h w).mono fun _ _ ⟨a, b⟩ => ⟨a, b.symm⟩
theorem AddM.drewN {W wr : World} {bg bk bw T gl : Nat} {os : List OpG} {bs ld : List Nat} {vp vo : Value} {ord : List Int} (h : AddM W bg bk bw T os bs vp vo ord gl ld wr) (n : Nat) : AddM W bg bk bw T os bs vp vo ord gl ld (wr.drewN n) := by
  induction n with
  | zero => exact h
  | succ n ih => exact ih.drew
set_option maxRecDepth 100000
set_option maxHeartbeats 25600000
theorem gadded_any {start : Nat} {A B : Option Addr} {cap cap' : Nat} {xs : List Nat} {zs : List Int} (W : World) (ls : B64 start) (hE : ExtF W A xs) (hr : xs.length ≤ 1048576) (hX : Ext .i64 W B zs) (hr' : zs.length ≤ 1048576) (hB : B = none → zs.length = 0 ∧ cap' = 0) :
    Calls Try.prog 6 #[.float .f64 start, .slice A xs.length cap, .slice B zs.length cap'] W fun e w' => e = .returned (.bool true) ∧ Below W.heap.size W w' := by
  obtain ⟨iI, hiI, hI0, hI1, hI2⟩ := info_parts infoIN
  obtain ⟨iU, hiU, hU0, hU1, hU2⟩ := info_parts infoU
  have HE := Lib.hid hE
  have HX := Lib.hid hX
  have HNB := Lib.hid hB
  have LS := Lib.hid ls
  clear hE hX ls hB
  go_enter Try.func6, Try.ntmps6
  go_wp2_with (first
    | (go_at_call 12; refine (glives_any _).mono ?_; rintro e w0 ⟨rfl, hb⟩; have HB0 := Lib.hid hb; clear hb)
    | (go_at_call 13; refine (gnew_any _).mono ?_; rintro e w1 ⟨bg, bk, bw, rfl, hg, hk, hw, hS, hb⟩; have HO1 := Lib.hid (own_first HB0.out hS hw hb); clear hg hk hw hS hb)
    | (go_at_call 14; refine (gset_any HO1.out.gau LS.out).mono ?_; rintro e w2 ⟨rfl, hS, hP⟩; have HO2 := Lib.hid (HO1.out.next hS hP); clear hS hP)
    | (go_at_call 31; refine (gbegun_any (k := 3) HO2.out (by omega) HE.out (by omega)).mono ?_; rintro e w3 ⟨vp, bs, rfl, hM⟩; have HLN : Hid (bs.length = xs.length) := Lib.hid (by have := hM.pends.len; rw [List.length_map] at this; exact this); have HM3 := Lib.hid hM; have hpf := own_form hM.ps; obtain ⟨pa, pc, hvp⟩ := hpf; subst hvp; have hln : ((bs.length : Int) != (xs.length : Int)) = false := (by have := HLN.out; simp; omega); have hbl : bs.length ≤ 1048576 := (by have := HLN.out; omega); clear hM)
    | (at_builtin; refine wpList_append_any rfl _ _ 24 rfl W.heap.size 3 iI (.int .i64 0) 1 8 Try.underlying24 hiI hI0 hI1 hI2 rfl (by decide) (.slice none 0 0) 0 [] rfl ⟨rfl, .inl ⟨rfl, rfl⟩⟩ B zs.length cap' (i64s zs) rfl (by simp [i64s]) HNB.out (fun ad had j u hj => by
        have hx : ∃ x, zs[j]? = some x ∧ u = .int .i64 x := by
          simp only [i64s, List.getElem?_map] at hj
          obtain ⟨x, h1, h2⟩ := Option.map_eq_some_iff.1 hj
          exact ⟨x, h1, h2.symm⟩
        obtain ⟨x, h1, rfl⟩ := hx
        obtain ⟨b, o, e1, _, e2⟩ := (HX.out.on HM3.out.low) j x h1
        rw [had] at e1
        cases e1
        rw [Addr.add_lit]
        exact e2) (all_ints zs) (by unfold maxLen; omega) (by omega) HM3.out.low.size ?_; intro vo w4 hown4 hgr4; have HZ4 : Hid (w4.ownsRow W.heap.size 3 1 vo (zs.length + 3 * 0) (i64s (ordI zs 0))) := Lib.hid (by rw [ordI_zero]; simpa using hown4); have HM4 := Lib.hid (HM3.out.on ((Below.refl _ _).grown hgr4 (Nat.le_refl _) (by simp [Value.ownBlock]))); clear hown4 hgr4))
  go_loopw [9, 40] (fun vo u wr => ∃ j : Nat, j ≤ bs.length ∧ u = .int .i64 j ∧ wr.ownsRow W.heap.size 3 1 vo (zs.length + 3 * j) (i64s (ordI zs j)) ∧ ManyG W bg bk bw (GM.bitsOf start) (xs.map (newG 3)) bs (.slice pa bs.length pc) wr) (fun _ u _ => bs.length - (intOf u).toNat)
  case atStart => exact ⟨0, Nat.zero_le _, rfl, HZ4.out, HM4.out⟩
  case round =>
    obtain ⟨j, hj, rfl, hZ, hM⟩ := hrel
    have HZ := Lib.hid hZ
    have HM := Lib.hid hM
    clear hZ hM HM4 HZ4
    by_cases hlt : j < bs.length
    · have hlt2 : (j : Int) < (bs.length : Int) := by omega
      go_wp2_with (at_builtin; refine wpList_append_own _ rfl _ _ 24 rfl W.heap.size 3 iI (.int .i64 0) 1 8 Try.underlying24 hiI hI0 hI1 hI2 rfl (by decide) _ _ _ rfl (HZ.out.alloc _) ⟨wr.heap.size, 0, none⟩ 3 3 [.int .i64 (j : Int), .int .i64 (j : Int), .int .i64 (j : Int)] rfl rfl (new_cells _ _ _) (three_ints _) (by unfold maxLen; omega) (by omega) (by have := HM.out.low.size; simp; omega) ?_; intro vo' w6 hown6 hgr6 _; have HZ6 : Hid (w6.ownsRow W.heap.size 3 1 vo' (zs.length + 3 * (j + 1)) (i64s (ordI zs (j + 1)))) := Lib.hid (by rw [← ordI_next]; exact hown6); have HM6 := Lib.hid ((HM.out.alloc _).grown (HZ.out.alloc _) (Nat.le_refl _) hgr6 (by decide) (by decide) (by decide) (by decide) (by decide)); clear hown6 hgr6)
      go_roundw
      case rel => exact ⟨j + 1, by omega, by go_num, HZ6.out, HM6.out⟩
      case measure => simp [intOf]; omega
    · obtain rfl : j = bs.length := by omega
      have hbu : iU.bytes * bs.length ≤ 281474976710656 := by rw [hU2]; omega
      have hmu : bs.length ≤ maxLen := by unfold maxLen; omega
      obtain ⟨oa, oc, hvo⟩ := own_form HZ.out
      subst hvo
      have HOL := Lib.hid (ordI_length zs bs.length)
      go_wp2_with (first
        | (go_at_call 23; (with_reducible refine (gbits_any LS.out _).mono ?_); rintro e wx ⟨rfl, rfl⟩)
        | (at_make; refine wpList_make_full _ rfl _ _ 60 rfl wr.heap.size 29 iU (.int .u64 0) 1 Try.underlying60 hiU hU0 hU1 .i64 .i64 bs.length bs.length bs.length rfl rfl rfl rfl hbu hmu (Nat.le_refl _) ?_; intro w7 hown7 hgr7; have hrw := row_of_full hown7; rw [n64s_made] at hrw; have HA7 : Hid (AddM W bg bk bw (GM.bitsOf start) (xs.map (newG 3)) bs (.slice pa bs.length pc) (.slice oa (zs.length + 3 * bs.length) oc) (ordI zs bs.length) wr.heap.size (List.replicate bs.length 0) w7) := Lib.hid ⟨HM.out.on ((Below.refl _ _).grown hgr7 (Nat.le_refl _) (by simp)), by rw [HOL.out]; exact own_part HZ.out (Part.grown (Part.refl [] _) hgr7 (by simp)) (by simp), hrw, HM.out.low.size, by simp⟩; clear hown7 hgr7 hrw))
      obtain ⟨gl, hgl⟩ : ∃ gl, wr.heap.size = gl := ⟨_, rfl⟩
      rw [hgl] at HA7 ⊢
      clear hgl
      go_loopw [11, 13, 57] (fun sv dv u wr => ∃ j : Nat, j ≤ zs.length + 3 * bs.length ∧ u = .int .i64 j ∧ ∃ T os ld, sv = .int .u64 ((T : Nat) : Int) ∧ dv = .int .i64 ((oversG os : Nat) : Int) ∧ AddM W bg bk bw T os bs (.slice pa bs.length pc) (.slice oa (zs.length + 3 * bs.length) oc) (ordI zs bs.length) gl ld wr ∧ AddI xs T os ld ∧ LateI zs.length j T os) (fun _ _ u _ => zs.length + 3 * bs.length - (intOf u).toNat)
      case atStart => exact ⟨0, Nat.zero_le _, rfl, _, _, _, rfl, by rw [oversG_new]; rfl, HA7.out, ⟨GM.bits_bits start, fun q o ho => by
          rw [List.getElem?_map] at ho
          obtain ⟨x, hx, rfl⟩ := Option.map_eq_some_iff.1 ho
          exact ⟨rfl, hx, by simp [newG]⟩⟩, LateI.start _ _ _⟩
      case round =>
        obtain ⟨j, hj, rfl, T, os, ld, rfl, rfl, hA, hI, hL⟩ := hrel
        have HA := Lib.hid hA
        have HI := Lib.hid hI
        have HL := Lib.hid hL
        clear hA hI hL HA7
        by_cases hlt : j < zs.length + 3 * bs.length
        · have hlt2 : (j : Int) < ((zs.length + 3 * bs.length : Nat) : Int) := by omega
          have hlt3 : (j : Int) < (zs.length : Int) + 3 * (bs.length : Int) := by omega
          obtain ⟨k, hk⟩ : ∃ k, (ordI zs bs.length)[j]? = some k := ⟨_, List.getElem?_eq_getElem (by rw [HOL.out]; exact hlt)⟩
          have HK := Lib.hid hk
          have HLO : Hid (zs.length ≤ j → k = (((j - zs.length) / 3 : Nat) : Int)) := Lib.hid (fun h => by have := ordI_get_hi (n := bs.length) h hlt; rw [hk] at this; exact Option.some.inj this)
          obtain ⟨g9, c9, hv9, _, _⟩ := own_some HA.out.ordr (by rw [HOL.out]; omega)
          rw [HOL.out] at hv9
          cases hv9
          have q9 := own_cell (by have := HA.out.ordr; rw [HOL.out] at this; exact this) (i64s_get hk)
          clear hk
          by_cases hk0 : k < 0
          · go_wp2
            go_roundw
            case rel => exact ⟨j + 1, by omega, by go_num, T, os, ld, rfl, rfl, HA.out, HI.out, HL.out.skip (fun h => by have := HLO.out h; omega)⟩
            case measure => simp [intOf]; omega
          by_cases hkn : (bs.length : Int) ≤ k
          · go_wp2
            go_roundw
            case rel => exact ⟨j + 1, by omega, by go_num, T, os, ld, rfl, rfl, HA.out, HI.out, HL.out.skip (fun h => by have := HLO.out h; omega)⟩
            case measure => simp [intOf]; omega
          obtain ⟨q, rfl⟩ := Int.eq_ofNat_of_zero_le (show 0 ≤ k by omega)
          have hqn : q < bs.length := by omega
          obtain ⟨o, b, g, c, ho, hb, hv, hc, hR, hok⟩ := HA.out.many.get hqn
          cases hv
          have hq2 : (q : Int) < (bs.length : Int) := by omega
          have HOo := Lib.hid ho
          have HBb := Lib.hid hb
          have HRr := Lib.hid hR
          have HOK := Lib.hid hok
          have HQ : Hid (zs.length ≤ j → q = (j - zs.length) / 3) := Lib.hid (fun h => by have := HLO.out h; omega)
          clear ho hb hR
          by_cases h2 : o.ph = 2
          · have HD : Hid (decide (o.ph = 2) = true) := Lib.hid (by simp [h2])
            have H2 := Lib.hid h2
            clear h2 hok
            go_wp2_with (go_at_call 20; refine (gdone_at HRr.out HOK.out.ph HD.out).mono ?_; rintro e wx ⟨rfl, rfl⟩)
            go_roundw
            case rel => exact ⟨j + 1, by omega, by go_num, T, os, ld, rfl, rfl, HA.out, HI.out, HL.out.skip (fun h => ⟨o, by rw [← HQ.out h]; exact HOo.out, H2.out⟩)⟩
            case measure => simp [intOf]; omega
          have HD : Hid (decide (o.ph = 2) = false) := Lib.hid (by simp [h2])
          obtain ⟨x, hx⟩ : ∃ x, ld[q]? = some x := ⟨_, List.getElem?_eq_getElem (by rw [HA.out.len]; exact hqn)⟩
          have l0 := (HA.out.row.cell q).trans (n64s_get hx)
          have HXx := Lib.hid hx
          have HQL : Hid (q < ld.length) := Lib.hid (lt_of_get hx)
          clear hx
          obtain ⟨ik, ix, il⟩ := HI.out.ops q o HOo.out
          have hT := HA.out.many.one.gau.ok
          have HTT := Lib.hid hT
          have HTC := Lib.hid HI.out.canon
          have HN2 := Lib.hid h2
          have HLS := Lib.hid (HL.out.step HOo.out HOK.out HTT.out HN2.out HQ.out)
          have HOV := Lib.hid (oversG_set (o' := stepG T o) HOo.out)
          have hov2 : oversG os ≤ 1048576 := by have := oversG_le os; have := HA.out.many.pends.len; omega
          by_cases h0 : o.ph = 0
          · have hp3 : putG o.k o.x T = some (addB T o.x) := by rw [ik]; rfl
            have HDI : Hid (didG T o = .agg #[.int .u8 1, .int .i64 0, .int .u64 (T : Int), .int .u64 (T : Int), .bool true]) := Lib.hid (by simp [didG, h0, ik])
            have HTW : Hid (wordG T o = T) := Lib.hid (by simp [wordG, h0, ik])
            have HSS : Hid (stepG T o = { o with ph := 1, saw := T, put := addB T o.x }) := Lib.hid (by simp [stepG, h0, ik, hp3, putG])
            have HLa : Hid (decide ((stepG T o).ph = 2) = false) := Lib.hid (by rw [HSS.out]; rfl)
            have HO0 : Hid (oversG (os.set q (stepG T o)) = oversG os) := Lib.hid (by have := HOV.out; rw [HSS.out] at this ⊢; simp [h0] at this; exact this)
            have HIN : Hid (AddI xs T (os.set q (stepG T o)) (ld.set q T)) := Lib.hid (by
              rw [HSS.out]
              exact HI.out.set HOo.out HTC.out rfl rfl (fun _ => List.getElem?_set_self HQL.out) (fun p hp => List.getElem?_set_ne (fun e => hp e.symm)))
            clear h0 h2 hok hp3 ik ix il hT
            go_wp2_with (first
              | (go_at_call 20; refine (gdone_at HRr.out HOK.out.ph HD.out).mono ?_; rintro e wx ⟨rfl, rfl⟩)
              | (go_at_call 19; refine (gstep_is HA.out.many.one.gau.words HTT.out HRr.out HOK.out HTW.out HDI.out HLa.out).mono ?_; intro e w2 hs; have hcp := hs; obtain ⟨he, _⟩ := hs; subst he; have HW2 := Lib.hid (HA.out.step HBb.out HTT.out (HOK.out.step HTT.out) hcp); have k0 := (HW2.out.row.cell q).trans (n64s_get HXx.out); have kf := HW2.out.row.free q; have klt := HW2.out.row.lt; clear hcp))
            go_roundw
            case rel => exact ⟨j + 1, by omega, by go_num, T, _, _, rfl, by rw [HO0.out], HW2.out.write.alloc _, HIN.out, by have := HLS.out; rw [HTW.out] at this; exact this⟩
            case measure => simp [intOf]; omega
          · have h1 : o.ph = 1 := by have := hok.ph; omega
            obtain ⟨f1, f2, f3⟩ := hok.loaded h1
            rw [ik] at f1
            have hput : o.put = addB o.saw o.x := (Option.some.inj f1).symm
            have hxs : x = o.saw := by have := il h1; rw [HXx.out] at this; exact Option.some.inj this
            by_cases e : T = o.saw
            · have HDI : Hid (didG T o = .agg #[.int .u8 5, .int .i64 0, .int .u64 (T : Int), .int .u64 (o.put : Int), .bool true]) := Lib.hid (by simp [didG, h1, e])
              have HTW : Hid (wordG T o = o.put) := Lib.hid (by simp [wordG, h1, e])
              have HSS : Hid (stepG T o = { o with ph := 2, ans := o.put }) := Lib.hid (by simp [stepG, h1, e])
              have HLa : Hid (decide ((stepG T o).ph = 2) = true) := Lib.hid (by rw [HSS.out]; rfl)
              have HO0 : Hid (oversG (os.set q (stepG T o)) = oversG os + 1) := Lib.hid (by have := HOV.out; rw [HSS.out] at this ⊢; simp [h1] at this; exact this)
              have HPC : Hid (GM.bitsOf o.put = o.put) := Lib.hid (by rw [hput]; exact addB_canon _ _)
              have HIN : Hid (AddI xs o.put (os.set q (stepG T o)) ld) := Lib.hid (by
                rw [HSS.out]
                exact HI.out.set HOo.out HPC.out rfl rfl (by simp) (fun p hp => rfl))
              have HPT : Hid (B64 o.put) := Lib.hid f2
              have HAN : Hid ((stepG T o).ans = o.put) := Lib.hid (by rw [HSS.out])
              have HOQ : Hid ((os.set q (stepG T o))[q]? = some (stepG T o)) := Lib.hid (List.getElem?_set_self (lt_of_get HOo.out))
              obtain ⟨bx, ox, rfl, hltx, qx, lx⟩ := (HE.out.on HA.out.many.low) q _ ix
              have HLX := Lib.hid lx
              have HPA : Hid (o.put = addB T o.x) := Lib.hid (by rw [e]; exact hput)
              have hxT : x = T := by omega
              subst hxT
              have HLT : Hid (bx < wr.heap.size) := Lib.hid hltx
              have HQX := Lib.hid qx
              have hb64 := run_frombits x
              have hqx : q < xs.length := by have := HLN.out; omega
              have hqx2 : (q : Int) < (xs.length : Int) := by omega
              obtain ⟨pt, hpt⟩ : ∃ pt, o.put = pt := ⟨_, rfl⟩
              rw [hpt] at HDI HTW HSS HPC HIN HPT HAN HPA
              clear h0 h1 h2 hok ik ix il hT f1 f2 f3 hput hxs e hpt lx
              cases hadd : Ieee.double.add x o.x with
              | some r =>
                have hq := fun t w => add_some hadd t w
                have HRP : Hid (GM.bitsOf r = pt) := Lib.hid (by rw [HPA.out]; unfold addB; rw [hadd])
                have HRL : Hid (B64 r) := Lib.hid (add_lt hadd)
                clear hadd
                go_wp2_with (first
                  | (go_at_call 20; refine (gdone_at HRr.out HOK.out.ph HD.out).mono ?_; rintro e wx ⟨rfl, rfl⟩)
                  | (go_at_call 19; refine (gstep_is HA.out.many.one.gau.words HTT.out HRr.out HOK.out HTW.out HDI.out HLa.out).mono ?_; intro e w2 hs; have hcp := hs; obtain ⟨he, _⟩ := hs; subst he; have HW2 := Lib.hid ((HA.out.step HBb.out HPT.out (HOK.out.step HTT.out) hcp).alloc (.cells #[.int .u8 5, .int .i64 0, .int .u64 (x : Int), .int .u64 (pt : Int), .bool true] 45)); have HA2 := Lib.hid (HA.out.step HBb.out HPT.out (HOK.out.step HTT.out) hcp); have k0 := (HA2.out.row.cell q).trans (n64s_get HXx.out); have kf := HA2.out.row.free q; have klt := HA2.out.row.lt; have qx2 := ((HE.out.on HA2.out.many.low) q _ (HI.out.ops q o HOo.out).2.1); obtain ⟨_, _, hee, hl2, qx3, _⟩ := qx2; cases hee; obtain ⟨o5, b5, g5, c5, ho5, hb5, hv5, hc5, hR5, _⟩ := HA2.out.many.get hqn; rw [HBb.out] at hb5; cases hb5; rw [HOQ.out] at ho5; cases ho5; cases hv5; have HR5 := Lib.hid hR5; have hg5 := World.block_lt_of_cell? _ _ hc5; clear hcp hR5))
                go_quiet (fail)
                go_wp2
                go_quiet ((first
                  | (go_at_call 23; first | exact Calls.quiet_of_same (gbits_q HRL.out HRP.out _) | exact quiet_behind (gbits_at HRL.out HRP.out _) | exact quiet_behind2 (gbits_at HRL.out HRP.out _))
                  | (go_at_call 22; first | exact Calls.quiet_of_same ((ganswer_at (by repeat (first | (with_reducible exact HR5.out) | (with_reducible refine Row.alloc ?_ _) | (with_reducible refine Row.drewN ?_ _) | (with_reducible refine Row.drew ?_))) HAN.out).mono fun _ _ ⟨a, b⟩ => ⟨a, b.symm⟩) | exact quiet_behind (ganswer_at (by repeat (first | (with_reducible exact HR5.out) | (with_reducible refine Row.alloc ?_ _) | (with_reducible refine Row.drewN ?_ _) | (with_reducible refine Row.drew ?_))) HAN.out) | exact quiet_behind2 (ganswer_at (by repeat (first | (with_reducible exact HR5.out) | (with_reducible refine Row.alloc ?_ _) | (with_reducible refine Row.drewN ?_ _) | (with_reducible refine Row.drew ?_))) HAN.out))
                  | (go_at_call 21; first | exact Calls.quiet_of_same (rsame_q HPT.out HRL.out (HPC.out.trans HRP.out.symm) _) | exact quiet_behind (run_same HPT.out HRL.out (HPC.out.trans HRP.out.symm) _) | exact quiet_behind2 (run_same HPT.out HRL.out (HPC.out.trans HRP.out.symm) _))))
                go_wp2
                go_roundw
                case rel => exact ⟨j + 1, by omega, by go_num, pt, _, _, rfl, by rw [HO0.out]; go_num, (by repeat (first | (with_reducible exact HA2.out) | (with_reducible refine AddM.alloc ?_ _) | (with_reducible refine AddM.drewN ?_ _) | (with_reducible refine AddM.drew ?_))), HIN.out, by have := HLS.out; rw [HTW.out] at this; exact this⟩
                case measure => simp [intOf]; omega
              | none =>
                have hq := fun t w => add_none hadd t w
                have HRP : Hid (∀ w, GM.bitsOf (nanAt x o.x w) = pt) := Lib.hid (fun w => by rw [HPA.out, (nan_at x o.x w).2]; unfold addB; rw [hadd])
                have HRL : Hid (∀ w, B64 (nanAt x o.x w)) := Lib.hid (fun w => (nan_at x o.x w).1)
                clear hadd
                go_wp2_with (first
                  | (go_at_call 20; refine (gdone_at HRr.out HOK.out.ph HD.out).mono ?_; rintro e wx ⟨rfl, rfl⟩)
                  | (go_at_call 19; refine (gstep_is HA.out.many.one.gau.words HTT.out HRr.out HOK.out HTW.out HDI.out HLa.out).mono ?_; intro e w2 hs; have hcp := hs; obtain ⟨he, _⟩ := hs; subst he; have HW2 := Lib.hid ((HA.out.step HBb.out HPT.out (HOK.out.step HTT.out) hcp).alloc (.cells #[.int .u8 5, .int .i64 0, .int .u64 (x : Int), .int .u64 (pt : Int), .bool true] 45)); have HA2 := Lib.hid (HA.out.step HBb.out HPT.out (HOK.out.step HTT.out) hcp); have k0 := (HA2.out.row.cell q).trans (n64s_get HXx.out); have kf := HA2.out.row.free q; have klt := HA2.out.row.lt; have qx2 := ((HE.out.on HA2.out.many.low) q _ (HI.out.ops q o HOo.out).2.1); obtain ⟨_, _, hee, hl2, qx3, _⟩ := qx2; cases hee; obtain ⟨o5, b5, g5, c5, ho5, hb5, hv5, hc5, hR5, _⟩ := HA2.out.many.get hqn; rw [HBb.out] at hb5; cases hb5; rw [HOQ.out] at ho5; cases ho5; cases hv5; have HR5 := Lib.hid hR5; have hg5 := World.block_lt_of_cell? _ _ hc5; clear hcp hR5))
                go_region
                all_goals go_wp2
                go_quiet ((first
                  | (go_at_call 23; first | exact Calls.quiet_of_same (gbits_q (HRL.out _) (HRP.out _) _) | exact quiet_behind (gbits_at (HRL.out _) (HRP.out _) _) | exact quiet_behind2 (gbits_at (HRL.out _) (HRP.out _) _))
                  | (go_at_call 22; first | exact Calls.quiet_of_same ((ganswer_at (by repeat (first | (with_reducible exact HR5.out) | (with_reducible refine Row.alloc ?_ _) | (with_reducible refine Row.drewN ?_ _) | (with_reducible refine Row.drew ?_))) HAN.out).mono fun _ _ ⟨a, b⟩ => ⟨a, b.symm⟩) | exact quiet_behind (ganswer_at (by repeat (first | (with_reducible exact HR5.out) | (with_reducible refine Row.alloc ?_ _) | (with_reducible refine Row.drewN ?_ _) | (with_reducible refine Row.drew ?_))) HAN.out) | exact quiet_behind2 (ganswer_at (by repeat (first | (with_reducible exact HR5.out) | (with_reducible refine Row.alloc ?_ _) | (with_reducible refine Row.drewN ?_ _) | (with_reducible refine Row.drew ?_))) HAN.out))
                  | (go_at_call 21; first | exact Calls.quiet_of_same (rsame_q HPT.out (HRL.out _) (HPC.out.trans (HRP.out _).symm) _) | exact quiet_behind (run_same HPT.out (HRL.out _) (HPC.out.trans (HRP.out _).symm) _) | exact quiet_behind2 (run_same HPT.out (HRL.out _) (HPC.out.trans (HRP.out _).symm) _))))
                go_wp2
                go_roundw
                case rel => exact ⟨j + 1, by omega, by go_num, pt, _, _, rfl, by rw [HO0.out]; go_num, (by repeat (first | (with_reducible exact HA2.out) | (with_reducible refine AddM.alloc ?_ _) | (with_reducible refine AddM.drewN ?_ _) | (with_reducible refine AddM.drew ?_))), HIN.out, by have := HLS.out; rw [HTW.out] at this; exact this⟩
                case measure => simp [intOf]; omega
            · have HDI : Hid (didG T o = .agg #[.int .u8 5, .int .i64 0, .int .u64 (T : Int), .int .u64 (T : Int), .bool false]) := Lib.hid (by simp [didG, h1, e])
              have HTW : Hid (wordG T o = T) := Lib.hid (by simp [wordG, h1, e])
              have HSS : Hid (stepG T o = { o with ph := 0 }) := Lib.hid (by simp [stepG, h1, e])
              have HLa : Hid (decide ((stepG T o).ph = 2) = false) := Lib.hid (by rw [HSS.out]; rfl)
              have HO0 : Hid (oversG (os.set q (stepG T o)) = oversG os) := Lib.hid (by have := HOV.out; rw [HSS.out] at this ⊢; simp [h1] at this; exact this)
              have HIN : Hid (AddI xs T (os.set q (stepG T o)) ld) := Lib.hid (by
                rw [HSS.out]
                exact HI.out.set HOo.out HTC.out rfl rfl (by simp) (fun p hp => rfl))
              have hxne : ¬ x = T := by omega
              have hxn1 : ((T : Int) == (x : Int)) = false := by simp; omega
              have hxn2 : ((x : Int) == (T : Int)) = false := by simp; omega
              clear h0 h1 h2 hok ik ix il hT f1 f2 f3 hput hxs e
              go_wp2_with (first
                | (go_at_call 20; refine (gdone_at HRr.out HOK.out.ph HD.out).mono ?_; rintro e wx ⟨rfl, rfl⟩)
                | (go_at_call 19; refine (gstep_is HA.out.many.one.gau.words HTT.out HRr.out HOK.out HTW.out HDI.out HLa.out).mono ?_; intro e w2 hs; have hcp := hs; obtain ⟨he, _⟩ := hs; subst he; have HA2 := Lib.hid (HA.out.step HBb.out HTT.out (HOK.out.step HTT.out) hcp); have k0 := (HA2.out.row.cell q).trans (n64s_get HXx.out); have kf := HA2.out.row.free q; have klt := HA2.out.row.lt; clear hcp))
              go_quiet (fail)
              go_wp2
              go_roundw
              case rel => exact ⟨j + 1, by omega, by go_num, T, _, _, rfl, by rw [HO0.out], (by repeat (first | (with_reducible exact HA2.out) | (with_reducible refine AddM.alloc ?_ _) | (with_reducible refine AddM.drewN ?_ _) | (with_reducible refine AddM.drew ?_))), HIN.out, by have := HLS.out; rw [HTW.out] at this; exact this⟩
              case measure => simp [intOf]; omega
        · obtain rfl : j = zs.length + 3 * bs.length := by omega
          have HALL : Hid (∀ (i : Nat) (o : OpG), os[i]? = some o → o.ph = 2) := Lib.hid (fun i o ho => HL.out.over i o (by have := lt_of_get ho; have := HA.out.many.pends.len; omega) ho)
          have HOA : Hid (oversG os = xs.length) := Lib.hid (by rw [oversG_all HALL.out, ← HA.out.many.pends.len, HLN.out])
          have HTC := Lib.hid HI.out.canon
          rw [HOA.out]
          go_wp2
          go_loopw [20, 171] (fun _ u wr => ∃ j : Nat, j ≤ bs.length ∧ u = .int .i64 j ∧ AddM W bg bk bw T os bs (.slice pa bs.length pc) (.slice oa (zs.length + 3 * bs.length) oc) (ordI zs bs.length) gl ld wr) (fun _ u _ => bs.length - (intOf u).toNat)
          case atStart => exact ⟨0, Nat.zero_le _, rfl, HA.out⟩
          case round =>
            obtain ⟨j, hj, rfl, hA⟩ := hrel
            have HAA := Lib.hid hA
            clear hA
            by_cases hlt : j < bs.length
            · obtain ⟨o, b, g, c, ho, hb, hv, hc, hR, hok⟩ := HAA.out.many.get hlt
              cases hv
              have hlt2 : (j : Int) < (bs.length : Int) := by omega
              have HD : Hid (decide (o.ph = 2) = true) := Lib.hid (by rw [HALL.out j o ho]; rfl)
              have HRr := Lib.hid hR
              have HOK := Lib.hid hok
              clear ho hb hR hok
              go_wp2_with (go_at_call 20; refine (gdone_at HRr.out HOK.out.ph HD.out).mono ?_; rintro e wx ⟨rfl, rfl⟩)
              go_roundw
              case rel => exact ⟨_, _, _, _, _, _, _, _, _, _, ⟨j + 1, by omega, by go_num, HAA.out⟩, rfl⟩
              case measure =>
                show bs.length - (intOf (Value.int .i64 ((j : Int) + 1))).toNat < bs.length - (intOf (Value.int .i64 (j : Int))).toNat
                simp [intOf]; omega
            · obtain rfl : j = bs.length := by omega
              go_wp2_with (first
                | (go_at_call 24; refine (gget_any HAA.out.many.one.gau).mono ?_; rintro e w9 ⟨rfl, hS, hP⟩; have HM9 := Lib.hid (HAA.out.many.word hS hP); clear hS hP)
                | (go_at_call 23; (with_reducible refine (gbits_at HM9.out.one.gau.ok HTC.out _).mono ?_); rintro e wx ⟨rfl, rfl⟩))
              go_ret
              exact ⟨by simp, HM9.out.low⟩
end Go.Proofs.Ytigknlipeipbgaa
