/- THE WALK of the law 'RingStill'. -/
import Derived.Test.YtjehcgeodcpcaaaLe
namespace Go.Proofs.Ytjehcgeodcpcaaa
open Go Go.RowKit

set_option maxRecDepth 100000
theorem rstill_no {n wd : Int} (hn : n < 1 ∨ 4096 < n ∨ wd < 1 ∨ 1152921504606846976 < wd) {A B : Option Addr} {len cap len' cap' : Nat} (W : World) :
    Calls Try.prog 5 #[.int .i64 n, .int .i64 wd, .slice A len cap, .slice B len' cap'] W fun e w' => e = .returned (.bool true) ∧ Below W.heap.size W w' := by
  have HN := Lib.hid hn
  clear hn
  go_enter Try.func5, Try.ntmps5
  go_wp2_with (first
    | (go_at_call 7; refine (lives_any _).mono ?_; rintro e w0 ⟨rfl, hb⟩; have HB0 := Lib.hid hb; clear hb)
    | (go_at_call 8; refine (rnew_no HN.out _).mono ?_; rintro e w' ⟨rfl, rfl⟩))
  go_ret
  exact ⟨rfl, HB0.out⟩
theorem below_alloc {w : World} (o : Obj) : Below w.heap.size w (w.alloc o) := (Below.refl _ _).alloc (Nat.le_refl _) o
set_option maxHeartbeats 25600000
theorem rstill_yes {n : Nat} {wd : Int} (h1 : 1 ≤ n) (h2 : n ≤ 4096) (h3 : 1 ≤ wd) (h4 : wd ≤ 1152921504606846976) {A B : Option Addr} {cap cap' : Nat} {ops : List (Int × Int × Int)} {ks : List Int} (W : World) (hE : Ext3 .u8 .i64 .u64 W A ops) (hwf : ∀ op ∈ ops, op.2.1 ≤ 9223372036854775807 ∧ U64 op.2.2) (hr : ops.length * 24 ≤ 140737488351232) (hX : Ext .i64 W B ks) (hr3 : ks.length * 8 ≤ 140737488351232) :
    Calls Try.prog 5 #[.int .i64 (n : Int), .int .i64 wd, .slice A ops.length cap, .slice B ks.length cap'] W fun e w' => e = .returned (.bool true) ∧ Below W.heap.size W w' := by
  obtain ⟨ip, hip, hp0, hp1, hp2⟩ := info_parts infoPN
  have HE := Lib.hid hE
  have HWF := Lib.hid hwf
  have HXS := Lib.hid hX
  clear hE hwf hX
  go_enter Try.func5, Try.ntmps5
  go_wp2_with (first
    | (go_at_call 7; refine (lives_any _).mono ?_; rintro e w0 ⟨rfl, hb⟩; have HB0 := Lib.hid hb; clear hb)
    | (go_at_call 8; refine (rnew_yes w0 h1 h2 h3 h4).mono ?_; rintro e w1 ⟨br, bk, bw, rfl, _, _, hbw, hR, hb⟩; have HR1 := Lib.hid hR; have HBW := Lib.hid (Nat.le_trans HB0.out.size hbw); have HB1 := Lib.hid (HB0.out.trans (hb.mono HB0.out.size)); clear hbw hR hb)
    | (go_at_call 23; refine (near_any h1 h2 h3 h4 (HE.out.on HB1.out) HWF.out hr).mono ?_; rintro e w2 ⟨vl, l, tot, lo, hi, rfl, hll, hown, hnr, hb⟩; have HNR := Lib.hid hnr; have HLL := Lib.hid hll; have HA2 : Hid (CrowdN W br bk bw wd (List.replicate n 0) [] [] [] l (.slice none 0 0) vl w2) := Lib.hid ⟨HR1.out.on hb, World.ownsRow_nil _ _ _ _, own_base hown HB1.out.size, ⟨rfl, by simp, by simp, by simp, by simp⟩, HBW.out, HB1.out.trans (hb.mono HB1.out.size)⟩; obtain ⟨al, cl, rfl⟩ := own_form hown; clear hll hown hnr hb))
  obtain ⟨ws0, hws0⟩ : ∃ ws0, List.replicate n (0 : Int) = ws0 := ⟨_, rfl⟩
  have HW0 := Lib.hid hws0
  rw [hws0] at HA2
  have HLEN0 : Hid (ws0.length = n) := Lib.hid (by rw [← hws0]; exact List.length_replicate ..)
  clear hws0
  go_loopw [12, 13, 14, 58] (fun vp tt lt i wr => ∃ j : Nat, j ≤ l.length ∧ i = .int .i64 j ∧ ∃ bs lat, tt = .int .u64 (sumM (l.take j)) ∧ lt = .int .i64 lat ∧ bs.length = j ∧ LateN (l.take j) lat ∧ CrowdN W br bk bw wd ws0 ((l.take j).map (newOp wd n)) bs bs l vp (.slice al l.length cl) wr) (fun _ _ _ i _ => l.length - (intOf i).toNat)
  case atStart => exact ⟨0, Nat.zero_le _, rfl, [], 0, rfl, rfl, rfl, LateN.nil, HA2.out⟩
  case round =>
    obtain ⟨j, hj, rfl, bs, lat, rfl, rfl, hbj, hlate, hA⟩ := hrel
    have HA := Lib.hid hA
    have HLT := Lib.hid hlate
    have HBJ := Lib.hid hbj
    clear hA hlate hbj HA2 HR1 HBW HB1 HB0
    by_cases hlt : j < l.length
    · obtain ⟨op, hop⟩ : ∃ op, l[j]? = some op := ⟨l[j], List.getElem?_eq_getElem hlt⟩
      obtain ⟨gl, cl2, hvl, _, _⟩ := own_some HA.out.ls (by omega)
      cases hvl
      obtain ⟨e0, e1, e2, hbl⟩ := HA.out.cells hop
      have hlt2 : (j : Int) < (l.length : Int) := by omega
      have hj3 : j * 3 ≤ 17592186044416 := by have := HLL.out; omega
      obtain ⟨hk, hf, ht⟩ := HNR.out.fine h3 (List.mem_of_getElem? hop)
      have HF := Lib.hid hf
      have HT := Lib.hid ht
      have HTK : Hid (l.take (j + 1) = l.take j ++ [op]) := Lib.hid (by rw [List.take_add_one, hop]; rfl)
      have hsum := sum_take (l := l.map fun op => op.2.2) (fun x hx => by obtain ⟨o, ho, rfl⟩ := List.mem_map.1 hx; exact (HNR.out.ops o ho).2.2.2.1.1) (j + 1)
      have hsum0 := sum_take (l := l.map fun op => op.2.2) (fun x hx => by obtain ⟨o, ho, rfl⟩ := List.mem_map.1 hx; exact (HNR.out.ops o ho).2.2.2.1.1) j
      rw [← List.map_take] at hsum hsum0
      obtain ⟨k, t, m⟩ := op
      dsimp only at e0 e1 e2 HF HT hk
      subst hk
      obtain ⟨S, hS⟩ : ∃ S, sumM (l.take j) = S := ⟨_, rfl⟩
      have hS1 : sumM (l.take (j + 1)) = S + m := by rw [HTK.out, sumM_snoc, hS]
      have s0 : 0 ≤ S := by rw [← hS]; exact hsum0.1
      have s1 : S + m ≤ 4294967295 := by rw [← hS1]; have h5 := HNR.out.sm; have h6 := HNR.out.top.2; have h7 : (l.map fun op => op.2.2).sum = sumM l := rfl; have h8 : ((l.take (j + 1)).map fun op => op.2.2).sum = sumM (l.take (j + 1)) := rfl; rw [h7, h8] at hsum; omega
      have hm0 := HF.out.num.1
      have HS1 := Lib.hid hS1
      rw [hS]
      clear hop hf ht hsum hsum0 hS hS1
      have hla0 := HLT.out.1.1
      have hla1 := HLT.out.1.2
      have HO := Lib.hid (Row.new wr 39 [.int .u8 1, .int .i64 t, .int .u64 m])
      have HAo := Lib.hid (HA.out.on (below_alloc (.cells #[.int .u8 1, .int .i64 t, .int .u64 m] 39)))
      have o0 := HO.out.cell 0
      have o1 := HO.out.cell 1
      have o2 := HO.out.cell 2
      have olt := HO.out.lt
      have hbl2 : bs.length + 1 ≤ l.length := by have := HBJ.out; omega
      have H3 : Hid (bs.length + 1 ≤ maxLen) := Lib.hid (by have := HLL.out; unfold maxLen; omega)
      have H4 : Hid ((bs.length + 1) * 8 ≤ 140737488355328) := Lib.hid (by have := HLL.out; omega)
      clear hbl2
      go_wp2_with (first
        | (go_at_call 10; refine (nstart_op HAo.out.rng HT.out HF.out).mono ?_; rw [HLEN0.out]; rintro e w5 ⟨bp, rfl, hn5, hr5, hb5⟩; have HB5 := Lib.hid ((below_alloc (.cells #[.int .u8 1, .int .i64 t, .int .u64 m] 39)).trans (hb5.mono (by simp))); have HN5 := Lib.hid (Nat.le_trans (show wr.heap.size ≤ (wr.alloc (.cells #[.int .u8 1, .int .i64 t, .int .u64 m] 39)).heap.size by simp) hn5); have HR5 := Lib.hid hr5; have HA5 := Lib.hid (HAo.out.on hb5); have hO5 := HO.out.below hb5 HO.out.lt; have HO5 := Lib.hid hO5; have H5 : Hid (W.heap.size ≤ (w5.alloc (.cells #[.pointer (some ⟨bp, 0, none⟩)] 40)).heap.size) := Lib.hid (by have := HA5.out.low.size; simp; omega); clear hb5 hn5 hr5 hO5)
        | (at_builtin; refine wpList_append_own _ rfl _ _ 34 rfl W.heap.size 40 ip (.pointer none) 1 8 Try.underlying34 hip hp0 hp1 hp2 rfl (by decide) _ _ _ rfl (HA5.out.ps.alloc _) ⟨w5.heap.size, 0, none⟩ 1 1 [.pointer (some ⟨bp, 0, none⟩)] rfl rfl (new_cells _ _ _) (one_ptr _) H3.out H4.out H5.out ?_; intro vp' w7 hown7 hgr7 _; have HO7 := Lib.hid hown7; have HG7 := Lib.hid hgr7; have hR7 := (HO5.out.alloc (.cells #[.pointer (some ⟨bp, 0, none⟩)] 40)).grown hgr7 (own_not_in HA5.out.ps HO5.out (by decide)); have p1 := hR7.cell 1; have p2 := hR7.cell 2; have plt := hR7.lt; clear hown7 hgr7 hR7))
      go_roundw
      case rel => exact ⟨j + 1, by omega, by go_num, bs ++ [bp], max lat t, by rw [HS1.out], rfl, by rw [List.length_append, List.length_singleton, HBJ.out], by rw [HTK.out]; exact HLT.out.snoc HF.out.t0 HT.out, by rw [HTK.out, List.map_append]; have := HA.out.grow HF.out HB5.out (by rw [HLEN0.out]; exact HR5.out) HN5.out HO7.out HG7.out; rw [HLEN0.out] at this; exact this⟩
      case measure => simp [intOf]; omega
    · obtain rfl : j = l.length := by omega
      rw [List.take_length] at HA HLT
      have HST : Hid (StillN (lat / wd).toNat ws0 (l.map (newOp wd n))) := Lib.hid (by rw [← HW0.out]; exact StillN.start h3 h1 h2 HNR.out HLT.out)
      have HFL := Lib.hid (HLT.out.tick h3 HNR.out)
      have HTL := Lib.hid HLT.out.1.2
      obtain ⟨Q, hQ⟩ : ∃ Q, (lat / wd).toNat = Q := ⟨_, rfl⟩
      rw [hQ] at HST HFL
      have HTO : Hid (totN (l.map (newOp wd n)) = sumM l) := Lib.hid (totN_new wd n l)
      obtain ⟨T, hT⟩ : ∃ T, sumM l = T := ⟨_, rfl⟩
      rw [hT] at HTO
      have HT0 : Hid (0 ≤ T ∧ T ≤ 4294967295) := Lib.hid (by rw [← hT, HNR.out.sm]; exact HNR.out.top)
      rw [List.take_length, hT]
      have hbl : bs.length ≤ 5864062014634 := by have h5 := HBJ.out; have h6 := HLL.out; omega
      obtain ⟨os0, hos0⟩ : ∃ os0, l.map (newOp wd n) = os0 := ⟨_, rfl⟩
      rw [hos0] at HST HTO HA
      obtain ⟨ap, cp0, rfl⟩ := own_form HA.out.ps
      clear hQ hT hos0 HW0 HLT
      go_wp2
      go_loopw [89] (fun i wr => ∃ j : Nat, j ≤ ks.length ∧ i = .int .i64 j ∧ ∃ ws os, ws.length = n ∧ StillN Q ws os ∧ totN os = T ∧ CrowdN W br bk bw wd ws os bs bs l (.slice ap bs.length cp0) (.slice al l.length cl) wr) (fun i _ => ks.length - (intOf i).toNat)
      case atStart => exact ⟨0, Nat.zero_le _, rfl, _, _, HLEN0.out, HST.out, HTO.out, HA.out⟩
      case round =>
        obtain ⟨j, hj, rfl, ws, os, hwl, hst, hto, hA⟩ := hrel
        clear HST HTO HA
        have HA := Lib.hid hA
        have HST := Lib.hid hst
        have HTO := Lib.hid hto
        have HWL := Lib.hid hwl
        clear hA hst hto hwl
        by_cases hlt : j < ks.length
        · obtain ⟨k, hk⟩ : ∃ k, ks[j]? = some k := ⟨ks[j], List.getElem?_eq_getElem hlt⟩
          obtain ⟨b, o, rfl, hbx, e0⟩ := (HXS.out.on HA.out.low) j _ hk
          have hlt2 : (j : Int) < (ks.length : Int) := by omega
          have hj8 : j ≤ 17592186043904 := by omega
          clear hk
          by_cases hk0 : k < 0
          · go_wp2
            go_roundw
            case rel => exact ⟨j + 1, by omega, by go_num, ws, os, HWL.out, HST.out, HTO.out, HA.out⟩
            case measure => simp [intOf]; omega
          by_cases hkn : (bs.length : Int) ≤ k
          · go_wp2
            go_roundw
            case rel => exact ⟨j + 1, by omega, by go_num, ws, os, HWL.out, HST.out, HTO.out, HA.out⟩
            case measure => simp [intOf]; omega
          obtain ⟨q, rfl⟩ := Int.eq_ofNat_of_zero_le (show 0 ≤ k by omega)
          have hqb : q < bs.length := by omega
          obtain ⟨bp, gp, cp, hb, hvp, pc, gplt⟩ := HA.out.get hqb
          cases hvp
          obtain ⟨oq, ho, hrow, hok⟩ := HA.out.op hb
          have hqb2 : (q : Int) < (bs.length : Int) := by omega
          have HO := Lib.hid ho
          have HBq := Lib.hid hb
          have HROW := Lib.hid hrow
          have HOK := Lib.hid hok
          clear ho hb hrow hok
          go_wp2_with (go_at_call 13; refine (nstep_op HA.out.rng HROW.out HOK.out).mono ?_; rintro e w5 hs; have HC5 := Lib.hid (HA.out.code HO.out HBq.out hs); obtain ⟨he, _, _, _⟩ := hs; subst he)
          go_roundw
          case rel => exact ⟨j + 1, by omega, by go_num, _, _, by rw [stepNW_len]; exact HWL.out, HST.out.step HO.out, by rw [totN_step HO.out]; exact HTO.out, HC5.out⟩
          case measure => simp [intOf]; omega
        · obtain rfl : j = ks.length := by omega
          go_wp2
          go_loopw [109] (fun i wr => ∃ j : Nat, j ≤ bs.length ∧ i = .int .i64 j ∧ ∃ ws os, ws.length = n ∧ StillN Q ws os ∧ totN os = T ∧ (∀ q o, q < j → os[q]? = some o → o.ph = 2) ∧ CrowdN W br bk bw wd ws os bs bs l (.slice ap bs.length cp0) (.slice al l.length cl) wr) (fun i _ => bs.length - (intOf i).toNat)
          case atStart => exact ⟨0, Nat.zero_le _, rfl, _, _, HWL.out, HST.out, HTO.out, by simp, HA.out⟩
          case round =>
            obtain ⟨j, hj, rfl, ws, os, hwl, hst, hto, hend, hA⟩ := hrel
            clear HST HTO HA HWL
            have HA := Lib.hid hA
            have HST := Lib.hid hst
            have HTO := Lib.hid hto
            have HWL := Lib.hid hwl
            have HEND := Lib.hid hend
            clear hA hst hto hwl hend
            by_cases hlt : j < bs.length
            · have hlt2 : (j : Int) < (bs.length : Int) := by omega
              obtain ⟨bp, gp, cp, hb, hvp, pc, gplt⟩ := HA.out.get hlt
              cases hvp
              have HBq := Lib.hid hb
              obtain ⟨oq0, ho0, _, _⟩ := HA.out.op hb
              have HO0 := Lib.hid ho0
              clear hb ho0
              go_wp2
              go_loopw [23] (fun kk wx => ∃ c : Nat, c ≤ 3 ∧ kk = .int .i64 c ∧ ∃ ws os o, os[j]? = some o ∧ c + needN ws o ≤ 3 ∧ ws.length = n ∧ StillN Q ws os ∧ totN os = T ∧ (∀ q o, q < j → os[q]? = some o → o.ph = 2) ∧ CrowdN W br bk bw wd ws os bs bs l (.slice (some ⟨gp, 0, none⟩) bs.length cp0) (.slice al l.length cl) wx) (fun kk _ => 3 - (intOf kk).toNat)
              case atStart => exact ⟨0, by omega, rfl, ws, os, oq0, HO0.out, by have := needN_le ws oq0; omega, HWL.out, HST.out, HTO.out, HEND.out, HA.out⟩
              case round =>
                obtain ⟨c, hc, rfl, ws, os, o, ho, hneed, hwl, hst, hto, hend, hA⟩ := hrel
                clear HST HTO HA HWL HEND HO0 pc
                have HA := Lib.hid hA
                have HST := Lib.hid hst
                have HTO := Lib.hid hto
                have HWL := Lib.hid hwl
                have HEND := Lib.hid hend
                have HO := Lib.hid ho
                have HROW := Lib.hid (hA.pends.row j o bp ho HBq.out)
                have hmem := List.mem_of_getElem? ho
                have HOK := Lib.hid (hst.ok o hmem)
                have HTWO := Lib.hid (hst.two o hmem)
                clear hA hst hto hwl hend ho hmem
                by_cases h2p : o.ph = 2
                · have HD : Hid (decide (o.ph = 2) = true) := Lib.hid (by simpa using h2p)
                  have HAN : Hid (answerN o = .tuple #[.int .u64 o.ans, .int .i64 0]) := Lib.hid (by unfold answerN; rw [if_pos h2p, HTWO.out h2p])
                  have HALL : Hid (∀ q x, q < j + 1 → os[q]? = some x → x.ph = 2) := Lib.hid (fun q x hq hx => by
                    by_cases e : q = j
                    · subst e; rw [HO.out] at hx; cases hx; exact h2p
                    · exact HEND.out q x (by omega) hx)
                  clear h2p hneed
                  by_cases hc3 : c < 3
                  · have hc4 : (c : Int) < 3 := by omega
                    go_wp2_with (first
                      | (go_at_call 16; refine (ndone_op HROW.out HOK.out.1.ph).mono ?_; rw [HD.out]; rintro e w5 ⟨rfl, rfl⟩)
                      | (go_at_call 14; refine (nanswer_op HROW.out HOK.out.1.ph).mono ?_; rw [HAN.out]; rintro e w7 ⟨rfl, mm, rfl⟩; have HA7 := Lib.hid (HA.out.on (Below.draws (Below.refl _ _) mm)); have HROW7 := Lib.hid (HA7.out.pends.row j o bp HO.out HBq.out))
                      | (go_at_call 16; refine (ndone_op HROW7.out HOK.out.1.ph).mono ?_; rw [HD.out]; rintro e w5 ⟨rfl, rfl⟩))
                    go_roundw
                    case rel => exact ⟨j + 1, by omega, by go_num, ws, os, HWL.out, HST.out, HTO.out, HALL.out, HA7.out⟩
                    case measure => simp [intOf]; omega
                  · obtain rfl : c = 3 := by omega
                    go_wp2_with (first
                      | (go_at_call 14; refine (nanswer_op HROW.out HOK.out.1.ph).mono ?_; rw [HAN.out]; rintro e w7 ⟨rfl, mm, rfl⟩; have HA7 := Lib.hid (HA.out.on (Below.draws (Below.refl _ _) mm)); have HROW7 := Lib.hid (HA7.out.pends.row j o bp HO.out HBq.out))
                      | (go_at_call 16; refine (ndone_op HROW7.out HOK.out.1.ph).mono ?_; rw [HD.out]; rintro e w5 ⟨rfl, rfl⟩))
                    go_roundw
                    case rel => exact ⟨j + 1, by omega, by go_num, ws, os, HWL.out, HST.out, HTO.out, HALL.out, HA7.out⟩
                    case measure => simp [intOf]; omega
                · have HD : Hid (decide (o.ph = 2) = false) := Lib.hid (by simpa using h2p)
                  have hns := needN_step (ws := ws) HOK.out.2.1 HOK.out.1.ph h2p
                  have hc4 : (c : Int) < 3 := by omega
                  have HNS : Hid (c + 1 + needN (stepNW ws o) (stepN ws o) ≤ 3) := Lib.hid (by omega)
                  have HOS : Hid ((os.set j (stepN ws o))[j]? = some (stepN ws o)) := Lib.hid (List.getElem?_set_self (lt_of_get HO.out))
                  have HALL : Hid (∀ q x, q < j → (os.set j (stepN ws o))[q]? = some x → x.ph = 2) := Lib.hid (fun q x hq hx => by
                    rw [List.getElem?_set_ne (by omega)] at hx
                    exact HEND.out q x hq hx)
                  have hc5 : c < 3 := by omega
                  clear h2p hneed hns
                  go_wp2_with (first
                    | (go_at_call 16; refine (ndone_op HROW.out HOK.out.1.ph).mono ?_; rw [HD.out]; rintro e w5 ⟨rfl, rfl⟩)
                    | (go_at_call 13; refine (nstep_op HA.out.rng HROW.out HOK.out.1).mono ?_; rintro e w5 hs; have HC5 := Lib.hid (HA.out.code HO.out HBq.out hs); obtain ⟨he, _, _, _⟩ := hs; subst he))
                  go_roundw
                  case rel => exact ⟨c + 1, by omega, by go_num, _, _, stepN ws o, HOS.out, HNS.out, by rw [stepNW_len]; exact HWL.out, HST.out.step HO.out, by rw [totN_step HO.out]; exact HTO.out, HALL.out, HC5.out⟩
                  case measure => simp [intOf]; omega
            · obtain rfl : j = bs.length := by omega
              have HLX : Hid (∃ m0 K, Q + 1 - ws.length = m0 ∧ Q - m0 + 1 = K) := Lib.hid ⟨_, _, rfl, rfl⟩
              obtain ⟨m0, K, hm0, hK⟩ := HLX.out
              have HM0 := Lib.hid hm0
              have HKK := Lib.hid hK
              have HPOS := Lib.hid HA.out.rng.pos
              have hKn : K ≤ n := by have := HWL.out; have := HPOS.out; omega
              have HALL : Hid (∀ o ∈ os, o.ph = 2) := Lib.hid (fun o ho => by
                obtain ⟨q, hq⟩ := List.getElem?_of_mem ho
                exact HEND.out q o (by rw [HA.out.pends.len]; exact lt_of_get hq) hq)
              have HTT := Lib.hid ((HST.out.total HALL.out hm0 hK).trans HTO.out)
              have hds := doN_sums hm0 hK HPOS.out
              have HD1 := Lib.hid (hds.1.trans HTT.out)
              have HD2 := Lib.hid hds.2
              have HNN := Lib.hid (sum_take (eachN_nonneg (fun t => HA.out.rng.words.cell64 HPOS.out t) m0 K))
              obtain ⟨L, hL⟩ : ∃ L, eachN ws m0 K = L := ⟨_, rfl⟩
              have hLK : L.length = K := by rw [← hL]; exact eachN_len _ _ _
              have HL := Lib.hid hL
              rw [hL] at HTT HNN
              have hT0 := HT0.out.1
              have hT1 := HT0.out.2
              have hLn : (L.length : Int) ≤ (n : Int) := by omega
              clear HLX hm0 hK hds hL
              go_wp2_with (first
                | (go_at_call 19; refine (nsum_is HA.out.rng HTL.out HFL.out (doN_sum _ _ _) HD1.out HD2.out).mono ?_; rintro e w5 ⟨rfl, hR5, hP5⟩; have HR5 := Lib.hid hR5; have HP5 := Lib.hid hP5; clear hR5 hP5)
                | (go_at_call 20; refine (neach_is HR5.out HTL.out HFL.out HM0.out HKK.out).mono ?_; rw [HL.out]; rintro e w6 ⟨g, rfl, hg6, hr6, hR6, hP6⟩; have HG6 := Lib.hid hr6; have HB6 : Hid (Below W.heap.size W w6) := Lib.hid (HA.out.low.trans (((HP5.out.then_ hP6)).below HA.out.low.size (by intro k hk; rw [List.mem_singleton.1 hk]; exact HA.out.lo))); clear hg6 hr6 hR6 hP6))
              go_loopw [29, 151] (fun s i wx => ∃ j : Nat, j ≤ L.length ∧ i = .int .i64 j ∧ s = .int .u64 (L.take j).sum ∧ Row wx g 37 (u64s L) ∧ Below W.heap.size W wx) (fun _ i _ => L.length - (intOf i).toNat)
              case atStart => exact ⟨0, Nat.zero_le _, rfl, rfl, HG6.out, HB6.out⟩
              case round =>
                obtain ⟨j, hj, rfl, rfl, hrow, hbl⟩ := hrel
                have HROW := Lib.hid hrow
                have HBL := Lib.hid hbl
                by_cases hlt : j < L.length
                · obtain ⟨x, hx⟩ : ∃ x, L[j]? = some x := ⟨_, List.getElem?_eq_getElem hlt⟩
                  have hlt2 : (j : Int) < (L.length : Int) := by omega
                  have c0 := (hrow.cell j).trans ((u64s_get L j).trans (by rw [hx]; rfl) : (u64s L)[j]? = some (.int .u64 x))
                  have clt := hrow.lt
                  have hs1 := take_sum_succ hx
                  have hsa := HNN.out j
                  have hsb := HNN.out (j + 1)
                  have HTX := HTT.out
                  rw [HTX] at hsa hsb
                  obtain ⟨S, hS⟩ : ∃ S, (L.take j).sum = S := ⟨_, rfl⟩
                  rw [hS] at hs1 hsa ⊢
                  rw [hs1] at hsb
                  have s0 := hsa.1
                  have s1 := hsb.1
                  have s2 : S + x ≤ 4294967295 := by omega
                  have HS1 := Lib.hid hs1
                  have hj1 : j ≤ 4096 := by omega
                  clear hrow hbl hx hs1 hsa hsb HTX hS
                  go_wp2
                  go_roundw
                  case rel => exact ⟨j + 1, by omega, by go_num, by rw [HS1.out], HROW.out, HBL.out⟩
                  case measure => simp [intOf]; omega
                · obtain rfl : j = L.length := by omega
                  rw [List.take_length, HTT.out]
                  clear hrow hbl
                  go_wp2
                  go_ret
                  exact ⟨rfl, HBL.out⟩
end Go.Proofs.Ytjehcgeodcpcaaa
