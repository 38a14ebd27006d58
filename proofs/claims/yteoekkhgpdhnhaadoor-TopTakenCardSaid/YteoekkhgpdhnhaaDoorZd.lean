/- THE WALK of the law 'TopTaken'. -/
import Derived.Test.YteoekkhgpdhnhaaDoorZc
namespace Go.Proofs.YteoekkhgpdhnhaaDoor
open Go Go.RowKit
set_option maxRecDepth 100000
set_option maxHeartbeats 3200000
theorem taken_no {limit ba n : Int} (hf : ¬ FitsB limit ba n) {B : Option Addr} {len' cap' : Nat} (W : World) (hE : UnitsIn W) :
    Calls Tryd.prog 3 #[.int .i64 limit, .int .i64 ba, .int .i64 n, .slice B len' cap'] W fun e w' => e = .returned (.bool true) ∧ Below W.heap.size W w' := by
  have HF := Lib.hid hf
  have HE := Lib.hid hE
  clear hf hE
  go_enter Tryd.func3, Tryd.ntmps3
  go_wp2_with (first
    | (go_at_call 6; refine (begins_top _ HE.out).mono ?_; rintro e w1 ⟨rfl, hb⟩; have HB := Lib.hid hb; clear hb)
    | (go_at_call 7; refine (qnew_no HF.out _).mono ?_; rintro e wx ⟨rfl, rfl⟩))
  go_ret
  exact ⟨rfl, HB.out⟩
section
variable {W wr w1 w5 : World} {bq bk bw n gn gt : Nat} {ba T limit : Int} {ws : List Int} {ss : List (Option (Nat × OpB))} {tb : List Bool} {vs : List Value}
theorem EarlyB.mark {i : Nat} {kb : Bool} (h : EarlyB W bq bk bw ba n ws ss tb gn gt T limit wr) (hi : ss[i]? = some none) : EarlyB W bq bk bw ba n ws ss (tb.set i kb) gn gt T limit (wr.setCell ⟨gt, i, none⟩ (.bool kb)) := by
  have hP : Part [gt] wr (wr.setCell ⟨gt, i, none⟩ (.bool kb)) := (Part.refl [gt] _).set (by simp) _
  have hq := h.one.quo
  have key : ∀ {b : Nat} {t : TypeId} {l : List Value}, Row wr b t l → t ≠ 4 → b ∉ [gt] := fun hr h1 => by simpa using hr.ne h.tks h1
  refine ⟨⟨hq.part hP (key hq.head (by decide)) (key hq.words.head (by decide)) (key hq.words.row (by decide)), h.one.len, h.one.lo, h.one.low.trans (hP.below h.one.low.size (fun q hq => by rw [List.mem_singleton.1 hq]; exact h.tlo))⟩, h.now.part hP (key h.now (by decide)), by rw [List.map_set]; exact h.tks.set i _, h.slen, by rw [List.length_set]; exact h.tlen, fun j p hp => ?_, h.apart, h.held, h.sum, h.pos, h.lim, h.nlo, h.tlo⟩
  have hne : j ≠ i := fun e => by subst e; rw [hi] at hp; cases hp
  rw [List.getElem?_set_ne (fun e' => hne e'.symm)]
  have hm := h.op j p hp
  exact hm.on hP (key hm.row (by decide))
theorem held_end (h : EarlyN W bq bk bw ba n ws ss tb gn gt vs T limit wr) (hn : ∀ j, j < n → ss[j]? = some none) : ws.sum + T = limit := by
  have e : ss.map handS = List.replicate n 0 := by
    apply List.ext_getElem?
    intro j
    rw [List.getElem?_map, List.getElem?_replicate]
    by_cases hj : j < n
    · rw [hn j hj, if_pos hj]; rfl
    · rw [List.getElem?_eq_none (by rw [h.slen]; omega), if_neg hj]; rfl
  have sn : ∀ m : Nat, (List.replicate m (0 : Int)).sum = 0 := fun m => by
    induction m with
    | zero => rfl
    | succ m ih => rw [List.replicate_succ]; simp [ih]
  have := h.sum
  rw [e, sn] at this
  omega
end
theorem none_upto {ss : List (Option (Nat × OpB))} {i : Nat} (h : ∀ j, j < i → ss[j]? = some none) (hi : ss[i]? = some none) : ∀ j, j < i + 1 → ss[j]? = some none := fun j hj => by
  by_cases e : j = i
  · subst e; exact hi
  · exact h j (by omega)
theorem sum_take_next {ws : List Int} {i : Nat} {x : Int} (h : ws[i]? = some x) : (ws.take (i + 1)).sum = (ws.take i).sum + x := by
  rw [List.take_add_one, h]
  simp
theorem sum_take_le {ws : List Int} (hu : ∀ x ∈ ws, 0 ≤ x) (i : Nat) : 0 ≤ (ws.take i).sum ∧ (ws.take i).sum ≤ ws.sum := by
  have h1 := sum_pos (ws := ws.take i) (fun x hx => hu x (List.mem_of_mem_take hx))
  have h2 := sum_pos (ws := ws.drop i) (fun x hx => hu x (List.mem_of_mem_drop hx))
  have h3 : (ws.take i).sum + (ws.drop i).sum = ws.sum := by rw [← List.sum_append, List.take_append_drop]
  omega
set_option maxHeartbeats 25600000
theorem taken_yes {limit ba : Int} {n : Nat} (hf : FitsB limit ba (n : Int)) {B : Option Addr} {cap' : Nat} {xs : List Int} (W : World) (hE : UnitsIn W) (hX : Ext .i64 W B xs) (hr' : xs.length * 8 ≤ 140737488351232) :
    Calls Tryd.prog 3 #[.int .i64 limit, .int .i64 ba, .int .i64 (n : Int), .slice B xs.length cap'] W fun e w' => e = .returned (.bool true) ∧ Below W.heap.size W w' := by
  obtain ⟨ip, hip, hp0, hp1, hp2⟩ := info_parts infoP
  obtain ⟨it, hit, ht0, ht1, ht2⟩ := info_parts infoBool
  have HF := Lib.hid hf
  have HN : Hid (1 ≤ n ∧ n ≤ 64) := Lib.hid (by obtain ⟨_, _, _, _, h5, h6⟩ := hf; omega)
  have HLm : Hid (0 ≤ limit ∧ limit ≤ 1099511627776) := Lib.hid (by obtain ⟨h1, h2, _⟩ := hf; exact ⟨h1, h2⟩)
  have HBA : Hid (1 ≤ ba ∧ ba ≤ 1048576) := Lib.hid (by obtain ⟨_, _, h1, h2, _⟩ := hf; exact ⟨h1, h2⟩)
  have HE := Lib.hid hE
  have HX := Lib.hid hX
  have hmb1 : ip.bytes * n ≤ 281474976710656 := by rw [hp2]; have := HN.out; omega
  have hmb2 : it.bytes * n ≤ 281474976710656 := by rw [ht2]; have := HN.out; omega
  have hmm : n ≤ maxLen := by have := HN.out; unfold maxLen; omega
  have hn64 : n ≤ 64 := HN.out.2
  clear hf hX hE
  go_enter Tryd.func3, Tryd.ntmps3
  go_wp2_with (first
    | (go_at_call 6; refine (begins_top _ HE.out).mono ?_; rintro e w0 ⟨rfl, hb⟩; have HB0 := Lib.hid hb; clear hb)
    | (go_at_call 7; refine (qnew_yes HF.out _).mono ?_; rintro e w1 ⟨bq, bk, bw, rfl, hc, hk, hw, hS, hb⟩; have HO1 := Lib.hid (OneB.start (n := n) HB0.out hw hS (by simp [startW]) hb); clear hc hk hw hS hb)
    | (at_make; refine wpList_make_full _ rfl _ _ 28 rfl W.heap.size 30 ip (.pointer none) 1 Tryd.underlying28 hip hp0 hp1 .i64 .i64 n n n rfl rfl rfl rfl hmb1 hmm HO1.out.low.size ?_; intro w2 hown hgr; have hrw := row_of_full hown; rw [made_one _ rfl] at hrw; have HR2 := Lib.hid hrw; have HO2 := Lib.hid (HO1.out.on ((Below.refl _ _).grown hgr (Nat.le_refl _) (by simp))); clear hown hgr hrw)
    | (at_make; refine wpList_make_full _ rfl _ _ 29 rfl W.heap.size 4 it (.bool false) 1 Tryd.underlying29 hit ht0 ht1 .i64 .i64 n n n rfl rfl rfl rfl hmb2 hmm HO2.out.low.size ?_; intro w3 hown hgr; have hrw := row_of_full hown; rw [made_one _ rfl] at hrw; have hb3 : Below w2.heap.size w2 w3 := (Below.refl _ _).grown hgr (Nat.le_refl _) (by simp); have HA3 : Hid (EarlyB W bq bk bw ba n (startW limit n) (List.replicate n none) (List.replicate n false) w1.heap.size w2.heap.size 0 limit w3) := Lib.hid (early_start (HO2.out.on hb3) (HR2.out.below hb3 HR2.out.lt) hrw HO1.out.low.size HO2.out.low.size HLm.out.2 HBA.out.1); clear hown hgr hrw hb3))
  have hxl : xs.length ≤ 17592186044160 := by omega
  obtain ⟨gn, hgn⟩ : ∃ g, w1.heap.size = g := ⟨_, rfl⟩
  obtain ⟨gt, hgt⟩ : ∃ g, w2.heap.size = g := ⟨_, rfl⟩
  rw [hgn, hgt] at HA3
  rw [hgn, hgt]
  clear hgn hgt HR2 HO2
  go_loopw [13, 54] (fun t u wr => ∃ j : Nat, j ≤ xs.length ∧ u = .int .i64 j ∧ ∃ (T : Int) (ws : List Int) (ss : List (Option (Nat × OpB))) (tb : List Bool), t = .int .i64 T ∧ EarlyB W bq bk bw ba n ws ss tb gn gt T limit wr) (fun _ u _ => xs.length - (intOf u).toNat)
  case atStart => exact ⟨0, Nat.zero_le _, rfl, 0, _, _, _, rfl, HA3.out⟩
  case round =>
    obtain ⟨j, hj, rfl, T, ws, ss, tb, rfl, hC⟩ := hrel
    have HC := Lib.hid hC
    have hTb := hC.bounds
    have hTp := hC.pos
    have HTB : Hid (0 ≤ T ∧ T ≤ limit) := Lib.hid ⟨hTp, hTb.2.2⟩
    clear hC HA3 hTb hTp
    by_cases hlt : j < xs.length
    · obtain ⟨k, hk⟩ : ∃ k, xs[j]? = some k := ⟨xs[j], List.getElem?_eq_getElem hlt⟩
      obtain ⟨b', o', rfl, hlt', q0⟩ := (HX.out.on HC.out.one.low) j _ hk
      have hlt2 : (j : Int) < (xs.length : Int) := by omega
      clear hk
      by_cases hbr : (3000 : Int) < (j : Int)
      · have hdb : decide ((3000 : Int) < (j : Int)) = true := by simpa using hbr
        go_wp2
        have hss0 : ss.length = n := HC.out.slen
        have HSS0 := Lib.hid hss0
        have HN0 : Hid (EarlyN W bq bk bw ba n ws ss tb gn gt (ss.map ptrS) T limit _) := Lib.hid HC.out.toN
        clear hss0
        obtain ⟨vs, hvs⟩ : ∃ vs, ss.map ptrS = vs := ⟨_, rfl⟩
        have HVS := Lib.hid hvs
        rw [hvs] at HN0
        clear hvs
        go_loopw [13, 128] (fun t u wr => ∃ i : Nat, i ≤ n ∧ u = .int .i64 i ∧ ∃ (T : Int) (ws : List Int) (s2 : List (Option (Nat × OpB))), t = .int .i64 T ∧ EarlyN W bq bk bw ba n ws s2 tb gn gt vs T limit wr ∧ (∀ j, j < i → s2[j]? = some none) ∧ (∀ j, i ≤ j → s2[j]? = ss[j]?)) (fun _ u _ => n - (intOf u).toNat)
        case atStart => exact ⟨0, Nat.zero_le _, rfl, T, ws, ss, rfl, HN0.out, fun j hj => absurd hj (by omega), fun j _ => rfl⟩
        case round =>
          clear HTB
          obtain ⟨i, hi, rfl, T, ws, s2, rfl, hD, hlow, hhigh⟩ := hrel
          have HD := Lib.hid hD
          have HLOW := Lib.hid hlow
          have HHIGH := Lib.hid hhigh
          have hTb := hD.bounds
          have hTp := hD.pos
          have HTB : Hid (0 ≤ T ∧ T ≤ limit) := Lib.hid ⟨hTp, hTb.2.2⟩
          clear hD hlow hhigh HN0 hTb hTp
          by_cases hin : i < n
          · have hi2 : (i : Int) < (n : Int) := by omega
            obtain ⟨s, hs⟩ : ∃ s, ss[i]? = some s := ⟨_, List.getElem?_eq_getElem (by rw [HSS0.out]; exact hin)⟩
            have hs2 : s2[i]? = some s := by rw [HHIGH.out i (Nat.le_refl _)]; exact hs
            have nc0 : wr.cell? ⟨gn, i, none⟩ = some (ptrS s) := by rw [HD.out.now.cell, ← HVS.out, List.getElem?_map, hs]; rfl
            have hnl := HD.out.now.lt
            cases s with
            | none =>
              have nc1 : wr.cell? ⟨gn, i, none⟩ = some (.pointer none) := nc0
              have HS2 := Lib.hid hs2
              clear nc0 hs hs2
              go_wp2
              go_loopw [23] (fun u wr' => u = .int .i64 0 ∧ EarlyN W bq bk bw ba n ws s2 tb gn gt vs T limit wr') (fun _ _ => 0)
              case atStart => exact ⟨rfl, HD.out⟩
              case round =>
                obtain ⟨rfl, hD⟩ := hrel
                have HD2 := Lib.hid hD
                clear hD
                go_wp2
                go_roundw
                case rel => exact ⟨i + 1, by omega, by go_num, T, ws, s2, rfl, HD2.out, none_upto HLOW.out HS2.out, fun j hj => HHIGH.out j (by omega)⟩
                case measure => simp [intOf]; omega
            | some p =>
              obtain ⟨b, o⟩ := p
              have nc1 : wr.cell? ⟨gn, i, none⟩ = some (.pointer (some ⟨b, 0, none⟩)) := nc0
              have HS2 := Lib.hid hs2
              have htk := (HD.out.op i _ hs2).tk
              obtain ⟨kb, hkb⟩ : ∃ kb, (o.k == 1) = kb := ⟨_, rfl⟩
              have tc0 : wr.cell? ⟨gt, i, none⟩ = some (.bool kb) := by rw [HD.out.tks.cell, List.getElem?_map, htk, ← hkb]; rfl
              have HKB := Lib.hid hkb
              have HTK : Hid (tb[i]? = some kb) := Lib.hid (by rw [htk, ← hkb])
              have HII : Hid (i < s2.length) := Lib.hid (lt_of_get hs2)
              have hset : s2.set i (some (b, o)) = s2 := by
                apply List.ext_getElem?
                intro j
                by_cases e : i = j
                · subst e; rw [List.getElem?_set_self (lt_of_get hs2), hs2]
                · rw [List.getElem?_set_ne e]
              have HDR : Hid (DriveT W bq bk bw ba n s2 tb gn gt vs T limit i b kb 0 wr) := Lib.hid (.inl ⟨ws, o, by rw [hset]; exact HD.out, hkb, .inl rfl⟩)
              clear nc0 hs hs2 htk hkb hset tc0
              go_wp2
              go_loopw [23] (fun u wr' => ∃ m : Nat, u = .int .i64 m ∧ m ≤ 6 ∧ DriveT W bq bk bw ba n s2 tb gn gt vs T limit i b kb m wr') (fun u _ => 7 - (intOf u).toNat)
              case atStart => exact ⟨0, rfl, by omega, HDR.out⟩
              case round =>
                obtain ⟨m, rfl, hm6, hdr⟩ := hrel
                clear HDR nc1 hnl
                rcases hdr with ⟨w4, o4, hN4, hk4, hm4⟩ | ⟨w4, o4, hN4, hk4, h94, hr4, ha4, hm4⟩
                · have hii : (s2.set i (some (b, o4)))[i]? = some (some (b, o4)) := List.getElem?_set_self HII.out
                  have hmn := hN4.op i _ hii
                  have HLV : Hid (decide (o4.ph = 9) = false) := Lib.hid (decide_eq_false hmn.live)
                  have hml := muO_live (n := w4.length) hmn.kk hmn.live
                  dsimp only at hml
                  have hm5 : m ≤ 5 := by rcases hm4 with rfl | ⟨_, h⟩ <;> omega
                  have hm10 : (m : Int) < 10 := by omega
                  have HR4 := Lib.hid hmn.row
                  have HOK4 : Hid (OkB w4.length o4) := Lib.hid (by rw [hN4.one.len]; exact hmn.ok)
                  have HN4 := Lib.hid hN4
                  have HK4 := Lib.hid hk4
                  have HM4 := Lib.hid hm4
                  clear hii hmn hml hN4 hk4 hm4 hm6
                  go_wp2_with (first
                    | (go_at_call 11; (with_reducible refine (bdone_op HR4.out).mono ?_); rw [HLV.out]; rintro e wx ⟨rfl, rfl⟩)
                    | (go_at_call 9; (with_reducible refine (bstep_op HN4.out.one.quo HR4.out HOK4.out).mono ?_); intro e w7 hs; have HS := Lib.hid hs; have he := hs.1; subst he; clear hs))
                  go_roundw
                  case rel => exact ⟨m + 1, by go_num, by omega, DriveT.step HII.out HN4.out HK4.out HM4.out HS.out⟩
                  case measure => simp [intOf]; omega
                · have hm10 : (m : Int) < 10 := by omega
                  have HLV : Hid (decide (o4.ph = 9) = true) := Lib.hid (decide_eq_true h94)
                  have HR4 := Lib.hid hr4
                  have HN4 := Lib.hid hN4
                  obtain ⟨an, han⟩ : ∃ an, o4.ans = an := ⟨_, rfl⟩
                  rw [han] at ha4 HN4
                  have HAN := Lib.hid han
                  have tc4 : wr.cell? ⟨gt, i, none⟩ = some (.bool kb) := by rw [HN4.out.tks.cell, List.getElem?_map, HTK.out]; rfl
                  have tl4 := HN4.out.tks.lt
                  have hda : decide (an < 0) = false := by simp; omega
                  have hb4 := HN4.out.bounds
                  have hLm := HLm.out
                  have hTB := HTB.out
                  have HSET : Hid (∀ j, j < i + 1 → (s2.set i none)[j]? = some none) := Lib.hid (none_upto (fun j hj => by rw [List.getElem?_set_ne (by omega)]; exact HLOW.out j hj) (List.getElem?_set_self HII.out))
                  have HHI : Hid (∀ j, i + 1 ≤ j → (s2.set i none)[j]? = ss[j]?) := Lib.hid (fun j hj => by rw [List.getElem?_set_ne (by omega)]; exact HHIGH.out j (by omega))
                  clear hN4 hk4 h94 hr4 hm4 han
                  cases kb with
                  | true =>
                    simp only [if_true] at hb4
                    have hadd : IntKind.i64.wrap (T + an) = T + an := by rw [IntKind.wrap_i64]; omega
                    have HN5 : Hid (EarlyN W bq bk bw ba n w4 (s2.set i none) tb gn gt vs (T + an) limit wr) := Lib.hid (by have := HN4.out; simpa using this)
                    clear hb4 hLm hTB
                    go_wp2_with (first
                      | (go_at_call 11; (with_reducible refine (bdone_op HR4.out).mono ?_); rw [HLV.out]; rintro e wx ⟨rfl, rfl⟩)
                      | (go_at_call 10; (with_reducible refine (banswer_op HR4.out).mono ?_); rw [HAN.out]; rintro e wx ⟨rfl, rfl⟩))
                    go_roundw
                    case rel => exact ⟨i + 1, by omega, by go_num, T + an, w4, _, by go_num, HN5.out, HSET.out, HHI.out⟩
                    case measure => simp [intOf]; omega
                  | false =>
                    have HN5 : Hid (EarlyN W bq bk bw ba n w4 (s2.set i none) tb gn gt vs T limit wr) := Lib.hid (by have := HN4.out; simpa using this)
                    clear hb4 hLm hTB
                    go_wp2_with (first
                      | (go_at_call 11; (with_reducible refine (bdone_op HR4.out).mono ?_); rw [HLV.out]; rintro e wx ⟨rfl, rfl⟩)
                      | (go_at_call 10; (with_reducible refine (banswer_op HR4.out).mono ?_); rw [HAN.out]; rintro e wx ⟨rfl, rfl⟩))
                    go_roundw
                    case rel => exact ⟨i + 1, by omega, by go_num, T, w4, _, rfl, HN5.out, HSET.out, HHI.out⟩
                    case measure => simp [intOf]; omega
          · obtain rfl : n = i := by omega
            have hsum := held_end HD.out (fun j hj => HLOW.out j hj)
            obtain ⟨S, hS⟩ : ∃ S, ws.sum = S := ⟨_, rfl⟩
            have hLm := HLm.out
            have hTB := HTB.out
            have hS0 : 0 ≤ S := by omega
            have hS1 : S ≤ 1099511627776 := by omega
            have hsub : IntKind.i64.wrap (limit - T) = S := by rw [IntKind.wrap_i64]; omega
            have hle : decide (T ≤ limit) = true := by simp; omega
            have HSS := Lib.hid hS
            have HU : Hid (∀ x ∈ ws, 0 ≤ x) := Lib.hid (fun x hx => (HD.out.one.quo.words.ok x hx).1)
            have HANS : Hid (ansB ba ws 3 0 = S) := Lib.hid ((left_sum HU.out (by omega) (by have := HD.out.one.quo.least; omega)).trans hS)
            have HWL : Hid (ws.length ≤ 65) := Lib.hid HD.out.one.quo.top
            clear hsum hS hLm hTB
            go_wp2_with (go_at_call 12; refine (qall_any HD.out.one.quo).mono ?_; rintro e w7 ⟨b7, rfl, hb7, hr7, hw7⟩; have HD7 := Lib.hid (HD.out.on hw7); have HR7 := Lib.hid hr7; clear hb7 hr7 hw7)
            go_loopw [24, 176] (fun u v wr' => ∃ p : Nat, p ≤ ws.length ∧ v = .int .i64 p ∧ (∃ a, u = .int .u64 a ∧ a = (ws.take p).sum) ∧ EarlyN W bq bk bw ba n ws s2 tb gn gt vs T limit wr' ∧ Row wr' b7 37 (u64s ws)) (fun _ v _ => ws.length - (intOf v).toNat)
            case atStart => exact ⟨0, Nat.zero_le _, rfl, ⟨0, rfl, rfl⟩, HD7.out, HR7.out⟩
            case round =>
              obtain ⟨p, hp, rfl, ⟨a, rfl, ha⟩, hD8, hR8⟩ := hrel
              have HD8 := Lib.hid hD8
              have HR8 := Lib.hid hR8
              clear hD8 hR8 HD7 HR7
              by_cases hpl : p < ws.length
              · obtain ⟨x, hx⟩ : ∃ x, ws[p]? = some x := ⟨_, List.getElem?_eq_getElem hpl⟩
                have c0 : wr.cell? ⟨b7, p, none⟩ = some (.int .u64 x) := by rw [HR8.out.cell, u64s_get, hx]; rfl
                have hp2 : (p : Int) < (ws.length : Int) := by omega
                have hw65 := HWL.out
                have hst := sum_take_next hx
                have hlo := sum_take_le HU.out p
                have hhi := sum_take_le HU.out (p + 1)
                rw [HSS.out] at hlo hhi
                have hadd : IntKind.u64.wrap (a + x) = a + x := by rw [IntKind.wrap_u64]; omega
                have HST : Hid (a + x = (ws.take (p + 1)).sum) := Lib.hid (by omega)
                clear hx hst hlo hhi ha
                go_wp2
                go_roundw
                case rel => exact ⟨p + 1, by omega, by go_num, ⟨_, rfl, HST.out⟩, HD8.out, HR8.out⟩
                case measure => simp [intOf]; omega
              · obtain rfl : ws.length = p := by omega
                rw [List.take_length, HSS.out] at ha
                subst ha
                go_wp2_with (go_at_call 13; refine (bleft_yes HD8.out.one.quo HD8.out.one.len).mono ?_; rw [HANS.out]; rintro e w9 ⟨rfl, _, hP9⟩; have HP9 := Lib.hid hP9; clear hP9)
                go_ret
                exact ⟨rfl, HD8.out.one.low.trans (HP9.out.below HD8.out.one.low.size (fun r hr => by rw [List.mem_singleton.1 hr]; exact HD8.out.one.lo))⟩
      have hdb : decide ((3000 : Int) < (j : Int)) = false := by simpa using hbr
      clear hbr
      by_cases hk0 : k < 0
      · have hd : decide (k < 0) = true := by simpa using hk0
        go_wp2
        go_roundw
        case rel => exact ⟨j + 1, by omega, by go_num, T, ws, ss, tb, rfl, HC.out⟩
        case measure => simp [intOf]; omega
      have hd0 : decide (k < 0) = false := by simpa using hk0
      by_cases hkn : (n : Int) ≤ k
      · have hd : decide ((n : Int) ≤ k) = true := by simpa using hkn
        go_wp2
        go_roundw
        case rel => exact ⟨j + 1, by omega, by go_num, T, ws, ss, tb, rfl, HC.out⟩
        case measure => simp [intOf]; omega
      obtain ⟨q, rfl⟩ := Int.eq_ofNat_of_zero_le (show 0 ≤ k by omega)
      have hd1 : decide ((n : Int) ≤ (q : Int)) = false := by simp; omega
      have hqn : q < n := by omega
      have hq2 : (q : Int) < (n : Int) := by omega
      have hnl := HC.out.now.lt
      have htl := HC.out.tks.lt
      obtain ⟨s, hs⟩ : ∃ s, ss[q]? = some s := ⟨_, List.getElem?_eq_getElem (by rw [HC.out.slen]; exact hqn)⟩
      obtain ⟨po, hpo⟩ : ∃ po, ptrS s = .pointer po := by cases s <;> exact ⟨_, rfl⟩
      have nc0 : wr.cell? ⟨gn, q, none⟩ = some (.pointer po) := by rw [HC.out.now.cell, List.getElem?_map, hs, ← hpo]; rfl
      go_upto_if 72 with fail
      go_cut [17] (fun _ wx => ∃ ss' tb' b o, ss'[q]? = some (some (b, o)) ∧ EarlyB W bq bk bw ba n ws ss' tb' gn gt T limit wx)
      case first =>
        have HSn0 := Lib.hid hs
        cases s with
        | some p0 =>
          obtain ⟨b, o⟩ := p0
          cases hpo
          clear hs
          go_wp2
          go_meet
          exact ⟨ss, tb, b, o, HSn0.out, HC.out⟩
        | none =>
          cases hpo
          have HSn : Hid (ss[q]? = some none) := HSn0
          clear hs
          by_cases h7 : (j : Int) % 7 = 0
          · have h7b : ((j : Int) % 7 == 0) = true := by simpa using h7
            have HM := Lib.hid (HC.out.mark (kb := false) HSn.out)
            have tc0 : ∃ y, wr.cell? ⟨gt, q, none⟩ = some (.bool y) := ⟨tb[q]'(by rw [HC.out.tlen]; exact hqn), by rw [HC.out.tks.cell, List.getElem?_map, List.getElem?_eq_getElem (by rw [HC.out.tlen]; exact hqn)]; try rfl⟩
            obtain ⟨y0, tc0⟩ := tc0
            have tf0 := HC.out.tks.free
            go_wp2_with (go_at_call 8; refine (bstart_op (k := 2) (wk := q) HM.out.one.quo HM.out.one.len (by simp; exact hqn)).mono ?_; rintro e w5 ⟨bp, rfl, hn5, hr5, hb5⟩; have h5 := HM.out.on hb5; have HN5 := Lib.hid h5.now; have HT5 := Lib.hid h5.tks; have HB5 := Lib.hid hb5; have HR5 := Lib.hid hr5; have HL5 := Lib.hid hn5; have nc5 : w5.cell? ⟨gn, q, none⟩ = some (.pointer none) := (by rw [h5.now.cell, List.getElem?_map, HSn.out]; rfl); have nf5 := h5.now.free; have nl5 := h5.now.lt; clear h5 hn5 hr5 hb5)
            go_meet
            exact ⟨ss.set q (some (bp, newB 2 q)), (tb.set q false).set q (2 == 1), bp, newB 2 q, List.getElem?_set_self (lt_of_get HSn.out), HM.out.begin_ (k := 2) HSn.out (by omega) HB5.out HR5.out HL5.out (HN5.out.set q _) (Row.of_eq (HT5.out.far (HN5.out.ne HT5.out (by decide)) _) (by rw [← List.map_set]; simp)) ((Part.refl [gn, gt] _).set (by simp) _)⟩
          · have h7b : ((j : Int) % 7 == 0) = false := by simpa using h7
            obtain ⟨r7, hr7⟩ : ∃ r, (j : Int) % 7 = r := ⟨_, rfl⟩
            rw [hr7] at h7b h7
            have h7c : (r7 != 0) = true := by simpa using h7
            clear h7
            have HM := Lib.hid (HC.out.mark (kb := true) HSn.out)
            have tc0 : ∃ y, wr.cell? ⟨gt, q, none⟩ = some (.bool y) := ⟨tb[q]'(by rw [HC.out.tlen]; exact hqn), by rw [HC.out.tks.cell, List.getElem?_map, List.getElem?_eq_getElem (by rw [HC.out.tlen]; exact hqn)]; try rfl⟩
            obtain ⟨y0, tc0⟩ := tc0
            have tf0 := HC.out.tks.free
            go_wp2_with (go_at_call 8; refine (bstart_op (k := 1) (wk := q) HM.out.one.quo HM.out.one.len (by simp; exact hqn)).mono ?_; rintro e w5 ⟨bp, rfl, hn5, hr5, hb5⟩; have h5 := HM.out.on hb5; have HN5 := Lib.hid h5.now; have HT5 := Lib.hid h5.tks; have HB5 := Lib.hid hb5; have HR5 := Lib.hid hr5; have HL5 := Lib.hid hn5; have nc5 : w5.cell? ⟨gn, q, none⟩ = some (.pointer none) := (by rw [h5.now.cell, List.getElem?_map, HSn.out]; rfl); have nf5 := h5.now.free; have nl5 := h5.now.lt; clear h5 hn5 hr5 hb5)
            go_meet
            exact ⟨ss.set q (some (bp, newB 1 q)), (tb.set q true).set q (1 == 1), bp, newB 1 q, List.getElem?_set_self (lt_of_get HSn.out), HM.out.begin_ (k := 1) HSn.out (by omega) HB5.out HR5.out HL5.out (HN5.out.set q _) (Row.of_eq (HT5.out.far (HN5.out.ne HT5.out (by decide)) _) (by rw [← List.map_set]; simp)) ((Part.refl [gn, gt] _).set (by simp) _)⟩
      case rest =>
        obtain ⟨ss, tb, b, o, hs, hC⟩ := hcut
        have HEe := Lib.hid hC
        have HSq := Lib.hid hs
        have hmi0 := hC.op q _ hs
        have hnl := hC.now.lt
        have htl := hC.tks.lt
        have nc1 : wc.cell? ⟨gn, q, none⟩ = some (.pointer (some ⟨b, 0, none⟩)) := by rw [hC.now.cell, List.getElem?_map, hs]; rfl
        have hrq : Row _ b 97 (rowB bq o) := hmi0.row
        have hokq : OkB ws.length o := by rw [hC.one.len]; exact hmi0.ok
        have hends := ans_end hokq hmi0.live hmi0.hand hC.one.quo.words.ok hC.one.quo.lowb hmi0.kk (by
          have hle := le_sum0 (hands_nn hC) (show (ss.map handS)[q]? = some (handC o) by rw [List.getElem?_map, hs]; rfl)
          have h1 := hC.sum; have h2 := hC.bounds; have h3 := hC.pos; have h4 := hC.lim
          omega)
        have HENDS := Lib.hid hends
        have HRq := Lib.hid hrq
        have HOKq := Lib.hid hokq
        have HKK := Lib.hid hmi0.kk
        clear hrq hokq hC hs hmi0 HC hends nc0 hpo
        obtain ⟨⟨x0, x1, x2, x3, x4⟩, hdid⟩ : ∃ d, didB ba ws o = d := ⟨_, rfl⟩
        have HDID := Lib.hid hdid
        clear hdid
        by_cases hp9 : (stepB ba ws o).ph = 9
        · have HP9 := Lib.hid hp9
          obtain ⟨an, han⟩ : ∃ an, (stepB ba ws o).ans = an := ⟨_, rfl⟩
          have HAN := Lib.hid han
          have HTK := Lib.hid (HENDS.out hp9)
          have han0 := HTK.out.1
          have han1 := HTK.out.2.1
          rw [han] at han0 han1
          have hTB := HTB.out
          have hLm := HLm.out
          have hadd : IntKind.i64.wrap (T + an) = T + an := by rw [IntKind.wrap_i64]; omega
          have HLA : Hid (decide ((stepB ba ws o).ph = 9) = true) := Lib.hid (by simpa using hp9)
          clear hp9 han hTB hLm
          by_cases hk1 : o.k = 1
          · have HKB : Hid ((o.k == 1) = true) := Lib.hid (by simpa using hk1)
            have HK1 := Lib.hid hk1
            clear hk1
            go_wp2_with (first
              | (go_at_call 9; (with_reducible refine (bstep_op HEe.out.one.quo HRq.out HOKq.out).mono ?_); intro e w7 hs; have HS := Lib.hid hs; have he := hs.1; subst he; rw [HDID.out, HLA.out, didV_five']; obtain ⟨hr7, hn7, nc7, nf7, nl7, tc7, tl7, m1, m2, m3, m4⟩ := early_facts HEe.out HSq.out hs HKB.out; have HR7 := Lib.hid hr7; have HN7 := Lib.hid hn7; have M3 := Lib.hid m3; have m5 : ¬ gn = w7.heap.size := (by omega); have m6 : ¬ w7.heap.size = gn := (by omega); clear hs hr7 hn7)
              | (go_at_call 10; (refine (banswer_op (bq := bq) (o := stepB ba ws o) ?hrow).mono ?_); (case hrow => repeat (first | (with_reducible exact HR7.out) | (with_reducible refine Row.far ?_ M3.out _) | (with_reducible refine Row.alloc ?_ _) | (with_reducible refine Row.drew ?_))); rw [HAN.out]; rintro e wx ⟨rfl, rfl⟩))
            go_roundw
            case rel => exact ⟨j + 1, by omega, by go_num, T + an, _, _, _, by go_num, early_T (by rw [HTK.out.2.2, if_pos HK1.out, HAN.out]) (HEe.out.step HSq.out HS.out (Row.of_eq (l := (ss.map ptrS).set q (.pointer none)) (by repeat (first | (with_reducible exact HN7.out) | (with_reducible refine Row.set ?_ _ _) | (with_reducible refine Row.alloc ?_ _) | (with_reducible refine Row.drew ?_))) (by rw [show goesOn b (stepB ba ws o) = none from by unfold goesOn; rw [if_pos HP9.out]]; rfl)) (by repeat (first | (with_reducible exact Part.refl _ _) | refine Part.set ?_ (by simp) _ | (with_reducible refine Part.alloc ?_ _) | (with_reducible refine Part.drew ?_)))).1⟩
            case measure => simp [intOf]; omega
          · have HKB : Hid ((o.k == 1) = false) := Lib.hid (by simpa using hk1)
            have HK1 := Lib.hid hk1
            clear hk1
            go_wp2_with (go_at_call 9; (with_reducible refine (bstep_op HEe.out.one.quo HRq.out HOKq.out).mono ?_); intro e w7 hs; have HS := Lib.hid hs; have he := hs.1; subst he; rw [HDID.out, HLA.out, didV_five']; obtain ⟨hr7, hn7, nc7, nf7, nl7, tc7, tl7, m1, m2, m3, m4⟩ := early_facts HEe.out HSq.out hs HKB.out; have HR7 := Lib.hid hr7; have HN7 := Lib.hid hn7; have M3 := Lib.hid m3; have m5 : ¬ gn = w7.heap.size := (by omega); have m6 : ¬ w7.heap.size = gn := (by omega); clear hs hr7 hn7)
            go_roundw
            case rel => exact ⟨j + 1, by omega, by go_num, T, _, _, _, by go_num, early_T (by rw [HTK.out.2.2, if_neg HK1.out, Int.add_zero]) (HEe.out.step HSq.out HS.out (Row.of_eq (l := (ss.map ptrS).set q (.pointer none)) (by repeat (first | (with_reducible exact HN7.out) | (with_reducible refine Row.set ?_ _ _) | (with_reducible refine Row.alloc ?_ _) | (with_reducible refine Row.drew ?_))) (by rw [show goesOn b (stepB ba ws o) = none from by unfold goesOn; rw [if_pos HP9.out]]; rfl)) (by repeat (first | (with_reducible exact Part.refl _ _) | refine Part.set ?_ (by simp) _ | (with_reducible refine Part.alloc ?_ _) | (with_reducible refine Part.drew ?_)))).1⟩
            case measure => simp [intOf]; omega
        · have HP9 := Lib.hid hp9
          have HLA : Hid (decide ((stepB ba ws o).ph = 9) = false) := Lib.hid (by simpa using hp9)
          obtain ⟨kbv, hkbv⟩ : ∃ x, (o.k == 1) = x := ⟨_, rfl⟩
          have HKB := Lib.hid hkbv
          clear hkbv hp9
          go_wp2_with (go_at_call 9; (with_reducible refine (bstep_op HEe.out.one.quo HRq.out HOKq.out).mono ?_); intro e w7 hs; have HS := Lib.hid hs; have he := hs.1; subst he; rw [HDID.out, HLA.out, didV_five']; obtain ⟨hr7, hn7, nc7, nf7, nl7, tc7, tl7, m1, m2, m3, m4⟩ := early_facts HEe.out HSq.out hs HKB.out; have HR7 := Lib.hid hr7; have HN7 := Lib.hid hn7; have M3 := Lib.hid m3; have m5 : ¬ gn = w7.heap.size := (by omega); have m6 : ¬ w7.heap.size = gn := (by omega); clear hs hr7 hn7)
          go_roundw
          case rel => exact ⟨j + 1, by omega, by go_num, T, _, _, _, rfl, early_T (by rw [show takenC (stepB ba ws o) = 0 from by unfold takenC; split <;> simp [HP9.out]]; try omega) (HEe.out.step HSq.out HS.out (Row.of_eq (l := ss.map ptrS) (by repeat (first | (with_reducible exact HN7.out) | (with_reducible refine Row.alloc ?_ _) | (with_reducible refine Row.drew ?_))) (by rw [show goesOn b (stepB ba ws o) = (some (b, stepB ba ws o)) from by unfold goesOn; rw [if_neg HP9.out]]; exact (ptrs_same HSq.out).symm)) (by repeat (first | (with_reducible exact Part.refl _ _) | refine Part.set ?_ (by simp) _ | (with_reducible refine Part.alloc ?_ _) | (with_reducible refine Part.drew ?_)))).1⟩
          case measure => simp [intOf]; omega
    · obtain rfl : j = xs.length := by omega
      go_wp2
      have hss0 : ss.length = n := HC.out.slen
      have HSS0 := Lib.hid hss0
      have HN0 : Hid (EarlyN W bq bk bw ba n ws ss tb gn gt (ss.map ptrS) T limit _) := Lib.hid HC.out.toN
      clear hss0
      obtain ⟨vs, hvs⟩ : ∃ vs, ss.map ptrS = vs := ⟨_, rfl⟩
      have HVS := Lib.hid hvs
      rw [hvs] at HN0
      clear hvs
      go_loopw [13, 128] (fun t u wr => ∃ i : Nat, i ≤ n ∧ u = .int .i64 i ∧ ∃ (T : Int) (ws : List Int) (s2 : List (Option (Nat × OpB))), t = .int .i64 T ∧ EarlyN W bq bk bw ba n ws s2 tb gn gt vs T limit wr ∧ (∀ j, j < i → s2[j]? = some none) ∧ (∀ j, i ≤ j → s2[j]? = ss[j]?)) (fun _ u _ => n - (intOf u).toNat)
      case atStart => exact ⟨0, Nat.zero_le _, rfl, T, ws, ss, rfl, HN0.out, fun j hj => absurd hj (by omega), fun j _ => rfl⟩
      case round =>
        clear HTB
        obtain ⟨i, hi, rfl, T, ws, s2, rfl, hD, hlow, hhigh⟩ := hrel
        have HD := Lib.hid hD
        have HLOW := Lib.hid hlow
        have HHIGH := Lib.hid hhigh
        have hTb := hD.bounds
        have hTp := hD.pos
        have HTB : Hid (0 ≤ T ∧ T ≤ limit) := Lib.hid ⟨hTp, hTb.2.2⟩
        clear hD hlow hhigh HN0 hTb hTp
        by_cases hin : i < n
        · have hi2 : (i : Int) < (n : Int) := by omega
          obtain ⟨s, hs⟩ : ∃ s, ss[i]? = some s := ⟨_, List.getElem?_eq_getElem (by rw [HSS0.out]; exact hin)⟩
          have hs2 : s2[i]? = some s := by rw [HHIGH.out i (Nat.le_refl _)]; exact hs
          have nc0 : wr.cell? ⟨gn, i, none⟩ = some (ptrS s) := by rw [HD.out.now.cell, ← HVS.out, List.getElem?_map, hs]; rfl
          have hnl := HD.out.now.lt
          cases s with
          | none =>
            have nc1 : wr.cell? ⟨gn, i, none⟩ = some (.pointer none) := nc0
            have HS2 := Lib.hid hs2
            clear nc0 hs hs2
            go_wp2
            go_loopw [23] (fun u wr' => u = .int .i64 0 ∧ EarlyN W bq bk bw ba n ws s2 tb gn gt vs T limit wr') (fun _ _ => 0)
            case atStart => exact ⟨rfl, HD.out⟩
            case round =>
              obtain ⟨rfl, hD⟩ := hrel
              have HD2 := Lib.hid hD
              clear hD
              go_wp2
              go_roundw
              case rel => exact ⟨i + 1, by omega, by go_num, T, ws, s2, rfl, HD2.out, none_upto HLOW.out HS2.out, fun j hj => HHIGH.out j (by omega)⟩
              case measure => simp [intOf]; omega
          | some p =>
            obtain ⟨b, o⟩ := p
            have nc1 : wr.cell? ⟨gn, i, none⟩ = some (.pointer (some ⟨b, 0, none⟩)) := nc0
            have HS2 := Lib.hid hs2
            have htk := (HD.out.op i _ hs2).tk
            obtain ⟨kb, hkb⟩ : ∃ kb, (o.k == 1) = kb := ⟨_, rfl⟩
            have tc0 : wr.cell? ⟨gt, i, none⟩ = some (.bool kb) := by rw [HD.out.tks.cell, List.getElem?_map, htk, ← hkb]; rfl
            have HKB := Lib.hid hkb
            have HTK : Hid (tb[i]? = some kb) := Lib.hid (by rw [htk, ← hkb])
            have HII : Hid (i < s2.length) := Lib.hid (lt_of_get hs2)
            have hset : s2.set i (some (b, o)) = s2 := by
              apply List.ext_getElem?
              intro j
              by_cases e : i = j
              · subst e; rw [List.getElem?_set_self (lt_of_get hs2), hs2]
              · rw [List.getElem?_set_ne e]
            have HDR : Hid (DriveT W bq bk bw ba n s2 tb gn gt vs T limit i b kb 0 wr) := Lib.hid (.inl ⟨ws, o, by rw [hset]; exact HD.out, hkb, .inl rfl⟩)
            clear nc0 hs hs2 htk hkb hset tc0
            go_wp2
            go_loopw [23] (fun u wr' => ∃ m : Nat, u = .int .i64 m ∧ m ≤ 6 ∧ DriveT W bq bk bw ba n s2 tb gn gt vs T limit i b kb m wr') (fun u _ => 7 - (intOf u).toNat)
            case atStart => exact ⟨0, rfl, by omega, HDR.out⟩
            case round =>
              obtain ⟨m, rfl, hm6, hdr⟩ := hrel
              clear HDR nc1 hnl
              rcases hdr with ⟨w4, o4, hN4, hk4, hm4⟩ | ⟨w4, o4, hN4, hk4, h94, hr4, ha4, hm4⟩
              · have hii : (s2.set i (some (b, o4)))[i]? = some (some (b, o4)) := List.getElem?_set_self HII.out
                have hmn := hN4.op i _ hii
                have HLV : Hid (decide (o4.ph = 9) = false) := Lib.hid (decide_eq_false hmn.live)
                have hml := muO_live (n := w4.length) hmn.kk hmn.live
                dsimp only at hml
                have hm5 : m ≤ 5 := by rcases hm4 with rfl | ⟨_, h⟩ <;> omega
                have hm10 : (m : Int) < 10 := by omega
                have HR4 := Lib.hid hmn.row
                have HOK4 : Hid (OkB w4.length o4) := Lib.hid (by rw [hN4.one.len]; exact hmn.ok)
                have HN4 := Lib.hid hN4
                have HK4 := Lib.hid hk4
                have HM4 := Lib.hid hm4
                clear hii hmn hml hN4 hk4 hm4 hm6
                go_wp2_with (first
                  | (go_at_call 11; (with_reducible refine (bdone_op HR4.out).mono ?_); rw [HLV.out]; rintro e wx ⟨rfl, rfl⟩)
                  | (go_at_call 9; (with_reducible refine (bstep_op HN4.out.one.quo HR4.out HOK4.out).mono ?_); intro e w7 hs; have HS := Lib.hid hs; have he := hs.1; subst he; clear hs))
                go_roundw
                case rel => exact ⟨m + 1, by go_num, by omega, DriveT.step HII.out HN4.out HK4.out HM4.out HS.out⟩
                case measure => simp [intOf]; omega
              · have hm10 : (m : Int) < 10 := by omega
                have HLV : Hid (decide (o4.ph = 9) = true) := Lib.hid (decide_eq_true h94)
                have HR4 := Lib.hid hr4
                have HN4 := Lib.hid hN4
                obtain ⟨an, han⟩ : ∃ an, o4.ans = an := ⟨_, rfl⟩
                rw [han] at ha4 HN4
                have HAN := Lib.hid han
                have tc4 : wr.cell? ⟨gt, i, none⟩ = some (.bool kb) := by rw [HN4.out.tks.cell, List.getElem?_map, HTK.out]; rfl
                have tl4 := HN4.out.tks.lt
                have hda : decide (an < 0) = false := by simp; omega
                have hb4 := HN4.out.bounds
                have hLm := HLm.out
                have hTB := HTB.out
                have HSET : Hid (∀ j, j < i + 1 → (s2.set i none)[j]? = some none) := Lib.hid (none_upto (fun j hj => by rw [List.getElem?_set_ne (by omega)]; exact HLOW.out j hj) (List.getElem?_set_self HII.out))
                have HHI : Hid (∀ j, i + 1 ≤ j → (s2.set i none)[j]? = ss[j]?) := Lib.hid (fun j hj => by rw [List.getElem?_set_ne (by omega)]; exact HHIGH.out j (by omega))
                clear hN4 hk4 h94 hr4 hm4 han
                cases kb with
                | true =>
                  simp only [if_true] at hb4
                  have hadd : IntKind.i64.wrap (T + an) = T + an := by rw [IntKind.wrap_i64]; omega
                  have HN5 : Hid (EarlyN W bq bk bw ba n w4 (s2.set i none) tb gn gt vs (T + an) limit wr) := Lib.hid (by have := HN4.out; simpa using this)
                  clear hb4 hLm hTB
                  go_wp2_with (first
                    | (go_at_call 11; (with_reducible refine (bdone_op HR4.out).mono ?_); rw [HLV.out]; rintro e wx ⟨rfl, rfl⟩)
                    | (go_at_call 10; (with_reducible refine (banswer_op HR4.out).mono ?_); rw [HAN.out]; rintro e wx ⟨rfl, rfl⟩))
                  go_roundw
                  case rel => exact ⟨i + 1, by omega, by go_num, T + an, w4, _, by go_num, HN5.out, HSET.out, HHI.out⟩
                  case measure => simp [intOf]; omega
                | false =>
                  have HN5 : Hid (EarlyN W bq bk bw ba n w4 (s2.set i none) tb gn gt vs T limit wr) := Lib.hid (by have := HN4.out; simpa using this)
                  clear hb4 hLm hTB
                  go_wp2_with (first
                    | (go_at_call 11; (with_reducible refine (bdone_op HR4.out).mono ?_); rw [HLV.out]; rintro e wx ⟨rfl, rfl⟩)
                    | (go_at_call 10; (with_reducible refine (banswer_op HR4.out).mono ?_); rw [HAN.out]; rintro e wx ⟨rfl, rfl⟩))
                  go_roundw
                  case rel => exact ⟨i + 1, by omega, by go_num, T, w4, _, rfl, HN5.out, HSET.out, HHI.out⟩
                  case measure => simp [intOf]; omega
        · obtain rfl : n = i := by omega
          have hsum := held_end HD.out (fun j hj => HLOW.out j hj)
          obtain ⟨S, hS⟩ : ∃ S, ws.sum = S := ⟨_, rfl⟩
          have hLm := HLm.out
          have hTB := HTB.out
          have hS0 : 0 ≤ S := by omega
          have hS1 : S ≤ 1099511627776 := by omega
          have hsub : IntKind.i64.wrap (limit - T) = S := by rw [IntKind.wrap_i64]; omega
          have hle : decide (T ≤ limit) = true := by simp; omega
          have HSS := Lib.hid hS
          have HU : Hid (∀ x ∈ ws, 0 ≤ x) := Lib.hid (fun x hx => (HD.out.one.quo.words.ok x hx).1)
          have HANS : Hid (ansB ba ws 3 0 = S) := Lib.hid ((left_sum HU.out (by omega) (by have := HD.out.one.quo.least; omega)).trans hS)
          have HWL : Hid (ws.length ≤ 65) := Lib.hid HD.out.one.quo.top
          clear hsum hS hLm hTB
          go_wp2_with (go_at_call 12; refine (qall_any HD.out.one.quo).mono ?_; rintro e w7 ⟨b7, rfl, hb7, hr7, hw7⟩; have HD7 := Lib.hid (HD.out.on hw7); have HR7 := Lib.hid hr7; clear hb7 hr7 hw7)
          go_loopw [24, 176] (fun u v wr' => ∃ p : Nat, p ≤ ws.length ∧ v = .int .i64 p ∧ (∃ a, u = .int .u64 a ∧ a = (ws.take p).sum) ∧ EarlyN W bq bk bw ba n ws s2 tb gn gt vs T limit wr' ∧ Row wr' b7 37 (u64s ws)) (fun _ v _ => ws.length - (intOf v).toNat)
          case atStart => exact ⟨0, Nat.zero_le _, rfl, ⟨0, rfl, rfl⟩, HD7.out, HR7.out⟩
          case round =>
            obtain ⟨p, hp, rfl, ⟨a, rfl, ha⟩, hD8, hR8⟩ := hrel
            have HD8 := Lib.hid hD8
            have HR8 := Lib.hid hR8
            clear hD8 hR8 HD7 HR7
            by_cases hpl : p < ws.length
            · obtain ⟨x, hx⟩ : ∃ x, ws[p]? = some x := ⟨_, List.getElem?_eq_getElem hpl⟩
              have c0 : wr.cell? ⟨b7, p, none⟩ = some (.int .u64 x) := by rw [HR8.out.cell, u64s_get, hx]; rfl
              have hp2 : (p : Int) < (ws.length : Int) := by omega
              have hw65 := HWL.out
              have hst := sum_take_next hx
              have hlo := sum_take_le HU.out p
              have hhi := sum_take_le HU.out (p + 1)
              rw [HSS.out] at hlo hhi
              have hadd : IntKind.u64.wrap (a + x) = a + x := by rw [IntKind.wrap_u64]; omega
              have HST : Hid (a + x = (ws.take (p + 1)).sum) := Lib.hid (by omega)
              clear hx hst hlo hhi ha
              go_wp2
              go_roundw
              case rel => exact ⟨p + 1, by omega, by go_num, ⟨_, rfl, HST.out⟩, HD8.out, HR8.out⟩
              case measure => simp [intOf]; omega
            · obtain rfl : ws.length = p := by omega
              rw [List.take_length, HSS.out] at ha
              subst ha
              go_wp2_with (go_at_call 13; refine (bleft_yes HD8.out.one.quo HD8.out.one.len).mono ?_; rw [HANS.out]; rintro e w9 ⟨rfl, _, hP9⟩; have HP9 := Lib.hid hP9; clear hP9)
              go_ret
              exact ⟨rfl, HD8.out.one.low.trans (HP9.out.below HD8.out.one.low.size (fun r hr => by rw [List.mem_singleton.1 hr]; exact HD8.out.one.lo))⟩
end Go.Proofs.YteoekkhgpdhnhaaDoor
