/- THE WALK of the law 'RingSteps'. -/
import Derived.Test.YtjehcgeodcpcaaaKx
namespace Go.Proofs.Ytjehcgeodcpcaaa
open Go Go.RowKit
set_option maxRecDepth 100000
set_option maxHeartbeats 25600000
theorem rsteps_yes {n : Nat} {wd : Int} (h1 : 1 ≤ n) (h2 : n ≤ 4096) (h3 : 1 ≤ wd) (h4 : wd ≤ 1152921504606846976) {A B : Option Addr} {cap cap' : Nat} {ops : List (Int × Int × Int)} {ks : List Int} (W : World) (hE : Ext3 .u8 .i64 .u64 W A ops) (hwf : ∀ op ∈ ops, op.2.1 ≤ 9223372036854775807 ∧ U64 op.2.2) (hr : ops.length ≤ 1048576) (hX : Ext .i64 W B ks) (hr2 : ks.length ≤ 1048576) (hB : B = none → ks.length = 0 ∧ cap' = 0) :
    Calls Try.prog 3 #[.int .i64 (n : Int), .int .i64 wd, .slice A ops.length cap, .slice B ks.length cap'] W fun e w' => e = .returned (.bool true) ∧ Below W.heap.size W w' := by
  obtain ⟨ip, hip, hp0, hp1, hp2⟩ := info_parts infoPN
  obtain ⟨iu, hiu, hu0, hu1, hu2⟩ := info_parts infoUN
  obtain ⟨iI, hiI, hI0, hI1, hI2⟩ := info_parts infoIN
  have HE := Lib.hid hE
  have HWF := Lib.hid hwf
  have HXS := Lib.hid hX
  have HNB := Lib.hid hB
  clear hE hwf hX hB
  go_enter Try.func3, Try.ntmps3
  go_wp2_with (first
    | (go_at_call 7; refine (lives_any _).mono ?_; rintro e w0 ⟨rfl, hb⟩; have HB0 := Lib.hid hb; clear hb)
    | (go_at_call 8; refine (rnew_yes w0 h1 h2 h3 h4).mono ?_; rintro e w1 ⟨br, bk, bw, rfl, _, _, hbw, hR, hb⟩; have HR1 := Lib.hid hR; have HBW := Lib.hid (Nat.le_trans HB0.out.size hbw); have HB1 := Lib.hid (HB0.out.trans (hb.mono HB0.out.size)); clear hbw hR hb)
    | (go_at_call 9; refine (dnew_yes w1 h1 h2 h3 h4).mono ?_; rintro e w2 ⟨g, rfl, hg, hrow, hb⟩; unfold bookV; have HA2 := Lib.hid (show AllN W br bk bw n wd (List.replicate n 0) [] [] (List.replicate n 0) [] [] (.slice none 0 0) (.slice none 0 0) (.slice none 0 0) [] (some ⟨g, 0, none⟩) n w2 from AllN.nil (HR1.out.on hb) (List.length_replicate ..) (own_of_rowU hrow (Nat.le_trans HB1.out.size hg) (List.length_replicate ..) (by unfold maxLen; omega)) HBW.out (HB1.out.trans (hb.mono HB1.out.size))); clear hg hrow hb))
  obtain ⟨b11, hb11⟩ : ∃ b11, w2.heap.size = b11 := ⟨_, rfl⟩
  have HA3 := Lib.hid (HA2.out.alloc (.cells #[.int .i64 wd, .slice (some ⟨g, 0, none⟩) n n] 31))
  have HK3 : Hid (BoxN W b11 31 [.int .i64 wd, .slice (some ⟨g, 0, none⟩) n n] (w2.alloc (.cells #[.int .i64 wd, .slice (some ⟨g, 0, none⟩) n n] 31))) := Lib.hid (by rw [← hb11]; exact BoxN.new HA2.out.low.size [.int .i64 wd, .slice (some ⟨g, 0, none⟩) n n])
  rw [hb11]
  clear hb11
  obtain ⟨ws0, hws0⟩ : ∃ ws0, List.replicate n (0 : Int) = ws0 := ⟨_, rfl⟩
  rw [hws0] at HA3
  clear hws0
  go_loopw [13, 14, 61] (fun vp vu i wr => ∃ j : Nat, j ≤ ops.length ∧ i = .int .i64 j ∧ ∃ oc bs xs, bs.length ≤ j ∧ AllN W br bk bw n wd ws0 oc bs ws0 oc xs vp vu (.slice none 0 0) [] (some ⟨g, 0, none⟩) n wr ∧ BoxN W b11 31 [.int .i64 wd, .slice (some ⟨g, 0, none⟩) n n] wr) (fun _ _ i _ => ops.length - (intOf i).toNat)
  case atStart => exact ⟨0, Nat.zero_le _, rfl, [], [], [], Nat.le_refl _, HA3.out, HK3.out⟩
  case round =>
    obtain ⟨j, hj, rfl, oc, bs, xs, hbj, hA, hK⟩ := hrel
    have HA := Lib.hid hA
    have HK := Lib.hid hK
    have HBJ := Lib.hid hbj
    clear hA hK hbj HA2 HA3 HK3 HR1 HBW HB1 HB0
    by_cases hlt : j < ops.length
    · obtain ⟨op, hop⟩ : ∃ op, ops[j]? = some op := ⟨ops[j], List.getElem?_eq_getElem hlt⟩
      obtain ⟨b, o, rfl, hbl, e0, e1, e2⟩ := (HE.out.on HA.out.low) j _ hop
      have hlt2 : (j : Int) < (ops.length : Int) := by omega
      have hj3 : j * 3 ≤ 17592186044416 := by omega
      obtain ⟨ht, hm⟩ := HWF.out op (List.mem_of_getElem? hop)
      have HT := Lib.hid ht
      have HM := Lib.hid hm
      clear hop ht hm
      obtain ⟨k, t, m⟩ := op
      dsimp only at e0 e1 e2 HT HM
      have HO := Lib.hid (Row.new wr 39 [.int .u8 k, .int .i64 t, .int .u64 m])
      have HAo := Lib.hid (HA.out.alloc (.cells #[.int .u8 k, .int .i64 t, .int .u64 m] 39))
      have HKo := Lib.hid (HK.out.on ((Below.refl _ _).alloc (Nat.le_refl _) (.cells #[.int .u8 k, .int .i64 t, .int .u64 m] 39)))
      obtain ⟨kb0, kb1⟩ := HKo.out.row.two2
      have kblt := HKo.out.row.lt
      have hLC := HA.out.len
      obtain ⟨v, hv⟩ : ∃ v, checkE wd k t m = v := ⟨_, rfl⟩
      have HCK := Lib.hid hv
      by_cases hv0 : v = 0
      · subst hv0
        have HF := Lib.hid (fineN_of h3 HM.out hv)
        clear hv
        have HLL : Hid (bs.length + 1 ≤ ops.length) := Lib.hid (by have h1 := HBJ.out; omega)
        have H3 : Hid (bs.length + 1 ≤ maxLen) := Lib.hid (by have := HLL.out; unfold maxLen; omega)
        have H4 : Hid ((bs.length + 1) * 8 ≤ 140737488355328) := Lib.hid (by have := HLL.out; omega)
        have H6 : Hid ((bs.length + 1) * 72 ≤ 140737488355328) := Lib.hid (by have := HLL.out; omega)
        have HLEN := Lib.hid hLC
        clear hLC
        go_wp2_with (first
          | (go_at_call 10; refine (nstart_op HAo.out.rng HT.out HF.out).mono ?_; rw [HLEN.out]; rintro e w5 ⟨bp, rfl, hn5, hr5, hb5⟩; have HB5 := Lib.hid hb5; have HN5 := Lib.hid hn5; have HR5 := Lib.hid hr5; have HA5 := Lib.hid (HAo.out.on hb5); have hk5 := HKo.out.on hb5; obtain ⟨ka0, ka1⟩ := hk5.row.two2; have HK5 := Lib.hid hk5; have hO5 := HO.out.below hb5 HO.out.lt; have HO5 := Lib.hid hO5; have c0 := hO5.cell 0; have c1 := hO5.cell 1; have c2 := hO5.cell 2; have clt := hO5.lt; have kalt := hk5.row.lt; clear hb5 hn5 hr5 hO5 hk5)
          | (go_at_call 11; refine (dfault_at h3 h4 HT.out HM.out HCK.out _).mono ?_; rintro e w6 ⟨rfl, hb6⟩; have HB6 := Lib.hid (HB5.out.trans (hb6.mono HB5.out.size)); have HR6 := Lib.hid (HR5.out.below hb6 HR5.out.lt); have HA6 := Lib.hid (HA5.out.on hb6); have HK6 := Lib.hid (HK5.out.on hb6); have hO6 := HO5.out.below hb6 HO5.out.lt; have HO6 := Lib.hid hO6; have q0 := hO6.cell 0; have q1 := hO6.cell 1; have q2 := hO6.cell 2; have qlt := hO6.lt; have H5 : Hid (W.heap.size ≤ (w6.alloc (.cells #[.pointer (some ⟨bp, 0, none⟩)] 40)).heap.size) := Lib.hid (by have := HA6.out.low.size; simp; omega); clear hb6 hO6)
          | (at_builtin; refine wpList_append_own _ rfl _ _ 34 rfl W.heap.size 40 ip (.pointer none) 1 8 Try.underlying34 hip hp0 hp1 hp2 rfl (by decide) _ _ _ rfl (HA6.out.ps.alloc _) ⟨w6.heap.size, 0, none⟩ 1 1 [.pointer (some ⟨bp, 0, none⟩)] rfl rfl (new_cells _ _ _) (one_ptr _) H3.out H4.out H5.out ?_; intro vp' w7 hown7 hgr7 _; have HO7 := Lib.hid hown7; have HG7 := Lib.hid hgr7; have hR7 := (HO6.out.alloc (.cells #[.pointer (some ⟨bp, 0, none⟩)] 40)).grown hgr7 (own_not_in HA6.out.ps HO6.out (by decide)); have p0 := hR7.cell 0; have p1 := hR7.cell 1; have p2 := hR7.cell 2; have plt := hR7.lt; have HK7 := Lib.hid (BoxN.mk ((HK6.out.row.alloc (.cells #[.pointer (some ⟨bp, 0, none⟩)] 40)).grown hgr7 (own_not_in HA6.out.ps HK6.out.row (by decide))) HK6.out.lo); have HU7 := Lib.hid ((HA6.out.un.alloc (.cells #[.pointer (some ⟨bp, 0, none⟩)] 40)).kept hgr7 (own_apart HA6.out.un HA6.out.ps (by decide))); have H7 : Hid (W.heap.size ≤ (w7.alloc (.cells #[.int .u8 k, .int .i64 t, .int .u64 m, .bool false, .bool false, .int .u64 0, .int .i64 0, .bool false, .int .u64 0, .int .i64 0] 45)).heap.size) := Lib.hid (by have h1 := HA6.out.low.size; have h2 := hgr7.size; simp at h2 ⊢; omega); clear hown7 hgr7 hR7)
          | (at_builtin; refine wpList_append_own _ rfl _ _ 35 rfl W.heap.size 45 iu (.agg undNO.toArray) 10 72 Try.underlying35 hiu hu0 hu1 hu2 rfl (by decide) _ _ _ rfl (HU7.out.alloc _) ⟨w7.heap.size, 0, none⟩ 1 1 [.int .u8 k, .int .i64 t, .int .u64 m, .bool false, .bool false, .int .u64 0, .int .i64 0, .bool false, .int .u64 0, .int .i64 0] rfl rfl (new_cells _ _ _) (dn_one (DN.mk k t m false false 0 0 false 0 0)) H3.out H6.out H7.out ?_; intro vu' w8 hown8 hgr8 _; have HO8 := Lib.hid hown8; have HG8 := Lib.hid hgr8; have HK8 := Lib.hid (BoxN.mk ((HK7.out.row.alloc (.cells #[.int .u8 k, .int .i64 t, .int .u64 m, .bool false, .bool false, .int .u64 0, .int .i64 0, .bool false, .int .u64 0, .int .i64 0] 45)).grown hgr8 (own_not_in HU7.out HK7.out.row (by decide))) HK7.out.lo); clear hown8 hgr8))
        go_roundw
        case rel => exact ⟨j + 1, by omega, by go_num, _, bs ++ [bp], _, by have := HBJ.out; rw [List.length_append, List.length_singleton]; omega, HAo.out.grow HF.out HT.out HB6.out HR6.out HN5.out HO7.out HG7.out HO8.out HG8.out, HK8.out⟩
        case measure => simp [intOf]; omega
      · have hvb : (v != 0) = true := by simpa using hv0
        have HV0 := Lib.hid hv0
        clear hv hv0
        go_wp2_with (first
          | (go_at_call 10; refine (nstart_no HAo.out.rng HT.out HM.out HCK.out HV0.out).mono ?_; rintro e w5 ⟨rfl, hb5⟩; have HA5 := Lib.hid (HAo.out.on hb5); have hk5 := HKo.out.on hb5; obtain ⟨ka0, ka1⟩ := hk5.row.two2; have HK5 := Lib.hid hk5; have hO5 := HO.out.below hb5 HO.out.lt; have c0 := hO5.cell 0; have c1 := hO5.cell 1; have c2 := hO5.cell 2; have clt := hO5.lt; have kalt := hk5.row.lt; clear hb5 hO5 hk5)
          | (go_at_call 11; refine (dfault_at h3 h4 HT.out HM.out HCK.out _).mono ?_; rintro e w6 ⟨rfl, hb6⟩; have HA6 := Lib.hid (HA5.out.on hb6); have HK6 := Lib.hid (HK5.out.on hb6); clear hb6))
        go_roundw
        case rel => exact ⟨j + 1, by omega, by go_num, oc, bs, xs, by have := HBJ.out; omega, HA6.out, HK6.out⟩
        case measure => simp [intOf]; omega
    · obtain rfl : j = ops.length := by omega
      obtain ⟨ap, cp0, rfl⟩ := own_form HA.out.ps
      obtain ⟨au, cu0, rfl⟩ := own_form HA.out.un
      have HBL : Hid (bs.length ≤ 1048576) := Lib.hid (by have h1 := HBJ.out; omega)
      go_wp2_with (at_builtin; refine wpList_append_any rfl _ _ 23 rfl W.heap.size 3 iI (.int .i64 0) 1 8 Try.underlying23 hiI hI0 hI1 hI2 rfl (by decide) (.slice none 0 0) 0 [] rfl ⟨rfl, .inl ⟨rfl, rfl⟩⟩ B ks.length cap' (i64s ks) rfl (by simp [i64s]) HNB.out (ext_src (HXS.out.on HA.out.low)) (all_i64 ks) (by unfold maxLen; omega) (by omega) HA.out.low.size ?_; intro vo w9 hown9 hgr9; have HZ9 := Lib.hid (HA.out.first_ (ys := ks) (by simpa using hown9) hgr9); have HK9 := Lib.hid (HK.out.on ((Below.refl _ _).grown hgr9 (Nat.le_refl _) (fun q e => absurd (show (none : Option Nat) = some q from e) (by simp)))); clear hown9 hgr9)
      go_loopw [20, 101] (fun vo i wr => ∃ j : Nat, j ≤ bs.length ∧ i = .int .i64 j ∧ ∃ ord : List Int, ord.length = ks.length + 4 * j ∧ AllN W br bk bw n wd ws0 oc bs ws0 oc xs (.slice ap bs.length cp0) (.slice au bs.length cu0) vo ord (some ⟨g, 0, none⟩) n wr ∧ BoxN W b11 31 [.int .i64 wd, .slice (some ⟨g, 0, none⟩) n n] wr) (fun _ i _ => bs.length - (intOf i).toNat)
      case atStart => exact ⟨0, Nat.zero_le _, rfl, ks, by omega, HZ9.out, HK9.out⟩
      case round =>
        obtain ⟨j, hj, rfl, ord, hol, hA, hK⟩ := hrel
        have HA := Lib.hid hA
        have HK := Lib.hid hK
        have HOL := Lib.hid hol
        clear hA hK hol HZ9 HK9
        by_cases hlt : j < bs.length
        · have hlt2 : (j : Int) < (bs.length : Int) := by omega
          have hbl := HBL.out
          have H3 : Hid (ord.length + 4 ≤ maxLen) := Lib.hid (by have h1 := HOL.out; have h2 := HBL.out; unfold maxLen; omega)
          have H4 : Hid ((ord.length + 4) * 8 ≤ 140737488355328) := Lib.hid (by have h1 := HOL.out; have h2 := HBL.out; omega)
          go_wp2_with (at_builtin; refine wpList_append_own _ rfl _ _ 23 rfl W.heap.size 3 iI (.int .i64 0) 1 8 Try.underlying23 hiI hI0 hI1 hI2 rfl (by decide) _ _ _ rfl (HA.out.ord_.alloc _) ⟨wr.heap.size, 0, none⟩ 4 4 [.int .i64 (j : Int), .int .i64 (j : Int), .int .i64 (j : Int), .int .i64 (j : Int)] rfl rfl (new_cells _ _ _) (four_i64 _) H3.out H4.out (by have := HA.out.low.size; simp; omega) ?_; intro vo' w6 hown6 hgr6 _; have HA6 := Lib.hid (HA.out.more (ys := ord ++ [(j : Int), j, j, j]) (by simpa [i64s] using hown6) hgr6); have HK6 := Lib.hid (BoxN.mk ((HK.out.row.alloc (.cells #[.int .i64 (j : Int), .int .i64 (j : Int), .int .i64 (j : Int), .int .i64 (j : Int)] 3)).grown hgr6 (own_not_in HA.out.ord_ HK.out.row (by decide))) HK.out.lo); clear hown6 hgr6)
          go_roundw
          case rel => exact ⟨j + 1, by omega, by go_num, ord ++ [(j : Int), j, j, j], by have := HOL.out; rw [List.length_append]; simp; omega, HA6.out, HK6.out⟩
          case measure => simp [intOf]; omega
        · obtain rfl : j = bs.length := by omega
          obtain ⟨oa, oc0, rfl⟩ := own_form HA.out.ord_
          have hon : ord.length ≤ 5242880 := by have h1 := HOL.out; have h2 := HBL.out; omega
          go_wp2
          go_loopw [114] (fun i wr => ∃ j : Nat, j ≤ ord.length ∧ i = .int .i64 j ∧ ∃ ws os xs A1 c1, AllN W br bk bw n wd ws os bs ws os xs (.slice ap bs.length cp0) (.slice au bs.length cu0) (.slice oa ord.length oc0) ord A1 c1 wr ∧ BoxN W b11 31 [.int .i64 wd, .slice A1 n c1] wr) (fun i _ => ord.length - (intOf i).toNat)
          case atStart => exact ⟨0, Nat.zero_le _, rfl, _, _, _, _, _, HA.out, HK.out⟩
          case round =>
            obtain ⟨j, hj, rfl, ws, os, xs, A1, c1, hA, hK⟩ := hrel
            have HA := Lib.hid hA
            have HK := Lib.hid hK
            clear hA hK
            by_cases hlt : j < ord.length
            · have hjl : (j : Int) < (ord.length : Int) := by omega
              obtain ⟨k, hk⟩ : ∃ k, ord[j]? = some k := ⟨_, List.getElem?_eq_getElem hlt⟩
              obtain ⟨g9, c9, hv9, _, g9lt⟩ := own_some HA.out.ord_ (by omega)
              cases hv9
              have q9 := own_cell HA.out.ord_ (i64s_get hk)
              clear hk
              by_cases hk0 : k < 0
              · go_wp2
                go_roundw
                case rel => exact ⟨j + 1, by omega, by go_num, ws, os, xs, A1, c1, HA.out, HK.out⟩
                case measure => simp [intOf]; omega
              by_cases hkn : (bs.length : Int) ≤ k
              · go_wp2
                go_roundw
                case rel => exact ⟨j + 1, by omega, by go_num, ws, os, xs, A1, c1, HA.out, HK.out⟩
                case measure => simp [intOf]; omega
              obtain ⟨q, rfl⟩ := Int.eq_ofNat_of_zero_le (show 0 ≤ k by omega)
              have hqb : q < bs.length := by omega
              obtain ⟨oq, bp, rx, gp, cp, gu, cu, ho, hb, hx, hrow, hok, hd, hf, htt, hvp, hvu, pc, gplt, gult, gne⟩ := HA.out.get hqb
              cases hvp
              cases hvu
              have hqb2 : (q : Int) < (bs.length : Int) := by omega
              have hq10 : q * 10 ≤ 10485760 := by have := HBL.out; omega
              have HO := Lib.hid ho
              have HBq := Lib.hid hb
              have HXr := Lib.hid hx
              have HOK := Lib.hid hok
              have HDQ := Lib.hid hd
              have HFQ := Lib.hid hf
              have HTQ := Lib.hid htt
              have HLEN := Lib.hid HA.out.len
              have HUS := Lib.hid HA.out.rng.words.ok
              have HPOS : Hid (0 < ws.length) := Lib.hid HA.out.rng.pos
              have HTOP : Hid (ws.length ≤ 4096) := Lib.hid HA.out.rng.top
              clear ho hb hx hrow hok hd hf htt
              obtain ⟨d0, d1, d2, d3, d4, hdi⟩ := did_fiveN ws oq
              obtain ⟨ws2, hws⟩ : ∃ ws2, stepNW ws oq = ws2 := ⟨_, rfl⟩
              obtain ⟨o2, ho2⟩ : ∃ o2, stepN ws oq = o2 := ⟨_, rfl⟩
              obtain ⟨la, hla⟩ : ∃ la, decide (o2.ph = 2) = la := ⟨_, rfl⟩
              obtain ⟨an, wy, hany⟩ := answer_two o2
              have HDI := Lib.hid hdi
              have HWS := Lib.hid hws
              have HO2 := Lib.hid ho2
              have HLA := Lib.hid hla
              have HAN := Lib.hid hany
              have HWL : Hid (ws2.length = n) := Lib.hid (by rw [← hws, stepNW_len]; exact HLEN.out)
              have HOK2 : Hid (OkN o2) := Lib.hid (by rw [← ho2]; exact HOK.out.step (fun t => HA.out.rng.words.cell64 HA.out.rng.pos t))
              have HK2 : Hid (o2.k = oq.k ∧ o2.n = oq.n ∧ o2.q = oq.q) := Lib.hid (by rw [← ho2]; exact stepN_same ws oq)
              have HO2q : Hid ((os.set q o2)[q]? = some o2) := Lib.hid (List.getElem?_set_self (lt_of_get HO.out))
              clear hdi hws ho2 hla hany
              obtain ⟨u0, u1, u2, u3, u4, u5, u6, u7, u8, u9⟩ := un_cells HA.out.un HXr.out
              obtain ⟨kb0, kb1⟩ := HK.out.row.two2
              have kblt := HK.out.row.lt
              have HSD : Hid (∀ W0 : World, Below wr.heap.size wr W0 → Calls Try.prog 12 #[.agg #[.int .i64 wd, .slice A1 n c1], .agg #[.int .u8 rx.k, .int .i64 rx.t, .int .u64 rx.n, .bool rx.bg, .bool rx.ld, .int .u64 rx.saw, .int .i64 rx.nx, .bool rx.en, .int .u64 rx.sm, .int .i64 rx.why]] W0 fun e w1 => ∃ A2 c2 x2, e = .returned (.tuple #[.agg #[.int .i64 wd, .slice A2 n c2], .agg #[.int .u8 x2.k, .int .i64 x2.t, .int .u64 x2.n, .bool x2.bg, .bool x2.ld, .int .u64 x2.saw, .int .i64 x2.nx, .bool x2.en, .int .u64 x2.sm, .int .i64 x2.why], .agg #[.int .u8 d0, .int .i64 d1, .int .u64 d2, .int .u64 d3, .bool d4]]) ∧ w1.ownsRow W.heap.size 37 1 (.slice A2 n c2) n (u64s ws2) ∧ DocN n rx.t o2 x2 ∧ Below wr.heap.size wr w1 ∧ W0.heap.size ≤ w1.heap.size ∧ ∀ b t l, Row W0 b t l → Row w1 b t l) := Lib.hid (fun W0 hb0 => by
                have hA0 := HA.out.on hb0
                have hc := dstepn_op (c := c1) (w := W0) (by have := hA0.doc; rw [← HLEN.out] at this; exact this) hA0.low.size HPOS.out HTOP.out h3 h4 HTQ.out HUS.out HOK.out HFQ.out (by have := HDQ.out; rw [← HLEN.out] at this; exact this)
                rw [HLEN.out] at hc
                refine hc.mono ?_
                rintro e w1 ⟨A2, c2, x2, he, ho1, hd1, hb1⟩
                rw [HLEN.out, HDI.out] at he
                rw [HLEN.out, HWS.out] at ho1
                rw [HLEN.out, HO2.out] at hd1
                exact ⟨A2, c2, x2, he, ho1, hd1, hb0.trans (hb1.mono hb0.size), hb1.size, fun b t l h => h.below hb1 h.lt⟩)
              have SK : Hid (∀ wz : World, Below wr.heap.size wr wz → wz.cell? ⟨b11, 0, none⟩ = some (.int .i64 wd) ∧ wz.cell? ⟨b11, 1, none⟩ = some (.slice A1 n c1) ∧ wz.cell? ⟨gu, q * 10, none⟩ = some (.int .u8 rx.k) ∧ wz.cell? ⟨gu, q * 10 + 1, none⟩ = some (.int .i64 rx.t) ∧ wz.cell? ⟨gu, q * 10 + 2, none⟩ = some (.int .u64 rx.n) ∧ wz.cell? ⟨gu, q * 10 + 3, none⟩ = some (.bool rx.bg) ∧ wz.cell? ⟨gu, q * 10 + 4, none⟩ = some (.bool rx.ld) ∧ wz.cell? ⟨gu, q * 10 + 5, none⟩ = some (.int .u64 rx.saw) ∧ wz.cell? ⟨gu, q * 10 + 6, none⟩ = some (.int .i64 rx.nx) ∧ wz.cell? ⟨gu, q * 10 + 7, none⟩ = some (.bool rx.en) ∧ wz.cell? ⟨gu, q * 10 + 8, none⟩ = some (.int .u64 rx.sm) ∧ wz.cell? ⟨gu, q * 10 + 9, none⟩ = some (.int .i64 rx.why)) := Lib.hid (fun wz hbz => ⟨(hbz.cell (p := ⟨b11, 0, none⟩) kblt).trans kb0, (hbz.cell (p := ⟨b11, 1, none⟩) kblt).trans kb1, (hbz.cell (p := ⟨gu, q * 10, none⟩) gult).trans u0, (hbz.cell (p := ⟨gu, q * 10 + 1, none⟩) gult).trans u1, (hbz.cell (p := ⟨gu, q * 10 + 2, none⟩) gult).trans u2, (hbz.cell (p := ⟨gu, q * 10 + 3, none⟩) gult).trans u3, (hbz.cell (p := ⟨gu, q * 10 + 4, none⟩) gult).trans u4, (hbz.cell (p := ⟨gu, q * 10 + 5, none⟩) gult).trans u5, (hbz.cell (p := ⟨gu, q * 10 + 6, none⟩) gult).trans u6, (hbz.cell (p := ⟨gu, q * 10 + 7, none⟩) gult).trans u7, (hbz.cell (p := ⟨gu, q * 10 + 8, none⟩) gult).trans u8, (hbz.cell (p := ⟨gu, q * 10 + 9, none⟩) gult).trans u9⟩)
              go_upto_region 33 with fail
              go_cut [24, 25, 26] (fun s24 s25 s26 wx => ∃ b24 b25 b26 A2 c2 x2, s24 = .pointer (some ⟨b24, 0, none⟩) ∧ s25 = .pointer (some ⟨b25, 0, none⟩) ∧ s26 = .pointer (some ⟨b26, 0, none⟩) ∧ Below wr.heap.size wr wx ∧ wx.ownsRow W.heap.size 37 1 (.slice A2 n c2) n (u64s ws2) ∧ DocN n rx.t o2 x2 ∧ wr.heap.size ≤ b24 ∧ wr.heap.size ≤ b25 ∧ wr.heap.size ≤ b26 ∧ Row wx b24 31 [.int .i64 wd, .slice A2 n c2] ∧ Row wx b25 45 [.int .u8 x2.k, .int .i64 x2.t, .int .u64 x2.n, .bool x2.bg, .bool x2.ld, .int .u64 x2.saw, .int .i64 x2.nx, .bool x2.en, .int .u64 x2.sm, .int .i64 x2.why] ∧ Row wx b26 48 [.int .u8 d0, .int .i64 d1, .int .u64 d2, .int .u64 d3, .bool d4])
              case first =>
                refine r33 _ _ _ _ _ _ _ _ _ _ _ _ _ _ _ _ _ _ _ _ _ _ _ _ _ _ _ _ _ _ _ _ _ _ _ _ _ _ _ _ _ _ _ _ _ _ _ _ _ _ _ _ _ _ _ _ _ _ _ _ _ _ _ _ _ _ _ _ _ _ _ _ _ _ _ _ _ _ _ _ _ _ _ _ _ _ _ _ _ _ _ _ _ _ _ _ _ _ _ _ _ _ _ _ _ _ _ _ _ _ _ _ _ _ _ _ _ _ _ _ _ _ _ _ _ _ _ _ _ _ _ _ _ _ _ _ _ _ _ _ _ _ _ _ _ _ _ _ _ _ _ _ _ _ _ _ _ _ _ _ _ _ _ _ _ _ _ _ _ _ _ _ _ _ _ _ _ _ _ _ _ _ _ _ _ _ _ _ _ hqb hqb2 hq10 SK HSD (Lib.hid ?_)
                intro b24 b25 b26 A2 c2 x2 v126 v127 v128 v129 v130 v131 v132 v133 v134 v135 wx hbl ho2 hd2 l24 l25 l26 r24 r25 r26
                go_wp2_with fail
                go_meet
                exact ⟨_, _, _, A2, c2, x2, rfl, rfl, rfl, hbl, ho2, hd2, l24, l25, l26, r24, r25, r26⟩
              case rest =>
                obtain ⟨b24, b25, b26, A2, c2, x2, rfl, rfl, rfl, hbl, ho2, hd2, l24, l25, l26, r24, r25, r26⟩ := hcut
                have HC := Lib.hid (HA.out.words hbl HWL.out ho2)
                have hlo := HA.out.low.size
                have HBK := Lib.hid (HK.out.on hbl)
                have HD2 : Hid (DocN n x2.t o2 x2) := Lib.hid (by rw [hd2.t]; exact hd2)
                have HF2 : Hid (FineN wd o2.k x2.t o2.n o2.q) := Lib.hid (by rw [hd2.t, HK2.out.1, HK2.out.2.1, HK2.out.2.2]; exact HFQ.out)
                have HT2 : Hid (x2.t ≤ 9223372036854775807) := Lib.hid (by rw [hd2.t]; exact HTQ.out)
                have HB25 : Hid (BoxN W b25 45 [.int .u8 x2.k, .int .i64 x2.t, .int .u64 x2.n, .bool x2.bg, .bool x2.ld, .int .u64 x2.saw, .int .i64 x2.nx, .bool x2.en, .int .u64 x2.sm, .int .i64 x2.why] wc) := Lib.hid ⟨r25, by omega⟩
                have HB26 : Hid (BoxN W b26 48 [.int .u8 d0, .int .i64 d1, .int .u64 d2, .int .u64 d3, .bool d4] wc) := Lib.hid ⟨r26, by omega⟩
                obtain ⟨a0, a1⟩ := r24.two2
                obtain ⟨v0, v1, v2, v3, v4, v5, v6, v7, v8, v9⟩ := r25.ten
                obtain ⟨kc0, kc1⟩ := HBK.out.row.two2
                have kcf := HBK.out.row.free
                have kclt := HBK.out.row.lt
                obtain ⟨m0, m1, m2, m3, m4, m5, m6, m7, m8, m9⟩ := un_cells HC.out.un HXr.out
                have mf := HC.out.un.frozenAt
                have gult2 := own_block HC.out.un gu rfl
                have n1 : ¬ b11 = b24 := by omega
                have n2 : ¬ b24 = b11 := by omega
                have n3 : ¬ b11 = b25 := by omega
                have n4 : ¬ b25 = b11 := by omega
                have n5 : ¬ gu = b25 := by omega
                have n6 : ¬ b25 = gu := by omega
                have n7 : ¬ gu = b11 := own_off HC.out.un HBK.out.row (by decide) gu rfl
                have n8 : ¬ b11 = gu := fun e => n7 e.symm
                have n9 : b26 ≠ b11 := by omega
                have n10 : b26 ≠ gu := by omega
                clear hbl ho2 hd2 r24 r25 r26 u0 u1 u2 u3 u4 u5 u6 u7 u8 u9 kb0 kb1 q9 pc
                have HA1 := Lib.hid (HC.out.off HBK.out.row HBK.out.lo (ringSet_part wc b11 (.int .i64 wd) (.slice A2 n c2)) (by decide) (by decide) (by decide) (by decide) (by decide) (by decide) (by decide) (by decide))
                have HBK1 : Hid (BoxN W b11 31 [.int .i64 wd, .slice A2 n c2] (ringSet wc b11 (.int .i64 wd) (.slice A2 n c2))) := Lib.hid ⟨ringSet_row HBK.out.row _ _, HBK.out.lo⟩
                have HA2 := Lib.hid (HA1.out.unds HO.out HXr.out HD2.out HF2.out HT2.out)
                have hPU := undSet_part (ringSet wc b11 (.int .i64 wd) (.slice A2 n c2)) gu (q * 10) x2
                have hPR := ringSet_part wc b11 (.int .i64 wd) (.slice A2 n c2)
                have HBK2 := Lib.hid (HBK1.out.part hPU (by simpa using n8))
                have HC25 := Lib.hid ((HB25.out.part hPR (by simpa using n4)).part hPU (by simpa using n6))
                have HC26 := Lib.hid ((HB26.out.part hPR (by simpa using n9)).part hPU (by simpa using n10))
                have HRP := Lib.hid (HA2.out.pends.row q oq bp HO.out HBq.out)
                have pcU := (HC.out.places HBq.out).1
                have gplt2 := (HC.out.places HBq.out).2.1
                have n11 : ¬ gp = b11 := own_off HC.out.ps HBK.out.row (by decide) gp rfl
                have n12 : ¬ b11 = gp := fun e => n11 e.symm
                have n13 : ¬ gu = gp := fun e => gne e.symm
                clear hPU hPR
                go_upto_region 36 with fail
                go_cut [27, 28] (fun s27 s28 wx => ∃ b27, s27 = .pointer (some ⟨b27, 0, none⟩) ∧ s28 = .bool la ∧ BoxN W b25 45 [.int .u8 x2.k, .int .i64 x2.t, .int .u64 x2.n, .bool x2.bg, .bool x2.ld, .int .u64 x2.saw, .int .i64 x2.nx, .bool x2.en, .int .u64 x2.sm, .int .i64 x2.why] wx ∧ BoxN W b26 48 [.int .u8 d0, .int .i64 d1, .int .u64 d2, .int .u64 d3, .bool d4] wx ∧ BoxN W b27 48 [.int .u8 d0, .int .i64 d1, .int .u64 d2, .int .u64 d3, .bool d4] wx ∧ AllN W br bk bw n wd ws2 (os.set q o2) bs ws2 (os.set q o2) (xs.set q x2) (.slice (some ⟨gp, 0, none⟩) bs.length cp0) (.slice (some ⟨gu, 0, none⟩) bs.length cu0) (.slice (some ⟨g9, 0, none⟩) ord.length oc0) ord A2 c2 wx ∧ BoxN W b11 31 [.int .i64 wd, .slice A2 n c2] wx)
                case first =>
                  have hst := nstep_op HA2.out.rng HRP.out HOK.out
                  have HST := Lib.hid hst
                  clear hst
                  go_wp2_with (go_at_call 13; have hst := HST.out; unfold undSet ringSet at hst; refine hst.mono ?_; clear hst; rintro e w5 hs; have hc := HA2.out.code HO.out HBq.out hs; rw [HWS.out, HO2.out] at hc; have HC5 := Lib.hid hc; obtain ⟨he, _, _, hP⟩ := hs; rw [HDI.out, HO2.out, HLA.out] at he; subst he; have hbw := HA2.out.rng.words.row; have HE25 := Lib.hid (HC25.out.part hP (by simp; exact ⟨HC25.out.row.ne hbw (by decide), HC25.out.row.ne HRP.out (by decide)⟩)); have HE26 := Lib.hid (HC26.out.part hP (by simp; exact ⟨HC26.out.row.ne hbw (by decide), HC26.out.row.ne HRP.out (by decide)⟩)); have HEB := Lib.hid (HBK2.out.part hP (by simp; exact ⟨HBK2.out.row.ne hbw (by decide), HBK2.out.row.ne HRP.out (by decide)⟩)); clear hc hP hbw)
                  go_meet
                  have hb5 : ∀ o : Obj, Below w5.heap.size w5 (w5.alloc o) := fun o => (Below.refl _ _).alloc (Nat.le_refl _) o
                  exact ⟨_, rfl, rfl, HE25.out.on (hb5 _), HE26.out.on (hb5 _), BoxN.new HC5.out.low.size [.int .u8 d0, .int .i64 d1, .int .u64 d2, .int .u64 d3, .bool d4], HC5.out.on (hb5 _), HEB.out.on (hb5 _)⟩
                case rest =>
                  obtain ⟨b27, rfl, rfl, hB25, hB26, hB27, hC, hK⟩ := hcut
                  have HX25 := Lib.hid hB25
                  have HX26 := Lib.hid hB26
                  have HX27 := Lib.hid hB27
                  have HXC := Lib.hid hC
                  have HXK := Lib.hid hK
                  have HEN : Hid (x2.en = la) := Lib.hid (HD2.out.en.trans HLA.out)
                  have HRX := Lib.hid (hC.pends.row q o2 bp HO2q.out HBq.out)
                  obtain ⟨pcX, gpX, _⟩ := hC.places HBq.out
                  clear hB25 hB26 hB27 hC hK a0 a1 v0 v1 v2 v3 v4 v5 v6 v7 v8 v9 kc0 kc1 kcf kclt m0 m1 m2 m3 m4 m5 m6 m7 m8 m9 mf gult2 pcU gplt2
                  go_upto_region 39 with (first
                    | (go_at_call 14; refine (nanswer_op HRX.out HOK2.out.ph).mono ?_; rw [HAN.out]; rintro e w7 ⟨rfl, mm, rfl⟩; have h25 := HX25.out.on (Below.draws (Below.refl _ _) mm); obtain ⟨v0, v1, v2, v3, v4, v5, v6, v7, v8, v9⟩ := h25.row.ten; have HX25' := Lib.hid h25; clear h25)
                    | (go_at_call 15; refine (dans_any HOK2.out.kind HD2.out _).mono ?_; rw [HAN.out]; rintro e w8 ⟨rfl, hb8⟩; have HC8 := Lib.hid ((HXC.out.drewN mm).on hb8); have HK8 := Lib.hid ((HXK.out.on (Below.draws (Below.refl _ _) mm)).on hb8); have h25 := HX25'.out.on hb8; have h26 := (HX26.out.on (Below.draws (Below.refl _ _) mm)).on hb8; have h27 := (HX27.out.on (Below.draws (Below.refl _ _) mm)).on hb8; have e7 := h25.row.cell 7; have l25 := h25.row.lt; obtain ⟨f0, f1, f2, f3, f4⟩ := h26.row.five6; obtain ⟨g0, g1, g2, g3, g4⟩ := h27.row.five6; have l26 := h26.row.lt; have l27 := h27.row.lt; obtain ⟨pc8, gp8, _⟩ := HC8.out.places HBq.out; have HR8 := Lib.hid (HC8.out.pends.row q o2 bp HO2q.out HBq.out); have hen := HEN.out; clear hb8 h25 h26 h27))
                  go_quiet ((go_at_call 16; exact Calls.quiet_of_same ((ndone_at (HR8.out.drewN _) HOK2.out.ph HLA.out).mono fun _ _ ⟨a, b⟩ => ⟨a, b.symm⟩)))
                  go_wp2
                  go_roundw
                  case rel => exact ⟨j + 1, by omega, by go_num, ws2, _, _, A2, c2, HC8.out.drewN _, HK8.out.on (Below.draws (Below.refl _ _) _)⟩
                  case measure => simp [intOf]; omega
            · obtain rfl : j = ord.length := by omega
              go_wp2
              go_ret
              exact ⟨rfl, HA.out.low⟩
end Go.Proofs.Ytjehcgeodcpcaaa
