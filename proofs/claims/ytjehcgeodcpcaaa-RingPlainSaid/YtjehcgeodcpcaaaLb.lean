/- THE WALK of the law 'RingPlain'. -/
import Derived.Test.YtjehcgeodcpcaaaLa
namespace Go.Proofs.Ytjehcgeodcpcaaa
open Go Go.RowKit

set_option maxRecDepth 100000
theorem rplain_no {n wd : Int} (hn : n < 1 ∨ 4096 < n ∨ wd < 1 ∨ 1152921504606846976 < wd) {A : Option Addr} {len cap : Nat} (W : World) :
    Calls Try.prog 4 #[.int .i64 n, .int .i64 wd, .slice A len cap] W fun e w' => e = .returned (.bool true) ∧ Below W.heap.size W w' := by
  have HN := Lib.hid hn
  clear hn
  go_enter Try.func4, Try.ntmps4
  go_wp2_with (first
    | (go_at_call 7; refine (lives_any _).mono ?_; rintro e w0 ⟨rfl, hb⟩; have HB0 := Lib.hid hb; clear hb)
    | (go_at_call 8; refine (rnew_no HN.out _).mono ?_; rintro e w' ⟨rfl, rfl⟩)
    | (go_at_call 9; refine (dnew_no HN.out _).mono ?_; rintro e w1 ⟨rfl, hb⟩; have HB1 := Lib.hid hb; clear hb))
  go_ret
  exact ⟨rfl, (HB0.out.trans (HB1.out.mono HB0.out.size)).trans ((Below.refl _ _).alloc (by have h1 := HB0.out.size; have h2 := HB1.out.size; omega) _)⟩
set_option maxHeartbeats 25600000
theorem rplain_yes {n : Nat} {wd : Int} (h1 : 1 ≤ n) (h2 : n ≤ 4096) (h3 : 1 ≤ wd) (h4 : wd ≤ 1152921504606846976) {A : Option Addr} {cap : Nat} {ops : List (Int × Int × Int)} (W : World) (hE : Ext3 .u8 .i64 .u64 W A ops) (hwf : ∀ op ∈ ops, op.2.1 ≤ 9223372036854775807 ∧ U64 op.2.2) (hr : ops.length * 24 ≤ 140737488351232) :
    Calls Try.prog 4 #[.int .i64 (n : Int), .int .i64 wd, .slice A ops.length cap] W fun e w' => e = .returned (.bool true) ∧ Below W.heap.size W w' := by
  have HE := Lib.hid hE
  have HWF := Lib.hid hwf
  clear hE hwf
  go_enter Try.func4, Try.ntmps4
  go_wp2_with (first
    | (go_at_call 7; refine (lives_any _).mono ?_; rintro e w0 ⟨rfl, hb⟩; have HB0 := Lib.hid hb; clear hb)
    | (go_at_call 8; refine (rnew_yes w0 h1 h2 h3 h4).mono ?_; rintro e w1 ⟨br, bk, bw, rfl, _, _, hbw, hR, hb⟩; have HR1 := Lib.hid hR; have HBW := Lib.hid (Nat.le_trans HB0.out.size hbw); have HB1 := Lib.hid (HB0.out.trans (hb.mono HB0.out.size)); clear hbw hR hb)
    | (go_at_call 9; refine (dnew_yes w1 h1 h2 h3 h4).mono ?_; rintro e w2 ⟨g, rfl, hg, hrow, hb⟩; unfold bookV; have hb2 := HB1.out.trans (hb.mono HB1.out.size); have HA2 : Hid (PlN W br bk bw w2.heap.size n wd (List.replicate n 0) (List.replicate n 0) (some ⟨g, 0, none⟩) n (w2.alloc (.cells #[.int .i64 wd, .slice (some ⟨g, 0, none⟩) n n] 31))) := Lib.hid ⟨(HR1.out.on hb).alloc _, List.length_replicate .., (own_of_rowU hrow (Nat.le_trans HB1.out.size hg) (List.length_replicate ..) (by unfold maxLen; omega)).alloc _, Row.new w2 31 [.int .i64 wd, .slice (some ⟨g, 0, none⟩) n n], hb2.size, hb2.alloc hb2.size _, HBW.out⟩; clear hg hrow hb hb2))
  obtain ⟨b9, hb9⟩ : ∃ b9, w2.heap.size = b9 := ⟨_, rfl⟩
  rw [hb9] at HA2 ⊢
  clear hb9
  obtain ⟨ws0, hws0⟩ : ∃ ws0, List.replicate n (0 : Int) = ws0 := ⟨_, rfl⟩
  rw [hws0] at HA2
  clear hws0
  go_loopw [59] (fun i wr => ∃ j : Nat, j ≤ ops.length ∧ i = .int .i64 j ∧ ∃ ws A1 c1, PlN W br bk bw b9 n wd ws ws A1 c1 wr) (fun i _ => ops.length - (intOf i).toNat)
  case atStart => exact ⟨0, Nat.zero_le _, rfl, _, _, _, HA2.out⟩
  case round =>
    obtain ⟨j, hj, rfl, ws, A1, c1, hA⟩ := hrel
    have HA := Lib.hid hA
    clear hA HA2 HR1 HBW HB1 HB0
    by_cases hlt : j < ops.length
    · obtain ⟨op, hop⟩ : ∃ op, ops[j]? = some op := ⟨ops[j], List.getElem?_eq_getElem hlt⟩
      obtain ⟨b, o, rfl, hbl, e0, e1, e2⟩ := (HE.out.on HA.out.low) j _ hop
      have hlt2 : (j : Int) < (ops.length : Int) := by omega
      have hj3 : j * 3 ≤ 17592186044416 := by omega
      obtain ⟨ht, hm⟩ := HWF.out op (List.mem_of_getElem? hop)
      have HT := Lib.hid ht
      have HM := Lib.hid hm
      clear hop ht hm
      obtain ⟨k, t, m⟩ := op
      dsimp only at e0 e1 e2 HT HM
      have HAo := Lib.hid (HA.out.on ((Below.refl _ _).alloc (Nat.le_refl _) (.cells #[.int .u8 k, .int .i64 t, .int .u64 m] 39)))
      have HO := Lib.hid (Row.new wr 39 [.int .u8 k, .int .i64 t, .int .u64 m])
      have HOL : Hid (W.heap.size ≤ wr.heap.size) := Lib.hid HA.out.low.size
      have o0 := HO.out.cell 0
      have o1 := HO.out.cell 1
      have o2 := HO.out.cell 2
      have olt := HO.out.lt
      obtain ⟨kb0, kb1⟩ := HAo.out.box.two2
      have kblt := HAo.out.box.lt
      go_upto_if 65 with fail
      clear e0 e1 e2 hbl
      generalize (wr.alloc (.cells #[.int .u8 k, .int .i64 t, .int .u64 m] 39)) = wo at *
      generalize wr.heap.size = b12 at *
      clear HA
      have HLEN := Lib.hid HAo.out.len
      have HUS := Lib.hid HAo.out.rng.words.ok
      have n1 : ¬ b9 = b12 := HAo.out.box.ne HO.out (by decide)
      have n2 : ¬ b12 = b9 := fun e => n1 e.symm
      have n3 : bw ≠ b12 := HAo.out.rng.words.row.ne HO.out (by decide)
      go_cut [] (fun wx => ∃ us A2 c2, PlN W br bk bw b9 n wd us us A2 c2 wx ∧ Row wx b12 39 [.int .u8 k, .int .i64 t, .int .u64 m])
      case first =>
        by_cases hk : k = 1
        · subst hk
          obtain ⟨us, y, hay⟩ : ∃ us y, addD wd ws t m = (us, y) := ⟨_, _, rfl⟩
          have HAY := Lib.hid hay
          have HUL : Hid (us.length = ws.length) := Lib.hid (by have := addD_len wd ws t m; rw [hay] at this; exact this)
          clear hay
          have HSD : Hid (∀ W0 : World, Below wo.heap.size wo W0 → Calls Try.prog 17 #[.agg #[.int .i64 wd, .slice A1 n c1], .agg #[.int .u8 1, .int .i64 t, .int .u64 m]] W0 fun e w1 => ∃ A2 c2 a, e = .returned (.tuple #[.agg #[.int .i64 wd, .slice A2 n c2], .int .u64 a, .int .i64 y]) ∧ w1.ownsRow W.heap.size 37 1 (.slice A2 n c2) n (u64s us) ∧ Below wo.heap.size wo w1 ∧ W0.heap.size ≤ w1.heap.size ∧ ∀ b t l, Row W0 b t l → Row w1 b t l) := Lib.hid (fun W0 hb0 => by
            have hA0 := HAo.out.on hb0
            refine (ddo_add HAY.out HLEN.out hA0.doc hA0.low.size (by omega) h2 h3 h4 HT.out HM.out HUS.out).mono ?_
            rintro e w1 ⟨A2, c2, a, he, ho1, hb1⟩
            exact ⟨A2, c2, a, he, ho1, hb0.trans (hb1.mono hb0.size), hb1.size, fun b t l h => h.below hb1 h.lt⟩)
          have SK : Hid (∀ wz : World, Below wo.heap.size wo wz → wz.cell? ⟨b9, 0, none⟩ = some (.int .i64 wd) ∧ wz.cell? ⟨b9, 1, none⟩ = some (.slice A1 n c1) ∧ wz.cell? ⟨b12, 0, none⟩ = some (.int .u8 1) ∧ wz.cell? ⟨b12, 1, none⟩ = some (.int .i64 t) ∧ wz.cell? ⟨b12, 2, none⟩ = some (.int .u64 m)) := Lib.hid (fun wz hbz => ⟨(hbz.cell (p := ⟨b9, 0, none⟩) kblt).trans kb0, (hbz.cell (p := ⟨b9, 1, none⟩) kblt).trans kb1, (hbz.cell (p := ⟨b12, 0, none⟩) olt).trans o0, (hbz.cell (p := ⟨b12, 1, none⟩) olt).trans o1, (hbz.cell (p := ⟨b12, 2, none⟩) olt).trans o2⟩)
          go_upto_region 11 with fail
          go_cut [13, 14, 15] (fun s13 s14 s15 wx => ∃ b13 A2 c2 a, s13 = .pointer (some ⟨b13, 0, none⟩) ∧ s14 = .int .u64 a ∧ s15 = .int .i64 y ∧ Below wo.heap.size wo wx ∧ wx.ownsRow W.heap.size 37 1 (.slice A2 n c2) n (u64s us) ∧ wo.heap.size ≤ b13 ∧ Row wx b13 31 [.int .i64 wd, .slice A2 n c2])
          case first =>
            go_wp2_with (go_at_call 17; refine (HSD.out _ (Below.refl _ _)).mono ?_; rintro e w1 ⟨A2, c2, a, rfl, ho1, hb1, -, -⟩; have HO1 := Lib.hid ho1; have HB1 := Lib.hid hb1; clear ho1 hb1)
            go_meet
            exact ⟨_, A2, c2, a, rfl, rfl, rfl, below_more HB1.out _, HO1.out.alloc _, HB1.out.size, Row.new w1 31 [.int .i64 wd, .slice A2 n c2]⟩
          case rest =>
            obtain ⟨b13, A2, c2, a, rfl, rfl, rfl, hbl, ho2, l13, r13⟩ := hcut
            have HB := Lib.hid ((HAo.out.on hbl).next ho2)
            have hO2 := HO.out.below hbl olt
            have hbx := HAo.out.box.below hbl kblt
            obtain ⟨a0, a1⟩ := r13.two2
            obtain ⟨kc0, kc1⟩ := hbx.two2
            have kcf := hbx.free
            have kclt := hbx.lt
            have v1 := hO2.cell 1
            have v2 := hO2.cell 2
            have vlt := hO2.lt
            have n4 : ¬ b9 = b13 := by omega
            have n5 : ¬ b13 = b9 := by omega
            have HOR := Lib.hid (Row.part hO2 (ringSet_part wc b9 (.int .i64 wd) (.slice A2 n c2)) (not_sing n2))
            have HAD := Lib.hid (nadd_do HB.out.rng HT.out HM.out HAY.out)
            clear hbl ho2 l13 r13 hO2 hbx o0 o1 o2 kb0 kb1 HSD SK
            go_wp2_with (go_at_call 18; have hst := HAD.out; unfold ringSet at hst; refine hst.mono ?_; clear hst; rintro e w5 ⟨rfl, hR5, hP5⟩; have HC5 := Lib.hid (HB.out.code HUL.out hR5 hP5); have HO5 := Lib.hid (HOR.out.part hP5 (not_sing (fun e => n3 e.symm))); clear hR5 hP5)
            go_meet
            exact ⟨us, A2, c2, HC5.out, HO5.out⟩
        · have d1 : (k == 1) = false := by simpa using hk
          clear hk
          go_wp2
          go_meet
          exact ⟨ws, A1, c1, HAo.out, HO.out⟩
      case rest =>
        obtain ⟨us, A2, c2, hA, hO⟩ := hcut
        clear o0 o1 o2 kb0 kb1 olt kblt HAo HO HLEN HUS
        have HA := Lib.hid hA
        have HLEN := Lib.hid hA.len
        have HUS := Lib.hid hA.rng.words.ok
        have HO := Lib.hid hO
        have o1 := hO.cell 1
        have olt := hO.lt
        obtain ⟨a, y, hsy⟩ : ∃ a y, sumD wd us t = (a, y) := ⟨_, _, rfl⟩
        have HSY := Lib.hid hsy
        clear hsy hA hO
        obtain ⟨v, hv⟩ : ∃ v, checkE wd 2 t 0 = v := ⟨_, rfl⟩
        have HV := Lib.hid hv
        go_upto_region 17 with (first
          | (go_at_call 19; refine (nsum_do HA.out.rng HT.out HSY.out).mono ?_; rintro e w5 ⟨rfl, hR5, hP5⟩; have hA5 := HA.out.code rfl hR5 hP5; have hO5 := HO.out.part hP5 (not_sing (fun e => n3 e.symm)); have HA5 := Lib.hid hA5; have HO5 := Lib.hid hO5; have p1 := hO5.cell 1; have plt := hO5.lt; obtain ⟨kb0, kb1⟩ := hA5.box.two2; have kblt := hA5.box.lt; clear hR5 hP5 hA5 hO5)
          | (go_at_call 17; refine (ddo_sum HSY.out HLEN.out HA5.out.doc HA5.out.low.size (by omega) h2 h3 h4 HT.out HUS.out).mono ?_; rintro e w6 ⟨A6, c6, rfl, hb6⟩; have hA6 := HA5.out.on (below_more hb6 (.cells #[.int .i64 wd, .slice A6 n c6] 31)); have hO6 := HO5.out.below (below_more hb6 (.cells #[.int .i64 wd, .slice A6 n c6] 31)) HO5.out.lt; have HA6 := Lib.hid hA6; have HO6 := Lib.hid hO6; have q1 := hO6.cell 1; have qlt := hO6.lt; clear hb6 hA6 hO6))
        generalize (w6.alloc (.cells #[.int .i64 wd, .slice A6 n c6] 31)) = wa at *
        clear HA HO HA5 HO5 o1 olt p1 plt kb0 kb1 kblt
        by_cases hv0 : v = 0
        · subst hv0
          have HF := Lib.hid (fineN_of h3 U64.zero hv)
          obtain ⟨q, hq⟩ : ∃ q, (t / wd).toNat = q := ⟨_, rfl⟩
          rw [hq] at HF
          obtain ⟨m0, hm0⟩ : ∃ m0, q + 1 - n = m0 := ⟨_, rfl⟩
          obtain ⟨K, hK⟩ : ∃ K, q - m0 + 1 = K := ⟨_, rfl⟩
          obtain ⟨L, hL⟩ : ∃ L, eachN us m0 K = L := ⟨_, rfl⟩
          have HLK : Hid (L.length = K) := Lib.hid (by rw [← hL]; exact eachN_len _ _ _)
          have HLE : Hid (L.length ≤ 1000000) := Lib.hid (by rw [HLK.out]; omega)
          have HMQ := Lib.hid hm0
          have HKQ := Lib.hid hK
          have HL := Lib.hid hL
          have HLX : Hid (q + 1 - us.length = m0) := Lib.hid (by rw [HLEN.out]; exact hm0)
          clear hq hm0 hK hL hv
          go_wp2_with (first
            | (go_at_call 20; refine (neach_is HA6.out.rng HT.out HF.out HLX.out HKQ.out).mono ?_; rw [HL.out]; rintro e w7 ⟨g, rfl, hg7, hr7, hR7, hP7⟩; have hA7 := HA6.out.code rfl hR7 hP7; have HA7 := Lib.hid hA7; have hO7 := HO6.out.part hP7 (not_sing (fun e => n3 e.symm)); have HO7 := Lib.hid hO7; have HG7 := Lib.hid hr7; have HGL := Lib.hid hg7; have s1 := hO7.cell 1; have slt := hO7.lt; obtain ⟨kb0, kb1⟩ := hA7.box.two2; have kblt := hA7.box.lt; clear hA7 hO7 hg7 hr7 hR7 hP7)
            | (go_at_call 21; refine (deach_yes HLEN.out HA7.out.doc h3 h4 h1 h2 HT.out HUS.out HF.out HMQ.out HKQ.out).mono ?_; rw [HL.out]; rintro e w8 ⟨g8, c8, rfl, ho8, hb8⟩; have HA8 := Lib.hid (HA7.out.on hb8); have HG8 := Lib.hid (HG7.out.below hb8 HG7.out.lt); have HL8 := Lib.hid (own_lies ho8); clear ho8 hb8)
            | (go_at_call 22; refine (words_yes HG8.out.lies HL8.out HLE.out rfl HLK.out).mono ?_; rintro e w9 ⟨rfl, hb9⟩; have HA9 := Lib.hid (HA8.out.on hb9); have HG9 := Lib.hid (HG8.out.below hb9 HG8.out.lt); clear hb9))
          have HNE : Hid ((br ≠ g ∧ bk ≠ g ∧ bw ≠ g ∧ b9 ≠ g ∧ ∀ z, (Value.slice A2 n c2).ownBlock = some z → z ≠ g) ∧ W.heap.size ≤ g) := Lib.hid (by
            have r := HA6.out.rng
            have x0 := r.head.lt
            have x1 := r.words.head.lt
            have x2 := r.words.row.lt
            have x3 := HA6.out.box.lt
            have x4 := HGL.out
            have x5 := HA6.out.low.size
            refine ⟨⟨by omega, by omega, by omega, by omega, fun z hz => ?_⟩, by omega⟩
            have := own_block HA6.out.doc z hz
            omega)
          clear HA6 HO6 q1 qlt HA7 HO7 HG7 HGL HA8 HG8 HL8 s1 slt kb0 kb1 kblt
          go_loopw [133] (fun i wx => ∃ i0 : Nat, i0 ≤ L.length ∧ i = .int .i64 i0 ∧ ∃ l : List Int, l.length = L.length ∧ Row wx g 37 (u64s l) ∧ Part [g] w9 wx) (fun i _ => L.length - (intOf i).toNat)
          case atStart => exact ⟨0, Nat.zero_le _, rfl, L, rfl, HG9.out, Part.refl _ _⟩
          case round =>
            obtain ⟨i0, hi0, rfl, l, hll, hrow, hpart⟩ := hrel
            by_cases hil : i0 < L.length
            · have hil2 : (i0 : Int) < (L.length : Int) := by omega
              have hi6 : i0 ≤ 1000000 := Nat.le_trans hi0 HLE.out
              obtain ⟨x, hx⟩ : ∃ x, l[i0]? = some x := ⟨_, List.getElem?_eq_getElem (by omega)⟩
              have c0 := (hrow.cell i0).trans (u64s_get l i0 |>.trans (by rw [hx]; rfl) : (u64s l)[i0]? = some (.int .u64 x))
              have cf := hrow.free
              have clt := hrow.lt
              have HROW := Lib.hid hrow
              have HPART := Lib.hid hpart
              have HLL := Lib.hid hll
              clear hrow hpart hx hll
              go_wp2
              go_roundw
              case rel => exact ⟨i0 + 1, by omega, by go_num, l.set i0 7, by rw [List.length_set]; exact HLL.out, by have := HROW.out.set i0 (.int .u64 7); rw [show (u64s l).set i0 (.int .u64 7) = u64s (l.set i0 7) from by simp [u64s, List.map_set]] at this; exact this, HPART.out.set (by simp) _⟩
              case measure => simp [intOf]; omega
            · obtain rfl : i0 = L.length := by omega
              have HPART := Lib.hid hpart
              clear hrow hpart hll
              go_wp2
              go_roundw
              case rel => exact ⟨j + 1, by omega, by go_num, us, A2, c2, HA9.out.far HPART.out HNE.out.2 HNE.out.1.1 HNE.out.1.2.1 HNE.out.1.2.2.1 HNE.out.1.2.2.2.1 HNE.out.1.2.2.2.2⟩
              case measure => simp [intOf]; omega
        · have HV0 := Lib.hid hv0
          clear hv hv0
          go_wp2_with (first
            | (go_at_call 20; refine (neach_no HA6.out.rng HT.out HV.out HV0.out).mono ?_; rintro e w7 ⟨rfl, hb7⟩; have hA7 := HA6.out.on hb7; have HA7 := Lib.hid hA7; have hO7 := HO6.out.below hb7 HO6.out.lt; have s1 := hO7.cell 1; have slt := hO7.lt; obtain ⟨kb0, kb1⟩ := hA7.box.two2; have kblt := hA7.box.lt; clear hA7 hO7 hb7)
            | (go_at_call 21; refine (deach_no h3 h4 HT.out HV.out HV0.out).mono ?_; rintro e w8 ⟨rfl, hb8⟩; have HA8 := Lib.hid (HA7.out.on hb8); clear hb8)
            | (go_at_call 22; refine (words_none _).mono ?_; rintro e w9 ⟨rfl, hb9⟩; have HA9 := Lib.hid (HA8.out.on hb9); clear hb9))
          refine wp_loop_rounds 1 ?_
          rw [rounds_succ]
          go_wp2
          go_roundw
          case rel => exact ⟨j + 1, by omega, by go_num, us, A2, c2, HA9.out⟩
          case measure => simp [intOf]; omega
    · obtain rfl : j = ops.length := by omega
      have hlow := HA.out.low
      go_wp2
      go_ret
      exact ⟨rfl, hlow⟩
end Go.Proofs.Ytjehcgeodcpcaaa
