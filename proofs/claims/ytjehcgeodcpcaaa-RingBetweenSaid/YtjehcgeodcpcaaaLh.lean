/- THE WALK of the law 'RingBetween'. -/
import Derived.Test.YtjehcgeodcpcaaaLg
namespace Go.Proofs.Ytjehcgeodcpcaaa
open Go Go.RowKit

/-- the ring, a sum, adds, flags, side by side -/
structure BetN (W : World) (br bk bw : Nat) (wd : Int) (n Q m0 K b0 : Nat) (pb : List Nat) (l : List (Int × Int × Int)) (vp vl vb : Value) (ws : List Int) (os : List OpN) (s : OpN) (bg : List Bool) (lk : Bool) (low high : Int) (w : World) : Prop where
  crowd : CrowdN W br bk bw wd ws (s :: os) (b0 :: pb) pb l vp vl w
  flags : w.ownsRow W.heap.size 4 1 vb l.length (bools bg)
  len : ws.length = n
  still : StillN Q ws os
  pair : PairN l os bg
  sum : SumN Q m0 K n os s lk low high
section
variable {W w w1 : World} {br bk bw : Nat} {wd : Int} {n Q m0 K b0 : Nat} {pb : List Nat} {l : List (Int × Int × Int)} {vp vl vb : Value} {ws : List Int} {os : List OpN} {s : OpN} {bg : List Bool} {lk : Bool} {low high : Int}
theorem BetN.on (h : BetN W br bk bw wd n Q m0 K b0 pb l vp vl vb ws os s bg lk low high w) (hb : Below w.heap.size w w1) : BetN W br bk bw wd n Q m0 K b0 pb l vp vl vb ws os s bg lk low high w1 :=
  ⟨h.crowd.on hb, own_part h.flags (Part.of_below hb (Nat.le_refl _) []) (by simp), h.len, h.still, h.pair, h.sum⟩
theorem BetN.done (h : BetN W br bk bw wd n Q m0 K b0 pb l vp vl vb ws os s bg lk low high w) (hm : Q + 1 - n = m0) (hK : Q - m0 + 1 = K) : upS (endedN os) m0 K = (doneE os).sum :=
  sum_done fun o ho => by
    have h1 := (h.still.ok o ho).2.2
    have h2 := h.len
    have h3 := h.still.pos
    omega
theorem bools_set (bg : List Bool) (q : Nat) : (bools bg).set q (.bool true) = bools (bg.set q true) := by simp [bools, List.map_set]
theorem SumN.left_le (h : SumN Q m0 K n os s lk low high) (hm : Q + 1 - n = m0) (hK : Q - m0 + 1 = K) (hn : 0 < n) : sumLeft s ≤ K ∧ (s.ph ≠ 2 → s.cur ≤ s.q) := by
  have hq := h.tick
  cases lk with
  | false =>
    have e := h.not rfl
    have hc : s.cur = m0 := by rw [e]; show (if (2 : Int) = 1 then Q else Q + 1 - n) = m0; rw [if_neg (by omega)]; exact hm
    unfold sumLeft
    refine ⟨?_, fun _ => by omega⟩
    split <;> omega
  | true =>
    obtain ⟨E, _, _, hc⟩ := h.look rfl
    unfold sumLeft
    rcases hc with ⟨a, b, _⟩ | ⟨a, _⟩
    · refine ⟨?_, fun _ => by omega⟩
      split <;> omega
    · rw [if_pos a]
      exact ⟨by omega, fun x => absurd a x⟩
end
set_option maxRecDepth 100000
theorem rbetween_no {n wd : Int} (hn : n < 1 ∨ 4096 < n ∨ wd < 1 ∨ 1152921504606846976 < wd) {A B : Option Addr} {len cap len' cap' : Nat} (W : World) :
    Calls Try.prog 6 #[.int .i64 n, .int .i64 wd, .slice A len cap, .slice B len' cap'] W fun e w' => e = .returned (.bool true) ∧ Below W.heap.size W w' := by
  have HN := Lib.hid hn
  clear hn
  go_enter Try.func6, Try.ntmps6
  go_wp2_with (first
    | (go_at_call 7; refine (lives_any _).mono ?_; rintro e w0 ⟨rfl, hb⟩; have HB0 := Lib.hid hb; clear hb)
    | (go_at_call 8; refine (rnew_no HN.out _).mono ?_; rintro e w' ⟨rfl, rfl⟩))
  go_ret
  exact ⟨rfl, HB0.out⟩
set_option maxHeartbeats 25600000
theorem rbetween_yes {n : Nat} {wd : Int} (h1 : 1 ≤ n) (h2 : n ≤ 4096) (h3 : 1 ≤ wd) (h4 : wd ≤ 1152921504606846976) {A B : Option Addr} {cap cap' : Nat} {ops : List (Int × Int × Int)} {ks : List Int} (W : World) (hE : Ext3 .u8 .i64 .u64 W A ops) (hwf : ∀ op ∈ ops, op.2.1 ≤ 9223372036854775807 ∧ U64 op.2.2) (hr : ops.length * 24 ≤ 140737488351232) (hX : Ext .i64 W B ks) (hr3 : ks.length * 8 ≤ 140737488351232) :
    Calls Try.prog 6 #[.int .i64 (n : Int), .int .i64 wd, .slice A ops.length cap, .slice B ks.length cap'] W fun e w' => e = .returned (.bool true) ∧ Below W.heap.size W w' := by
  obtain ⟨ip, hip, hp0, hp1, hp2⟩ := info_parts infoPN
  obtain ⟨iB, hiB, hB0, hB1, hB2⟩ := info_parts infoBO
  have HE := Lib.hid hE
  have HWF := Lib.hid hwf
  have HXS := Lib.hid hX
  clear hE hwf hX
  go_enter Try.func6, Try.ntmps6
  go_wp2_with (first
    | (go_at_call 7; refine (lives_any _).mono ?_; rintro e w0 ⟨rfl, hb⟩; have HB0 := Lib.hid hb; clear hb)
    | (go_at_call 8; refine (rnew_yes w0 h1 h2 h3 h4).mono ?_; rintro e w1 ⟨br, bk, bw, rfl, _, _, hbw, hR, hb⟩; have HR1 := Lib.hid hR; have HBW := Lib.hid (Nat.le_trans HB0.out.size hbw); have HB1 := Lib.hid (HB0.out.trans (hb.mono HB0.out.size)); clear hbw hR hb)
    | (go_at_call 23; refine (near_any h1 h2 h3 h4 (HE.out.on HB1.out) HWF.out hr).mono ?_; rintro e w2 ⟨vl, l, tot, lo, hi, rfl, hll, hown, hnr, hb⟩; have HNR := Lib.hid hnr; have HLL := Lib.hid hll; have HA2 : Hid (CrowdN W br bk bw wd (List.replicate n 0) [] [] [] l (.slice none 0 0) vl w2) := Lib.hid ⟨HR1.out.on hb, World.ownsRow_nil _ _ _ _, own_base hown HB1.out.size, ⟨rfl, by simp, by simp, by simp, by simp⟩, HBW.out, HB1.out.trans (hb.mono HB1.out.size)⟩; obtain ⟨al, cl, rfl⟩ := own_form hown; clear hll hown hnr hb))
  obtain ⟨ws0, hws0⟩ : ∃ ws0, List.replicate n (0 : Int) = ws0 := ⟨_, rfl⟩
  have HW0 := Lib.hid hws0
  rw [hws0] at HA2
  have HLEN0 : Hid (ws0.length = n) := Lib.hid (by rw [← hws0]; exact List.length_replicate ..)
  clear hws0
  go_loopw [12, 55] (fun lt i wr => ∃ j : Nat, j ≤ l.length ∧ i = .int .i64 j ∧ ∃ lat, lt = .int .i64 lat ∧ LateN (l.take j) lat ∧ CrowdN W br bk bw wd ws0 [] [] [] l (.slice none 0 0) (.slice al l.length cl) wr) (fun _ i _ => l.length - (intOf i).toNat)
  case atStart => exact ⟨0, Nat.zero_le _, rfl, 0, rfl, LateN.nil, HA2.out⟩
  case round =>
    obtain ⟨j, hj, rfl, lat, rfl, hlate, hA⟩ := hrel
    have HA := Lib.hid hA
    have HLT := Lib.hid hlate
    clear hA hlate HA2 HR1 HBW HB1 HB0
    by_cases hlt : j < l.length
    · obtain ⟨op, hop⟩ : ∃ op, l[j]? = some op := ⟨l[j], List.getElem?_eq_getElem hlt⟩
      obtain ⟨gl, cl2, hvl, _, _⟩ := own_some HA.out.ls (by omega)
      cases hvl
      obtain ⟨e0, e1, e2, hbl⟩ := HA.out.cells hop
      have hlt2 : (j : Int) < (l.length : Int) := by omega
      have hj3 : j * 3 ≤ 17592186044416 := by have := HLL.out; omega
      obtain ⟨hk, hf, ht⟩ := HNR.out.fine h3 (List.mem_of_getElem? hop)
      have HT0 := Lib.hid hf.t0
      have HT := Lib.hid ht
      have HTK : Hid (l.take (j + 1) = l.take j ++ [op]) := Lib.hid (by rw [List.take_add_one, hop]; rfl)
      obtain ⟨k, t, m⟩ := op
      dsimp only at e0 e1 e2 HT HT0 hk
      subst hk
      clear hop hf ht
      have HO := Lib.hid (Row.new wr 39 [.int .u8 1, .int .i64 t, .int .u64 m])
      have HAo := Lib.hid (HA.out.on (below_alloc (.cells #[.int .u8 1, .int .i64 t, .int .u64 m] 39)))
      have o1 := HO.out.cell 1
      have olt := HO.out.lt
      go_wp2
      go_roundw
      case rel => exact ⟨j + 1, by omega, by go_num, max lat t, rfl, by rw [HTK.out]; exact HLT.out.snoc HT0.out HT.out, HAo.out⟩
      case measure => simp [intOf]; omega
    · obtain rfl : j = l.length := by omega
      rw [List.take_length] at HLT
      have HST : Hid (StillN (lat / wd).toNat ws0 (l.map (newOp wd n))) := Lib.hid (by rw [← HW0.out]; exact StillN.start h3 h1 h2 HNR.out HLT.out)
      have HFL := Lib.hid (HLT.out.tick h3 HNR.out)
      have HTL := Lib.hid HLT.out.1.2
      obtain ⟨Q, hQ⟩ : ∃ Q, (lat / wd).toNat = Q := ⟨_, rfl⟩
      rw [hQ] at HST HFL
      obtain ⟨m0, hm0⟩ : ∃ m0, Q + 1 - n = m0 := ⟨_, rfl⟩
      obtain ⟨K, hK⟩ : ∃ K, Q - m0 + 1 = K := ⟨_, rfl⟩
      have HM0 := Lib.hid hm0
      have HKK := Lib.hid hK
      have HKN : Hid (K ≤ n) := Lib.hid (by omega)
      have HTOP : Hid (sumM l ≤ 4294967295) := Lib.hid (by rw [HNR.out.sm]; exact HNR.out.top.2)
      have hpr0 : ∀ (i : Nat) (o : OpN) (b : Bool), (l.map (newOp wd n))[i]? = some o → (List.replicate l.length false)[i]? = some b → o.ph = 2 → b = true := fun i o b ho _ he => by
        obtain ⟨op, _, rfl⟩ := List.mem_map.1 (List.mem_of_getElem? ho)
        cases he
      have HPR : Hid (PairN l (l.map (newOp wd n)) (List.replicate l.length false)) := Lib.hid ⟨by simp, by simp, fun i op o hi ho => by rw [List.getElem?_map, hi] at ho; cases ho; rfl, hpr0, fun op hop => (HNR.out.ops op hop).2.2.2.1.1⟩
      clear hpr0
      obtain ⟨os0, hos0⟩ : ∃ os0, l.map (newOp wd n) = os0 := ⟨_, rfl⟩
      have HOS0 := Lib.hid hos0
      rw [hos0] at HST HPR
      obtain ⟨s0, hs0⟩ : ∃ s0, newN n 2 Q 0 = s0 := ⟨_, rfl⟩
      have HSN0 : Hid (SumN Q m0 K n os0 s0 false 0 0) := Lib.hid (by rw [← hs0]; exact SumN.new)
      have HS0 := Lib.hid hs0
      have hll := HLL.out
      have hlb : l.length ≤ 5864062014634 := by omega
      have hbu : iB.bytes * l.length ≤ 281474976710656 := by rw [hB2]; omega
      have hmu : l.length ≤ maxLen := by unfold maxLen; omega
      clear hQ hm0 hK hos0 hs0 HLT hll
      go_wp2_with (first
        | (go_at_call 10; refine (nstart_op HA.out.rng HTL.out HFL.out).mono ?_; rw [HLEN0.out, HS0.out]; rintro e w5 ⟨b0, rfl, hn5, hr5, hb5⟩; have HA5 : Hid (CrowdN W br bk bw wd ws0 [s0] [b0] [] l (.slice none 0 0) (.slice al l.length cl) w5) := Lib.hid (by have := HA.out.lone HFL.out hb5 (by rw [HLEN0.out, HS0.out]; exact hr5) hn5; rw [HLEN0.out, HS0.out] at this; exact this); clear hn5 hr5 hb5)
        | (at_make; refine wpList_make_full _ rfl _ _ 67 rfl W.heap.size 4 iB (.bool false) 1 Try.underlying67 hiB hB0 hB1 .i64 .i64 l.length l.length l.length rfl rfl rfl rfl hbu hmu HA5.out.low.size ?_; intro w7 hown7 hgr7; rw [bools_none] at hown7; have HF7 := Lib.hid hown7; have HA7 := Lib.hid (HA5.out.on ((Below.refl _ _).grown hgr7 (Nat.le_refl _) (by simp))); clear hown7 hgr7))
      obtain ⟨gf, hgf⟩ : ∃ gf, w5.heap.size = gf := ⟨_, rfl⟩
      rw [hgf] at HF7 ⊢
      clear hgf HA HA5
      go_loopw [16, 82] (fun vp i wr => ∃ j : Nat, j ≤ l.length ∧ i = .int .i64 j ∧ ∃ pb, pb.length = j ∧ CrowdN W br bk bw wd ws0 (s0 :: (l.take j).map (newOp wd n)) (b0 :: pb) pb l vp (.slice al l.length cl) wr ∧ wr.ownsRow W.heap.size 4 1 (.slice (some ⟨gf, 0, none⟩) l.length l.length) l.length (bools (List.replicate l.length false))) (fun _ i _ => l.length - (intOf i).toNat)
      case atStart => exact ⟨0, Nat.zero_le _, rfl, [], rfl, HA7.out, HF7.out⟩
      case round =>
        obtain ⟨j, hj, rfl, pb, hbj, hA, hF⟩ := hrel
        have HA := Lib.hid hA
        have HFG := Lib.hid hF
        have HBJ := Lib.hid hbj
        clear hA hF hbj HA7 HF7
        by_cases hlt : j < l.length
        · obtain ⟨op, hop⟩ : ∃ op, l[j]? = some op := ⟨l[j], List.getElem?_eq_getElem hlt⟩
          obtain ⟨gl, cl2, hvl, _, _⟩ := own_some HA.out.ls (by omega)
          cases hvl
          obtain ⟨e0, e1, e2, hbl⟩ := HA.out.cells hop
          have hlt2 : (j : Int) < (l.length : Int) := by omega
          have hj3 : j * 3 ≤ 17592186044416 := by omega
          obtain ⟨hk, hf, ht⟩ := HNR.out.fine h3 (List.mem_of_getElem? hop)
          have HF := Lib.hid hf
          have HT := Lib.hid ht
          have HTK : Hid (l.take (j + 1) = l.take j ++ [op]) := Lib.hid (by rw [List.take_add_one, hop]; rfl)
          obtain ⟨k, t, m⟩ := op
          dsimp only at e0 e1 e2 HF HT hk
          subst hk
          clear hop hf ht
          have HO := Lib.hid (Row.new wr 39 [.int .u8 1, .int .i64 t, .int .u64 m])
          have HAo := Lib.hid (HA.out.on (below_alloc (.cells #[.int .u8 1, .int .i64 t, .int .u64 m] 39)))
          have HFo := Lib.hid (HFG.out.alloc (.cells #[.int .u8 1, .int .i64 t, .int .u64 m] 39))
          have o0 := HO.out.cell 0
          have o1 := HO.out.cell 1
          have o2 := HO.out.cell 2
          have olt := HO.out.lt
          have hbl2 : pb.length + 1 ≤ l.length := by have := HBJ.out; omega
          have H3 : Hid (pb.length + 1 ≤ maxLen) := Lib.hid (by unfold maxLen; omega)
          have H4 : Hid ((pb.length + 1) * 8 ≤ 140737488355328) := Lib.hid (by omega)
          clear hbl2
          go_wp2_with (first
            | (go_at_call 10; refine (nstart_op HAo.out.rng HT.out HF.out).mono ?_; rw [HLEN0.out]; rintro e w5 ⟨bp, rfl, hn5, hr5, hb5⟩; have HB5 := Lib.hid ((below_alloc (.cells #[.int .u8 1, .int .i64 t, .int .u64 m] 39)).trans (hb5.mono (by simp))); have HN5 := Lib.hid (Nat.le_trans (show wr.heap.size ≤ (wr.alloc (.cells #[.int .u8 1, .int .i64 t, .int .u64 m] 39)).heap.size by simp) hn5); have HR5 := Lib.hid hr5; have HA5 := Lib.hid (HAo.out.on hb5); have HF5 := Lib.hid (own_part HFo.out (Part.of_below hb5 (Nat.le_refl _) []) (by simp)); have H5 : Hid (W.heap.size ≤ (w5.alloc (.cells #[.pointer (some ⟨bp, 0, none⟩)] 40)).heap.size) := Lib.hid (by have := HA5.out.low.size; simp; omega); clear hb5 hn5 hr5)
            | (at_builtin; refine wpList_append_own _ rfl _ _ 34 rfl W.heap.size 40 ip (.pointer none) 1 8 Try.underlying34 hip hp0 hp1 hp2 rfl (by decide) _ _ _ rfl (HA5.out.ps.alloc _) ⟨w5.heap.size, 0, none⟩ 1 1 [.pointer (some ⟨bp, 0, none⟩)] rfl rfl (new_cells _ _ _) (one_ptr _) H3.out H4.out H5.out ?_; intro vp' w7 hown7 hgr7 _; have HO7 := Lib.hid hown7; have HG7 := Lib.hid hgr7; have HF7 := Lib.hid ((HF5.out.alloc (.cells #[.pointer (some ⟨bp, 0, none⟩)] 40)).kept hgr7 (own_apart HF5.out HA5.out.ps (by decide))); clear hown7 hgr7))
          go_roundw
          case rel => exact ⟨j + 1, by omega, by go_num, pb ++ [bp], by rw [List.length_append, List.length_singleton, HBJ.out], by rw [HTK.out, List.map_append]; have := HA.out.grow HF.out HB5.out (by rw [HLEN0.out]; exact HR5.out) HN5.out HO7.out HG7.out; rw [HLEN0.out] at this; exact this, HF7.out⟩
          case measure => simp [intOf]; omega
        · obtain rfl : j = l.length := by omega
          rw [List.take_length, HOS0.out] at HA
          obtain ⟨ap, cp0, rfl⟩ := own_form HA.out.ps
          have HBE : Hid (BetN W br bk bw wd n Q m0 K b0 pb l (.slice ap pb.length cp0) (.slice al l.length cl) (.slice (some ⟨gf, 0, none⟩) l.length l.length) ws0 os0 s0 (List.replicate l.length false) false 0 0 wr) := Lib.hid ⟨HA.out, HFG.out, HLEN0.out, HST.out, HPR.out, HSN0.out⟩
          have hpl : pb.length = l.length := HBJ.out
          have HPL := Lib.hid hpl
          have hpb : pb.length ≤ 5864062014634 := by omega
          clear HA HFG HST HPR HSN0 hpl
          go_wp2
          go_loopw [22, 23, 24, 105] (fun lkv lov hiv i wr => ∃ j : Nat, j ≤ ks.length ∧ i = .int .i64 j ∧ ∃ lk low high ws os s bg, lkv = .bool lk ∧ lov = .int .u64 low ∧ hiv = .int .u64 high ∧ BetN W br bk bw wd n Q m0 K b0 pb l (.slice ap pb.length cp0) (.slice al l.length cl) (.slice (some ⟨gf, 0, none⟩) l.length l.length) ws os s bg lk low high wr) (fun _ _ _ i _ => ks.length - (intOf i).toNat)
          case atStart => exact ⟨0, Nat.zero_le _, rfl, false, 0, 0, _, _, _, _, rfl, rfl, rfl, HBE.out⟩
          case round =>
            obtain ⟨j, hj, rfl, lk, low, high, ws, os, s, bg, rfl, rfl, rfl, hB⟩ := hrel
            clear HBE
            have HB := Lib.hid hB
            clear hB
            by_cases hlt : j < ks.length
            · obtain ⟨k, hk⟩ : ∃ k, ks[j]? = some k := ⟨ks[j], List.getElem?_eq_getElem hlt⟩
              obtain ⟨b, o, rfl, hbx, e0⟩ := (HXS.out.on HB.out.crowd.low) j _ hk
              have hlt2 : (j : Int) < (ks.length : Int) := by omega
              have hj8 : j ≤ 17592186043904 := by omega
              clear hk
              by_cases hkp : k = (pb.length : Int)
              · subst hkp
                have HROW := Lib.hid (HB.out.crowd.pends.row 0 s b0 rfl rfl)
                have HOK := Lib.hid (HB.out.crowd.pends.ok s (by simp))
                by_cases hph : s.ph = 2
                · have HD : Hid (decide (s.ph = 2) = true) := Lib.hid (by simpa using hph)
                  clear hph
                  go_wp2_with (first
                    | (go_at_call 16; refine (ndone_op HROW.out HOK.out.ph).mono ?_; rw [HD.out]; rintro e w4 ⟨rfl, rfl⟩))
                  go_roundw
                  case rel => exact ⟨j + 1, by omega, by go_num, lk, low, high, ws, os, s, bg, rfl, rfl, rfl, HB.out⟩
                  case measure => simp [intOf]; omega
                · have HD : Hid (decide (s.ph = 2) = false) := Lib.hid (by simpa using hph)
                  obtain ⟨T1, hT1⟩ : ∃ T1, (doneE os).sum = T1 := ⟨_, rfl⟩
                  obtain ⟨T2, hT2⟩ : ∃ T2, (begE l bg).sum = T2 := ⟨_, rfl⟩
                  have HUP := Lib.hid (HB.out.done HM0.out HKK.out)
                  have HT1 := Lib.hid hT1
                  have HT2 := Lib.hid hT2
                  have HT2b : Hid (T2 ≤ 4294967295) := Lib.hid (by rw [← hT2]; exact Int.le_trans HB.out.pair.top HTOP.out)
                  have HT1b : Hid (T1 ≤ 4294967295) := Lib.hid (by rw [← hT1]; exact Int.le_trans HB.out.pair.le (Int.le_trans HB.out.pair.top HTOP.out))
                  have HUP2 : Hid (upS (endedN os) m0 K ≤ T2) := Lib.hid (by rw [HUP.out, ← hT2]; exact HB.out.pair.le)
                  clear hT1 hT2
                  cases lk with
                  | false =>
                    have HSN := Lib.hid ((HB.out.sum.begin HM0.out h1 (HUP.out.trans HT1.out)).step HB.out.still HB.out.len HM0.out HKK.out hph HUP2.out)
                    have HSS := Lib.hid HSN.out.2
                    clear hph
                    go_wp2_with (first
                      | (go_at_call 16; refine (ndone_op HROW.out HOK.out.ph).mono ?_; rw [HD.out]; rintro e w4 ⟨rfl, rfl⟩)
                      | (go_at_call 24; (with_reducible refine (counted_ended HB.out.crowd HB.out.pair HT1.out HT1b.out hlb).mono ?_); rintro e w5 ⟨rfl, hb5⟩; have HB5 := Lib.hid (HB.out.on hb5); have HROW5 := Lib.hid (HROW.out.below hb5 HROW.out.lt); clear hb5)
                      | (go_at_call 13; refine (nstep_op HB5.out.crowd.rng HROW5.out HOK.out).mono ?_; rintro e w6 hs; have hc6 := HB5.out.crowd.code (q := 0) rfl rfl hs; rw [HSS.out] at hc6; have HC6 := Lib.hid hc6; have HF6 := Lib.hid (flags_step HB5.out.crowd (q := 0) rfl rfl hs HB5.out.flags); obtain ⟨he, _, _, _⟩ := hs; subst he; clear hc6)
                      | (go_at_call 24; (with_reducible refine (counted_begun HC6.out HF6.out HB.out.pair HT2.out HT2b.out hlb).mono ?_); rintro e w7 ⟨rfl, hb7⟩; have HC7 := Lib.hid (HC6.out.on hb7); have HF7 := Lib.hid (own_part HF6.out (Part.of_below hb7 (Nat.le_refl _) []) (by simp)); clear hb7)
                    )
                    go_roundw
                    case rel => exact ⟨j + 1, by omega, by go_num, true, T1, T2, ws, os, stepN ws s, bg, rfl, rfl, rfl, ⟨HC7.out, HF7.out, HB.out.len, HB.out.still, HB.out.pair, HSN.out.1⟩⟩
                    case measure => simp [intOf]; omega
                  | true =>
                    have HSN := Lib.hid (HB.out.sum.step HB.out.still HB.out.len HM0.out HKK.out hph HUP2.out)
                    have HSS := Lib.hid HSN.out.2
                    clear hph
                    go_wp2_with (first
                      | (go_at_call 16; refine (ndone_op HROW.out HOK.out.ph).mono ?_; rw [HD.out]; rintro e w4 ⟨rfl, rfl⟩)
                      | (go_at_call 13; refine (nstep_op HB.out.crowd.rng HROW.out HOK.out).mono ?_; rintro e w6 hs; have hc6 := HB.out.crowd.code (q := 0) rfl rfl hs; rw [HSS.out] at hc6; have HC6 := Lib.hid hc6; have HF6 := Lib.hid (flags_step HB.out.crowd (q := 0) rfl rfl hs HB.out.flags); obtain ⟨he, _, _, _⟩ := hs; subst he; clear hc6)
                      | (go_at_call 24; (with_reducible refine (counted_begun HC6.out HF6.out HB.out.pair HT2.out HT2b.out hlb).mono ?_); rintro e w7 ⟨rfl, hb7⟩; have HC7 := Lib.hid (HC6.out.on hb7); have HF7 := Lib.hid (own_part HF6.out (Part.of_below hb7 (Nat.le_refl _) []) (by simp)); clear hb7)
                    )
                    go_roundw
                    case rel => exact ⟨j + 1, by omega, by go_num, true, low, T2, ws, os, stepN ws s, bg, rfl, rfl, rfl, ⟨HC7.out, HF7.out, HB.out.len, HB.out.still, HB.out.pair, HSN.out.1⟩⟩
                    case measure => simp [intOf]; omega
              · have dk : (k == (pb.length : Int)) = false := by simpa using hkp
                by_cases hk0 : k < 0
                · clear hkp
                  go_wp2
                  go_roundw
                  case rel => exact ⟨j + 1, by omega, by go_num, lk, low, high, ws, os, s, bg, rfl, rfl, rfl, HB.out⟩
                  case measure => simp [intOf]; omega
                by_cases hkn : (pb.length : Int) ≤ k
                · clear hkp
                  go_wp2
                  go_roundw
                  case rel => exact ⟨j + 1, by omega, by go_num, lk, low, high, ws, os, s, bg, rfl, rfl, rfl, HB.out⟩
                  case measure => simp [intOf]; omega
                obtain ⟨q, rfl⟩ := Int.eq_ofNat_of_zero_le (show 0 ≤ k by omega)
                have hqb : q < pb.length := by omega
                obtain ⟨bp, gp, cp, hb, hvp, pc, gplt⟩ := HB.out.crowd.get hqb
                cases hvp
                have hb' : (b0 :: pb)[q + 1]? = some bp := by simpa using hb
                obtain ⟨oq, ho, hrow, hok⟩ := HB.out.crowd.op hb'
                have ho' : os[q]? = some oq := by simpa using ho
                have hqb2 : (q : Int) < (pb.length : Int) := by omega
                have hql : q < l.length := by rw [← HPL.out]; exact hqb
                have hql2 : (q : Int) < (l.length : Int) := by omega
                obtain ⟨fb, hfb⟩ : ∃ fb, bg[q]? = some fb := ⟨bg[q]'(by rw [HB.out.pair.lb]; exact hql), List.getElem?_eq_getElem _⟩
                have f0 := own_cell HB.out.flags (bools_get hfb)
                have ff := HB.out.flags.frozenAt q
                have flt := own_block HB.out.flags gf rfl
                have n1 : ¬ gf = gp := by
                  rintro rfl
                  rcases own_apart HB.out.flags HB.out.crowd.ps (by decide) with e | e
                  · cases e
                  · exact e rfl
                have n2 : ¬ gp = gf := fun e => n1 e.symm
                have HOQ := Lib.hid ho
                have HOQ' := Lib.hid ho'
                have HBQ := Lib.hid hb'
                have HNN := Lib.hid (HB.out.still.ok oq (List.mem_of_getElem? ho')).1.num.1
                have HOK := Lib.hid hok
                have hP := (Part.refl [gf] wr).set (p := ⟨gf, q, none⟩) (by simp) (.bool true)
                have HC1 := Lib.hid (HB.out.crowd.offB HB.out.flags hP)
                have HF1 := Lib.hid (show (wr.setCell ⟨gf, q, none⟩ (.bool true)).ownsRow W.heap.size 4 1 (.slice (some ⟨gf, 0, none⟩) l.length l.length) l.length (bools (bg.set q true)) from by rw [← bools_set]; exact (HB.out.flags.stored q (.bool true)).1)
                have HROW := Lib.hid (HC1.out.pends.row (q + 1) oq bp ho hb')
                clear hkp hb hb' ho ho' hrow hok hfb hP
                go_wp2_with (go_at_call 13; refine (nstep_op HC1.out.rng HROW.out HOK.out).mono ?_; rintro e w5 hs; have HC5 := Lib.hid (HC1.out.code HOQ.out HBQ.out hs); have HF5 := Lib.hid (flags_step HC1.out HOQ.out HBQ.out hs HF1.out); obtain ⟨he, _, _, _⟩ := hs; subst he)
                go_roundw
                case rel => exact ⟨j + 1, by omega, by go_num, lk, low, high, _, _, s, _, rfl, rfl, rfl, ⟨HC5.out, HF5.out, by rw [stepNW_len]; exact HB.out.len, HB.out.still.step HOQ'.out, HB.out.pair.step HOQ'.out, HB.out.sum.add HOQ'.out HNN.out⟩⟩
                case measure => simp [intOf]; omega
            · obtain rfl : j = ks.length := by omega
              have HSL := Lib.hid (HB.out.sum.left_le HM0.out HKK.out h1).1
              go_wp2
              go_loopw [22, 23, 24, 27] (fun lkv lov hiv kk wr => ∃ c : Nat, c ≤ n ∧ kk = .int .i64 c ∧ ∃ lk low high ws os s bg, lkv = .bool lk ∧ lov = .int .u64 low ∧ hiv = .int .u64 high ∧ c + sumLeft s ≤ n ∧ BetN W br bk bw wd n Q m0 K b0 pb l (.slice ap pb.length cp0) (.slice al l.length cl) (.slice (some ⟨gf, 0, none⟩) l.length l.length) ws os s bg lk low high wr) (fun _ _ _ kk _ => n - (intOf kk).toNat)
              case atStart => exact ⟨0, Nat.zero_le _, rfl, lk, low, high, ws, os, s, bg, rfl, rfl, rfl, by have h5 := HSL.out; have h6 := HKN.out; omega, HB.out⟩
              case round =>
                obtain ⟨c, hc, rfl, lk, low, high, ws, os, s, bg, rfl, rfl, rfl, hleft, hB⟩ := hrel
                clear HB HSL
                have HB := Lib.hid hB
                clear hB
                have HROW := Lib.hid (HB.out.crowd.pends.row 0 s b0 rfl rfl)
                have HOK := Lib.hid (HB.out.crowd.pends.ok s (by simp))
                by_cases hph : s.ph = 2
                · have HD : Hid (decide (s.ph = 2) = true) := Lib.hid (by simpa using hph)
                  have hend : low ≤ s.ans ∧ s.ans ≤ high ∧ s.why = 0 := by
                    cases lk with
                    | false => have := HB.out.sum.not rfl; rw [this] at hph; cases hph
                    | true =>
                      obtain ⟨E, _, _, hc⟩ := HB.out.sum.look rfl
                      rcases hc with ⟨a, _⟩ | ⟨_, b⟩
                      · omega
                      · exact b
                  obtain ⟨an, han⟩ : ∃ an, s.ans = an := ⟨_, rfl⟩
                  have HAN : Hid (answerN s = .tuple #[.int .u64 an, .int .i64 0]) := Lib.hid (by unfold answerN; rw [if_pos hph, han, hend.2.2])
                  rw [han] at hend
                  have hlo := hend.1
                  have hhi := hend.2.1
                  clear hph hend han hleft
                  by_cases hcn : c < n
                  · have hcn2 : (c : Int) < (n : Int) := by omega
                    go_wp2_with (first
                      | (go_at_call 16; refine (ndone_op HROW.out HOK.out.ph).mono ?_; rw [HD.out]; rintro e w4 ⟨rfl, rfl⟩)
                      | (go_at_call 14; refine (nanswer_op HROW.out HOK.out.ph).mono ?_; rw [HAN.out]; rintro e w7 ⟨rfl, mm, rfl⟩; have HB7 := Lib.hid (HB.out.on (Below.draws (Below.refl _ _) mm)); have HROW7 := Lib.hid (HB7.out.crowd.pends.row 0 s b0 rfl rfl))
                      | (go_at_call 16; refine (ndone_op HROW7.out HOK.out.ph).mono ?_; rw [HD.out]; rintro e w5 ⟨rfl, rfl⟩))
                    go_ret
                    exact ⟨rfl, HB7.out.crowd.low⟩
                  · obtain rfl : c = n := by omega
                    go_wp2_with (first
                      | (go_at_call 14; refine (nanswer_op HROW.out HOK.out.ph).mono ?_; rw [HAN.out]; rintro e w7 ⟨rfl, mm, rfl⟩; have HB7 := Lib.hid (HB.out.on (Below.draws (Below.refl _ _) mm)); have HROW7 := Lib.hid (HB7.out.crowd.pends.row 0 s b0 rfl rfl))
                      | (go_at_call 16; refine (ndone_op HROW7.out HOK.out.ph).mono ?_; rw [HD.out]; rintro e w5 ⟨rfl, rfl⟩))
                    go_ret
                    exact ⟨rfl, HB7.out.crowd.low⟩
                · have hlq := (HB.out.sum.left_le HM0.out HKK.out h1).2 hph
                  have hls := sumLeft_step (ws := ws) HB.out.sum.kind (by have := HB.out.sum.ph; omega) hlq
                  have HLF : Hid (c + 1 + sumLeft (stepN ws s) ≤ n) := Lib.hid (by omega)
                  have hcn : c < n := by omega
                  have hcn2 : (c : Int) < (n : Int) := by omega
                  clear hlq hls hleft
                  have HD : Hid (decide (s.ph = 2) = false) := Lib.hid (by simpa using hph)
                  obtain ⟨T1, hT1⟩ : ∃ T1, (doneE os).sum = T1 := ⟨_, rfl⟩
                  obtain ⟨T2, hT2⟩ : ∃ T2, (begE l bg).sum = T2 := ⟨_, rfl⟩
                  have HUP := Lib.hid (HB.out.done HM0.out HKK.out)
                  have HT1 := Lib.hid hT1
                  have HT2 := Lib.hid hT2
                  have HT2b : Hid (T2 ≤ 4294967295) := Lib.hid (by rw [← hT2]; exact Int.le_trans HB.out.pair.top HTOP.out)
                  have HT1b : Hid (T1 ≤ 4294967295) := Lib.hid (by rw [← hT1]; exact Int.le_trans HB.out.pair.le (Int.le_trans HB.out.pair.top HTOP.out))
                  have HUP2 : Hid (upS (endedN os) m0 K ≤ T2) := Lib.hid (by rw [HUP.out, ← hT2]; exact HB.out.pair.le)
                  clear hT1 hT2
                  cases lk with
                  | false =>
                    have HSN := Lib.hid ((HB.out.sum.begin HM0.out h1 (HUP.out.trans HT1.out)).step HB.out.still HB.out.len HM0.out HKK.out hph HUP2.out)
                    have HSS := Lib.hid HSN.out.2
                    clear hph
                    go_wp2_with (first
                      | (go_at_call 16; refine (ndone_op HROW.out HOK.out.ph).mono ?_; rw [HD.out]; rintro e w4 ⟨rfl, rfl⟩)
                      | (go_at_call 24; (with_reducible refine (counted_ended HB.out.crowd HB.out.pair HT1.out HT1b.out hlb).mono ?_); rintro e w5 ⟨rfl, hb5⟩; have HB5 := Lib.hid (HB.out.on hb5); have HROW5 := Lib.hid (HROW.out.below hb5 HROW.out.lt); clear hb5)
                      | (go_at_call 13; refine (nstep_op HB5.out.crowd.rng HROW5.out HOK.out).mono ?_; rintro e w6 hs; have hc6 := HB5.out.crowd.code (q := 0) rfl rfl hs; rw [HSS.out] at hc6; have HC6 := Lib.hid hc6; have HF6 := Lib.hid (flags_step HB5.out.crowd (q := 0) rfl rfl hs HB5.out.flags); obtain ⟨he, _, _, _⟩ := hs; subst he; clear hc6)
                      | (go_at_call 24; (with_reducible refine (counted_begun HC6.out HF6.out HB.out.pair HT2.out HT2b.out hlb).mono ?_); rintro e w7 ⟨rfl, hb7⟩; have HC7 := Lib.hid (HC6.out.on hb7); have HF7 := Lib.hid (own_part HF6.out (Part.of_below hb7 (Nat.le_refl _) []) (by simp)); clear hb7)
                    )
                    go_roundw
                    case rel => exact ⟨c + 1, by omega, by go_num, true, T1, T2, ws, os, stepN ws s, bg, rfl, rfl, rfl, HLF.out, ⟨HC7.out, HF7.out, HB.out.len, HB.out.still, HB.out.pair, HSN.out.1⟩⟩
                    case measure => simp [intOf]; omega
                  | true =>
                    have HSN := Lib.hid (HB.out.sum.step HB.out.still HB.out.len HM0.out HKK.out hph HUP2.out)
                    have HSS := Lib.hid HSN.out.2
                    clear hph
                    go_wp2_with (first
                      | (go_at_call 16; refine (ndone_op HROW.out HOK.out.ph).mono ?_; rw [HD.out]; rintro e w4 ⟨rfl, rfl⟩)
                      | (go_at_call 13; refine (nstep_op HB.out.crowd.rng HROW.out HOK.out).mono ?_; rintro e w6 hs; have hc6 := HB.out.crowd.code (q := 0) rfl rfl hs; rw [HSS.out] at hc6; have HC6 := Lib.hid hc6; have HF6 := Lib.hid (flags_step HB.out.crowd (q := 0) rfl rfl hs HB.out.flags); obtain ⟨he, _, _, _⟩ := hs; subst he; clear hc6)
                      | (go_at_call 24; (with_reducible refine (counted_begun HC6.out HF6.out HB.out.pair HT2.out HT2b.out hlb).mono ?_); rintro e w7 ⟨rfl, hb7⟩; have HC7 := Lib.hid (HC6.out.on hb7); have HF7 := Lib.hid (own_part HF6.out (Part.of_below hb7 (Nat.le_refl _) []) (by simp)); clear hb7)
                    )
                    go_roundw
                    case rel => exact ⟨c + 1, by omega, by go_num, true, low, T2, ws, os, stepN ws s, bg, rfl, rfl, rfl, HLF.out, ⟨HC7.out, HF7.out, HB.out.len, HB.out.still, HB.out.pair, HSN.out.1⟩⟩
                    case measure => simp [intOf]; omega
end Go.Proofs.Ytjehcgeodcpcaaa
