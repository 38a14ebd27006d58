/- THE WALK of the law 'QuotaPlain'. -/
import Derived.Test.YtddlalljdecdoaaBk
import Derived.Test.YtddlalljdecdoaaEx
import Derived.Deep.LoopGhost
namespace Go.Proofs.Ytddlalljdecdoaa
open Go Go.RowKit
set_option maxRecDepth 100000
set_option maxHeartbeats 3200000
theorem plain_no {limit ba n : Int} (hf : ¬ FitsB limit ba n) {A : Option Addr} {len cap : Nat} {k i : Int} (W : World) :
    Calls Try.prog 9 #[.int .i64 limit, .int .i64 ba, .int .i64 n, .slice A len cap, .agg #[.int .u8 k, .int .i64 i]] W fun e w' => e = .returned (.bool true) ∧ Below W.heap.size W w' := by
  have HF := Lib.hid hf
  clear hf
  go_enter Try.func9, Try.ntmps9
  go_wp2_with (first
    | (go_at_call 12; refine (begins_any _).mono ?_; rintro e w1 ⟨rfl, hb⟩; have HB := Lib.hid (((Below.refl W.heap.size W).alloc (Nat.le_refl _) _).trans (hb.mono (by simp))); clear hb)
    | (go_at_call 10; refine (qnew_no HF.out _).mono ?_; rintro e wx ⟨rfl, rfl⟩))
  go_ret
  exact ⟨rfl, HB.out⟩
/-- two quotas of their own that have the same -/
structure TwoQ (W : World) (qa ka va qb kb vb : Nat) (ba : Int) (ws : List Int) (bx : Nat) (k i : Int) (w : World) : Prop where
  a : QuoM w qa ka va ba ws
  b : QuoM w qb kb vb ba ws
  ne : va ≠ vb
  la : W.heap.size ≤ va
  lb : W.heap.size ≤ vb
  box : Row w bx 37 [.int .u8 k, .int .i64 i]
  low : Below W.heap.size W w
section
variable {W w w1 : World} {qa ka va qb kb vb bx : Nat} {ba k i : Int} {ws ws' : List Int}
theorem TwoQ.on (h : TwoQ W qa ka va qb kb vb ba ws bx k i w) (hb : Below w.heap.size w w1) : TwoQ W qa ka va qb kb vb ba ws bx k i w1 :=
  ⟨h.a.on hb, h.b.on hb, h.ne, h.la, h.lb, h.box.below hb h.box.lt, h.low.trans (hb.mono h.low.size)⟩
theorem TwoQ.lowA (h : TwoQ W qa ka va qb kb vb ba ws bx k i w) (hp : Part [va] w w1) : Below W.heap.size W w1 := h.low.trans (hp.below h.low.size (fun q hq => by rw [List.mem_singleton.1 hq]; exact h.la))
theorem TwoQ.lowB (h : TwoQ W qa ka va qb kb vb ba ws bx k i w) (hp : Part [vb] w w1) : Below W.heap.size W w1 := h.low.trans (hp.below h.low.size (fun q hq => by rw [List.mem_singleton.1 hq]; exact h.lb))
end
/-- both have done the same take -/
theorem TwoQ.both {W w w1 w2 : World} {qa ka va qb kb vb bx : Nat} {ba k i : Int} {ws ws' : List Int} (h : TwoQ W qa ka va qb kb vb ba ws bx k i w) (hQ1 : QuoM w1 qa ka va ba ws') (hP1 : Part [va] w w1) (hQ2 : QuoM w2 qb kb vb ba ws') (hP2 : Part [vb] w1 w2) : TwoQ W qa ka va qb kb vb ba ws' bx k i w2 := by
  have hb1 := h.b.other h.a h.ne.symm hP1
  have hx1 := h.box.quo h.a (by decide) hP1
  have hl1 := h.lowA hP1
  exact ⟨hQ1.other hb1 h.ne hP2, hQ2, h.ne, h.la, h.lb, hx1.quo hb1 (by decide) hP2, hl1.trans (hP2.below hl1.size (fun q hq => by rw [List.mem_singleton.1 hq]; exact h.lb))⟩
/-- a has stepped an operation -/
structure OneQ (W : World) (qa ka va qb kb vb : Nat) (ba : Int) (wsA ws : List Int) (bx : Nat) (k i : Int) (bp : Nat) (o : OpB) (w : World) : Prop where
  a : QuoM w qa ka va ba wsA
  b : QuoM w qb kb vb ba ws
  ne : va ≠ vb
  la : W.heap.size ≤ va
  lb : W.heap.size ≤ vb
  lp : W.heap.size ≤ bp
  box : Row w bx 37 [.int .u8 k, .int .i64 i]
  op : Row w bp 75 (rowB qa o)
  low : Below W.heap.size W w
section
variable {W w w1 : World} {qa ka va qb kb vb bx bp : Nat} {ba k i : Int} {ws wsA wsA' : List Int} {o o' : OpB}
theorem OneQ.step (h : OneQ W qa ka va qb kb vb ba wsA ws bx k i bp o w) (hQ : QuoM w1 qa ka va ba wsA') (hR : Row w1 bp 75 (rowB qa o')) (hP : Part [va, bp] w w1) : OneQ W qa ka va qb kb vb ba wsA' ws bx k i bp o' w1 := by
  refine ⟨hQ, h.b.part hP ?_ ?_ ?_, h.ne, h.la, h.lb, h.lp, h.box.part hP ?_, hR, h.low.trans (hP.below h.low.size (fun q hq => ?_))⟩
  · simp; exact ⟨h.b.head.ne h.a.words.row (by decide), h.b.head.ne h.op (by decide)⟩
  · simp; exact ⟨h.b.words.head.ne h.a.words.row (by decide), h.b.words.head.ne h.op (by decide)⟩
  · simp; exact ⟨h.ne.symm, h.b.words.row.ne h.op (by decide)⟩
  · simp; exact ⟨h.box.ne h.a.words.row (by decide), h.box.ne h.op (by decide)⟩
  · have h1 := h.la; have h2 := h.lp; simp at hq; omega
theorem OneQ.on (h : OneQ W qa ka va qb kb vb ba wsA ws bx k i bp o w) (hb : Below w.heap.size w w1) : OneQ W qa ka va qb kb vb ba wsA ws bx k i bp o w1 :=
  ⟨h.a.on hb, h.b.on hb, h.ne, h.la, h.lb, h.lp, h.box.below hb h.box.lt, h.op.below hb h.op.lt, h.low.trans (hb.mono h.low.size)⟩
/-- b has done a plain call -/
theorem OneQ.call {wsB : List Int} (h : OneQ W qa ka va qb kb vb ba wsA ws bx k i bp o w) (hQ : QuoM w1 qb kb vb ba wsB) (hP : Part [vb] w w1) : OneQ W qa ka va qb kb vb ba wsA wsB bx k i bp o w1 :=
  ⟨h.a.other h.b h.ne hP, hQ, h.ne, h.la, h.lb, h.lp, h.box.quo h.b (by decide) hP, h.op.quo h.b (by decide) hP, h.low.trans (hP.below h.low.size (fun q hq => by rw [List.mem_singleton.1 hq]; exact h.lb))⟩
end
theorem muO_new5 {n wk : Nat} {k : Int} (h1 : 1 ≤ n) (hf : FineB n k wk) : muO (n + 1) (newB k wk) ≤ n + 5 := by
  rcases hf with ⟨rfl, _⟩ | ⟨rfl, _⟩ | ⟨rfl, _⟩ <;> simp [muO, newB]
theorem bstep_done {w : World} {bq bk bw bp : Nat} {ba : Int} {ws : List Int} {o : OpB} (h : QuoM w bq bk bw ba ws) (hp : Row w bp 75 (rowB bq o)) (ho : o.ph = 9) : Calls Try.prog 16 #[.pointer (some ⟨bp, 0, none⟩)] w fun e w' => e = .returned (.tuple #[.agg #[.int .u8 0, .int .i64 0, .int .u64 0, .int .u64 0, .bool false], .bool true]) ∧ Below w.heap.size w w' := by
  have hp' : Row w bp 75 (pendB bq ((o.wk + 1 : Nat) : Int) .nilFunc o.saw o.hand (o.c : Int) o.sum o.ans) := by
    unfold rowB at hp; rwa [nxB_nil ho] at hp
  exact bstep_over hp'
set_option maxHeartbeats 12800000
theorem plain_yes {limit ba : Int} {n : Nat} (hf : FitsB limit ba (n : Int)) {A : Option Addr} {cap : Nat} {xs : List Int} {k i : Int} (W : World) (hX : Ext .i64 W A xs) (hr : xs.length * 8 ≤ 140737488351232) :
    Calls Try.prog 9 #[.int .i64 limit, .int .i64 ba, .int .i64 (n : Int), .slice A xs.length cap, .agg #[.int .u8 k, .int .i64 i]] W fun e w' => e = .returned (.bool true) ∧ Below W.heap.size W w' := by
  have HF := Lib.hid hf
  have HN : Hid (1 ≤ n ∧ n ≤ 64) := Lib.hid (by obtain ⟨_, _, _, _, h5, h6⟩ := hf; omega)
  have hn4 : IntKind.i64.wrap ((n : Int) + 4) = (n : Int) + 4 := by have := HN.out; rw [IntKind.wrap_i64]; omega
  have HX := Lib.hid hX
  have HL : Hid ((startW limit n).length = n + 1) := Lib.hid (by simp [startW])
  clear hf hX
  go_enter Try.func9, Try.ntmps9
  go_upto_region 4 with (first
    | (go_at_call 12; refine (begins_any _).mono ?_; rintro e w1 ⟨rfl, hb⟩; have HB := Lib.hid (((Below.refl W.heap.size W).alloc (Nat.le_refl _) _).trans (hb.mono (by simp))); have HO := Lib.hid ((Row.new W 37 [.int .u8 k, .int .i64 i]).below hb (by simp)); clear hb)
    | (go_at_call 10; refine (qnew_yes HF.out _).mono ?_; rintro e w2 ⟨qa, ka, va, rfl, g1, g2, g3, hQ, hb⟩; have HQ := Lib.hid hQ; have HB2 := Lib.hid hb; have G3 := Lib.hid g3; clear hQ hb g1 g2 g3))
  go_upto_region 6 with (go_at_call 10; refine (qnew_yes HF.out _).mono ?_; rintro e w3 ⟨qb, kb, vb, rfl, g1, g2, g3, hQ, hb⟩; have HT : Hid (TwoQ W qa ka va qb kb vb ba (startW limit n) W.heap.size k i w3) := Lib.hid ⟨HQ.out.on hb, hQ, (by have := HQ.out.words.row.lt; omega), Nat.le_trans HB.out.size G3.out, Nat.le_trans (HB.out.trans (HB2.out.mono HB.out.size)).size g3, (HO.out.below HB2.out HO.out.lt).below hb (HO.out.below HB2.out HO.out.lt).lt, (HB.out.trans (HB2.out.mono HB.out.size)).trans (hb.mono (HB.out.trans (HB2.out.mono HB.out.size)).size)⟩; clear hQ hb g1 g2 g3)
  go_wp2
  have hxl : xs.length ≤ 17592186044160 := by omega
  go_loopw [15] (fun u wr => ∃ j : Nat, j ≤ xs.length ∧ u = .int .i64 j ∧ ∃ ws, ws.length = n + 1 ∧ TwoQ W qa ka va qb kb vb ba ws W.heap.size k i wr) (fun u _ => xs.length - (intOf u).toNat)
  case atStart => exact ⟨0, Nat.zero_le _, rfl, _, HL.out, HT.out⟩
  case round =>
    obtain ⟨j, hj, rfl, ws, hwn, hT⟩ := hrel
    have HT := Lib.hid hT
    have HWN := Lib.hid hwn
    clear hT hwn
    by_cases hlt : j < xs.length
    · obtain ⟨t, ht⟩ : ∃ t, xs[j]? = some t := ⟨xs[j], List.getElem?_eq_getElem hlt⟩
      obtain ⟨b', o', rfl, hlt', q0⟩ := (HX.out.on HT.out.low) j _ ht
      have HXT := Lib.hid ht
      have hlt2 : (j : Int) < (xs.length : Int) := by omega
      clear ht
      go_wp2_with (first
        | (go_at_call 22; (with_reducible refine (btake_any HT.out.a HWN.out t).mono ?_); rintro e w5 ⟨⟨y1, y2, rfl⟩, hQ, hP⟩; have HQ5 := Lib.hid hQ; have HP5 := Lib.hid hP; have HB5 := Lib.hid (HT.out.b.other HT.out.a HT.out.ne.symm hP); obtain ⟨b'', o'', he', hlt'', q0⟩ := (HX.out.on (HT.out.lowA hP)) j _ HXT.out; cases he'; clear hQ hP)
        | (go_at_call 22; (with_reducible refine (btake_any HB5.out HWN.out t).mono ?_); rintro e w6 ⟨⟨y3, y4, rfl⟩, hQ, hP⟩; have HT6 := Lib.hid (HT.out.both HQ5.out HP5.out hQ hP); clear hQ hP))
      go_roundw
      case rel => exact ⟨j + 1, by omega, by go_num, _, by rw [takeW_length]; exact HWN.out, HT6.out⟩
      case measure => simp [intOf]; omega
    · obtain rfl : j = xs.length := by omega
      obtain ⟨o0, o1⟩ := HT.out.box.two_cells
      by_cases hri : rightB n k i = true
      · obtain ⟨wk, rfl, hfi⟩ := right_cases hri
        have HFI := Lib.hid hfi
        clear hfi hri
        go_upto_region 15 with (go_at_call 13; refine (bstart_op HT.out.a HWN.out HFI.out).mono ?_; rintro e w7 ⟨bp, rfl, hn, hrow, hb⟩; have H1 : Hid (OneQ W qa ka va qb kb vb ba ws ws W.heap.size k (wk : Int) bp (newB k wk) w7) := Lib.hid ⟨HT.out.a.on hb, HT.out.b.on hb, HT.out.ne, HT.out.la, HT.out.lb, Nat.le_trans HT.out.low.size hn, HT.out.box.below hb HT.out.box.lt, hrow, HT.out.low.trans (hb.mono HT.out.low.size)⟩; clear hn hrow hb)
        go_wp2
        go_loopw [17] (fun u wr => ∃ j : Nat, j ≤ n + 6 ∧ u = .int .i64 j ∧ ∃ wsA o, runB ba j (ws, newB k wk) = (wsA, o) ∧ OkB wsA.length o ∧ OneQ W qa ka va qb kb vb ba wsA ws W.heap.size k (wk : Int) bp o wr) (fun u _ => n + 6 - (intOf u).toNat)
        case atStart => exact ⟨0, Nat.zero_le _, rfl, ws, newB k wk, rfl, by rw [HWN.out]; exact OkB.new HFI.out, H1.out⟩
        case round =>
          obtain ⟨j, hj6, rfl, wsA, o, hrun, hok, h1⟩ := hrel
          have HRUN := Lib.hid hrun
          have HOK := Lib.hid hok
          have HS1 := Lib.hid h1
          have HNN := HN.out
          by_cases h9 : o.ph = 9
          · have HD : Hid (decide (o.ph = 9) = true) := Lib.hid (by rw [h9]; rfl)
            have h9' : (runB ba j (ws, newB k wk)).2.ph = 9 := by rw [hrun]; exact h9
            have hwh : wholeB ba ws k wk = (wsA, o) := by
              unfold wholeB
              rcases Nat.le_total j (ws.length + 5) with hle | hle
              · rw [runB_past h9' hle, hrun]
              · have hE := wholeB_ends HT.out.a HWN.out HFI.out
                unfold wholeB at hE
                rw [← runB_past hE hle, hrun]
            have HW1 : Hid ((wholeB ba ws k wk).1 = wsA) := Lib.hid (by rw [hwh])
            have HW2 : Hid (ansB ba ws k wk = o.ans) := Lib.hid (by unfold ansB; rw [hwh])
            have H9 := Lib.hid h9
            have HLE : Hid (wsA.length ≤ 1000000) := Lib.hid (by have := h1.a.top; omega)
            clear hrun hok h1 h9' hwh h9
            obtain ⟨o0, o1⟩ := HS1.out.box.two_cells
            rcases HFI.out with ⟨rfl, hw⟩ | ⟨rfl, hw⟩ | ⟨rfl, rfl⟩
            · have HWK := Lib.hid hw
              clear hw
              rcases ansB_take ba ws wk with ha | ha
              · rw [HW2.out] at ha
                have HA0 := Lib.hid (HW2.out.trans ha)
                go_wp2_with (first
                  | (go_at_call 18; (with_reducible refine (bdone_op HS1.out.op).mono ?_); rw [HD.out]; rintro e wx ⟨rfl, rfl⟩)
                  | (go_at_call 22; (with_reducible refine (btake_yes HS1.out.b HWN.out HWK.out).mono ?_); rw [HA0.out, HW1.out]; rintro e w8 ⟨rfl, hQ, hP⟩; have HS8 := Lib.hid (HS1.out.call hQ hP); clear hQ hP)
                  | (go_at_call 16; (with_reducible refine (bstep_done HS8.out.a HS8.out.op H9.out).mono ?_); rintro e w9 ⟨rfl, hb⟩; have HS9 := Lib.hid ((HS8.out.on hb).on ((Below.refl w9.heap.size w9).alloc (Nat.le_refl _) (.cells #[.int .u8 0, .int .i64 0, .int .u64 0, .int .u64 0, .bool false] 46))); have HR9 := Lib.hid (Row.new w9 46 [.int .u8 0, .int .i64 0, .int .u64 0, .int .u64 0, .bool false]); clear hb)
                  | (go_at_call 18; (with_reducible refine (bdone_op HS9.out.op).mono ?_); rw [HD.out]; rintro e wx ⟨rfl, rfl⟩)
                  | (go_at_call 19; (with_reducible refine (banswer_op HS9.out.op).mono ?_); rintro e wx ⟨rfl, rfl⟩)
                  | (go_at_call 21; (with_reducible refine (qall_any HS9.out.a).mono ?_); rintro e w10 ⟨g1, rfl, hg, hr10, hb⟩; have HSA := Lib.hid (HS9.out.on hb); have HL1 := Lib.hid hr10; have HRA := Lib.hid (HR9.out.below hb HR9.out.lt); clear hg hr10 hb)
                  | (go_at_call 21; (with_reducible refine (qall_any HSA.out.b).mono ?_); rintro e w11 ⟨g2, rfl, hg, hr11, hb⟩; have HSB := Lib.hid (HSA.out.on hb); have HL2 := Lib.hid (HL1.out.below hb HL1.out.lt).lies; have HL3 := Lib.hid hr11.lies; have HRB := Lib.hid (HRA.out.below hb HRA.out.lt); clear hg hr11 hb)
                  | (go_at_call 20; (with_reducible refine (same_yes HL2.out HL3.out HLE.out rfl rfl).mono ?_); rintro e w12 ⟨rfl, hb⟩; have HSC := Lib.hid (HSB.out.on hb); obtain ⟨d0, d1, d2, d3, d4⟩ := (HRB.out.below hb HRB.out.lt).five; clear hb))
                go_ret
                exact ⟨by simp [ha], HSC.out.low⟩
              · rw [HW2.out] at ha
                have HA0 := Lib.hid (HW2.out.trans ha)
                go_wp2_with (first
                  | (go_at_call 18; (with_reducible refine (bdone_op HS1.out.op).mono ?_); rw [HD.out]; rintro e wx ⟨rfl, rfl⟩)
                  | (go_at_call 22; (with_reducible refine (btake_yes HS1.out.b HWN.out HWK.out).mono ?_); rw [HA0.out, HW1.out]; rintro e w8 ⟨rfl, hQ, hP⟩; have HS8 := Lib.hid (HS1.out.call hQ hP); clear hQ hP)
                  | (go_at_call 16; (with_reducible refine (bstep_done HS8.out.a HS8.out.op H9.out).mono ?_); rintro e w9 ⟨rfl, hb⟩; have HS9 := Lib.hid ((HS8.out.on hb).on ((Below.refl w9.heap.size w9).alloc (Nat.le_refl _) (.cells #[.int .u8 0, .int .i64 0, .int .u64 0, .int .u64 0, .bool false] 46))); have HR9 := Lib.hid (Row.new w9 46 [.int .u8 0, .int .i64 0, .int .u64 0, .int .u64 0, .bool false]); clear hb)
                  | (go_at_call 18; (with_reducible refine (bdone_op HS9.out.op).mono ?_); rw [HD.out]; rintro e wx ⟨rfl, rfl⟩)
                  | (go_at_call 19; (with_reducible refine (banswer_op HS9.out.op).mono ?_); rintro e wx ⟨rfl, rfl⟩)
                  | (go_at_call 21; (with_reducible refine (qall_any HS9.out.a).mono ?_); rintro e w10 ⟨g1, rfl, hg, hr10, hb⟩; have HSA := Lib.hid (HS9.out.on hb); have HL1 := Lib.hid hr10; have HRA := Lib.hid (HR9.out.below hb HR9.out.lt); clear hg hr10 hb)
                  | (go_at_call 21; (with_reducible refine (qall_any HSA.out.b).mono ?_); rintro e w11 ⟨g2, rfl, hg, hr11, hb⟩; have HSB := Lib.hid (HSA.out.on hb); have HL2 := Lib.hid (HL1.out.below hb HL1.out.lt).lies; have HL3 := Lib.hid hr11.lies; have HRB := Lib.hid (HRA.out.below hb HRA.out.lt); clear hg hr11 hb)
                  | (go_at_call 20; (with_reducible refine (same_yes HL2.out HL3.out HLE.out rfl rfl).mono ?_); rintro e w12 ⟨rfl, hb⟩; have HSC := Lib.hid (HSB.out.on hb); obtain ⟨d0, d1, d2, d3, d4⟩ := (HRB.out.below hb HRB.out.lt).five; clear hb))
                go_ret
                exact ⟨by simp [ha], HSC.out.low⟩
            · have HWK := Lib.hid hw
              clear hw
              go_wp2_with (first
                | (go_at_call 18; (with_reducible refine (bdone_op HS1.out.op).mono ?_); rw [HD.out]; rintro e wx ⟨rfl, rfl⟩)
                | (go_at_call 23; (with_reducible refine (bback_yes HS1.out.b HWN.out HWK.out).mono ?_); rw [HW2.out, HW1.out]; rintro e w8 ⟨rfl, hQ, hP⟩; have HS8 := Lib.hid (HS1.out.call hQ hP); clear hQ hP)
                | (go_at_call 16; (with_reducible refine (bstep_done HS8.out.a HS8.out.op H9.out).mono ?_); rintro e w9 ⟨rfl, hb⟩; have HS9 := Lib.hid ((HS8.out.on hb).on ((Below.refl w9.heap.size w9).alloc (Nat.le_refl _) (.cells #[.int .u8 0, .int .i64 0, .int .u64 0, .int .u64 0, .bool false] 46))); have HR9 := Lib.hid (Row.new w9 46 [.int .u8 0, .int .i64 0, .int .u64 0, .int .u64 0, .bool false]); clear hb)
                | (go_at_call 18; (with_reducible refine (bdone_op HS9.out.op).mono ?_); rw [HD.out]; rintro e wx ⟨rfl, rfl⟩)
                | (go_at_call 19; (with_reducible refine (banswer_op HS9.out.op).mono ?_); rintro e wx ⟨rfl, rfl⟩)
                | (go_at_call 21; (with_reducible refine (qall_any HS9.out.a).mono ?_); rintro e w10 ⟨g1, rfl, hg, hr10, hb⟩; have HSA := Lib.hid (HS9.out.on hb); have HL1 := Lib.hid hr10; have HRA := Lib.hid (HR9.out.below hb HR9.out.lt); clear hg hr10 hb)
                | (go_at_call 21; (with_reducible refine (qall_any HSA.out.b).mono ?_); rintro e w11 ⟨g2, rfl, hg, hr11, hb⟩; have HSB := Lib.hid (HSA.out.on hb); have HL2 := Lib.hid (HL1.out.below hb HL1.out.lt).lies; have HL3 := Lib.hid hr11.lies; have HRB := Lib.hid (HRA.out.below hb HRA.out.lt); clear hg hr11 hb)
                | (go_at_call 20; (with_reducible refine (same_yes HL2.out HL3.out HLE.out rfl rfl).mono ?_); rintro e w12 ⟨rfl, hb⟩; have HSC := Lib.hid (HSB.out.on hb); obtain ⟨d0, d1, d2, d3, d4⟩ := (HRB.out.below hb HRB.out.lt).five; clear hb))
              go_ret
              exact ⟨by simp, HSC.out.low⟩
            · go_wp2_with (first
                | (go_at_call 18; (with_reducible refine (bdone_op HS1.out.op).mono ?_); rw [HD.out]; rintro e wx ⟨rfl, rfl⟩)
                | (go_at_call 24; (with_reducible refine (bleft_yes HS1.out.b HWN.out).mono ?_); rw [HW2.out, HW1.out]; rintro e w8 ⟨rfl, hQ, hP⟩; have HS8 := Lib.hid (HS1.out.call hQ hP); clear hQ hP)
                | (go_at_call 16; (with_reducible refine (bstep_done HS8.out.a HS8.out.op H9.out).mono ?_); rintro e w9 ⟨rfl, hb⟩; have HS9 := Lib.hid ((HS8.out.on hb).on ((Below.refl w9.heap.size w9).alloc (Nat.le_refl _) (.cells #[.int .u8 0, .int .i64 0, .int .u64 0, .int .u64 0, .bool false] 46))); have HR9 := Lib.hid (Row.new w9 46 [.int .u8 0, .int .i64 0, .int .u64 0, .int .u64 0, .bool false]); clear hb)
                | (go_at_call 18; (with_reducible refine (bdone_op HS9.out.op).mono ?_); rw [HD.out]; rintro e wx ⟨rfl, rfl⟩)
                | (go_at_call 19; (with_reducible refine (banswer_op HS9.out.op).mono ?_); rintro e wx ⟨rfl, rfl⟩)
                | (go_at_call 21; (with_reducible refine (qall_any HS9.out.a).mono ?_); rintro e w10 ⟨g1, rfl, hg, hr10, hb⟩; have HSA := Lib.hid (HS9.out.on hb); have HL1 := Lib.hid hr10; have HRA := Lib.hid (HR9.out.below hb HR9.out.lt); clear hg hr10 hb)
                | (go_at_call 21; (with_reducible refine (qall_any HSA.out.b).mono ?_); rintro e w11 ⟨g2, rfl, hg, hr11, hb⟩; have HSB := Lib.hid (HSA.out.on hb); have HL2 := Lib.hid (HL1.out.below hb HL1.out.lt).lies; have HL3 := Lib.hid hr11.lies; have HRB := Lib.hid (HRA.out.below hb HRA.out.lt); clear hg hr11 hb)
                | (go_at_call 20; (with_reducible refine (same_yes HL2.out HL3.out HLE.out rfl rfl).mono ?_); rintro e w12 ⟨rfl, hb⟩; have HSC := Lib.hid (HSB.out.on hb); obtain ⟨d0, d1, d2, d3, d4⟩ := (HRB.out.below hb HRB.out.lt).five; clear hb))
              go_ret
              exact ⟨by simp, HSC.out.low⟩
          · have HD : Hid (decide (o.ph = 9) = false) := Lib.hid (by simpa using h9)
            have hj5 : j < n + 5 := by
              apply Nat.lt_of_not_le
              intro hle
              have := runB_ends (AloneB.new ws k wk) (by rw [HWN.out]; exact OkB.new HFI.out) HT.out.a.words.ok HT.out.a.least HT.out.a.lowb j (by rw [HWN.out]; have := muO_new5 HN.out.1 HFI.out; omega)
              rw [hrun] at this
              exact h9 this
            have hle4 : decide ((j : Int) ≤ (n : Int) + 4) = true := by simp; omega
            have hj1 : (j : Int) ≤ (n : Int) + 4 := by omega
            have HRN : Hid (runB ba (j + 1) (ws, newB k wk) = (stepBW ba wsA o, stepB ba wsA o)) := Lib.hid (by rw [runB_next, hrun])
            have HOK2 : Hid (OkB (stepBW ba wsA o).length (stepB ba wsA o)) := Lib.hid (by rw [stepBW_length]; exact hok.step h1.a.words.ok h1.a.least)
            clear hrun hok h1 h9
            go_wp2_with (first
              | (go_at_call 18; (with_reducible refine (bdone_op HS1.out.op).mono ?_); rw [HD.out]; rintro e wx ⟨rfl, rfl⟩)
              | (go_at_call 16; (with_reducible refine (bstep_op HS1.out.a HS1.out.op HOK.out).mono ?_); rintro e w8 ⟨rfl, hQ, hR, hP⟩; have HS8 := Lib.hid (HS1.out.step hQ hR hP); clear hQ hR hP; unfold didV))
            go_roundw
            case rel => exact ⟨j + 1, by omega, by go_num, _, _, HRN.out, HOK2.out, HS8.out⟩
            case measure => simp [intOf]; omega
      · have HRI : Hid (rightB n k i = false) := Lib.hid (by simpa using hri)
        clear hri
        go_wp2_with (go_at_call 13; refine (bstart_no HT.out.a HWN.out HRI.out).mono ?_; rintro e w7 ⟨rfl, hb⟩; have HB7 := Lib.hid hb; clear hb)
        go_ret
        exact ⟨rfl, HT.out.low.trans (HB7.out.mono HT.out.low.size)⟩
end Go.Proofs.Ytddlalljdecdoaa
