/- THE WALK of the law 'QuotaCalls'. -/
import Derived.Test.YtddlalljdecdoaaBz
import Derived.Test.YtddlalljdecdoaaDa
import Derived.Test.YtddlalljdecdoaaEp
namespace Go.Proofs.Ytddlalljdecdoaa
open Go Go.RowKit
set_option maxRecDepth 100000
set_option maxHeartbeats 3200000
theorem calls_no {limit ba n : Int} (hf : ¬ FitsB limit ba n) {A : Option Addr} {len cap : Nat} (W : World) :
    Calls Try.prog 4 #[.int .i64 limit, .int .i64 ba, .int .i64 n, .slice A len cap] W fun e w' => e = .returned (.bool true) ∧ Below W.heap.size W w' := by
  have HF := Lib.hid hf
  clear hf
  go_enter Try.func4, Try.ntmps4
  go_wp2_with (first
    | (go_at_call 12; refine (begins_any _).mono ?_; rintro e w2 ⟨rfl, hb⟩; have HB2 := Lib.hid hb; clear hb)
    | (go_at_call 11; refine (dfits_no HF.out _).mono ?_; rintro e w1 ⟨rfl, hb⟩; have HB := Lib.hid hb; clear hb)
    | (go_at_call 10; refine (qnew_no HF.out _).mono ?_; rintro e wx ⟨rfl, rfl⟩))
  go_ret
  exact ⟨rfl, HB.out.trans (HB2.out.mono HB.out.size)⟩
/-- the code's cells and the document's -/
structure CallsI (W : World) (bq bk bw n : Nat) (ba : Int) (wc wd : List Int) (g : Nat) (w : World) : Prop where
  quo : QuoM w bq bk bw ba wc
  len : wc.length = n + 1
  lend : wd.length = n + 1
  lies : Lies w g wd
  glt : g < w.heap.size
  gne : ¬ g = bw
  wlo : W.heap.size ≤ bw
  us : ∀ x ∈ wd, U64 x
  low : Below W.heap.size W w
section
variable {W w w1 : World} {bq bk bw n g g' : Nat} {ba : Int} {wc wd wc' wd' : List Int}
theorem CallsI.on (h : CallsI W bq bk bw n ba wc wd g w) (hb : Below w.heap.size w w1) : CallsI W bq bk bw n ba wc wd g w1 :=
  ⟨h.quo.on hb, h.len, h.lend, h.lies.below hb h.glt, Nat.lt_of_lt_of_le h.glt hb.size, h.gne, h.wlo, h.us, h.low.trans (hb.mono h.low.size)⟩
theorem CallsI.code (h : CallsI W bq bk bw n ba wc wd g w) (hQ : QuoM w1 bq bk bw ba wc') (hl : wc'.length = n + 1) (hP : Part [bw] w w1) : CallsI W bq bk bw n ba wc' wd g w1 :=
  ⟨hQ, hl, h.lend, h.lies.part hP h.glt (by simpa using h.gne), Nat.lt_of_lt_of_le h.glt hP.size, h.gne, h.wlo, h.us, h.low.trans (hP.below h.low.size (fun q hq => by rw [List.mem_singleton.1 hq]; exact h.wlo))⟩
theorem CallsI.doc (h : CallsI W bq bk bw n ba wc wd g w) (hL : Lies w1 g' wd') (hl : wd'.length = n + 1) (hg : w.heap.size ≤ g' ∨ g' = g) (hlt : g' < w1.heap.size) (hu : ∀ x ∈ wd', U64 x) (hb : Below w.heap.size w w1) : CallsI W bq bk bw n ba wc wd' g' w1 :=
  ⟨h.quo.on hb, h.len, hl, hL, hlt, by have h1 := h.quo.words.row.lt; have h2 := h.gne; omega, h.wlo, hu, h.low.trans (hb.mono h.low.size)⟩
end
set_option maxHeartbeats 12800000
theorem calls_yes {limit ba : Int} {n : Nat} (hf : FitsB limit ba (n : Int)) {A : Option Addr} {cap : Nat} {ops : List (Int × Int)} (W : World) (hX : Ext2 .u8 .i64 W A ops) (hr : ops.length * 16 ≤ 140737488351232) :
    Calls Try.prog 4 #[.int .i64 limit, .int .i64 ba, .int .i64 (n : Int), .slice A ops.length cap] W fun e w' => e = .returned (.bool true) ∧ Below W.heap.size W w' := by
  have HF := Lib.hid hf
  have HN : Hid (1 ≤ n ∧ n ≤ 64) := Lib.hid (by obtain ⟨_, _, _, _, h5, h6⟩ := hf; omega)
  have HLm : Hid (0 ≤ limit ∧ limit ≤ 1099511627776) := Lib.hid (by obtain ⟨h1, h2, _⟩ := hf; exact ⟨h1, h2⟩)
  have HX := Lib.hid hX
  have HL : Hid ((startW limit n).length = n + 1) := Lib.hid (by simp [startW])
  clear hf hX
  go_enter Try.func4, Try.ntmps4
  go_upto_region 6 with (first
    | (go_at_call 10; refine (qnew_yes HF.out _).mono ?_; rintro e w2 ⟨bq, bk, bw, rfl, g1, g2, g3, hQ, hb⟩; have HQ := Lib.hid hQ; have HB2 := Lib.hid hb; have G3 := Lib.hid g3; clear hQ hb g1 g2 g3)
    | (go_at_call 15; refine (dcells_any HLm.out.1 HLm.out.2 HN.out.2 _).mono ?_; rintro e w3 ⟨g, c, rfl, hg, hlt, hL, hb⟩; have HT : Hid (CallsI W bq bk bw n ba (startW limit n) (startW limit n) g w3) := Lib.hid ⟨HQ.out.on hb, HL.out, HL.out, hL, hlt, (by have := HQ.out.words.row.lt; omega), G3.out, HQ.out.words.ok, HB2.out.trans (hb.mono HB2.out.size)⟩; clear hg hlt hL hb))
  go_wp2
  have hxl : ops.length ≤ 17592186044160 := by omega
  go_loopw [12, 13] (fun t u wr => ∃ j : Nat, j ≤ ops.length ∧ u = .int .i64 j ∧ ∃ ws g c, t = .slice (some ⟨g, 0, none⟩) ws.length c ∧ CallsI W bq bk bw n ba ws ws g wr) (fun _ u _ => ops.length - (intOf u).toNat)
  case atStart => exact ⟨0, Nat.zero_le _, rfl, _, _, _, rfl, HT.out⟩
  case round =>
    obtain ⟨j, hj, rfl, ws, g', c', rfl, hT⟩ := hrel
    have HT := Lib.hid hT
    clear hT
    by_cases hlt : j < ops.length
    · obtain ⟨⟨k, i⟩, ht⟩ : ∃ t, ops[j]? = some t := ⟨ops[j], List.getElem?_eq_getElem hlt⟩
      obtain ⟨b', o', rfl, hlt', q0, q1⟩ := (HX.out.on HT.out.low) j _ ht
      simp only at q0 q1
      have hlt2 : (j : Int) < (ops.length : Int) := by omega
      have HTA : Hid (CallsI W bq bk bw n ba ws ws g' (wr.alloc (.cells #[.int .u8 k, .int .i64 i] 37))) := Lib.hid (HT.out.on ((Below.refl wr.heap.size wr).alloc (Nat.le_refl _) _))
      have HBX : Hid (Row (wr.alloc (.cells #[.int .u8 k, .int .i64 i] 37)) wr.heap.size 37 [.int .u8 k, .int .i64 i]) := Lib.hid (Row.new wr _ _)
      clear ht
      by_cases k1 : k = 1
      · subst k1
        cases hri : rightB n 1 i with
        | false =>
          have HRI := Lib.hid hri
          clear hri
          go_wp2_with (first
            | (go_at_call 22; (with_reducible refine (btake_no HTA.out.quo HTA.out.len HRI.out).mono ?_); rintro e w5 ⟨rfl, hb⟩; have HT5 := Lib.hid (HTA.out.on hb); have hx5 := HBX.out.below hb HBX.out.lt; have HBX5 := Lib.hid hx5; obtain ⟨x0, x1⟩ := hx5.two_cells; clear hb hx5)
            | (go_at_call 14; refine (dright_any n 1 i _).mono ?_; rw [HRI.out]; rintro e w6 ⟨rfl, hb⟩; have HT6 := Lib.hid (HT5.out.on hb); clear hb))
          go_roundw
          case rel => exact ⟨j + 1, by omega, by go_num, _, _, _, rfl, HT6.out⟩
          case measure => simp [intOf]; omega
        | true =>
          obtain ⟨wk, rfl, hfi⟩ := right_cases hri
          have HRI := Lib.hid hri
          have HFI : Hid (FineB n 1 wk) := Lib.hid hfi
          have HWK : Hid (wk < n) := Lib.hid (by rcases hfi with ⟨_, h⟩ | ⟨h, _⟩ | ⟨h, _⟩ <;> omega)
          have HEN := Lib.hid (wholeB_ends HTA.out.quo HTA.out.len HFI.out)
          clear hri hfi
          rcases ansB_take ba ws wk with hans | hans
          all_goals
            go_wp2_with (first
              | (go_at_call 22; (with_reducible refine (btake_yes HTA.out.quo HTA.out.len HWK.out).mono ?_); rintro e w5 ⟨rfl, hQ, hP⟩; have HT5 := Lib.hid (HTA.out.code hQ (by rw [wholeB_length]; exact HTA.out.len) hP); have hx5 := HBX.out.quo HTA.out.quo (by decide) hP; have HBX5 := Lib.hid hx5; obtain ⟨x0, x1⟩ := hx5.two_cells; clear hQ hP hx5)
              | (go_at_call 14; refine (dright_any n 1 wk _).mono ?_; rw [HRI.out]; rintro e w6 ⟨rfl, hb⟩; have HT6 := Lib.hid (HT5.out.on hb); have hx6 := HBX5.out.below hb HBX5.out.lt; obtain ⟨y0, y1⟩ := hx6.two_cells; clear hb hx6)
              | (go_at_call 25; refine (dwhole_op HT6.out.lies HT6.out.glt HT6.out.lend HN.out.1 (by rw [HT6.out.lend]; have := HN.out; omega) HT6.out.us HT6.out.quo.lowb HT6.out.quo.topb HFI.out rfl HEN.out).mono ?_; rw [show (runB ba (ws.length + 5) (ws, newB 1 wk)).2.ans = ansB ba ws 1 wk from rfl, hans]; rintro e w7 ⟨g2, c2, rfl, hg2, hlt7, hL7, hb7⟩; have HT7 := Lib.hid (HT6.out.doc hL7 HT6.out.len hg2 hlt7 HT6.out.quo.words.ok hb7); clear hg2 hlt7 hL7 hb7)
              | (go_at_call 21; refine (qall_any HT7.out.quo).mono ?_; rintro e w8 ⟨b8, rfl, hb8, hr8, hw8⟩; have HT8 := Lib.hid (HT7.out.on hw8); have HR8 := Lib.hid hr8; clear hb8 hr8 hw8)
              | (go_at_call 20; refine (same_yes HR8.out.lies HT8.out.lies (by rw [HT8.out.len]; have := HN.out; omega) rfl rfl).mono ?_; rintro e w9 ⟨rfl, hb9⟩; have HT9 := Lib.hid (HT8.out.on hb9); clear hb9))
            go_roundw
            case rel => exact ⟨j + 1, by omega, by go_num, _, _, _, rfl, HT9.out⟩
            case measure => simp [intOf]; omega
      by_cases k2 : k = 2
      · subst k2
        cases hri : rightB n 2 i with
        | false =>
          have HRI := Lib.hid hri
          clear hri
          go_wp2_with (first
            | (go_at_call 23; (with_reducible refine (bback_no HTA.out.quo HTA.out.len HRI.out).mono ?_); rintro e w5 ⟨rfl, hb⟩; have HT5 := Lib.hid (HTA.out.on hb); have hx5 := HBX.out.below hb HBX.out.lt; have HBX5 := Lib.hid hx5; obtain ⟨x0, x1⟩ := hx5.two_cells; clear hb hx5)
            | (go_at_call 14; refine (dright_any n 2 i _).mono ?_; rw [HRI.out]; rintro e w6 ⟨rfl, hb⟩; have HT6 := Lib.hid (HT5.out.on hb); clear hb))
          go_roundw
          case rel => exact ⟨j + 1, by omega, by go_num, _, _, _, rfl, HT6.out⟩
          case measure => simp [intOf]; omega
        | true =>
          obtain ⟨wk, rfl, hfi⟩ := right_cases hri
          have HRI := Lib.hid hri
          have HFI : Hid (FineB n 2 wk) := Lib.hid hfi
          have HWK : Hid (wk < n) := Lib.hid (by rcases hfi with ⟨h, _⟩ | ⟨_, h⟩ | ⟨h, _⟩ <;> omega)
          have HEN := Lib.hid (wholeB_ends HTA.out.quo HTA.out.len HFI.out)
          clear hri hfi
          go_wp2_with (first
            | (go_at_call 23; (with_reducible refine (bback_yes HTA.out.quo HTA.out.len HWK.out).mono ?_); rintro e w5 ⟨rfl, hQ, hP⟩; have HT5 := Lib.hid (HTA.out.code hQ (by rw [wholeB_length]; exact HTA.out.len) hP); have hx5 := HBX.out.quo HTA.out.quo (by decide) hP; have HBX5 := Lib.hid hx5; obtain ⟨x0, x1⟩ := hx5.two_cells; clear hQ hP hx5)
            | (go_at_call 14; refine (dright_any n 2 wk _).mono ?_; rw [HRI.out]; rintro e w6 ⟨rfl, hb⟩; have HT6 := Lib.hid (HT5.out.on hb); have hx6 := HBX5.out.below hb HBX5.out.lt; obtain ⟨y0, y1⟩ := hx6.two_cells; clear hb hx6)
            | (go_at_call 25; refine (dwhole_op HT6.out.lies HT6.out.glt HT6.out.lend HN.out.1 (by rw [HT6.out.lend]; have := HN.out; omega) HT6.out.us HT6.out.quo.lowb HT6.out.quo.topb HFI.out rfl HEN.out).mono ?_; rw [show (runB ba (ws.length + 5) (ws, newB 2 wk)).2.ans = ansB ba ws 2 wk from rfl]; rintro e w7 ⟨g2, c2, rfl, hg2, hlt7, hL7, hb7⟩; have HT7 := Lib.hid (HT6.out.doc hL7 HT6.out.len hg2 hlt7 HT6.out.quo.words.ok hb7); clear hg2 hlt7 hL7 hb7)
            | (go_at_call 21; refine (qall_any HT7.out.quo).mono ?_; rintro e w8 ⟨b8, rfl, hb8, hr8, hw8⟩; have HT8 := Lib.hid (HT7.out.on hw8); have HR8 := Lib.hid hr8; clear hb8 hr8 hw8)
            | (go_at_call 20; refine (same_yes HR8.out.lies HT8.out.lies (by rw [HT8.out.len]; have := HN.out; omega) rfl rfl).mono ?_; rintro e w9 ⟨rfl, hb9⟩; have HT9 := Lib.hid (HT8.out.on hb9); clear hb9))
          go_roundw
          case rel => exact ⟨j + 1, by omega, by go_num, _, _, _, rfl, HT9.out⟩
          case measure => simp [intOf]; omega
      by_cases k3 : k = 3
      · subst k3
        have HFI : Hid (FineB n 3 0) := Lib.hid (.inr (.inr ⟨rfl, rfl⟩))
        have HRI : Hid (rightB n 3 0 = true) := Lib.hid rfl
        have HTB : Hid (CallsI W bq bk bw n ba ws ws g' (wr.alloc (.cells #[.int .u8 3, .int .i64 0] 37))) := Lib.hid (HT.out.on ((Below.refl wr.heap.size wr).alloc (Nat.le_refl _) _))
        have HBY : Hid (Row (wr.alloc (.cells #[.int .u8 3, .int .i64 0] 37)) wr.heap.size 37 [.int .u8 3, .int .i64 0]) := Lib.hid (Row.new wr _ _)
        have HEN := Lib.hid (wholeB_ends HTB.out.quo HTB.out.len HFI.out)
        go_wp2_with (first
          | (go_at_call 24; (with_reducible refine (bleft_yes HTB.out.quo HTB.out.len).mono ?_); rintro e w5 ⟨rfl, hQ, hP⟩; have HT5 := Lib.hid (HTB.out.code hQ (by rw [wholeB_length]; exact HTB.out.len) hP); have hx5 := HBY.out.quo HTB.out.quo (by decide) hP; have HBX5 := Lib.hid hx5; obtain ⟨x0, x1⟩ := hx5.two_cells; clear hQ hP hx5)
          | (go_at_call 14; refine (dright_any n 3 0 _).mono ?_; rw [HRI.out]; rintro e w6 ⟨rfl, hb⟩; have HT6 := Lib.hid (HT5.out.on hb); have hx6 := HBX5.out.below hb HBX5.out.lt; obtain ⟨y0, y1⟩ := hx6.two_cells; clear hb hx6)
          | (go_at_call 25; refine (dwhole_op (wk := 0) HT6.out.lies HT6.out.glt HT6.out.lend HN.out.1 (by rw [HT6.out.lend]; have := HN.out; omega) HT6.out.us HT6.out.quo.lowb HT6.out.quo.topb HFI.out rfl HEN.out).mono ?_; rw [show (runB ba (ws.length + 5) (ws, newB 3 0)).2.ans = ansB ba ws 3 0 from rfl]; rintro e w7 ⟨g2, c2, rfl, hg2, hlt7, hL7, hb7⟩; have HT7 := Lib.hid (HT6.out.doc hL7 HT6.out.len hg2 hlt7 HT6.out.quo.words.ok hb7); clear hg2 hlt7 hL7 hb7)
          | (go_at_call 21; refine (qall_any HT7.out.quo).mono ?_; rintro e w8 ⟨b8, rfl, hb8, hr8, hw8⟩; have HT8 := Lib.hid (HT7.out.on hw8); have HR8 := Lib.hid hr8; clear hb8 hr8 hw8)
          | (go_at_call 20; refine (same_yes HR8.out.lies HT8.out.lies (by rw [HT8.out.len]; have := HN.out; omega) rfl rfl).mono ?_; rintro e w9 ⟨rfl, hb9⟩; have HT9 := Lib.hid (HT8.out.on hb9); clear hb9))
        go_roundw
        case rel => exact ⟨j + 1, by omega, by go_num, _, _, _, rfl, HT9.out⟩
        case measure => simp [intOf]; omega
      have e1 : (k == 1) = false := by simpa using k1
      have e2 : (k == 2) = false := by simpa using k2
      have e3 : (k == 3) = false := by simpa using k3
      clear k1 k2 k3
      go_wp2
      go_roundw
      case rel => exact ⟨j + 1, by omega, by go_num, _, _, _, rfl, HTA.out⟩
      case measure => simp [intOf]; omega
    · obtain rfl : j = ops.length := by omega
      go_wp2_with (go_at_call 12; refine (begins_any _).mono ?_; rintro e w2 ⟨rfl, hb⟩; have HB2 := Lib.hid (HT.out.low.trans (hb.mono HT.out.low.size)); clear hb)
      go_ret
      exact ⟨rfl, HB2.out⟩
theorem calls_any {limit ba n : Int} {A : Option Addr} {cap : Nat} {ops : List (Int × Int)} (W : World) (hX : Ext2 .u8 .i64 W A ops) (hr : ops.length * 16 ≤ 140737488351232) :
    Calls Try.prog 4 #[.int .i64 limit, .int .i64 ba, .int .i64 n, .slice A ops.length cap] W fun e w' => e = .returned (.bool true) ∧ Below W.heap.size W w' := by
  by_cases hf : FitsB limit ba n
  · obtain ⟨m, rfl⟩ : ∃ m : Nat, n = (m : Int) := ⟨n.toNat, by obtain ⟨_, _, _, _, h5, _⟩ := hf; omega⟩
    exact calls_yes hf W hX hr
  · exact calls_no hf W
end Go.Proofs.Ytddlalljdecdoaa
