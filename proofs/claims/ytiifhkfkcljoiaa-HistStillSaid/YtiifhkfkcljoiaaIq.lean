/- THE WALKS of package hist: begins; HistNil. -/
import Derived.Test.YtiifhkfkcljoiaaIp
import Derived.Deep.RegionLaw
import Derived.Deep.AppendLies
import Derived.Laws.MakeOwn
namespace Go.Proofs.Ytiifhkfkcljoiaa
open Go Go.RowKit
set_option maxRecDepth 100000
set_option maxHeartbeats 1600000
theorem cnt_b : Sc.cnt 1 1000 1 = 112 := by decide +kernel
theorem right_b : Sc.rightB 1 1000 1 = true := by decide +kernel
theorem ix_63 : ixH 1 1 63 = 47 := by decide +kernel
theorem ix_5 : ixH 1 1 5 = 5 := by decide +kernel
def wsB : List Int := recW 112 (recW 112 (startH 112) 63 2 47) 5 1 5
theorem shot_b : shotH 112 wsB = ⟨3, 131, 5, 63, wsB.take 112⟩ := by
  have h1 : gw wsB 115 = 3 := by decide +kernel
  have h2 : gw wsB 112 = 131 := by decide +kernel
  have h3 : wrap64 (gw wsB 113) = 5 := by decide +kernel
  have h4 : wrap64 (wrap64 (gw wsB 114) - 1) = 63 := by decide +kernel
  unfold shotH
  rw [show 112 + 3 = 115 from rfl, show 112 + 1 = 113 from rfl, show 112 + 2 = 114 from rfl, h1, h2, h3, h4]
theorem bu_b : (wsB.take 112).length = 112 ∧ (wsB.take 112)[47]? = some 2 := by decide +kernel
theorem begins_any (w : World) : Calls Try.prog 12 #[] w fun e w' => e = .returned (.bool true) ∧ Below w.heap.size w w' := by
  have hn := hnew_yes right_b w
  unfold NewH at hn
  rw [cnt_b] at hn
  have HN := Lib.hid hn
  clear hn
  go_enter Try.func12, Try.ntmps12
  go_wp2_with (first
    | (go_at_call 10; (with_reducible refine HN.out.mono ?_); rintro e w1 ⟨bh, bk, bw, rfl, _, _, hbw, hh, hb⟩; have HH1 := Lib.hid hh; have HB1 := Lib.hid hb; have HW1 := Lib.hid hbw; have HR1 := Lib.hid (hrecord_yes (v := 63) (n := 2) hh cnt_b.symm right_b (by omega) (by omega) (by decide)); clear hbw hh hb)
    | (go_at_call 28; (with_reducible refine HR1.out.mono ?_); rw [ix_63]; rintro e w2 ⟨rfl, hh, hP⟩; have HP2 := Lib.hid hP; have HR2 := Lib.hid (hrecord_yes (v := 5) (n := 1) hh cnt_b.symm right_b (by omega) (by omega) (by decide)); clear hh hP)
    | (go_at_call 28; (with_reducible refine HR2.out.mono ?_); rw [ix_5]; rintro e w3 ⟨rfl, hh, hP⟩; have HP3 := Lib.hid hP; have hsw := hshow_any hh (by omega); rw [show recW 112 (recW 112 (startH 112) 63 2 47) 5 1 5 = wsB from rfl, shot_b] at hsw; unfold ShownH at hsw; dsimp only at hsw; rw [bu_b.1] at hsw; have HS3 := Lib.hid hsw; clear hh hP hsw)
    | (go_at_call 29; (with_reducible refine HS3.out.mono ?_); rintro e w4 ⟨A, c, rfl, ho, hh, hP⟩; have HP4 := Lib.hid hP; obtain ⟨g, c', hA, _, hg⟩ := own_some ho (by omega); cases hA; have hcell := own_cell (j := 47) ho (by rw [u64s_get, bu_b.2]; rfl); clear ho hh hP))
  go_ret
  have hp := (HP2.out.then_ HP3.out).then_ HP4.out
  exact ⟨rfl, (HB1.out.trans (hp.below HB1.out.size (by simpa using HW1.out))).alloc (by have h1 := HB1.out.size; have h2 := hp.size; omega) _⟩
theorem same_nil (w : World) : Calls Try.prog 19 #[.agg #[.int .u64 0, .int .u64 0, .int .i64 0, .int .i64 0, .slice none 0 0], .agg #[.int .u64 0, .int .u64 0, .int .i64 0, .int .i64 0, .slice none 0 0]] w fun e w' => e = .returned (.bool true) ∧ Below w.heap.size w w' := same_yes (c := 0) (c' := 0) (xs := []) (ext_nil w) (ext_nil w) (by simp)
theorem histNil_any {k v n : Int} (w : World) : Calls Try.prog 5 #[.agg #[.int .u8 k, .int .i64 v, .int .u64 n]] w fun e w' => e = .returned (.bool true) ∧ Below w.heap.size w w' := by
  have HB0 := Lib.hid (show Below w.heap.size w (w.alloc (.cells #[.int .u8 k, .int .i64 v, .int .u64 n] 40)) from (Below.refl _ _).alloc (Nat.le_refl _) _)
  have HO := Lib.hid (Row.new w 40 [.int .u8 k, .int .i64 v, .int .u64 n])
  go_enter Try.func5, Try.ntmps5
  go_wp2_with (first
    | (go_at_call 13; (with_reducible refine (hstart_nil _).mono ?_); rintro e w1 ⟨rfl, hb⟩; have HB1 := Lib.hid (HB0.out.trans (hb.mono HB0.out.size)); have HO1 := Lib.hid (HO.out.below hb HO.out.lt); clear hb)
    | (go_at_call 16; (with_reducible refine hstep_nil.mono ?_); rintro e w2 ⟨rfl, hb⟩; have HB2 := Lib.hid ((HB1.out.trans (hb.mono HB1.out.size)).alloc (HB1.out.trans (hb.mono HB1.out.size)).size (.cells #[.int .u8 0, .int .i64 0, .int .u64 0, .int .u64 0, .bool false] 50)); have HO2 := Lib.hid ((HO1.out.below hb HO1.out.lt).alloc (.cells #[.int .u8 0, .int .i64 0, .int .u64 0, .int .u64 0, .bool false] 50)); have HD2 := Lib.hid (Row.new w2 50 [.int .u8 0, .int .i64 0, .int .u64 0, .int .u64 0, .bool false]); clear hb)
    | (go_at_call 12; (with_reducible refine (begins_any _).mono ?_); rintro e w3 ⟨rfl, hb⟩; have HB3 := Lib.hid (HB2.out.trans (hb.mono HB2.out.size)); have ho := HO2.out.below hb HO2.out.lt; have o1 := ho.cell 1; have o2 := ho.cell 2; have HD3 := Lib.hid (HD2.out.below hb HD2.out.lt); clear hb ho)
    | (go_at_call 28; (with_reducible refine (hrecord_no (fun w => hstart_nil w) (by decide)).mono ?_); rintro e w4 ⟨rfl, hb⟩; have HB4 := Lib.hid (HB3.out.trans (hb.mono HB3.out.size)); have HD4 := Lib.hid (HD3.out.below hb HD3.out.lt); clear hb)
    | (go_at_call 29; (with_reducible refine hshow_nil.mono ?_); rintro e w5 ⟨rfl, hb⟩; have HB5 := Lib.hid (HB4.out.trans (hb.mono HB4.out.size)); have HD5 := Lib.hid (HD4.out.below hb HD4.out.lt); clear hb)
    | (go_at_call 19; (with_reducible refine (same_nil _).mono ?_); rintro e w6 ⟨rfl, hb⟩; have HB6 := Lib.hid (HB5.out.trans (hb.mono HB5.out.size)); have hd := HD5.out.below hb HD5.out.lt; have HS6 := Lib.hid (same_nil w6); obtain ⟨d0, d1, d2, d3, d4⟩ := hd.five; have HD6 := Lib.hid hd; clear hb hd)
    | (go_at_call 22; (with_reducible refine hall_nil.mono ?_); rintro e wx ⟨rfl, rfl⟩)
    | (go_at_call 18; (with_reducible refine hdone_nil.mono ?_); rintro e wx ⟨rfl, rfl⟩)
    | (go_at_call 20; (with_reducible refine hanswer_nil.mono ?_); rintro e w7 ⟨rfl, hb⟩; have HB7 := Lib.hid (HB6.out.trans (hb.mono HB6.out.size)); clear hb)
    | (go_at_call 19; (with_reducible refine (same_nil _).mono ?_); rintro e w8 ⟨rfl, hb⟩; have HB8 := Lib.hid (HB7.out.trans (hb.mono HB7.out.size)); clear hb))
  go_ret
  exact ⟨rfl, HB8.out⟩
end Go.Proofs.Ytiifhkfkcljoiaa
