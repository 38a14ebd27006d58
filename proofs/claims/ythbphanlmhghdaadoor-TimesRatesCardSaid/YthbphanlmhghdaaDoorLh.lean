/- THE WALK of the law 'TimesRates'. -/
import Derived.Test.YthbphanlmhghdaaDoorLb
import Derived.Test.YthbphanlmhghdaaDoorWu
namespace Go.Proofs.YthbphanlmhghdaaDoor
open Go.RowKit

theorem four_alloc {w w1 : World} {a b c d : Value} {o : Obj} (h : Four w a b c d w1) : Four w a b c d (w1.alloc o) := four_call h ((Below.refl _ _).alloc (Nat.le_refl _) _)
theorem parseRate_out4 (s : ByteArray) (w : World) (hE : Env w) (hs : s.size ≤ 9223372036854775000) : Calls Tryd.prog 24 #[.string s] w fun e w' =>
    e = .returned (.tuple #[.agg #[.int .i64 (TM.parseRate s.data.toList).1.1, .int .i64 (TM.parseRate s.data.toList).1.2], .int .i64 (TM.parseRate s.data.toList).2.1, .int .i64 (TM.parseRate s.data.toList).2.2]) ∧ Below w.heap.size w w' := parseRate_any s w hE hs
theorem refParseRate_val (s : ByteArray) (w : World) (hs : s.size ≤ 9223372036854775000) : Calls Tryd.prog 25 #[.string s] w fun e w' =>
    e = .returned (.tuple #[.agg #[.int .i64 (TM.parseRate s.data.toList).1.1, .int .i64 (TM.parseRate s.data.toList).1.2], .int .i64 (TM.parseRate s.data.toList).2.1, .int .i64 (TM.parseRate s.data.toList).2.2]) ∧ Below w.heap.size w w' := refParseRate_any s w hs

set_option maxRecDepth 100000 in
set_option maxHeartbeats 2000000 in
theorem rates_any (N P M Q : Int) (s : ByteArray) (w : World) (hE0 : Env w) (hs : s.size ≤ 9223372036854775000) :
    Calls Tryd.prog 4 #[.agg #[.int .i64 N, .int .i64 P], .agg #[.int .i64 M, .int .i64 Q], .string s] w fun e w' => e = .returned (.bool true) ∧ Below w.heap.size w w' := by
  have hE := Lib.hid hE0
  have HSz := Lib.hid hs
  obtain ⟨a, b, g, i, hq⟩ : ∃ a b g i, TM.parseRate s.data.toList = ((a, b), g, i) := ⟨_, _, _, _, rfl⟩
  have HQ := Lib.hid hq
  obtain ⟨L1, hL1⟩ : ∃ x, lowN N P = x := ⟨_, rfl⟩
  obtain ⟨L2, hL2⟩ : ∃ x, lowP N P = x := ⟨_, rfl⟩
  have HL1 := Lib.hid hL1
  have HL2 := Lib.hid hL2
  have F2 := four_start w (.int .i64 N) (.int .i64 P) (.int .i64 M) (.int .i64 Q) 29
  clear hE0 hs hq hL1 hL2
  unfold Four at F2
  go_enter Tryd.func4, Tryd.ntmps4
  go_wp2
  go_region_held3 (fun w' => (w'.cell? ⟨w.heap.size, 0, none⟩ = some (.int .i64 N) ∧ w'.cell? ⟨w.heap.size, 1, none⟩ = some (.int .i64 P) ∧ w'.cell? ⟨w.heap.size + 1, 0, none⟩ = some (.int .i64 M) ∧ w'.cell? ⟨w.heap.size + 1, 1, none⟩ = some (.int .i64 Q)) ∧ Below w.heap.size w w' ∧ w.heap.size + 2 ≤ w'.heap.size) (first | assumption | exact four_drew ‹_› | exact four_call ‹_› ‹_›)
    (first
      | (go_at_call 16; refine (checkRate_any _ _ _).mono ?_; rintro e w' ⟨rfl, hb⟩)
      | (go_at_call 17; refine (refCheckRate_any _ _ _).mono ?_; rintro e w' ⟨rfl, hb⟩))
  all_goals
    have HF := Lib.hid (show Four w (.int .i64 N) (.int .i64 P) (.int .i64 M) (.int .i64 Q) _ from ‹_›)
    obtain ⟨⟨c00, c01, c10, c11⟩, _, _⟩ := HF.out
    go_wp2_with (first
      | (go_at_call 18; (with_reducible refine (lowest_any _ _ _).mono ?_); rw [HL1.out, HL2.out]; rintro e wl ⟨rfl, hb⟩; replace HF := Lib.hid (four_call HF.out hb); clear hb; obtain ⟨⟨c00, c01, c10, c11⟩, _, hsz⟩ := HF.out; have hz0 : w.heap.size < wl.heap.size := (by omega); have hz1 : w.heap.size + 1 < wl.heap.size := (by omega); clear hsz)
      | (go_at_call 19; (with_reducible refine (refLowest_any _ _ _).mono ?_); rw [HL1.out, HL2.out]; rintro e wm ⟨rfl, hb⟩; have ll : wl.heap.size < wm.heap.size := Nat.lt_of_lt_of_le (by simp [go_sem]) hb.size; have l0 : wm.cell? ⟨wl.heap.size, 0, none⟩ = some (.int .i64 L1) := (hb.cell (p := ⟨wl.heap.size, 0, none⟩) (by simp [go_sem])).trans (by simp [go_sem]); have l1 : wm.cell? ⟨wl.heap.size, 1, none⟩ = some (.int .i64 L2) := (hb.cell (p := ⟨wl.heap.size, 1, none⟩) (by simp [go_sem])).trans (by simp [go_sem]); replace HF := Lib.hid (four_call (four_alloc HF.out) hb); clear hb; obtain ⟨⟨c00, c01, c10, c11⟩, _, hsz⟩ := HF.out; have hz0 : w.heap.size < wm.heap.size := (by omega); have hz1 : w.heap.size + 1 < wm.heap.size := (by omega); clear hsz)
      | (go_at_call 20; (with_reducible refine (compare_any _ _ _ _ _).mono ?_); rintro e wn ⟨rfl, hb⟩; replace HF := Lib.hid (four_call (four_alloc HF.out) hb); clear hb; obtain ⟨⟨c00, c01, c10, c11⟩, _, hsz⟩ := HF.out; have hz0 : w.heap.size < wn.heap.size := (by omega); have hz1 : w.heap.size + 1 < wn.heap.size := (by omega); clear hsz)
      | (go_at_call 21; (with_reducible refine (refCompare_any _ _ _ _ _).mono ?_); rintro e wn ⟨rfl, hb⟩; replace HF := Lib.hid (four_call HF.out hb); clear hb; obtain ⟨⟨c00, c01, c10, c11⟩, _, hsz⟩ := HF.out; have hz0 : w.heap.size < wn.heap.size := (by omega); have hz1 : w.heap.size + 1 < wn.heap.size := (by omega); clear hsz)
      | (go_at_call 22; (with_reducible refine (printRate_any _ _ _ (hE.out.on (four_below HF.out))).mono ?_); rintro e wn ⟨rfl, hb⟩; replace HF := Lib.hid (four_call HF.out hb); clear hb; obtain ⟨⟨c00, c01, c10, c11⟩, _, hsz⟩ := HF.out; have hz0 : w.heap.size < wn.heap.size := (by omega); have hz1 : w.heap.size + 1 < wn.heap.size := (by omega); clear hsz)
      | (go_at_call 23; (with_reducible refine (refPrintRate_any _ _ _).mono ?_); rintro e wn ⟨rfl, hb⟩; replace HF := Lib.hid (four_call HF.out hb); clear hb; obtain ⟨⟨c00, c01, c10, c11⟩, _, hsz⟩ := HF.out; have hz0 : w.heap.size < wn.heap.size := (by omega); have hz1 : w.heap.size + 1 < wn.heap.size := (by omega); clear hsz)
      | (go_at_call 24; (with_reducible refine (parseRate_out4 s _ (hE.out.on (four_below HF.out)) HSz.out).mono ?_); rw [HQ.out]; rintro e wp ⟨rfl, hb⟩; replace HF := Lib.hid (four_call HF.out hb); clear hb; obtain ⟨⟨c00, c01, c10, c11⟩, _, hsz⟩ := HF.out; have hz0 : w.heap.size < wp.heap.size := (by omega); have hz1 : w.heap.size + 1 < wp.heap.size := (by omega); clear hsz)
      | (go_at_call 25; (with_reducible refine (refParseRate_val s _ HSz.out).mono ?_); rw [HQ.out]; rintro e wr ⟨rfl, hb⟩; have rl : wp.heap.size < wr.heap.size := Nat.lt_of_lt_of_le (by simp [go_sem]) hb.size; have r0 : wr.cell? ⟨wp.heap.size, 0, none⟩ = some (.int .i64 a) := (hb.cell (p := ⟨wp.heap.size, 0, none⟩) (by simp [go_sem])).trans (by simp [go_sem]); have r1 : wr.cell? ⟨wp.heap.size, 1, none⟩ = some (.int .i64 b) := (hb.cell (p := ⟨wp.heap.size, 1, none⟩) (by simp [go_sem])).trans (by simp [go_sem]); replace HF := Lib.hid (four_call (four_alloc HF.out) hb); clear hb; obtain ⟨⟨c00, c01, c10, c11⟩, _, hsz⟩ := HF.out; have hz0 : w.heap.size < wr.heap.size := (by omega); have hz1 : w.heap.size + 1 < wr.heap.size := (by omega); clear hsz)
      | (go_at_call 26; (with_reducible refine (begins_any _ (hE.out.on (four_below (four_alloc HF.out)))).mono ?_); rintro e wz ⟨rfl, hb⟩; replace HF := Lib.hid (four_call (four_alloc HF.out) hb); clear hb; obtain ⟨⟨c00, c01, c10, c11⟩, _, hsz⟩ := HF.out; have hz0 : w.heap.size < wz.heap.size := (by omega); have hz1 : w.heap.size + 1 < wz.heap.size := (by omega); clear hsz))
    refine bodyPost_ret (v := .bool true) (by simp [results, Tryd.results4, go_sem]) rfl ⟨rfl, four_below HF.out⟩
end Go.Proofs.YthbphanlmhghdaaDoor
